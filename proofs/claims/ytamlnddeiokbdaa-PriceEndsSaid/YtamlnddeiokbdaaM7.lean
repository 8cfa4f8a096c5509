/- Truths that push a price, made of a book. -/
import Derived.Test.YtamlnddeiokbdaaM4
import Derived.Test.YtamlnddeiokbdaaM6
import Derived.Test.YtamlnddeiokbdaaCodes
import Derived.Test.YtamlnddeiokbdaaM3
import Derived.Test.YtamlnddeiokbdaaM1
import Derived.Test.YtamlnddeiokbdaaM2
import Derived.Test.YtamlnddeiokbdaaWalkAll
set_option linter.unusedSimpArgs false
set_option maxHeartbeats 16000000
set_option linter.unusedVariables false
set_option maxRecDepth 10000
namespace Go.Proofs.Ytamlnddeiokbdaa.walk
open Go.Abs Go.Proofs.Ytamlnddeiokbdaa.code
theorem spn_ok (N:Nat) (hN:1≤N) (x y:Int) (s:St) (hs:s.n+100≤far):call Try.prog X N (.fn 23) [.int .i64 x,.int .i64 y] s=.val (.agg [.int .i64 x,.int .i64 y]) s:=by
 obtain ⟨n,rfl⟩:∃ n,N=n+1:=⟨N - 1,by omega⟩
 have hf:far=1000000000:=rfl
 have sh2:shapeT Try.prog 38=some (some 2):=by kernel_rfl
 refine call_plain' Try.func23 (fun u uh un um=>?_) rfl
 rw [enter23]
 simp (disch:=first|omega|(with_unfolding_all exact rfl)|(simp only[new_n,put_n,new_m];omega)|(refine put_m_le ?_;simp only[new_m];omega)) only [res23,K23r0,K23r1,K23,Abs.W,reduceIte,Nat.reduceEqDiff,Nat.reduceAdd,decide_true,decide_false,kLoop_def,Nat.reduceSub,List.cons_append,List.nil_append,List.append_nil,List.length_cons,List.length_nil,Env.find_set,Nat.zero_add]
 refine ⟨_,leave_cell _ _ _ _ sh2 ?_,?_⟩
 ·simp only [find_cons,reduceIte,Nat.reduceEqDiff]
  rw [load_ptr,get_put_eq _ _ _ _ rfl (by omega),loadO_cells,partS_some]
  rfl
 ·simp only [St.put,minN_eq,new_m];omega
theorem one_ok (N:Nat) (hN:2≤N) (x:Int) (s:St) (hs:s.n+200≤far):call Try.prog X N (.fn 21) [.int .i64 x] s=.val (.agg [.int .i64 x,.int .i64 x]) s:=by
 obtain ⟨n,rfl⟩:∃ n,N=n+1:=⟨N - 1,by omega⟩
 have hf:far=1000000000:=rfl
 have sh2:shapeT Try.prog 38=some (some 2):=by kernel_rfl
 refine call_plain' Try.func21 (fun u uh un um=>?_) rfl
 rw [enter21]
 simp (disch:=first|omega|(with_unfolding_all exact rfl)|(simp only[new_n,put_n,new_m];omega)|(refine put_m_le ?_;simp only[new_m];omega)) only [res21,K21r0,K21r1,K21,Abs.W,reduceIte,Nat.reduceEqDiff,Nat.reduceAdd,decide_true,decide_false,kLoop_def,Nat.reduceSub,List.cons_append,List.nil_append,List.append_nil,List.length_cons,List.length_nil,Env.find_set,spn_ok,Nat.zero_add]
 refine ⟨_,leave_cell _ _ _ _ sh2 ?_,?_⟩
 ·simp only [find_cons,reduceIte,Nat.reduceEqDiff]
  rw [load_ptr,get_put_eq _ _ _ _ rfl (by omega),loadO_cells,partS_some]
  rfl
 ·simp only [St.put,minN_eq,new_m];omega
structure PusJ (u t:St) (S:List Sale) (hi:Bool) (p:Int) (v:AV) (bl kk:Nat):Prop where
 is:IsAt t.h t.n bl 2 (tag 64) (truthRows (pushZ hi p S)) v
 lo:u.n≤bl
 same:∀ c,c<u.n→t.h.get c=u.h.get c
 n:u.n≤t.n
 le:t.n≤u.n+kk
 m:u.n≤t.m
theorem push_round (cl:CallF) (cx:Ctx) (hi:Bool) {p3 bl kk i:Nat} {ks kg vb v:AV} {p:Int} {S:List Sale} {u t:St} {L:Env} (J:PusJ u t (S.take i) hi p v bl kk) (hB:RowsAt u.h u.n 6 (S.map Sale.cells) vb)
  (g3:u.h.get p3=some (.cells [ks,kg,vb] (tag 27))) (n3:p3<u.n) (hl:S.length≤40) (hs:u.n+kk+2000≤far) (hum:u.n≤far) (htm:t.m≤far) (hi':i<S.length)
  (q1:L.find 1=.int .i64 p) (q2:L.find 2=.bool (!hi)) (q3:L.find 3=.ptr p3 0) (q7:L.find 7=v) (q8:L.find 8=.int .i64 i) :
  ∃ L1 t1 v1 bl1,K22l0 cl cx L [] t=.done .norm L1 [] t1∧PusJ u t1 (S.take (i+1)) hi p v1 bl1 (kk+6)∧L1.find 1=.int .i64 p∧L1.find 2=.bool (!hi)∧L1.find 3=.ptr p3 0∧L1.find 7=v1∧L1.find 8=.int .i64 (i+1:Nat)∧t1.m≤far:=by
 have hf:far=1000000000:=rfl
 obtain ⟨ji,jlo,js,jn,jle,jm⟩:=J
 have e0:decide ((i:Int)<(S.length:Int))=true:=decide_eq_true (by omega)
 have kv:∀ t,okA (.val v t)=.val v t:=ji.okA
 have kb:∀ t,okA (.val vb t)=.val vb t:=fun t=>okA_ne hB.ne
 have lb:=hB.len
 rw [List.length_map] at lb
 obtain ⟨Z,hZ⟩:∃ Z,Z=pushZ hi p (S.take i):=⟨_,rfl⟩
 rw [← hZ] at ji
 have zl:Z.length=i:=by rw [hZ];unfold pushZ;rw [List.length_map,List.length_take];omega
 obtain ⟨x0,o0,cs,sz,r1,r2,r3,r4⟩:=hB.at_ i (by simpa using hi')
 rw [List.getElem_map] at r4
 have hst:S.take (i+1)=S.take i++[S[i]]:=List.take_succ_eq_append_getElem hi'
 generalize S[i]=M at *
 have hZ':pushZ hi p (S.take i++[M])=Z++[pushOf hi p M]:=by rw [hZ];unfold pushZ;rw [List.map_append];rfl
 unfold Sale.cells at r4
 have t3:=(js p3 n3).trans g3
 have tx:=(js x0 r1).trans r3
 have ad:∀ s,aAdd s .i64 (i:Int) 1=.val (.int .i64 ((i:Int)+1)) s:=fun s=>aAdd_i64 s _ _ (by omega)
 obtain ⟨x,hx⟩:∃ x:St,x=(t.new (.cells [.int .i64 0,.int .i64 0,.int .i64 0,.int .i64 0,.int .i64 0,.int .i64 0] (tag 51))).put t.n (.cells [.int .i64 M.st,.int .i64 M.gd,.int .i64 M.gl,.int .i64 M.gh,.int .i64 M.cl,.int .i64 M.ch] (tag 51)):=⟨_,rfl⟩
 have xn:x.n=t.n+1:=by rw [hx];rfl
 have xm:x.m=min t.m t.n:=by rw [hx];simp only [St.put,minN_eq,new_m]
 have xg:∀ c,c<t.n→x.h.get c=t.h.get c:=fun c hc=>by rw [hx,get_put_ne' _ _ _ _ (by omega),get_new_ne _ _ _ (by omega)]
 have xc:x.h.get t.n=some (.cells [.int .i64 M.st,.int .i64 M.gd,.int .i64 M.gl,.int .i64 M.gh,.int .i64 M.cl,.int .i64 M.ch] (tag 51)):=by rw [hx];exact get_put_eq _ _ _ _ rfl (by omega)
 simp (disch:=first|omega|(with_unfolding_all exact rfl)|(simp only[new_n,put_n,new_m];omega)|(refine put_m_le ?_;simp only[new_m];omega)) only [K22l0,K22r3,K22r4,Abs.W,reduceIte,Nat.reduceEqDiff,Nat.reduceAdd,decide_true,decide_false,kLoop_def,Nat.reduceSub,List.cons_append,List.nil_append,List.append_nil,List.length_cons,List.length_nil,Env.find_set,q1,q2,q3,q7,q8,kb,lb,e0,t3,tx,r2,r4,Nat.zero_add]
 rw [← hx]
 clear hx
 have u8s3:=fun cl L s=>congrFun (congrFun (congrFun K22r8s3.eq_1 cl) L) s
 have u8s4:=fun cl L s=>congrFun (congrFun (congrFun K22r8s4.eq_1 cl) L) s
 have u8s5:=fun cl L s=>congrFun (congrFun (congrFun K22r8s5.eq_1 cl) L) s
 have u8s6:=fun cl L s=>congrFun (congrFun (congrFun K22r8s6.eq_1 cl) L) s
 have u8s9:=fun cl L s=>congrFun (congrFun (congrFun K22r8s9.eq_1 cl) L) s
 have u8s10:=fun cl L s=>congrFun (congrFun (congrFun K22r8s10.eq_1 cl) L) s
 have u8s11:=fun cl L s=>congrFun (congrFun (congrFun K22r8s11.eq_1 cl) L) s
 have u8s12:=fun cl L s=>congrFun (congrFun (congrFun K22r8s12.eq_1 cl) L) s
 have u8s13:=fun cl L s=>congrFun (congrFun (congrFun K22r8s13.eq_1 cl) L) s
 have u8s14:=fun cl L s=>congrFun (congrFun (congrFun K22r8s14.eq_1 cl) L) s
 have u8s15:=fun cl L s=>congrFun (congrFun (congrFun K22r8s15.eq_1 cl) L) s
 have u8s16:=fun cl L s=>congrFun (congrFun (congrFun K22r8s16.eq_1 cl) L) s
 cases hi with
 | false =>
  by_cases hp:M.cl≤p
  ·have e1:decide (M.cl≤p)=true:=decide_eq_true hp
   have hpo:((pushOf false p M).2.1,(pushOf false p M).2.2)=(M.gh,M.cl):=by unfold pushOf pushG;simp only [spanAt,if_pos hp]
   obtain ⟨hpo1,hpo2⟩:=Prod.mk.inj hpo
   simp (config:={ maxSteps:=3000000 }) (disch:=first|omega|(with_unfolding_all exact rfl)|(simp only[new_n,put_n,new_m];omega)|(refine put_m_le ?_;simp only[new_m];omega)) only [K22r5,K22r6,K22r7,K22r8,K22r9,u8s3,u8s4,u8s5,u8s6,u8s9,u8s10,u8s11,u8s12,u8s13,u8s14,u8s15,u8s16,Abs.W,reduceIte,Nat.reduceEqDiff,Nat.reduceAdd,decide_true,decide_false,kLoop_def,Nat.reduceSub,List.cons_append,List.nil_append,List.append_nil,List.length_cons,List.length_nil,Env.find_set,q1,q2,xc,e1,Bool.not_false,Nat.zero_add]
   obtain ⟨y',hy'⟩:∃ y':St,y'=(((x.new (.cells [.int .i64 0,.int .i64 0] (tag 64))).put x.n (.cells [.int .i64 M.gl,.int .i64 M.ch] (tag 64))).put x.n (.cells [.int .i64 M.gl,.int .i64 M.cl] (tag 64))).put x.n (.cells [.int .i64 M.gh,.int .i64 M.cl] (tag 64)):=⟨_,rfl⟩
   have yn':y'.n=x.n+1:=by rw [hy'];rfl
   have ym':y'.m≤x.m:=by rw [hy'];simp only [St.put,minN_eq,new_m];omega
   have ym2:min (min t.m t.n) x.n≤y'.m:=by rw [hy'];simp only [St.put,minN_eq,new_m];omega
   have yg':∀ c,c<x.n→y'.h.get c=x.h.get c:=fun c hc=>by rw [hy'];simp (disch:=first|omega|(with_unfolding_all exact rfl)|(simp only[new_n,put_n,new_m];omega)|(refine put_m_le ?_;simp only[new_m];omega)) only [get_put_ne',get_new_ne]
   have yc':y'.h.get x.n=some (.cells [.int .i64 M.gh,.int .i64 M.cl] (tag 64)):=by rw [hy'];exact get_put_eq _ _ _ _ rfl (by first | omega | (simp only [put_n,new_n];omega))
   rw [← hy']
   clear hy'
   obtain ⟨y2,hy2⟩:∃ y2:St,y2=y'.new (.cells [.int .i64 M.gh,.int .i64 M.cl] 0):=⟨_,rfl⟩
   have y2n:y2.n=y'.n+1:=by rw [hy2];rfl
   have y2m:y2.m=y'.m:=by rw [hy2];rfl
   have y2g:∀ c,c<y'.n→y2.h.get c=y'.h.get c:=fun c hc=>by rw [hy2,get_new_ne _ _ _ (by omega)]
   have y2p:y2.h.get y'.n=some (.cells [.int .i64 M.gh,.int .i64 M.cl] 0):=by rw [hy2];exact get_new_eq _ _ _ rfl (by omega)
   obtain ⟨s7,e7,l7,s7n,s7g,s7m,s7l⟩:=append_at (bytes:=16) (ji.mono (h':=y2.h) (n':=y2.n) (fun h=>(y2g bl (by omega)).trans ((yg' bl (by omega)).trans (xg bl (by omega)))) (by omega)) y2p rfl rfl (by rw [truthRows_len];omega) (by kernel_rfl) (by omega)
   rw [truthRows_len] at e7 l7
   obtain ⟨v7,hv7⟩:∃ v7,v7=AV.slice y2.n 0 (Z.length+1) (Z.length+1) true:=⟨_,rfl⟩
   rw [← hv7] at e7 l7
   have kv7:∀ t,okA (.val v7 t)=.val v7 t:=fun t=>by rw [hv7];rfl
   simp (disch:=first|omega|(with_unfolding_all exact rfl)|(simp only[new_n,put_n,new_m];omega)|(refine put_m_le ?_;simp only[new_m];omega)) only [K22r10,K22r11,Abs.W,reduceIte,Nat.reduceEqDiff,Nat.reduceAdd,decide_true,decide_false,kLoop_def,Nat.reduceSub,List.cons_append,List.nil_append,List.append_nil,List.length_cons,List.length_nil,Env.find_set,q7,q8,kv,yc',← hy2,e7,kv7,ad,Nat.zero_add]
   have hrow:truthRows (Z++[pushOf false p M])=truthRows Z++[[.int .i64 M.gh,.int .i64 M.cl]]:=by rw [truthRows_snoc,hpo1,hpo2]
   refine ⟨_,_,v7,y2.n,rfl,⟨by rw [hst,hZ'];rw [hrow];exact l7,by omega,fun c hc=>?_,by omega,by omega,?_⟩,?_,?_,?_,?_,?_,?_⟩
   ·rw [s7g c (by omega) (by omega),y2g c (by omega),yg' c (by omega),xg c (by omega)];exact js c hc
   ·exact s7m _ (by omega) (by omega) (by omega)
   ·simp only [Env.find_set,q1,reduceIte,Nat.reduceEqDiff]
   ·simp only [Env.find_set,q2,reduceIte,Nat.reduceEqDiff]<;>rfl
   ·simp only [Env.find_set,q3,reduceIte,Nat.reduceEqDiff]
   ·simp only [Env.find_set,reduceIte,Nat.reduceEqDiff]
   ·simp only [Env.find_set,reduceIte,Nat.reduceEqDiff];rfl
   ·omega
  ·have e1:decide (M.cl≤p)=false:=decide_eq_false hp
   have hpo:((pushOf false p M).2.1,(pushOf false p M).2.2)=(M.gl,M.cl):=by unfold pushOf pushG;simp only [spanAt,if_neg hp]
   obtain ⟨hpo1,hpo2⟩:=Prod.mk.inj hpo
   simp (config:={ maxSteps:=3000000 }) (disch:=first|omega|(with_unfolding_all exact rfl)|(simp only[new_n,put_n,new_m];omega)|(refine put_m_le ?_;simp only[new_m];omega)) only [K22r5,K22r6,K22r7,K22r8,u8s3,u8s4,u8s5,u8s6,u8s9,u8s10,u8s11,u8s12,u8s13,u8s14,u8s15,u8s16,Abs.W,reduceIte,Nat.reduceEqDiff,Nat.reduceAdd,decide_true,decide_false,kLoop_def,Nat.reduceSub,List.cons_append,List.nil_append,List.append_nil,List.length_cons,List.length_nil,Env.find_set,q1,q2,xc,e1,Bool.not_false,Nat.zero_add]
   obtain ⟨y',hy'⟩:∃ y':St,y'=((x.new (.cells [.int .i64 0,.int .i64 0] (tag 64))).put x.n (.cells [.int .i64 M.gl,.int .i64 M.ch] (tag 64))).put x.n (.cells [.int .i64 M.gl,.int .i64 M.cl] (tag 64)):=⟨_,rfl⟩
   have yn':y'.n=x.n+1:=by rw [hy'];rfl
   have ym':y'.m≤x.m:=by rw [hy'];simp only [St.put,minN_eq,new_m];omega
   have ym2:min (min t.m t.n) x.n≤y'.m:=by rw [hy'];simp only [St.put,minN_eq,new_m];omega
   have yg':∀ c,c<x.n→y'.h.get c=x.h.get c:=fun c hc=>by rw [hy'];simp (disch:=first|omega|(with_unfolding_all exact rfl)|(simp only[new_n,put_n,new_m];omega)|(refine put_m_le ?_;simp only[new_m];omega)) only [get_put_ne',get_new_ne]
   have yc':y'.h.get x.n=some (.cells [.int .i64 M.gl,.int .i64 M.cl] (tag 64)):=by rw [hy'];exact get_put_eq _ _ _ _ rfl (by first | omega | (simp only [put_n,new_n];omega))
   rw [← hy']
   clear hy'
   obtain ⟨y2,hy2⟩:∃ y2:St,y2=y'.new (.cells [.int .i64 M.gl,.int .i64 M.cl] 0):=⟨_,rfl⟩
   have y2n:y2.n=y'.n+1:=by rw [hy2];rfl
   have y2m:y2.m=y'.m:=by rw [hy2];rfl
   have y2g:∀ c,c<y'.n→y2.h.get c=y'.h.get c:=fun c hc=>by rw [hy2,get_new_ne _ _ _ (by omega)]
   have y2p:y2.h.get y'.n=some (.cells [.int .i64 M.gl,.int .i64 M.cl] 0):=by rw [hy2];exact get_new_eq _ _ _ rfl (by omega)
   obtain ⟨s7,e7,l7,s7n,s7g,s7m,s7l⟩:=append_at (bytes:=16) (ji.mono (h':=y2.h) (n':=y2.n) (fun h=>(y2g bl (by omega)).trans ((yg' bl (by omega)).trans (xg bl (by omega)))) (by omega)) y2p rfl rfl (by rw [truthRows_len];omega) (by kernel_rfl) (by omega)
   rw [truthRows_len] at e7 l7
   obtain ⟨v7,hv7⟩:∃ v7,v7=AV.slice y2.n 0 (Z.length+1) (Z.length+1) true:=⟨_,rfl⟩
   rw [← hv7] at e7 l7
   have kv7:∀ t,okA (.val v7 t)=.val v7 t:=fun t=>by rw [hv7];rfl
   simp (disch:=first|omega|(with_unfolding_all exact rfl)|(simp only[new_n,put_n,new_m];omega)|(refine put_m_le ?_;simp only[new_m];omega)) only [K22r10,K22r11,Abs.W,reduceIte,Nat.reduceEqDiff,Nat.reduceAdd,decide_true,decide_false,kLoop_def,Nat.reduceSub,List.cons_append,List.nil_append,List.append_nil,List.length_cons,List.length_nil,Env.find_set,q7,q8,kv,yc',← hy2,e7,kv7,ad,Nat.zero_add]
   have hrow:truthRows (Z++[pushOf false p M])=truthRows Z++[[.int .i64 M.gl,.int .i64 M.cl]]:=by rw [truthRows_snoc,hpo1,hpo2]
   refine ⟨_,_,v7,y2.n,rfl,⟨by rw [hst,hZ'];rw [hrow];exact l7,by omega,fun c hc=>?_,by omega,by omega,?_⟩,?_,?_,?_,?_,?_,?_⟩
   ·rw [s7g c (by omega) (by omega),y2g c (by omega),yg' c (by omega),xg c (by omega)];exact js c hc
   ·exact s7m _ (by omega) (by omega) (by omega)
   ·simp only [Env.find_set,q1,reduceIte,Nat.reduceEqDiff]
   ·simp only [Env.find_set,q2,reduceIte,Nat.reduceEqDiff]<;>rfl
   ·simp only [Env.find_set,q3,reduceIte,Nat.reduceEqDiff]
   ·simp only [Env.find_set,reduceIte,Nat.reduceEqDiff]
   ·simp only [Env.find_set,reduceIte,Nat.reduceEqDiff];rfl
   ·omega
 | true =>
  by_cases hp:p≤M.ch
  ·have e1:decide (p≤M.ch)=true:=decide_eq_true hp
   have hpo:((pushOf true p M).2.1,(pushOf true p M).2.2)=(M.gh,M.ch):=by unfold pushOf pushG;simp only [spanAt,if_pos hp]
   obtain ⟨hpo1,hpo2⟩:=Prod.mk.inj hpo
   simp (config:={ maxSteps:=3000000 }) (disch:=first|omega|(with_unfolding_all exact rfl)|(simp only[new_n,put_n,new_m];omega)|(refine put_m_le ?_;simp only[new_m];omega)) only [K22r5,K22r6,K22r8,K22r9,u8s3,u8s4,u8s5,u8s6,u8s9,u8s10,u8s11,u8s12,u8s13,u8s14,u8s15,u8s16,Abs.W,reduceIte,Nat.reduceEqDiff,Nat.reduceAdd,decide_true,decide_false,kLoop_def,Nat.reduceSub,List.cons_append,List.nil_append,List.append_nil,List.length_cons,List.length_nil,Env.find_set,q1,q2,xc,e1,Bool.not_true,Nat.zero_add]
   obtain ⟨y',hy'⟩:∃ y':St,y'=((x.new (.cells [.int .i64 0,.int .i64 0] (tag 64))).put x.n (.cells [.int .i64 M.gl,.int .i64 M.ch] (tag 64))).put x.n (.cells [.int .i64 M.gh,.int .i64 M.ch] (tag 64)):=⟨_,rfl⟩
   have yn':y'.n=x.n+1:=by rw [hy'];rfl
   have ym':y'.m≤x.m:=by rw [hy'];simp only [St.put,minN_eq,new_m];omega
   have ym2:min (min t.m t.n) x.n≤y'.m:=by rw [hy'];simp only [St.put,minN_eq,new_m];omega
   have yg':∀ c,c<x.n→y'.h.get c=x.h.get c:=fun c hc=>by rw [hy'];simp (disch:=first|omega|(with_unfolding_all exact rfl)|(simp only[new_n,put_n,new_m];omega)|(refine put_m_le ?_;simp only[new_m];omega)) only [get_put_ne',get_new_ne]
   have yc':y'.h.get x.n=some (.cells [.int .i64 M.gh,.int .i64 M.ch] (tag 64)):=by rw [hy'];exact get_put_eq _ _ _ _ rfl (by first | omega | (simp only [put_n,new_n];omega))
   rw [← hy']
   clear hy'
   obtain ⟨y2,hy2⟩:∃ y2:St,y2=y'.new (.cells [.int .i64 M.gh,.int .i64 M.ch] 0):=⟨_,rfl⟩
   have y2n:y2.n=y'.n+1:=by rw [hy2];rfl
   have y2m:y2.m=y'.m:=by rw [hy2];rfl
   have y2g:∀ c,c<y'.n→y2.h.get c=y'.h.get c:=fun c hc=>by rw [hy2,get_new_ne _ _ _ (by omega)]
   have y2p:y2.h.get y'.n=some (.cells [.int .i64 M.gh,.int .i64 M.ch] 0):=by rw [hy2];exact get_new_eq _ _ _ rfl (by omega)
   obtain ⟨s7,e7,l7,s7n,s7g,s7m,s7l⟩:=append_at (bytes:=16) (ji.mono (h':=y2.h) (n':=y2.n) (fun h=>(y2g bl (by omega)).trans ((yg' bl (by omega)).trans (xg bl (by omega)))) (by omega)) y2p rfl rfl (by rw [truthRows_len];omega) (by kernel_rfl) (by omega)
   rw [truthRows_len] at e7 l7
   obtain ⟨v7,hv7⟩:∃ v7,v7=AV.slice y2.n 0 (Z.length+1) (Z.length+1) true:=⟨_,rfl⟩
   rw [← hv7] at e7 l7
   have kv7:∀ t,okA (.val v7 t)=.val v7 t:=fun t=>by rw [hv7];rfl
   simp (disch:=first|omega|(with_unfolding_all exact rfl)|(simp only[new_n,put_n,new_m];omega)|(refine put_m_le ?_;simp only[new_m];omega)) only [K22r10,K22r11,Abs.W,reduceIte,Nat.reduceEqDiff,Nat.reduceAdd,decide_true,decide_false,kLoop_def,Nat.reduceSub,List.cons_append,List.nil_append,List.append_nil,List.length_cons,List.length_nil,Env.find_set,q7,q8,kv,yc',← hy2,e7,kv7,ad,Nat.zero_add]
   have hrow:truthRows (Z++[pushOf true p M])=truthRows Z++[[.int .i64 M.gh,.int .i64 M.ch]]:=by rw [truthRows_snoc,hpo1,hpo2]
   refine ⟨_,_,v7,y2.n,rfl,⟨by rw [hst,hZ'];rw [hrow];exact l7,by omega,fun c hc=>?_,by omega,by omega,?_⟩,?_,?_,?_,?_,?_,?_⟩
   ·rw [s7g c (by omega) (by omega),y2g c (by omega),yg' c (by omega),xg c (by omega)];exact js c hc
   ·exact s7m _ (by omega) (by omega) (by omega)
   ·simp only [Env.find_set,q1,reduceIte,Nat.reduceEqDiff]
   ·simp only [Env.find_set,q2,reduceIte,Nat.reduceEqDiff]<;>rfl
   ·simp only [Env.find_set,q3,reduceIte,Nat.reduceEqDiff]
   ·simp only [Env.find_set,reduceIte,Nat.reduceEqDiff]
   ·simp only [Env.find_set,reduceIte,Nat.reduceEqDiff];rfl
   ·omega
  ·have e1:decide (p≤M.ch)=false:=decide_eq_false hp
   have hpo:((pushOf true p M).2.1,(pushOf true p M).2.2)=(M.gl,M.ch):=by unfold pushOf pushG;simp only [spanAt,if_neg hp]
   obtain ⟨hpo1,hpo2⟩:=Prod.mk.inj hpo
   simp (config:={ maxSteps:=3000000 }) (disch:=first|omega|(with_unfolding_all exact rfl)|(simp only[new_n,put_n,new_m];omega)|(refine put_m_le ?_;simp only[new_m];omega)) only [K22r5,K22r6,K22r8,u8s3,u8s4,u8s5,u8s6,u8s9,u8s10,u8s11,u8s12,u8s13,u8s14,u8s15,u8s16,Abs.W,reduceIte,Nat.reduceEqDiff,Nat.reduceAdd,decide_true,decide_false,kLoop_def,Nat.reduceSub,List.cons_append,List.nil_append,List.append_nil,List.length_cons,List.length_nil,Env.find_set,q1,q2,xc,e1,Bool.not_true,Nat.zero_add]
   obtain ⟨y',hy'⟩:∃ y':St,y'=(x.new (.cells [.int .i64 0,.int .i64 0] (tag 64))).put x.n (.cells [.int .i64 M.gl,.int .i64 M.ch] (tag 64)):=⟨_,rfl⟩
   have yn':y'.n=x.n+1:=by rw [hy'];rfl
   have ym':y'.m≤x.m:=by rw [hy'];simp only [St.put,minN_eq,new_m];omega
   have ym2:min (min t.m t.n) x.n≤y'.m:=by rw [hy'];simp only [St.put,minN_eq,new_m];omega
   have yg':∀ c,c<x.n→y'.h.get c=x.h.get c:=fun c hc=>by rw [hy'];simp (disch:=first|omega|(with_unfolding_all exact rfl)|(simp only[new_n,put_n,new_m];omega)|(refine put_m_le ?_;simp only[new_m];omega)) only [get_put_ne',get_new_ne]
   have yc':y'.h.get x.n=some (.cells [.int .i64 M.gl,.int .i64 M.ch] (tag 64)):=by rw [hy'];exact get_put_eq _ _ _ _ rfl (by first | omega | (simp only [put_n,new_n];omega))
   rw [← hy']
   clear hy'
   obtain ⟨y2,hy2⟩:∃ y2:St,y2=y'.new (.cells [.int .i64 M.gl,.int .i64 M.ch] 0):=⟨_,rfl⟩
   have y2n:y2.n=y'.n+1:=by rw [hy2];rfl
   have y2m:y2.m=y'.m:=by rw [hy2];rfl
   have y2g:∀ c,c<y'.n→y2.h.get c=y'.h.get c:=fun c hc=>by rw [hy2,get_new_ne _ _ _ (by omega)]
   have y2p:y2.h.get y'.n=some (.cells [.int .i64 M.gl,.int .i64 M.ch] 0):=by rw [hy2];exact get_new_eq _ _ _ rfl (by omega)
   obtain ⟨s7,e7,l7,s7n,s7g,s7m,s7l⟩:=append_at (bytes:=16) (ji.mono (h':=y2.h) (n':=y2.n) (fun h=>(y2g bl (by omega)).trans ((yg' bl (by omega)).trans (xg bl (by omega)))) (by omega)) y2p rfl rfl (by rw [truthRows_len];omega) (by kernel_rfl) (by omega)
   rw [truthRows_len] at e7 l7
   obtain ⟨v7,hv7⟩:∃ v7,v7=AV.slice y2.n 0 (Z.length+1) (Z.length+1) true:=⟨_,rfl⟩
   rw [← hv7] at e7 l7
   have kv7:∀ t,okA (.val v7 t)=.val v7 t:=fun t=>by rw [hv7];rfl
   simp (disch:=first|omega|(with_unfolding_all exact rfl)|(simp only[new_n,put_n,new_m];omega)|(refine put_m_le ?_;simp only[new_m];omega)) only [K22r10,K22r11,Abs.W,reduceIte,Nat.reduceEqDiff,Nat.reduceAdd,decide_true,decide_false,kLoop_def,Nat.reduceSub,List.cons_append,List.nil_append,List.append_nil,List.length_cons,List.length_nil,Env.find_set,q7,q8,kv,yc',← hy2,e7,kv7,ad,Nat.zero_add]
   have hrow:truthRows (Z++[pushOf true p M])=truthRows Z++[[.int .i64 M.gl,.int .i64 M.ch]]:=by rw [truthRows_snoc,hpo1,hpo2]
   refine ⟨_,_,v7,y2.n,rfl,⟨by rw [hst,hZ'];rw [hrow];exact l7,by omega,fun c hc=>?_,by omega,by omega,?_⟩,?_,?_,?_,?_,?_,?_⟩
   ·rw [s7g c (by omega) (by omega),y2g c (by omega),yg' c (by omega),xg c (by omega)];exact js c hc
   ·exact s7m _ (by omega) (by omega) (by omega)
   ·simp only [Env.find_set,q1,reduceIte,Nat.reduceEqDiff]
   ·simp only [Env.find_set,q2,reduceIte,Nat.reduceEqDiff]<;>rfl
   ·simp only [Env.find_set,q3,reduceIte,Nat.reduceEqDiff]
   ·simp only [Env.find_set,reduceIte,Nat.reduceEqDiff]
   ·simp only [Env.find_set,reduceIte,Nat.reduceEqDiff];rfl
   ·omega
theorem pushed_ex {N:Nat} {b:Book} {vb:AV} {p:Int} {s:St} {r:ARes} (hi:Bool) (hr:call Try.prog X N (.fn 22) [.agg (bookV b vb),.int .i64 p,.bool (!hi)] s=r) (hN:1≤N) (hl:b.sales.length≤40) (hB:RowsAt s.h s.n 6 (b.sales.map Sale.cells) vb) (hs:s.n+6000≤far) :
  ∃ (v:AV) (t:St),r=.val v t∧New s t 500∧RowsAt t.h t.n 2 (truthRows (pushZ hi p b.sales)) v:=by
 obtain ⟨m,rfl⟩:∃ m,N=m+1:=⟨N - 1,by omega⟩
 have hf:far=1000000000:=rfl
 obtain ⟨v,t,e,st,bl,hq⟩:=call_new' (n:=m) (args:=[.agg (bookV b vb),.int .i64 p,.bool (!hi)]) (s:=s) (k:=500) (Q:=fun w h m=>∃ bl,IsAt h m bl 2 (tag 64) (truthRows (pushZ hi p b.sales)) w) Try.func22 rfl (fun u uh un um=>by
  rw [← uh,← un] at hB
  rw [← un] at hs
  have sc:scalars (bookV b vb)=true:=by
   have hv:vb.scalar=true:=by
    have h:=hB.len u
    cases vb<;>first | rfl | cases h
   show scalars [vb]=true
   unfold scalars
   rw [hv]
   rfl
  obtain ⟨w,hw⟩:∃ w:St,w=u.new (.cells (bookV b vb) (tag 27)):=⟨_,rfl⟩
  have wn:w.n=u.n+1:=by rw [hw];rfl
  have wm:w.m=far:=by rw [hw];exact um
  have wg:∀ c,c<u.n→w.h.get c=u.h.get c:=fun c hc=>by rw [hw,get_new_ne _ _ _ (by omega)]
  have w0:w.h.get u.n=some (.cells (bookV b vb) (tag 27)):=by rw [hw];exact get_new_eq _ _ _ rfl (by omega)
  have hBw:=hB.grow wg (by omega:u.n≤w.n)
  have kb:∀ t,okA (.val vb t)=.val vb t:=fun t=>okA_ne hB.ne
  have lb:=hB.len
  rw [List.length_map] at lb
  rw [enter22]
  simp (disch:=first|omega|(with_unfolding_all exact rfl)|(simp only[new_n,put_n,new_m];omega)|(refine put_m_le ?_;simp only[new_m];omega)) only [K22,K22r0,Abs.W,reduceIte,Nat.reduceEqDiff,Nat.reduceAdd,decide_true,decide_false,kLoop_def,Nat.reduceSub,List.cons_append,List.nil_append,List.append_nil,List.length_cons,List.length_nil,Env.find_set,sc]
  rw [← hw]
  clear hw
  unfold bookV at w0
  simp (disch:=first|omega|(with_unfolding_all exact rfl)|(simp only[new_n,put_n,new_m];omega)|(refine put_m_le ?_;simp only[new_m];omega)) only [K22r1,K22r2,Abs.W,reduceIte,Nat.reduceEqDiff,Nat.reduceAdd,decide_true,decide_false,kLoop_def,Nat.reduceSub,List.cons_append,List.nil_append,List.append_nil,List.length_cons,List.length_nil,Env.find_set]
  generalize hlp:loopN _ rounds _ _ _ _ _=rl
  have hJ:PusJ w w (b.sales.take 0) hi p .nilslice w.n (6 * 0):=⟨IsAt.nil _ _ _ _ _,Nat.le_refl _,fun _ _=>rfl,Nat.le_refl _,Nat.le_refl _,by omega⟩
  obtain ⟨e,L1,t2,rfl,rfl,v,bl,J,f7,fm⟩:=loop_of hlp (fun j L' t'=>∃ v bl,PusJ w t' (b.sales.take j) hi p v bl (6 * j)∧L'.find 1=.int .i64 p∧L'.find 2=.bool (!hi)∧L'.find 3=.ptr u.n 0∧L'.find 7=v∧L'.find 8=.int .i64 j∧t'.m≤far)
   (fun e L' t'=>e=.exit 0∧∃ v bl,PusJ w t' b.sales hi p v bl (6 * b.sales.length)∧L'.find 7=v∧t'.m≤far) b.sales.length (by unfold rounds;omega)
   ⟨.nilslice,w.n,hJ,by simp only [find_cons,Env.find_set,reduceIte,Nat.reduceEqDiff],by simp only [find_cons,Env.find_set,reduceIte,Nat.reduceEqDiff],by simp only [find_cons,Env.find_set,reduceIte,Nat.reduceEqDiff],by simp only [find_cons,Env.find_set,reduceIte,Nat.reduceEqDiff],by simp only [find_cons,Env.find_set,reduceIte,Nat.reduceEqDiff];rfl,by omega⟩
   (fun j L' t' hj ⟨v,bl,hJ,q1,q2,q3,q7,q8,qm⟩=>by
    by_cases hlt':j<b.sales.length
    ·obtain ⟨L2,t2,v2,bl2,z1,z2,z3,z4,z5,z6,z7,z8⟩:=push_round (call Try.prog X m) ⟨22,none,Try.f22.ntmps,X 22⟩ hi hJ hBw w0 (by omega) hl (by omega) (by omega) qm hlt' q1 q2 q3 q7 q8
     exact .inl ⟨hlt',L2,t2,z1,v2,bl2,⟨z2.is,z2.lo,z2.same,z2.n,by have:=z2.le;omega,z2.m⟩,z3,z4,z5,z6,z7,z8⟩
    ·obtain rfl:j=b.sales.length:=by omega
     have e0:decide ((b.sales.length:Int)<(b.sales.length:Int))=false:=by simp
     have t3:=(hJ.same u.n (by omega)).trans w0
     rw [List.take_length] at hJ
     refine .inr ⟨.exit 0,L'.set 15 (.bool false),t',by simp,?_,rfl,v,bl,hJ,by simp only [Env.find_set,q7,reduceIte,Nat.reduceEqDiff],qm⟩
     simp (disch:=first|omega|(with_unfolding_all exact rfl)|(simp only[new_n,put_n,new_m];omega)|(refine put_m_le ?_;simp only[new_m];omega)) only [K22l0,K22r3,Abs.W,reduceIte,Nat.reduceEqDiff,Nat.reduceAdd,decide_true,decide_false,kLoop_def,Nat.reduceSub,List.cons_append,List.nil_append,List.append_nil,List.length_cons,List.length_nil,Env.find_set,q3,q8,t3,kb,lb,e0,Nat.zero_add])
  obtain ⟨ji,jlo,js,jn,jle,jm⟩:=J
  have kv:=ji.okA
  simp (disch:=first|omega|(with_unfolding_all exact rfl)|(simp only[new_n,put_n,new_m];omega)|(refine put_m_le ?_;simp only[new_m];omega)) only [K22r12,res22,Abs.W,reduceIte,Nat.reduceEqDiff,Nat.reduceAdd,decide_true,decide_false,kLoop_def,Nat.reduceSub,List.cons_append,List.nil_append,List.append_nil,List.length_cons,List.length_nil,Env.find_set,f7,kv]
  refine ⟨v,t2,rfl,⟨fun c hc=>(js c (by omega)).trans (wg c hc),by omega,by omega,by omega,fm⟩,⟨bl,ji⟩,fun hp=>?_⟩
  have hv:v=.nilslice∧truthRows (pushZ hi p b.sales)=[]:=by
   rcases ji.is with ⟨z,z2⟩ | ⟨_,_,z,_⟩
   ·exact ⟨z2,z⟩
   ·subst z;simp [plain] at hp
  exact ⟨s.n,by rw [hv.1,hv.2];exact IsAt.nil _ _ _ _ _⟩)
 exact ⟨v,t,hr.symm.trans e,st,hq.rows.at_⟩
end Go.Proofs.Ytamlnddeiokbdaa.walk
set_option maxRecDepth 10000
namespace Go.Proofs.Ytamlnddeiokbdaa.walk
open Go.Abs Go.Proofs.Ytamlnddeiokbdaa.code
theorem salesOf_ok (N:Nat) (hN:1≤N) (l:List AV) (g:Int) (s:St) (hsc:scalars l=true) (hs:s.n+100≤far):call Try.prog X N (.fn 44) [.agg l,.int .i64 g] s=.val (.func 64 [] [.ptr s.n 0,.ptr (s.n+1) 0]) ((s.new (.cells l (tag 27))).new (.cells [.int .i64 g] (tag 3))):=by
 obtain ⟨n,rfl⟩:∃ n,N=n+1:=⟨N - 1,by omega⟩
 have hf:far=1000000000:=rfl
 obtain ⟨v,t,e,st,hv,hh⟩:=call_new (n:=n) (args:=[.agg l,.int .i64 g]) (s:=s) (k:=2) (Q:=fun v h n=>v=.func 64 [] [.ptr s.n 0,.ptr (s.n+1) 0]∧h=((s.new (.cells l (tag 27))).new (.cells [.int .i64 g] (tag 3))).h∧n=s.n+2) Try.func44 rfl (fun u uh un um=>by
  rw [enter44]
  simp (disch:=first|omega|(with_unfolding_all exact rfl)|(simp only[new_n,put_n,new_m];omega)|(refine put_m_le ?_;simp only[new_m];omega)) only [res44,K44r0,K44r1,K44,Abs.W,reduceIte,Nat.reduceEqDiff,Nat.reduceAdd,decide_true,decide_false,kLoop_def,Nat.reduceSub,List.cons_append,List.nil_append,List.append_nil,List.length_cons,List.length_nil,hsc,boxIntE,kFuncE',okA_fnv]
  refine ⟨_,_,rfl,((Beside.refl u (by omega) um).new _).new _,rfl,by simp only [new_n];rw [un],?_,?_⟩
  ·show ((u.new _).new _).h=((s.new _).new _).h
   unfold St.new
   simp only [uh,un]
  ·show u.n+1+1=_
   omega)
 rw [e,hv]
 congr 1
 obtain ⟨th,tn,tm⟩:=t
 have m1:tm=s.m:=st.m
 obtain ⟨h1,h2⟩:=hh
 simp only at h1 h2
 subst h1 h2 m1
 rfl
section
variable {M nb cb p8 z8:Nat} {H:Heap} {g:FuncId} {cap:List AV} {T:List Sale} {s:St}
theorem priceA_ok (hi:Bool) (hM:2≤M) (hh:∀ N,Hands Try.prog X N (N+1) nb cb H g cap (fun s:Sale=>.agg s.cells) T) (hF:Fine T) (hl:T.length≤40) (hcb:cb≤100) (hH:∀ y,y<nb→s.h.get y=H.get y) (hnb:nb≤s.n) (h8:s.h.get p8=some (.cells [.func g [] cap] z8)) (n8:p8<s.n) (hs:s.n+300000≤far) :
  call Try.prog X (M+4) (.fn 45) (.agg (endV hi)::[.ptr p8 0]) s=.val (.int .i64 (weighI hi T)) s:=by
 have hff:far=1000000000:=rfl
 refine call_plain' (n:=M+3) Try.func45 (fun u uh un um=>?_) rfl
 have scE:=endV_cells hi
 obtain ⟨w,hw⟩:∃ w:St,w=u.new (.cells (endV hi) (tag 82)):=⟨_,rfl⟩
 have wn:w.n=u.n+1:=by rw [hw];rfl
 have wm:w.m=far:=by rw [hw];exact um
 have wg:∀ c,c<u.n→w.h.get c=u.h.get c:=fun c hc=>by rw [hw,get_new_ne _ _ _ (by omega)]
 have w0:w.h.get u.n=some (.cells [hereV hi,hereV (!hi)] (tag 82)):=by rw [hw];exact get_new_eq _ _ _ rfl (by omega)
 have w8:w.h.get p8=some (.cells [.func g [] cap] z8):=by rw [wg p8 (by omega),uh];exact h8
 have we:=weighs_ok (M:=M) (s:=w) hi hM (hh (M+1)) hF hl hcb (fun y hy=>by rw [wg y (by omega),uh];exact hH y hy) (by omega) (by omega)
 unfold endV at we
 rw [enter45]
 simp (disch:=first|omega|(with_unfolding_all exact rfl)|(simp only[new_n,put_n,new_m];omega)|(refine put_m_le ?_;simp only[new_m];omega)) only [K45,K45r0,res45,Abs.W,reduceIte,Nat.reduceEqDiff,Nat.reduceAdd,decide_true,decide_false,kLoop_def,Nat.reduceSub,List.cons_append,List.nil_append,List.append_nil,List.length_cons,List.length_nil,Env.find_set,scE,Nat.zero_add]
 rw [← hw]
 clear hw
 simp (disch:=first|omega|(with_unfolding_all exact rfl)|(simp only[new_n,put_n,new_m];omega)|(refine put_m_le ?_;simp only[new_m];omega)) only [K45r1,Abs.W,reduceIte,Nat.reduceEqDiff,Nat.reduceAdd,decide_true,decide_false,kLoop_def,Nat.reduceSub,List.cons_append,List.nil_append,List.append_nil,List.length_cons,List.length_nil,Env.find_set,w0,w8,okA_end,okA_fnv,we,Nat.zero_add]
 exact ⟨_,rfl,by omega⟩
theorem priceB_ok (hi:Bool) (hM:7≤M) (hh:∀ N,Hands Try.prog X N (N+1) nb cb H g cap (fun s:Sale=>.agg s.cells) T) (hF:Fine T) (hl:T.length≤40) (hcb:cb≤100) (hH:∀ y,y<nb→s.h.get y=H.get y) (hnb:nb≤s.n) (h8:s.h.get p8=some (.cells [.func g [] cap] z8)) (n8:p8<s.n) (hs:s.n+2100000≤far) :
  call Try.prog X (M+7) (.fn 47) (.agg (endV hi)::[.ptr p8 0]) s=.val (.int .i64 (priceI hi T)) s:=by
 have hff:far=1000000000:=rfl
 refine call_plain' (n:=M+6) Try.func47 (fun u uh un um=>?_) rfl
 have scE:=endV_cells hi
 obtain ⟨w,hw⟩:∃ w:St,w=u.new (.cells (endV hi) (tag 82)):=⟨_,rfl⟩
 have wn:w.n=u.n+1:=by rw [hw];rfl
 have wm:w.m=far:=by rw [hw];exact um
 have wg:∀ c,c<u.n→w.h.get c=u.h.get c:=fun c hc=>by rw [hw,get_new_ne _ _ _ (by omega)]
 have w0:w.h.get u.n=some (.cells [hereV hi,hereV (!hi)] (tag 82)):=by rw [hw];exact get_new_eq _ _ _ rfl (by omega)
 have w8:w.h.get p8=some (.cells [.func g [] cap] z8):=by rw [wg p8 (by omega),uh];exact h8
 have we:=price_ok (M:=M) (s:=w) hi hM hh hF hl hcb (fun y hy=>by rw [wg y (by omega),uh];exact hH y hy) (by omega) (by omega)
 unfold endV at we
 rw [enter47]
 simp (disch:=first|omega|(with_unfolding_all exact rfl)|(simp only[new_n,put_n,new_m];omega)|(refine put_m_le ?_;simp only[new_m];omega)) only [K47,K47r0,res47,Abs.W,reduceIte,Nat.reduceEqDiff,Nat.reduceAdd,decide_true,decide_false,kLoop_def,Nat.reduceSub,List.cons_append,List.nil_append,List.append_nil,List.length_cons,List.length_nil,Env.find_set,scE,Nat.zero_add]
 rw [← hw]
 clear hw
 simp (disch:=first|omega|(with_unfolding_all exact rfl)|(simp only[new_n,put_n,new_m];omega)|(refine put_m_le ?_;simp only[new_m];omega)) only [K47r1,Abs.W,reduceIte,Nat.reduceEqDiff,Nat.reduceAdd,decide_true,decide_false,kLoop_def,Nat.reduceSub,List.cons_append,List.nil_append,List.append_nil,List.length_cons,List.length_nil,Env.find_set,w0,w8,okA_end,okA_fnv,we,Nat.zero_add]
 exact ⟨_,rfl,by omega⟩
end
def verdI (best worst:Bool):Int:=if worst then 1 else if best then 3 else 2
theorem verd_ok (N:Nat) (hN:1≤N) (a b:Bool) (s:St) (hs:s.n≤far):call Try.prog X N (.fn 49) [.bool a,.bool b] s=.val (.int .i64 (verdI a b)) s:=by
 obtain ⟨n,rfl⟩:∃ n,N=n+1:=⟨N - 1,by omega⟩
 refine call_plain' Try.func49 (fun u uh un um=>?_) rfl
 rw [enter49]
 cases a<;>cases b
 all_goals
  simp (disch:=first|omega|(with_unfolding_all exact rfl)|(simp only[new_n,put_n,new_m];omega)|(refine put_m_le ?_;simp only[new_m];omega)) only [res49,K49r0,K49r1,K49r2,K49r3,K49r4,K49r5,K49,Abs.W,reduceIte,Nat.reduceEqDiff,Nat.reduceAdd,decide_true,decide_false,kLoop_def,Nat.reduceSub,List.cons_append,List.nil_append,List.append_nil,List.length_cons,List.length_nil,Env.find_set]
  exact ⟨_,rfl,by omega⟩
theorem leave_tct {P:Program} (a b:Nat) (t:TypeId) (c:Nat) (L:Env) (s:St) {sh:Option Nat} (hs:shapeT P t=some sh) {v:AV} (h:okA (loadA sh s (L.find b))=.val v s):leaveA P [.tmp a,.cell b t,.tmp c] L [] s=.val (.tup [L.find a,v,L.find c]) s:=by
 unfold leaveA
 simp only [takeDfs,resultsA,hs,h]
 rfl
theorem sold_fine {b:Book} (ok:b.Ok) (good:Int):Fine (soldOf b.sales good):=fun s hs=>by
 obtain ⟨h1,_⟩:=List.mem_filter.mp hs
 obtain ⟨s0,s1,d0,d1,g0,g1,g2,c0,c1,c2⟩:=ok.ok s h1
 exact ⟨g0,g1,g2,c0,c1,c2⟩
theorem sold_len {b:Book} (ok:b.Ok) (good:Int):(soldOf b.sales good).length≤40:=Nat.le_trans (List.length_filter_le ..) ok.l
def verdOf (l:List Sale):Int:=verdI (decide (0<weighI true l)) (decide (0<weighI false l))
def priceV (l:List Sale):AV:=.tup [.int .i64 (verdOf l),.agg [.int .i64 (priceI false l),.int .i64 (priceI true l)],.int .i64 0]
theorem Price_ok {N good:Nat} {b:Book} {v:AV} {s:St} (hN:16≤N) (ok:b.Ok) (hg:good<b.goods) (hB:RowsAt s.h s.n 6 (b.sales.map Sale.cells) v) (hs:s.n+3000000≤far) :
  call Try.prog X N (.fn 14) [.agg (bookV b v),.int .i64 (good:Int)] s=.val (priceV (soldOf b.sales good)) s:=by
 obtain ⟨n,rfl⟩:∃ n,N=n+1:=⟨N - 1,by omega⟩
 have hf:far=1000000000:=rfl
 have sh2:shapeT Try.prog 38=some (some 2):=by kernel_rfl
 refine call_plain' Try.func14 (fun u uh un um=>?_) rfl
 rw [← uh,← un] at hB
 rw [← un] at hs
 have kv:∀ t,okA (.val v t)=.val v t:=fun t=>okA_ne hB.ne
 have scB:scalars (bookV b v)=true:=by
  have hv:v.scalar=true:=by
   have h:=hB.len u
   cases v<;>first | rfl | cases h
  show scalars [v]=true
  unfold scalars
  rw [hv]
  rfl
 obtain ⟨w,hw⟩:∃ w:St,w=(u.new (.cells (bookV b v) (tag 27))).new (.cells [.int .i64 0,.int .i64 0] (tag 38)):=⟨_,rfl⟩
 have wn:w.n=u.n+2:=by rw [hw];rfl
 have wm:w.m=far:=by rw [hw];exact um
 have wg:∀ c,c<u.n→w.h.get c=u.h.get c:=fun c hc=>by rw [hw,get_new_ne _ _ _ (by simp only [new_n];omega),get_new_ne _ _ _ (by omega)]
 have w0:w.h.get u.n=some (.cells (bookV b v) (tag 27)):=by rw [hw,get_new_ne _ _ _ (by simp only [new_n];omega)];exact get_new_eq _ _ _ rfl (by omega)
 have w1:w.h.get (u.n+1)=some (.cells [.int .i64 0,.int .i64 0] (tag 38)):=by rw [hw];exact get_new_eq _ _ _ rfl (by simp only [new_n];omega)
 have hR:=hB.grow wg (by omega:u.n≤w.n)
 have hck:=fun m=>check_ok n (by omega) b ok v ⟨w.h,w.n,m⟩ hR (by show w.n+4000≤far;omega)
 have hFi:=sold_fine ok (good:Int)
 have hle:=sold_len ok (good:Int)
 have z0:decide ((0:Int)=0)=true:=rfl
 have w0':=w0
 have scB':=scB
 unfold bookV at w0 hw scB hck
 rw [enter14]
 unfold bookV
 simp (disch:=first|omega|(with_unfolding_all exact rfl)|(simp only[new_n,put_n,new_m];omega)|(refine put_m_le ?_;simp only[new_m];omega)) only [K14,K14r0,Abs.W,reduceIte,Nat.reduceEqDiff,Nat.reduceAdd,decide_true,decide_false,kLoop_def,Nat.reduceSub,List.cons_append,List.nil_append,List.append_nil,List.length_cons,List.length_nil,scB,Nat.zero_add]
 try simp only [new_n]
 rw [← hw]
 clear hw
 simp (disch:=first|omega|(with_unfolding_all exact rfl)|(simp only[new_n,put_n,new_m];omega)|(refine put_m_le ?_;simp only[new_m];omega)) only [K14r1,K14r2,Abs.W,reduceIte,Nat.reduceEqDiff,Nat.reduceAdd,decide_true,decide_false,kLoop_def,Nat.reduceSub,List.cons_append,List.nil_append,List.append_nil,List.length_cons,List.length_nil,Env.find_set,new_n,w0,kv,scB,hck,hck w.m,named_ok,or_new2,z0,endO_nil,Nat.zero_add]
 obtain ⟨w2,hw2⟩:∃ w2:St,w2=w.new (.cells [AV.int .i64 0,.int .i64 0] 0):=⟨_,rfl⟩
 rw [← hw2]
 have w2n:w2.n=w.n+1:=by rw [hw2];rfl
 have w2m:w2.m=far:=by rw [hw2];exact wm
 have w2g:∀ c,c<w.n→w2.h.get c=w.h.get c:=fun c hc=>by rw [hw2,get_new_ne _ _ _ (by omega)]
 clear hw2
 have a0:=(w2g u.n (by omega)).trans w0
 have so:=fun s hs=>salesOf_ok n (by omega) [.int .i64 b.stalls,.int .i64 b.goods,v] (good:Int) s scB hs
 simp (disch:=first|omega|(with_unfolding_all exact rfl)|(simp only[new_n,put_n,new_m];omega)|(refine put_m_le ?_;simp only[new_m];omega)) only [K14r4,Abs.W,reduceIte,Nat.reduceEqDiff,Nat.reduceAdd,decide_true,decide_false,kLoop_def,Nat.reduceSub,List.cons_append,List.nil_append,List.append_nil,List.length_cons,List.length_nil,Env.find_set,a0,kv,so,okA_fnv,cellsFn,Nat.zero_add]
 obtain ⟨x,hx⟩:∃ x:St,x=(((w2.new (.cells [.int .i64 b.stalls,.int .i64 b.goods,v] (tag 27))).new (.cells [.int .i64 (good:Int)] (tag 3))).new (.cells [.nilfunc] (tag 89))).put (w2.n+2) (.cells [.func 64 [] [.ptr w2.n 0,.ptr (w2.n+1) 0]] (tag 89)):=⟨_,rfl⟩
 have xn:x.n=w2.n+3:=by rw [hx];rfl
 have xm:x.m=min far (w2.n+2):=by rw [hx];simp only [St.put,minN_eq,new_m,w2m]
 have xg:∀ c,c<w2.n→x.h.get c=w2.h.get c:=fun c hc=>by rw [hx,get_put_ne' _ _ _ _ (by omega),get_new_ne _ _ _ (by simp only [new_n];omega),get_new_ne _ _ _ (by simp only [new_n];omega),get_new_ne _ _ _ (by omega)]
 have x0:x.h.get w2.n=some (.cells [.int .i64 b.stalls,.int .i64 b.goods,v] (tag 27)):=by rw [hx,get_put_ne' _ _ _ _ (by omega),get_new_ne _ _ _ (by simp only [new_n];omega),get_new_ne _ _ _ (by simp only [new_n];omega)];exact get_new_eq _ _ _ rfl (by omega)
 have x1:x.h.get (w2.n+1)=some (.cells [.int .i64 (good:Int)] (tag 3)):=by rw [hx,get_put_ne' _ _ _ _ (by omega),get_new_ne _ _ _ (by simp only [new_n];omega)];exact get_new_eq _ _ _ rfl (by simp only [new_n];omega)
 have x2:x.h.get (w2.n+2)=some (.cells [.func 64 [] [.ptr w2.n 0,.ptr (w2.n+1) 0]] (tag 89)):=by rw [hx];exact get_put_eq _ _ _ _ rfl (by omega)
 try simp only [new_n]
 first | rw [← hx] | skip
 have xw:∀ c,c<w.n→x.h.get c=w.h.get c:=fun c hc=>(xg c (by omega)).trans (w2g c hc)
 have hRx:RowsAt x.h x.n 6 (b.sales.map Sale.cells) v:=hR.grow xw (by omega)
 have hh:∀ N,Hands Try.prog X N (N+1) x.n 10 x.h 64 [.ptr w2.n 0,.ptr (w2.n+1) 0] (fun s:Sale=>.agg s.cells) (soldOf b.sales good):=fun N=>salesOf1_hands ok hRx x0 x1 (by omega) (by omega)
 obtain ⟨n',rfl⟩:∃ n',n=n'+9:=⟨n - 9,by omega⟩
 have b1:∀ y:St,(∀ c,c<x.n→y.h.get c=x.h.get c)→x.n≤y.n→y.n+2200000≤far→call Try.prog X (n'+9) (.fn 38) [.func 45 [] [.ptr (w2.n+2) 0]] y=.val (.agg [.int .i64 (weighI false (soldOf b.sales good)),.int .i64 (weighI true (soldOf b.sales good))]) y:=fun y hy hyn hyf=>between_ok _ _ (by omega) (fun e t ht h3 h4=>by
  have:=priceA_ok (M:=n'+4) (s:=t) (p8:=w2.n+2) e (by omega) hh hFi hle (by omega) (fun c hc=>(ht c (by omega)).trans (hy c hc)) (by omega) ((ht _ (by omega)).trans ((hy _ (by omega)).trans x2)) (by omega) (by omega)
  cases e<;>exact this) (by omega)
 have b2:∀ y:St,(∀ c,c<x.n→y.h.get c=x.h.get c)→x.n≤y.n→y.n+2200000≤far→call Try.prog X (n'+9) (.fn 38) [.func 47 [] [.ptr (w2.n+2) 0]] y=.val (.agg [.int .i64 (priceI false (soldOf b.sales good)),.int .i64 (priceI true (soldOf b.sales good))]) y:=fun y hy hyn hyf=>between_ok _ _ (by omega) (fun e t ht h3 h4=>by
  have:=priceB_ok (M:=n'+1) (s:=t) (p8:=w2.n+2) e (by omega) hh hFi hle (by omega) (fun c hc=>(ht c (by omega)).trans (hy c hc)) (by omega) ((ht _ (by omega)).trans ((hy _ (by omega)).trans x2)) (by omega) (by omega)
  cases e<;>exact this) (by omega)
 have b1x:=b1 x (fun _ _=>rfl) (Nat.le_refl _) (by omega)
 simp (disch:=first|omega|(with_unfolding_all exact rfl)|(simp only[new_n,put_n,new_m];omega)|(refine put_m_le ?_;simp only[new_m];omega)) only [K14r5,Abs.W,reduceIte,Nat.reduceEqDiff,Nat.reduceAdd,decide_true,decide_false,kLoop_def,Nat.reduceSub,List.cons_append,List.nil_append,List.append_nil,List.length_cons,List.length_nil,Env.find_set,kFuncE',okA_fnv,b1x,Nat.zero_add]
 obtain ⟨y,hy⟩:∃ y:St,y=(x.new (.cells [.int .i64 0,.int .i64 0] (tag 38))).put x.n (.cells [.int .i64 (weighI false (soldOf b.sales good)),.int .i64 (weighI true (soldOf b.sales good))] (tag 38)):=⟨_,rfl⟩
 have yn:y.n=x.n+1:=by rw [hy];rfl
 have ym:y.m=min x.m x.n:=by rw [hy];simp only [St.put,minN_eq,new_m]
 have yg:∀ c,c<x.n→y.h.get c=x.h.get c:=fun c hc=>by rw [hy,get_put_ne' _ _ _ _ (by omega),get_new_ne _ _ _ (by omega)]
 have yx:y.h.get x.n=some (.cells [.int .i64 (weighI false (soldOf b.sales good)),.int .i64 (weighI true (soldOf b.sales good))] (tag 38)):=by rw [hy];exact get_put_eq _ _ _ _ rfl (by omega)
 rw [← hy]
 clear hy
 have b2y:=b2 y yg (by omega) (by omega)
 have y5:=(yg (u.n+1) (by omega)).trans ((xw (u.n+1) (by omega)).trans w1)
 simp (disch:=first|omega|(with_unfolding_all exact rfl)|(simp only[new_n,put_n,new_m];omega)|(refine put_m_le ?_;simp only[new_m];omega)) only [K14r6,Abs.W,reduceIte,Nat.reduceEqDiff,Nat.reduceAdd,decide_true,decide_false,kLoop_def,Nat.reduceSub,List.cons_append,List.nil_append,List.append_nil,List.length_cons,List.length_nil,Env.find_set,kFuncE',okA_fnv,b2y,y5,Nat.zero_add]
 obtain ⟨z,hz⟩:∃ z:St,z=y.put (u.n+1) (.cells [.int .i64 (priceI false (soldOf b.sales good)),.int .i64 (priceI true (soldOf b.sales good))] (tag 38)):=⟨_,rfl⟩
 have zn:z.n=y.n:=by rw [hz];rfl
 have zm:z.m=min y.m (u.n+1):=by rw [hz];simp only [St.put,minN_eq]
 have zx:z.h.get x.n=some (.cells [.int .i64 (weighI false (soldOf b.sales good)),.int .i64 (weighI true (soldOf b.sales good))] (tag 38)):=by rw [hz,get_put_ne' _ _ _ _ (by omega)];exact yx
 have z5:z.h.get (u.n+1)=some (.cells [.int .i64 (priceI false (soldOf b.sales good)),.int .i64 (priceI true (soldOf b.sales good))] (tag 38)):=by rw [hz];exact get_put_eq _ _ _ _ rfl (by omega)
 rw [← hz]
 clear hz
 have zf:z.m≤far:=by omega
 simp (disch:=first|omega|(with_unfolding_all exact rfl)|(simp only[new_n,put_n,new_m];omega)|(refine put_m_le ?_;simp only[new_m];omega)) only [K14r7,res14,Abs.W,reduceIte,Nat.reduceEqDiff,Nat.reduceAdd,decide_true,decide_false,kLoop_def,Nat.reduceSub,List.cons_append,List.nil_append,List.append_nil,List.length_cons,List.length_nil,Env.find_set,zx,z5,verd_ok,endO_nil,Nat.zero_add]
 refine ⟨_,leave_tct _ _ _ _ _ _ sh2 ?_,?_⟩
 ·simp only [find_cons,reduceIte,Nat.reduceEqDiff]
  rw [load_ptr,get_put_eq _ _ _ _ rfl (by omega),loadO_cells,partS_some]
  rfl
 ·simp only [St.put,minN_eq];omega
end Go.Proofs.Ytamlnddeiokbdaa.walk
set_option maxRecDepth 10000
namespace Go.Proofs.Ytamlnddeiokbdaa.walk
open Go.Abs Go.Proofs.Ytamlnddeiokbdaa.code
theorem kEql_def (c:Cmp) (neg:Bool) (x y:Arg) (L:Env) (s:St):kEql c neg x y L s=eqlA c neg s (x.ev L) (y.ev L):=Eq.trans (Eq.refl _) (Eq.refl _)
theorem neqSpan (a b:Int) (s:St):eqlA (.row [(0,none,.int),(1,none,.int)]) true s (.agg [.int .i64 a,.int .i64 b]) (.agg [.int .i64 a,.int .i64 b])=.val (.bool false) s:=by
 simp [eqlA,Cmp.eq,Cmp.eqs,partS_one,nth_cons,eqI_eq]
end Go.Proofs.Ytamlnddeiokbdaa.walk
set_option maxRecDepth 10000
namespace Go.Abs
structure StepsTo (l:List Step) (f:Int):Prop where
 f0:l.length=0→f=0
 z:0<l.length→(stepAt l 0).fr=0
 up:∀ i,i+1<l.length→(stepAt l i).fr<(stepAt l (i+1)).fr
 lt:∀ i,i<l.length→0≤(stepAt l i).fr∧(stepAt l i).fr<f
 p:0≤f
 le:f≤5000 * l.length
 s0:∀ i,i<l.length→0≤(stepAt l i).sh
 s1:∀ i,i<l.length→(stepAt l i).sh≤1000
theorem StepsTo.nil:StepsTo [] 0:=⟨fun _=>rfl,fun h=>absurd h (by simp),fun i h=>absurd h (by simp),fun i h=>absurd h (by simp),Int.le_refl _,by simp,fun i h=>absurd h (by simp),fun i h=>absurd h (by simp)⟩
theorem stepAt_old (l:List Step) (m:Step) {i:Nat} (h:i<l.length):stepAt (l++[m]) i=stepAt l i:=by
 unfold stepAt
 simp only [List.getD,List.getElem?_append_left h]
theorem stepAt_end (l:List Step) (m:Step):stepAt (l++[m]) l.length=m:=by
 unfold stepAt
 simp [List.getD]
theorem StepsTo.snoc {l:List Step} {f c x:Int} (h:StepsTo l f) (hc:0≤c∧c≤1000) (hx:1≤x∧x≤5000):StepsTo (l++[⟨f,c⟩]) (f+x):=by
 obtain ⟨f0,z,up,lt,p,le,s0,s1⟩:=h
 have hl:(l++[(⟨f,c⟩:Step)]).length=l.length+1:=by simp
 have last:∀ i,i<(l++[(⟨f,c⟩:Step)]).length→¬ i<l.length→i=l.length:=fun i h1 h2=>by omega
 refine ⟨fun h=>by omega,fun _=>?_,fun i hi=>?_,fun i hi=>?_,by omega,by omega,fun i hi=>?_,fun i hi=>?_⟩
 ·by_cases h:0<l.length
  ·rw [stepAt_old l _ h];exact z h
  ·have e:l=[]:=List.length_eq_zero_iff.mp (by omega)
   subst e
   show f=0
   exact f0 rfl
 ·by_cases h:i+1<l.length
  ·rw [stepAt_old l _ h,stepAt_old l _ (by omega)];exact up i h
  ·have e:i+1=l.length:=by omega
   rw [stepAt_old l _ (by omega),e,stepAt_end]
   exact (lt i (by omega)).2
 ·by_cases h:i<l.length
  ·rw [stepAt_old l _ h];have:=lt i h;omega
  ·rw [last i hi h,stepAt_end];show 0≤f∧f<f+x;omega
 ·by_cases h:i<l.length
  ·rw [stepAt_old l _ h];exact s0 i h
  ·rw [last i hi h,stepAt_end];exact hc.1
 ·by_cases h:i<l.length
  ·rw [stepAt_old l _ h];exact s1 i h
  ·rw [last i hi h,stepAt_end];exact hc.2
theorem StepsTo.ok {l:List Step} {f:Int} (h:StepsTo l f) (h0:1≤l.length) (h1:l.length≤4):StepsOk l :=
 ⟨h0,by omega,h.z (by omega),h.up,fun i hi=>by have:=h.lt i hi;have:=h.le;omega,h.s0,h.s1⟩
end Go.Abs
namespace Go.Proofs.Ytamlnddeiokbdaa.walk
open Go.Abs Go.Proofs.Ytamlnddeiokbdaa.code
structure StepsJ (u t:St) (d:Nat) (l:List Step) (v:AV) (bl kk:Nat):Prop where
 die:Die d t.h
 is:IsAt t.h t.n bl 2 (tag 75) (l.map Step.cells) v
 lo:u.n≤bl
 same:∀ c,c<u.n→c≠d→t.h.get c=u.h.get c
 n:u.n≤t.n
 le:t.n≤u.n+kk
 m:d≤t.m
 mle:t.m≤u.m
theorem steps_round (N:Nat) (hN:4≤N) (cx:Ctx) {d bl kk i:Nat} {l:List Step} {v:AV} {f:Int} {u t:St} {L:Env} (J:StepsJ u t d l v bl kk) (hT:StepsTo l f) (hl:l.length≤10) (hdu:d<u.n) (hs:u.n+kk+2000≤far) (hum:u.m≤far) (hi:i≤1000)
  (q0:L.find 0=.ptr d 0) (q5:L.find 5=v) (q6:L.find 6=.int .i64 f) (q7:L.find 7=.int .i64 (i+1:Nat)) :
  ∃ L1 t1 l1 v1 bl1 f1,K11l0 (call Try.prog X N) cx L [] t=.done .norm L1 [] t1∧StepsJ u t1 d l1 v1 bl1 (kk+5)∧StepsTo l1 f1∧l1.length=l.length+1∧L1.find 0=.ptr d 0∧L1.find 5=v1∧L1.find 6=.int .i64 f1∧L1.find 7=.int .i64 (i:Nat):=by
 have hf:far=1000000000:=rfl
 obtain ⟨jd,ji,jlo,js,jn,jle,jm,jml⟩:=J
 have tp:=hT.p
 have tle:=hT.le
 have e0:decide ((0:Int)<((i+1:Nat):Int))=true:=decide_eq_true (by omega)
 have kv:∀ t,okA (.val v t)=.val v t:=ji.okA
 have sb:∀ s,aSub s .i64 ((i+1:Nat):Int) 1=.val (.int .i64 (i:Int)) s:=fun s=>by rw [aSub_i64 s _ _ (by omega)];congr 2;omega
 simp (disch:=first|omega|(with_unfolding_all exact rfl)|(simp only[new_n,put_n,new_m];omega)|(refine put_m_le ?_;simp only[new_m];omega)) only [K11l0,K11r4,K11r5,Abs.W,reduceIte,Nat.reduceEqDiff,Nat.reduceAdd,decide_true,decide_false,kLoop_def,Nat.reduceSub,List.cons_append,List.nil_append,List.append_nil,List.length_cons,List.length_nil,Env.find_set,Nat.zero_add,q0,q5,q6,q7,kv,e0]
 generalize hc1:call _ _ _ (.fn 33) _ _=r1
 obtain ⟨c,t1,rfl,st1,d1,c0,c1⟩:=cast_ex hc1 (by omega) jd (by omega) (by omega) (by omega)
 have n1:t.n≤t1.n:=st1.n
 have k1:t1.n≤t.n:=st1.le
 have m1:d≤t1.m:=st1.m jm
 have l1:t1.m≤t.m:=st1.mle
 have g1:∀ c,c<t.n→c≠d→t1.h.get c=t.h.get c:=fun c hc hcd=>st1.same c hc hcd
 simp (disch:=first|omega|(with_unfolding_all exact rfl)|(simp only[new_n,put_n,new_m];omega)|(refine put_m_le ?_;simp only[new_m];omega)) only [Abs.W,reduceIte,Nat.reduceEqDiff,Nat.reduceAdd,decide_true,decide_false,kLoop_def,Nat.reduceSub,List.cons_append,List.nil_append,List.append_nil,List.length_cons,List.length_nil,Env.find_set,q0,q5,q6,q7,kv,Nat.zero_add]
 obtain ⟨y,hy⟩:∃ y:St,y=t1.new (.cells [.int .i64 f,.int .i64 c] 0):=⟨_,rfl⟩
 have yn:y.n=t1.n+1:=by rw [hy];rfl
 have ym:y.m=t1.m:=by rw [hy];rfl
 have yg:∀ c,c<t1.n→y.h.get c=t1.h.get c:=fun c hc=>by rw [hy,get_new_ne _ _ _ (by omega)]
 have yp:y.h.get t1.n=some (.cells [.int .i64 f,.int .i64 c] 0):=by rw [hy];exact get_new_eq _ _ _ rfl (by omega)
 have gy:∀ c,c<t.n→c≠d→y.h.get c=t.h.get c:=fun c hc hcd=>(yg c (by omega)).trans (g1 c hc hcd)
 obtain ⟨s7,e7,l7,s7n,s7g,s7m,s7l⟩:=append_at (bytes:=16) (ji.mono (h':=y.h) (n':=y.n) (fun h=>gy bl h (by omega)) (by omega)) yp rfl rfl (by rw [List.length_map];omega) (by kernel_rfl) (by omega)
 have hlen:(l.map Step.cells).length=l.length:=List.length_map ..
 rw [hlen] at e7 l7
 obtain ⟨v7,hv7⟩:∃ v7,v7=AV.slice y.n 0 (l.length+1) (l.length+1) true:=⟨_,rfl⟩
 rw [← hv7] at e7 l7
 rw [← hy]
 have kv7:∀ t,okA (.val v7 t)=.val v7 t:=fun t=>by rw [hv7];rfl
 simp (disch:=first|omega|(with_unfolding_all exact rfl)|(simp only[new_n,put_n,new_m];omega)|(refine put_m_le ?_;simp only[new_m];omega)) only [Abs.W,reduceIte,Nat.reduceEqDiff,Nat.reduceAdd,decide_true,decide_false,kLoop_def,Nat.reduceSub,List.cons_append,List.nil_append,List.append_nil,List.length_cons,List.length_nil,Env.find_set,e7,kv7,q0,q5,q6,q7,K11r6,Nat.zero_add]
 have d7:Die d s7.h:=Die.keep d1 ((s7g d (by omega) (by omega)).trans (yg d (by omega)))
 have m7:=s7m d (by omega) (by omega) (by omega)
 generalize hc2:call _ _ _ (.fn 32) _ _=r2
 obtain ⟨w,t2,rfl,st2,d2,hw⟩:=one_ex [5,100,5000] (b:=s7.n) (sz:=0) hc2 (by omega) (Die.keep d7 (get_new_ne _ _ _ (by omega))) (by rw [new_n];omega) (by rw [new_n];omega) (get_new_eq _ _ _ rfl (by omega)) (by rw [new_n];omega) (by omega) rfl (by omega) (by omega)
 have hw':5≤w∧w≤5000:=by simp at hw;omega
 have n2:s7.n+1≤t2.n:=st2.n
 have k2:t2.n≤s7.n+1+0:=st2.le
 have m2:d≤t2.m:=st2.m (by show d≤s7.m;omega)
 have l2:t2.m≤s7.m:=st2.mle
 have g2:∀ c,c<s7.n→c≠d→t2.h.get c=s7.h.get c:=fun c hc hcd=>(st2.same c (by rw [new_n];omega) hcd).trans (get_new_ne _ _ _ (by omega))
 simp (disch:=first|omega|(with_unfolding_all exact rfl)|(simp only[new_n,put_n,new_m];omega)|(refine put_m_le ?_;simp only[new_m];omega)) only [Abs.W,reduceIte,Nat.reduceEqDiff,Nat.reduceAdd,decide_true,decide_false,kLoop_def,Nat.reduceSub,List.cons_append,List.nil_append,List.append_nil,List.length_cons,List.length_nil,Env.find_set,q0,q6,Nat.zero_add]
 generalize hc3:call _ _ _ (.fn 31) _ _=r3
 obtain ⟨x,t3,rfl,st3,d3,x0,x1⟩:=from_ex hc3 (by omega) d2 (by omega) (by omega) (by omega) (by omega) (by omega) (by omega)
 have n3:t2.n≤t3.n:=st3.n
 have k3:t3.n≤t2.n+0:=st3.le
 have m3:d≤t3.m:=st3.m m2
 have l3:t3.m≤t2.m:=st3.mle
 have g3:∀ c,c<s7.n→c≠d→t3.h.get c=s7.h.get c:=fun c hc hcd=>(st3.same c (by omega) hcd).trans (g2 c hc hcd)
 have ad:∀ s,aAdd s .i64 f x=.val (.int .i64 (f+x)) s:=fun s=>aAdd_i64 s _ _ (by omega)
 simp (disch:=first|omega|(with_unfolding_all exact rfl)|(simp only[new_n,put_n,new_m];omega)|(refine put_m_le ?_;simp only[new_m];omega)) only [res11,K11r0,K11r1,K11r2,K11r3,K11r4,K11r5,K11r6,K11r7,K11r8,K11,Abs.W,reduceIte,Nat.reduceEqDiff,Nat.reduceAdd,decide_true,decide_false,kLoop_def,Nat.reduceSub,List.cons_append,List.nil_append,List.append_nil,List.length_cons,List.length_nil,Env.find_set,q6,q7,ad,sb,Nat.zero_add]
 have hcells:(l.map Step.cells)++[[.int .i64 f,.int .i64 c]]=(l++[(⟨f,c⟩:Step)]).map Step.cells:=by rw [List.map_append];rfl
 refine ⟨_,_,l++[⟨f,c⟩],v7,y.n,f+x,rfl,⟨d3,?_,by omega,fun c hc hcd=>?_,by omega,by omega,m3,by omega⟩,hT.snoc (by omega) (by omega),by simp,?_,?_,?_,?_⟩
 ·rw [← hcells]
  exact l7.mono (fun h=>g3 _ (by omega) (by omega)) (by omega)
 ·rw [g3 c (by omega) hcd,s7g c (by omega) (by omega),gy c (by omega) hcd]
  exact js c hc hcd
 ·simp only [Env.find_set,q0,reduceIte,Nat.reduceEqDiff]
 ·simp only [Env.find_set,reduceIte,Nat.reduceEqDiff]
 ·simp only [Env.find_set,reduceIte,Nat.reduceEqDiff]
 ·simp only [Env.find_set,reduceIte,Nat.reduceEqDiff]
theorem StepsOf_ex {N d:Nat} {s:St} {r:ARes} (hr:call Try.prog X N (.fn 11) [.ptr d 0,.int .i64 4] s=r) (hN:6≤N) (hd:Die d s.h) (hlt:d<s.n) (hs:s.n+6000≤far) :
  ∃ (l:List Step) (bl:Nat) (t:St),r=.val (.slice bl 0 l.length l.length true) t∧Stir d s t 100∧Die d t.h∧StepsOk l∧l.length≤4∧s.n≤bl∧bl<t.n∧t.h.get bl=some (.cells (l.map Step.cells).flatten (2+tag 75)):=by
 obtain ⟨m,rfl⟩:∃ m,N=m+1:=⟨N - 1,by omega⟩
 have hf:far=1000000000:=rfl
 obtain ⟨v,t,e,st,l,bl,rfl,hq1,hq2,hq3,hq4,hq5,hq6⟩:=call_stir (n:=m) (args:=[.ptr d 0,.int .i64 4]) (d:=d) (s:=s) (k:=100) (Q:=fun w h m=>∃ (l:List Step) (bl:Nat),w=.slice bl 0 l.length l.length true∧Die d h∧StepsOk l∧l.length≤4∧s.n≤bl∧bl<m∧h.get bl=some (.cells (l.map Step.cells).flatten (2+tag 75))) Try.func11 rfl (fun u uh un um=>by
  rw [← uh] at hd
  rw [← un] at hlt
  rw [enter11]
  simp (disch:=first|omega|(with_unfolding_all exact rfl)|(simp only[new_n,put_n,new_m];omega)|(refine put_m_le ?_;simp only[new_m];omega)) only [res11,K11r0,K11r1,K11r2,K11r3,K11r4,K11r5,K11r6,K11r7,K11r8,K11,Abs.W,reduceIte,Nat.reduceEqDiff,Nat.reduceAdd,decide_true,decide_false,kLoop_def,Nat.reduceSub,List.cons_append,List.nil_append,List.append_nil,List.length_cons,List.length_nil,Env.find_set]
  generalize hc1:call _ _ _ (.fn 31) _ _=r1
  obtain ⟨x1,t1,rfl,st1,d1,x10,x11⟩:=from_ex hc1 (by omega) hd (by omega) (by omega) (by omega) (by omega) (by omega) (by omega)
  have n1:=st1.n
  have k1:=st1.le
  have m1:=st1.m (by omega)
  have l1:=st1.mle
  obtain ⟨i,rfl⟩:∃ n:Nat,x1=n:=⟨x1.toNat,by omega⟩
  simp (disch:=first|omega|(with_unfolding_all exact rfl)|(simp only[new_n,put_n,new_m];omega)|(refine put_m_le ?_;simp only[new_m];omega)) only [res11,K11r0,K11r1,K11r2,K11r3,K11r4,K11r5,K11r6,K11r7,K11r8,K11,Abs.W,reduceIte,Nat.reduceEqDiff,Nat.reduceAdd,decide_true,decide_false,kLoop_def,Nat.reduceSub,List.cons_append,List.nil_append,List.append_nil,List.length_cons,List.length_nil,Env.find_set,Nat.zero_add]
  generalize hlp:loopN _ rounds _ _ _ _ _=rl
  have hJ:StepsJ t1 t1 d [] .nilslice t1.n (5 * 0):=⟨d1,IsAt.nil _ _ _ _ _,Nat.le_refl _,fun _ _ _=>rfl,Nat.le_refl _,by omega,m1,Nat.le_refl _⟩
  obtain ⟨e,L1,t2,rfl,rfl,l,v,bl,f,J,hT,hl,f5⟩:=loop_of hlp (fun j L' t'=>∃ l v bl f,StepsJ t1 t' d l v bl (5 * j)∧StepsTo l f∧l.length=j∧L'.find 0=.ptr d 0∧L'.find 5=v∧L'.find 6=.int .i64 f∧L'.find 7=.int .i64 ((i - j:Nat):Int))
   (fun e L' t'=>e=.exit 0∧∃ l v bl f,StepsJ t1 t' d l v bl (5 * i)∧StepsTo l f∧l.length=i∧L'.find 5=v) i (by unfold rounds;omega)
   ⟨[],.nilslice,t1.n,0,hJ,StepsTo.nil,rfl,by simp only [find_cons,Env.find_set,reduceIte,Nat.reduceEqDiff],by simp only [find_cons,Env.find_set,reduceIte,Nat.reduceEqDiff],by simp only [find_cons,Env.find_set,reduceIte,Nat.reduceEqDiff],by simp only [find_cons,Env.find_set,reduceIte,Nat.reduceEqDiff];rfl⟩
   (fun j L' t' hj ⟨l,v,bl,f,hJ,hT,hl,q0,q5,q6,q7⟩=>by
    by_cases hlt:j<i
    ·obtain ⟨L2,t2,l2,v2,bl2,f2,z1,z2,z3,z4,z5,z6,z7,z8⟩:=steps_round m (by omega) _ (i:=i - j - 1) hJ hT (by omega) (by omega) (by omega) (by omega) (by omega) q0 q5 q6 (by rw [q7,show i - j - 1+1=i - j by omega])
     exact .inl ⟨hlt,L2,t2,z1,l2,v2,bl2,f2,z2,z3,by omega,z5,z6,z7,z8.trans (by rw [show i - j - 1=i - (j+1) by omega])⟩
    ·obtain rfl:j=i:=by omega
     have e0:decide ((0:Int)<((0:Nat):Int))=false:=rfl
     rw [Nat.sub_self] at q7
     refine .inr ⟨.exit 0,L'.set 12 (.bool false),t',by simp,?_,rfl,l,v,bl,f,hJ,hT,hl,by simp only [Env.find_set,q5,reduceIte,Nat.reduceEqDiff]⟩
     simp (disch:=first|omega|(with_unfolding_all exact rfl)|(simp only[new_n,put_n,new_m];omega)|(refine put_m_le ?_;simp only[new_m];omega)) only [res11,K11r0,K11r1,K11r2,K11r3,K11r4,K11r5,K11r6,K11r7,K11r8,K11,K11l0,Abs.W,reduceIte,Nat.reduceEqDiff,Nat.reduceAdd,decide_true,decide_false,kLoop_def,Nat.reduceSub,List.cons_append,List.nil_append,List.append_nil,List.length_cons,List.length_nil,Env.find_set,q7,e0])
  obtain ⟨jd,ji,jlo,js,jn,jle,jm,jml⟩:=J
  have hne:l.map Step.cells≠[]:=fun h=>by
   have:l.length=0:=by rw [← List.length_map (f:=Step.cells),h];rfl
   omega
  obtain ⟨i1,i2,i3⟩:bl<t2.n∧v=.slice bl 0 l.length l.length true∧t2.h.get bl=some (.cells (l.map Step.cells).flatten (2+tag 75)):=by
   rcases ji.is with ⟨z,_⟩ | ⟨_,z1,z2,z3⟩
   ·exact absurd z hne
   ·rw [List.length_map] at z2;exact ⟨z1,z2,z3⟩
  subst i2
  simp (disch:=first|omega|(with_unfolding_all exact rfl)|(simp only[new_n,put_n,new_m];omega)|(refine put_m_le ?_;simp only[new_m];omega)) only [res11,K11r0,K11r1,K11r2,K11r3,K11r4,K11r5,K11r6,K11r7,K11r8,K11,Abs.W,reduceIte,Nat.reduceEqDiff,Nat.reduceAdd,decide_true,decide_false,kLoop_def,Nat.reduceSub,List.cons_append,List.nil_append,List.append_nil,List.length_cons,List.length_nil,Env.find_set,f5,Nat.zero_add]
  exact ⟨_,_,rfl,⟨fun c hc hcd=>(js c (by omega) hcd).trans (st1.same c hc hcd),by omega,by omega,fun _=>jm,by omega⟩,rfl,l,bl,rfl,jd,hT.ok (by omega) (by omega),by omega,by omega,i1,i3⟩) (by omega)
 exact ⟨l,bl,t,hr.symm.trans e,st,hq1,hq2,hq3,hq4,hq5,hq6⟩
end Go.Proofs.Ytamlnddeiokbdaa.walk
set_option maxRecDepth 10000
namespace Go.Abs
structure Past (u t:St) (k:Nat):Prop where
 same:∀ c,c<u.n→t.h.get c=u.h.get c
 n:u.n≤t.n
 le:t.n≤u.n+k
theorem Past.refl (u:St):Past u u 0:=⟨fun _ _=>rfl,Nat.le_refl _,Nat.le_refl _⟩
theorem Past.new {u t:St} {k:Nat} (h:Past u t k) (o:AObj):Past u (t.new o) (k+1):=⟨fun c hc=>by have:=h.n;rw [get_new_ne _ _ _ (by omega)];exact h.same c hc,by have:=h.n;rw [new_n];omega,by have:=h.le;rw [new_n];omega⟩
theorem Past.put {u t:St} {k b:Nat} (h:Past u t k) (o:AObj) (hb:u.n≤b):Past u (t.put b o) k:=⟨fun c hc=>by rw [get_put_ne' _ _ _ _ (by omega)];exact h.same c hc,h.n,h.le⟩
theorem Past.mono {u t:St} {j k:Nat} (h:Past u t j) (hk:j≤k):Past u t k:=⟨h.same,h.n,by have:=h.le;omega⟩
end Go.Abs
namespace Go.Proofs.Ytamlnddeiokbdaa.walk
open Go.Abs Go.Proofs.Ytamlnddeiokbdaa.code
end Go.Proofs.Ytamlnddeiokbdaa.walk
