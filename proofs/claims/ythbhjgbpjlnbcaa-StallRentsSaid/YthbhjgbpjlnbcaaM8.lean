/- Who can have a stall, by the statement's own answer, whoever asks. -/
import Derived.Test.YthbhjgbpjlnbcaaM6
import Derived.Test.YthbhjgbpjlnbcaaM7
import Derived.Test.YthbhjgbpjlnbcaaCodes
import Derived.Test.YthbhjgbpjlnbcaaM5
import Derived.Test.YthbhjgbpjlnbcaaWalkAll
set_option linter.unusedSimpArgs false
set_option maxHeartbeats 16000000
set_option linter.unusedVariables false
set_option maxRecDepth 10000
namespace Go.Proofs.Ythbhjgbpjlnbcaa.walk
open Go.Abs Go.Proofs.Ythbhjgbpjlnbcaa.code
theorem has2_ok (N:Nat) (hN:1≤N) (l:List Int) (x:Int) (v:AV) (s:St) (hR:RowsAt s.h s.n 1 (intRows l) v) (hl:l.length≤1000) (hs:s.n+10≤far) :
  call Try.prog X N (.fn 46) [v,.int .i64 x] s=.val (.bool (decide (x ∈ l))) s:=by
 obtain ⟨n,rfl⟩:∃ n,N=n+1:=⟨N - 1,by omega⟩
 refine call_plain' Try.func46 (fun u uh un um=>?_) rfl
 rw [← uh,← un] at hR
 have kv:∀ t,okA (.val v t)=.val v t:=fun t=>okA_ne hR.ne
 have lv:=rowLen hR
 have hf:far=1000000000:=rfl
 rw [enter46]
 simp (disch:=first|omega|(with_unfolding_all exact rfl)|(simp only[new_n,put_n,new_m];omega)|(refine put_m_le ?_;simp only[new_m];omega)) only [res46,K46r0,K46r1,K46r2,K46r3,K46r4,K46r5,K46r6,K46,Abs.W,reduceIte,Nat.reduceEqDiff,Nat.reduceAdd,decide_true,decide_false,kLoop_def,Nat.reduceSub,List.cons_append,List.nil_append,List.append_nil,List.length_cons,List.length_nil,Env.find_set,kv,lv]
 generalize hlp:loopN _ rounds _ _ _ _ _=q1
 obtain ⟨e,L1,s1,rfl,rfl,hQ⟩:=loop_of hlp (fun i L t=>t=u∧L.find 0=v∧L.find 1=.int .i64 x∧L.find 5=.int .i64 i∧x ∉ l.take i)
  (fun e L t=>t=u∧((e=.ret∧L.find 4=.bool true∧x ∈ l)∨(e=.exit 0∧x ∉ l))) l.length (by unfold rounds;omega)
  ⟨rfl,by simp only [find_cons,Env.find_set,reduceIte,Nat.reduceEqDiff],by simp only [find_cons,Env.find_set,reduceIte,Nat.reduceEqDiff],by simp only [find_cons,Env.find_set,reduceIte,Nat.reduceEqDiff];rfl,by simp⟩
  (fun i L t hi ⟨ht,q0,q1,q5,hx⟩=>by
   subst ht
   by_cases hlt:i<l.length
   ·have e0:decide ((i:Int)<(l.length:Int))=true:=decide_eq_true (by omega)
    obtain ⟨b,p,c,sz,r1,r2,r3,r4⟩:=rowInt hR hlt
    have ad:∀ s,aAdd s .i64 (i:Int) 1=.val (.int .i64 ((i:Int)+1)) s:=fun s=>aAdd_i64 s _ _ (by omega)
    by_cases he:l[i]=x
    ·have e1:decide (l[i]=x)=true:=decide_eq_true he
     refine .inr ⟨.ret,_,t,by simp,by
      simp (disch:=first|omega|(with_unfolding_all exact rfl)|(simp only[new_n,put_n,new_m];omega)|(refine put_m_le ?_;simp only[new_m];omega)) only [res46,K46r0,K46r1,K46r2,K46r3,K46r4,K46r5,K46r6,K46,K46l0,Abs.W,reduceIte,Nat.reduceEqDiff,Nat.reduceAdd,decide_true,decide_false,kLoop_def,Nat.reduceSub,List.cons_append,List.nil_append,List.append_nil,List.length_cons,List.length_nil,Env.find_set,q0,q1,q5,e0,kv,lv,r2,r3,r4,e1]
      rfl,rfl,.inl ⟨rfl,by simp only [Env.find_set,reduceIte,Nat.reduceEqDiff],by rw [← he];exact List.getElem_mem hlt⟩⟩
    ·have e1:decide (l[i]=x)=false:=decide_eq_false he
     refine .inl ⟨hlt,_,t,by
      simp (disch:=first|omega|(with_unfolding_all exact rfl)|(simp only[new_n,put_n,new_m];omega)|(refine put_m_le ?_;simp only[new_m];omega)) only [res46,K46r0,K46r1,K46r2,K46r3,K46r4,K46r5,K46r6,K46,K46l0,Abs.W,reduceIte,Nat.reduceEqDiff,Nat.reduceAdd,decide_true,decide_false,kLoop_def,Nat.reduceSub,List.cons_append,List.nil_append,List.append_nil,List.length_cons,List.length_nil,Env.find_set,q0,q1,q5,e0,kv,lv,r2,r3,r4,e1,ad]
      rfl,rfl,?_,?_,?_,?_⟩
     ·simp only [Env.find_set,q0,reduceIte,Nat.reduceEqDiff]
     ·simp only [Env.find_set,q1,reduceIte,Nat.reduceEqDiff]
     ·simp only [Env.find_set,reduceIte,Nat.reduceEqDiff];rfl
     ·rw [take_snoc hlt,List.mem_append,List.mem_singleton]
      exact fun h=>h.elim hx fun h=>he h.symm
   ·obtain rfl:i=l.length:=by omega
    have e0:decide ((l.length:Int)<(l.length:Int))=false:=by simp
    refine .inr ⟨.exit 0,L.set 9 (.bool false),t,by simp,?_,rfl,.inr ⟨rfl,by rwa [List.take_length] at hx⟩⟩
    simp (disch:=first|omega|(with_unfolding_all exact rfl)|(simp only[new_n,put_n,new_m];omega)|(refine put_m_le ?_;simp only[new_m];omega)) only [res46,K46r0,K46r1,K46r2,K46r3,K46r4,K46r5,K46r6,K46,K46l0,Abs.W,reduceIte,Nat.reduceEqDiff,Nat.reduceAdd,decide_true,decide_false,kLoop_def,Nat.reduceSub,List.cons_append,List.nil_append,List.append_nil,List.length_cons,List.length_nil,Env.find_set,q0,q5,kv,lv,e0])
 rcases hQ with ⟨rfl,h4,hx⟩ | ⟨rfl,hx⟩
 ·rw [decide_eq_true hx]
  simp (disch:=first|omega|(with_unfolding_all exact rfl)|(simp only[new_n,put_n,new_m];omega)|(refine put_m_le ?_;simp only[new_m];omega)) only [res46,K46r0,K46r1,K46r2,K46r3,K46r4,K46r5,K46r6,K46,Abs.W,reduceIte,Nat.reduceEqDiff,Nat.reduceAdd,decide_true,decide_false,kLoop_def,Nat.reduceSub,List.cons_append,List.nil_append,List.append_nil,List.length_cons,List.length_nil,Env.find_set,h4]
  exact ⟨_,rfl,by omega⟩
 ·rw [decide_eq_false hx]
  simp (disch:=first|omega|(with_unfolding_all exact rfl)|(simp only[new_n,put_n,new_m];omega)|(refine put_m_le ?_;simp only[new_m];omega)) only [res46,K46r0,K46r1,K46r2,K46r3,K46r4,K46r5,K46r6,K46,Abs.W,reduceIte,Nat.reduceEqDiff,Nat.reduceAdd,decide_true,decide_false,kLoop_def,Nat.reduceSub,List.cons_append,List.nil_append,List.append_nil,List.length_cons,List.length_nil,Env.find_set]
  exact ⟨_,rfl,by omega⟩
theorem can_eq {l:Letting} (ok:l.Ok) {a st:Nat} (ha:a<l.appls.length) (hst:st<l.stalls.length):canI l st a=(decide (l.appls[a].wishes.idxOf (st:Int)<l.appls[a].wishes.length) && (!decide (l.stalls[st].rule=3) || decide (l.stalls[st].least≤l.appls[a].bids.getD (l.appls[a].wishes.idxOf (st:Int)) 0))):=by
 have A:=ok.ap _ (List.getElem_mem ha)
 cases hc:canI l st a with
 | true =>
  obtain ⟨k,h1,h2,hidx,hbid⟩:=can_idx ok ha hst hc
  rw [hidx]
  have gd:l.appls[a].bids.getD k 0=l.appls[a].bids[k]:=by simp [List.getD,h2]
  rw [gd,decide_eq_true h1]
  by_cases hr:l.stalls[st].rule=3
  ·rw [decide_eq_true (hbid hr),Bool.or_true];rfl
  ·rw [decide_eq_false hr];rfl
 | false =>
  symm
  rw [Bool.eq_false_iff]
  intro hT
  rw [Bool.and_eq_true,decide_eq_true_eq] at hT
  obtain ⟨h1,h2⟩:=hT
  have hk:=List.getElem_idxOf h1
  generalize l.appls[a].wishes.idxOf (st:Int)=k at h1 h2 hk
  have hb:k<l.appls[a].bids.length:=by rw [A.bl];exact h1
  have gd:l.appls[a].bids.getD k 0=l.appls[a].bids[k]:=by simp [List.getD,hb]
  rw [gd] at h2
  have hz:k<(l.appls[a].wishes.zip l.appls[a].bids).length:=by rw [List.length_zip];omega
  have ez:(l.appls[a].wishes.zip l.appls[a].bids)[k]=(l.appls[a].wishes[k],l.appls[a].bids[k]):=List.getElem_zip
  have hm:(l.appls[a].wishes[k],l.appls[a].bids[k]) ∈ l.appls[a].wishes.zip l.appls[a].bids:=by rw [← ez];exact List.getElem_mem hz
  have hcan:can l.stalls (l.appls[a].wishes[k],l.appls[a].bids[k])=true:=by
   unfold can
   have e3:stallAt l.stalls l.appls[a].wishes[k]=l.stalls[st]:=by rw [hk];unfold stallAt;simp [List.getD,hst]
   simp only [e3]
   rcases Bool.or_eq_true _ _▸h2 with h | h
   ·have:decide (l.stalls[st].rule=3)=false:=by simpa using h
    rw [this];rfl
   ·have:=of_decide_eq_true h
    rw [decide_eq_false (show ¬ l.appls[a].bids[k]<l.stalls[st].least by omega),Bool.and_false];rfl
  have:canI l st a=true:=by
   show (bidOf (st:Int) (reachOf l.stalls (applAt l a))).2=true
   rw [bidOf_iff,applAt_of ha]
   exact ⟨_,List.mem_filter.mpr ⟨hm,hcan⟩,hk⟩
  rw [hc] at this
  cases this
theorem can_val (N:Nat) (hN:2≤N) {no na:Nat→Prop} {l:Letting} {vS vA:AV} {a st:Nat} {s:St} (ok:l.Ok) (ha:a<l.appls.length) (hst:st<l.stalls.length) (hL:LetAt no na s.h s.n l vS vA) (hs:s.n+300≤far) :
  call Try.prog X N (.fn 19) [.agg (letV vS vA),.int .i64 (a:Int),.int .i64 (st:Int)] s=.val (.bool (canI l st a)) s:=by
 obtain ⟨n,rfl⟩:∃ n,N=n+1:=⟨N - 1,by omega⟩
 refine call_plain' Try.func19 (fun u uh un um=>?_) rfl
 have hf:far=1000000000:=rfl
 rw [← uh,← un] at hL
 have hcv:=can_eq ok ha hst
 have hbl:=(ok.ap _ (List.getElem_mem ha)).bl
 obtain ⟨k,hidx⟩:∃ k,l.appls[a].wishes.idxOf (st:Int)=k:=⟨_,rfl⟩
 have hkl:k≤l.appls[a].wishes.length:=by rw [← hidx];exact List.idxOf_le_length
 rw [hidx] at hcv
 rw [hcv]
 obtain ⟨w,hw⟩:∃ w:St,w=u.new (.cells [vS,vA] (tag 28)):=⟨_,rfl⟩
 have wn:w.n=u.n+1:=by rw [hw];rfl
 have wm:w.m=far:=by rw [hw];exact um
 have wg:∀ c,c<u.n→w.h.get c=u.h.get c:=fun c hc=>by rw [hw,get_new_ne _ _ _ (by omega)]
 have w0:w.h.get u.n=some (.cells [vS,vA] (tag 28)):=by rw [hw];exact get_new_eq _ _ _ rfl (by omega)
 have hLw:=hL.grow wg (by omega:u.n≤w.n)
 have kA:=hLw.okV
 have kS:=hLw.okS
 obtain ⟨ww,pa,oa,ca,za,r1,r2,r3,r4,r5,r6⟩:=hLw.getA2 ha
 obtain ⟨w1,w2⟩:=ww
 simp only at r4 r5 r6
 have wl8:=(ok.ap _ (List.getElem_mem ha)).wl
 obtain ⟨ps,os,cs,zs,⟨p0,_⟩,p1,p2,p3⟩:=hLw.getS2 hst
 have c0:=cut_nth p3 (show 0<3 by omega)
 have c1:=cut_nth p3 (show 1<3 by omega)
 rw [Nat.add_zero] at c0
 have m0:nth [AV.int .i64 l.stalls[st].rule,.int .i64 l.stalls[st].least,.int .i64 l.stalls[st].heir] 0=.int .i64 l.stalls[st].rule:=rfl
 have m1:nth [AV.int .i64 l.stalls[st].rule,.int .i64 l.stalls[st].least,.int .i64 l.stalls[st].heir] 1=.int .i64 l.stalls[st].least:=rfl
 rw [m0] at c0
 rw [m1] at c1
 generalize l.appls[a]=A at *
 generalize l.stalls[st]=SR at *
 have sw1:=r5.scal
 have sw2:=r6.scal
 have k5:=r5.okA
 have k6:=r6.okA
 obtain ⟨y,hy⟩:∃ y:St,y=(w.new (.cells [.int .i64 0,.int .i64 0,.nilslice,.nilslice] (tag 37))).put w.n (.cells [.int .i64 A.years,.int .i64 A.token,w1,w2] (tag 37)):=⟨_,rfl⟩
 have yn:y.n=w.n+1:=by rw [hy];rfl
 have ym:u.n≤y.m:=by rw [hy];simp only [St.put,minN_eq,new_m];omega
 have yg:∀ c,c<w.n→y.h.get c=w.h.get c:=fun c hc=>by rw [hy,get_put_ne' _ _ _ _ (by omega),get_new_ne _ _ _ (by omega)]
 have yp:y.h.get w.n=some (.cells [.int .i64 A.years,.int .i64 A.token,w1,w2] (tag 37)):=by rw [hy];exact get_put_eq _ _ _ _ rfl (by omega)
 have y0:=(yg u.n (by omega)).trans w0
 have hWy:=r5.grow yg (by omega:w.n≤y.n)
 have hBy:=r6.grow yg (by omega:w.n≤y.n)
 have lw:=rowLen hWy.at_
 have ys:=(yg ps p0).trans p2
 have wo:=wish_ok n (by omega) (a:=.int .i64 A.years) (b:=.int .i64 A.token) (bv:=w2) (st:=(st:Int)) hWy wl8 (by omega)
 rw [hidx] at wo
 have u7:=fun cl L s=>congrFun (congrFun (congrFun K19r3s7.eq_1 cl) L) s
 have u8:=fun cl L s=>congrFun (congrFun (congrFun K19r3s8.eq_1 cl) L) s
 have u9:=fun cl L s=>congrFun (congrFun (congrFun K19r3s9.eq_1 cl) L) s
 have u10:=fun cl L s=>congrFun (congrFun (congrFun K19r3s10.eq_1 cl) L) s
 have u11:=fun cl L s=>congrFun (congrFun (congrFun K19r3s11.eq_1 cl) L) s
 have u12:=fun cl L s=>congrFun (congrFun (congrFun K19r3s12.eq_1 cl) L) s
 have u13:=fun cl L s=>congrFun (congrFun (congrFun K19r3s13.eq_1 cl) L) s
 have u14:=fun cl L s=>congrFun (congrFun (congrFun K19r3s14.eq_1 cl) L) s
 have u15:=fun cl L s=>congrFun (congrFun (congrFun K19r3s15.eq_1 cl) L) s
 have u16:=fun cl L s=>congrFun (congrFun (congrFun K19r3s16.eq_1 cl) L) s
 have u17:=fun cl L s=>congrFun (congrFun (congrFun K19r3s17.eq_1 cl) L) s
 have u18:=fun cl L s=>congrFun (congrFun (congrFun K19r3s18.eq_1 cl) L) s
 have u19:=fun cl L s=>congrFun (congrFun (congrFun K19r3s19.eq_1 cl) L) s
 have u20:=fun cl L s=>congrFun (congrFun (congrFun K19r3s20.eq_1 cl) L) s
 have u21:=fun cl L s=>congrFun (congrFun (congrFun K19r3s21.eq_1 cl) L) s
 have u22:=fun cl L s=>congrFun (congrFun (congrFun K19r3s22.eq_1 cl) L) s
 have u23:=fun cl L s=>congrFun (congrFun (congrFun K19r3s23.eq_1 cl) L) s
 have u24:=fun cl L s=>congrFun (congrFun (congrFun K19r3s24.eq_1 cl) L) s
 have u25:=fun cl L s=>congrFun (congrFun (congrFun K19r3s25.eq_1 cl) L) s
 have u26:=fun cl L s=>congrFun (congrFun (congrFun K19r3s26.eq_1 cl) L) s
 have u27:=fun cl L s=>congrFun (congrFun (congrFun K19r3s27.eq_1 cl) L) s
 rw [enter19]
 simp (disch:=first|omega|(with_unfolding_all exact rfl)|(simp only[new_n,put_n,new_m];omega)|(refine put_m_le ?_;simp only[new_m];omega)) only [K19,K19r0,Abs.W,reduceIte,Nat.reduceEqDiff,Nat.reduceAdd,decide_true,decide_false,kLoop_def,Nat.reduceSub,List.cons_append,List.nil_append,List.append_nil,List.length_cons,List.length_nil]
 rw [← hw]
 simp (disch:=first|omega|(with_unfolding_all exact rfl)|(simp only[new_n,put_n,new_m];omega)|(refine put_m_le ?_;simp only[new_m];omega)) only [K19r1,Abs.W,reduceIte,Nat.reduceEqDiff,Nat.reduceAdd,decide_true,decide_false,kLoop_def,Nat.reduceSub,List.cons_append,List.nil_append,List.append_nil,List.length_cons,List.length_nil,Env.find_set,w0,kA,r2,r3,r4,sw1.1,sw1.2.1,sw1.2.2,sw2.1,sw2.2.1,sw2.2.2,Nat.zero_add]
 rw [← hy]
 by_cases hk:k<A.wishes.length
 ·have h2:k<A.bids.length:=by omega
  obtain ⟨bb,pb,cb,zb,x1,x2,x3,x4⟩:=rowInt hBy.at_ h2
  have gd:A.bids.getD k 0=A.bids[k]:=by simp [List.getD,h2]
  rw [gd]
  have e0:decide ((k:Int)<(A.wishes.length:Int))=true:=decide_eq_true (by omega)
  have e0':decide (k<A.wishes.length)=true:=decide_eq_true hk
  by_cases hr:SR.rule=3
  ·have e1:decide (SR.rule=3)=true:=decide_eq_true hr
   by_cases hb:SR.least≤A.bids[k]
   ·have e2:decide (SR.least≤A.bids[k])=true:=decide_eq_true hb
    rw [e0',e1,e2]
    simp (config:={ maxSteps:=2000000 }) (disch:=first|omega|(with_unfolding_all exact rfl)|(simp only[new_n,put_n,new_m];omega)|(refine put_m_le ?_;simp only[new_m];omega)) only [K19r2,K19r3,u7,u8,u9,u10,u11,u12,u13,u14,u15,u16,u17,u18,u19,u20,u21,u22,u23,u24,u25,u26,u27,res19,Abs.W,reduceIte,Nat.reduceEqDiff,Nat.reduceAdd,decide_true,decide_false,kLoop_def,Nat.reduceSub,List.cons_append,List.nil_append,List.append_nil,List.length_cons,List.length_nil,Env.find_set,y0,yp,k5,k6,kS,lw,wo,e0,p1,ys,c0,c1,e1,x2,x3,x4,e2,Nat.zero_add,Nat.add_zero]
    exact ⟨_,rfl,ym⟩
   ·have e2:decide (SR.least≤A.bids[k])=false:=decide_eq_false hb
    rw [e0',e1,e2]
    simp (config:={ maxSteps:=2000000 }) (disch:=first|omega|(with_unfolding_all exact rfl)|(simp only[new_n,put_n,new_m];omega)|(refine put_m_le ?_;simp only[new_m];omega)) only [K19r2,K19r3,u7,u8,u9,u10,u11,u12,u13,u14,u15,u16,u17,u18,u19,u20,u21,u22,u23,u24,u25,u26,u27,res19,Abs.W,reduceIte,Nat.reduceEqDiff,Nat.reduceAdd,decide_true,decide_false,kLoop_def,Nat.reduceSub,List.cons_append,List.nil_append,List.append_nil,List.length_cons,List.length_nil,Env.find_set,y0,yp,k5,k6,kS,lw,wo,e0,p1,ys,c0,c1,e1,x2,x3,x4,e2,Nat.zero_add,Nat.add_zero]
    exact ⟨_,rfl,ym⟩
  ·have e1:decide (SR.rule=3)=false:=decide_eq_false hr
   rw [e0',e1]
   simp (config:={ maxSteps:=2000000 }) (disch:=first|omega|(with_unfolding_all exact rfl)|(simp only[new_n,put_n,new_m];omega)|(refine put_m_le ?_;simp only[new_m];omega)) only [K19r2,K19r3,u7,u8,u9,u10,u11,u12,u13,u14,u15,u16,u17,u18,u19,u20,u21,u22,u23,u24,u25,u26,u27,res19,Abs.W,reduceIte,Nat.reduceEqDiff,Nat.reduceAdd,decide_true,decide_false,kLoop_def,Nat.reduceSub,List.cons_append,List.nil_append,List.append_nil,List.length_cons,List.length_nil,Env.find_set,y0,yp,k5,k6,kS,lw,wo,e0,p1,ys,c0,c1,e1,x2,x3,x4,Nat.zero_add,Nat.add_zero]
   exact ⟨_,rfl,ym⟩
 ·have e0:decide ((k:Int)<(A.wishes.length:Int))=false:=decide_eq_false (by omega)
  have e0':decide (k<A.wishes.length)=false:=decide_eq_false hk
  rw [e0']
  simp (config:={ maxSteps:=2000000 }) (disch:=first|omega|(with_unfolding_all exact rfl)|(simp only[new_n,put_n,new_m];omega)|(refine put_m_le ?_;simp only[new_m];omega)) only [K19r2,K19r3,u7,u8,u9,u10,u11,u12,u13,u14,u15,u16,u17,u18,u19,u20,u21,u22,u23,u24,u25,u26,u27,res19,Abs.W,reduceIte,Nat.reduceEqDiff,Nat.reduceAdd,decide_true,decide_false,kLoop_def,Nat.reduceSub,List.cons_append,List.nil_append,List.append_nil,List.length_cons,List.length_nil,Env.find_set,y0,yp,k5,k6,kS,lw,wo,e0,p1,ys,c0,c1,Nat.zero_add,Nat.add_zero]
  exact ⟨_,rfl,ym⟩
end Go.Proofs.Ythbhjgbpjlnbcaa.walk
set_option maxRecDepth 10000
namespace Go.Proofs.Ythbhjgbpjlnbcaa.walk
open Go.Abs Go.Proofs.Ythbhjgbpjlnbcaa.code
def Letting.told (l:Letting) (who:Nat) (ws bs:List Int):Letting:=⟨l.stalls,l.appls.set who ⟨(applAt l who).years,(applAt l who).token,ws,bs⟩⟩
theorem bidOf_of:∀ {T:List (Int × Int)} {x:Int × Int},(T.map Prod.fst).Nodup→x ∈ T→bidOf x.1 T=(x.2,true)
 | y::T,x,hd,hx=>by
  obtain ⟨h1,h2⟩:=List.nodup_cons.mp hd
  unfold bidOf
  by_cases e:y.1=x.1
  ·rw [if_pos e]
   rcases List.mem_cons.mp hx with h | h
   ·rw [h]
   ·exact absurd (List.mem_map.mpr ⟨x,h,e.symm⟩) h1
  ·rw [if_neg e]
   rcases List.mem_cons.mp hx with h | h
   ·exact absurd (by rw [h]) e
   ·exact bidOf_of h2 h
end Go.Proofs.Ythbhjgbpjlnbcaa.walk
set_option maxRecDepth 10000
namespace Go.Proofs.Ythbhjgbpjlnbcaa.walk
open Go.Abs Go.Proofs.Ythbhjgbpjlnbcaa.code
namespace Mkt
end Mkt
end Go.Proofs.Ythbhjgbpjlnbcaa.walk
set_option maxRecDepth 10000
namespace Go.Proofs.Ythbhjgbpjlnbcaa.walk
open Go.Abs Go.Proofs.Ythbhjgbpjlnbcaa.code
def Spliced (k:Nat) (a a':Appl):Prop:=a'=a∨∃ (p:Nat) (b:Int),p≤a.wishes.length∧0≤b∧b≤8∧a'=⟨a.years,a.token,a.wishes.take p++(k:Int)::a.wishes.drop p,a.bids.take p++b::a.bids.drop p⟩
structure RoomL (l l':Letting):Prop where
 st:∃ r,1≤r∧r≤3∧l'.stalls=l.stalls++[⟨r,0, -1⟩]
 len:l'.appls.length=l.appls.length
 ap:∀ i (h:i<l.appls.length) (h':i<l'.appls.length),Spliced l.stalls.length l.appls[i] l'.appls[i]
 k:l.stalls.length≤6
theorem Spliced.years {k:Nat} {a a':Appl} (s:Spliced k a a'):a'.years=a.years:=by
 rcases s with h | ⟨p,b,_,_,_,h⟩<;>rw [h]
theorem Spliced.token {k:Nat} {a a':Appl} (s:Spliced k a a'):a'.token=a.token:=by
 rcases s with h | ⟨p,b,_,_,_,h⟩<;>rw [h]
theorem few_wishes {k:Nat} {w:List Int} (h:∀ x ∈ w,0≤x∧x<k) (nd:w.Nodup):w.length≤k:=by
 have h1:=len_sub (k:=List.range k) (nodup_toNat (fun x hx=>(h x hx).1) nd) fun x hx=>by
  obtain ⟨y,y1,y2⟩:=List.mem_map.mp hx
  have:=h y y1
  exact List.mem_range.mpr (by omega)
 rwa [List.length_map,List.length_range] at h1
theorem Spliced.ok {k:Nat} {a a':Appl} (s:Spliced k a a') (hk:k≤6) (A:a.Ok k):a'.Ok (k+1):=by
 have wl:=few_wishes A.w A.nd
 have bl:=A.bl
 rcases s with h | ⟨p,b,h1,h2,h3,h⟩
 ·rw [h]
  exact ⟨A.y0,A.y1,A.t0,A.t1,fun x hx=>by have:=A.w x hx;omega,A.nd,A.wl,A.bl,A.b⟩
 ·subst h
  refine ⟨A.y0,A.y1,A.t0,A.t1,fun x hx=>?_,?_,?_,?_,fun x hx=>?_⟩
  ·rcases List.mem_append.mp hx with h | h
   ·have:=A.w x (List.mem_of_mem_take h);omega
   ·rcases List.mem_cons.mp h with h | h
    ·omega
    ·have:=A.w x (List.mem_of_mem_drop h);omega
  ·refine (List.perm_middle.nodup_iff).mpr ?_
   rw [List.take_append_drop]
   refine List.nodup_cons.mpr ⟨fun hm=>?_,A.nd⟩
   have:=A.w _ hm
   omega
  ·show (a.wishes.take p++(k:Int)::a.wishes.drop p).length≤8
   rw [List.length_append,List.length_cons,List.length_take,List.length_drop];omega
  ·show (a.bids.take p++b::a.bids.drop p).length=(a.wishes.take p++(k:Int)::a.wishes.drop p).length
   rw [List.length_append,List.length_cons,List.length_take,List.length_drop,List.length_append,List.length_cons,List.length_take,List.length_drop];omega
  ·rcases List.mem_append.mp hx with h | h
   ·exact A.b x (List.mem_of_mem_take h)
   ·rcases List.mem_cons.mp h with h | h
    ·omega
    ·exact A.b x (List.mem_of_mem_drop h)
theorem RoomL.slen {l l':Letting} (r:RoomL l l'):l'.stalls.length=l.stalls.length+1:=by
 obtain ⟨x,_,_,h⟩:=r.st
 rw [h,List.length_append];rfl
theorem RoomL.ok {l l':Letting} (r:RoomL l l') (ok:l.Ok):l'.Ok:=by
 have sl:=r.slen
 have k:=r.k
 obtain ⟨x,x1,x2,x3⟩:=r.st
 refine ⟨by omega,by omega,by rw [r.len];exact ok.m1,fun s hs=>?_,fun a ha=>?_⟩
 ·rw [r.len]
  rw [x3] at hs
  rcases List.mem_append.mp hs with h | h
  ·exact ok.st s h
  ·rw [List.mem_singleton.mp h]
   exact ⟨x1,x2,by show (0:Int)≤0;omega,by show (0:Int)≤1000;omega,by show (-1:Int) ≤ -1;omega,by show (-1:Int)<_;omega⟩
 ·obtain ⟨i,hi,he⟩:=List.getElem_of_mem ha
  rw [← he,sl]
  exact (r.ap i (by rw [← r.len];exact hi) hi).ok k (ok.ap _ (List.getElem_mem _))
theorem RoomL.stall {l l':Letting} (r:RoomL l l') {x:Int} (h:0≤x∧x<l.stalls.length):stallAt l'.stalls x=stallAt l.stalls x:=by
 obtain ⟨y,_,_,e⟩:=r.st
 unfold walk.stallAt
 rw [e]
 simp [List.getD,List.getElem?_append_left (show x.toNat<l.stalls.length by omega)]
theorem filter_can {l l':Letting} (r:RoomL l l'):∀ {T:List (Int × Int)},(∀ x ∈ T,0≤x.1∧x.1<l.stalls.length)→T.filter (can l'.stalls)=T.filter (can l.stalls):=fun {T} h=>by
 refine List.filter_congr fun x hx=>?_
 unfold can
 rw [r.stall (h x hx)]
theorem RoomL.reach {l l':Letting} (r:RoomL l l') (ok:l.Ok) {a:Nat} (ha:a<l.appls.length):reachOf l'.stalls (applAt l' a)=reachOf l.stalls (applAt l a)∨∃ p q b,reachOf l.stalls (applAt l a)=p++q∧reachOf l'.stalls (applAt l' a)=p++((l.stalls.length:Int),b)::q:=by
 have A:=ok.ap _ (List.getElem_mem ha)
 have ha':a<l'.appls.length:=by rw [r.len];exact ha
 rw [applAt_of ha,applAt_of ha']
 have hz:∀ x ∈ l.appls[a].wishes.zip l.appls[a].bids,0≤x.1∧x.1<l.stalls.length:=fun x hx=>A.w _ (zip_mem hx).1
 rcases r.ap a ha ha' with h | ⟨p,b,h1,_,_,h⟩
 ·left
  rw [h]
  unfold reachOf
  exact filter_can r hz
 ·rw [h]
  have bl:=A.bl
  have e0:l.appls[a].wishes.zip l.appls[a].bids=(l.appls[a].wishes.take p).zip (l.appls[a].bids.take p)++(l.appls[a].wishes.drop p).zip (l.appls[a].bids.drop p):=by
   conv=>lhs;rw [← List.take_append_drop p l.appls[a].wishes,← List.take_append_drop p l.appls[a].bids]
   exact List.zip_append (by rw [List.length_take,List.length_take];omega)
  have e1:(l.appls[a].wishes.take p++(l.stalls.length:Int)::l.appls[a].wishes.drop p).zip (l.appls[a].bids.take p++b::l.appls[a].bids.drop p)=(l.appls[a].wishes.take p).zip (l.appls[a].bids.take p)++((l.stalls.length:Int),b)::(l.appls[a].wishes.drop p).zip (l.appls[a].bids.drop p):=by
   rw [List.zip_append (by rw [List.length_take,List.length_take];omega)]
   rfl
  unfold reachOf
  show (_=_)∨_
  simp only
  rw [e1,e0]
  rw [e0] at hz
  rw [List.filter_append,List.filter_append,filter_can r (fun x hx=>hz x (List.mem_append_left _ hx)),List.filter_cons,filter_can r (fun x hx=>hz x (List.mem_append_right _ hx))]
  by_cases hc:can l'.stalls ((l.stalls.length:Int),b)=true
  ·right
   rw [if_pos hc]
   exact ⟨_,_,b,rfl,rfl⟩
  ·left
   rw [if_neg hc]
theorem RoomL.draw {l l':Letting} (r:RoomL l l'):drI l'=drI l:=by
 have:∀ (x y:List Appl),y.length=x.length→(∀ i (h:i<x.length) (h':i<y.length),y[i].token=x[i].token)→tok y=tok x:=by
  intro x
  induction x with
  | nil=>intro y h _;rw [List.length_eq_zero_iff.mp h]
  | cons a x ih =>
   intro y h ht
   cases y with
   | nil=>simp at h
   | cons b y =>
    show b.token.toNat+tok y=a.token.toNat+tok x
    have h0:b.token=a.token:=ht 0 (by simp) (by simp)
    rw [h0,ih y (by simpa using h) fun i h1 h2=>ht (i+1) (by simpa using h1) (by simpa using h2)]
 unfold drI drawL
 rw [r.len,this l.appls l'.appls r.len fun i h h'=>(r.ap i h h').token]
end Go.Proofs.Ythbhjgbpjlnbcaa.walk
set_option maxRecDepth 10000
namespace Go.Abs
structure Rest (no:Nat→Prop) (h:Heap) (n w:Nat) (rows:List (List AV)) (v:AV):Prop where
 wide:∀ r ∈ rows,r.length=w
 first:∀ s:St,(∀ b,b<n→no b→s.h.get b=h.get b)→lenA v=some rows.length∧firstA w rows.length s v=some rows.flatten
 ok:∀ t,okA (.val v t)=.val v t
theorem flatten_drop:∀ {rows:List (List AV)} {w:Nat},(∀ r ∈ rows,r.length=w)→∀ i,(rows.drop i).flatten=rows.flatten.drop (i * w)
 | [],w,_,i=>by simp
 | r::rows,w,h,0=>by simp
 | r::rows,w,h,i+1=>by
  rw [List.drop_succ_cons,flatten_drop (fun x hx=>h x (List.mem_cons_of_mem _ hx)) i,List.flatten_cons,Nat.succ_mul,Nat.add_comm (i * w) w,← List.drop_drop]
  have hr:=h r (List.mem_cons_self ..)
  rw [← hr,List.drop_left]
theorem Sl.from_ {no:Nat→Prop} {h:Heap} {n w i:Nat} {rows:List (List AV)} {v:AV} (r:Sl no h n w rows v) (hi:i≤rows.length):∃ v',(∀ s,sliceVal w (some (.int .i64 (i:Int))) none s v=.val v' s)∧Rest no h n w (rows.drop i) v':=by
 have wd:∀ x ∈ rows.drop i,x.length=w:=fun x hx=>r.wide x (List.mem_of_mem_drop hx)
 rcases r.is with ⟨h1,h2⟩ | ⟨b,o,cap,e,c,sz,q1,q2,q3,q4,q5,q6⟩
 ·subst h1;subst h2
  have:i=0:=by simpa using hi
  subst this
  exact ⟨.nilslice,fun s=>rfl,wd,fun s _=>⟨rfl,rfl⟩,fun _=>rfl⟩
 ·subst q4
  have e1:boundsA rows.length cap (some (.int .i64 (i:Int))) none=some (i,rows.length):=by
   unfold boundsA hiA loA
   simp only [boundA_nat _ _ _ hi]
  have ld:(rows.drop i).length=rows.length - i:=List.length_drop
  by_cases hc:cap=i
  ·have hil:rows.length=i:=by have:=q3.1;omega
   have e0:rows.drop i=[]:=List.drop_eq_nil_of_le (by omega)
   subst hc
   cases e with
   | true =>
    refine ⟨.tail b (o+cap * w),fun s=>?_,wd,fun s _=>?_,fun _=>rfl⟩
    ·unfold sliceVal
     simp only [Nat.ble_eq_true_of_le q3.1,e1,Nat.beq_refl,if_true]
    ·rw [e0];exact ⟨rfl,rfl⟩
   | false =>
    refine ⟨.slice b o (rows.length - cap) 0 false,fun s=>?_,wd,fun s hs=>?_,fun _=>rfl⟩
    ·unfold sliceVal
     simp only [Nat.ble_eq_true_of_le q3.1,e1,Nat.beq_refl]
     rfl
    ·rw [e0]
     refine ⟨by show some (rows.length - cap)=_;rw [hil,Nat.sub_self];rfl,?_⟩
     show (match s.h.get b with | some (.cells c _)=>Abs.cut o (0 * w) c | some (.fam c _ q _)=>Abs.cut o (0 * w) (c.take q) | _=>none)=_
     rw [hs b q1 q2,q5]
     obtain ⟨x,y,z1,z2,z3⟩:=cut_some q6
     have:=cut_skip x (rows.flatten++y) 0 0
     rw [← List.append_assoc,← z1,z2,Nat.add_zero] at this
     show Abs.cut o (0 * w) c=_
     rw [Nat.zero_mul,this,cut_zero]
     cases rows.flatten++y<;>rfl
  ·have hlt:i<cap:=by have:=q3.1;omega
   refine ⟨.slice b (o+i * w) (rows.length - i) (cap - i) e,fun s=>slice_from w s b o rows.length cap i e q3.1 hi hlt,wd,fun s hs=>⟨by show some (rows.length - i)=_;rw [ld],?_⟩,fun _=>rfl⟩
   show (match s.h.get b with | some (.cells c _)=>Abs.cut (o+i * w) ((rows.drop i).length * w) c | some (.fam c _ q _)=>Abs.cut (o+i * w) ((rows.drop i).length * w) (c.take q) | _=>none)=_
   rw [hs b q1 q2,q5]
   show Abs.cut (o+i * w) ((rows.drop i).length * w) c=_
   refine cut_cut q6 ?_
   have hf:=flatten_len r.wide
   have hs1:rows.flatten=rows.flatten.take (i * w)++rows.flatten.drop (i * w):=(List.take_append_drop _ _).symm
   have ht:(rows.flatten.take (i * w)).length=i * w:=by
    rw [List.length_take,hf]
    have:=Nat.mul_le_mul_right w hi
    omega
   have:=cut_skip (rows.flatten.take (i * w)) (rows.flatten.drop (i * w)) 0 ((rows.drop i).length * w)
   rw [ht,← hs1,Nat.add_zero] at this
   rw [this,cut_zero,flatten_drop r.wide i]
   have e2:=cut1_all (rows.flatten.drop (i * w))
   rw [← flatten_drop r.wide i,flatten_len wd] at e2
   rw [flatten_drop r.wide i] at e2
   exact e2
end Go.Abs
namespace Go.Proofs.Ythbhjgbpjlnbcaa.walk
open Go.Abs Go.Proofs.Ythbhjgbpjlnbcaa.code
theorem intRows_app (l k:List Int):intRows (l++k)=intRows l++intRows k:=by unfold intRows;rw [List.map_append]
theorem copy_push {s:St} {a p sz:Nat} {l:List Int} {w:AV} {x:Int} (hI:l≠[]→IsAt s.h s.n (a+1) 1 (tag 3) (intRows l) w) (h0:l=[]→∃ sz,w=.slice a 0 0 0 false∧s.h.get a=some (.cells [] sz)) (hp:s.h.get p=some (.cells [.int .i64 x] sz)) (hl:l.length≤1000) (hs:s.n+10≤far) :
  ∃ v' s',appendA false 1 8 (tag 3) s w (.slice p 0 1 1 false)=.val v' s'∧IsAt s'.h s'.n s.n 1 (tag 3) (intRows (l++[x])) v'∧s'.n=s.n+1∧(∀ c,c<s.n→c≠a+1→s'.h.get c=s.h.get c)∧(∀ k,k≤a→k≤s.n→k≤s.m→k≤s'.m)∧s'.m≤s.m:=by
 have hf:far=1000000000:=rfl
 by_cases e:l=[]
 ·obtain ⟨z,rfl,h2⟩:=h0 e
  subst e
  refine ⟨.slice s.n 0 1 1 true,s.new (.cells [.int .i64 x] (1+tag 3)),?_,⟨fun r hr=>?_,.inr ⟨by unfold intRows;simp,by rw [new_n];omega,rfl,get_new_eq _ _ _ rfl (by omega)⟩⟩,rfl,fun c hc _=>get_new_ne _ _ _ (by omega),fun k _ _ h=>by rw [new_m];exact h,by rw [new_m];omega⟩
  ·rw [app_grow (w:=1) hp rfl rfl]
   unfold growA
   simp only [h2]
   rfl
  ·unfold intRows at hr
   obtain ⟨y,_,rfl⟩:=List.mem_map.mp hr
   rfl
 ·obtain ⟨s',e1,h1,h2,h3,h4,h5⟩:=append_at (bytes:=8) (hI e) hp rfl rfl (by rw [intRows_len];omega) (by kernel_rfl) (by omega)
  refine ⟨_,s',e1,?_,h2,h3,fun k a1 a2 a3=>h4 k (by omega) a2 a3,h5⟩
  rw [intRows_app]
  exact h1
end Go.Proofs.Ythbhjgbpjlnbcaa.walk
set_option maxRecDepth 10000
namespace Go.Proofs.Ythbhjgbpjlnbcaa.walk
open Go.Abs Go.Proofs.Ythbhjgbpjlnbcaa.code
def nextOk (l:Letting) (f:List Int) (a:Int):Bool:=decide (a<0) || (!decide (a ∈ f) && canI l f.length a.toNat)
def nexts (l:Letting) (f:List Int) (i:Nat):List Int:=((List.range i).map fun (j:Nat)=>(j:Int) - 1).filter (nextOk l f)
def allL (l:Letting):Nat→List Int→List (List Int)
 | 0,f=>[f]
 | k+1,f=>(nexts l f (l.appls.length+1)).flatMap fun a=>allL l k (f++[a])
theorem nexts_succ (l:Letting) (f:List Int) (i:Nat):nexts l f (i+1)=nexts l f i++(if nextOk l f ((i:Int) - 1)=true then [(i:Int) - 1] else []):=by
 unfold nexts
 rw [List.range_succ,List.map_append,List.filter_append]
 congr 1
 simp only [List.map_cons,List.map_nil,List.filter_cons,List.filter_nil]
theorem nexts_len (l:Letting) (f:List Int) (i:Nat):(nexts l f i).length≤i:=by
 unfold nexts
 refine Nat.le_trans (List.length_filter_le _ _) ?_
 rw [List.length_map,List.length_range];exact Nat.le_refl _
theorem flatMap_len {α β:Type} (c:Nat) (g:α→List β):∀ L:List α,(∀ x ∈ L,(g x).length≤c)→(L.flatMap g).length≤L.length * c
 | [],_=>by simp
 | x::L,h=>by
  rw [List.flatMap_cons,List.length_append,List.length_cons,Nat.succ_mul]
  have h1:=h x (List.mem_cons_self ..)
  have h2:=flatMap_len c g L fun y hy=>h y (List.mem_cons_of_mem _ hy)
  omega
theorem allL_len (l:Letting) (hm:l.appls.length≤4):∀ (k:Nat) (f:List Int),(allL l k f).length≤5 ^ k
 | 0,f=>by simp [allL]
 | k+1,f=>by
  unfold allL
  refine Nat.le_trans (flatMap_len (5 ^ k) _ _ fun a _=>allL_len l hm k _) ?_
  rw [Nat.pow_succ,Nat.mul_comm]
  refine Nat.mul_le_mul_left _ (Nat.le_trans (nexts_len _ _ _) (by omega))
theorem nobody_next (l:Letting) (f:List Int) (i:Nat):(-1:Int) ∈ nexts l f (i+1):=by
 unfold nexts
 refine List.mem_filter.mpr ⟨List.mem_map.mpr ⟨0,List.mem_range.mpr (by omega),rfl⟩,?_⟩
 unfold nextOk
 rfl
theorem allL_ne (l:Letting):∀ (k:Nat) (f:List Int),allL l k f≠[]
 | 0,f=>by simp [allL]
 | k+1,f=>fun h=>by
  unfold allL at h
  obtain ⟨x,hx⟩:=List.exists_mem_of_ne_nil _ (allL_ne l k (f++[-1]))
  have:x ∈ (nexts l f (l.appls.length+1)).flatMap fun a=>allL l k (f++[a]):=List.mem_flatMap.mpr ⟨-1,nobody_next l f _,hx⟩
  rw [h] at this
  cases this
theorem all_ne (l:Letting) (k:Nat) (f:List Int):(nexts l f (l.appls.length+1)).flatMap (fun a=>allL l k (f++[a]))≠[]:=allL_ne l (k+1) f
def allSz:Nat→Nat
 | 0=>10
 | k+1=>10+5 * (10+allSz k)
def AllAt (k:Nat):Prop:=∀ {N:Nat} {no na nf:Nat→Prop} {l:Letting} {f:List Int} {vS vA v:AV} {s:St} {r:ARes},call Try.prog X N (.fn 22) [.agg (letV vS vA),v] s=r→k+4≤N→l.Ok→l.appls.length≤4→l.stalls.length≤4→f.length+k=l.stalls.length→LetAt no na s.h s.n l vS vA→Sl nf s.h s.n 1 (intRows f) v→s.n+2 * allSz k+1000≤far →
  ∃ b w t,r=.val w t∧New s t (allSz k)∧TabI t.h t.n b (fun x=>(nf x∧x<s.n)∨s.n≤x) (allL l k f) w∧s.n≤b
theorem all_leaf:AllAt 0:=by
 intro N no na nf l f vS vA v s r hr hN ok hm4 hk4 hfl hL hR hs
 obtain ⟨N,rfl⟩:∃ m,N=m+1:=⟨N - 1,by omega⟩
 have hff:far=1000000000:=rfl
 have e10:allSz 0=10:=rfl
 rw [e10] at hs ⊢
 obtain ⟨w',t,e,st,b,hq⟩:=call_new (n:=N) (args:=[.agg (letV vS vA),v]) (s:=s) (k:=10) (Q:=fun w h m=>∃ b,TabI h m b (fun x=>(nf x∧x<s.n)∨s.n≤x) (allL l 0 f) w∧s.n≤b) Try.func22 rfl (fun u uh un um=>by
  rw [← uh,← un] at hL hR
  rw [← un]
  have kv:=hR.okA
  have sv:=hR.scal
  have lv:=rowLen hR.at_
  have kS:=hL.okS
  have lS:=hL.lenS
  obtain ⟨w,hw⟩:∃ w:St,w=u.new (.cells [vS,vA] (tag 28)):=⟨_,rfl⟩
  have wn:w.n=u.n+1:=by rw [hw];rfl
  have wm:w.m=far:=by rw [hw];exact um
  have wg:∀ c,c<u.n→w.h.get c=u.h.get c:=fun c hc=>by rw [hw,get_new_ne _ _ _ (by omega)]
  have w0:w.h.get u.n=some (.cells [vS,vA] (tag 28)):=by rw [hw];exact get_new_eq _ _ _ rfl (by omega)
  have e0:decide ((f.length:Int)=(l.stalls.length:Int))=true:=decide_eq_true (by omega)
  obtain ⟨y,hy⟩:∃ y:St,y=w.new (.cells [v] 0):=⟨_,rfl⟩
  have yn:y.n=w.n+1:=by rw [hy];rfl
  have ym:y.m=far:=by rw [hy];exact wm
  have yg:∀ c,c<w.n→y.h.get c=w.h.get c:=fun c hc=>by rw [hy,get_new_ne _ _ _ (by omega)]
  have y0:y.h.get w.n=some (.cells [v] 0):=by rw [hy];exact get_new_eq _ _ _ rfl (by omega)
  rw [enter22]
  simp (disch:=first|omega|(with_unfolding_all exact rfl)|(simp only[new_n,put_n,new_m];omega)|(refine put_m_le ?_;simp only[new_m];omega)) only [K22,K22r0,Abs.W,reduceIte,Nat.reduceEqDiff,Nat.reduceAdd,decide_true,decide_false,kLoop_def,Nat.reduceSub,List.cons_append,List.nil_append,List.append_nil,List.length_cons,List.length_nil]
  rw [← hw]
  simp (disch:=first|omega|(with_unfolding_all exact rfl)|(simp only[new_n,put_n,new_m];omega)|(refine put_m_le ?_;simp only[new_m];omega)) only [K22r1,K22r2,K22r3,res22,Abs.W,reduceIte,Nat.reduceEqDiff,Nat.reduceAdd,decide_true,decide_false,kLoop_def,Nat.reduceSub,List.cons_append,List.nil_append,List.append_nil,List.length_cons,List.length_nil,Env.find_set,kv,lv,w0,kS,lS,e0,sv.1,sv.2.1,sv.2.2,Nat.zero_add]
  rw [← hy]
  refine ⟨_,_,rfl,⟨fun c hc=>(yg c (by omega)).trans (wg c hc),by omega,by omega,by omega,by omega⟩,rfl,w.n,⟨[v],false,0,rfl,by simp [allL],by omega,rfl,y0,fun h=>(by cases h),sv.1,fun j h1 h2=>?_⟩,by omega⟩
  have:j=0:=by simpa using h1
  subst this
  exact hR.move (fun b hb h=>⟨(yg b (by omega)).trans (wg b hb),by omega,.inl ⟨h,hb⟩⟩) (by omega))
 exact ⟨b,w',t,hr.symm.trans e,st,hq⟩
structure AllJ (u w t:St) (nf:Nat→Prop) (l:Letting) (f:List Int) (k i kk:Nat) (v6:AV):Prop where
 acc:∃ b,AccI t.h t.n b (fun x=>(nf x∧x<u.n)∨u.n≤x) ((nexts l f i).flatMap fun a=>allL l k (f++[a])) v6∧u.n<b∧(b<t.n∨far<b)
 same:∀ c,c<w.n→t.h.get c=w.h.get c
 n:w.n≤t.n
 le:t.n≤w.n+kk
 m:u.n≤t.m
 ml:t.m≤far
theorem all_step (k:Nat) (ih:AllAt k):AllAt (k+1):=by
 intro N no na nf l f vS vA v s r hr hN ok hm4 hk4 hfl hL hR hs
 obtain ⟨N,rfl⟩:∃ m,N=m+1:=⟨N - 1,by omega⟩
 have hff:far=1000000000:=rfl
 have es:allSz (k+1)=10+5 * (10+allSz k):=rfl
 obtain ⟨w',t,e,st,b,hq⟩:=call_new (n:=N) (args:=[.agg (letV vS vA),v]) (s:=s) (k:=allSz (k+1)) (Q:=fun w h m=>∃ b,TabI h m b (fun x=>(nf x∧x<s.n)∨s.n≤x) (allL l (k+1) f) w∧s.n≤b) Try.func22 rfl (fun u uh un um=>by
  rw [← uh,← un] at hL hR
  rw [← un]
  have kv:=hR.okA
  have sv:=hR.scal
  have lv:=rowLen hR.at_
  have kS:=hL.okS
  have kA:=hL.okV
  have lS:=hL.lenS
  have lA:=hL.lenA
  obtain ⟨w,hw⟩:∃ w:St,w=u.new (.cells [vS,vA] (tag 28)):=⟨_,rfl⟩
  have wn:w.n=u.n+1:=by rw [hw];rfl
  have wm:w.m=far:=by rw [hw];exact um
  have wg:∀ c,c<u.n→w.h.get c=u.h.get c:=fun c hc=>by rw [hw,get_new_ne _ _ _ (by omega)]
  have w0:w.h.get u.n=some (.cells [vS,vA] (tag 28)):=by rw [hw];exact get_new_eq _ _ _ rfl (by omega)
  have e0:decide ((f.length:Int)=(l.stalls.length:Int))=false:=decide_eq_false (by omega)
  have hst:f.length<l.stalls.length:=by omega
  rw [enter22]
  simp (disch:=first|omega|(with_unfolding_all exact rfl)|(simp only[new_n,put_n,new_m];omega)|(refine put_m_le ?_;simp only[new_m];omega)) only [K22,K22r0,Abs.W,reduceIte,Nat.reduceEqDiff,Nat.reduceAdd,decide_true,decide_false,kLoop_def,Nat.reduceSub,List.cons_append,List.nil_append,List.append_nil,List.length_cons,List.length_nil]
  rw [← hw]
  simp (disch:=first|omega|(with_unfolding_all exact rfl)|(simp only[new_n,put_n,new_m];omega)|(refine put_m_le ?_;simp only[new_m];omega)) only [K22r1,K22r2,K22r4,K22r5,Abs.W,reduceIte,Nat.reduceEqDiff,Nat.reduceAdd,decide_true,decide_false,kLoop_def,Nat.reduceSub,List.cons_append,List.nil_append,List.append_nil,List.length_cons,List.length_nil,Env.find_set,kv,lv,w0,kS,lS,e0,Nat.zero_add]
  generalize hlp:loopN _ rounds _ _ _ _ _=q1
  obtain ⟨e,L1,s1,rfl,rfl,v6,J,f6⟩:=loop_of hlp (fun i L t=>∃ v6,AllJ u w t nf l f k i (i * (10+allSz k)) v6∧L.find 1=v∧L.find 2=.ptr u.n 0∧L.find 5=.int .i64 (f.length:Int)∧L.find 6=v6∧L.find 7=.int .i64 ((i:Int) - 1))
   (fun e L t=>e=.exit 0∧∃ v6,AllJ u w t nf l f k (l.appls.length+1) (5 * (10+allSz k)) v6∧L.find 6=v6) (l.appls.length+1) (by unfold rounds;omega)
   ⟨.nilslice,⟨⟨far+1,.inl ⟨by unfold nexts;rfl,rfl⟩,by omega,.inr (by omega)⟩,fun _ _=>rfl,Nat.le_refl _,by omega,by omega,by omega⟩,by simp only [find_cons,Env.find_set,reduceIte,Nat.reduceEqDiff],by simp only [find_cons,Env.find_set,reduceIte,Nat.reduceEqDiff],by simp only [find_cons,Env.find_set,reduceIte,Nat.reduceEqDiff],by simp only [find_cons,Env.find_set,reduceIte,Nat.reduceEqDiff],by simp only [find_cons,Env.find_set,reduceIte,Nat.reduceEqDiff];rfl⟩
   (fun i L t hi ⟨v6,⟨⟨b,hT,hb,hbn⟩,hsm,hn1,hn2,hm1,hm2⟩,q1,q2,q5,q6,q7⟩=>by
    have c4:=Nat.mul_le_mul_right (10+allSz k) (show i≤5 by omega)
    have sc:(i+1) * (10+allSz k)=i * (10+allSz k)+(10+allSz k):=Nat.succ_mul _ _
    have tw:=hsm
    have t0:=(tw u.n (by omega)).trans w0
    have tu:∀ c,c<u.n→t.h.get c=u.h.get c:=fun c hc=>(tw c (by omega)).trans (wg c hc)
    by_cases hlt:i<l.appls.length+1
    ·have e1:decide ((i:Int) - 1<(l.appls.length:Int))=true:=decide_eq_true (by omega)
     have hRt:Sl nf t.h u.n 1 (intRows f) v:=hR.move (fun b hb h=>⟨tu b hb,h⟩) (Nat.le_refl _)
     have hRt':Sl nf t.h t.n 1 (intRows f) v:=hR.grow tu (by omega)
     have hLt:=hL.grow (h':=t.h) (n':=t.n) tu (by omega)
     have ad:∀ s,aAdd s .i64 ((i:Int) - 1) 1=.val (.int .i64 (((i:Int) - 1)+1)) s:=fun s=>aAdd_i64 s _ _ (by omega)
     have ei:((i:Int) - 1)+1=((i+1:Nat):Int) - 1:=by omega
     have n1:∀ s (c:Bool),notA s (.bool c)=.val (.bool !c) s:=fun _ _=>rfl
     have hns:=nexts_succ l f i
     have u4:=fun cl L s=>congrFun (congrFun (congrFun K22r7s4.eq_1 cl) L) s
     have u5:=fun cl L s=>congrFun (congrFun (congrFun K22r7s5.eq_1 cl) L) s
     have u6:=fun cl L s=>congrFun (congrFun (congrFun K22r7s6.eq_1 cl) L) s
     have u7:=fun cl L s=>congrFun (congrFun (congrFun K22r7s7.eq_1 cl) L) s
     have u8:=fun cl L s=>congrFun (congrFun (congrFun K22r7s8.eq_1 cl) L) s
     have u9:=fun cl L s=>congrFun (congrFun (congrFun K22r7s9.eq_1 cl) L) s
     have u10:=fun cl L s=>congrFun (congrFun (congrFun K22r7s10.eq_1 cl) L) s
     have u11:=fun cl L s=>congrFun (congrFun (congrFun K22r7s11.eq_1 cl) L) s
     have u12:=fun cl L s=>congrFun (congrFun (congrFun K22r7s12.eq_1 cl) L) s
     have u13:=fun cl L s=>congrFun (congrFun (congrFun K22r7s13.eq_1 cl) L) s
     -- the test
     have htest:∃ M,K22r7 (call Try.prog X N) (Env.set 21 (.bool true) L) t=.ok M t∧M.find 37=.bool (nextOk l f ((i:Int) - 1)):=by
      by_cases hneg:(i:Int) - 1<0
      ·have d0:decide ((i:Int) - 1<0)=true:=decide_eq_true hneg
       refine ⟨_,by
        simp (config:={ maxSteps:=2000000 }) (disch:=first|omega|(with_unfolding_all exact rfl)|(simp only[new_n,put_n,new_m];omega)|(refine put_m_le ?_;simp only[new_m];omega)) only [K22r7,u4,u5,u6,u7,u8,u9,u10,u11,u12,u13,Abs.W,reduceIte,Nat.reduceEqDiff,Nat.reduceAdd,decide_true,decide_false,kLoop_def,Nat.reduceSub,List.cons_append,List.nil_append,List.append_nil,List.length_cons,List.length_nil,Env.find_set,q1,q2,q5,q7,d0,n1]
        rfl,?_⟩
       ·simp only [find_cons,Env.find_set,reduceIte,Nat.reduceEqDiff]
        unfold nextOk
        rw [d0];rfl
      ·have d0:decide ((i:Int) - 1<0)=false:=decide_eq_false hneg
       obtain ⟨a,ha⟩:∃ a:Nat,(i:Int) - 1=a:=⟨i - 1,by omega⟩
       rw [ha] at q7 d0 ⊢
       have ho:=has2_ok N (by omega) f (a:Int) v t hRt'.at_ (by omega) (by omega)
       by_cases him:(a:Int) ∈ f
       ·have d1:decide ((a:Int) ∈ f)=true:=decide_eq_true him
        rw [d1] at ho
        refine ⟨_,by
         simp (config:={ maxSteps:=2000000 }) (disch:=first|omega|(with_unfolding_all exact rfl)|(simp only[new_n,put_n,new_m];omega)|(refine put_m_le ?_;simp only[new_m];omega)) only [K22r7,u4,u5,u6,u7,u8,u9,u10,u11,u12,u13,Abs.W,reduceIte,Nat.reduceEqDiff,Nat.reduceAdd,decide_true,decide_false,kLoop_def,Nat.reduceSub,List.cons_append,List.nil_append,List.append_nil,List.length_cons,List.length_nil,Env.find_set,q1,q2,q5,q7,d0,n1,kv,ho]
         rfl,?_⟩
        ·simp only [find_cons,Env.find_set,reduceIte,Nat.reduceEqDiff]
         unfold nextOk
         rw [d0,d1];rfl
       ·have d1:decide ((a:Int) ∈ f)=false:=decide_eq_false him
        rw [d1] at ho
        have co:=can_val N (by omega) ok (show a<l.appls.length by omega) hst hLt (by omega)
        refine ⟨_,by
         simp (config:={ maxSteps:=2000000 }) (disch:=first|omega|(with_unfolding_all exact rfl)|(simp only[new_n,put_n,new_m];omega)|(refine put_m_le ?_;simp only[new_m];omega)) only [K22r7,u4,u5,u6,u7,u8,u9,u10,u11,u12,u13,Abs.W,reduceIte,Nat.reduceEqDiff,Nat.reduceAdd,decide_true,decide_false,kLoop_def,Nat.reduceSub,List.cons_append,List.nil_append,List.append_nil,List.length_cons,List.length_nil,Env.find_set,q1,q2,q5,q7,d0,n1,kv,ho,t0,kS,kA,co,Nat.zero_add]
         rfl,?_⟩
        ·simp only [find_cons,Env.find_set,reduceIte,Nat.reduceEqDiff]
         unfold nextOk
         rw [d0,d1,Int.toNat_natCast]
         cases canI l f.length a<;>rfl
     obtain ⟨M7,h7,h37⟩:=htest
     cases hok:nextOk l f ((i:Int) - 1) with
     | false =>
      rw [hok] at h37 hns
      have hns:nexts l f (i+1)=nexts l f i:=by rw [hns];simp
      refine .inl ⟨hlt,_,t,by
       simp (disch:=first|omega|(with_unfolding_all exact rfl)|(simp only[new_n,put_n,new_m];omega)|(refine put_m_le ?_;simp only[new_m];omega)) only [K22l0,K22r6,K22r9,Abs.W,reduceIte,Nat.reduceEqDiff,Nat.reduceAdd,decide_true,decide_false,kLoop_def,Nat.reduceSub,List.cons_append,List.nil_append,List.append_nil,List.length_cons,List.length_nil,Env.find_set,q1,q2,q5,q6,q7,t0,kA,lA,e1,h7,h37,ad,Nat.zero_add]
       rfl,v6,⟨⟨b,by rw [hns];exact hT,hb,hbn⟩,hsm,hn1,by omega,hm1,hm2⟩,?_,?_,?_,?_,?_⟩
      ·simp only [Env.find_set,q1,reduceIte,Nat.reduceEqDiff]
      ·simp only [Env.find_set,q2,reduceIte,Nat.reduceEqDiff]
      ·simp only [Env.find_set,q5,reduceIte,Nat.reduceEqDiff]
      ·simp only [Env.find_set,q6,reduceIte,Nat.reduceEqDiff]
      ·simp only [Env.find_set,reduceIte,Nat.reduceEqDiff];rw [ei]
     | true =>
      rw [hok] at h37 hns
      rw [if_pos rfl] at hns
      have kv6:=hT.okA
      obtain ⟨y,hy⟩:∃ y:St,y=t.new (.cells [] 0):=⟨_,rfl⟩
      have yn:y.n=t.n+1:=by rw [hy];rfl
      have ym:y.m=t.m:=by rw [hy];rfl
      have yg:∀ c,c<t.n→y.h.get c=t.h.get c:=fun c hc=>by rw [hy,get_new_ne _ _ _ (by omega)]
      have yp:y.h.get t.n=some (.cells [] 0):=by rw [hy];exact get_new_eq _ _ _ rfl (by omega)
      obtain ⟨v42,s2,e42,S42,I42,n2,n2',g2,m2,m2',_,hnil⟩:=app_all (tg:=tag 3) (bytes:=8) (hRt'.grow yg (by omega:t.n≤y.n)) yp (by omega) (intRows_scal f) (by unfold intRows;rw [List.length_map];omega) (by kernel_rfl) (by omega)
      have hne:f≠[]→intRows f≠[]:=fun h e=>h (List.map_eq_nil_iff.mp e)
      obtain ⟨x,hx⟩:∃ x:St,x=s2.new (.cells [.int .i64 ((i:Int) - 1)] 0):=⟨_,rfl⟩
      have xn:x.n=s2.n+1:=by rw [hx];rfl
      have xm:x.m=s2.m:=by rw [hx];rfl
      have xg:∀ c,c<s2.n→x.h.get c=s2.h.get c:=fun c hc=>by rw [hx,get_new_ne _ _ _ (by omega)]
      have xp:x.h.get s2.n=some (.cells [.int .i64 ((i:Int) - 1)] 0):=by rw [hx];exact get_new_eq _ _ _ rfl (by omega)
      obtain ⟨v45,s3,e45,I45,n3,g3,m3,m3'⟩:=copy_push (l:=f) (s:=x) (a:=t.n) (fun h=>by
        have:=I42 (hne h)
        rw [yn] at this
        exact this.mono (fun hb=>xg _ hb) (by omega)) (fun h=>by
        subst h
        exact ⟨0,hnil rfl,(xg t.n (by omega)).trans ((g2 t.n (by omega)).trans yp)⟩) xp (by omega) (by omega)
      rw [hy] at e42
      rw [hx] at e45
      have s3t:∀ c,c<t.n→s3.h.get c=t.h.get c:=fun c hc=>(g3 c (by omega) (by omega)).trans ((xg c (by omega)).trans ((g2 c (by omega)).trans (yg c hc)))
      have k45:=I45.okA
      simp (disch:=first|omega|(with_unfolding_all exact rfl)|(simp only[new_n,put_n,new_m];omega)|(refine put_m_le ?_;simp only[new_m];omega)) only [K22l0,K22r6,K22r8,Abs.W,reduceIte,Nat.reduceEqDiff,Nat.reduceAdd,decide_true,decide_false,kLoop_def,Nat.reduceSub,List.cons_append,List.nil_append,List.append_nil,List.length_cons,List.length_nil,Env.find_set,q1,q2,q5,q6,q7,t0,kS,kA,lA,e1,h7,h37,kv,kv6,e42,e45,Nat.zero_add]
      generalize hc2:call _ _ _ (.fn 22) _ _=rc
      obtain ⟨b4,w4,s4,rfl,st4,T4,hb4⟩:=ih hc2 (by omega) ok hm4 hk4 (by rw [List.length_append,List.length_singleton];omega) (hL.grow (fun c hc=>(s3t c (by omega)).trans (tu c hc)) (by omega)) (Sl.of_at (no:=fun y=>x.n≤y) I45 fun _=>Nat.le_refl _) (by omega)
      have n4:=st4.n
      have l4:=st4.le
      have mm4:=st4.m
      have mm3:=m3 u.n (by omega) (by omega) (by omega)
      have s4t:∀ c,c<t.n→s4.h.get c=t.h.get c:=fun c hc=>(st4.same c (by omega)).trans (s3t c hc)
      have hT4:AccI s4.h s4.n b (fun y=>(nf y∧y<u.n)∨u.n≤y) ((nexts l f i).flatMap fun a=>allL l k (f++[a])) v6:=by
       rcases hT with h | h
       ·exact .inl h
       ·have hbt:b<t.n:=by obtain ⟨_,_,_,_,_,h3,_⟩:=h;exact h3
        exact .inr (h.move (s4t b hbt) (fun c hc h=>⟨s4t c hc,h⟩) (by omega))
      have hlen1:=flatMap_len (5 ^ k) (fun a=>allL l k (f++[a])) (nexts l f i) fun a _=>allL_len l hm4 k _
      have hlen2:=allL_len l hm4 k (f++[(i:Int) - 1])
      have hnl:=nexts_len l f i
      have hpk:5 ^ k≤125:=by
       have:k=0∨k=1∨k=2∨k=3:=by omega
       rcases this with rfl | rfl | rfl | rfl<;>decide
      have hmul:=Nat.mul_le_mul (show (nexts l f i).length≤4 by omega) hpk
      obtain ⟨w5,s5,e5,T5,n5,g5,m5,m5'⟩:=hT4.app T4 (fun y hy hne=>by
       have hx4:x.n≤y:=by
        rcases hy with ⟨h1,_⟩ | h1
        ·exact h1
        ·omega
       exact ⟨fun h=>by rcases hbn with h | h<;>omega,.inr (by omega)⟩) (by omega) (by omega)
      refine .inl ⟨hlt,_,s5,by
       simp (disch:=first|omega|(with_unfolding_all exact rfl)|(simp only[new_n,put_n,new_m];omega)|(refine put_m_le ?_;simp only[new_m];omega)) only [Abs.W,reduceIte,Nat.reduceEqDiff,Nat.reduceAdd,decide_true,decide_false,kLoop_def,Nat.reduceSub,List.cons_append,List.nil_append,List.append_nil,List.length_cons,List.length_nil,Env.find_set,e5]
       rw [endO_ok _ (by
        rw [endOk_cons,endOk_cons,endOk_nil]
        all_goals
         simp only [find_cons,Env.find_set,q2,reduceIte,Nat.reduceEqDiff]
         first | exact apart_slice (by omega) | exact S42.apart (by omega))]
       simp (disch:=first|omega|(with_unfolding_all exact rfl)|(simp only[new_n,put_n,new_m];omega)|(refine put_m_le ?_;simp only[new_m];omega)) only [K22r9,Abs.W,reduceIte,Nat.reduceEqDiff,Nat.reduceAdd,decide_true,decide_false,kLoop_def,Nat.reduceSub,List.cons_append,List.nil_append,List.append_nil,List.length_cons,List.length_nil,Env.find_set,q7,ad]
       rfl,w5,⟨⟨s4.n,.inr ?_,by omega,.inl (by omega)⟩,fun c hc=>?_,by omega,by omega,by omega,by omega⟩,?_,?_,?_,?_,?_⟩
      ·rw [hns,List.flatMap_append,List.flatMap_singleton]
       exact T5
      ·rw [g5 c (by omega) (by rcases hbn with h | h<;>omega),s4t c (by omega)]
       exact hsm c hc
      ·simp only [Env.find_set,q1,reduceIte,Nat.reduceEqDiff]
      ·simp only [Env.find_set,q2,reduceIte,Nat.reduceEqDiff]
      ·simp only [Env.find_set,q5,reduceIte,Nat.reduceEqDiff]
      ·simp only [Env.find_set,reduceIte,Nat.reduceEqDiff]
      ·simp only [Env.find_set,reduceIte,Nat.reduceEqDiff];rw [ei]
    ·obtain rfl:i=l.appls.length+1:=by omega
     have e1:decide (((l.appls.length+1:Nat):Int) - 1<(l.appls.length:Int))=false:=decide_eq_false (by omega)
     refine .inr ⟨.exit 0,L.set 21 (.bool false),t,by simp,?_,rfl,v6,⟨⟨b,hT,hb,hbn⟩,hsm,hn1,by omega,hm1,hm2⟩,?_⟩
     ·simp (disch:=first|omega|(with_unfolding_all exact rfl)|(simp only[new_n,put_n,new_m];omega)|(refine put_m_le ?_;simp only[new_m];omega)) only [K22l0,K22r6,Abs.W,reduceIte,Nat.reduceEqDiff,Nat.reduceAdd,decide_true,decide_false,kLoop_def,Nat.reduceSub,List.cons_append,List.nil_append,List.append_nil,List.length_cons,List.length_nil,Env.find_set,q2,q7,t0,kA,lA,e1,Nat.zero_add]
     ·simp only [Env.find_set,q6,reduceIte,Nat.reduceEqDiff])
  obtain ⟨⟨b,hT,hb,hbn⟩,hsm,hn1,hn2,hm1,hm2⟩:=J
  have kv6:=hT.okA
  have hne:(nexts l f (l.appls.length+1)).flatMap (fun a=>allL l k (f++[a]))≠[]:=all_ne l k f
  have hT:TabI s1.h s1.n b (fun x=>(nf x∧x<u.n)∨u.n≤x) (allL l (k+1) f) v6:=by
   rcases hT with ⟨h,_⟩ | h
   ·exact absurd h hne
   ·exact h
  simp (disch:=first|omega|(with_unfolding_all exact rfl)|(simp only[new_n,put_n,new_m];omega)|(refine put_m_le ?_;simp only[new_m];omega)) only [K22r10,res22,Abs.W,reduceIte,Nat.reduceEqDiff,Nat.reduceAdd,decide_true,decide_false,kLoop_def,Nat.reduceSub,List.cons_append,List.nil_append,List.append_nil,List.length_cons,List.length_nil,Env.find_set,f6,kv6]
  exact ⟨_,_,rfl,⟨fun c hc=>(hsm c (by omega)).trans (wg c hc),by omega,by omega,hm1,hm2⟩,hT.plain,b,hT,by omega⟩)
 exact ⟨b,w',t,hr.symm.trans e,st,hq⟩
theorem all_ex:∀ k,AllAt k
 | 0=>all_leaf
 | k+1=>all_step k (all_ex k)
end Go.Proofs.Ythbhjgbpjlnbcaa.walk
set_option maxRecDepth 10000
namespace Go.Proofs.Ythbhjgbpjlnbcaa.walk
open Go.Abs Go.Proofs.Ythbhjgbpjlnbcaa.code
end Go.Proofs.Ythbhjgbpjlnbcaa.walk
set_option maxRecDepth 10000
namespace Go.Proofs.Ythbhjgbpjlnbcaa.walk
open Go.Abs Go.Proofs.Ythbhjgbpjlnbcaa.code
structure PartV (l:Letting) (f:List Int):Prop where
 can:∀ s (h:s<f.length),f[s] = -1∨∃ a:Nat,f[s]=a∧a<l.appls.length∧canI l s a=true
 once:∀ s t (h:s<f.length) (h':t<f.length),f[s]=f[t]→f[s] ≠ -1→s=t
theorem nexts_mem {l:Letting} {f:List Int} {i:Nat} {a:Int}:a ∈ nexts l f i↔(∃ j,j<i∧(j:Int) - 1=a)∧nextOk l f a=true:=by
 unfold nexts
 rw [List.mem_filter,List.mem_map]
 constructor
 ·rintro ⟨⟨j,h1,h2⟩,h3⟩;exact ⟨⟨j,List.mem_range.mp h1,h2⟩,h3⟩
 ·rintro ⟨⟨j,h1,h2⟩,h3⟩;exact ⟨⟨j,List.mem_range.mpr h1,h2⟩,h3⟩
theorem PartV.next {l:Letting} {f:List Int} {a:Int} (V:PartV l f) (ha:a ∈ nexts l f (l.appls.length+1)):PartV l (f++[a]):=by
 obtain ⟨⟨j,j1,j2⟩,ho⟩:=nexts_mem.mp ha
 unfold nextOk at ho
 rw [Bool.or_eq_true,decide_eq_true_eq,Bool.and_eq_true] at ho
 have hl:(f++[a]).length=f.length+1:=by rw [List.length_append,List.length_singleton]
 have g1:∀ s (h:s<f.length) (h':s<(f++[a]).length),(f++[a])[s]=f[s]:=fun s h _=>List.getElem_append_left h
 have g2:∀ (h':f.length<(f++[a]).length),(f++[a])[f.length]=a:=fun h'=>by simp
 refine ⟨fun s h=>?_,fun s t h h' he hn=>?_⟩
 ·by_cases e:s<f.length
  ·rw [g1 s e h];exact V.can s e
  ·have e2:s=f.length:=by omega
   subst e2
   rw [g2 h]
   rcases ho with h0 | ⟨h1,h2⟩
   ·exact .inl (by omega)
   ·by_cases h0:a<0
    ·exact .inl (by omega)
    ·exact .inr ⟨a.toNat,by omega,by omega,h2⟩
 ·have key:∀ t (ht:t<f.length),f[t]=a→a ≠ -1→False:=fun t ht e0 hne=>by
   rcases ho with h0 | ⟨h1,_⟩
   ·omega
   ·have:a ∈ f:=by rw [← e0];exact List.getElem_mem ht
    rw [decide_eq_true this] at h1
    cases h1
  by_cases e:s<f.length
  ·rw [g1 s e h] at he hn
   by_cases e2:t<f.length
   ·rw [g1 t e2 h'] at he
    exact V.once s t e e2 he hn
   ·have e3:t=f.length:=by omega
    subst e3
    rw [g2 h'] at he
    exact (key s e he (by rw [← he];exact hn)).elim
  ·have e3:s=f.length:=by omega
   subst e3
   rw [g2 h] at he hn
   by_cases e2:t<f.length
   ·rw [g1 t e2 h'] at he
    exact (key t e2 he.symm hn).elim
   ·omega
theorem allL_valid (l:Letting):∀ (k:Nat) (f:List Int),f.length+k=l.stalls.length→PartV l f→∀ g ∈ allL l k f,ValidH l g
 | 0,f,hf,V,g,hg=>by
  unfold allL at hg
  rw [List.mem_singleton] at hg
  subst hg
  exact ⟨by omega,V.can,V.once⟩
 | k+1,f,hf,V,g,hg=>by
  unfold allL at hg
  obtain ⟨a,a1,a2⟩:=List.mem_flatMap.mp hg
  exact allL_valid l k (f++[a]) (by rw [List.length_append,List.length_singleton];omega) (V.next a1) g a2
theorem part_nil (l:Letting):PartV l []:=⟨fun s h=>by simp at h,fun s t h=>by simp at h⟩
theorem all_few {l:Letting} (hm:l.appls.length≤4) (hk:l.stalls.length≤4):(allL l l.stalls.length []).length≤625∧allSz l.stalls.length≤20000:=by
 refine ⟨Nat.le_trans (allL_len l hm _ _) ?_,?_⟩
 ·have:l.stalls.length=0∨l.stalls.length=1∨l.stalls.length=2∨l.stalls.length=3∨l.stalls.length=4:=by omega
  rcases this with h | h | h | h | h<;>rw [h]<;>decide
 ·have:l.stalls.length=0∨l.stalls.length=1∨l.stalls.length=2∨l.stalls.length=3∨l.stalls.length=4:=by omega
  rcases this with h | h | h | h | h<;>rw [h]<;>decide
end Go.Proofs.Ythbhjgbpjlnbcaa.walk
