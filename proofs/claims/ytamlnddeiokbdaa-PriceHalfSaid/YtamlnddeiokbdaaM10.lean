/- The law PriceOrder: its body behind its die. -/
import Derived.Test.YtamlnddeiokbdaaM8
import Derived.Test.YtamlnddeiokbdaaM9
import Derived.Test.YtamlnddeiokbdaaProg
import Derived.Tactics
import Derived.Tactics2
import Derived.WalkKit
import Derived.OpenShut
import Derived.Below
import Derived.Lib.Hide
import Derived.KernelRfl
import Derived.Deep.RegionHeld3
import Derived.OwnWalk
import Derived.StillTailTactics
import Derived.Test.YtamlnddeiokbdaaAbsTop
import Derived.Test.YtamlnddeiokbdaaAbsWalk
import Derived.Test.YtamlnddeiokbdaaM6
import Derived.Test.YtamlnddeiokbdaaAwake
import Derived.Test.YtamlnddeiokbdaaWalkAll
set_option linter.unusedSimpArgs false
set_option maxHeartbeats 16000000
set_option linter.unusedVariables false
set_option maxRecDepth 10000
namespace Go.Proofs.Ytamlnddeiokbdaa.walk
open Go.Abs Go.Proofs.Ytamlnddeiokbdaa.code
end Go.Proofs.Ytamlnddeiokbdaa.walk
set_option maxRecDepth 10000
namespace Go.Proofs.Ytamlnddeiokbdaa.walk
open Go.Abs Go.Proofs.Ytamlnddeiokbdaa.code
structure Rest (w t:St) (d kk:Nat):Prop where
 same:∀ c,c<w.n→c≠d→t.h.get c=w.h.get c
 n:w.n≤t.n
 le:t.n≤w.n+kk
 die:Die d t.h
 mle:t.m≤far
end Go.Proofs.Ytamlnddeiokbdaa.walk
set_option maxRecDepth 10000
namespace Go.Abs
theorem flat_rows {h:Heap} {n q w sz k:Nat} {rows:List (List AV)} (e:Bool) (hw:∀ r ∈ rows,r.length=w) (hk:rows.length=k) (hq:h.get q=some (.cells rows.flatten sz)) (hn:q<n):RowsAt h n w rows (.slice q 0 k k e):=by
 subst hk
 exact ⟨fun _=>rfl,fun i hi=>⟨q,i * w,rows.flatten,sz,hn,fun s=>by rw [ixs_slice _ _ _ _ _ _ _ _ hi,Nat.zero_add],hq,flatten_cut hw hi⟩⟩
end Go.Abs
namespace Go.Proofs.Ytamlnddeiokbdaa.walk
open Go.Abs Go.Proofs.Ytamlnddeiokbdaa.code
noncomputable def halfRest:K:=(kSeq (kRegion K8r2 [4]) (kSeq (kRegion K8r3 [5]) (kSeq (kRegion K8r4 [6]) (kSeq (kSeq (kRegion K8r5 [7]) (kBlock 0 (kLoop K8l0))) (kSeq (kRegion K8r9 [8]) (kSeq (kSeq (kRegion K8r10 [60]) (kCond (.tmp 60) (kSeq (kRegion K8r11 [2]) kRet) kSkip)) (kSeq (kSeq (kRegion K8r12 [9]) (kBlock 2 (kLoop K8l2))) (kSeq (kRegion K8r28 [2]) kRet))))))))
theorem half_body (n:Nat) (hn:17≤n) (cx:Ctx) (s:St) (d:Nat) (hd:Die d s.h) (hdn:d<s.n) (hs:s.n+9000000≤far) (hm:s.m=far) :
  ∃ s',finA Try.prog Try.f8 (halfRest (knows 20 (call Try.prog X n)) cx (.cons 3 (.ptr d 0) .nil) [] s)=.val (.bool true) s':=by
 have hf:far=1000000000:=rfl
 have knB:∀ args s,knows 20 (call Try.prog X n) (.fn 10) args s=call Try.prog X n (.fn 10) args s:=fun _ _=>rfl
 have knV:∀ args s,knows 20 (call Try.prog X n) (.fn 13) args s=call Try.prog X n (.fn 13) args s:=fun _ _=>rfl
 have knD:∀ args s,knows 20 (call Try.prog X n) (.fn 27) args s=call Try.prog X n (.fn 27) args s:=fun _ _=>rfl
 have knA:∀ s,knows 20 (call Try.prog X n) (.fn 20) [] s=.val (.bool true) s:=fun _=>rfl
 unfold halfRest
 simp (disch:=first|omega|(with_unfolding_all exact rfl)|(simp only[new_n,put_n,new_m];omega)|(refine put_m_le ?_;simp only[new_m];omega)) only [K8r2,Abs.W,reduceIte,Nat.reduceEqDiff,Nat.reduceAdd,decide_true,decide_false,kLoop_def,Nat.reduceSub,List.cons_append,List.nil_append,List.append_nil,List.length_cons,List.length_nil,Env.find_set,knB]
 generalize hc1:call _ _ _ (.fn 10) _ _=r1
 obtain ⟨b,vb,bl1,t1,rfl,st1,d1,⟨ok1,ak,ag⟩,len1,hbl1,hI1⟩:=BookOf_ex3 (k:=3) (g:=3) (n:=12) hc1 (by omega) hd hdn (by omega) (by omega) (by omega) (by omega)
 have n1:=st1.n
 have k1:=st1.le
 have m1:=st1.mle
 have hl40:=ok1.l
 have hgd:=ok1.g1
 have sc1:scalars (bookV b vb)=true:=by show scalars [vb]=true;exact hI1.scal.1
 have kvb:∀ t,okA (.val vb t)=.val vb t:=hI1.okA
 unfold bookV at sc1
 simp (disch:=first|omega|(with_unfolding_all exact rfl)|(simp only[new_n,put_n,new_m];omega)|(refine put_m_le ?_;simp only[new_m];omega)) only [Abs.W,reduceIte,Nat.reduceEqDiff,Nat.reduceAdd,decide_true,decide_false,kLoop_def,Nat.reduceSub,List.cons_append,List.nil_append,List.append_nil,List.length_cons,List.length_nil,Env.find_set,sc1,Nat.zero_add]
 obtain ⟨y,hy⟩:∃ y:St,y=(t1.new (.cells [.int .i64 0,.int .i64 0,.nilslice] (tag 27))).put t1.n (.cells (bookV b vb) (tag 27)):=⟨_,rfl⟩
 have yn:y.n=t1.n+1:=by rw [hy];rfl
 have ym:y.m≤t1.m:=by rw [hy];simp only [St.put,minN_eq,new_m];omega
 have yg:∀ c,c<t1.n→y.h.get c=t1.h.get c:=fun c hc=>by rw [hy,get_put_ne' _ _ _ _ (by omega),get_new_ne _ _ _ (by omega)]
 have y4:y.h.get t1.n=some (.cells (bookV b vb) (tag 27)):=by rw [hy];exact get_put_eq _ _ _ _ rfl (by omega)
 unfold bookV at hy y4
 rw [← hy]
 clear hy
 have dy:Die d y.h:=Die.keep d1 (yg d (by omega))
 have Iy:IsAt y.h y.n bl1 6 (tag 51) (b.sales.map Sale.cells) vb:=hI1.mono (fun h=>yg bl1 h) (by omega)
 have Iy1:IsAt y.h t1.n bl1 6 (tag 51) (b.sales.map Sale.cells) vb:=hI1.mono (fun h=>yg bl1 h) (by omega)
 have hFi:Fine b.sales:=fun s hs=>by
  obtain ⟨s0,s1,d0,d1,g0,g1,g2,c0,c1,c2⟩:=ok1.ok s hs
  exact ⟨g0,g1,g2,c0,c1,c2⟩
 simp (disch:=first|omega|(with_unfolding_all exact rfl)|(simp only[new_n,put_n,new_m];omega)|(refine put_m_le ?_;simp only[new_m];omega)) only [K8r3,Abs.W,reduceIte,Nat.reduceEqDiff,Nat.reduceAdd,decide_true,decide_false,kLoop_def,Nat.reduceSub,List.cons_append,List.nil_append,List.append_nil,List.length_cons,List.length_nil,Env.find_set,y4,kvb,knV,Nat.zero_add]
 generalize hc2:call _ _ _ (.fn 13) _ _=r2
 obtain ⟨Z,vt,bl,w,rfl,st2,d2,hZ,okZ,hbl2,hIt⟩:=truthOf_ex (b:=b) (vb:=vb) hc2 (by omega) dy (by omega) hFi hl40 Iy (by omega) (by omega)
 have n2:=st2.n
 have k2:=st2.le
 have m2:=st2.mle
 have g2:∀ c,c<y.n→c≠d→w.h.get c=y.h.get c:=fun c hc hcd=>st2.same c hc hcd
 have zl:Z.length=b.sales.length:=by rw [← hZ,List.length_map]
 have kvt:∀ t,okA (.val vt t)=.val vt t:=hIt.okA
 have ltt:∀ s,lenSlA s vt=.val (.int .i64 (Z.length:Int)) s:=fun s=>by have:=hIt.rows.at_.len s;rw [truthRows_len] at this;exact this
 have w4:=(g2 t1.n (by omega) (by omega)).trans y4
 have Iw:IsAt w.h t1.n bl1 6 (tag 51) (b.sales.map Sale.cells) vb:=Iy1.mono (fun h=>g2 bl1 (by omega) (by omega)) (Nat.le_refl _)
 have RT:=hIt.rows.at_
 simp (disch:=first|omega|(with_unfolding_all exact rfl)|(simp only[new_n,put_n,new_m];omega)|(refine put_m_le ?_;simp only[new_m];omega)) only [K8r4,K8r5,Abs.W,reduceIte,Nat.reduceEqDiff,Nat.reduceAdd,decide_true,decide_false,kLoop_def,Nat.reduceSub,List.cons_append,List.nil_append,List.append_nil,List.length_cons,List.length_nil,Env.find_set,kvt]
 generalize hl1:loopN _ rounds _ _ _ _ _=q1
 obtain ⟨e,L2,t3,rfl,rfl,p4,p5,fv,fbl,p6,J⟩:=loop_of hl1
  (fun j L' t=>L'.find 4=.ptr t1.n 0∧L'.find 5=vt∧L'.find 7=.int .i64 (j:Int)∧∃ v bl,L'.find 6=v∧FndJ w t (fAll (Z.take j)) v bl (6 * j))
  (fun e L' t=>e=.exit 0∧L'.find 4=.ptr t1.n 0∧L'.find 5=vt∧∃ v bl,L'.find 6=v∧FndJ w t (fAll Z) v bl (6 * Z.length))
  Z.length (by unfold rounds;omega)
  ⟨by simp only [find_cons,Env.find_set,reduceIte,Nat.reduceEqDiff],by simp only [find_cons,Env.find_set,reduceIte,Nat.reduceEqDiff],by simp only [find_cons,Env.find_set,reduceIte,Nat.reduceEqDiff];rfl,.nilslice,w.n,by simp only [find_cons,Env.find_set,reduceIte,Nat.reduceEqDiff],IsAt.nil _ _ _ _ _,Nat.le_refl _,fun _ _=>rfl,Nat.le_refl _,by omega,by omega⟩
  (fun j L' t hj ⟨q4,q5,q7,v,bl',q6,hJ⟩=>by
   by_cases hlt:j<Z.length
   ·obtain ⟨L3,t3',v3,bl3,z1,z2,z3,z4,z5⟩:=fnd_round (knows 20 (call Try.prog X n)) cx hJ RT (by omega) hlt (by omega) q5 q6 q7
    exact .inl ⟨hlt,L3,t3',z1,(z5 4 (by omega)).trans q4,(z5 5 (by omega)).trans q5,z4,v3,bl3,z3,z2.is,z2.lo,z2.same,z2.n,by have:=z2.le;omega,z2.mle⟩
   ·obtain rfl:j=Z.length:=by omega
    have e1:decide ((Z.length:Int)<(Z.length:Int))=false:=by simp
    rw [List.take_length] at hJ
    refine .inr ⟨.exit 0,L'.set 27 (.bool false),t,by simp,?_,rfl,by simp only [Env.find_set,q4,reduceIte,Nat.reduceEqDiff],by simp only [Env.find_set,q5,reduceIte,Nat.reduceEqDiff],v,bl',by simp only [Env.find_set,q6,reduceIte,Nat.reduceEqDiff],hJ⟩
    simp (disch:=first|omega|(with_unfolding_all exact rfl)|(simp only[new_n,put_n,new_m];omega)|(refine put_m_le ?_;simp only[new_m];omega)) only [K8l0,K8r6,Abs.W,reduceIte,Nat.reduceEqDiff,Nat.reduceAdd,decide_true,decide_false,kLoop_def,Nat.reduceSub,List.cons_append,List.nil_append,List.append_nil,List.length_cons,List.length_nil,Env.find_set,q5,q7,kvt,ltt,e1,Nat.zero_add])
 obtain ⟨ji,jlo,js,jn,jle,jm⟩:=J
 have kfv:∀ t,okA (.val fv t)=.val fv t:=ji.okA
 have t34:=(js t1.n (by omega)).trans w4
 have I3:IsAt t3.h t3.n bl1 6 (tag 51) (b.sales.map Sale.cells) vb:=Iw.mono (fun h=>js bl1 (by omega)) (by omega)
 have okF:FindsOk b.sales (fAll Z):=by rw [← hZ];exact fAll_ok okZ
 simp (disch:=first|omega|(with_unfolding_all exact rfl)|(simp only[new_n,put_n,new_m];omega)|(refine put_m_le ?_;simp only[new_m];omega)) only [K8r9,Abs.W,reduceIte,Nat.reduceEqDiff,Nat.reduceAdd,decide_true,decide_false,kLoop_def,Nat.reduceSub,List.cons_append,List.nil_append,List.append_nil,List.length_cons,List.length_nil,Env.find_set,p4,p6,t34,kvb,kfv,knD,Nat.zero_add]
 generalize hc3:call _ _ _ (.fn 27) _ _=r3
 obtain ⟨q,t4,rfl,st4,hq0,hq1,hq2⟩:=Audited_ex (b:=b) (vb:=vb) (F:=fAll Z) hc3 (by omega) ok1 okF (by rw [fAll_len];omega) ji I3 (by omega)
 have n4:=st4.n
 have k4:=st4.le
 have m4:=st4.m
 have t44:=(st4.same t1.n (by omega)).trans t34
 rw [← hZ,audit_all] at hq2
 simp (disch:=first|omega|(with_unfolding_all exact rfl)|(simp only[new_n,put_n,new_m];omega)|(refine put_m_le ?_;simp only[new_m];omega)) only [Abs.W,reduceIte,Nat.reduceEqDiff,Nat.reduceAdd,decide_true,decide_false,kLoop_def,Nat.reduceSub,List.cons_append,List.nil_append,List.append_nil,List.length_cons,List.length_nil,Env.find_set,p4,t44,okA_tupE,extE0,extE1,Nat.zero_add]
 obtain ⟨z,hz⟩:∃ z:St,z=t4.put t1.n (.cells [.int .i64 b.stalls,.int .i64 b.goods,.slice q 0 b.sales.length b.sales.length false] (tag 27)):=⟨_,rfl⟩
 have zn:z.n=t4.n:=by rw [hz];rfl
 have zm:z.m≤far:=by rw [hz];simp only [St.put,minN_eq];omega
 have zg:∀ c,c≠t1.n→z.h.get c=t4.h.get c:=fun c hc=>by rw [hz,get_put_ne' _ _ _ _ hc]
 have z4:z.h.get t1.n=some (.cells [.int .i64 b.stalls,.int .i64 b.goods,.slice q 0 b.sales.length b.sales.length false] (tag 27)):=by rw [hz];exact get_put_eq _ _ _ _ rfl (by omega)
 rw [← hz]
 clear hz
 have zq:=(zg q (by omega)).trans hq2
 have xl:((salesZ (exZ Z)).map Sale.cells).length=b.sales.length:=by rw [← zl];unfold exZ;rw [List.length_map,List.length_map,List.length_map]
 have R1:RowsAt z.h z.n 6 ((salesZ (exZ Z)).map Sale.cells) (.slice q 0 b.sales.length b.sales.length false):=flat_rows false (sales_wide _) xl zq (by omega)
 have RTz:RowsAt z.h z.n 2 (truthRows Z) vt:=(hIt.mono (h':=z.h) (n':=z.n) (fun h=>(zg bl (by omega)).trans ((st4.same bl (by omega)).trans (js bl h))) (by omega)).rows.at_
 have okX:(⟨b.stalls,b.goods,salesZ (exZ Z)⟩:Book).Ok:=exZ_book (by rw [hZ];exact ok1) okZ
 have e0:decide ((0:Int)=0)=true:=rfl
 have e1:decide ((b.sales.length:Int)=(Z.length:Int))=true:=decide_eq_true (by omega)
 have u10s4:=fun cl L s=>congrFun (congrFun (congrFun K8r10s4.eq_1 cl) L) s
 have u10s5:=fun cl L s=>congrFun (congrFun (congrFun K8r10s5.eq_1 cl) L) s
 have u10s6:=fun cl L s=>congrFun (congrFun (congrFun K8r10s6.eq_1 cl) L) s
 have u10s7:=fun cl L s=>congrFun (congrFun (congrFun K8r10s7.eq_1 cl) L) s
 have u10s8:=fun cl L s=>congrFun (congrFun (congrFun K8r10s8.eq_1 cl) L) s
 have u10s9:=fun cl L s=>congrFun (congrFun (congrFun K8r10s9.eq_1 cl) L) s
 simp (config:={ maxSteps:=3000000 }) (disch:=first|omega|(with_unfolding_all exact rfl)|(simp only[new_n,put_n,new_m];omega)|(refine put_m_le ?_;simp only[new_m];omega)) only [K8r10,u10s4,u10s5,u10s6,u10s7,u10s8,u10s9,K8r12,Abs.W,reduceIte,Nat.reduceEqDiff,Nat.reduceAdd,decide_true,decide_false,kLoop_def,Nat.reduceSub,List.cons_append,List.nil_append,List.append_nil,List.length_cons,List.length_nil,Env.find_set,p4,p5,kvt,ltt,z4,e0,e1,Nat.zero_add]
 generalize hl2:loopN _ rounds _ _ _ _ _=q2
 obtain ⟨e,L3,t9,rfl,rfl⟩:=loop_of hl2
  (fun i L' t=>L'.find 4=.ptr t1.n 0∧L'.find 5=vt∧L'.find 9=.int .i64 (i:Int)∧Past z t (1 * i)∧t.m≤far)
  (fun e L' t=>e=.exit 2)
  b.goods (by unfold rounds;omega) ⟨by simp only [Env.find_set,p4,reduceIte,Nat.reduceEqDiff],by simp only [Env.find_set,p5,reduceIte,Nat.reduceEqDiff],by simp only [Env.find_set,reduceIte,Nat.reduceEqDiff];rfl,Past.refl z,zm⟩
  (fun i L' t hi ⟨q4,q5,q9,hE,hEm⟩=>by
   by_cases hlt:i<b.goods
   ·obtain ⟨L3,t3',z1,z2,z3,z4,z5⟩:=half_goods n (by omega) cx (ks:=b.stalls) (kg:=b.goods) okX okZ z4 (by omega) R1 RTz hE hEm (by omega) hlt q4 q5 q9
    exact .inl ⟨hlt,L3,t3',z1,(z5 4 (by omega)).trans q4,(z5 5 (by omega)).trans q5,z4,z2.mono (by omega),z3⟩
   ·obtain rfl:i=b.goods:=by omega
    have e1:decide ((b.goods:Int)<(b.goods:Int))=false:=by simp
    have t4':=(hE.same t1.n (by omega)).trans z4
    refine .inr ⟨.exit 2,L'.set 64 (.bool false),t,by simp,?_,rfl⟩
    simp (disch:=first|omega|(with_unfolding_all exact rfl)|(simp only[new_n,put_n,new_m];omega)|(refine put_m_le ?_;simp only[new_m];omega)) only [K8l2,K8r13,Abs.W,reduceIte,Nat.reduceEqDiff,Nat.reduceAdd,decide_true,decide_false,kLoop_def,Nat.reduceSub,List.cons_append,List.nil_append,List.append_nil,List.length_cons,List.length_nil,Env.find_set,q4,q9,t4',e1,Nat.zero_add])
 simp (disch:=first|omega|(with_unfolding_all exact rfl)|(simp only[new_n,put_n,new_m];omega)|(refine put_m_le ?_;simp only[new_m];omega)) only [K8r28,res8,Abs.W,reduceIte,Nat.reduceEqDiff,Nat.reduceAdd,decide_true,decide_false,kLoop_def,Nat.reduceSub,List.cons_append,List.nil_append,List.append_nil,List.length_cons,List.length_nil,Env.find_set,knA]
 exact ⟨_,rfl⟩
end Go.Proofs.Ytamlnddeiokbdaa.walk
namespace Go.Proofs.Ytamlnddeiokbdaa.mdie
open Go.RowKit
def Die (b:Nat) (w:World):Prop:=∃ s,w.heap[b]? = some (.cells #[.int .u64 s] 69 (0,0))
theorem Die.old {b:Nat} {w:World} (h:Die b w):(∃ s,w.cell? ⟨b,0,none⟩=some (.int .u64 s))∧w.frozen? ⟨b,0,none⟩=false:=by
 obtain ⟨s,hs⟩:=h
 refine ⟨⟨s,?_⟩,?_⟩
 ·unfold World.cell?;simp [hs]
 ·unfold World.frozen?;simp [hs]
structure Stir (b:Nat) (w w':World):Prop where
 below:Below b w w'
 rest:∀ p:Addr,p.block≠b→p.block<w.heap.size→w'.cell? p=w.cell? p∧w'.frozen? p=w.frozen? p
 die:Die b w'
def Gives (b:Nat) (k:IntKind) (Q:Int→Prop) (w:World) (e:Ending) (w':World):Prop:=∃ r,Q r∧e=.returned (.int k r)∧Stir b w w'
theorem bits_nonneg (op:BinOp) (x y:Int):0≤bits op .u64 x y:=by
 have:=bounds_u64 (wf_bits (k:=.u64) (op:=op) (x:=x) (y:=y))
 exact this.1
theorem Stir.set {b:Nat} {w:World} (h:Die b w) (s:Int):Stir b w (w.setCell ⟨b,0,none⟩ (.int .u64 s)):=by
 obtain ⟨t,ht⟩:=h
 refine ⟨(Below.refl b w).setCell (p:=⟨b,0,none⟩) (Nat.le_refl b) _,fun p hp _=>⟨World.cell?_of_block (Below.heap_setCell _ _ _ _ hp),World.frozen?_of_block (Below.heap_setCell _ _ _ _ hp)⟩,⟨s,?_⟩⟩
 unfold World.setCell
 simp [Array.getElem?_modify,ht]
theorem roll (b:Nat) (w:World) (h:Die b w):Calls Try.prog 30 #[.pointer (some ⟨b,0,none⟩)] w (Gives b .u64 (fun r=>0≤r) w):=by
 have h':=Lib.hid h
 obtain ⟨⟨s,hs⟩,hf⟩:=h.old
 clear h
 go_enter Try.func30,Try.ntmps30
 go_wp2
 go_ret
 exact ⟨_,bits_nonneg _ _ _,rfl,Stir.set h'.out _⟩
theorem Stir.refl {b:Nat} {w:World} (h:Die b w):Stir b w w:=⟨Below.refl _ _,fun _ _ _=>⟨rfl,rfl⟩,h⟩
theorem Stir.trans {b:Nat} {u v w:World} (h:Stir b u v) (k:Stir b v w):Stir b u w :=
 ⟨h.below.trans k.below,fun p hp hb=>⟨(k.rest p hp (Nat.lt_of_lt_of_le hb h.below.size)).1.trans (h.rest p hp hb).1,(k.rest p hp (Nat.lt_of_lt_of_le hb h.below.size)).2.trans (h.rest p hp hb).2⟩,k.die⟩
theorem Die.lt {b:Nat} {w:World} (h:Die b w):b<w.heap.size:=by obtain ⟨⟨s,hs⟩,_⟩:=h.old;exact World.block_lt_of_cell? w _ hs
theorem Stir.drew {b:Nat} {w w':World} (h:Stir b w w'):Stir b w w'.drew:=h.trans ⟨⟨rfl,rfl,rfl,Nat.le_refl _,fun _ _=>rfl⟩,fun _ _ _=>⟨rfl,rfl⟩,h.die⟩
def Born (w:World) (e:Ending) (w':World):Prop:=e=.returned (.pointer (some ⟨w.heap.size,0,none⟩))∧Below w.heap.size w w'∧Die w.heap.size w'∧w.heap.size<w'.heap.size
theorem Die.born (w:World) (s:Int):Die w.heap.size (w.alloc (.cells #[.int .u64 s] 69)):=⟨s,by show (w.heap.push _)[w.heap.size]? = _;rw [Array.getElem?_push,if_pos rfl]⟩
set_option maxRecDepth 100000 in
theorem born (x:Option Addr) (n c:Nat) (w:World) (hn:n≤maxLen) (hc:∀ i,i<n→∃ b o,x=some ⟨b,o,none⟩∧∃ v,w.cell? ⟨b,o+i,none⟩=some (.int .i64 v)) :
  Calls Try.prog 9 #[.slice x n c] w (Born w):=by
 unfold maxLen at hn
 have HC:=Lib.hid hc
 clear hc
 have hdie:=Lib.hid (Die.born w 2611923443488327891)
 go_enter Try.func9,Try.ntmps9
 go_wp2
 go_loopw [4] (fun i wr=>∃ k:Nat,k≤n∧i=.int .i64 k∧Stir w.heap.size (w.alloc (.cells #[.int .u64 2611923443488327891] 69)) wr) (fun i _=>n - (intOf i).toNat)
 case atStart=>exact ⟨0,Nat.zero_le _,rfl,Stir.refl hdie.out⟩
 case round =>
  obtain ⟨k,hk,rfl,hs⟩:=hrel
  by_cases hlt:k<n
  ·obtain ⟨b,o,rfl,v,hv⟩:=HC.out k hlt
   have hb:=World.block_lt_of_cell? _ _ hv
   simp only at hb
   have hv1:wr.cell? ⟨b,o+k,none⟩=some (.int .i64 v):=((hs.rest ⟨b,o+k,none⟩ (Nat.ne_of_lt hb) (by simp;omega)).1.trans (World.cell?_of_block (Below.heap_alloc _ _ _ hb))).trans hv
   clear hv
   obtain ⟨⟨s,hd⟩,hf⟩:=hs.die.old
   have hst:=Lib.hid (fun s1:Int=>(hs.drew).trans (Stir.set hs.drew.die s1))
   have hlt':(k:Int)<(n:Int):=by omega
   have hk0:(0:Int)≤(k:Int):=by omega
   go_wp2
   go_still_tail 12,(by kernel_rfl)
   change wpList _ _ _ _ _ wr.drew
   go_wp2_with (go_at_call 30;refine (roll _ _ ?_).mono ?_;exact (hst.out _).die;rintro e w1 ⟨r,hr,rfl,hs1⟩;(have hs2:=(hst.out _).trans hs1))
   go_roundw
   case rel=>exact ⟨k+1,by omega,by go_num,hs2⟩
   case measure=>simp [intOf];omega
  ·go_wp2
   go_ret
   exact ⟨rfl,((Below.refl w.heap.size w).alloc (Nat.le_refl _) _).trans hs.below,hs.die,by have:=hs.below.size;simp at this;omega⟩
end Go.Proofs.Ytamlnddeiokbdaa.mdie
namespace Go.Abs
open Go.RowKit
variable {P:Program}
theorem mid_calls {cl:CallF} (hc:CallSound P cl) {f:FuncId} {fn:Func} (hf:P.funcs[f]? = some fn) {c0 c1 rest:Code} (hb:fn.body=some (.seq c0 (.seq c1 rest))) {X:FuncId→List Nat} {k:K} {A:Array Value} {W:World} {R:Ending→World→Prop}
  (h:c0.wp P (Exit.then (fun a w=>c1.wp P (Exit.then (fun a w=>∃ ρ L s v s',ActRel ρ fn.ntmps L [] a∧Clean (X f) L∧SRel ρ s w∧finA P fn (k cl ⟨f,none,fn.ntmps,X f⟩ L [] s)=.val v s'∧∀ ρ' V W',After ρ s w ρ' s' W'→VRel ρ' v V→R (.returned V) W') fun _ _ _=>False) a w) fun _ _ _=>False)
   { tmps:=A++Array.replicate (fn.ntmps - A.size) undef,defers:=[] } W)
  (hk:codeK P (X f) fn.ntmps rest=some k):Calls P f A W R:=by
 intro cs
 obtain ⟨b,hbd⟩:∃ b:Frame,b={ (default:Frame) with fn:=f,kind:=.normal }:=⟨_,rfl⟩
 have hr:b.roundOf=none:=by rw [hbd];rfl
 have henter:Frame.enter P f A .normal=b.at { tmps:=A++Array.replicate (fn.ntmps - A.size) undef,defers:=[] } [.code (.seq c0 (.seq c1 rest))]:=by
  rw [hbd];simp [Frame.enter,Frame.at,hf,hb]
 obtain ⟨e0,a0,w0,q0,ar0⟩:=h b [.code (.seq c1 rest)] cs
 cases e0<;>simp only [Exit.then] at q0
 obtain ⟨e1,a1,w1,q1,ar1⟩:=q0 b [.code rest] cs
 cases e1<;>simp only [Exit.then] at q1
 obtain ⟨ρ,L,s,v,s',hact,hclean,hs,hfin,hR⟩:=q1
 have st1:Steps P (lone (Frame.enter P f A .normal) cs W) (lone (b.atR a1 [.code rest]) cs w1):=by
  rw [henter,Frame.atR_of_none hr]
  exact (Steps.head step_seq ar0).trans (Steps.head step_seq ar1)
 have hctx:CtxRel ρ ⟨f,none,fn.ntmps,X f⟩ b:=⟨by rw [hbd],by rw [hbd],fun _=>hr,fun l e=>by cases e⟩
 generalize hr2:k cl ⟨f,none,fn.ntmps,X f⟩ L [] s=r at hfin
 cases r with
 | fail=>cases hfin
 | done e L1 d s₁ =>
  obtain ⟨ρ₁,a₁,W₁,af,ha₁,_,_,st⟩:=codeK_sound rest hk hc rfl rfl hctx hact hclean hs hr2
  have fin:∀ (hle:leaveA P fn.results.toList L1 d s₁=.val v s') (hst:∃ t,Steps P (lone (Frame.enter P f A .normal) cs W) (lone (back b a₁ t) cs W₁)),
    ∃ V w' fr,R (.returned V) w'∧Steps P (lone (Frame.enter P f A .normal) cs W) (lone fr cs w')∧fr.fn=f∧fr.leaving P w' (.returned V):=by
   intro hle hst
   obtain ⟨V,W₂,af₂,hv,st₂⟩:=leaveA_calls ha₁ af.rel hle
   obtain ⟨t,st₁⟩:=hst
   obtain ⟨fr,h1,h2,h3⟩:=st₂ b (by rw [hbd]) (by rw [hbd];exact hf) t cs
   exact ⟨V,W₂,fr,hR _ _ _ (af.trans af₂) hv,Steps.trans st₁ h1,by rw [h2,hbd],h3⟩
  cases e with
  | exit id=>cases hfin
  | norm =>
   have z:=st [] cs
   obtain ⟨V,w',fr,h1,h2,h3,h4⟩:=fin hfin ⟨[],st1.trans (Steps.trans z (.one (stepR_end hr)))⟩
   exact ⟨.returned V,w',fr,h1,h2,h3,h4⟩
  | ret =>
   obtain ⟨k0,z⟩:=st [] cs
   obtain ⟨V,w',fr,h1,h2,h3,h4⟩:=fin hfin ⟨.code .ret::k0,st1.trans (z.trans (.one (stepR_ret hr)))⟩
   exact ⟨.returned V,w',fr,h1,h2,h3,h4⟩
end Go.Abs
set_option maxRecDepth 10000
namespace Go.Proofs.Ytamlnddeiokbdaa.walk
open Go.Abs Go.RowKit Go.Proofs.Ytamlnddeiokbdaa.code
noncomputable def die0 (F:Int):St:=St.new ⟨.nil,0,far⟩ (.cells [.int .u64 F] (tag 69))
def rho0 (d:Nat):Rho:=fun b=>if b=0 then some (d,(0,0)) else none
theorem die0_get {F:Int} {b:Nat} {o:AObj} (h:(die0 F).h.get b=some o):b=0∧o=.cells [.int .u64 F] (tag 69):=by
 by_cases e:b=0
 ·subst e
  have:(die0 F).h.get 0=some (.cells [.int .u64 F] (tag 69)):=get_new_eq _ _ _ rfl (by decide)
  rw [this] at h
  exact ⟨rfl,(Option.some.inj h).symm⟩
 ·unfold die0 at h
  rw [get_new_ne _ _ _ e] at h
  cases h
theorem die0_has {F:Int} {b x:Nat} {o:AObj} (h:Has (die0 F).h b x o):b=0∧x=0∧o=.cells [.int .u64 F] (tag 69):=by
 obtain ⟨y,hy,hp⟩:=h
 obtain ⟨rfl,rfl⟩:=die0_get hy
 have hl:AObj.lone (.cells [.int .u64 F] (tag 69)):=trivial
 rw [parts_lone hl] at hp
 have:=List.mem_singleton.mp hp
 cases this
 exact ⟨rfl,rfl,rfl⟩
theorem die0_rel {F:Int} {d:Nat} {W:World} (h:W.heap[d]? = some (.cells #[.int .u64 F] 69 (0,0))):SRel (rho0 d) (die0 F) W:=by
 refine ⟨⟨fun b o hb=>?_,fun b x o hb=>?_,fun b b' x x' o o' c e e' hb hb' _ _=>?_,fun g cs hg=>(by cases hg),fun b x o c e hb hr=>rfl,fun b x x' o o' c e e' hb hb' hr hr'=>?_⟩,fun b hb=>?_⟩
 ·rw [(die0_get hb).1];decide
 ·obtain ⟨rfl,rfl,rfl⟩:=die0_has hb
  exact ⟨d,(0,0),_,if_pos rfl,h,.cells rfl (.cons (.int _ _) .nil) (Typed.tag _)⟩
 ·rw [(die0_has hb).1,(die0_has hb').1]
 ·obtain ⟨_,rfl,_⟩:=die0_has hb
  obtain ⟨_,rfl,_⟩:=die0_has hb'
  rw [hr] at hr'
  cases hr'
  rfl
 ·have:1≤b:=hb
  exact if_neg (by omega)
end Go.Proofs.Ytamlnddeiokbdaa.walk
set_option maxRecDepth 10000
namespace Go.Proofs.Ytamlnddeiokbdaa.walk
open Go.Abs Go.RowKit Go.Proofs.Ytamlnddeiokbdaa.code
set_option maxRecDepth 100000 in
theorem phf_calls (a:Option Addr) (n c:Nat) (w:World) (hn:n≤maxLen) (hc:∀ i,i<n→∃ b o,a=some ⟨b,o,none⟩∧∃ v,w.cell? ⟨b,o+i,none⟩=some (.int .i64 v)) :
  Calls Try.prog 8 #[.slice a n c] w fun e w'=>e=.returned (.bool true)∧Below w.heap.size w w':=by
 have HC:=Lib.hid hc
 clear hc
 refine mid_calls (cl:=knows 20 (call Try.prog X 20)) (knows_sound (call_sound 200) Try.func20 awake.entered (call_sound 20)) Try.func8 rfl (X:=X) (k:=halfRest) ?_ (by kernel_rfl)
 simp only [Try.ntmps8,List.size_toArray,List.length_cons,List.length_nil,Nat.reduceAdd,Nat.reduceSub,Array.replicate_succ,Array.replicate_zero,List.push_toArray,List.append_toArray,List.nil_append,List.cons_append]
 go_wp2_with (go_at_call 9;((with_reducible refine (mdie.born _ _ _ _ hn HC.out).mono ?_);rintro e w1 ⟨rfl,hB1,⟨F,hF⟩,hg1⟩))
 have hd0:walk.Die 0 (die0 F).h:=⟨F,get_new_eq _ _ _ rfl (by decide)⟩
 obtain ⟨s',hs'⟩:=half_body 20 (by omega) ⟨8,none,Try.f8.ntmps,X 8⟩ (die0 F) 0 hd0 (by show 0<1;omega) (by show 1+9000000≤1000000000;omega) rfl
 refine ⟨rho0 w.heap.size,.cons 3 (.ptr 0 0) .nil,die0 F,.bool true,s',⟨fun t=>?_,rfl,.nil⟩,fun t ht=>?_,die0_rel hF,hs',fun ρ' V W' af hv=>?_⟩
 ·by_cases e:t=3
  ·subst e
   exact .ptr (e:=(0,0)) (if_pos rfl)
  ·rw [show (Env.cons 3 (.ptr 0 0) .nil).find t=AV.bad by rw [find_cons,if_neg (by omega)];rfl]
   exact .bad _
 ·by_cases e:t=3
  ·subst e
   have hx:(X 8).contains 3=true:=by kernel_rfl
   rw [hx] at ht
   cases ht
  ·rw [find_cons,if_neg (by omega)];rfl
 ·cases hv
  refine ⟨rfl,hB1.trans ⟨af.os,af.tape,af.output,af.size,fun k hk=>af.frame k (by omega) fun b x o e hb hr=>?_⟩⟩
  obtain ⟨_,rfl,_⟩:=die0_has hb
  have hr:some (w.heap.size,(0,0))=some (k,e):=hr
  injection hr with hr
  injection hr with hr _
  omega
end Go.Proofs.Ytamlnddeiokbdaa.walk
