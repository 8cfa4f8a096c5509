/- The law ScaleAll: its body behind its die. -/
import Derived.Test.YtkkdiibgjgnbhaaM9
import Derived.Test.YtkkdiibgjgnbhaaProg
import Derived.Tactics
import Derived.Tactics2
import Derived.WalkKit
import Derived.OpenShut
import Derived.Below
import Derived.Lib.Hide
import Derived.KernelRfl
import Derived.Deep.RegionHeld3
import Derived.OwnWalk
import Derived.StillTailTactics
import Derived.Test.YtkkdiibgjgnbhaaAbsTop
import Derived.Test.YtkkdiibgjgnbhaaAbsWalk
import Derived.Test.YtkkdiibgjgnbhaaM2
import Derived.Test.YtkkdiibgjgnbhaaAwake
import Derived.Test.YtkkdiibgjgnbhaaWalkAll
set_option maxHeartbeats 16000000
set_option linter.unusedVariables false
set_option maxRecDepth 10000
namespace Go.Proofs.Ytkkdiibgjgnbhaa.walk
open Go.Abs Go.Proofs.Ytkkdiibgjgnbhaa.code
theorem offsOf_at (b:Bench) (T:List (List Gap)) (i:Nat) (h:i<(offsOf b T).length):(offsOf b T)[i]=ent T (1+i) 0:=by simp [offsOf]
theorem errsOf_at (b:Bench) (T:List (List Gap)) (i:Nat) (h:i<(errsOf b T 0).length):(errsOf b T 0)[i]=ent T 0 (errAt b 0 i):=by simp [errsOf]
noncomputable def allFirst:OpsF:=(oCall (.tmp 17) (.con (.func 4 [] [])) [(.tmp 16)] (oVal (.tmp 3) (kAlloc [.nilslice,.nilslice,.nilslice,.nilslice,(.int Go.IntKind.i64 0)] (tag 28)) (oVal .none (kStore 5 (.tmp 3) (.tmp 17)) oNil)))
noncomputable def allRest:K:=(kSeq (kRegion K3r2 [4]) (kSeq (kRegion K3r3 [5,6]) (kSeq (kRegion K3r4 [7,8]) (kSeq (kSeq (kRegion K3r5 [33]) (kCond (.tmp 33) (kSeq (kRegion K3r6 [2]) kRet) kSkip)) (kSeq (kSeq (kRegion K3r7 [64]) (kCond (.tmp 64) (kSeq (kRegion K3r8 [2]) kRet) kSkip)) (kSeq (kSeq (kRegion K3r9 [9]) (kBlock 0 (kLoop K3l1))) (kSeq (kSeq (kRegion K3r19 [12]) (kBlock 4 (kLoop K3l3))) (kSeq (kRegion K3r29 [2]) kRet))))))))
theorem all_body (n:Nat) (hn:20≤n) (cx:Ctx) (s:St) (d:Nat) (hd:Die d s.h) (hdn:d<s.n) (hs:s.n+90000000≤far) :
  ∃ M s1 s',allFirst (awl n) (.cons 16 (.ptr d 0) .nil) s=.ok M s1∧∀ kl,kl=[3]→finA Try.prog Try.f3 (allRest (awl n) cx (keepK kl M .nil) [] s1)=.val (.bool true) s':=by
 have hf:far=1000000000:=rfl
 have knF:∀ args s,knows 9 (call Try.prog X n) (.fn 4) args s=call Try.prog X n (.fn 4) args s:=fun _ _=>rfl
 have knG:∀ args s,knows 9 (call Try.prog X n) (.fn 6) args s=call Try.prog X n (.fn 6) args s:=fun _ _=>rfl
 have knO:∀ args s,knows 9 (call Try.prog X n) (.fn 7) args s=call Try.prog X n (.fn 7) args s:=fun _ _=>rfl
 have knE:∀ args s,knows 9 (call Try.prog X n) (.fn 8) args s=call Try.prog X n (.fn 8) args s:=fun _ _=>rfl
 have knA:∀ s,knows 9 (call Try.prog X n) (.fn 9) [] s=.val (.bool true) s:=fun _=>rfl
 have ex0:∀ (a b:AV) (s:St),extA 0 s (.tup [a,b])=.val a s:=fun _ _ _=>rfl
 have ex1:∀ (a b:AV) (s:St),extA 1 s (.tup [a,b])=.val b s:=fun _ _ _=>rfl
 have u7s21:=fun cl L s=>congrFun (congrFun (congrFun K3r7s21.eq_1 cl) L) s
 have u7s20:=fun cl L s=>congrFun (congrFun (congrFun K3r7s20.eq_1 cl) L) s
 have u7s19:=fun cl L s=>congrFun (congrFun (congrFun K3r7s19.eq_1 cl) L) s
 have u7s18:=fun cl L s=>congrFun (congrFun (congrFun K3r7s18.eq_1 cl) L) s
 have u7s17:=fun cl L s=>congrFun (congrFun (congrFun K3r7s17.eq_1 cl) L) s
 have u7s16:=fun cl L s=>congrFun (congrFun (congrFun K3r7s16.eq_1 cl) L) s
 have u7s13:=fun cl L s=>congrFun (congrFun (congrFun K3r7s13.eq_1 cl) L) s
 have u7s12:=fun cl L s=>congrFun (congrFun (congrFun K3r7s12.eq_1 cl) L) s
 have u7s11:=fun cl L s=>congrFun (congrFun (congrFun K3r7s11.eq_1 cl) L) s
 have u7s10:=fun cl L s=>congrFun (congrFun (congrFun K3r7s10.eq_1 cl) L) s
 have u7s9:=fun cl L s=>congrFun (congrFun (congrFun K3r7s9.eq_1 cl) L) s
 have u7s8:=fun cl L s=>congrFun (congrFun (congrFun K3r7s8.eq_1 cl) L) s
 have u7s5:=fun cl L s=>congrFun (congrFun (congrFun K3r7s5.eq_1 cl) L) s
 have u7s4:=fun cl L s=>congrFun (congrFun (congrFun K3r7s4.eq_1 cl) L) s
 have u6s8:=fun cl L s=>congrFun (congrFun (congrFun K3r6s8.eq_1 cl) L) s
 have u6s5:=fun cl L s=>congrFun (congrFun (congrFun K3r6s5.eq_1 cl) L) s
 have u6s4:=fun cl L s=>congrFun (congrFun (congrFun K3r6s4.eq_1 cl) L) s
 unfold allFirst
 simp (disch:=first|omega|(with_unfolding_all exact rfl)|(simp only[new_n,put_n,new_m];omega)|(refine put_m_le ?_;simp only[new_m];omega)) only [Abs.W,reduceIte,knF]
 generalize hc1:call _ _ _ (.fn 4) _ _=r1
 obtain ⟨b,v1,v2,v3,v4,t1,rfl,st1,ok,fw,hm2,hd2,hB⟩:=few_ex hc1 (by omega) hd hdn (by omega)
 have n1:=st1.n
 have k1:=st1.le
 have scB:=scB_of hB s
 simp (disch:=first|omega|(with_unfolding_all exact rfl)|(simp only[new_n,put_n,new_m];omega)|(refine put_m_le ?_;simp only[new_m];omega)) only [Abs.W,reduceIte,Nat.reduceEqDiff,Nat.reduceAdd,Nat.reduceSub,scB,Nat.zero_add]
 obtain ⟨y,hy⟩:∃ y:St,y=(t1.new (.cells [.nilslice,.nilslice,.nilslice,.nilslice,.int .i64 0] (tag 28))).put t1.n (.cells [v1,v2,v3,v4,.int .i64 b.days] (tag 28)):=⟨_,rfl⟩
 have yn:y.n=t1.n+1:=by rw [hy];rfl
 have yg:∀ c,c<t1.n→y.h.get c=t1.h.get c:=fun c hc=>by rw [hy,get_put_ne' _ _ _ _ (by omega),get_new_ne _ _ _ (by omega)]
 have y3:y.h.get t1.n=some (.cells [v1,v2,v3,v4,.int .i64 b.days] (tag 28)):=by rw [hy];exact get_put_eq _ _ _ _ rfl (by omega)
 have hBy:BenchAt y.h t1.n b v1 v2 v3 v4:=hB.grow yg (Nat.le_refl _)
 rw [← hy]
 suffices main:∃ s',finA Try.prog Try.f3 (allRest (awl n) cx (Env.set 3 (.ptr t1.n 0) .nil) [] y)=.val (.bool true) s' by
  obtain ⟨s',H⟩:=main
  exact ⟨_,y,s',rfl,fun kl hkl=>by subst hkl;exact H⟩
 clear hy
 unfold allRest
 have one:=fw.one
 have dd:=ok.d1
 have hN:b.ms.length+b.ss.length * (b.days+1)<6:=by rw [one];omega
 have w6:wide 6=13996800:=by decide
 simp (disch:=first|omega|(with_unfolding_all exact rfl)|(simp only[new_n,put_n,new_m];omega)|(refine put_m_le ?_;simp only[new_m];omega)) only [K3r2,Abs.W,reduceIte,Nat.reduceEqDiff,Nat.reduceSub,y3,knG]
 generalize hc2:call _ _ _ (.fn 6) _ _=r2
 obtain ⟨vo,t2,bl,rfl,g2,hFs,hbl,hbl2⟩:=facts_ok 6 n (by omega) far t1.n b ([],[]) [] v1 v2 v3 v4 .nilslice .nilslice .nilslice y _ hc2 ok fw (part_nil b) (by unfold left;simpa using hN) hBy (by omega) (by omega) (.inr rfl) (factM_nil _ _ _) (FactsM.nil _ _ _) (by decide) (by rw [w6];omega)
 rw [List.nil_append] at hFs
 have n2:=g2.n
 have k2:=g2.le
 rw [w6] at k2
 have G2:∀ c,c<y.n→t2.h.get c=y.h.get c:=fun c hc=>g2.same c hc (by omega)
 have hB2:BenchAt t2.h t2.n b v1 v2 v3 v4:=hBy.grow (fun c hc=>G2 c (by omega)) (by omega)
 have z3:=(G2 t1.n (by omega)).trans y3
 have kvo:∀ t,okA (.val vo t)=.val vo t:=hFs.okA
 simp (disch:=first|omega|(with_unfolding_all exact rfl)|(simp only[new_n,put_n,new_m];omega)|(refine put_m_le ?_;simp only[new_m];omega)) only [K3r3,Abs.W,reduceIte,Nat.reduceEqDiff,Nat.reduceSub,z3,knO]
 generalize hc3:call _ _ _ (.fn 7) _ _=r3
 obtain ⟨vf,ef,t3,rfl,st3,hO⟩:=Offs_ex hc3 (by omega) ok hB2 (by omega)
 have n3:=st3.n
 have k3:=st3.le
 have z3':=(st3.same t1.n (by omega)).trans z3
 have hB3:=hB2.grow st3.same n3
 have kvf:∀ t,okA (.val vf t)=.val vf t:=fun t=>by
  rcases hO with ⟨_,h,_⟩ | ⟨_,T,_,h⟩
  ·rw [h];rfl
  ·exact okA_ne h.ne
 simp (disch:=first|omega|(with_unfolding_all exact rfl)|(simp only[new_n,put_n,new_m];omega)|(refine put_m_le ?_;simp only[new_m];omega)) only [K3r4,Abs.W,reduceIte,Nat.reduceEqDiff,Nat.reduceSub,z3',ex0,ex1,knE]
 generalize hc4:call _ _ _ (.fn 8) _ _=r4
 obtain ⟨ve,ee,t4,rfl,st4,hE⟩:=Errors_ex (k:=0) hc4 (by omega) ok (by omega) hB3 (by omega)
 have n4:=st4.n
 have k4:=st4.le
 have z3'':=(st4.same t1.n (by omega)).trans z3'
 have hF4:FactsM t4.h t4.n bl (factsL b 6 ([],[])) vo:=(hFs.move st3.same n3).move st4.same n4
 have kve:∀ t,okA (.val ve t)=.val ve t:=fun t=>by
  rcases hE with ⟨_,h,_⟩ | ⟨_,T,_,h⟩
  ·rw [h];rfl
  ·exact okA_ne h.ne
 have lvo:=hF4.len
 have hN6:b.ms.length+b.ss.length * (b.days+1)<6:=hN
 have d0:decide ((0:Int)=0)=true:=by decide
 have d9:decide ((9:Int)=9)=true:=by decide
 rcases Nat.eq_zero_or_pos (factsL b 6 ([],[])).length with h0 | h0
 ·have hnone:=(all_none ok hN).mp (List.length_eq_zero_iff.mp h0)
  rw [hnone] at hO hE
  have ef9:ef=9:=by
   rcases hO with ⟨_,_,h⟩ | ⟨_,T,h,_⟩
   ·exact h
   ·cases h
  have ee9:ee=9:=by
   rcases hE with ⟨_,_,h⟩ | ⟨_,T,h,_⟩
   ·exact h
   ·cases h
  subst ef9 ee9
  rw [h0] at lvo
  have lvo0:∀ s,lenSlA s vo=.val (.int .i64 0) s:=lvo
  simp (config:={ maxSteps:=3000000 }) (disch:=first|omega|(with_unfolding_all exact rfl)|(simp only[new_n,put_n,new_m];omega)|(refine put_m_le ?_;simp only[new_m];omega)) only [K3r5,K3r6,u6s8,u6s5,u6s4,res3,Abs.W,reduceIte,Nat.reduceEqDiff,decide_true,ex0,ex1,lvo0,knA]
  exact ⟨_,rfl⟩
 ·obtain ⟨T,hT⟩:∃ T,knT b (resMany b)=some T:=by
   cases h:knT b (resMany b) with
   | some T=>exact ⟨T,rfl⟩
   | none=>rw [(all_none ok hN).mpr h] at h0;simp at h0
  rw [hT] at hO hE
  obtain ⟨ef0,hRf⟩:ef=0∧RowsAt t3.h t3.n 2 (gapRow (offsOf b T)) vf:=by
   rcases hO with ⟨h,_⟩ | ⟨h,T',hT',h'⟩
   ·cases h
   ·cases hT';exact ⟨h,h'⟩
  obtain ⟨ee0,hRe⟩:ee=0∧RowsAt t4.h t4.n 2 (gapRow (errsOf b T 0)) ve:=by
   rcases hE with ⟨h,_⟩ | ⟨h,T',hT',h'⟩
   ·cases h
   ·cases hT';exact ⟨h,h'⟩
  subst ef0 ee0
  have hRf4:=hRf.grow st4.same n4
  have lf:=hRf4.len
  rw [gapRow_len,show (offsOf b T).length=b.ms.length from by unfold offsOf;rw [List.length_map,List.length_range]] at lf
  have le:=hRe.len
  rw [gapRow_len,show (errsOf b T 0).length=b.days+1 from by unfold errsOf;rw [List.length_map,List.length_range]] at le
  have hB4:=hB3.grow st4.same n4
  have kv1:∀ t,okA (.val v1 t)=.val v1 t:=fun t=>okA_ne hB4.m.ne
  have lv1:∀ s,lenSlA s v1=.val (.int .i64 (b.ms.length:Int)) s:=fun s=>by have:=hB4.m.len s;rw [List.length_map] at this;exact this
  have le':∀ s,lenSlA s ve=.val (.int .i64 ((b.days:Int)+1)) s:=le
  have d5:decide (((factsL b 6 ([],[])).length:Int)=0)=false:=decide_eq_false (by omega)
  have adD:∀ s,aAdd s .i64 (b.days:Int) 1=.val (.int .i64 ((b.days:Int)+1)) s:=fun s=>aAdd_i64 s _ _ (by omega)
  have dm:decide ((b.ms.length:Int)=(b.ms.length:Int))=true:=by simp
  have dD:decide ((b.days:Int)+1=(b.days:Int)+1)=true:=by simp
  simp (config:={ maxSteps:=3000000 }) (disch:=first|omega|(with_unfolding_all exact rfl)|(simp only[new_n,put_n,new_m];omega)|(refine put_m_le ?_;simp only[new_m];omega)) only [K3r5,K3r7,u7s21,u7s20,u7s19,u7s18,u7s17,u7s16,u7s13,u7s12,u7s11,u7s10,u7s9,u7s8,u7s5,u7s4,Abs.W,reduceIte,Nat.reduceEqDiff,decide_true,Nat.reduceSub,ex0,ex1,kv1,lvo,lf,le',lv1,z3'',d5,adD,Nat.zero_add,Nat.add_zero]
  simp (disch:=first|omega|(with_unfolding_all exact rfl)|(simp only[new_n,put_n,new_m];omega)|(refine put_m_le ?_;simp only[new_m];omega)) only [K3r9,Abs.W,reduceIte,Nat.reduceEqDiff,kLoop_def]
  generalize hl1:loopN _ rounds _ _ _ _ _=rl1
  have facl:=factsL_len fw 6 ([],[]) (part_nil b)
  have mem:∀ F ∈ factsL b 6 ([],[]),Fits b F.1 F.2:=fun F hF=>(factsL_fits 6 _ (part_nil b) F hF).1
  have p6:(5:Nat) ^ 6=15625:=by decide
  obtain ⟨E1,t5,rfl,g51,g52,g53,e1⟩:=all_loop1 n (by omega) hl1 hF4 hRf4 (by unfold offsOf;rw [List.length_map,List.length_range];have:=ok.m1;omega) h0 (fun F hF=>by rw [(mem F hF).ol];unfold offsOf;rw [List.length_map,List.length_range]) (by omega) (by omega)
   (fun i hi=>by
    have hi':i<b.ms.length:=by unfold offsOf at hi;rw [List.length_map,List.length_range] at hi;exact hi
    rw [offsOf_at b T i hi]
    exact all_off ok hT hN hi')
   (by simp only [find_cons,reduceIte,Nat.reduceEqDiff]) (by simp only [find_cons,reduceIte,Nat.reduceEqDiff]) (by simp only [find_cons,reduceIte,Nat.reduceEqDiff];rfl)
  have p4:E1.find 4=vo:=(e1 4 (by omega)).trans (by simp only [find_cons,reduceIte,Nat.reduceEqDiff])
  have p7:E1.find 7=ve:=(e1 7 (by omega)).trans (by simp only [find_cons,reduceIte,Nat.reduceEqDiff])
  have hF5:=hF4.move g51 g52
  have hRe5:=hRe.grow g51 g52
  simp (disch:=first|omega|(with_unfolding_all exact rfl)|(simp only[new_n,put_n,new_m];omega)|(refine put_m_le ?_;simp only[new_m];omega)) only [K3r19,Abs.W,reduceIte,kLoop_def]
  generalize hl2:loopN _ rounds _ _ _ _ _=rl2
  obtain ⟨E2,t6,rfl,g61,g62,g63,e2⟩:=all_loop3 n (by omega) hl2 hF5 hRe5 (by unfold errsOf;rw [List.length_map,List.length_range];omega) h0 (fun F hF=>⟨by rw [(mem F hF).el];omega,by rw [(mem F hF).len 0 (by omega)];unfold errsOf;rw [List.length_map,List.length_range]⟩) (by omega) (by omega)
   (fun i hi=>by
    have hi':i<b.days+1:=by unfold errsOf at hi;rw [List.length_map,List.length_range] at hi;exact hi
    rw [errsOf_at b T i hi]
    exact all_err ok hT hN (by omega) (by omega))
   (by simp only [Env.find_set,p4,reduceIte,Nat.reduceEqDiff]) (by simp only [Env.find_set,p7,reduceIte,Nat.reduceEqDiff]) (by simp only [Env.find_set,reduceIte];rfl)
  simp (disch:=first|omega|(with_unfolding_all exact rfl)|(simp only[new_n,put_n,new_m];omega)|(refine put_m_le ?_;simp only[new_m];omega)) only [K3r29,res3,Abs.W,reduceIte,Nat.reduceEqDiff,Env.find_set,knA]
  exact ⟨_,rfl⟩
end Go.Proofs.Ytkkdiibgjgnbhaa.walk
namespace Go.Proofs.Ytkkdiibgjgnbhaa.mdie
open Go.RowKit
def Die (b:Nat) (w:World):Prop:=∃ s,w.heap[b]? = some (.cells #[.int .u64 s] 57 (0,0))
theorem Die.old {b:Nat} {w:World} (h:Die b w):(∃ s,w.cell? ⟨b,0,none⟩=some (.int .u64 s))∧w.frozen? ⟨b,0,none⟩=false:=by
 obtain ⟨s,hs⟩:=h
 refine ⟨⟨s,?_⟩,?_⟩
 ·unfold World.cell?;simp [hs]
 ·unfold World.frozen?;simp [hs]
structure Stir (b:Nat) (w w':World):Prop where
 below:Below b w w'
 rest:∀ p:Addr,p.block≠b→p.block<w.heap.size→w'.cell? p=w.cell? p∧w'.frozen? p=w.frozen? p
 die:Die b w'
def Gives (b:Nat) (k:IntKind) (Q:Int→Prop) (w:World) (e:Ending) (w':World):Prop:=∃ r,Q r∧e=.returned (.int k r)∧Stir b w w'
theorem bits_nonneg (op:BinOp) (x y:Int):0≤bits op .u64 x y:=by
 have:=bounds_u64 (wf_bits (k:=.u64) (op:=op) (x:=x) (y:=y))
 exact this.1
theorem Stir.set {b:Nat} {w:World} (h:Die b w) (s:Int):Stir b w (w.setCell ⟨b,0,none⟩ (.int .u64 s)):=by
 obtain ⟨t,ht⟩:=h
 refine ⟨(Below.refl b w).setCell (p:=⟨b,0,none⟩) (Nat.le_refl b) _,fun p hp _=>⟨World.cell?_of_block (Below.heap_setCell _ _ _ _ hp),World.frozen?_of_block (Below.heap_setCell _ _ _ _ hp)⟩,⟨s,?_⟩⟩
 unfold World.setCell
 simp [Array.getElem?_modify,ht]
theorem roll (b:Nat) (w:World) (h:Die b w):Calls Try.prog 12 #[.pointer (some ⟨b,0,none⟩)] w (Gives b .u64 (fun r=>0≤r) w):=by
 have h':=Lib.hid h
 obtain ⟨⟨s,hs⟩,hf⟩:=h.old
 clear h
 go_enter Try.func12,Try.ntmps12
 go_wp2
 go_ret
 exact ⟨_,bits_nonneg _ _ _,rfl,Stir.set h'.out _⟩
theorem Stir.refl {b:Nat} {w:World} (h:Die b w):Stir b w w:=⟨Below.refl _ _,fun _ _ _=>⟨rfl,rfl⟩,h⟩
theorem Stir.trans {b:Nat} {u v w:World} (h:Stir b u v) (k:Stir b v w):Stir b u w :=
 ⟨h.below.trans k.below,fun p hp hb=>⟨(k.rest p hp (Nat.lt_of_lt_of_le hb h.below.size)).1.trans (h.rest p hp hb).1,(k.rest p hp (Nat.lt_of_lt_of_le hb h.below.size)).2.trans (h.rest p hp hb).2⟩,k.die⟩
theorem Die.lt {b:Nat} {w:World} (h:Die b w):b<w.heap.size:=by obtain ⟨⟨s,hs⟩,_⟩:=h.old;exact World.block_lt_of_cell? w _ hs
theorem Stir.drew {b:Nat} {w w':World} (h:Stir b w w'):Stir b w w'.drew:=h.trans ⟨⟨rfl,rfl,rfl,Nat.le_refl _,fun _ _=>rfl⟩,fun _ _ _=>⟨rfl,rfl⟩,h.die⟩
def Born (w:World) (e:Ending) (w':World):Prop:=e=.returned (.pointer (some ⟨w.heap.size,0,none⟩))∧Below w.heap.size w w'∧Die w.heap.size w'∧w.heap.size<w'.heap.size
theorem Die.born (w:World) (s:Int):Die w.heap.size (w.alloc (.cells #[.int .u64 s] 57)):=⟨s,by show (w.heap.push _)[w.heap.size]? = _;rw [Array.getElem?_push,if_pos rfl]⟩
set_option maxRecDepth 100000 in
theorem born (x:Option Addr) (n c:Nat) (w:World) (hn:n≤maxLen) (hc:∀ i,i<n→∃ b o,x=some ⟨b,o,none⟩∧∃ v,w.cell? ⟨b,o+i,none⟩=some (.int .i64 v)) :
  Calls Try.prog 5 #[.slice x n c] w (Born w):=by
 unfold maxLen at hn
 have HC:=Lib.hid hc
 clear hc
 have hdie:=Lib.hid (Die.born w 2611923443488327891)
 go_enter Try.func5,Try.ntmps5
 go_wp2
 go_loopw [4] (fun i wr=>∃ k:Nat,k≤n∧i=.int .i64 k∧Stir w.heap.size (w.alloc (.cells #[.int .u64 2611923443488327891] 57)) wr) (fun i _=>n - (intOf i).toNat)
 case atStart=>exact ⟨0,Nat.zero_le _,rfl,Stir.refl hdie.out⟩
 case round =>
  obtain ⟨k,hk,rfl,hs⟩:=hrel
  by_cases hlt:k<n
  ·obtain ⟨b,o,rfl,v,hv⟩:=HC.out k hlt
   have hb:=World.block_lt_of_cell? _ _ hv
   simp only at hb
   have hv1:wr.cell? ⟨b,o+k,none⟩=some (.int .i64 v):=((hs.rest ⟨b,o+k,none⟩ (Nat.ne_of_lt hb) (by simp;omega)).1.trans (World.cell?_of_block (Below.heap_alloc _ _ _ hb))).trans hv
   clear hv
   obtain ⟨⟨s,hd⟩,hf⟩:=hs.die.old
   have hst:=Lib.hid (fun s1:Int=>(hs.drew).trans (Stir.set hs.drew.die s1))
   have hlt':(k:Int)<(n:Int):=by omega
   have hk0:(0:Int)≤(k:Int):=by omega
   go_wp2
   go_still_tail 12,(by kernel_rfl)
   change wpList _ _ _ _ _ wr.drew
   go_wp2_with (go_at_call 12;refine (roll _ _ ?_).mono ?_;exact (hst.out _).die;rintro e w1 ⟨r,hr,rfl,hs1⟩;(have hs2:=(hst.out _).trans hs1))
   go_roundw
   case rel=>exact ⟨k+1,by omega,by go_num,hs2⟩
   case measure=>simp [intOf];omega
  ·go_wp2
   go_ret
   exact ⟨rfl,((Below.refl w.heap.size w).alloc (Nat.le_refl _) _).trans hs.below,hs.die,by have:=hs.below.size;simp at this;omega⟩
end Go.Proofs.Ytkkdiibgjgnbhaa.mdie
namespace Go.Abs
open Go.RowKit
variable {P:Program}
end Go.Abs
set_option maxRecDepth 10000
namespace Go.Proofs.Ytkkdiibgjgnbhaa.walk
open Go.Abs Go.RowKit Go.Proofs.Ytkkdiibgjgnbhaa.code
noncomputable def die0 (F:Int):St:=St.new ⟨.nil,0,far⟩ (.cells [.int .u64 F] (tag 57))
def rho0 (d:Nat):Rho:=fun b=>if b=0 then some (d,(0,0)) else none
theorem die0_get {F:Int} {b:Nat} {o:AObj} (h:(die0 F).h.get b=some o):b=0∧o=.cells [.int .u64 F] (tag 57):=by
 by_cases e:b=0
 ·subst e
  have:(die0 F).h.get 0=some (.cells [.int .u64 F] (tag 57)):=get_new_eq _ _ _ rfl (by decide)
  rw [this] at h
  exact ⟨rfl,(Option.some.inj h).symm⟩
 ·unfold die0 at h
  rw [get_new_ne _ _ _ e] at h
  cases h
theorem die0_has {F:Int} {b x:Nat} {o:AObj} (h:Has (die0 F).h b x o):b=0∧x=0∧o=.cells [.int .u64 F] (tag 57):=by
 obtain ⟨y,hy,hp⟩:=h
 obtain ⟨rfl,rfl⟩:=die0_get hy
 have hl:AObj.lone (.cells [.int .u64 F] (tag 57)):=trivial
 rw [parts_lone hl] at hp
 have:=List.mem_singleton.mp hp
 cases this
 exact ⟨rfl,rfl,rfl⟩
theorem die0_rel {F:Int} {d:Nat} {W:World} (h:W.heap[d]? = some (.cells #[.int .u64 F] 57 (0,0))):SRel (rho0 d) (die0 F) W:=by
 refine ⟨⟨fun b o hb=>?_,fun b x o hb=>?_,fun b b' x x' o o' c e e' hb hb' _ _=>?_,fun g cs hg=>(by cases hg),fun b x o c e hb hr=>rfl,fun b x x' o o' c e e' hb hb' hr hr'=>?_⟩,fun b hb=>?_⟩
 ·rw [(die0_get hb).1];decide
 ·obtain ⟨rfl,rfl,rfl⟩:=die0_has hb
  exact ⟨d,(0,0),_,if_pos rfl,h,.cells rfl (.cons (.int _ _) .nil) (Typed.tag _)⟩
 ·rw [(die0_has hb).1,(die0_has hb').1]
 ·obtain ⟨_,rfl,_⟩:=die0_has hb
  obtain ⟨_,rfl,_⟩:=die0_has hb'
  rw [hr] at hr'
  cases hr'
  rfl
 ·have:1≤b:=hb
  exact if_neg (by omega)
end Go.Proofs.Ytkkdiibgjgnbhaa.walk
namespace Go.Abs
open Go.RowKit
variable {P:Program}
theorem range_two (n:Nat):List.range' 0 (n+2)=0::1::List.range' 2 n:=rfl
theorem mid2_calls {cl:CallF} (hc:CallSound P cl) {f:FuncId} {fn:Func} (hf:P.funcs[f]? = some fn) {c0 rest:Code} {id:Nat} {ops:Array Oper} (hb:fn.body=some (.seq c0 (.seq (.region id ops false) rest))) {X:FuncId→List Nat} {k:K} {fo:OpsF} {o0 o1:Oper} {suf:List Oper} {A:Array Value} {W:World} {R:Ending→World→Prop}
  (hops:ops.toList=o0::o1::suf) (g0:o0.guard=none) (g1:o1.guard=none) (hd0:∀ c,o0.op≠.defer c) (hd1:∀ c,o1.op≠.defer c) (hfo:opsK P fn.ntmps ops suf=some fo) (hk:codeK P (X f) fn.ntmps rest=some k)
  (h:c0.wp P (Exit.then (fun a w=>∃ V0 g B,(execOp a.eval o0).run P w=.ok (.value V0) w∧(execOp (a.put o0.dst V0).eval o1).run P w=.ok (.enter g B) w∧Calls P g B w fun e w2=>∃ V1,e=.returned V1∧∃ ρ L0 L2 s M s1 v s',ActRel ρ fn.ntmps L2 [] ((a.put o0.dst V0).put o1.dst V1)∧Clean (X f) L0∧(∀ t,(∀ o ∈ ops.toList,o.dst≠some t)→L2.find t=L0.find t)∧SRel ρ s w2∧fo cl L2 s=.ok M s1 ∧
    finA P fn (k cl ⟨f,none,fn.ntmps,X f⟩ (keepK (keepOf (X f) ops.toList) M L0) [] s1)=.val v s'∧∀ ρ' V W',After ρ s w2 ρ' s' W'→VRel ρ' v V→R (.returned V) W') fun _ _ _=>False)
   { tmps:=A++Array.replicate (fn.ntmps - A.size) undef,defers:=[] } W):Calls P f A W R:=by
 intro cs
 obtain ⟨b,hbd⟩:∃ b:Frame,b={ (default:Frame) with fn:=f,kind:=.normal }:=⟨_,rfl⟩
 have hr:b.roundOf=none:=by rw [hbd];rfl
 have henter:Frame.enter P f A .normal=b.at { tmps:=A++Array.replicate (fn.ntmps - A.size) undef,defers:=[] } [.code (.seq c0 (.seq (.region id ops false) rest))]:=by
  rw [hbd];simp [Frame.enter,Frame.at,hf,hb]
 have ho0:ops[0]? = some o0:=by rw [← Array.getElem?_toList,hops];rfl
 have ho1:ops[1]? = some o1:=by rw [← Array.getElem?_toList,hops];rfl
 have hsz:ops.size=suf.length+2:=by rw [← Array.length_toList,hops];rfl
 obtain ⟨e0,a0,w0,q0,ar0⟩:=h b [.code (.seq (.region id ops false) rest)] cs
 cases e0<;>simp only [Exit.then] at q0
 obtain ⟨V0,g,B,r0,r1,hcall⟩:=q0
 have st1:Steps P (lone (Frame.enter P f A .normal) cs W) (lone (b.atR a0 (.inRegion ops (0::1::List.range' 2 suf.length)::[.code rest])) cs w0):=by
  rw [henter]
  refine (Steps.head step_seq ar0).trans ?_
  rw [← Frame.atR_of_none hr]
  refine Steps.head stepR_seq ?_
  have:=Steps.one (stepR_region (P:=P) (b:=b) (a:=a0) (k:=[.code rest]) (cs:=cs) (w:=w0) (ops:=ops) (id:=id))
  rw [List.range_eq_range',hsz,range_two] at this
  exact this
 have st2:Steps P (lone (b.atR a0 (.inRegion ops (0::1::List.range' 2 suf.length)::[.code rest])) cs w0) (lone (b.atR (a0.put o0.dst V0) (.inRegion ops (1::List.range' 2 suf.length)::[.code rest])) cs w0) :=
  .one (stepR_value ho0 (wanted_none g0) hd0 r0)
 have st3:Steps P (lone (b.atR (a0.put o0.dst V0) (.inRegion ops (1::List.range' 2 suf.length)::[.code rest])) cs w0) (lone (Frame.enter P g B .normal) (b.atR (a0.put o0.dst V0) (.inRegion ops (1::List.range' 2 suf.length)::[.code rest])::cs) w0) :=
  .one (stepR_enter ho1 (wanted_none g1) hd1 r1)
 obtain ⟨e1,w2,fr,⟨V1,rfl,ρ,L0,L2,s,M,s1,v,s',hact,hclean,hL,hs,hfoM,hfin,hR⟩,hcomes,_,hleave⟩:=hcall (b.atR (a0.put o0.dst V0) (.inRegion ops (1::List.range' 2 suf.length)::[.code rest])::cs)
 have st4:Steps P (lone fr (b.atR (a0.put o0.dst V0) (.inRegion ops (1::List.range' 2 suf.length)::[.code rest])::cs) w2) (lone (b.atR ((a0.put o0.dst V0).put o1.dst V1) (.inRegion ops (List.range' 2 suf.length)::[.code rest])) cs w2):=by
  have hfi:=Frame.finish_atR b (a0.put o0.dst V0) ops 1 (List.range' 2 suf.length) [.code rest] V1
  simp only [ho1,Option.bind_some] at hfi
  rw [← hfi]
  exact .one (step_leave_returned hleave)
 obtain ⟨ρ',W',a',af,ha',hq,st5⟩:=ops_sound hc (suf:=suf) (i:=2) (by rw [hops];rfl) hfo hact hs hfoM
 obtain ⟨h1,h2⟩:=keep_rel (xs:=X f) (ops:=ops.toList) (L:=L0) ha' (fun t ht=>(hq t fun o ho=>ht o (by rw [hops];exact List.mem_cons_of_mem _ (List.mem_cons_of_mem _ ho))).trans (hL t ht)) hclean
 have stA:Steps P (lone (Frame.enter P f A .normal) cs W) (lone (b.atR a' [.code rest]) cs W') :=
  st1.trans (st2.trans (st3.trans (Steps.trans hcomes (st4.trans ((st5 b [.code rest] cs).trans (.one stepR_region_end))))))
 have hctx:CtxRel ρ' ⟨f,none,fn.ntmps,X f⟩ b:=⟨by rw [hbd],by rw [hbd],fun _=>hr,fun l e=>by cases e⟩
 generalize hr2:k cl ⟨f,none,fn.ntmps,X f⟩ (keepK (keepOf (X f) ops.toList) M L0) [] s1=r at hfin
 cases r with
 | fail=>cases hfin
 | done e L1 d s₁ =>
  obtain ⟨ρ₁,a₁,W₁,af₁,ha₁,_,_,st⟩:=codeK_sound rest hk hc rfl rfl hctx h1 h2 af.rel hr2
  have fin:∀ (hle:leaveA P fn.results.toList L1 d s₁=.val v s') (hst:∃ t,Steps P (lone (Frame.enter P f A .normal) cs W) (lone (back b a₁ t) cs W₁)),
    ∃ V w' fr,R (.returned V) w'∧Steps P (lone (Frame.enter P f A .normal) cs W) (lone fr cs w')∧fr.fn=f∧fr.leaving P w' (.returned V):=by
   intro hle hst
   obtain ⟨V,W₂,af₂,hv,st₂⟩:=leaveA_calls ha₁ af₁.rel hle
   obtain ⟨t,st₁⟩:=hst
   obtain ⟨fr,h1,h2,h3⟩:=st₂ b (by rw [hbd]) (by rw [hbd];exact hf) t cs
   exact ⟨V,W₂,fr,hR _ _ _ (af.trans (af₁.trans af₂)) hv,Steps.trans st₁ h1,by rw [h2,hbd],h3⟩
  cases e with
  | exit id=>cases hfin
  | norm =>
   have z:=st [] cs
   obtain ⟨V,w',fr,h1,h2,h3,h4⟩:=fin hfin ⟨[],stA.trans (Steps.trans z (.one (stepR_end hr)))⟩
   exact ⟨.returned V,w',fr,h1,h2,h3,h4⟩
  | ret =>
   obtain ⟨k0,z⟩:=st [] cs
   obtain ⟨V,w',fr,h1,h2,h3,h4⟩:=fin hfin ⟨.code .ret::k0,stA.trans (z.trans (.one (stepR_ret hr)))⟩
   exact ⟨.returned V,w',fr,h1,h2,h3,h4⟩
end Go.Abs
set_option maxRecDepth 10000
namespace Go.Proofs.Ytkkdiibgjgnbhaa.walk
open Go.Abs Go.RowKit Go.Proofs.Ytkkdiibgjgnbhaa.code
set_option maxRecDepth 100000 in
theorem all_calls (a:Option Addr) (n c:Nat) (w:World) (hn:n≤maxLen) (hc:∀ i,i<n→∃ b o,a=some ⟨b,o,none⟩∧∃ v,w.cell? ⟨b,o+i,none⟩=some (.int .i64 v)) :
  Calls Try.prog 3 #[.slice a n c] w fun e w'=>e=.returned (.bool true)∧Below w.heap.size w w':=by
 have HC:=Lib.hid hc
 clear hc
 refine mid2_calls (cl:=knows 9 (call Try.prog X 20)) (knows_sound (call_sound 200) Try.func9 awake.entered (call_sound 20)) Try.func3 rfl (X:=X) (k:=allRest) (fo:=allFirst) rfl rfl rfl (fun c h=>by cases h) (fun c h=>by cases h) (by kernel_rfl) (by kernel_rfl) ?_
 simp only [Try.ntmps3,List.size_toArray,List.length_cons,List.length_nil,Nat.reduceAdd,Nat.reduceSub,Array.replicate_succ,Array.replicate_zero,List.push_toArray,List.append_toArray,List.nil_append,List.cons_append]
 go_wp2
 refine ⟨.slice a n c,5,#[.slice a n c],rfl,by kernel_rfl,(mdie.born _ _ _ _ hn HC.out).mono ?_⟩
 rintro e w1 ⟨rfl,hB1,⟨F,hF⟩,hg1⟩
 have hd0:walk.Die 0 (die0 F).h:=⟨F,get_new_eq _ _ _ rfl (by decide)⟩
 obtain ⟨M,s1,s',hM,hs'⟩:=all_body 20 (by omega) ⟨3,none,Try.f3.ntmps,X 3⟩ (die0 F) 0 hd0 (by show 0<1;omega) (by show 1+90000000≤1000000000;omega)
 refine ⟨_,rfl,rho0 w.heap.size,.nil,.cons 16 (.ptr 0 0) .nil,die0 F,M,s1,.bool true,s',⟨fun t=>?_,rfl,.nil⟩,fun t _=>rfl,fun t ht=>?_,die0_rel hF,hM,hs' _ (by kernel_rfl),fun ρ' V W' af hv=>?_⟩
 ·by_cases e:t=16
  ·subst e
   exact .ptr (e:=(0,0)) (if_pos rfl)
  ·rw [show (Env.cons 16 (.ptr 0 0) .nil).find t=AV.bad by rw [find_cons,if_neg (by omega)];rfl]
   exact .bad _
 ·by_cases e:t=16
  ·subst e
   exact absurd rfl (ht _ (List.mem_cons_of_mem _ (List.mem_cons_self ..)))
  ·rw [find_cons,if_neg (fun h=>by first | exact e h | exact e h.symm)]
 ·cases hv
  refine ⟨rfl,hB1.trans ⟨af.os,af.tape,af.output,af.size,fun k hk=>af.frame k (by omega) fun b x o e hb hr=>?_⟩⟩
  obtain ⟨_,rfl,_⟩:=die0_has hb
  have hr:some (w.heap.size,(0,0))=some (k,e):=hr
  injection hr with hr
  injection hr with hr _
  omega
end Go.Proofs.Ytkkdiibgjgnbhaa.walk
