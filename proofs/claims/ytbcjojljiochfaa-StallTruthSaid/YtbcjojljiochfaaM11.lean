/- The law StallTruth: its body behind its die. -/
import Derived.Test.YtbcjojljiochfaaM10
import Derived.Test.YtbcjojljiochfaaM2
import Derived.Test.YtbcjojljiochfaaProg
import Derived.Tactics
import Derived.Tactics2
import Derived.WalkKit
import Derived.OpenShut
import Derived.Below
import Derived.Lib.Hide
import Derived.KernelRfl
import Derived.Deep.RegionHeld3
import Derived.OwnWalk
import Derived.StillTailTactics
import Derived.Test.YtbcjojljiochfaaAbsTop
import Derived.Test.YtbcjojljiochfaaAbsWalk
import Derived.Test.YtbcjojljiochfaaAwake
import Derived.Test.YtbcjojljiochfaaWalkAll
set_option linter.unusedSimpArgs false
set_option maxHeartbeats 16000000
set_option linter.unusedVariables false
set_option maxRecDepth 10000
namespace Go.Proofs.Ytbcjojljiochfaa.walk
open Go.Abs Go.Proofs.Ytbcjojljiochfaa.code
theorem truth_loop (N:Nat) (hN:18≤N) {cx:Ctx} {w:St} {p4 p8 lo bS bA who z8 bM:Nat} {l:Letting} {vS vA vX vM a1 a2 ow ob:AV} {hsX:List Int} {M:List (List Nat)} {nx rd nM:Nat→Prop} {L:Env} {r:R} (hr:loopN K6l1 rounds (awd N) cx L [] w=r) (ok:l.Ok) (hw:who<l.appls.length)
  (own:LetOwn w.h w.n lo bS bA l vS vA) (g4:w.h.get p4=some (.cells [vS,vA] (tag 28))) (hX:Sl nx w.h w.n 1 (intRows hsX) vX) (hXl:hsX.length=l.stalls.length) (IX:(mktOf l).Inv (holdF hsX) [])
  (g8:w.h.get p8=some (.cells [a1,a2,ow,ob] z8)) (hW:Sl rd w.h w.n 1 (intRows l.appls[who].wishes) ow) (hB:Sl rd w.h w.n 1 (intRows l.appls[who].bids) ob) (hM:TabS w.h w.n bM nM M vM) (hS:Subs l.appls[who].wishes.length M) (hMl:M.length≤341)
  (hp:p4<w.n∧p8<w.n) (hm:w.m≤far) (hs:w.n+770000000≤far)
  (q4:L.find 4=.ptr p4 0) (q5:L.find 5=.int .i64 (who:Int)) (q6:L.find 6=vX) (q8:L.find 8=.ptr p8 0) (q9:L.find 9=vM) (q10:L.find 10=.int .i64 (0:Nat)) :
  ∃ L1 t,r=.done (.exit 0) L1 [] t:=by
 have hf:far=1000000000:=rfl
 have kM:=hM.okA
 have lM:=hM.len
 obtain ⟨e,L1,t,rfl,rfl⟩:=loop_of hr (fun i L' t'=>(∀ c,c<w.n→t'.h.get c=w.h.get c)∧w.n≤t'.n∧t'.n≤w.n+2201000 * i∧0≤t'.m∧t'.m≤far∧L'.find 10=.int .i64 (i:Nat)∧∀ c,c<10→L'.find c=L.find c) (fun e L' t'=>e=.exit 0) M.length (by unfold rounds;omega)
  ⟨fun _ _=>rfl,Nat.le_refl _,by omega,by omega,hm,q10,fun _ _=>rfl⟩
  (fun i L' t' hi ⟨same,jn,jle,jm,jml,p10,q⟩=>by
   have p9:=(q 9 (by omega)).trans q9
   by_cases hlt:i<M.length
   ·obtain ⟨L2,t2,x1,x2,x3,x4,x5,x6,x7,x8⟩:=truth_round N hN cx (u0:=0) ok hw own g4 hX hXl IX g8 hW hB hM hS (by omega) hp hlt same jn jle (by omega) jm jml (by omega) ((q 4 (by omega)).trans q4) ((q 5 (by omega)).trans q5) ((q 6 (by omega)).trans q6) ((q 8 (by omega)).trans q8) p9 p10
    exact .inl ⟨hlt,L2,t2,x1,x2,x3,by rw [Nat.mul_succ];exact x4,x5,x6,x7,fun c hc=>(x8 c hc).trans (q c hc)⟩
   ·obtain rfl:i=M.length:=by omega
    have e0:decide ((M.length:Int)<(M.length:Int))=false:=by simp
    refine .inr ⟨.exit 0,L'.set 57 (.bool false),t',by simp,?_,rfl⟩
    simp (disch:=first|omega|(with_unfolding_all exact rfl)|(simp only[new_n,put_n,new_m];omega)|(refine put_m_le ?_;simp only[new_m];omega)) only [K6l1,K6r12,Abs.W,reduceIte,Nat.reduceEqDiff,Nat.reduceAdd,decide_true,decide_false,kLoop_def,Nat.reduceSub,List.cons_append,List.nil_append,List.append_nil,List.length_cons,List.length_nil,Env.find_set,p9,p10,kM,lM,e0])
 exact ⟨L1,t,rfl⟩
theorem wishes_few {l:Letting} (ok:l.Ok) {who:Nat} (hw:who<l.appls.length):l.appls[who].wishes.length≤l.stalls.length:=by
 have A:=ok.ap _ (List.getElem_mem hw)
 have h0:∀ x ∈ l.appls[who].wishes,0≤x:=fun x hx=>(A.w x hx).1
 have:=len_sub (k:=List.range l.stalls.length) (nodup_toNat h0 A.nd) fun x hx=>by
  obtain ⟨y,y1,y2⟩:=List.mem_map.mp hx
  have:=A.w y y1
  exact List.mem_range.mpr (by omega)
 rwa [List.length_map,List.length_range] at this
theorem few_lists {k:Nat} (h:k≤4):lbd k≤341∧lsz k≤17050:=by
 have:k=0∨k=1∨k=2∨k=3∨k=4:=by omega
 rcases this with rfl | rfl | rfl | rfl | rfl<;>decide
noncomputable def sttRest:K:=(kSeq (kRegion K6r2 [4]) (kSeq (kSeq (kRegion K6r3 [23]) (kCond (.tmp 23) (kSeq (kRegion K6r4 [2]) kRet) kSkip)) (kSeq (kRegion K6r5 [5]) (kSeq (kRegion K6r6 [6,7]) (kSeq (kSeq (kRegion K6r7 [44]) (kCond (.tmp 44) (kSeq (kRegion K6r8 [2]) kRet) kSkip)) (kSeq (kRegion K6r9 [8]) (kSeq (kRegion K6r10 [9]) (kSeq (kSeq (kRegion K6r11 [10]) (kBlock 0 (kLoop K6l1))) (kSeq (kRegion K6r24 [2]) kRet)))))))))
theorem stt_body (n:Nat) (hn:20≤n) (cx:Ctx) (s:St) (d:Nat) (hd:Die d s.h) (hdn:d<s.n) (hs:s.n+900000000≤far) (hm:s.m=far) :
  ∃ s',finA Try.prog Try.f6 (sttRest (awd n) cx (.cons 3 (.ptr d 0) .nil) [] s)=.val (.bool true) s':=by
 have hf:far=1000000000:=rfl
 have knB:∀ args s,awd n (.fn 12) args s=call Try.prog X n (.fn 12) args s:=fun _ _=>rfl
 have knC:∀ args s,awd n (.fn 15) args s=call Try.prog X n (.fn 15) args s:=fun _ _=>rfl
 have knD:∀ args s,awd n (.fn 18) args s=call Try.prog X n (.fn 18) args s:=fun _ _=>rfl
 have knE:∀ args s,awd n (.fn 24) args s=call Try.prog X n (.fn 24) args s:=fun _ _=>rfl
 have knA:∀ s,awd n (.fn 14) [] s=.val (.bool true) s:=fun _=>rfl
 unfold sttRest
 simp (disch:=first|omega|(with_unfolding_all exact rfl)|(simp only[new_n,put_n,new_m];omega)|(refine put_m_le ?_;simp only[new_m];omega)) only [K6r2,Abs.W,reduceIte,Nat.reduceEqDiff,Nat.reduceAdd,decide_true,decide_false,kLoop_def,Nat.reduceSub,List.cons_append,List.nil_append,List.append_nil,List.length_cons,List.length_nil,Env.find_set,knB]
 generalize hc1:call _ _ _ (.fn 12) _ _=r1
 obtain ⟨l,vS,vA,bS,bA,t1,rfl,st1,d1,ok,hk,hmm,own⟩:=LettingOf_ex (k:=4) (m:=4) hc1 (by omega) hd hdn (by omega) (by omega) (by omega)
 have n1:=st1.n
 have k1:=st1.le
 have m1:=st1.mle
 have scB:=own.at_.scal
 have kA:=own.at_.okV
 have kS:=own.at_.okS
 have lA:=own.at_.lenA
 have lS:=own.at_.lenS
 simp (disch:=first|omega|(with_unfolding_all exact rfl)|(simp only[new_n,put_n,new_m];omega)|(refine put_m_le ?_;simp only[new_m];omega)) only [Abs.W,reduceIte,Nat.reduceEqDiff,Nat.reduceAdd,decide_true,decide_false,kLoop_def,Nat.reduceSub,List.cons_append,List.nil_append,List.append_nil,List.length_cons,List.length_nil,Env.find_set,scB,Nat.zero_add]
 obtain ⟨y,hy⟩:∃ y:St,y=(t1.new (.cells [.nilslice,.nilslice] (tag 28))).put t1.n (.cells [vS,vA] (tag 28)):=⟨_,rfl⟩
 have yn:y.n=t1.n+1:=by rw [hy];rfl
 have ym:y.m≤t1.m:=by rw [hy];simp only [St.put,minN_eq,new_m];omega
 have yg:∀ c,c<t1.n→y.h.get c=t1.h.get c:=fun c hc=>by rw [hy,get_put_ne' _ _ _ _ (by omega),get_new_ne _ _ _ (by omega)]
 have y4:y.h.get t1.n=some (.cells [vS,vA] (tag 28)):=by rw [hy];exact get_put_eq _ _ _ _ rfl (by omega)
 have dy:Die d y.h:=Die.keep d1 (yg d (by omega))
 have owny:=own.grow (h':=y.h) (n':=y.n) (fun c h1 _=>yg c h1) (by omega)
 rw [← hy]
 clear hy
 obtain ⟨m,hm'⟩:∃ m,m=l.appls.length:=⟨_,rfl⟩
 rw [← hm'] at lA
 simp (disch:=first|omega|(with_unfolding_all exact rfl)|(simp only[new_n,put_n,new_m];omega)|(refine put_m_le ?_;simp only[new_m];omega)) only [K6r3,Abs.W,reduceIte,Nat.reduceEqDiff,Nat.reduceAdd,decide_true,decide_false,kLoop_def,Nat.reduceSub,List.cons_append,List.nil_append,List.append_nil,List.length_cons,List.length_nil,Env.find_set,y4,kA,lA,Nat.zero_add]
 by_cases h0:m=0
 ·subst h0
  have e0:decide (((0:Nat):Int)=0)=true:=rfl
  simp (disch:=first|omega|(with_unfolding_all exact rfl)|(simp only[new_n,put_n,new_m];omega)|(refine put_m_le ?_;simp only[new_m];omega)) only [K6r4,res6,Abs.W,reduceIte,Nat.reduceEqDiff,Nat.reduceAdd,decide_true,decide_false,kLoop_def,Nat.reduceSub,List.cons_append,List.nil_append,List.append_nil,List.length_cons,List.length_nil,Env.find_set,e0,knA]
  exact ⟨_,rfl⟩
 ·have e0:decide ((m:Int)=0)=false:=decide_eq_false (by omega)
  simp (disch:=first|omega|(with_unfolding_all exact rfl)|(simp only[new_n,put_n,new_m];omega)|(refine put_m_le ?_;simp only[new_m];omega)) only [K6r5,Abs.W,reduceIte,Nat.reduceEqDiff,Nat.reduceAdd,decide_true,decide_false,kLoop_def,Nat.reduceSub,List.cons_append,List.nil_append,List.append_nil,List.length_cons,List.length_nil,Env.find_set,y4,kA,lA,e0,knC,Nat.zero_add]
  generalize hc2:call _ _ _ (.fn 15) _ _=r2
  obtain ⟨x2,t2,rfl,st2,d2,x20,x21⟩:=cast_ex hc2 (by omega) dy (by omega) (by omega) (by omega)
  obtain ⟨who,rfl⟩:∃ n:Nat,x2=n:=⟨x2.toNat,by omega⟩
  have n2:=st2.n
  have k2:=st2.le
  have m2:=st2.mle
  have hwho:who<l.appls.length:=by omega
  have g2:∀ c,c<y.n→c≠d→t2.h.get c=y.h.get c:=st2.same
  have w4:=(g2 t1.n (by omega) (by omega)).trans y4
  have own2:=owny.grow (h':=t2.h) (n':=t2.n) (fun c h1 h2=>g2 c h1 (by omega)) (by omega)
  simp (disch:=first|omega|(with_unfolding_all exact rfl)|(simp only[new_n,put_n,new_m];omega)|(refine put_m_le ?_;simp only[new_m];omega)) only [K6r6,Abs.W,reduceIte,Nat.reduceEqDiff,Nat.reduceAdd,decide_true,decide_false,kLoop_def,Nat.reduceSub,List.cons_append,List.nil_append,List.append_nil,List.length_cons,List.length_nil,Env.find_set,w4,kA,kS,knD,Nat.zero_add]
  generalize hc3:call _ _ _ (.fn 18) _ _=r3
  obtain ⟨vX,t3,hsX,rfl,s3,SX,hXl,IX⟩:=Let_ex hc3 (by omega) ok own2.at_ (by omega)
  have n3:=s3.n
  have k3:=s3.le
  have m3:=s3.m
  have kX:=SX.okA
  have lX:∀ s,lenSlA s vX=.val (.int .i64 (l.stalls.length:Int)) s:=fun s=>by
   have:=rowLen SX.at_ s
   rw [hXl] at this
   exact this
  have x4:=(s3.same t1.n (by omega)).trans w4
  have own3:=own2.grow (h':=t3.h) (n':=t3.n) (fun c h1 _=>s3.same c h1) (by omega)
  have ex0:∀ (a b:AV) (s:St),extA 0 s (.tup [a,b])=.val a s:=fun _ _ _=>rfl
  have ex1:∀ (a b:AV) (s:St),extA 1 s (.tup [a,b])=.val b s:=fun _ _ _=>rfl
  have okt:∀ (a b:AV) (s:St),okA (.val (.tup [a,b]) s)=.val (.tup [a,b]) s:=fun _ _ _=>rfl
  have z0:decide ((0:Int)=0)=true:=rfl
  have z1:decide ((l.stalls.length:Int)=(l.stalls.length:Int))=true:=by simp
  obtain ⟨ww,pa,oa,ca,za,r1,r2,r3,r4,r5,r6⟩:=own3.at_.getA2 hwho
  obtain ⟨w1,w2⟩:=ww
  simp only at r4 r5 r6
  have sw1:=r5.scal
  have sw2:=r6.scal
  have hfew:=wishes_few ok hwho
  obtain ⟨hlb,hlz⟩:=few_lists (k:=l.appls[who].wishes.length) (by omega)
  obtain ⟨q,hq⟩:∃ q:St,q=(t3.new (.cells [.int .i64 0,.int .i64 0,.nilslice,.nilslice] (tag 37))).put t3.n (.cells [.int .i64 l.appls[who].years,.int .i64 l.appls[who].token,w1,w2] (tag 37)):=⟨_,rfl⟩
  have qn:q.n=t3.n+1:=by rw [hq];rfl
  have qm:q.m≤t3.m:=by rw [hq];simp only [St.put,minN_eq,new_m];omega
  have qg:∀ c,c<t3.n→q.h.get c=t3.h.get c:=fun c hc=>by rw [hq,get_put_ne' _ _ _ _ (by omega),get_new_ne _ _ _ (by omega)]
  have q8:q.h.get t3.n=some (.cells [.int .i64 l.appls[who].years,.int .i64 l.appls[who].token,w1,w2] (tag 37)):=by rw [hq];exact get_put_eq _ _ _ _ rfl (by omega)
  have kw1:=r5.okA
  have lw1:=rowLen r5.at_
  simp (disch:=first|omega|(with_unfolding_all exact rfl)|(simp only[new_n,put_n,new_m];omega)|(refine put_m_le ?_;simp only[new_m];omega)) only [K6r7,K6r7s4,K6r7s5,K6r7s6,K6r7s7,K6r7s8,K6r7s9,K6r9,Abs.W,reduceIte,Nat.reduceEqDiff,Nat.reduceAdd,decide_true,decide_false,kLoop_def,Nat.reduceSub,List.cons_append,List.nil_append,List.append_nil,List.length_cons,List.length_nil,Env.find_set,ex0,ex1,okt,x4,kS,kA,kX,lX,lS,z0,z1,r2,r3,r4,sw1.1,sw1.2.1,sw1.2.2,sw2.1,sw2.2.1,sw2.2.2,Nat.zero_add]
  rw [← hq]
  simp (disch:=first|omega|(with_unfolding_all exact rfl)|(simp only[new_n,put_n,new_m];omega)|(refine put_m_le ?_;simp only[new_m];omega)) only [K6r10,Abs.W,reduceIte,Nat.reduceEqDiff,Nat.reduceAdd,decide_true,decide_false,kLoop_def,Nat.reduceSub,List.cons_append,List.nil_append,List.append_nil,List.length_cons,List.length_nil,Env.find_set,q8,kw1,lw1,knE,Nat.zero_add]
  generalize hc4:call _ _ _ (.fn 24) _ _=r4'
  obtain ⟨bM,M,vM,t4,rfl,s4,TM,hbM,hMl,hSu⟩:=lists_ex l.appls[who].wishes.length (no:=fun _=>False) (f:=[]) hc4 (by omega) List.nodup_nil (fun x hx=>by cases hx) (by simp) (by omega) (Sl.nil _ _ _ _) (by omega) (by omega)
  have n4:=s4.n
  have k4:=s4.le
  have m4:=s4.m
  simp (disch:=first|omega|(with_unfolding_all exact rfl)|(simp only[new_n,put_n,new_m];omega)|(refine put_m_le ?_;simp only[new_m];omega)) only [K6r11,Abs.W,reduceIte,Nat.reduceEqDiff,Nat.reduceAdd,decide_true,decide_false,kLoop_def,Nat.reduceSub,List.cons_append,List.nil_append,List.append_nil,List.length_cons,List.length_nil,Env.find_set]
  generalize hlp:loopN _ rounds _ _ _ _ _=rl
  have g43:∀ c,c<t3.n→t4.h.get c=t3.h.get c:=fun c hc=>(s4.same c (by omega)).trans (qg c hc)
  obtain ⟨L1,t5,rfl⟩:=truth_loop n (by omega) (p4:=t1.n) (p8:=t3.n) (who:=who) hlp ok hwho (own3.grow (fun c h1 _=>g43 c h1) (by omega)) ((g43 t1.n (by omega)).trans x4) (SX.grow g43 (by omega)) hXl IX ((s4.same t3.n (by omega)).trans q8) (r5.grow g43 (by omega)) (r6.grow g43 (by omega)) TM hSu (by omega) ⟨by omega,by omega⟩ (by omega) (by omega)
   (by simp only [find_cons,Env.find_set,reduceIte,Nat.reduceEqDiff]) (by simp only [find_cons,Env.find_set,reduceIte,Nat.reduceEqDiff]) (by simp only [find_cons,Env.find_set,reduceIte,Nat.reduceEqDiff]) (by simp only [find_cons,Env.find_set,reduceIte,Nat.reduceEqDiff]) (by simp only [find_cons,Env.find_set,reduceIte,Nat.reduceEqDiff]) (by simp only [find_cons,Env.find_set,reduceIte,Nat.reduceEqDiff];rfl)
  simp (disch:=first|omega|(with_unfolding_all exact rfl)|(simp only[new_n,put_n,new_m];omega)|(refine put_m_le ?_;simp only[new_m];omega)) only [K6r24,res6,Abs.W,reduceIte,Nat.reduceEqDiff,Nat.reduceAdd,decide_true,decide_false,kLoop_def,Nat.reduceSub,List.cons_append,List.nil_append,List.append_nil,List.length_cons,List.length_nil,Env.find_set,knA]
  exact ⟨_,rfl⟩
end Go.Proofs.Ytbcjojljiochfaa.walk
set_option maxRecDepth 10000
namespace Go.Proofs.Ytbcjojljiochfaa.walk
open Go.Abs Go.Proofs.Ytbcjojljiochfaa.code
end Go.Proofs.Ytbcjojljiochfaa.walk
namespace Go.Proofs.Ytbcjojljiochfaa.mdie
open Go.RowKit
def Die (b:Nat) (w:World):Prop:=∃ s,w.heap[b]? = some (.cells #[.int .u64 s] 63 (0,0))
theorem Die.old {b:Nat} {w:World} (h:Die b w):(∃ s,w.cell? ⟨b,0,none⟩=some (.int .u64 s))∧w.frozen? ⟨b,0,none⟩=false:=by
 obtain ⟨s,hs⟩:=h
 refine ⟨⟨s,?_⟩,?_⟩
 ·unfold World.cell?;simp [hs]
 ·unfold World.frozen?;simp [hs]
structure Stir (b:Nat) (w w':World):Prop where
 below:Below b w w'
 rest:∀ p:Addr,p.block≠b→p.block<w.heap.size→w'.cell? p=w.cell? p∧w'.frozen? p=w.frozen? p
 die:Die b w'
def Gives (b:Nat) (k:IntKind) (Q:Int→Prop) (w:World) (e:Ending) (w':World):Prop:=∃ r,Q r∧e=.returned (.int k r)∧Stir b w w'
theorem bits_nonneg (op:BinOp) (x y:Int):0≤bits op .u64 x y:=by
 have:=bounds_u64 (wf_bits (k:=.u64) (op:=op) (x:=x) (y:=y))
 exact this.1
theorem Stir.set {b:Nat} {w:World} (h:Die b w) (s:Int):Stir b w (w.setCell ⟨b,0,none⟩ (.int .u64 s)):=by
 obtain ⟨t,ht⟩:=h
 refine ⟨(Below.refl b w).setCell (p:=⟨b,0,none⟩) (Nat.le_refl b) _,fun p hp _=>⟨World.cell?_of_block (Below.heap_setCell _ _ _ _ hp),World.frozen?_of_block (Below.heap_setCell _ _ _ _ hp)⟩,⟨s,?_⟩⟩
 unfold World.setCell
 simp [Array.getElem?_modify,ht]
theorem roll (b:Nat) (w:World) (h:Die b w):Calls Try.prog 32 #[.pointer (some ⟨b,0,none⟩)] w (Gives b .u64 (fun r=>0≤r) w):=by
 have h':=Lib.hid h
 obtain ⟨⟨s,hs⟩,hf⟩:=h.old
 clear h
 go_enter Try.func32,Try.ntmps32
 go_wp2
 go_ret
 exact ⟨_,bits_nonneg _ _ _,rfl,Stir.set h'.out _⟩
theorem Stir.refl {b:Nat} {w:World} (h:Die b w):Stir b w w:=⟨Below.refl _ _,fun _ _ _=>⟨rfl,rfl⟩,h⟩
theorem Stir.trans {b:Nat} {u v w:World} (h:Stir b u v) (k:Stir b v w):Stir b u w :=
 ⟨h.below.trans k.below,fun p hp hb=>⟨(k.rest p hp (Nat.lt_of_lt_of_le hb h.below.size)).1.trans (h.rest p hp hb).1,(k.rest p hp (Nat.lt_of_lt_of_le hb h.below.size)).2.trans (h.rest p hp hb).2⟩,k.die⟩
theorem Die.lt {b:Nat} {w:World} (h:Die b w):b<w.heap.size:=by obtain ⟨⟨s,hs⟩,_⟩:=h.old;exact World.block_lt_of_cell? w _ hs
theorem Stir.drew {b:Nat} {w w':World} (h:Stir b w w'):Stir b w w'.drew:=h.trans ⟨⟨rfl,rfl,rfl,Nat.le_refl _,fun _ _=>rfl⟩,fun _ _ _=>⟨rfl,rfl⟩,h.die⟩
def Born (w:World) (e:Ending) (w':World):Prop:=e=.returned (.pointer (some ⟨w.heap.size,0,none⟩))∧Below w.heap.size w w'∧Die w.heap.size w'∧w.heap.size<w'.heap.size
theorem Die.born (w:World) (s:Int):Die w.heap.size (w.alloc (.cells #[.int .u64 s] 63)):=⟨s,by show (w.heap.push _)[w.heap.size]? = _;rw [Array.getElem?_push,if_pos rfl]⟩
set_option maxRecDepth 100000 in
theorem born (x:Option Addr) (n c:Nat) (w:World) (hn:n≤maxLen) (hc:∀ i,i<n→∃ b o,x=some ⟨b,o,none⟩∧∃ v,w.cell? ⟨b,o+i,none⟩=some (.int .i64 v)) :
  Calls Try.prog 11 #[.slice x n c] w (Born w):=by
 unfold maxLen at hn
 have HC:=Lib.hid hc
 clear hc
 have hdie:=Lib.hid (Die.born w 2611923443488327891)
 go_enter Try.func11,Try.ntmps11
 go_wp2
 go_loopw [4] (fun i wr=>∃ k:Nat,k≤n∧i=.int .i64 k∧Stir w.heap.size (w.alloc (.cells #[.int .u64 2611923443488327891] 63)) wr) (fun i _=>n - (intOf i).toNat)
 case atStart=>exact ⟨0,Nat.zero_le _,rfl,Stir.refl hdie.out⟩
 case round =>
  obtain ⟨k,hk,rfl,hs⟩:=hrel
  by_cases hlt:k<n
  ·obtain ⟨b,o,rfl,v,hv⟩:=HC.out k hlt
   have hb:=World.block_lt_of_cell? _ _ hv
   simp only at hb
   have hv1:wr.cell? ⟨b,o+k,none⟩=some (.int .i64 v):=((hs.rest ⟨b,o+k,none⟩ (Nat.ne_of_lt hb) (by simp;omega)).1.trans (World.cell?_of_block (Below.heap_alloc _ _ _ hb))).trans hv
   clear hv
   obtain ⟨⟨s,hd⟩,hf⟩:=hs.die.old
   have hst:=Lib.hid (fun s1:Int=>(hs.drew).trans (Stir.set hs.drew.die s1))
   have hlt':(k:Int)<(n:Int):=by omega
   have hk0:(0:Int)≤(k:Int):=by omega
   go_wp2
   go_still_tail 12,(by kernel_rfl)
   change wpList _ _ _ _ _ wr.drew
   go_wp2_with (go_at_call 32;refine (roll _ _ ?_).mono ?_;exact (hst.out _).die;rintro e w1 ⟨r,hr,rfl,hs1⟩;(have hs2:=(hst.out _).trans hs1))
   go_roundw
   case rel=>exact ⟨k+1,by omega,by go_num,hs2⟩
   case measure=>simp [intOf];omega
  ·go_wp2
   go_ret
   exact ⟨rfl,((Below.refl w.heap.size w).alloc (Nat.le_refl _) _).trans hs.below,hs.die,by have:=hs.below.size;simp at this;omega⟩
end Go.Proofs.Ytbcjojljiochfaa.mdie
namespace Go.Abs
open Go.RowKit
variable {P:Program}
theorem mid_calls {cl:CallF} (hc:CallSound P cl) {f:FuncId} {fn:Func} (hf:P.funcs[f]? = some fn) {c0 c1 rest:Code} (hb:fn.body=some (.seq c0 (.seq c1 rest))) {X:FuncId→List Nat} {k:K} {A:Array Value} {W:World} {R:Ending→World→Prop}
  (h:c0.wp P (Exit.then (fun a w=>c1.wp P (Exit.then (fun a w=>∃ ρ L s v s',ActRel ρ fn.ntmps L [] a∧Clean (X f) L∧SRel ρ s w∧finA P fn (k cl ⟨f,none,fn.ntmps,X f⟩ L [] s)=.val v s'∧∀ ρ' V W',After ρ s w ρ' s' W'→VRel ρ' v V→R (.returned V) W') fun _ _ _=>False) a w) fun _ _ _=>False)
   { tmps:=A++Array.replicate (fn.ntmps - A.size) undef,defers:=[] } W)
  (hk:codeK P (X f) fn.ntmps rest=some k):Calls P f A W R:=by
 intro cs
 obtain ⟨b,hbd⟩:∃ b:Frame,b={ (default:Frame) with fn:=f,kind:=.normal }:=⟨_,rfl⟩
 have hr:b.roundOf=none:=by rw [hbd];rfl
 have henter:Frame.enter P f A .normal=b.at { tmps:=A++Array.replicate (fn.ntmps - A.size) undef,defers:=[] } [.code (.seq c0 (.seq c1 rest))]:=by
  rw [hbd];simp [Frame.enter,Frame.at,hf,hb]
 obtain ⟨e0,a0,w0,q0,ar0⟩:=h b [.code (.seq c1 rest)] cs
 cases e0<;>simp only [Exit.then] at q0
 obtain ⟨e1,a1,w1,q1,ar1⟩:=q0 b [.code rest] cs
 cases e1<;>simp only [Exit.then] at q1
 obtain ⟨ρ,L,s,v,s',hact,hclean,hs,hfin,hR⟩:=q1
 have st1:Steps P (lone (Frame.enter P f A .normal) cs W) (lone (b.atR a1 [.code rest]) cs w1):=by
  rw [henter,Frame.atR_of_none hr]
  exact (Steps.head step_seq ar0).trans (Steps.head step_seq ar1)
 have hctx:CtxRel ρ ⟨f,none,fn.ntmps,X f⟩ b:=⟨by rw [hbd],by rw [hbd],fun _=>hr,fun l e=>by cases e⟩
 generalize hr2:k cl ⟨f,none,fn.ntmps,X f⟩ L [] s=r at hfin
 cases r with
 | fail=>cases hfin
 | done e L1 d s₁ =>
  obtain ⟨ρ₁,a₁,W₁,af,ha₁,_,_,st⟩:=codeK_sound rest hk hc rfl rfl hctx hact hclean hs hr2
  have fin:∀ (hle:leaveA P fn.results.toList L1 d s₁=.val v s') (hst:∃ t,Steps P (lone (Frame.enter P f A .normal) cs W) (lone (back b a₁ t) cs W₁)),
    ∃ V w' fr,R (.returned V) w'∧Steps P (lone (Frame.enter P f A .normal) cs W) (lone fr cs w')∧fr.fn=f∧fr.leaving P w' (.returned V):=by
   intro hle hst
   obtain ⟨V,W₂,af₂,hv,st₂⟩:=leaveA_calls ha₁ af.rel hle
   obtain ⟨t,st₁⟩:=hst
   obtain ⟨fr,h1,h2,h3⟩:=st₂ b (by rw [hbd]) (by rw [hbd];exact hf) t cs
   exact ⟨V,W₂,fr,hR _ _ _ (af.trans af₂) hv,Steps.trans st₁ h1,by rw [h2,hbd],h3⟩
  cases e with
  | exit id=>cases hfin
  | norm =>
   have z:=st [] cs
   obtain ⟨V,w',fr,h1,h2,h3,h4⟩:=fin hfin ⟨[],st1.trans (Steps.trans z (.one (stepR_end hr)))⟩
   exact ⟨.returned V,w',fr,h1,h2,h3,h4⟩
  | ret =>
   obtain ⟨k0,z⟩:=st [] cs
   obtain ⟨V,w',fr,h1,h2,h3,h4⟩:=fin hfin ⟨.code .ret::k0,st1.trans (z.trans (.one (stepR_ret hr)))⟩
   exact ⟨.returned V,w',fr,h1,h2,h3,h4⟩
end Go.Abs
set_option maxRecDepth 10000
namespace Go.Proofs.Ytbcjojljiochfaa.walk
open Go.Abs Go.RowKit Go.Proofs.Ytbcjojljiochfaa.code
noncomputable def die0 (F:Int):St:=St.new ⟨.nil,0,far⟩ (.cells [.int .u64 F] (tag 63))
def rho0 (d:Nat):Rho:=fun b=>if b=0 then some (d,(0,0)) else none
theorem die0_get {F:Int} {b:Nat} {o:AObj} (h:(die0 F).h.get b=some o):b=0∧o=.cells [.int .u64 F] (tag 63):=by
 by_cases e:b=0
 ·subst e
  have:(die0 F).h.get 0=some (.cells [.int .u64 F] (tag 63)):=get_new_eq _ _ _ rfl (by decide)
  rw [this] at h
  exact ⟨rfl,(Option.some.inj h).symm⟩
 ·unfold die0 at h
  rw [get_new_ne _ _ _ e] at h
  cases h
theorem die0_has {F:Int} {b x:Nat} {o:AObj} (h:Has (die0 F).h b x o):b=0∧x=0∧o=.cells [.int .u64 F] (tag 63):=by
 obtain ⟨y,hy,hp⟩:=h
 obtain ⟨rfl,rfl⟩:=die0_get hy
 have hl:AObj.lone (.cells [.int .u64 F] (tag 63)):=trivial
 rw [parts_lone hl] at hp
 have:=List.mem_singleton.mp hp
 cases this
 exact ⟨rfl,rfl,rfl⟩
theorem die0_rel {F:Int} {d:Nat} {W:World} (h:W.heap[d]? = some (.cells #[.int .u64 F] 63 (0,0))):SRel (rho0 d) (die0 F) W:=by
 refine ⟨⟨fun b o hb=>?_,fun b x o hb=>?_,fun b b' x x' o o' c e e' hb hb' _ _=>?_,fun g cs hg=>(by cases hg),fun b x o c e hb hr=>rfl,fun b x x' o o' c e e' hb hb' hr hr'=>?_⟩,fun b hb=>?_⟩
 ·rw [(die0_get hb).1];decide
 ·obtain ⟨rfl,rfl,rfl⟩:=die0_has hb
  exact ⟨d,(0,0),_,if_pos rfl,h,.cells rfl (.cons (.int _ _) .nil) (Typed.tag _)⟩
 ·rw [(die0_has hb).1,(die0_has hb').1]
 ·obtain ⟨_,rfl,_⟩:=die0_has hb
  obtain ⟨_,rfl,_⟩:=die0_has hb'
  rw [hr] at hr'
  cases hr'
  rfl
 ·have:1≤b:=hb
  exact if_neg (by omega)
end Go.Proofs.Ytbcjojljiochfaa.walk
set_option maxRecDepth 10000
namespace Go.Proofs.Ytbcjojljiochfaa.walk
open Go.Abs Go.RowKit Go.Proofs.Ytbcjojljiochfaa.code
set_option maxRecDepth 100000 in
theorem stt_calls (a:Option Addr) (n c:Nat) (w:World) (hn:n≤maxLen) (hc:∀ i,i<n→∃ b o,a=some ⟨b,o,none⟩∧∃ v,w.cell? ⟨b,o+i,none⟩=some (.int .i64 v)) :
  Calls Try.prog 6 #[.slice a n c] w fun e w'=>e=.returned (.bool true)∧Below w.heap.size w w':=by
 have HC:=Lib.hid hc
 clear hc
 refine mid_calls (cl:=knows 14 (call Try.prog X 20)) (knows_sound (call_sound 200) Try.func14 awake.entered (call_sound 20)) Try.func6 rfl (X:=X) (k:=sttRest) ?_ (by kernel_rfl)
 simp only [Try.ntmps6,List.size_toArray,List.length_cons,List.length_nil,Nat.reduceAdd,Nat.reduceSub,Array.replicate_succ,Array.replicate_zero,List.push_toArray,List.append_toArray,List.nil_append,List.cons_append]
 go_wp2_with (go_at_call 11;((with_reducible refine (mdie.born _ _ _ _ hn HC.out).mono ?_);rintro e w1 ⟨rfl,hB1,⟨F,hF⟩,hg1⟩))
 have hd0:walk.Die 0 (die0 F).h:=⟨F,get_new_eq _ _ _ rfl (by decide)⟩
 obtain ⟨s',hs'⟩:=stt_body 20 (by omega) ⟨6,none,Try.f6.ntmps,X 6⟩ (die0 F) 0 hd0 (by show 0<1;omega) (by show 1+900000000≤1000000000;omega) rfl
 refine ⟨rho0 w.heap.size,.cons 3 (.ptr 0 0) .nil,die0 F,.bool true,s',⟨fun t=>?_,rfl,.nil⟩,fun t ht=>?_,die0_rel hF,hs',fun ρ' V W' af hv=>?_⟩
 ·by_cases e:t=3
  ·subst e
   exact .ptr (e:=(0,0)) (if_pos rfl)
  ·rw [show (Env.cons 3 (.ptr 0 0) .nil).find t=AV.bad by rw [find_cons,if_neg (by omega)];rfl]
   exact .bad _
 ·by_cases e:t=3
  ·subst e
   have hx:(X 6).contains 3=true:=by kernel_rfl
   rw [hx] at ht
   cases ht
  ·rw [find_cons,if_neg (by omega)];rfl
 ·cases hv
  refine ⟨rfl,hB1.trans ⟨af.os,af.tape,af.output,af.size,fun k hk=>af.frame k (by omega) fun b x o e hb hr=>?_⟩⟩
  obtain ⟨_,rfl,_⟩:=die0_has hb
  have hr:some (w.heap.size,(0,0))=some (k,e):=hr
  injection hr with hr
  injection hr with hr _
  omega
end Go.Proofs.Ytbcjojljiochfaa.walk
