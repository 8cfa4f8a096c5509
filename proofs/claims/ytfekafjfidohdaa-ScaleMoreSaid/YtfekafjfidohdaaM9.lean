/- The law ScaleMore: its body behind its die. -/
import Derived.Test.YtfekafjfidohdaaM8
import Derived.Test.YtfekafjfidohdaaProg
import Derived.Tactics
import Derived.Tactics2
import Derived.WalkKit
import Derived.OpenShut
import Derived.Below
import Derived.Lib.Hide
import Derived.KernelRfl
import Derived.Deep.RegionHeld3
import Derived.OwnWalk
import Derived.StillTailTactics
import Derived.Test.YtfekafjfidohdaaAbsTop
import Derived.Test.YtfekafjfidohdaaAbsWalk
import Derived.Test.YtfekafjfidohdaaM1
import Derived.Test.YtfekafjfidohdaaAwake
import Derived.Test.YtfekafjfidohdaaWalkAll
set_option linter.unusedSimpArgs false
set_option maxHeartbeats 16000000
set_option linter.unusedVariables false
set_option maxRecDepth 10000
namespace Go.Proofs.Ytfekafjfidohdaa.walk
open Go.Abs Go.Proofs.Ytfekafjfidohdaa.code
theorem selW_len (b:Bench) (gone:Nat):∀ n,(selW b (restOf n gone)).length≤n∧(selW b (restOf n gone)).length≤b.ws.length
 | 0=>⟨Nat.le_refl _,Nat.zero_le _⟩
 | n+1=>by
  obtain ⟨h1,h2⟩:=selW_len b gone n
  rw [restOf_succ]
  by_cases h:n=gone
  ·rw [if_pos h];omega
  ·rw [if_neg h,selW_snoc]
   by_cases h':n<b.ws.length
   ·rw [if_pos h',List.length_append,List.length_singleton];omega
   ·rw [if_neg h'];omega
theorem selT_len (b:Bench) (gone:Nat):∀ n,(selT b (restOf n gone)).length≤n - b.ws.length
 | 0=>Nat.zero_le _
 | n+1=>by
  have h1:=selT_len b gone n
  rw [restOf_succ]
  by_cases h:n=gone
  ·rw [if_pos h];omega
  ·rw [if_neg h,selT_snoc]
   by_cases h':n<b.ws.length
   ·rw [if_pos h'];omega
   ·rw [if_neg h',List.length_append,List.length_singleton];omega
theorem selW_in {b:Bench} {l:List Nat}:∀ w ∈ selW b l,w ∈ b.ws:=fun w h=>by
 unfold selW at h
 obtain ⟨i,hi,rfl⟩:=List.mem_map.mp h
 have:=of_decide_eq_true (List.mem_filter.mp hi).2
 rw [← wAt_at this]
 exact List.getElem_mem _
theorem selT_in {b:Bench} {l:List Nat} (hl:∀ x ∈ l,x<b.ws.length+b.ts.length):∀ t ∈ selT b l,t ∈ b.ts:=fun w h=>by
 unfold selT at h
 obtain ⟨i,hi,rfl⟩:=List.mem_map.mp h
 obtain ⟨h1,h2⟩:=List.mem_filter.mp hi
 have h3:¬ i<b.ws.length:=fun h=>by rw [decide_eq_true h] at h2;cases h2
 have:=hl i h1
 rw [← tAt_at (show i - b.ws.length<b.ts.length by omega)]
 exact List.getElem_mem _
theorem sub_ok {b:Bench} (ok:b.Ok) {ws:List Weigh} {ts:List Trial} (hw:∀ w ∈ ws,w ∈ b.ws) (ht:∀ t ∈ ts,t ∈ b.ts) (h1:ws.length≤6) (h2:ts.length≤6):Bench.Ok ⟨b.ms,ws,b.ss,ts,b.days⟩ :=
 ⟨ok.m0,ok.m1,ok.mok,h1,fun w h=>ok.wok w (hw w h),ok.s0,ok.s1,ok.sok,ok.d1,h2,fun t h=>ok.tok t (ht t h)⟩
theorem errsOf_len' (b:Bench) (T:List (List Gap)) (k:Nat):(errsOf b T k).length=b.days+1:=by unfold errsOf;rw [List.length_map,List.length_range]
theorem keeps_narrow {g h:Gap} {l:Int} (h1:h.1≤g.1) (h2:g.2≤h.2) (hg:g.1≤g.2):keepsI h l=3∨keepsI g l=keepsI h l:=by
 unfold keepsI
 by_cases a : -l≤h.1∧h.2≤l
 ·rw [if_pos a,if_pos (by omega)];exact .inr rfl
 ·rw [if_neg a]
  by_cases c:h.2 < -l∨l<h.1
  ·rw [if_pos c,if_neg (by omega),if_pos (by omega)];exact .inr rfl
  ·rw [if_neg c];exact .inl rfl
noncomputable def scmRest:K:=(kSeq (kRegion K5r2 [4]) (kSeq (kRegion K5r3 [7]) (kSeq (kRegion K5r4 [8]) (kSeq (kRegion K5r5 [9]) (kSeq (kSeq (kRegion K5r6 [10]) (kBlock 0 (kLoop K5l0))) (kSeq (kRegion K5r11 [11]) (kSeq (kRegionD K5r12 [12,13,14]) (kSeq (kRegion K5r13 [15,16]) (kSeq (kRegion K5r14 [17,18]) (kSeq (kRegion K5r15 [19,20]) (kSeq (kRegion K5r16 [21,22]) (kSeq (kRegion K5r17 [23,24]) (kSeq (kRegion K5r18 [25,26]) (kSeq (kSeq (kRegion K5r19 [113]) (kCond (.tmp 113) (kSeq (kRegion K5r20 [2]) kRet) kSkip)) (kSeq (kSeq (kRegion K5r21 [188]) (kCond (.tmp 188) (kSeq (kRegion K5r22 [2]) kRet) kSkip)) (kSeq (kSeq (kRegion K5r23 [27]) (kBlock 2 (kLoop K5l1))) (kSeq (kSeq (kRegion K5r28 [28]) (kBlock 4 (kLoop K5l2))) (kSeq (kRegion K5r33 [2]) kRet))))))))))))))))))
theorem scm_body (n:Nat) (hn:13≤n) (cx:Ctx) (s:St) (d:Nat) (hd:Die d s.h) (hdn:d<s.n) (hs:s.n+9000000≤far) (hm:s.m=far) :
  ∃ s',finA Try.prog Try.f5 (scmRest (knows 13 (call Try.prog X n)) cx (.cons 3 (.ptr d 0) .nil) [] s)=.val (.bool true) s':=by
 have hf:far=1000000000:=rfl
 have knB:∀ args s,knows 13 (call Try.prog X n) (.fn 7) args s=call Try.prog X n (.fn 7) args s:=fun _ _=>rfl
 have knC:∀ args s,knows 13 (call Try.prog X n) (.fn 8) args s=call Try.prog X n (.fn 8) args s:=fun _ _=>rfl
 have knO:∀ args s,knows 13 (call Try.prog X n) (.fn 9) args s=call Try.prog X n (.fn 9) args s:=fun _ _=>rfl
 have knE:∀ args s,knows 13 (call Try.prog X n) (.fn 10) args s=call Try.prog X n (.fn 10) args s:=fun _ _=>rfl
 have knK:∀ args s,knows 13 (call Try.prog X n) (.fn 12) args s=call Try.prog X n (.fn 12) args s:=fun _ _=>rfl
 have knY:∀ args s,knows 13 (call Try.prog X n) (.fn 18) args s=call Try.prog X n (.fn 18) args s:=fun _ _=>rfl
 have knA:∀ s,knows 13 (call Try.prog X n) (.fn 13) [] s=.val (.bool true) s:=fun _=>rfl
 have ex0:∀ (a b:AV) (s:St),extA 0 s (.tup [a,b])=.val a s:=fun _ _ _=>rfl
 have ex1:∀ (a b:AV) (s:St),extA 1 s (.tup [a,b])=.val b s:=fun _ _ _=>rfl
 have ex30:∀ (a b c:AV) (s:St),extA 0 s (.tup [a,b,c])=.val a s:=fun _ _ _ _=>rfl
 have ex31:∀ (a b c:AV) (s:St),extA 1 s (.tup [a,b,c])=.val b s:=fun _ _ _ _=>rfl
 have ex32:∀ (a b c:AV) (s:St),extA 2 s (.tup [a,b,c])=.val c s:=fun _ _ _ _=>rfl
 unfold scmRest
 simp (disch:=first|omega|(with_unfolding_all exact rfl)|(simp only[new_n,put_n,new_m];omega)|(refine put_m_le ?_;simp only[new_m];omega)) only [K5r2,Abs.W,reduceIte,Nat.reduceEqDiff,Nat.reduceAdd,decide_true,decide_false,kLoop_def,Nat.reduceSub,List.cons_append,List.nil_append,List.append_nil,List.length_cons,List.length_nil,Env.find_set,knB]
 generalize hc1:call _ _ _ (.fn 7) _ _=r1
 obtain ⟨b,offs,errs,v1,v2,v3,v4,v5,v6,q,t1,rfl,st1,d1,ok,hF,hq,hBF⟩:=BenchOf_ex (M:=4) (S:=2) (R:=3) (D:=5) hc1 (by omega) hd hdn (by omega) (by omega) (by omega) (by omega) (by omega)
 have n1:s.n≤t1.n:=st1.n
 have k1:t1.n≤s.n+2000:=st1.le
 obtain ⟨hB1,hA1⟩:=hBF t1.h fun _ _ _=>rfl
 have scB:=scB_of hB1 s
 have scF:scalars [v5,v6]=true:=by rw [scals_cons (by have:=scal_ln (hA1.o.len s);simp [scalars,this])];have:=scal_ln (hA1.len s);simp [scalars,this]
 simp (disch:=first|omega|(with_unfolding_all exact rfl)|(simp only[new_n,put_n,new_m];omega)|(refine put_m_le ?_;simp only[new_m];omega)) only [Abs.W,reduceIte,Nat.reduceEqDiff,Nat.reduceAdd,decide_true,decide_false,kLoop_def,Nat.reduceSub,List.cons_append,List.nil_append,List.append_nil,List.length_cons,List.length_nil,Env.find_set,ex30,ex31,ex32,scB,scF]
 simp only [new_n]
 generalize hy':St.put (St.put _ _ _) _ _=y
 have yn:y.n=t1.n+2:=by rw [← hy'];rfl
 have yg:∀ c,c<t1.n→y.h.get c=t1.h.get c:=fun c hc=>by rw [← hy',get_put_ne' _ _ _ _ (by omega),get_put_ne' _ _ _ _ (by omega),get_new_ne _ _ _ (by simp only [new_n];omega),get_new_ne _ _ _ (by omega)]
 have y4:y.h.get t1.n=some (.cells [v1,v2,v3,v4,.int .i64 b.days] (tag 30)):=by rw [← hy',get_put_ne' _ _ _ _ (by omega)];exact get_put_eq _ _ _ _ rfl (by omega)
 have dy:Die d y.h:=d1.keep (yg d (by omega))
 clear hy'
 have hd1:=ok.d1
 have hs0:=ok.s0
 have hs1:=ok.s1
 have hw1:=ok.w1
 have ht1:=ok.t1
 have okv2:∀ t,okA (.val v2 t)=.val v2 t:=fun t=>okA_ne hB1.w.ne
 have okv3:∀ t,okA (.val v3 t)=.val v3 t:=fun t=>okA_ne hB1.s.ne
 have okv4:∀ t,okA (.val v4 t)=.val v4 t:=fun t=>okA_ne hB1.t.ne
 have l2:=hB1.w.len
 rw [List.length_map] at l2
 have l3:=hB1.s.len
 rw [List.length_map] at l3
 have l4:=hB1.t.len
 rw [List.length_map] at l4
 obtain ⟨m,hm'⟩:∃ m,m=b.ws.length+b.ts.length:=⟨_,rfl⟩
 have adm:∀ s,aAdd s .i64 (b.ws.length:Int) (b.ts.length:Int)=.val (.int .i64 (m:Int)) s:=fun s=>by rw [aAdd_i64 s _ _ (by omega),hm'];rfl
 have ad:∀ s,aAdd s .i64 (b.days:Int) 1=.val (.int .i64 ((b.days:Int)+1)) s:=fun s=>aAdd_i64 s _ _ (by omega)
 simp (disch:=first|omega|(with_unfolding_all exact rfl)|(simp only[new_n,put_n,new_m];omega)|(refine put_m_le ?_;simp only[new_m];omega)) only [K5r3,K5r4,Abs.W,reduceIte,Nat.reduceEqDiff,Nat.reduceAdd,decide_true,decide_false,kLoop_def,Nat.reduceSub,List.cons_append,List.nil_append,List.append_nil,List.length_cons,List.length_nil,Env.find_set,y4,okv2,okv4,l2,l4,adm,knC,Nat.zero_add]
 generalize hc0:call _ _ _ (.fn 8) _ _=r0
 obtain ⟨x0,t0,rfl,st0,d0,x00,x01⟩:=cast_ex hc0 (by omega) dy (by show d<y.n;omega) (by show y.n+100≤far;omega) (by omega)
 have n0:y.n≤t0.n:=st0.n
 have k0:t0.n≤y.n:=st0.le
 obtain ⟨gone,rfl⟩:∃ n:Nat,x0=n:=⟨x0.toNat,by omega⟩
 have g0:∀ c,c<y.n→c≠d→t0.h.get c=y.h.get c:=fun c hc hcd=>st0.same c hc hcd
 simp (disch:=first|omega|(with_unfolding_all exact rfl)|(simp only[new_n,put_n,new_m];omega)|(refine put_m_le ?_;simp only[new_m];omega)) only [K5r5,K5r6,Abs.W,reduceIte,Nat.reduceEqDiff,Nat.reduceAdd,decide_true,decide_false,kLoop_def,Nat.reduceSub,List.cons_append,List.nil_append,List.append_nil,List.length_cons,List.length_nil,Env.find_set,Nat.zero_add]
 generalize hl0:loopN _ rounds _ _ _ _ _=rl0
 obtain ⟨L0,t2,bl,vl,rfl,hJ,h9,gL⟩:=rest_loop n _ hl0 (n:=m) (gone:=gone) (by omega) (by omega) (by simp only [find_cons,Env.find_set,reduceIte,Nat.reduceEqDiff]) (by simp only [find_cons,Env.find_set,reduceIte,Nat.reduceEqDiff]) (by simp only [find_cons,Env.find_set,reduceIte,Nat.reduceEqDiff]) (by simp only [find_cons,Env.find_set,reduceIte,Nat.reduceEqDiff];rfl)
 have j3:=(gL 3 (by omega)).trans (show _=AV.ptr d 0 by simp only [find_cons,Env.find_set,reduceIte,Nat.reduceEqDiff])
 have j4:=(gL 4 (by omega)).trans (show _=AV.ptr t1.n 0 by simp only [find_cons,Env.find_set,reduceIte,Nat.reduceEqDiff])
 clear gL
 obtain ⟨jis,jlo,jsame,jn,jle⟩:=hJ
 have g2:∀ c,c<y.n→c≠d→t2.h.get c=y.h.get c:=fun c hc hcd=>(jsame c (by omega)).trans (g0 c hc hcd)
 have z4:=(g2 t1.n (by omega) (by omega)).trans y4
 have hBF2:BenchF t2.h s.n t2.n b offs errs v1 v2 v3 v4 v5 v6:=hBF.mono (fun c h1 h2=>(g2 c (by omega) (by omega)).trans (yg c h2)) (Nat.le_refl _) (by omega)
 obtain ⟨hB2,_⟩:=hBF2 t2.h fun _ _ _=>rfl
 simp (disch:=first|omega|(with_unfolding_all exact rfl)|(simp only[new_n,put_n,new_m];omega)|(refine put_m_le ?_;simp only[new_m];omega)) only [K5r11,Abs.W,reduceIte,Nat.reduceEqDiff,Nat.reduceAdd,decide_true,decide_false,kLoop_def,Nat.reduceSub,List.cons_append,List.nil_append,List.append_nil,List.length_cons,List.length_nil,Env.find_set,j4,h9,z4,knY,Nat.zero_add]
 generalize hc2:call _ _ _ (.fn 18) _ _=r2
 have hres:∀ x ∈ restOf m gone,x<b.ws.length+b.ts.length:=fun x hx=>by rw [← hm'];exact restOf_lt hx
 obtain ⟨w2,w4,t3,rfl,st3,hw2,hw4⟩:=only_ex (b:=b) (l:=restOf m gone) hc2 (by omega) ok hB2 jis.rows.at_ (by have:=restOf_len m gone;omega) hres (by omega)
 have n3:=st3.n
 have k3:=st3.le
 have g3:∀ c,c<y.n→c≠d→t3.h.get c=y.h.get c:=fun c hc hcd=>(st3.same c (by omega)).trans (g2 c hc hcd)
 have hB3:BenchAt t3.h t3.n b v1 v2 v3 v4:=hB2.grow st3.same n3
 obtain ⟨less,hless⟩:∃ less:Bench,less=⟨b.ms,selW b (restOf m gone),b.ss,selT b (restOf m gone),b.days⟩:=⟨_,rfl⟩
 have hC3:BenchAt t3.h t3.n less v1 w2 v3 w4:=by rw [hless];exact ⟨hB3.m,hw2.at_,hB3.s,hw4.at_⟩
 have okl:less.Ok:=by
  rw [hless]
  exact sub_ok ok selW_in (selT_in hres) (by have:=(selW_len b gone m).2;omega) (by have:=selT_len b gone m;omega)
 have hAm:Among less b:=by rw [hless];exact among_of selW_in (selT_in hres)
 have scC:scalars [v1,w2,v3,w4,.int .i64 (b.days:Int)]=true:=by have:=scB_of hC3 s;rw [hless] at this;exact this
 simp (disch:=first|omega|(with_unfolding_all exact rfl)|(simp only[new_n,put_n,new_m];omega)|(refine put_m_le ?_;simp only[new_m];omega)) only [Abs.W,reduceIte,Nat.reduceEqDiff,Nat.reduceAdd,decide_true,decide_false,kLoop_def,Nat.reduceSub,List.cons_append,List.nil_append,List.append_nil,List.length_cons,List.length_nil,Env.find_set,scC,Nat.zero_add]
 generalize hz':St.put (St.new t3 _) _ _=z
 have zn:z.n=t3.n+1:=by rw [← hz'];rfl
 have zg:∀ c,c<t3.n→z.h.get c=t3.h.get c:=fun c hc=>by rw [← hz',get_put_ne' _ _ _ _ (by omega),get_new_ne _ _ _ (by omega)]
 have z11:z.h.get t3.n=some (.cells [v1,w2,v3,w4,.int .i64 b.days] (tag 30)):=by rw [← hz'];exact get_put_eq _ _ _ _ rfl (by omega)
 clear hz'
 have x4:=(zg t1.n (by omega)).trans ((g3 t1.n (by omega) (by omega)).trans y4)
 have dz:Die d z.h:=d0.keep ((zg d (by omega)).trans ((st3.same d (by omega)).trans (jsame d (by omega))))
 simp (disch:=first|omega|(with_unfolding_all exact rfl)|(simp only[new_n,put_n,new_m];omega)|(refine put_m_le ?_;simp only[new_m];omega)) only [K5r12,Abs.W,reduceIte,Nat.reduceEqDiff,Nat.reduceAdd,decide_true,decide_false,kLoop_def,Nat.reduceSub,List.cons_append,List.nil_append,List.append_nil,List.length_cons,List.length_nil,Env.find_set,j3,j4,x4,okv3,l3,knC,Nat.zero_add]
 generalize hc4:call _ _ _ (.fn 8) _ _=r4
 obtain ⟨x4',t4,rfl,st4,d4,x40,x41⟩:=cast_ex hc4 (by omega) dz (by show d<z.n;omega) (by show z.n+100≤far;omega) (by omega)
 have n4:z.n≤t4.n:=st4.n
 have k4:t4.n≤z.n:=st4.le
 obtain ⟨number,rfl⟩:∃ n:Nat,x4'=n:=⟨x4'.toNat,by omega⟩
 have g4:∀ c,c<z.n→c≠d→t4.h.get c=z.h.get c:=fun c hc hcd=>st4.same c hc hcd
 have y4':=(g4 t1.n (by omega) (by omega)).trans x4
 simp (disch:=first|omega|(with_unfolding_all exact rfl)|(simp only[new_n,put_n,new_m];omega)|(refine put_m_le ?_;simp only[new_m];omega)) only [thenT_turn,Abs.W,reduceIte,Nat.reduceEqDiff,Nat.reduceAdd,decide_true,decide_false,kLoop_def,Nat.reduceSub,List.cons_append,List.nil_append,List.append_nil,List.length_cons,List.length_nil,Env.find_set,j3,j4,y4',ad,knC,Nat.zero_add]
 generalize hc5:call _ _ _ (.fn 8) _ _=r5
 obtain ⟨x5,t5,rfl,st5,d5,x50,x51⟩:=cast_ex hc5 (by omega) d4 (by show d<t4.n;omega) (by show t4.n+100≤far;omega) (by omega)
 have n5:t4.n≤t5.n:=st5.n
 have k5:t5.n≤t4.n:=st5.le
 obtain ⟨day,rfl⟩:∃ n:Nat,x5=n:=⟨x5.toNat,by omega⟩
 simp (disch:=first|omega|(with_unfolding_all exact rfl)|(simp only[new_n,put_n,new_m];omega)|(refine put_m_le ?_;simp only[new_m];omega)) only [Abs.W,reduceIte,Nat.reduceEqDiff,Nat.reduceAdd,decide_true,decide_false,kLoop_def,Nat.reduceSub,List.cons_append,List.nil_append,List.append_nil,List.length_cons,List.length_nil,Env.find_set,j3,knC]
 generalize hc6:call _ _ _ (.fn 8) _ _=r6
 obtain ⟨x6,t6,rfl,st6,d6,x60,x61⟩:=cast_ex hc6 (by omega) d5 (by show d<t5.n;omega) (by show t5.n+100≤far;omega) (by omega)
 have n6:t5.n≤t6.n:=st6.n
 have k6:t6.n≤t5.n:=st6.le
 simp (disch:=first|omega|(with_unfolding_all exact rfl)|(simp only[new_n,put_n,new_m];omega)|(refine put_m_le ?_;simp only[new_m];omega)) only [Abs.W,reduceIte,Nat.reduceEqDiff,Nat.reduceAdd,decide_true,decide_false,kLoop_def,Nat.reduceSub,List.cons_append,List.nil_append,List.append_nil,List.length_cons,List.length_nil,Env.find_set]
 rw [endT_kept (l:=[68]) (s':=t4) (by simp only [keptAll_cons,keptAll_nil,find_cons,Env.find_set,keptV_ptr,x4,y4',sameO_cells,reduceIte,Nat.reduceEqDiff,Bool.and_self])]
 have g6:∀ c,c<z.n→c≠d→t6.h.get c=z.h.get c:=fun c hc hcd=>(st6.same c (by show c<t5.n;omega) hcd).trans ((st5.same c (by show c<t4.n;omega) hcd).trans (g4 c hc hcd))
 have f4:=(g6 t1.n (by omega) (by omega)).trans x4
 have f11:=(g6 t3.n (by omega) (by omega)).trans z11
 have hBd:∀ c,c<t3.n→c≠d→t6.h.get c=t3.h.get c:=fun c hc hcd=>(g6 c (by omega) hcd).trans (zg c hc)
 have hBF6:BenchF t6.h s.n t6.n b offs errs v1 v2 v3 v4 v5 v6:=hBF2.mono (fun c h1 h2=>(hBd c (by omega) (by omega)).trans (st3.same c h2)) (Nat.le_refl _) (by omega)
 obtain ⟨hB6,_⟩:=hBF6 t6.h fun _ _ _=>rfl
 have hC6:BenchAt t6.h t6.n less v1 w2 v3 w4:=by
  rw [hless]
  exact ⟨hB6.m,(hw2.mono (fun c h1 h2=>hBd c h2 (by omega)) (by omega)).at_,hB6.s,(hw4.mono (fun c h1 h2=>hBd c h2 (by omega)) (by omega)).at_⟩
 have hld:less.days=b.days:=by rw [hless]
 have hlss:less.ss.length=b.ss.length:=by rw [hless]
 simp (disch:=first|omega|(with_unfolding_all exact rfl)|(simp only[new_n,put_n,new_m];omega)|(refine put_m_le ?_;simp only[new_m];omega)) only [Abs.W,reduceIte,Nat.reduceEqDiff,Nat.reduceAdd,decide_true,decide_false,kLoop_def,Nat.reduceSub,List.cons_append,List.nil_append,List.append_nil,List.length_cons,List.length_nil,Env.find_set,endO_nil,regD_ok]
 simp (disch:=first|omega|(with_unfolding_all exact rfl)|(simp only[new_n,put_n,new_m];omega)|(refine put_m_le ?_;simp only[new_m];omega)) only [K5r13,Abs.W,reduceIte,Nat.reduceEqDiff,Nat.reduceAdd,decide_true,decide_false,kLoop_def,Nat.reduceSub,List.cons_append,List.nil_append,List.append_nil,List.length_cons,List.length_nil,Env.find_set,j4,f4,knO,Nat.zero_add]
 generalize hc7:call _ _ _ (.fn 9) _ _=r7
 obtain ⟨vp,e1,t7,rfl,w7,ho⟩:=Offs_ex (b:=b) hc7 (by omega) ok hB6 (by omega)
 have n7:=w7.n
 have k7:=w7.le
 have f11':=(w7.same t3.n (by omega)).trans f11
 simp (disch:=first|omega|(with_unfolding_all exact rfl)|(simp only[new_n,put_n,new_m];omega)|(refine put_m_le ?_;simp only[new_m];omega)) only [K5r14,Abs.W,reduceIte,Nat.reduceEqDiff,Nat.reduceAdd,decide_true,decide_false,kLoop_def,Nat.reduceSub,List.cons_append,List.nil_append,List.append_nil,List.length_cons,List.length_nil,Env.find_set,f11',ex0,ex1,knO,Nat.zero_add]
 generalize hc8:call _ _ _ (.fn 9) _ _=r8
 rw [← hld] at hc8
 obtain ⟨vq,e2,t8,rfl,w8,hp⟩:=Offs_ex (b:=less) hc8 (by omega) okl (hC6.grow w7.same n7) (by omega)
 have n8:=w8.n
 have k8:=w8.le
 have g8:∀ c,c<t6.n→t8.h.get c=t6.h.get c:=fun c hc=>(w8.same c (by omega)).trans (w7.same c hc)
 have f4':=(g8 t1.n (by omega)).trans f4
 simp (disch:=first|omega|(with_unfolding_all exact rfl)|(simp only[new_n,put_n,new_m];omega)|(refine put_m_le ?_;simp only[new_m];omega)) only [K5r15,Abs.W,reduceIte,Nat.reduceEqDiff,Nat.reduceAdd,decide_true,decide_false,kLoop_def,Nat.reduceSub,List.cons_append,List.nil_append,List.append_nil,List.length_cons,List.length_nil,Env.find_set,j4,f4',ex0,ex1,knE,Nat.zero_add]
 generalize hc9:call _ _ _ (.fn 10) _ _=r9
 obtain ⟨vx,e3,t9,rfl,w9,hx⟩:=Errors_ex (b:=b) (k:=number) hc9 (by omega) ok (by omega) (hB6.grow g8 (by omega)) (by omega)
 have n9:=w9.n
 have k9:=w9.le
 have g9:∀ c,c<t6.n→t9.h.get c=t6.h.get c:=fun c hc=>(w9.same c (by omega)).trans (g8 c hc)
 have f11'':=(g9 t3.n (by omega)).trans f11
 simp (disch:=first|omega|(with_unfolding_all exact rfl)|(simp only[new_n,put_n,new_m];omega)|(refine put_m_le ?_;simp only[new_m];omega)) only [K5r16,Abs.W,reduceIte,Nat.reduceEqDiff,Nat.reduceAdd,decide_true,decide_false,kLoop_def,Nat.reduceSub,List.cons_append,List.nil_append,List.append_nil,List.length_cons,List.length_nil,Env.find_set,f11'',ex0,ex1,knE,Nat.zero_add]
 generalize hc10:call _ _ _ (.fn 10) _ _=r10
 rw [← hld] at hc10
 obtain ⟨vy,e4,t10,rfl,w10,hy⟩:=Errors_ex (b:=less) (k:=number) hc10 (by omega) okl (by omega) (hC6.grow g9 (by omega)) (by omega)
 have n10:=w10.n
 have k10:=w10.le
 have g10:∀ c,c<t6.n→t10.h.get c=t6.h.get c:=fun c hc=>(w10.same c (by omega)).trans (g9 c hc)
 have f4'':=(g10 t1.n (by omega)).trans f4
 have f11t:=(g10 t3.n (by omega)).trans f11
 obtain ⟨gk,e5,ck,hk⟩:=Keeps_ex (N:=n) (k:=number) (day:=day) (x:=x6) (s:=t10) (b:=b) (by omega) ok (by omega) (by omega) (hB6.grow g10 (by omega)) (by omega) (by omega)
 obtain ⟨gl,e6,cl,hl⟩:=Keeps_ex (N:=n) (k:=number) (day:=day) (x:=x6) (s:=t10) (b:=less) (by omega) okl (by omega) (by omega) (hC6.grow g10 (by omega)) (by omega) (by omega)
 rw [hld] at cl
 obtain ⟨vk,hvk⟩:∃ x:Int,x=if e5=0 then keepsI gk x6 else 0:=⟨_,rfl⟩
 obtain ⟨vl',hvl⟩:∃ x:Int,x=if e6=0 then keepsI gl x6 else 0:=⟨_,rfl⟩
 rw [← hvk] at ck
 rw [← hvl] at cl
 simp (disch:=first|omega|(with_unfolding_all exact rfl)|(simp only[new_n,put_n,new_m];omega)|(refine put_m_le ?_;simp only[new_m];omega)) only [K5r17,K5r18,K5r19,Abs.W,reduceIte,Nat.reduceEqDiff,Nat.reduceAdd,decide_true,decide_false,kLoop_def,Nat.reduceSub,List.cons_append,List.nil_append,List.append_nil,List.length_cons,List.length_nil,Env.find_set,j4,f4'',f11t,ex0,ex1,knK,ck,cl,Nat.zero_add]
 have d0:decide ((0:Int)=0)=true:=rfl
 have d09:decide ((0:Int)=9)=false:=rfl
 have d90:decide ((9:Int)=0)=false:=rfl
 have d9:decide ((9:Int)=9)=true:=rfl
 cases hK:knT b (resMany b) with
 | none =>
  have u20s29:=fun cl L s=>congrFun (congrFun (congrFun K5r20s29.eq_1 cl) L) s
  have u20s26:=fun cl L s=>congrFun (congrFun (congrFun K5r20s26.eq_1 cl) L) s
  have u20s25:=fun cl L s=>congrFun (congrFun (congrFun K5r20s25.eq_1 cl) L) s
  have u20s24:=fun cl L s=>congrFun (congrFun (congrFun K5r20s24.eq_1 cl) L) s
  have u20s21:=fun cl L s=>congrFun (congrFun (congrFun K5r20s21.eq_1 cl) L) s
  have u20s20:=fun cl L s=>congrFun (congrFun (congrFun K5r20s20.eq_1 cl) L) s
  have u20s19:=fun cl L s=>congrFun (congrFun (congrFun K5r20s19.eq_1 cl) L) s
  have u20s16:=fun cl L s=>congrFun (congrFun (congrFun K5r20s16.eq_1 cl) L) s
  have u20s15:=fun cl L s=>congrFun (congrFun (congrFun K5r20s15.eq_1 cl) L) s
  have u20s14:=fun cl L s=>congrFun (congrFun (congrFun K5r20s14.eq_1 cl) L) s
  have u20s13:=fun cl L s=>congrFun (congrFun (congrFun K5r20s13.eq_1 cl) L) s
  have u20s12:=fun cl L s=>congrFun (congrFun (congrFun K5r20s12.eq_1 cl) L) s
  have u20s11:=fun cl L s=>congrFun (congrFun (congrFun K5r20s11.eq_1 cl) L) s
  have u20s10:=fun cl L s=>congrFun (congrFun (congrFun K5r20s10.eq_1 cl) L) s
  have u20s7:=fun cl L s=>congrFun (congrFun (congrFun K5r20s7.eq_1 cl) L) s
  have u20s6:=fun cl L s=>congrFun (congrFun (congrFun K5r20s6.eq_1 cl) L) s
  have u20s5:=fun cl L s=>congrFun (congrFun (congrFun K5r20s5.eq_1 cl) L) s
  obtain rfl:e1=9:=by
   rcases ho with ⟨_,_,h⟩ | ⟨_,_,h,_⟩
   ·exact h
   ·rw [hK] at h;cases h
  obtain rfl:e3=9:=by
   rcases hx with ⟨_,_,h⟩ | ⟨_,_,h,_⟩
   ·exact h
   ·rw [hK] at h;cases h
  obtain rfl:e5=9:=by
   rcases hk with ⟨_,h,_⟩ | ⟨_,_,h,_⟩
   ·exact h
   ·rw [hK] at h;cases h
  have hall:(e2=9∧e4=9∧e6=9)∨(e2=0∧e4=0∧e6=0):=by
   cases hL:knT less (resMany less) with
   | none =>
    refine .inl ⟨?_,?_,?_⟩
    ·rcases hp with ⟨_,_,h⟩ | ⟨_,_,h,_⟩
     ·exact h
     ·rw [hL] at h;cases h
    ·rcases hy with ⟨_,_,h⟩ | ⟨_,_,h,_⟩
     ·exact h
     ·rw [hL] at h;cases h
    ·rcases hl with ⟨_,h,_⟩ | ⟨_,_,h,_⟩
     ·exact h
     ·rw [hL] at h;cases h
   | some T =>
    refine .inr ⟨?_,?_,?_⟩
    ·rcases hp with ⟨h,_⟩ | ⟨h,_⟩
     ·rw [hL] at h;cases h
     ·exact h
    ·rcases hy with ⟨h,_⟩ | ⟨h,_⟩
     ·rw [hL] at h;cases h
     ·exact h
    ·rcases hl with ⟨h,_⟩ | ⟨h,_⟩
     ·rw [hL] at h;cases h
     ·exact h
  clear hvk hvl
  rcases hall with ⟨rfl,rfl,rfl⟩ | ⟨rfl,rfl,rfl⟩
  ·simp (config:={ maxSteps:=3000000 }) (disch:=first|omega|(with_unfolding_all exact rfl)|(simp only[new_n,put_n,new_m];omega)|(refine put_m_le ?_;simp only[new_m];omega)) only [K5r20,u20s29,u20s26,u20s25,u20s24,u20s21,u20s20,u20s19,u20s16,u20s15,u20s14,u20s13,u20s12,u20s11,u20s10,u20s7,u20s6,u20s5,res5,Abs.W,reduceIte,Nat.reduceEqDiff,Nat.reduceAdd,decide_true,decide_false,kLoop_def,Nat.reduceSub,List.cons_append,List.nil_append,List.append_nil,List.length_cons,List.length_nil,Env.find_set,d0,d09,d90,d9,knA]
   exact ⟨_,rfl⟩
  ·simp (config:={ maxSteps:=3000000 }) (disch:=first|omega|(with_unfolding_all exact rfl)|(simp only[new_n,put_n,new_m];omega)|(refine put_m_le ?_;simp only[new_m];omega)) only [K5r20,u20s29,u20s26,u20s25,u20s24,u20s21,u20s20,u20s19,u20s16,u20s15,u20s14,u20s13,u20s12,u20s11,u20s10,u20s7,u20s6,u20s5,res5,Abs.W,reduceIte,Nat.reduceEqDiff,Nat.reduceAdd,decide_true,decide_false,kLoop_def,Nat.reduceSub,List.cons_append,List.nil_append,List.append_nil,List.length_cons,List.length_nil,Env.find_set,d0,d09,d90,d9,knA]
   exact ⟨_,rfl⟩
 | some T =>
  have u21s44:=fun cl L s=>congrFun (congrFun (congrFun K5r21s44.eq_1 cl) L) s
  have u21s43:=fun cl L s=>congrFun (congrFun (congrFun K5r21s43.eq_1 cl) L) s
  have u21s42:=fun cl L s=>congrFun (congrFun (congrFun K5r21s42.eq_1 cl) L) s
  have u21s41:=fun cl L s=>congrFun (congrFun (congrFun K5r21s41.eq_1 cl) L) s
  have u21s40:=fun cl L s=>congrFun (congrFun (congrFun K5r21s40.eq_1 cl) L) s
  have u21s39:=fun cl L s=>congrFun (congrFun (congrFun K5r21s39.eq_1 cl) L) s
  have u21s38:=fun cl L s=>congrFun (congrFun (congrFun K5r21s38.eq_1 cl) L) s
  have u21s35:=fun cl L s=>congrFun (congrFun (congrFun K5r21s35.eq_1 cl) L) s
  have u21s34:=fun cl L s=>congrFun (congrFun (congrFun K5r21s34.eq_1 cl) L) s
  have u21s33:=fun cl L s=>congrFun (congrFun (congrFun K5r21s33.eq_1 cl) L) s
  have u21s32:=fun cl L s=>congrFun (congrFun (congrFun K5r21s32.eq_1 cl) L) s
  have u21s31:=fun cl L s=>congrFun (congrFun (congrFun K5r21s31.eq_1 cl) L) s
  have u21s28:=fun cl L s=>congrFun (congrFun (congrFun K5r21s28.eq_1 cl) L) s
  have u21s27:=fun cl L s=>congrFun (congrFun (congrFun K5r21s27.eq_1 cl) L) s
  have u21s26:=fun cl L s=>congrFun (congrFun (congrFun K5r21s26.eq_1 cl) L) s
  have u21s25:=fun cl L s=>congrFun (congrFun (congrFun K5r21s25.eq_1 cl) L) s
  have u21s24:=fun cl L s=>congrFun (congrFun (congrFun K5r21s24.eq_1 cl) L) s
  have u21s21:=fun cl L s=>congrFun (congrFun (congrFun K5r21s21.eq_1 cl) L) s
  have u21s20:=fun cl L s=>congrFun (congrFun (congrFun K5r21s20.eq_1 cl) L) s
  have u21s17:=fun cl L s=>congrFun (congrFun (congrFun K5r21s17.eq_1 cl) L) s
  have u21s16:=fun cl L s=>congrFun (congrFun (congrFun K5r21s16.eq_1 cl) L) s
  have u21s13:=fun cl L s=>congrFun (congrFun (congrFun K5r21s13.eq_1 cl) L) s
  have u21s12:=fun cl L s=>congrFun (congrFun (congrFun K5r21s12.eq_1 cl) L) s
  have u21s9:=fun cl L s=>congrFun (congrFun (congrFun K5r21s9.eq_1 cl) L) s
  have u21s8:=fun cl L s=>congrFun (congrFun (congrFun K5r21s8.eq_1 cl) L) s
  have u21s5:=fun cl L s=>congrFun (congrFun (congrFun K5r21s5.eq_1 cl) L) s
  have u21s4:=fun cl L s=>congrFun (congrFun (congrFun K5r21s4.eq_1 cl) L) s
  subst hless
  obtain ⟨T1,hK1,hle⟩:=among_known ok okl hAm hK
  have kok:=knT_ok ok _ T (Nat.le_refl _) hK
  obtain ⟨rfl,ho1⟩:e1=0∧RowsAt t7.h t7.n 2 (gapRow (offsOf b T)) vp:=by
   rcases ho with ⟨h,_⟩ | ⟨h1,T0,h,h2⟩
   ·rw [hK] at h;cases h
   ·rw [hK] at h;cases h;exact ⟨h1,h2⟩
  obtain ⟨rfl,hp1⟩:e2=0∧RowsAt t8.h t8.n 2 (gapRow (offsOf b T1)) vq:=by
   rcases hp with ⟨h,_⟩ | ⟨h1,T0,h,h2⟩
   ·rw [hK1] at h;cases h
   ·rw [hK1] at h;cases h;exact ⟨h1,h2⟩
  obtain ⟨rfl,hx1⟩:e3=0∧RowsAt t9.h t9.n 2 (gapRow (errsOf b T number)) vx:=by
   rcases hx with ⟨h,_⟩ | ⟨h1,T0,h,h2⟩
   ·rw [hK] at h;cases h
   ·rw [hK] at h;cases h;exact ⟨h1,h2⟩
  obtain ⟨rfl,hy1⟩:e4=0∧RowsAt t10.h t10.n 2 (gapRow (errsOf b T1 number)) vy:=by
   rcases hy with ⟨h,_⟩ | ⟨h1,T0,h,h2⟩
   ·rw [hK1] at h;cases h
   ·rw [hK1] at h;cases h;exact ⟨h1,h2⟩
  obtain ⟨rfl,rfl⟩:e5=0∧gk=ent T 0 (errAt b number day):=by
   rcases hk with ⟨h,_⟩ | ⟨h1,T0,h,h2⟩
   ·rw [hK] at h;cases h
   ·rw [hK] at h;cases h;exact ⟨h1,h2⟩
  obtain ⟨rfl,rfl⟩:e6=0∧gl=ent T1 0 (errAt b number day):=by
   rcases hl with ⟨h,_⟩ | ⟨h1,T0,h,h2⟩
   ·rw [hK1] at h;cases h
   ·rw [hK1] at h;cases h;exact ⟨h1,h2⟩
  rw [if_pos rfl] at hvk hvl
  have pA:=ho1.grow (h':=t10.h) (n':=t10.n) (fun c hc=>(w10.same c (by omega)).trans ((w9.same c (by omega)).trans (w8.same c hc))) (by omega)
  have pB:=hp1.grow (h':=t10.h) (n':=t10.n) (fun c hc=>(w10.same c (by omega)).trans (w9.same c hc)) (by omega)
  have pC:=hx1.grow (h':=t10.h) (n':=t10.n) (fun c hc=>w10.same c hc) (by omega)
  have lo:∀ T,(offsOf b T).length=b.ms.length:=fun T=>by unfold offsOf;rw [List.length_map,List.length_range]
  have lA:=pA.len
  rw [gapRow_len,lo] at lA
  have lB:=pB.len
  rw [gapRow_len,lo] at lB
  have lC:=pC.len
  rw [gapRow_len,errsOf_len'] at lC
  have lD:=hy1.len
  rw [gapRow_len,errsOf_len'] at lD
  have kA:∀ t,okA (.val vp t)=.val vp t:=fun t=>okA_ne pA.ne
  have kB:∀ t,okA (.val vq t)=.val vq t:=fun t=>okA_ne pB.ne
  have kC:∀ t,okA (.val vx t)=.val vx t:=fun t=>okA_ne pC.ne
  have kD:∀ t,okA (.val vy t)=.val vy t:=fun t=>okA_ne hy1.ne
  have hm5:=ok.m1
  have hday:=errAt_lt (b:=b) (k:=number) (d:=day) (by omega) (by omega)
  have z0:0<big b:=by show 0<givMany b+1;omega
  have hnar:=keeps_narrow (l:=x6) (hle 0 (errAt b number day) z0 hday).1 (hle 0 (errAt b number day) z0 hday).2 (kok.cl.some_ z0 hday)
  rw [← hvk,← hvl] at hnar
  clear hvk hvl
  have fit1:∀ i (h:i<(offsOf b T).length) (h':i<(offsOf b T1).length),((offsOf b T1)[i]).1≤((offsOf b T)[i]).1∧((offsOf b T)[i]).2≤((offsOf b T1)[i]).2:=fun i h h'=>by
   rw [lo] at h
   rw [show (offsOf b T)[i]=ent T (1+i) 0 by simp [offsOf],show (offsOf b T1)[i]=ent T1 (1+i) 0 by simp [offsOf]]
   exact hle (1+i) 0 (by show 1+i<givMany b+1;unfold givMany;omega) z0
  have fit2:∀ i (h:i<(errsOf b T number).length) (h':i<(errsOf b T1 number).length),((errsOf b T1 number)[i]).1≤((errsOf b T number)[i]).1∧((errsOf b T number)[i]).2≤((errsOf b T1 number)[i]).2:=fun i h h'=>by
   rw [errsOf_len'] at h
   rw [show (errsOf b T number)[i]=ent T 0 (errAt b number i) by simp [errsOf],show (errsOf b T1 number)[i]=ent T1 0 (errAt b number i) by simp [errsOf]]
   exact hle 0 (errAt b number i) z0 (errAt_lt (by omega) (by omega))
  by_cases h3:vl'=3
  ·have i3:decide (vl'=3)=true:=decide_eq_true h3
   simp (config:={ maxSteps:=3000000 }) (disch:=first|omega|(with_unfolding_all exact rfl)|(simp only[new_n,put_n,new_m];omega)|(refine put_m_le ?_;simp only[new_m];omega)) only [K5r21,u21s44,u21s43,u21s42,u21s41,u21s40,u21s39,u21s38,u21s35,u21s34,u21s33,u21s32,u21s31,u21s28,u21s27,u21s26,u21s25,u21s24,u21s21,u21s20,u21s17,u21s16,u21s13,u21s12,u21s9,u21s8,u21s5,u21s4,Abs.W,reduceIte,Nat.reduceEqDiff,Nat.reduceAdd,decide_true,decide_false,kLoop_def,Nat.reduceSub,List.cons_append,List.nil_append,List.append_nil,List.length_cons,List.length_nil,Env.find_set,d0,d09,i3,lA,lB,lC,lD,kA,kB,kC,kD,Bool.not_true]
   simp (disch:=first|omega|(with_unfolding_all exact rfl)|(simp only[new_n,put_n,new_m];omega)|(refine put_m_le ?_;simp only[new_m];omega)) only [K5r23,Abs.W,reduceIte,Nat.reduceEqDiff,Nat.reduceAdd,decide_true,decide_false,kLoop_def,Nat.reduceSub,List.cons_append,List.nil_append,List.append_nil,List.length_cons,List.length_nil,Env.find_set]
   generalize hl1:loopN _ rounds _ _ _ _ _=rl1
   obtain ⟨L1,rfl,gL1⟩:=in_loop1 n (by omega) _ hl1 pA pB (by rw [lo,lo]) (by rw [lo];omega) (by omega) fit1 (by simp only [Env.find_set,reduceIte,Nat.reduceEqDiff]) (by simp only [Env.find_set,reduceIte,Nat.reduceEqDiff]) (by simp only [Env.find_set,reduceIte,Nat.reduceEqDiff];rfl)
   have p19:=(gL1 19 (by omega) (by omega)).trans (show _=vx by simp only [Env.find_set,reduceIte,Nat.reduceEqDiff])
   have p21:=(gL1 21 (by omega) (by omega)).trans (show _=vy by simp only [Env.find_set,reduceIte,Nat.reduceEqDiff])
   clear gL1
   simp (disch:=first|omega|(with_unfolding_all exact rfl)|(simp only[new_n,put_n,new_m];omega)|(refine put_m_le ?_;simp only[new_m];omega)) only [K5r28,Abs.W,reduceIte,Nat.reduceEqDiff,Nat.reduceAdd,decide_true,decide_false,kLoop_def,Nat.reduceSub,List.cons_append,List.nil_append,List.append_nil,List.length_cons,List.length_nil,Env.find_set]
   generalize hl2:loopN _ rounds _ _ _ _ _=rl2
   obtain ⟨L2,rfl,_⟩:=in_loop2 n (by omega) _ hl2 pC hy1 (by rw [errsOf_len',errsOf_len']) (by rw [errsOf_len'];omega) (by omega) fit2 (by simp only [Env.find_set,p19,reduceIte,Nat.reduceEqDiff]) (by simp only [Env.find_set,p21,reduceIte,Nat.reduceEqDiff]) (by simp only [Env.find_set,reduceIte,Nat.reduceEqDiff];rfl)
   simp (disch:=first|omega|(with_unfolding_all exact rfl)|(simp only[new_n,put_n,new_m];omega)|(refine put_m_le ?_;simp only[new_m];omega)) only [K5r33,res5,Abs.W,reduceIte,Nat.reduceEqDiff,Nat.reduceAdd,decide_true,decide_false,kLoop_def,Nat.reduceSub,List.cons_append,List.nil_append,List.append_nil,List.length_cons,List.length_nil,Env.find_set,knA]
   exact ⟨_,rfl⟩
  ·have i3:decide (vl'=3)=false:=decide_eq_false h3
   have i4:decide (vk=vl')=true:=decide_eq_true (hnar.resolve_left h3)
   simp (config:={ maxSteps:=3000000 }) (disch:=first|omega|(with_unfolding_all exact rfl)|(simp only[new_n,put_n,new_m];omega)|(refine put_m_le ?_;simp only[new_m];omega)) only [K5r21,u21s44,u21s43,u21s42,u21s41,u21s40,u21s39,u21s38,u21s35,u21s34,u21s33,u21s32,u21s31,u21s28,u21s27,u21s26,u21s25,u21s24,u21s21,u21s20,u21s17,u21s16,u21s13,u21s12,u21s9,u21s8,u21s5,u21s4,Abs.W,reduceIte,Nat.reduceEqDiff,Nat.reduceAdd,decide_true,decide_false,kLoop_def,Nat.reduceSub,List.cons_append,List.nil_append,List.append_nil,List.length_cons,List.length_nil,Env.find_set,d0,d09,i3,i4,lA,lB,lC,lD,kA,kB,kC,kD,Bool.not_true,Bool.not_false]
   simp (disch:=first|omega|(with_unfolding_all exact rfl)|(simp only[new_n,put_n,new_m];omega)|(refine put_m_le ?_;simp only[new_m];omega)) only [K5r23,Abs.W,reduceIte,Nat.reduceEqDiff,Nat.reduceAdd,decide_true,decide_false,kLoop_def,Nat.reduceSub,List.cons_append,List.nil_append,List.append_nil,List.length_cons,List.length_nil,Env.find_set]
   generalize hl1:loopN _ rounds _ _ _ _ _=rl1
   obtain ⟨L1,rfl,gL1⟩:=in_loop1 n (by omega) _ hl1 pA pB (by rw [lo,lo]) (by rw [lo];omega) (by omega) fit1 (by simp only [Env.find_set,reduceIte,Nat.reduceEqDiff]) (by simp only [Env.find_set,reduceIte,Nat.reduceEqDiff]) (by simp only [Env.find_set,reduceIte,Nat.reduceEqDiff];rfl)
   have p19:=(gL1 19 (by omega) (by omega)).trans (show _=vx by simp only [Env.find_set,reduceIte,Nat.reduceEqDiff])
   have p21:=(gL1 21 (by omega) (by omega)).trans (show _=vy by simp only [Env.find_set,reduceIte,Nat.reduceEqDiff])
   clear gL1
   simp (disch:=first|omega|(with_unfolding_all exact rfl)|(simp only[new_n,put_n,new_m];omega)|(refine put_m_le ?_;simp only[new_m];omega)) only [K5r28,Abs.W,reduceIte,Nat.reduceEqDiff,Nat.reduceAdd,decide_true,decide_false,kLoop_def,Nat.reduceSub,List.cons_append,List.nil_append,List.append_nil,List.length_cons,List.length_nil,Env.find_set]
   generalize hl2:loopN _ rounds _ _ _ _ _=rl2
   obtain ⟨L2,rfl,_⟩:=in_loop2 n (by omega) _ hl2 pC hy1 (by rw [errsOf_len',errsOf_len']) (by rw [errsOf_len'];omega) (by omega) fit2 (by simp only [Env.find_set,p19,reduceIte,Nat.reduceEqDiff]) (by simp only [Env.find_set,p21,reduceIte,Nat.reduceEqDiff]) (by simp only [Env.find_set,reduceIte,Nat.reduceEqDiff];rfl)
   simp (disch:=first|omega|(with_unfolding_all exact rfl)|(simp only[new_n,put_n,new_m];omega)|(refine put_m_le ?_;simp only[new_m];omega)) only [K5r33,res5,Abs.W,reduceIte,Nat.reduceEqDiff,Nat.reduceAdd,decide_true,decide_false,kLoop_def,Nat.reduceSub,List.cons_append,List.nil_append,List.append_nil,List.length_cons,List.length_nil,Env.find_set,knA]
   exact ⟨_,rfl⟩
end Go.Proofs.Ytfekafjfidohdaa.walk
namespace Go.Proofs.Ytfekafjfidohdaa.mdie
open Go.RowKit
def Die (b:Nat) (w:World):Prop:=∃ s,w.heap[b]? = some (.cells #[.int .u64 s] 63 (0,0))
theorem Die.old {b:Nat} {w:World} (h:Die b w):(∃ s,w.cell? ⟨b,0,none⟩=some (.int .u64 s))∧w.frozen? ⟨b,0,none⟩=false:=by
 obtain ⟨s,hs⟩:=h
 refine ⟨⟨s,?_⟩,?_⟩
 ·unfold World.cell?;simp [hs]
 ·unfold World.frozen?;simp [hs]
structure Stir (b:Nat) (w w':World):Prop where
 below:Below b w w'
 rest:∀ p:Addr,p.block≠b→p.block<w.heap.size→w'.cell? p=w.cell? p∧w'.frozen? p=w.frozen? p
 die:Die b w'
def Gives (b:Nat) (k:IntKind) (Q:Int→Prop) (w:World) (e:Ending) (w':World):Prop:=∃ r,Q r∧e=.returned (.int k r)∧Stir b w w'
theorem bits_nonneg (op:BinOp) (x y:Int):0≤bits op .u64 x y:=by
 have:=bounds_u64 (wf_bits (k:=.u64) (op:=op) (x:=x) (y:=y))
 exact this.1
theorem Stir.set {b:Nat} {w:World} (h:Die b w) (s:Int):Stir b w (w.setCell ⟨b,0,none⟩ (.int .u64 s)):=by
 obtain ⟨t,ht⟩:=h
 refine ⟨(Below.refl b w).setCell (p:=⟨b,0,none⟩) (Nat.le_refl b) _,fun p hp _=>⟨World.cell?_of_block (Below.heap_setCell _ _ _ _ hp),World.frozen?_of_block (Below.heap_setCell _ _ _ _ hp)⟩,⟨s,?_⟩⟩
 unfold World.setCell
 simp [Array.getElem?_modify,ht]
theorem roll (b:Nat) (w:World) (h:Die b w):Calls Try.prog 19 #[.pointer (some ⟨b,0,none⟩)] w (Gives b .u64 (fun r=>0≤r) w):=by
 have h':=Lib.hid h
 obtain ⟨⟨s,hs⟩,hf⟩:=h.old
 clear h
 go_enter Try.func19,Try.ntmps19
 go_wp2
 go_ret
 exact ⟨_,bits_nonneg _ _ _,rfl,Stir.set h'.out _⟩
theorem Stir.refl {b:Nat} {w:World} (h:Die b w):Stir b w w:=⟨Below.refl _ _,fun _ _ _=>⟨rfl,rfl⟩,h⟩
theorem Stir.trans {b:Nat} {u v w:World} (h:Stir b u v) (k:Stir b v w):Stir b u w :=
 ⟨h.below.trans k.below,fun p hp hb=>⟨(k.rest p hp (Nat.lt_of_lt_of_le hb h.below.size)).1.trans (h.rest p hp hb).1,(k.rest p hp (Nat.lt_of_lt_of_le hb h.below.size)).2.trans (h.rest p hp hb).2⟩,k.die⟩
theorem Die.lt {b:Nat} {w:World} (h:Die b w):b<w.heap.size:=by obtain ⟨⟨s,hs⟩,_⟩:=h.old;exact World.block_lt_of_cell? w _ hs
theorem Stir.drew {b:Nat} {w w':World} (h:Stir b w w'):Stir b w w'.drew:=h.trans ⟨⟨rfl,rfl,rfl,Nat.le_refl _,fun _ _=>rfl⟩,fun _ _ _=>⟨rfl,rfl⟩,h.die⟩
def Born (w:World) (e:Ending) (w':World):Prop:=e=.returned (.pointer (some ⟨w.heap.size,0,none⟩))∧Below w.heap.size w w'∧Die w.heap.size w'∧w.heap.size<w'.heap.size
theorem Die.born (w:World) (s:Int):Die w.heap.size (w.alloc (.cells #[.int .u64 s] 63)):=⟨s,by show (w.heap.push _)[w.heap.size]? = _;rw [Array.getElem?_push,if_pos rfl]⟩
set_option maxRecDepth 100000 in
theorem born (x:Option Addr) (n c:Nat) (w:World) (hn:n≤maxLen) (hc:∀ i,i<n→∃ b o,x=some ⟨b,o,none⟩∧∃ v,w.cell? ⟨b,o+i,none⟩=some (.int .i64 v)) :
  Calls Try.prog 6 #[.slice x n c] w (Born w):=by
 unfold maxLen at hn
 have HC:=Lib.hid hc
 clear hc
 have hdie:=Lib.hid (Die.born w 2611923443488327891)
 go_enter Try.func6,Try.ntmps6
 go_wp2
 go_loopw [4] (fun i wr=>∃ k:Nat,k≤n∧i=.int .i64 k∧Stir w.heap.size (w.alloc (.cells #[.int .u64 2611923443488327891] 63)) wr) (fun i _=>n - (intOf i).toNat)
 case atStart=>exact ⟨0,Nat.zero_le _,rfl,Stir.refl hdie.out⟩
 case round =>
  obtain ⟨k,hk,rfl,hs⟩:=hrel
  by_cases hlt:k<n
  ·obtain ⟨b,o,rfl,v,hv⟩:=HC.out k hlt
   have hb:=World.block_lt_of_cell? _ _ hv
   simp only at hb
   have hv1:wr.cell? ⟨b,o+k,none⟩=some (.int .i64 v):=((hs.rest ⟨b,o+k,none⟩ (Nat.ne_of_lt hb) (by simp;omega)).1.trans (World.cell?_of_block (Below.heap_alloc _ _ _ hb))).trans hv
   clear hv
   obtain ⟨⟨s,hd⟩,hf⟩:=hs.die.old
   have hst:=Lib.hid (fun s1:Int=>(hs.drew).trans (Stir.set hs.drew.die s1))
   have hlt':(k:Int)<(n:Int):=by omega
   have hk0:(0:Int)≤(k:Int):=by omega
   go_wp2
   go_still_tail 12,(by kernel_rfl)
   change wpList _ _ _ _ _ wr.drew
   go_wp2_with (go_at_call 19;refine (roll _ _ ?_).mono ?_;exact (hst.out _).die;rintro e w1 ⟨r,hr,rfl,hs1⟩;(have hs2:=(hst.out _).trans hs1))
   go_roundw
   case rel=>exact ⟨k+1,by omega,by go_num,hs2⟩
   case measure=>simp [intOf];omega
  ·go_wp2
   go_ret
   exact ⟨rfl,((Below.refl w.heap.size w).alloc (Nat.le_refl _) _).trans hs.below,hs.die,by have:=hs.below.size;simp at this;omega⟩
end Go.Proofs.Ytfekafjfidohdaa.mdie
namespace Go.Abs
open Go.RowKit
variable {P:Program}
theorem mid_calls {cl:CallF} (hc:CallSound P cl) {f:FuncId} {fn:Func} (hf:P.funcs[f]? = some fn) {c0 c1 rest:Code} (hb:fn.body=some (.seq c0 (.seq c1 rest))) {X:FuncId→List Nat} {k:K} {A:Array Value} {W:World} {R:Ending→World→Prop}
  (h:c0.wp P (Exit.then (fun a w=>c1.wp P (Exit.then (fun a w=>∃ ρ L s v s',ActRel ρ fn.ntmps L [] a∧Clean (X f) L∧SRel ρ s w∧finA P fn (k cl ⟨f,none,fn.ntmps,X f⟩ L [] s)=.val v s'∧∀ ρ' V W',After ρ s w ρ' s' W'→VRel ρ' v V→R (.returned V) W') fun _ _ _=>False) a w) fun _ _ _=>False)
   { tmps:=A++Array.replicate (fn.ntmps - A.size) undef,defers:=[] } W)
  (hk:codeK P (X f) fn.ntmps rest=some k):Calls P f A W R:=by
 intro cs
 obtain ⟨b,hbd⟩:∃ b:Frame,b={ (default:Frame) with fn:=f,kind:=.normal }:=⟨_,rfl⟩
 have hr:b.roundOf=none:=by rw [hbd];rfl
 have henter:Frame.enter P f A .normal=b.at { tmps:=A++Array.replicate (fn.ntmps - A.size) undef,defers:=[] } [.code (.seq c0 (.seq c1 rest))]:=by
  rw [hbd];simp [Frame.enter,Frame.at,hf,hb]
 obtain ⟨e0,a0,w0,q0,ar0⟩:=h b [.code (.seq c1 rest)] cs
 cases e0<;>simp only [Exit.then] at q0
 obtain ⟨e1,a1,w1,q1,ar1⟩:=q0 b [.code rest] cs
 cases e1<;>simp only [Exit.then] at q1
 obtain ⟨ρ,L,s,v,s',hact,hclean,hs,hfin,hR⟩:=q1
 have st1:Steps P (lone (Frame.enter P f A .normal) cs W) (lone (b.atR a1 [.code rest]) cs w1):=by
  rw [henter,Frame.atR_of_none hr]
  exact (Steps.head step_seq ar0).trans (Steps.head step_seq ar1)
 have hctx:CtxRel ρ ⟨f,none,fn.ntmps,X f⟩ b:=⟨by rw [hbd],by rw [hbd],fun _=>hr,fun l e=>by cases e⟩
 generalize hr2:k cl ⟨f,none,fn.ntmps,X f⟩ L [] s=r at hfin
 cases r with
 | fail=>cases hfin
 | done e L1 d s₁ =>
  obtain ⟨ρ₁,a₁,W₁,af,ha₁,_,_,st⟩:=codeK_sound rest hk hc rfl rfl hctx hact hclean hs hr2
  have fin:∀ (hle:leaveA P fn.results.toList L1 d s₁=.val v s') (hst:∃ t,Steps P (lone (Frame.enter P f A .normal) cs W) (lone (back b a₁ t) cs W₁)),
    ∃ V w' fr,R (.returned V) w'∧Steps P (lone (Frame.enter P f A .normal) cs W) (lone fr cs w')∧fr.fn=f∧fr.leaving P w' (.returned V):=by
   intro hle hst
   obtain ⟨V,W₂,af₂,hv,st₂⟩:=leaveA_calls ha₁ af.rel hle
   obtain ⟨t,st₁⟩:=hst
   obtain ⟨fr,h1,h2,h3⟩:=st₂ b (by rw [hbd]) (by rw [hbd];exact hf) t cs
   exact ⟨V,W₂,fr,hR _ _ _ (af.trans af₂) hv,Steps.trans st₁ h1,by rw [h2,hbd],h3⟩
  cases e with
  | exit id=>cases hfin
  | norm =>
   have z:=st [] cs
   obtain ⟨V,w',fr,h1,h2,h3,h4⟩:=fin hfin ⟨[],st1.trans (Steps.trans z (.one (stepR_end hr)))⟩
   exact ⟨.returned V,w',fr,h1,h2,h3,h4⟩
  | ret =>
   obtain ⟨k0,z⟩:=st [] cs
   obtain ⟨V,w',fr,h1,h2,h3,h4⟩:=fin hfin ⟨.code .ret::k0,st1.trans (z.trans (.one (stepR_ret hr)))⟩
   exact ⟨.returned V,w',fr,h1,h2,h3,h4⟩
end Go.Abs
set_option maxRecDepth 10000
namespace Go.Proofs.Ytfekafjfidohdaa.walk
open Go.Abs Go.RowKit Go.Proofs.Ytfekafjfidohdaa.code
noncomputable def die0 (F:Int):St:=St.new ⟨.nil,0,far⟩ (.cells [.int .u64 F] (tag 63))
def rho0 (d:Nat):Rho:=fun b=>if b=0 then some (d,(0,0)) else none
theorem die0_get {F:Int} {b:Nat} {o:AObj} (h:(die0 F).h.get b=some o):b=0∧o=.cells [.int .u64 F] (tag 63):=by
 by_cases e:b=0
 ·subst e
  have:(die0 F).h.get 0=some (.cells [.int .u64 F] (tag 63)):=get_new_eq _ _ _ rfl (by decide)
  rw [this] at h
  exact ⟨rfl,(Option.some.inj h).symm⟩
 ·unfold die0 at h
  rw [get_new_ne _ _ _ e] at h
  cases h
theorem die0_has {F:Int} {b x:Nat} {o:AObj} (h:Has (die0 F).h b x o):b=0∧x=0∧o=.cells [.int .u64 F] (tag 63):=by
 obtain ⟨y,hy,hp⟩:=h
 obtain ⟨rfl,rfl⟩:=die0_get hy
 have hl:AObj.lone (.cells [.int .u64 F] (tag 63)):=trivial
 rw [parts_lone hl] at hp
 have:=List.mem_singleton.mp hp
 cases this
 exact ⟨rfl,rfl,rfl⟩
theorem die0_rel {F:Int} {d:Nat} {W:World} (h:W.heap[d]? = some (.cells #[.int .u64 F] 63 (0,0))):SRel (rho0 d) (die0 F) W:=by
 refine ⟨⟨fun b o hb=>?_,fun b x o hb=>?_,fun b b' x x' o o' c e e' hb hb' _ _=>?_,fun g cs hg=>(by cases hg),fun b x o c e hb hr=>rfl,fun b x x' o o' c e e' hb hb' hr hr'=>?_⟩,fun b hb=>?_⟩
 ·rw [(die0_get hb).1];decide
 ·obtain ⟨rfl,rfl,rfl⟩:=die0_has hb
  exact ⟨d,(0,0),_,if_pos rfl,h,.cells rfl (.cons (.int _ _) .nil) (Typed.tag _)⟩
 ·rw [(die0_has hb).1,(die0_has hb').1]
 ·obtain ⟨_,rfl,_⟩:=die0_has hb
  obtain ⟨_,rfl,_⟩:=die0_has hb'
  rw [hr] at hr'
  cases hr'
  rfl
 ·have:1≤b:=hb
  exact if_neg (by omega)
end Go.Proofs.Ytfekafjfidohdaa.walk
set_option maxRecDepth 10000
namespace Go.Proofs.Ytfekafjfidohdaa.walk
open Go.Abs Go.RowKit Go.Proofs.Ytfekafjfidohdaa.code
set_option maxRecDepth 100000 in
theorem scm_calls (a:Option Addr) (n c:Nat) (w:World) (hn:n≤maxLen) (hc:∀ i,i<n→∃ b o,a=some ⟨b,o,none⟩∧∃ v,w.cell? ⟨b,o+i,none⟩=some (.int .i64 v)) :
  Calls Try.prog 5 #[.slice a n c] w fun e w'=>e=.returned (.bool true)∧Below w.heap.size w w':=by
 have HC:=Lib.hid hc
 clear hc
 refine mid_calls (cl:=knows 13 (call Try.prog X 20)) (knows_sound (call_sound 200) Try.func13 awake.entered (call_sound 20)) Try.func5 rfl (X:=X) (k:=scmRest) ?_ (by kernel_rfl)
 simp only [Try.ntmps5,List.size_toArray,List.length_cons,List.length_nil,Nat.reduceAdd,Nat.reduceSub,Array.replicate_succ,Array.replicate_zero,List.push_toArray,List.append_toArray,List.nil_append,List.cons_append]
 go_wp2_with (go_at_call 6;((with_reducible refine (mdie.born _ _ _ _ hn HC.out).mono ?_);rintro e w1 ⟨rfl,hB1,⟨F,hF⟩,hg1⟩))
 have hd0:walk.Die 0 (die0 F).h:=⟨F,get_new_eq _ _ _ rfl (by decide)⟩
 obtain ⟨s',hs'⟩:=scm_body 20 (by omega) ⟨5,none,Try.f5.ntmps,X 5⟩ (die0 F) 0 hd0 (by show 0<1;omega) (by show 1+9000000≤1000000000;omega) rfl
 refine ⟨rho0 w.heap.size,.cons 3 (.ptr 0 0) .nil,die0 F,.bool true,s',⟨fun t=>?_,rfl,.nil⟩,fun t ht=>?_,die0_rel hF,hs',fun ρ' V W' af hv=>?_⟩
 ·by_cases e:t=3
  ·subst e
   exact .ptr (e:=(0,0)) (if_pos rfl)
  ·rw [show (Env.cons 3 (.ptr 0 0) .nil).find t=AV.bad by rw [find_cons,if_neg (by omega)];rfl]
   exact .bad _
 ·by_cases e:t=3
  ·subst e
   have hx:(X 5).contains 3=true:=by kernel_rfl
   rw [hx] at ht
   cases ht
  ·rw [find_cons,if_neg (by omega)];rfl
 ·cases hv
  refine ⟨rfl,hB1.trans ⟨af.os,af.tape,af.output,af.size,fun k hk=>af.frame k (by omega) fun b x o e hb hr=>?_⟩⟩
  obtain ⟨_,rfl,_⟩:=die0_has hb
  have hr:some (w.heap.size,(0,0))=some (k,e):=hr
  injection hr with hr
  injection hr with hr _
  omega
end Go.Proofs.Ytfekafjfidohdaa.walk
