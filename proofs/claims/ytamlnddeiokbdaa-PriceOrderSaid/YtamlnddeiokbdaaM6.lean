/- The law PriceOrder: its body behind its die. -/
import Derived.Test.YtamlnddeiokbdaaM5
import Derived.Test.YtamlnddeiokbdaaM4
import Derived.Test.YtamlnddeiokbdaaProg
import Derived.Tactics
import Derived.Tactics2
import Derived.WalkKit
import Derived.OpenShut
import Derived.Below
import Derived.Lib.Hide
import Derived.KernelRfl
import Derived.Deep.RegionHeld3
import Derived.OwnWalk
import Derived.StillTailTactics
import Derived.Test.YtamlnddeiokbdaaAbsTop
import Derived.Test.YtamlnddeiokbdaaAbsWalk
import Derived.Test.YtamlnddeiokbdaaAwake
import Derived.Test.YtamlnddeiokbdaaWalkAll
set_option linter.unusedSimpArgs false
set_option maxHeartbeats 16000000
set_option linter.unusedVariables false
set_option maxRecDepth 10000
namespace Go.Proofs.Ytamlnddeiokbdaa.walk
open Go.Abs Go.Proofs.Ytamlnddeiokbdaa.code
theorem rows_slice {h:Heap} {n b k w sz:Nat} {e:Bool} {rows:List (List AV)} (wide:∀ r ∈ rows,r.length=w) (hl:rows.length=k) (hb:b<n) (hg:h.get b=some (.cells rows.flatten sz)):RowsAt h n w rows (.slice b 0 k k e):=by
 subst hl
 exact Seq.at_ ⟨wide,.inr ⟨b,0,_,e,_,sz,hb,rfl,hg,by rw [cut_zero,← flatten_len wide,cut1_all]⟩⟩
def duePairs (l:List Step) (sales:List Sale) (k:Nat):List (Int × Int):=(List.range k).map fun (st:Nat)=>(dueI l (turnOf false sales st),dueI l (turnOf true sales st))
theorem duePairs_rows (l:List Step) (sales:List Sale) (k:Nat):pairRow (duePairs l sales k)=dueRows l sales k:=by
 unfold pairRow duePairs dueRows
 rw [List.map_map]
 rfl
theorem dueRows_perm (st:List Step) {l r:List Sale} (h:List.Perm l r) (k:Nat):dueRows st l k=dueRows st r k:=by
 unfold dueRows dueRow
 apply List.map_congr_left
 intro i _
 rw [turn_perm false i h,turn_perm true i h]
theorem take_snoc_map {l:List Sale} {f:List Nat} {i:Nat} (h:i<f.length):(f.take (i+1)).map (saleAt l)=(f.take i).map (saleAt l)++[saleAt l (f.getD i 0)]:=by
 rw [List.take_succ_eq_append_getElem h,List.map_append]
 simp [List.getD,h]
noncomputable def ordRest:K:=(kSeq (kRegion K5r2 [4]) (kSeq (kRegion K5r3 [5]) (kSeq (kRegion K5r4 [6]) (kSeq (kRegion K5r5 [7]) (kSeq (kSeq (kRegion K5r6 [8]) (kBlock 0 (kLoop K5l0))) (kSeq (kRegion K5r10 [9,10]) (kSeq (kRegion K5r11 [11,12]) (kSeq (kSeq (kRegion K5r12 [83]) (kCond (.tmp 83) (kSeq (kRegion K5r13 [2]) kRet) kSkip)) (kSeq (kSeq (kRegion K5r14 [13]) (kBlock 2 (kLoop K5l1))) (kSeq (kSeq (kRegion K5r21 [20]) (kBlock 4 (kLoop K5l2))) (kSeq (kRegion K5r28 [2]) kRet)))))))))))
theorem ord_body (n:Nat) (hn:17≤n) (cx:Ctx) (s:St) (d:Nat) (hd:Die d s.h) (hdn:d<s.n) (hs:s.n+9000000≤far) (hm:s.m=far) :
  ∃ s',finA Try.prog Try.f5 (ordRest (knows 20 (call Try.prog X n)) cx (.cons 3 (.ptr d 0) .nil) [] s)=.val (.bool true) s':=by
 have hf:far=1000000000:=rfl
 have knB:∀ args s,knows 20 (call Try.prog X n) (.fn 10) args s=call Try.prog X n (.fn 10) args s:=fun _ _=>rfl
 have knS:∀ args s,knows 20 (call Try.prog X n) (.fn 11) args s=call Try.prog X n (.fn 11) args s:=fun _ _=>rfl
 have knH:∀ args s,knows 20 (call Try.prog X n) (.fn 24) args s=call Try.prog X n (.fn 24) args s:=fun _ _=>rfl
 have knD:∀ args s,knows 20 (call Try.prog X n) (.fn 12) args s=call Try.prog X n (.fn 12) args s:=fun _ _=>rfl
 have knE:∀ args s,knows 20 (call Try.prog X n) (.fn 25) args s=call Try.prog X n (.fn 25) args s:=fun _ _=>rfl
 have knA:∀ s,knows 20 (call Try.prog X n) (.fn 20) [] s=.val (.bool true) s:=fun _=>rfl
 unfold ordRest
 simp (disch:=first|omega|(with_unfolding_all exact rfl)|(simp only[new_n,put_n,new_m];omega)|(refine put_m_le ?_;simp only[new_m];omega)) only [K5r2,Abs.W,reduceIte,Nat.reduceEqDiff,Nat.reduceAdd,decide_true,decide_false,kLoop_def,Nat.reduceSub,List.cons_append,List.nil_append,List.append_nil,List.length_cons,List.length_nil,Env.find_set,knB]
 generalize hc1:call _ _ _ (.fn 10) _ _=r1
 obtain ⟨b,vb,bl1,t1,rfl,st1,d1,⟨ok1,ak,ag⟩,len1,hbl1,hI1⟩:=BookOf_ex3 (k:=3) (g:=3) (n:=12) hc1 (by omega) hd hdn (by omega) (by omega) (by omega) (by omega)
 have n1:=st1.n
 have k1:=st1.le
 have sc1:scalars (bookV b vb)=true:=by show scalars [vb]=true;exact hI1.scal.1
 have kvb:∀ t,okA (.val vb t)=.val vb t:=hI1.okA
 have lvb:∀ s,lenSlA s vb=.val (.int .i64 (b.sales.length:Int)) s:=fun s=>by have:=hI1.rows.at_.len s;rw [List.length_map] at this;exact this
 unfold bookV at sc1
 simp (disch:=first|omega|(with_unfolding_all exact rfl)|(simp only[new_n,put_n,new_m];omega)|(refine put_m_le ?_;simp only[new_m];omega)) only [Abs.W,reduceIte,Nat.reduceEqDiff,Nat.reduceAdd,decide_true,decide_false,kLoop_def,Nat.reduceSub,List.cons_append,List.nil_append,List.append_nil,List.length_cons,List.length_nil,Env.find_set,sc1,Nat.zero_add]
 obtain ⟨y,hy⟩:∃ y:St,y=(t1.new (.cells [.int .i64 0,.int .i64 0,.nilslice] (tag 27))).put t1.n (.cells (bookV b vb) (tag 27)):=⟨_,rfl⟩
 have yn:y.n=t1.n+1:=by rw [hy];rfl
 have yg:∀ c,c<t1.n→y.h.get c=t1.h.get c:=fun c hc=>by rw [hy,get_put_ne' _ _ _ _ (by omega),get_new_ne _ _ _ (by omega)]
 have y4:y.h.get t1.n=some (.cells (bookV b vb) (tag 27)):=by rw [hy];exact get_put_eq _ _ _ _ rfl (by omega)
 unfold bookV at hy y4
 rw [← hy]
 clear hy
 have dy:Die d y.h:=Die.keep d1 (yg d (by omega))
 simp (disch:=first|omega|(with_unfolding_all exact rfl)|(simp only[new_n,put_n,new_m];omega)|(refine put_m_le ?_;simp only[new_m];omega)) only [K5r3,Abs.W,reduceIte,Nat.reduceEqDiff,Nat.reduceAdd,decide_true,decide_false,kLoop_def,Nat.reduceSub,List.cons_append,List.nil_append,List.append_nil,List.length_cons,List.length_nil,Env.find_set,knS,Nat.zero_add]
 generalize hc2:call _ _ _ (.fn 11) _ _=r2
 obtain ⟨l,sb,t2,rfl,st2,d2,oks,hl,sb0,sb1,hsb⟩:=StepsOf_ex hc2 (by omega) dy (by omega) (by omega)
 have n2:=st2.n
 have k2:=st2.le
 have g2:∀ c,c<y.n→c≠d→t2.h.get c=y.h.get c:=fun c hc hcd=>st2.same c hc hcd
 have a4:=(g2 t1.n (by omega) (by omega)).trans y4
 simp (disch:=first|omega|(with_unfolding_all exact rfl)|(simp only[new_n,put_n,new_m];omega)|(refine put_m_le ?_;simp only[new_m];omega)) only [K5r4,Abs.W,reduceIte,Nat.reduceEqDiff,Nat.reduceAdd,decide_true,decide_false,kLoop_def,Nat.reduceSub,List.cons_append,List.nil_append,List.append_nil,List.length_cons,List.length_nil,Env.find_set,a4,kvb,lvb,knH,Nat.zero_add]
 generalize hc3:call _ _ _ (.fn 24) _ _=r3
 obtain ⟨vf,f,t3,rfl,st3,d3,hfl,hpf,hvf⟩:=Shuffle_ex (m:=b.sales.length) hc3 (by omega) d2 (by omega) (by omega) (by omega)
 have n3:=st3.n
 have k3:=st3.le
 have g3:∀ c,c<y.n→c≠d→t3.h.get c=y.h.get c:=fun c hc hcd=>(st3.same c (by omega) hcd).trans (g2 c hc hcd)
 have kvf:=hvf.okA
 have hvl:=hvf.lt
 have b4:=(g3 t1.n (by omega) (by omega)).trans y4
 simp (disch:=first|omega|(with_unfolding_all exact rfl)|(simp only[new_n,put_n,new_m];omega)|(refine put_m_le ?_;simp only[new_m];omega)) only [K5r5,Abs.W,reduceIte,Nat.reduceEqDiff,Nat.reduceAdd,decide_true,decide_false,kLoop_def,Nat.reduceSub,List.cons_append,List.nil_append,List.append_nil,List.length_cons,List.length_nil,Env.find_set,b4,kvf,Nat.zero_add]
 obtain ⟨w,hw⟩:∃ w:St,w=(t3.new (.cells [.int .i64 0,.int .i64 0,.nilslice] (tag 27))).put t3.n (.cells [.int .i64 b.stalls,.int .i64 b.goods,.nilslice] (tag 27)):=⟨_,rfl⟩
 have wn:w.n=t3.n+1:=by rw [hw];rfl
 have wg:∀ c,c<t3.n→w.h.get c=t3.h.get c:=fun c hc=>by rw [hw,get_put_ne' _ _ _ _ (by omega),get_new_ne _ _ _ (by omega)]
 have w7:w.h.get t3.n=some (.cells [.int .i64 b.stalls,.int .i64 b.goods,.nilslice] (tag 27)):=by rw [hw];exact get_put_eq _ _ _ _ rfl (by omega)
 rw [← hw]
 clear hw
 have wy:∀ c,c<y.n→c≠d→w.h.get c=y.h.get c:=fun c hc hcd=>(wg c (by omega)).trans (g3 c hc hcd)
 have w4:=(wy t1.n (by omega) (by omega)).trans y4
 have wsb:=(wg sb (by omega)).trans ((st3.same sb sb1 (by omega)).trans hsb)
 have Iw:IsAt w.h y.n bl1 6 (tag 51) (b.sales.map Sale.cells) vb:=(hI1.mono (h':=y.h) (n':=y.n) (fun h=>yg bl1 h) (by omega)).mono (fun h=>wy bl1 h (by omega)) (Nat.le_refl _)
 have Bw:Blk w.h w.n t2.n 1 (tag 3) (natRows f) vf:=hvf.mono (wg t2.n (by omega)) (by omega)
 simp (disch:=first|omega|(with_unfolding_all exact rfl)|(simp only[new_n,put_n,new_m];omega)|(refine put_m_le ?_;simp only[new_m];omega)) only [K5r6,Abs.W,reduceIte,Nat.reduceEqDiff,Nat.reduceAdd,decide_true,decide_false,kLoop_def,Nat.reduceSub,List.cons_append,List.nil_append,List.append_nil,List.length_cons,List.length_nil,Env.find_set]
 generalize hlp:loopN _ rounds _ _ _ _ _=q0
 obtain ⟨e,L1,t4,rfl,rfl,hL,vo,blo,J⟩:=loop_of hlp (fun i L' t'=>L'.find 8=.int .i64 i∧(L'.find 4=.ptr t1.n 0∧L'.find 5=.slice sb 0 l.length l.length true∧L'.find 6=vf∧L'.find 7=.ptr t3.n 0)∧∃ v bl,OthJ w t' t3.n b.stalls b.goods ((f.take i).map (saleAt b.sales)) v bl (3 * i))
  (fun e L' t'=>e=.exit 0∧(L'.find 4=.ptr t1.n 0∧L'.find 5=.slice sb 0 l.length l.length true∧L'.find 6=vf∧L'.find 7=.ptr t3.n 0)∧∃ v bl,OthJ w t' t3.n b.stalls b.goods (f.map (saleAt b.sales)) v bl (3 * f.length)) f.length (by unfold rounds;omega)
  ⟨by simp only [find_cons,Env.find_set,reduceIte,Nat.reduceEqDiff];rfl,⟨by simp only [find_cons,Env.find_set,reduceIte,Nat.reduceEqDiff],by simp only [find_cons,Env.find_set,reduceIte,Nat.reduceEqDiff],by simp only [find_cons,Env.find_set,reduceIte,Nat.reduceEqDiff],by simp only [find_cons,Env.find_set,reduceIte,Nat.reduceEqDiff]⟩,.nilslice,w.n,w7,IsAt.nil _ _ _ _ _,Nat.le_refl _,fun _ _ _=>rfl,Nat.le_refl _,by omega⟩
  (fun i L' t' hi ⟨q8,hq,v,bl,hJ⟩=>by
   by_cases hlt:i<f.length
   ·have hlt':=hpf.lt i (by omega)
    obtain ⟨L2,t2',v2,bl2,z1,z2,z3,z4⟩:=oth_round (knows 20 (call Try.prog X n)) cx hJ (Iw.rows.at_) Bw w4 (by omega) (by omega) (by omega) (by omega) (by omega) (by rw [List.length_map,List.length_take];omega) (by omega) hlt (by omega) hlt' hq.1 hq.2.2.1 hq.2.2.2 q8
    rw [← take_snoc_map hlt] at z2
    exact .inl ⟨hlt,L2,t2',z1,z3,⟨(z4 4 (by omega)).trans hq.1,(z4 5 (by omega)).trans hq.2.1,(z4 6 (by omega)).trans hq.2.2.1,(z4 7 (by omega)).trans hq.2.2.2⟩,v2,bl2,⟨z2.g7,z2.is,z2.lo,z2.same,z2.n,by have:=z2.le;omega⟩⟩
   ·obtain rfl:i=f.length:=by omega
    have e0:decide ((f.length:Int)<(f.length:Int))=false:=by simp
    have lf:=Bw.len
    rw [natRows_len] at lf
    rw [List.take_length] at hJ
    refine .inr ⟨.exit 0,L'.set 44 (.bool false),t',by simp,?_,rfl,⟨by simp only [Env.find_set,hq.1,reduceIte,Nat.reduceEqDiff],by simp only [Env.find_set,hq.2.1,reduceIte,Nat.reduceEqDiff],by simp only [Env.find_set,hq.2.2.1,reduceIte,Nat.reduceEqDiff],by simp only [Env.find_set,hq.2.2.2,reduceIte,Nat.reduceEqDiff]⟩,v,bl,hJ⟩
    simp (disch:=first|omega|(with_unfolding_all exact rfl)|(simp only[new_n,put_n,new_m];omega)|(refine put_m_le ?_;simp only[new_m];omega)) only [K5l0,K5r7,Abs.W,reduceIte,Nat.reduceEqDiff,Nat.reduceAdd,decide_true,decide_false,kLoop_def,Nat.reduceSub,List.cons_append,List.nil_append,List.append_nil,List.length_cons,List.length_nil,Env.find_set,q8,hq.2.2.1,kvf,lf,e0])
 obtain ⟨O,hO⟩:∃ O,O=f.map (saleAt b.sales):=⟨_,rfl⟩
 have hP:List.Perm O b.sales:=by rw [hO];exact perm_sales hfl (fun j hj=>by
  obtain ⟨p,hp,e⟩:=hpf.all j hj
  have:p<f.length:=by omega
  simp only [List.getD_eq_getElem?_getD,List.getElem?_eq_getElem this,Option.getD_some] at e
  rw [← e];exact List.getElem_mem this)
 rw [← hO] at J
 clear hO
 obtain ⟨j7,ji,jlo,js,jn,jle⟩:=J
 have okO:(⟨b.stalls,b.goods,O⟩:Book).Ok:=⟨ok1.k0,ok1.k1,ok1.g0,ok1.g1,by show O.length≤40;rw [hP.length_eq];exact ok1.l,fun s hs=>ok1.ok s (hP.mem_iff.mp hs)⟩
 have kvo:∀ t,okA (.val vo t)=.val vo t:=ji.okA
 have f4:=hL.1
 have f5:=hL.2.1
 have f7:=hL.2.2.2
 have c4:=(js t1.n (by omega) (by omega)).trans w4
 have csb:=(js sb (by omega) (by omega)).trans wsb
 have Ic:IsAt t4.h t4.n bl1 6 (tag 51) (b.sales.map Sale.cells) vb:=Iw.mono (fun h=>js bl1 (by omega) (by omega)) (by omega)
 simp (disch:=first|omega|(with_unfolding_all exact rfl)|(simp only[new_n,put_n,new_m];omega)|(refine put_m_le ?_;simp only[new_m];omega)) only [K5r10,Abs.W,reduceIte,Nat.reduceEqDiff,Nat.reduceAdd,decide_true,decide_false,kLoop_def,Nat.reduceSub,List.cons_append,List.nil_append,List.append_nil,List.length_cons,List.length_nil,Env.find_set,f4,f5,f7,c4,kvb,knD,Nat.zero_add]
 generalize hc5:call _ _ _ (.fn 12) _ _=r5
 obtain ⟨bd1,t6,rfl,st6,bd10,bd11,hbd1⟩:=Dues_ex (b:=b) (v:=vb) hc5 (by omega) ok1 oks (by omega) csb (by omega) Ic.rows.at_ (by omega)
 have n6:=st6.n
 have k6:=st6.le
 have g6:=st6.same
 have q67:=(g6 t3.n (by omega)).trans j7
 simp (disch:=first|omega|(with_unfolding_all exact rfl)|(simp only[new_n,put_n,new_m];omega)|(refine put_m_le ?_;simp only[new_m];omega)) only [K5r11,Abs.W,reduceIte,Nat.reduceEqDiff,Nat.reduceAdd,decide_true,decide_false,kLoop_def,Nat.reduceSub,List.cons_append,List.nil_append,List.append_nil,List.length_cons,List.length_nil,Env.find_set,f4,f5,f7,okA_tupE,extE0,extE1,q67,kvo,knD,Nat.zero_add]
 generalize hc6:call _ _ _ (.fn 12) _ _=r6
 obtain ⟨bd2,t7,rfl,st7,bd20,bd21,hbd2⟩:=Dues_ex (b:=⟨b.stalls,b.goods,O⟩) (v:=vo) hc6 (by omega) okO oks (by omega) ((g6 sb (by omega)).trans csb) (by omega) (ji.rows.at_.grow g6 n6) (by omega)
 have n7:=st7.n
 have k7:=st7.le
 have g7:=st7.same
 have gg:∀ c,c<t4.n→t7.h.get c=t4.h.get c:=fun c hc=>(g7 c (by omega)).trans (g6 c hc)
 rw [dueRows_perm l hP] at hbd2
 have hbd2:t7.h.get bd2=some (.cells (dueRows l b.sales b.stalls).flatten 0):=hbd2
 have S1:RowsAt t7.h t7.n 2 (pairRow (duePairs l b.sales b.stalls)) (.slice bd1 0 b.stalls b.stalls false):=by
  rw [duePairs_rows]
  exact rows_slice (dueRows_wide l b.sales b.stalls) (dueRows_len l b.sales b.stalls) (by omega) ((g7 bd1 bd11).trans hbd1)
 have S2:RowsAt t7.h t7.n 2 (pairRow (duePairs l b.sales b.stalls)) (.slice bd2 0 b.stalls b.stalls false):=by
  rw [duePairs_rows]
  exact rows_slice (dueRows_wide l b.sales b.stalls) (dueRows_len l b.sales b.stalls) (by omega) hbd2
 have hk8:=ok1.k1
 have SS:=fun m=>sameSpans_ok n (by omega) (s:=⟨t7.h,t7.n,m⟩) S1 S2 (by unfold duePairs;rw [List.length_map,List.length_range];omega) (by show t7.n+1000≤far;omega)
 have SS':call Try.prog X n (.fn 25) [.slice bd1 0 b.stalls b.stalls false,.slice bd2 0 b.stalls b.stalls false] t7=.val (.bool true) t7:=SS t7.m
 have e0:decide ((0:Int)=0)=true:=rfl
 have u12s4:=fun cl L s=>congrFun (congrFun (congrFun K5r12s4.eq_1 cl) L) s
 have u12s5:=fun cl L s=>congrFun (congrFun (congrFun K5r12s5.eq_1 cl) L) s
 have u12s8:=fun cl L s=>congrFun (congrFun (congrFun K5r12s8.eq_1 cl) L) s
 have u12s9:=fun cl L s=>congrFun (congrFun (congrFun K5r12s9.eq_1 cl) L) s
 have u12s10:=fun cl L s=>congrFun (congrFun (congrFun K5r12s10.eq_1 cl) L) s
 have u12s11:=fun cl L s=>congrFun (congrFun (congrFun K5r12s11.eq_1 cl) L) s
 simp (config:={ maxSteps:=3000000 }) (disch:=first|omega|(with_unfolding_all exact rfl)|(simp only[new_n,put_n,new_m];omega)|(refine put_m_le ?_;simp only[new_m];omega)) only [K5r12,u12s4,u12s5,u12s8,u12s9,u12s10,u12s11,K5r14,Abs.W,reduceIte,Nat.reduceEqDiff,Nat.reduceAdd,decide_true,decide_false,kLoop_def,Nat.reduceSub,List.cons_append,List.nil_append,List.append_nil,List.length_cons,List.length_nil,Env.find_set,okA_tupE,extE0,extE1,e0,knE,SS',Nat.zero_add]
 generalize hl1:loopN _ rounds _ _ _ _ _=q1
 have h47:=(gg t1.n (by omega)).trans c4
 have h77:=(gg t3.n (by omega)).trans j7
 have R1:RowsAt t7.h t7.n 6 (b.sales.map Sale.cells) vb:=Ic.rows.at_.grow gg (by omega)
 have R2:RowsAt t7.h t7.n 6 (O.map Sale.cells) vo:=ji.rows.at_.grow gg (by omega)
 have hg8:=ok1.g1
 have okS:(⟨b.stalls,b.goods,b.sales⟩:Book).Ok:=ok1
 obtain ⟨e,L2,t8,rfl,rfl,f24,f27,hU2⟩:=loop_of hl1
  (fun i L' t=>L'.find 4=.ptr t1.n 0∧L'.find 7=.ptr t3.n 0∧L'.find 13=.int .i64 (i:Int)∧Past t7 t (2 * i))
  (fun e L1 s1=>e=.exit 2∧L1.find 4=.ptr t1.n 0∧L1.find 7=.ptr t3.n 0∧Past t7 s1 (2 * b.goods))
  b.goods (by unfold rounds;omega) ⟨by simp only [find_cons,Env.find_set,f4,reduceIte,Nat.reduceEqDiff],by simp only [find_cons,Env.find_set,f7,reduceIte,Nat.reduceEqDiff],by simp only [find_cons,Env.find_set,reduceIte,Nat.reduceEqDiff];rfl,Past.refl t7⟩
  (fun i L' t hi ⟨q4,q7,q13,hE⟩=>by
   by_cases hlt:i<b.goods
   ·obtain ⟨L3,t3',z1,z2,y4,y7,y13⟩:=ord_goods n (by omega) cx okS okO hP h47 h77 (by omega) (by omega) R1 R2 hE (by omega) hlt q4 q7 q13
    exact .inl ⟨hlt,L3,t3',z1,y4,y7,y13,z2.mono (by omega)⟩
   ·obtain rfl:i=b.goods:=by omega
    have e1:decide ((b.goods:Int)<(b.goods:Int))=false:=by simp
    have t4':=(hE.same t1.n (by omega)).trans h47
    refine .inr ⟨.exit 2,L'.set 87 (.bool false),t,by simp,?_,rfl,by simp only [Env.find_set,q4,reduceIte,Nat.reduceEqDiff],by simp only [Env.find_set,q7,reduceIte,Nat.reduceEqDiff],hE⟩
    simp (disch:=first|omega|(with_unfolding_all exact rfl)|(simp only[new_n,put_n,new_m];omega)|(refine put_m_le ?_;simp only[new_m];omega)) only [K5l1,K5r15,Abs.W,reduceIte,Nat.reduceEqDiff,Nat.reduceAdd,decide_true,decide_false,kLoop_def,Nat.reduceSub,List.cons_append,List.nil_append,List.append_nil,List.length_cons,List.length_nil,Env.find_set,q4,q13,t4',e1,Nat.zero_add])
 simp (disch:=first|omega|(with_unfolding_all exact rfl)|(simp only[new_n,put_n,new_m];omega)|(refine put_m_le ?_;simp only[new_m];omega)) only [K5r21,Abs.W,reduceIte,Nat.reduceEqDiff,Nat.reduceAdd,decide_true,decide_false,kLoop_def,Nat.reduceSub,List.cons_append,List.nil_append,List.append_nil,List.length_cons,List.length_nil,Env.find_set]
 generalize hl2:loopN _ rounds _ _ _ _ _=q2
 obtain ⟨e,L3,t9,rfl,rfl⟩:=loop_of hl2
  (fun i L' t=>L'.find 4=.ptr t1.n 0∧L'.find 7=.ptr t3.n 0∧L'.find 20=.int .i64 (i:Int)∧Past t7 t (2 * b.goods+2 * i))
  (fun e L1 s1=>e=.exit 4)
  b.stalls (by unfold rounds;omega) ⟨by simp only [Env.find_set,f24,reduceIte,Nat.reduceEqDiff],by simp only [Env.find_set,f27,reduceIte,Nat.reduceEqDiff],by simp only [Env.find_set,reduceIte,Nat.reduceEqDiff];rfl,hU2⟩
  (fun i L' t hi ⟨q4,q7,q20,hE⟩=>by
   by_cases hlt:i<b.stalls
   ·obtain ⟨L3,t3',z1,z2,y4,y7,y13⟩:=ord_stalls n (by omega) cx okS okO hP h47 h77 (by omega) (by omega) R1 R2 hE (by omega) hlt q4 q7 q20
    exact .inl ⟨hlt,L3,t3',z1,y4,y7,y13,z2.mono (by omega)⟩
   ·obtain rfl:i=b.stalls:=by omega
    have e1:decide ((b.stalls:Int)<(b.stalls:Int))=false:=by simp
    have t4':=(hE.same t1.n (by omega)).trans h47
    refine .inr ⟨.exit 4,L'.set 123 (.bool false),t,by simp,?_,rfl⟩
    simp (disch:=first|omega|(with_unfolding_all exact rfl)|(simp only[new_n,put_n,new_m];omega)|(refine put_m_le ?_;simp only[new_m];omega)) only [K5l2,K5r22,Abs.W,reduceIte,Nat.reduceEqDiff,Nat.reduceAdd,decide_true,decide_false,kLoop_def,Nat.reduceSub,List.cons_append,List.nil_append,List.append_nil,List.length_cons,List.length_nil,Env.find_set,q4,q20,t4',e1,Nat.zero_add])
 simp (disch:=first|omega|(with_unfolding_all exact rfl)|(simp only[new_n,put_n,new_m];omega)|(refine put_m_le ?_;simp only[new_m];omega)) only [K5r28,res5,Abs.W,reduceIte,Nat.reduceEqDiff,Nat.reduceAdd,decide_true,decide_false,kLoop_def,Nat.reduceSub,List.cons_append,List.nil_append,List.append_nil,List.length_cons,List.length_nil,Env.find_set,knA]
 exact ⟨_,rfl⟩
end Go.Proofs.Ytamlnddeiokbdaa.walk
set_option maxRecDepth 10000
namespace Go.Proofs.Ytamlnddeiokbdaa.walk
open Go.Abs Go.Proofs.Ytamlnddeiokbdaa.code
end Go.Proofs.Ytamlnddeiokbdaa.walk
namespace Go.Proofs.Ytamlnddeiokbdaa.mdie
open Go.RowKit
def Die (b:Nat) (w:World):Prop:=∃ s,w.heap[b]? = some (.cells #[.int .u64 s] 69 (0,0))
theorem Die.old {b:Nat} {w:World} (h:Die b w):(∃ s,w.cell? ⟨b,0,none⟩=some (.int .u64 s))∧w.frozen? ⟨b,0,none⟩=false:=by
 obtain ⟨s,hs⟩:=h
 refine ⟨⟨s,?_⟩,?_⟩
 ·unfold World.cell?;simp [hs]
 ·unfold World.frozen?;simp [hs]
structure Stir (b:Nat) (w w':World):Prop where
 below:Below b w w'
 rest:∀ p:Addr,p.block≠b→p.block<w.heap.size→w'.cell? p=w.cell? p∧w'.frozen? p=w.frozen? p
 die:Die b w'
def Gives (b:Nat) (k:IntKind) (Q:Int→Prop) (w:World) (e:Ending) (w':World):Prop:=∃ r,Q r∧e=.returned (.int k r)∧Stir b w w'
theorem bits_nonneg (op:BinOp) (x y:Int):0≤bits op .u64 x y:=by
 have:=bounds_u64 (wf_bits (k:=.u64) (op:=op) (x:=x) (y:=y))
 exact this.1
theorem Stir.set {b:Nat} {w:World} (h:Die b w) (s:Int):Stir b w (w.setCell ⟨b,0,none⟩ (.int .u64 s)):=by
 obtain ⟨t,ht⟩:=h
 refine ⟨(Below.refl b w).setCell (p:=⟨b,0,none⟩) (Nat.le_refl b) _,fun p hp _=>⟨World.cell?_of_block (Below.heap_setCell _ _ _ _ hp),World.frozen?_of_block (Below.heap_setCell _ _ _ _ hp)⟩,⟨s,?_⟩⟩
 unfold World.setCell
 simp [Array.getElem?_modify,ht]
theorem roll (b:Nat) (w:World) (h:Die b w):Calls Try.prog 30 #[.pointer (some ⟨b,0,none⟩)] w (Gives b .u64 (fun r=>0≤r) w):=by
 have h':=Lib.hid h
 obtain ⟨⟨s,hs⟩,hf⟩:=h.old
 clear h
 go_enter Try.func30,Try.ntmps30
 go_wp2
 go_ret
 exact ⟨_,bits_nonneg _ _ _,rfl,Stir.set h'.out _⟩
theorem Stir.refl {b:Nat} {w:World} (h:Die b w):Stir b w w:=⟨Below.refl _ _,fun _ _ _=>⟨rfl,rfl⟩,h⟩
theorem Stir.trans {b:Nat} {u v w:World} (h:Stir b u v) (k:Stir b v w):Stir b u w :=
 ⟨h.below.trans k.below,fun p hp hb=>⟨(k.rest p hp (Nat.lt_of_lt_of_le hb h.below.size)).1.trans (h.rest p hp hb).1,(k.rest p hp (Nat.lt_of_lt_of_le hb h.below.size)).2.trans (h.rest p hp hb).2⟩,k.die⟩
theorem Die.lt {b:Nat} {w:World} (h:Die b w):b<w.heap.size:=by obtain ⟨⟨s,hs⟩,_⟩:=h.old;exact World.block_lt_of_cell? w _ hs
theorem Stir.drew {b:Nat} {w w':World} (h:Stir b w w'):Stir b w w'.drew:=h.trans ⟨⟨rfl,rfl,rfl,Nat.le_refl _,fun _ _=>rfl⟩,fun _ _ _=>⟨rfl,rfl⟩,h.die⟩
def Born (w:World) (e:Ending) (w':World):Prop:=e=.returned (.pointer (some ⟨w.heap.size,0,none⟩))∧Below w.heap.size w w'∧Die w.heap.size w'∧w.heap.size<w'.heap.size
theorem Die.born (w:World) (s:Int):Die w.heap.size (w.alloc (.cells #[.int .u64 s] 69)):=⟨s,by show (w.heap.push _)[w.heap.size]? = _;rw [Array.getElem?_push,if_pos rfl]⟩
set_option maxRecDepth 100000 in
theorem born (x:Option Addr) (n c:Nat) (w:World) (hn:n≤maxLen) (hc:∀ i,i<n→∃ b o,x=some ⟨b,o,none⟩∧∃ v,w.cell? ⟨b,o+i,none⟩=some (.int .i64 v)) :
  Calls Try.prog 9 #[.slice x n c] w (Born w):=by
 unfold maxLen at hn
 have HC:=Lib.hid hc
 clear hc
 have hdie:=Lib.hid (Die.born w 2611923443488327891)
 go_enter Try.func9,Try.ntmps9
 go_wp2
 go_loopw [4] (fun i wr=>∃ k:Nat,k≤n∧i=.int .i64 k∧Stir w.heap.size (w.alloc (.cells #[.int .u64 2611923443488327891] 69)) wr) (fun i _=>n - (intOf i).toNat)
 case atStart=>exact ⟨0,Nat.zero_le _,rfl,Stir.refl hdie.out⟩
 case round =>
  obtain ⟨k,hk,rfl,hs⟩:=hrel
  by_cases hlt:k<n
  ·obtain ⟨b,o,rfl,v,hv⟩:=HC.out k hlt
   have hb:=World.block_lt_of_cell? _ _ hv
   simp only at hb
   have hv1:wr.cell? ⟨b,o+k,none⟩=some (.int .i64 v):=((hs.rest ⟨b,o+k,none⟩ (Nat.ne_of_lt hb) (by simp;omega)).1.trans (World.cell?_of_block (Below.heap_alloc _ _ _ hb))).trans hv
   clear hv
   obtain ⟨⟨s,hd⟩,hf⟩:=hs.die.old
   have hst:=Lib.hid (fun s1:Int=>(hs.drew).trans (Stir.set hs.drew.die s1))
   have hlt':(k:Int)<(n:Int):=by omega
   have hk0:(0:Int)≤(k:Int):=by omega
   go_wp2
   go_still_tail 12,(by kernel_rfl)
   change wpList _ _ _ _ _ wr.drew
   go_wp2_with (go_at_call 30;refine (roll _ _ ?_).mono ?_;exact (hst.out _).die;rintro e w1 ⟨r,hr,rfl,hs1⟩;(have hs2:=(hst.out _).trans hs1))
   go_roundw
   case rel=>exact ⟨k+1,by omega,by go_num,hs2⟩
   case measure=>simp [intOf];omega
  ·go_wp2
   go_ret
   exact ⟨rfl,((Below.refl w.heap.size w).alloc (Nat.le_refl _) _).trans hs.below,hs.die,by have:=hs.below.size;simp at this;omega⟩
end Go.Proofs.Ytamlnddeiokbdaa.mdie
namespace Go.Abs
open Go.RowKit
variable {P:Program}
theorem mid_calls {cl:CallF} (hc:CallSound P cl) {f:FuncId} {fn:Func} (hf:P.funcs[f]? = some fn) {c0 c1 rest:Code} (hb:fn.body=some (.seq c0 (.seq c1 rest))) {X:FuncId→List Nat} {k:K} {A:Array Value} {W:World} {R:Ending→World→Prop}
  (h:c0.wp P (Exit.then (fun a w=>c1.wp P (Exit.then (fun a w=>∃ ρ L s v s',ActRel ρ fn.ntmps L [] a∧Clean (X f) L∧SRel ρ s w∧finA P fn (k cl ⟨f,none,fn.ntmps,X f⟩ L [] s)=.val v s'∧∀ ρ' V W',After ρ s w ρ' s' W'→VRel ρ' v V→R (.returned V) W') fun _ _ _=>False) a w) fun _ _ _=>False)
   { tmps:=A++Array.replicate (fn.ntmps - A.size) undef,defers:=[] } W)
  (hk:codeK P (X f) fn.ntmps rest=some k):Calls P f A W R:=by
 intro cs
 obtain ⟨b,hbd⟩:∃ b:Frame,b={ (default:Frame) with fn:=f,kind:=.normal }:=⟨_,rfl⟩
 have hr:b.roundOf=none:=by rw [hbd];rfl
 have henter:Frame.enter P f A .normal=b.at { tmps:=A++Array.replicate (fn.ntmps - A.size) undef,defers:=[] } [.code (.seq c0 (.seq c1 rest))]:=by
  rw [hbd];simp [Frame.enter,Frame.at,hf,hb]
 obtain ⟨e0,a0,w0,q0,ar0⟩:=h b [.code (.seq c1 rest)] cs
 cases e0<;>simp only [Exit.then] at q0
 obtain ⟨e1,a1,w1,q1,ar1⟩:=q0 b [.code rest] cs
 cases e1<;>simp only [Exit.then] at q1
 obtain ⟨ρ,L,s,v,s',hact,hclean,hs,hfin,hR⟩:=q1
 have st1:Steps P (lone (Frame.enter P f A .normal) cs W) (lone (b.atR a1 [.code rest]) cs w1):=by
  rw [henter,Frame.atR_of_none hr]
  exact (Steps.head step_seq ar0).trans (Steps.head step_seq ar1)
 have hctx:CtxRel ρ ⟨f,none,fn.ntmps,X f⟩ b:=⟨by rw [hbd],by rw [hbd],fun _=>hr,fun l e=>by cases e⟩
 generalize hr2:k cl ⟨f,none,fn.ntmps,X f⟩ L [] s=r at hfin
 cases r with
 | fail=>cases hfin
 | done e L1 d s₁ =>
  obtain ⟨ρ₁,a₁,W₁,af,ha₁,_,_,st⟩:=codeK_sound rest hk hc rfl rfl hctx hact hclean hs hr2
  have fin:∀ (hle:leaveA P fn.results.toList L1 d s₁=.val v s') (hst:∃ t,Steps P (lone (Frame.enter P f A .normal) cs W) (lone (back b a₁ t) cs W₁)),
    ∃ V w' fr,R (.returned V) w'∧Steps P (lone (Frame.enter P f A .normal) cs W) (lone fr cs w')∧fr.fn=f∧fr.leaving P w' (.returned V):=by
   intro hle hst
   obtain ⟨V,W₂,af₂,hv,st₂⟩:=leaveA_calls ha₁ af.rel hle
   obtain ⟨t,st₁⟩:=hst
   obtain ⟨fr,h1,h2,h3⟩:=st₂ b (by rw [hbd]) (by rw [hbd];exact hf) t cs
   exact ⟨V,W₂,fr,hR _ _ _ (af.trans af₂) hv,Steps.trans st₁ h1,by rw [h2,hbd],h3⟩
  cases e with
  | exit id=>cases hfin
  | norm =>
   have z:=st [] cs
   obtain ⟨V,w',fr,h1,h2,h3,h4⟩:=fin hfin ⟨[],st1.trans (Steps.trans z (.one (stepR_end hr)))⟩
   exact ⟨.returned V,w',fr,h1,h2,h3,h4⟩
  | ret =>
   obtain ⟨k0,z⟩:=st [] cs
   obtain ⟨V,w',fr,h1,h2,h3,h4⟩:=fin hfin ⟨.code .ret::k0,st1.trans (z.trans (.one (stepR_ret hr)))⟩
   exact ⟨.returned V,w',fr,h1,h2,h3,h4⟩
end Go.Abs
set_option maxRecDepth 10000
namespace Go.Proofs.Ytamlnddeiokbdaa.walk
open Go.Abs Go.RowKit Go.Proofs.Ytamlnddeiokbdaa.code
noncomputable def die0 (F:Int):St:=St.new ⟨.nil,0,far⟩ (.cells [.int .u64 F] (tag 69))
def rho0 (d:Nat):Rho:=fun b=>if b=0 then some (d,(0,0)) else none
theorem die0_get {F:Int} {b:Nat} {o:AObj} (h:(die0 F).h.get b=some o):b=0∧o=.cells [.int .u64 F] (tag 69):=by
 by_cases e:b=0
 ·subst e
  have:(die0 F).h.get 0=some (.cells [.int .u64 F] (tag 69)):=get_new_eq _ _ _ rfl (by decide)
  rw [this] at h
  exact ⟨rfl,(Option.some.inj h).symm⟩
 ·unfold die0 at h
  rw [get_new_ne _ _ _ e] at h
  cases h
theorem die0_has {F:Int} {b x:Nat} {o:AObj} (h:Has (die0 F).h b x o):b=0∧x=0∧o=.cells [.int .u64 F] (tag 69):=by
 obtain ⟨y,hy,hp⟩:=h
 obtain ⟨rfl,rfl⟩:=die0_get hy
 have hl:AObj.lone (.cells [.int .u64 F] (tag 69)):=trivial
 rw [parts_lone hl] at hp
 have:=List.mem_singleton.mp hp
 cases this
 exact ⟨rfl,rfl,rfl⟩
theorem die0_rel {F:Int} {d:Nat} {W:World} (h:W.heap[d]? = some (.cells #[.int .u64 F] 69 (0,0))):SRel (rho0 d) (die0 F) W:=by
 refine ⟨⟨fun b o hb=>?_,fun b x o hb=>?_,fun b b' x x' o o' c e e' hb hb' _ _=>?_,fun g cs hg=>(by cases hg),fun b x o c e hb hr=>rfl,fun b x x' o o' c e e' hb hb' hr hr'=>?_⟩,fun b hb=>?_⟩
 ·rw [(die0_get hb).1];decide
 ·obtain ⟨rfl,rfl,rfl⟩:=die0_has hb
  exact ⟨d,(0,0),_,if_pos rfl,h,.cells rfl (.cons (.int _ _) .nil) (Typed.tag _)⟩
 ·rw [(die0_has hb).1,(die0_has hb').1]
 ·obtain ⟨_,rfl,_⟩:=die0_has hb
  obtain ⟨_,rfl,_⟩:=die0_has hb'
  rw [hr] at hr'
  cases hr'
  rfl
 ·have:1≤b:=hb
  exact if_neg (by omega)
end Go.Proofs.Ytamlnddeiokbdaa.walk
set_option maxRecDepth 10000
namespace Go.Proofs.Ytamlnddeiokbdaa.walk
open Go.Abs Go.RowKit Go.Proofs.Ytamlnddeiokbdaa.code
set_option maxRecDepth 100000 in
theorem ord_calls (a:Option Addr) (n c:Nat) (w:World) (hn:n≤maxLen) (hc:∀ i,i<n→∃ b o,a=some ⟨b,o,none⟩∧∃ v,w.cell? ⟨b,o+i,none⟩=some (.int .i64 v)) :
  Calls Try.prog 5 #[.slice a n c] w fun e w'=>e=.returned (.bool true)∧Below w.heap.size w w':=by
 have HC:=Lib.hid hc
 clear hc
 refine mid_calls (cl:=knows 20 (call Try.prog X 20)) (knows_sound (call_sound 200) Try.func20 awake.entered (call_sound 20)) Try.func5 rfl (X:=X) (k:=ordRest) ?_ (by kernel_rfl)
 simp only [Try.ntmps5,List.size_toArray,List.length_cons,List.length_nil,Nat.reduceAdd,Nat.reduceSub,Array.replicate_succ,Array.replicate_zero,List.push_toArray,List.append_toArray,List.nil_append,List.cons_append]
 go_wp2_with (go_at_call 9;((with_reducible refine (mdie.born _ _ _ _ hn HC.out).mono ?_);rintro e w1 ⟨rfl,hB1,⟨F,hF⟩,hg1⟩))
 have hd0:walk.Die 0 (die0 F).h:=⟨F,get_new_eq _ _ _ rfl (by decide)⟩
 obtain ⟨s',hs'⟩:=ord_body 20 (by omega) ⟨5,none,Try.f5.ntmps,X 5⟩ (die0 F) 0 hd0 (by show 0<1;omega) (by show 1+9000000≤1000000000;omega) rfl
 refine ⟨rho0 w.heap.size,.cons 3 (.ptr 0 0) .nil,die0 F,.bool true,s',⟨fun t=>?_,rfl,.nil⟩,fun t ht=>?_,die0_rel hF,hs',fun ρ' V W' af hv=>?_⟩
 ·by_cases e:t=3
  ·subst e
   exact .ptr (e:=(0,0)) (if_pos rfl)
  ·rw [show (Env.cons 3 (.ptr 0 0) .nil).find t=AV.bad by rw [find_cons,if_neg (by omega)];rfl]
   exact .bad _
 ·by_cases e:t=3
  ·subst e
   have hx:(X 5).contains 3=true:=by kernel_rfl
   rw [hx] at ht
   cases ht
  ·rw [find_cons,if_neg (by omega)];rfl
 ·cases hv
  refine ⟨rfl,hB1.trans ⟨af.os,af.tape,af.output,af.size,fun k hk=>af.frame k (by omega) fun b x o e hb hr=>?_⟩⟩
  obtain ⟨_,rfl,_⟩:=die0_has hb
  have hr:some (w.heap.size,(0,0))=some (k,e):=hr
  injection hr with hr
  injection hr with hr _
  omega
end Go.Proofs.Ytamlnddeiokbdaa.walk
