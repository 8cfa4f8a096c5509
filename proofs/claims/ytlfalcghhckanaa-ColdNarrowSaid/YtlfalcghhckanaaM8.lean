/- The law ColdNarrow: its body behind its die. -/
import Derived.Test.YtlfalcghhckanaaM7
import Derived.Test.YtlfalcghhckanaaProg
import Derived.Tactics
import Derived.Tactics2
import Derived.WalkKit
import Derived.OpenShut
import Derived.Below
import Derived.Lib.Hide
import Derived.KernelRfl
import Derived.Deep.RegionHeld3
import Derived.OwnWalk
import Derived.StillTailTactics
import Derived.Test.YtlfalcghhckanaaAbsTop
import Derived.Test.YtlfalcghhckanaaAbsWalk
import Derived.Test.YtlfalcghhckanaaM1
import Derived.Test.YtlfalcghhckanaaAwake
import Derived.Test.YtlfalcghhckanaaWalkAll
set_option linter.unusedSimpArgs false
set_option maxHeartbeats 16000000
set_option linter.unusedVariables false
set_option maxRecDepth 10000
namespace Go.Proofs.Ytlfalcghhckanaa.walk
open Go.Abs Go.Proofs.Ytlfalcghhckanaa.code
theorem nar_body (n:Nat) (hn:13≤n) (cx:Ctx) (s:St) (d:Nat) (hd:Die d s.h) (hdn:d<s.n) (hs:s.n+900000≤far) (hm:s.m=far) :
  ∃ s',finA Try.prog Try.f3 (narRest (knows 14 (call Try.prog X n)) cx (.cons 3 (.ptr d 0) .nil) [] s)=.val (.bool true) s':=by
 have hff:far=1000000000:=rfl
 have kn12:∀ args s,knows 14 (call Try.prog X n) (.fn 5) args s=call Try.prog X n (.fn 5) args s:=fun _ _=>rfl
 have kn13:∀ args s,knows 14 (call Try.prog X n) (.fn 6) args s=call Try.prog X n (.fn 6) args s:=fun _ _=>rfl
 have knH:∀ args s,knows 14 (call Try.prog X n) (.fn 7) args s=call Try.prog X n (.fn 7) args s:=fun _ _=>rfl
 have knC:∀ args s,knows 14 (call Try.prog X n) (.fn 9) args s=call Try.prog X n (.fn 9) args s:=fun _ _=>rfl
 have kn14:∀ args s,knows 14 (call Try.prog X n) (.fn 8) args s=call Try.prog X n (.fn 8) args s:=fun _ _=>rfl
 have knL:∀ args s,knows 14 (call Try.prog X n) (.fn 11) args s=call Try.prog X n (.fn 11) args s:=fun _ _=>rfl
 have knF:∀ args s,knows 14 (call Try.prog X n) (.fn 12) args s=call Try.prog X n (.fn 12) args s:=fun _ _=>rfl
 have knN:∀ args s,knows 14 (call Try.prog X n) (.fn 10) args s=call Try.prog X n (.fn 10) args s:=fun _ _=>rfl
 have knW:∀ args s,knows 14 (call Try.prog X n) (.fn 13) args s=call Try.prog X n (.fn 13) args s:=fun _ _=>rfl
 have kn24:∀ s,knows 14 (call Try.prog X n) (.fn 14) [] s=.val (.bool true) s:=fun _=>rfl
 have ex0:∀ (a b:AV) (s:St),extA 0 s (.tup [a,b])=.val a s:=fun _ _ _=>rfl
 have ex1:∀ (a b:AV) (s:St),extA 1 s (.tup [a,b])=.val b s:=fun _ _ _=>rfl
 unfold narRest
 simp (disch:=first|omega|(with_unfolding_all exact rfl)|(simp only[new_n,put_n,new_m];omega)|(refine put_m_le ?_;simp only[new_m];omega)) only [K3r2,Abs.W,reduceIte,Nat.reduceEqDiff,Nat.reduceAdd,decide_true,decide_false,kLoop_def,Nat.reduceSub,List.cons_append,List.nil_append,List.append_nil,List.length_cons,List.length_nil,Env.find_set,kn12]
 generalize hc1:call _ _ _ (.fn 5) _ _=r1
 obtain ⟨c,v1,v2,v3,t1,rfl,st1,d1,⟨ok,tame⟩,hC⟩:=CellarOf_tame 3 5 hc1 (by omega) (by omega) (by omega) hd hdn (by omega)
 have n1:s.n≤t1.n:=st1.n
 have k1:t1.n≤s.n+1000:=st1.le
 obtain ⟨ok1,c1,sc1⟩:=hC.b.scalar
 obtain ⟨ok2,c2,sc2⟩:=hC.f.scalar
 obtain ⟨ok3,c3,sc3⟩:=hC.r.scalar
 have len1:=hC.b.len
 rw [List.length_map] at len1
 simp (disch:=first|omega|(with_unfolding_all exact rfl)|(simp only[new_n,put_n,new_m];omega)|(refine put_m_le ?_;simp only[new_m];omega)) only [Abs.W,reduceIte,Nat.reduceEqDiff,Nat.reduceAdd,decide_true,decide_false,kLoop_def,Nat.reduceSub,List.cons_append,List.nil_append,List.append_nil,List.length_cons,List.length_nil,Env.find_set,sc1,sc2,sc3,scal_nil]
 obtain ⟨y,hy⟩:∃ y:St,y=(t1.new (.cells [.int .i64 0,.int .i64 0,.nilslice,.nilslice,.nilslice] (tag 31))).put t1.n (.cells [.int .i64 c.hl,.int .i64 c.hh,v1,v2,v3] (tag 31)):=⟨_,rfl⟩
 rw [← hy]
 have yn:y.n=t1.n+1:=by rw [hy];rfl
 have yg:∀ c,c≠t1.n→y.h.get c=t1.h.get c:=fun c hc=>by rw [hy,get_put_ne' _ _ _ _ hc,get_new_ne _ _ _ hc]
 have y4:y.h.get t1.n=some (.cells [.int .i64 c.hl,.int .i64 c.hh,v1,v2,v3] (tag 31)):=by rw [hy];exact get_put_eq _ _ _ _ rfl (by omega)
 have dy:Die d y.h:=by obtain ⟨f,hf'⟩:=d1;exact ⟨f,by rw [yg _ (by omega)];exact hf'⟩
 clear hy
 simp (disch:=first|omega|(with_unfolding_all exact rfl)|(simp only[new_n,put_n,new_m];omega)|(refine put_m_le ?_;simp only[new_m];omega)) only [K3r3,Abs.W,reduceIte,Nat.reduceEqDiff,Nat.reduceAdd,decide_true,decide_false,kLoop_def,Nat.reduceSub,List.cons_append,List.nil_append,List.append_nil,List.length_cons,List.length_nil,Env.find_set,y4,kn13,Nat.zero_add]
 generalize hc2:call _ _ _ (.fn 6) _ _=r2
 obtain ⟨l,v4,t2,rfl,st2,d2,okl,b9,hR⟩:=LotOf_ex (k:=c.boxes.length) 4 hc2 (by omega) (by omega) dy (by omega) (by omega) (by have:=ok.b;omega) len1 ok1
 have n2:y.n≤t2.n:=st2.n
 have k2:t2.n≤y.n+1000:=st2.le
 obtain ⟨ok4,c4,sc4⟩:=hR.scalar
 have z4:=(st2.same t1.n (by omega) (by omega)).trans y4
 simp (disch:=first|omega|(with_unfolding_all exact rfl)|(simp only[new_n,put_n,new_m];omega)|(refine put_m_le ?_;simp only[new_m];omega)) only [Abs.W,reduceIte,Nat.reduceEqDiff,Nat.reduceAdd,decide_true,decide_false,kLoop_def,Nat.reduceSub,List.cons_append,List.nil_append,List.append_nil,List.length_cons,List.length_nil,Env.find_set,sc4,scal_nil]
 obtain ⟨z,hz⟩:∃ z:St,z=(t2.new (.cells [.int .i64 0,.int .i64 0,.nilslice] (tag 35))).put t2.n (.cells [.int .i64 l.born,.int .i64 l.keeps,v4] (tag 35)):=⟨_,rfl⟩
 rw [← hz]
 have zn:z.n=t2.n+1:=by rw [hz];rfl
 have zg:∀ c,c≠t2.n→z.h.get c=t2.h.get c:=fun c hc=>by rw [hz,get_put_ne' _ _ _ _ hc,get_new_ne _ _ _ hc]
 have z5:z.h.get t2.n=some (.cells [.int .i64 l.born,.int .i64 l.keeps,v4] (tag 35)):=by rw [hz];exact get_put_eq _ _ _ _ rfl (by omega)
 have dz:Die d z.h:=by obtain ⟨f,hf'⟩:=d2;exact ⟨f,by rw [zg _ (by omega)];exact hf'⟩
 have z4':=(zg t1.n (by omega)).trans z4
 clear hz
 have b0:=okl.b0
 have hz4:=z4'
 have zb:∀ b,s.n+1≤b→b<t1.n→z.h.get b=t1.h.get b:=fun b hb hbn=>by rw [zg b (by omega),st2.same b (by omega) (by omega),yg b (by omega)]
 simp (disch:=first|omega|(with_unfolding_all exact rfl)|(simp only[new_n,put_n,new_m];omega)|(refine put_m_le ?_;simp only[new_m];omega)) only [K3r4,Abs.W,reduceIte,Nat.reduceEqDiff,Nat.reduceAdd,decide_true,decide_false,kLoop_def,Nat.reduceSub,List.cons_append,List.nil_append,List.append_nil,List.length_cons,List.length_nil,Env.find_set,z5,knH,Nat.zero_add]
 generalize hc3:call _ _ _ (.fn 7) _ _=r3
 obtain ⟨hour,t3,rfl,st3,d3,h0,h1⟩:=HourOf_ex hc3 (by omega) dz (by show d<z.n;omega) (by show z.n+1000≤far;omega) ⟨b0,by omega⟩
 have n3:z.n≤t3.n:=st3.n
 have k3:t3.n≤z.n+10:=st3.le
 have f43:t3.h.get t1.n=_:=(st3.same t1.n (by show t1.n<z.n;omega) (by omega)).trans hz4
 simp (disch:=first|omega|(with_unfolding_all exact rfl)|(simp only[new_n,put_n,new_m];omega)|(refine put_m_le ?_;simp only[new_m];omega)) only [thenT_turn,Abs.W,reduceIte,Nat.reduceEqDiff,Nat.reduceAdd,decide_true,decide_false,kLoop_def,Nat.reduceSub,List.cons_append,List.nil_append,List.append_nil,List.length_cons,List.length_nil,Env.find_set,f43,ok1,len1,kn14,Nat.zero_add]
 generalize hc3b:call _ _ _ (.fn 8) _ _=r3b
 obtain ⟨box,q,rfl,st3b,dq,bx0,bx1⟩:=cast_ex hc3b (by omega) d3 (by show d<t3.n;omega) (by show t3.n+100≤far;omega) (by have:=ok.b;omega)
 have qn1:t3.n≤q.n:=st3b.n
 have qk1:q.n≤t3.n:=st3b.le
 have qg:∀ c,c<z.n→c≠d→q.h.get c=z.h.get c:=fun c hc hcd=>by
  rw [st3b.same c (by show c<t3.n;omega) hcd]
  show t3.h.get c=_
  rw [st3.same c hc hcd]
 have kv:keptV z.h t3.h v1=true:=keptV_rows (hC.b.mono zb (Nat.le_refl _)) fun b hb hbn=>st3.same b (by show b<z.n;omega) (by omega)
 simp (disch:=first|omega|(with_unfolding_all exact rfl)|(simp only[new_n,put_n,new_m];omega)|(refine put_m_le ?_;simp only[new_m];omega)) only [Abs.W,reduceIte,Nat.reduceEqDiff,Nat.reduceAdd,decide_true,decide_false,kLoop_def,Nat.reduceSub,List.cons_append,List.nil_append,List.append_nil,List.length_cons,List.length_nil,Env.find_set]
 rw [endT_kept (by simp only [keptAll_cons,keptAll_nil,find_cons,keptV_ptr,hz4,f43,kv,sameO_cells,reduceIte,Nat.reduceEqDiff,Bool.and_self])]
 simp (disch:=first|omega|(with_unfolding_all exact rfl)|(simp only[new_n,put_n,new_m];omega)|(refine put_m_le ?_;simp only[new_m];omega)) only [Abs.W,reduceIte,Nat.reduceEqDiff,Nat.reduceAdd,decide_true,decide_false,kLoop_def,Nat.reduceSub,List.cons_append,List.nil_append,List.append_nil,List.length_cons,List.length_nil,Env.find_set,endO_nil,regD_ok]
 have f4:=(qg t1.n (by omega) (by omega)).trans hz4
 have f5:=(qg t2.n (by omega) (by omega)).trans z5
 have hC3:CellarNew q.h (s.n+1) t1.n c v1 v2 v3:=hC.mono (fun b hb hbn=>(qg b (by omega) (by omega)).trans (zb b hb hbn)) (Nat.le_refl _)
 have hR3:Abs.Rows q.h (y.n+1) t2.n 3 (tag 66) (l.stays.map Stay.cells) v4:=hR.mono (fun b hb hbn=>by rw [qg b (by omega) (by omega),zg b (by omega)]) (Nat.le_refl _)
 simp (disch:=first|omega|(with_unfolding_all exact rfl)|(simp only[new_n,put_n,new_m];omega)|(refine put_m_le ?_;simp only[new_m];omega)) only [K3r5,Abs.W,reduceIte,Nat.reduceEqDiff,Nat.reduceAdd,decide_true,decide_false,kLoop_def,Nat.reduceSub,List.cons_append,List.nil_append,List.append_nil,List.length_cons,List.length_nil,Env.find_set,f4,knC,Nat.zero_add]
 generalize hc4:call _ _ _ (.fn 9) _ _=r4
 obtain ⟨w1,w2,w3,t4,m1,m2,rfl,st4,le1,le2,le3,o1,o2,o3⟩:=CopyCellar_ex c hc4 (by omega) (hC3.b.seq.grow (n':=q.n) (fun _ _=>rfl) (by omega)) (hC3.f.seq.grow (n':=q.n) (fun _ _=>rfl) (by omega)) (hC3.r.seq.grow (n':=q.n) (fun _ _=>rfl) (by omega)) (by have:=ok.b;omega) ok.f (by have:=ok.r;omega) (by omega)
 have n4:q.n≤t4.n:=st4.n
 have k4:t4.n≤q.n+10:=st4.le
 obtain ⟨ow1,cw1,sw1⟩:=o1.seq.scalar
 obtain ⟨ow2,cw2,sw2⟩:=o2.seq.scalar
 obtain ⟨ow3,cw3,sw3⟩:=o3.seq.scalar
 simp (disch:=first|omega|(with_unfolding_all exact rfl)|(simp only[new_n,put_n,new_m];omega)|(refine put_m_le ?_;simp only[new_m];omega)) only [Abs.W,reduceIte,Nat.reduceEqDiff,Nat.reduceAdd,decide_true,decide_false,kLoop_def,Nat.reduceSub,List.cons_append,List.nil_append,List.append_nil,List.length_cons,List.length_nil,Env.find_set,sw1,sw2,sw3,scal_nil]
 obtain ⟨x,hx⟩:∃ x:St,x=(t4.new (.cells [.int .i64 0,.int .i64 0,.nilslice,.nilslice,.nilslice] (tag 31))).put t4.n (.cells [.int .i64 c.hl,.int .i64 c.hh,w1,w2,w3] (tag 31)):=⟨_,rfl⟩
 rw [← hx]
 have xn:x.n=t4.n+1:=by rw [hx];rfl
 have xg:∀ c,c≠t4.n→x.h.get c=t4.h.get c:=fun c hc=>by rw [hx,get_put_ne' _ _ _ _ hc,get_new_ne _ _ _ hc]
 have x7:x.h.get t4.n=some (.cells [.int .i64 c.hl,.int .i64 c.hh,w1,w2,w3] (tag 31)):=by rw [hx];exact get_put_eq _ _ _ _ rfl (by omega)
 have dx:Die d x.h:=by obtain ⟨f,hf'⟩:=dq;exact ⟨f,by rw [xg _ (by omega),st4.same _ (by omega)];exact hf'⟩
 clear hx
 have xf4:=((xg t1.n (by omega)).trans (st4.same t1.n (by omega))).trans f4
 simp (disch:=first|omega|(with_unfolding_all exact rfl)|(simp only[new_n,put_n,new_m];omega)|(refine put_m_le ?_;simp only[new_m];omega)) only [K3r6,Abs.W,reduceIte,Nat.reduceEqDiff,Nat.reduceAdd,decide_true,decide_false,kLoop_def,Nat.reduceSub,List.cons_append,List.nil_append,List.append_nil,List.length_cons,List.length_nil,Env.find_set,xf4,knN,Nat.zero_add]
 generalize hc5:call _ _ _ (.fn 10) _ _=r5
 obtain ⟨hl',hh',t5,rfl,st5,d5,hl0,hl1,hl2⟩:=narrow_ex hc5 (by omega) dx (by omega) (by omega) (by have:=ok.h0;omega) ok.h1 (by have:=ok.h2;omega)
 have n5:x.n≤t5.n:=st5.n
 have k5:t5.n≤x.n+10:=st5.le
 have t57:=(st5.same t4.n (by omega) (by omega)).trans x7
 simp (disch:=first|omega|(with_unfolding_all exact rfl)|(simp only[new_n,put_n,new_m];omega)|(refine put_m_le ?_;simp only[new_m];omega)) only [K3r7,Abs.W,reduceIte,Nat.reduceEqDiff,Nat.reduceAdd,decide_true,decide_false,kLoop_def,Nat.reduceSub,List.cons_append,List.nil_append,List.append_nil,List.length_cons,List.length_nil,Env.find_set,t57,Nat.zero_add,Nat.add_zero]
 generalize hx6:St.put t5 t4.n _=x6
 have x6n:x6.n=t5.n:=by rw [← hx6];rfl
 have x6g:∀ c,c≠t4.n→x6.h.get c=t5.h.get c:=fun c hc=>by rw [← hx6,get_put_ne' _ _ _ _ hc]
 have x67:x6.h.get t4.n=some (.cells [.int .i64 hl',.int .i64 hh',w1,w2,w3] (tag 31)):=by rw [← hx6];exact get_put_eq _ _ _ _ rfl (by omega)
 clear hx6
 have d6:Die d x6.h:=by obtain ⟨f,hf'⟩:=d5;exact ⟨f,by rw [x6g _ (by omega)];exact hf'⟩
 have g46:∀ c,c<t4.n→c≠d→x6.h.get c=t4.h.get c:=fun c hc hcd=>by
  rw [x6g c (by omega),st5.same c (by omega) hcd,xg c (by omega)]
 generalize hlp:loopN _ rounds _ _ _ _ _=rl
 obtain ⟨L7,t7,bs,rfl,lk,bsl,bsc,ow7,d7,fr7,n7,k7⟩:=narrow_loop n (by omega) cx c.boxes (fun b hb=>ok.bok b hb) hl' hh' w1 w2 w3 d t4.n q.n m1 _ x6 hlp d6 (by omega) (by omega) (by omega) (by omega) (by omega) (by have:=tame.b;omega) x67 (o1.move (fun b hb hbn=>g46 b (by omega) (by omega)) (Nat.le_refl _) (Nat.le_refl _))
  (by simp only [find_cons,Env.find_set,reduceIte,Nat.reduceEqDiff]) (by simp only [find_cons,Env.find_set,reduceIte,Nat.reduceEqDiff]) (by simp only [find_cons,Env.find_set,reduceIte,Nat.reduceEqDiff])
 have tb:=tame.b
 have l74:L7.find 4=.ptr t1.n 0:=(lk 4 (by simp)).trans (by simp only [find_cons,Env.find_set,reduceIte,Nat.reduceEqDiff])
 have l75:L7.find 5=.ptr t2.n 0:=(lk 5 (by simp)).trans (by simp only [find_cons,Env.find_set,reduceIte,Nat.reduceEqDiff])
 have l76:L7.find 6=.int .i64 hour:=(lk 6 (by simp)).trans (by simp only [find_cons,Env.find_set,reduceIte,Nat.reduceEqDiff])
 have l77:L7.find 7=.int .i64 box:=(lk 7 (by simp)).trans (by simp only [find_cons,Env.find_set,reduceIte,Nat.reduceEqDiff])
 have l78:L7.find 8=.ptr t4.n 0:=(lk 8 (by simp)).trans (by simp only [find_cons,Env.find_set,reduceIte,Nat.reduceEqDiff])
 clear lk
 have g37:∀ c,c<q.n→c≠d→t7.h.get c=q.h.get c:=fun c hc hcd=>by
  rw [fr7 c (by omega) hcd (.inl hc),g46 c (by omega) hcd,st4.same c hc]
 have e4:=(g37 t1.n (by omega) (by omega)).trans f4
 have e5:=(g37 t2.n (by omega) (by omega)).trans f5
 have e7:=(fr7 t4.n (by omega) (by omega) (.inr (by omega))).trans x67
 obtain ⟨c',hc'⟩:∃ c':Cellar,c'=⟨hl',hh',bs,c.fills,c.rates⟩:=⟨_,rfl⟩
 have nar:c.Narrower c':=by
  rw [hc']
  exact ⟨hl0,hl1,hl2,bsl,fun j hj=>bsc j hj (by rw [bsl];exact hj),rfl,rfl⟩
 have okc':c'.Ok:=nar.ok ok
 have okl':l.Ok c'.boxes.length:=by rw [nar.len];exact okl
 have hCin:CellarIn t7.h t7.n c v1 v2 v3:=(hC3.mono (n':=t7.n) (fun b hb hbn=>g37 b (by omega) (by omega)) (by omega)).in_
 have hRin:RowsAt t7.h t7.n 3 (l.stays.map Stay.cells) v4:=(hR3.mono (n':=t7.n) (fun b hb hbn=>g37 b (by omega) (by omega)) (by omega)).at_
 have hCin':CellarIn t7.h t7.n c' w1 w2 w3:=by
  rw [hc']
  have o2':Own t7.h m1 t7.n 3 (tag 62) (c.fills.map Fill.cells) w2:=o2.move (fun b hb hbn=>by rw [fr7 b (by omega) (by omega) (.inr hb),g46 b (by omega) (by omega)]) (Nat.le_refl _) (by omega)
  have o3':Own t7.h m1 t7.n 2 (tag 64) (c.rates.map Rate.cells) w3:=o3.move (fun b hb hbn=>by rw [fr7 b (by omega) (by omega) (.inr (by omega)),g46 b (by omega) (by omega)]) (by omega) (by omega)
  have o1':Own t7.h q.n t7.n 9 (tag 43) (bs.map Box.cells) w1:=ow7.move (fun _ _ _=>rfl) (Nat.le_refl _) (by omega)
  exact ⟨⟨o1'.seq.at_,o2'.seq.at_,o3'.seq.at_⟩,o2'.seq,own_scal o1',own_scal o3'⟩
 have s4:v4.scalar=true:=rows_scal hR
 obtain ⟨m,hmm⟩:∃ m:Nat,hour=l.born+m:=⟨(hour - l.born).toNat,by omega⟩
 have E1:=Lost_ok (N:=n) (s:=t7) (hour:=hour) c ok l okl m (by omega) hCin hRin s4 hmm (by omega) (by omega)
 simp (disch:=first|omega|(with_unfolding_all exact rfl)|(simp only[new_n,put_n,new_m];omega)|(refine put_m_le ?_;simp only[new_m];omega)) only [K3r12,Abs.W,reduceIte,Nat.reduceEqDiff,Nat.reduceAdd,decide_true,decide_false,kLoop_def,Nat.reduceSub,List.cons_append,List.nil_append,List.append_nil,List.length_cons,List.length_nil,Env.find_set,l74,l75,l76,l77,l78,e4,e5,knL,E1,ex0,ex1,Nat.zero_add]
 generalize hu1:St.put (St.new t7 _) t7.n _=u1
 have u1n:u1.n=t7.n+1:=by rw [← hu1];rfl
 have u1g:∀ c,c<t7.n→u1.h.get c=t7.h.get c:=fun c hc=>by rw [← hu1,get_put_ne' _ _ _ _ (by omega),get_new_ne _ _ _ (by omega)]
 have u1x:u1.h.get t7.n=some (.cells [.int .i64 (c.lost l m).1,.int .i64 (c.lost l m).2] (tag 26)):=by rw [← hu1];exact get_put_eq _ _ _ _ rfl (by omega)
 clear hu1
 have e51:=(u1g t2.n (by omega)).trans e5
 have e41:=(u1g t1.n (by omega)).trans e4
 have e71:=(u1g t4.n (by omega)).trans e7
 have hchl:c'.hl=hl':=by rw [hc']
 have hchh:c'.hh=hh':=by rw [hc']
 rw [← hchl,← hchh] at e71
 have E2:=Lost_ok (N:=n) (s:=u1) (hour:=hour) c' okc' l okl' m (by omega) (hCin'.grow u1g (by omega)) (hRin.grow u1g (by omega)) s4 hmm (by omega) (by omega)
 simp (disch:=first|omega|(with_unfolding_all exact rfl)|(simp only[new_n,put_n,new_m];omega)|(refine put_m_le ?_;simp only[new_m];omega)) only [K3r13,Abs.W,reduceIte,Nat.reduceEqDiff,Nat.reduceAdd,decide_true,decide_false,kLoop_def,Nat.reduceSub,List.cons_append,List.nil_append,List.append_nil,List.length_cons,List.length_nil,Env.find_set,l74,l75,l76,l77,l78,e51,e71,knL,E2,ex0,ex1,Nat.zero_add]
 generalize hu2:St.put (St.new u1 _) u1.n _=u2
 have u2n:u2.n=u1.n+1:=by rw [← hu2];rfl
 have u2g:∀ c,c<u1.n→u2.h.get c=u1.h.get c:=fun c hc=>by rw [← hu2,get_put_ne' _ _ _ _ (by omega),get_new_ne _ _ _ (by omega)]
 have u2y:u2.h.get u1.n=some (.cells [.int .i64 (c'.lost l m).1,.int .i64 (c'.lost l m).2] (tag 26)):=by rw [← hu2];exact get_put_eq _ _ _ _ rfl (by omega)
 clear hu2
 have u2x:=(u2g t7.n (by omega)).trans u1x
 have e52:=(u2g t2.n (by omega)).trans e51
 have e42:=(u2g t1.n (by omega)).trans e41
 have e72:=(u2g t4.n (by omega)).trans e71
 have g72:∀ c,c<t7.n→u2.h.get c=t7.h.get c:=fun c hc=>(u2g c (by omega)).trans (u1g c hc)
 have E3:=Fresh_ok (N:=n) (s:=u2) (hour:=hour) c ok l okl m (by omega) (hCin.grow g72 (by omega)) (hRin.grow g72 (by omega)) s4 hmm (by omega) (by omega)
 have E4:=Fresh_ok (N:=n) (s:=u2) (hour:=hour) c' okc' l okl' m (by omega) (hCin'.grow g72 (by omega)) (hRin.grow g72 (by omega)) s4 hmm (by omega) (by omega)
 simp (disch:=first|omega|(with_unfolding_all exact rfl)|(simp only[new_n,put_n,new_m];omega)|(refine put_m_le ?_;simp only[new_m];omega)) only [K3r14,K3r15,Abs.W,reduceIte,Nat.reduceEqDiff,Nat.reduceAdd,decide_true,decide_false,kLoop_def,Nat.reduceSub,List.cons_append,List.nil_append,List.append_nil,List.length_cons,List.length_nil,Env.find_set,l74,l75,l76,l77,l78,e52,e42,e72,knF,E3,E4,ex0,ex1,Nat.zero_add]
 obtain ⟨j1,j2⟩:=nar.lost ok okc' l okl m (by omega)
 have j3:=c.lost_order ok l okl m (by omega)
 have j4:=c'.lost_order okc' l okl' m (by omega)
 have EW:=spanIn_ok n (by omega) (c'.lost l m).1 (c'.lost l m).2 (c.lost l m).1 (c.lost l m).2 u2 j1 j2 (by omega)
 have hV:(if (c.lost l m).2≤l.keeps then (1:Int) else if (c.lost l m).1≤l.keeps then 3 else 2)≠3→(if (c.lost l m).2≤l.keeps then (1:Int) else if (c.lost l m).1≤l.keeps then 3 else 2)=(if (c'.lost l m).2≤l.keeps then (1:Int) else if (c'.lost l m).1≤l.keeps then 3 else 2):=by
  repeat' split
  all_goals omega
 clear E1 E2 E3 E4
 generalize (if (c.lost l m).2≤l.keeps then (1:Int) else if (c.lost l m).1≤l.keeps then 3 else 2)=V at hV ⊢
 generalize (if (c'.lost l m).2≤l.keeps then (1:Int) else if (c'.lost l m).1≤l.keeps then 3 else 2)=W at hV ⊢
 unfold narMid
 have q16_0:=fun cl L s=>congrFun (congrFun (congrFun K3r16.eq_1 cl) L) s
 have q16_s4:=fun cl L s=>congrFun (congrFun (congrFun K3r16s4.eq_1 cl) L) s
 have q16_s5:=fun cl L s=>congrFun (congrFun (congrFun K3r16s5.eq_1 cl) L) s
 have q16_s8:=fun cl L s=>congrFun (congrFun (congrFun K3r16s8.eq_1 cl) L) s
 have q16_s9:=fun cl L s=>congrFun (congrFun (congrFun K3r16s9.eq_1 cl) L) s
 have q16_s12:=fun cl L s=>congrFun (congrFun (congrFun K3r16s12.eq_1 cl) L) s
 have q16_s13:=fun cl L s=>congrFun (congrFun (congrFun K3r16s13.eq_1 cl) L) s
 have q16_s16:=fun cl L s=>congrFun (congrFun (congrFun K3r16s16.eq_1 cl) L) s
 have q16_s17:=fun cl L s=>congrFun (congrFun (congrFun K3r16s17.eq_1 cl) L) s
 have q16_s18:=fun cl L s=>congrFun (congrFun (congrFun K3r16s18.eq_1 cl) L) s
 have q16_s19:=fun cl L s=>congrFun (congrFun (congrFun K3r16s19.eq_1 cl) L) s
 have q16_s22:=fun cl L s=>congrFun (congrFun (congrFun K3r16s22.eq_1 cl) L) s
 have q16_s23:=fun cl L s=>congrFun (congrFun (congrFun K3r16s23.eq_1 cl) L) s
 have q16_s24:=fun cl L s=>congrFun (congrFun (congrFun K3r16s24.eq_1 cl) L) s
 have q16_s25:=fun cl L s=>congrFun (congrFun (congrFun K3r16s25.eq_1 cl) L) s
 have q16_s26:=fun cl L s=>congrFun (congrFun (congrFun K3r16s26.eq_1 cl) L) s
 have q16_s27:=fun cl L s=>congrFun (congrFun (congrFun K3r16s27.eq_1 cl) L) s
 have q16_s28:=fun cl L s=>congrFun (congrFun (congrFun K3r16s28.eq_1 cl) L) s
 have d0:decide ((0:Int)=0)=true:=rfl
 have hCu:=hCin.grow g72 (by omega:t7.n≤u2.n)
 have hCu':=hCin'.grow g72 (by omega:t7.n≤u2.n)
 have fin:∀ M:Env,M.find 4=.ptr t1.n 0→M.find 6=.int .i64 hour→M.find 7=.int .i64 box→M.find 8=.ptr t4.n 0 →
   ∃ s',finA Try.prog Try.f3 (narEnd (knows 14 (call Try.prog X n)) cx M [] u2)=.val (.bool true) s':=fun M M4 M6 M7 M8=>by
  unfold narEnd
  by_cases hb:c.boxes.length=0
  ·have e0:decide ((c.boxes.length:Int)=0)=true:=decide_eq_true (by omega)
   simp (disch:=first|omega|(with_unfolding_all exact rfl)|(simp only[new_n,put_n,new_m];omega)|(refine put_m_le ?_;simp only[new_m];omega)) only [K3r18,K3r19,res3,Abs.W,reduceIte,Nat.reduceEqDiff,Nat.reduceAdd,decide_true,decide_false,kLoop_def,Nat.reduceSub,List.cons_append,List.nil_append,List.append_nil,List.length_cons,List.length_nil,Env.find_set,M4,e42,ok1,len1,e0,kn24,Nat.zero_add]
   exact ⟨_,rfl⟩
  ·have e0:decide ((c.boxes.length:Int)=0)=false:=decide_eq_false (by omega)
   obtain ⟨s',hs'⟩:=nar_tail n hn cx (M.set 151 (.bool false)) u2 c c' ok okc' nar v1 v2 v3 w1 w2 w3 t1.n t4.n hour box (by omega) bx0 (by omega) (by omega) (by omega) (by omega) hCu hCu' e42 e72 (by simp only [Env.find_set,M4,reduceIte,Nat.reduceEqDiff]) (by simp only [Env.find_set,M6,reduceIte,Nat.reduceEqDiff]) (by simp only [Env.find_set,M7,reduceIte,Nat.reduceEqDiff]) (by simp only [Env.find_set,M8,reduceIte,Nat.reduceEqDiff])
   simp (disch:=first|omega|(with_unfolding_all exact rfl)|(simp only[new_n,put_n,new_m];omega)|(refine put_m_le ?_;simp only[new_m];omega)) only [K3r18,Abs.W,reduceIte,Nat.reduceEqDiff,Nat.reduceAdd,decide_true,decide_false,kLoop_def,Nat.reduceSub,List.cons_append,List.nil_append,List.append_nil,List.length_cons,List.length_nil,Env.find_set,M4,e42,ok1,len1,e0,Nat.zero_add]
   exact ⟨s',hs'⟩
 cases hdv:decide (V=3) with
 | true =>
  simp (config:={ maxSteps:=2000000 }) (disch:=first|omega|(with_unfolding_all exact rfl)|(simp only[new_n,put_n,new_m];omega)|(refine put_m_le ?_;simp only[new_m];omega)) only [q16_0,q16_s4,q16_s5,q16_s8,q16_s9,q16_s12,q16_s13,q16_s16,q16_s17,q16_s18,q16_s19,q16_s22,q16_s23,q16_s24,q16_s25,q16_s26,q16_s27,q16_s28,Abs.W,reduceIte,Nat.reduceEqDiff,Nat.reduceAdd,decide_true,decide_false,kLoop_def,Nat.reduceSub,List.cons_append,List.nil_append,List.append_nil,List.length_cons,List.length_nil,Env.find_set,l74,l75,l76,l77,l78,u2x,u2y,d0,knW,EW,hdv,Nat.zero_add]
  refine fin _ ?_ ?_ ?_ ?_<;>simp only [Env.find_set,l74,l76,l77,l78,reduceIte,Nat.reduceEqDiff]
 | false =>
  have hw:decide (V=W)=true:=decide_eq_true (hV (of_decide_eq_false hdv))
  simp (config:={ maxSteps:=2000000 }) (disch:=first|omega|(with_unfolding_all exact rfl)|(simp only[new_n,put_n,new_m];omega)|(refine put_m_le ?_;simp only[new_m];omega)) only [q16_0,q16_s4,q16_s5,q16_s8,q16_s9,q16_s12,q16_s13,q16_s16,q16_s17,q16_s18,q16_s19,q16_s22,q16_s23,q16_s24,q16_s25,q16_s26,q16_s27,q16_s28,Abs.W,reduceIte,Nat.reduceEqDiff,Nat.reduceAdd,decide_true,decide_false,kLoop_def,Nat.reduceSub,List.cons_append,List.nil_append,List.append_nil,List.length_cons,List.length_nil,Env.find_set,l74,l75,l76,l77,l78,u2x,u2y,d0,knW,EW,hdv,hw,Nat.zero_add]
  refine fin _ ?_ ?_ ?_ ?_<;>simp only [Env.find_set,l74,l76,l77,l78,reduceIte,Nat.reduceEqDiff]
end Go.Proofs.Ytlfalcghhckanaa.walk
namespace Go.Proofs.Ytlfalcghhckanaa.mdie
open Go.RowKit
def Die (b:Nat) (w:World):Prop:=∃ s,w.heap[b]? = some (.cells #[.int .u64 s] 56 (0,0))
theorem Die.old {b:Nat} {w:World} (h:Die b w):(∃ s,w.cell? ⟨b,0,none⟩=some (.int .u64 s))∧w.frozen? ⟨b,0,none⟩=false:=by
 obtain ⟨s,hs⟩:=h
 refine ⟨⟨s,?_⟩,?_⟩
 ·unfold World.cell?;simp [hs]
 ·unfold World.frozen?;simp [hs]
structure Stir (b:Nat) (w w':World):Prop where
 below:Below b w w'
 rest:∀ p:Addr,p.block≠b→p.block<w.heap.size→w'.cell? p=w.cell? p∧w'.frozen? p=w.frozen? p
 die:Die b w'
def Gives (b:Nat) (k:IntKind) (Q:Int→Prop) (w:World) (e:Ending) (w':World):Prop:=∃ r,Q r∧e=.returned (.int k r)∧Stir b w w'
theorem bits_nonneg (op:BinOp) (x y:Int):0≤bits op .u64 x y:=by
 have:=bounds_u64 (wf_bits (k:=.u64) (op:=op) (x:=x) (y:=y))
 exact this.1
theorem Stir.set {b:Nat} {w:World} (h:Die b w) (s:Int):Stir b w (w.setCell ⟨b,0,none⟩ (.int .u64 s)):=by
 obtain ⟨t,ht⟩:=h
 refine ⟨(Below.refl b w).setCell (p:=⟨b,0,none⟩) (Nat.le_refl b) _,fun p hp _=>⟨World.cell?_of_block (Below.heap_setCell _ _ _ _ hp),World.frozen?_of_block (Below.heap_setCell _ _ _ _ hp)⟩,⟨s,?_⟩⟩
 unfold World.setCell
 simp [Array.getElem?_modify,ht]
theorem roll (b:Nat) (w:World) (h:Die b w):Calls Try.prog 17 #[.pointer (some ⟨b,0,none⟩)] w (Gives b .u64 (fun r=>0≤r) w):=by
 have h':=Lib.hid h
 obtain ⟨⟨s,hs⟩,hf⟩:=h.old
 clear h
 go_enter Try.func17,Try.ntmps17
 go_wp2
 go_ret
 exact ⟨_,bits_nonneg _ _ _,rfl,Stir.set h'.out _⟩
theorem Stir.refl {b:Nat} {w:World} (h:Die b w):Stir b w w:=⟨Below.refl _ _,fun _ _ _=>⟨rfl,rfl⟩,h⟩
theorem Stir.trans {b:Nat} {u v w:World} (h:Stir b u v) (k:Stir b v w):Stir b u w :=
 ⟨h.below.trans k.below,fun p hp hb=>⟨(k.rest p hp (Nat.lt_of_lt_of_le hb h.below.size)).1.trans (h.rest p hp hb).1,(k.rest p hp (Nat.lt_of_lt_of_le hb h.below.size)).2.trans (h.rest p hp hb).2⟩,k.die⟩
theorem Die.lt {b:Nat} {w:World} (h:Die b w):b<w.heap.size:=by obtain ⟨⟨s,hs⟩,_⟩:=h.old;exact World.block_lt_of_cell? w _ hs
theorem Stir.drew {b:Nat} {w w':World} (h:Stir b w w'):Stir b w w'.drew:=h.trans ⟨⟨rfl,rfl,rfl,Nat.le_refl _,fun _ _=>rfl⟩,fun _ _ _=>⟨rfl,rfl⟩,h.die⟩
def Born (w:World) (e:Ending) (w':World):Prop:=e=.returned (.pointer (some ⟨w.heap.size,0,none⟩))∧Below w.heap.size w w'∧Die w.heap.size w'∧w.heap.size<w'.heap.size
theorem Die.born (w:World) (s:Int):Die w.heap.size (w.alloc (.cells #[.int .u64 s] 56)):=⟨s,by show (w.heap.push _)[w.heap.size]? = _;rw [Array.getElem?_push,if_pos rfl]⟩
set_option maxRecDepth 100000 in
theorem born (x:Option Addr) (n c:Nat) (w:World) (hn:n≤maxLen) (hc:∀ i,i<n→∃ b o,x=some ⟨b,o,none⟩∧∃ v,w.cell? ⟨b,o+i,none⟩=some (.int .i64 v)) :
  Calls Try.prog 4 #[.slice x n c] w (Born w):=by
 unfold maxLen at hn
 have HC:=Lib.hid hc
 clear hc
 have hdie:=Lib.hid (Die.born w 2611923443488327891)
 go_enter Try.func4,Try.ntmps4
 go_wp2
 go_loopw [4] (fun i wr=>∃ k:Nat,k≤n∧i=.int .i64 k∧Stir w.heap.size (w.alloc (.cells #[.int .u64 2611923443488327891] 56)) wr) (fun i _=>n - (intOf i).toNat)
 case atStart=>exact ⟨0,Nat.zero_le _,rfl,Stir.refl hdie.out⟩
 case round =>
  obtain ⟨k,hk,rfl,hs⟩:=hrel
  by_cases hlt:k<n
  ·obtain ⟨b,o,rfl,v,hv⟩:=HC.out k hlt
   have hb:=World.block_lt_of_cell? _ _ hv
   simp only at hb
   have hv1:wr.cell? ⟨b,o+k,none⟩=some (.int .i64 v):=((hs.rest ⟨b,o+k,none⟩ (Nat.ne_of_lt hb) (by simp;omega)).1.trans (World.cell?_of_block (Below.heap_alloc _ _ _ hb))).trans hv
   clear hv
   obtain ⟨⟨s,hd⟩,hf⟩:=hs.die.old
   have hst:=Lib.hid (fun s1:Int=>(hs.drew).trans (Stir.set hs.drew.die s1))
   have hlt':(k:Int)<(n:Int):=by omega
   have hk0:(0:Int)≤(k:Int):=by omega
   go_wp2
   go_still_tail 12,(by kernel_rfl)
   change wpList _ _ _ _ _ wr.drew
   go_wp2_with (go_at_call 17;refine (roll _ _ ?_).mono ?_;exact (hst.out _).die;rintro e w1 ⟨r,hr,rfl,hs1⟩;(have hs2:=(hst.out _).trans hs1))
   go_roundw
   case rel=>exact ⟨k+1,by omega,by go_num,hs2⟩
   case measure=>simp [intOf];omega
  ·go_wp2
   go_ret
   exact ⟨rfl,((Below.refl w.heap.size w).alloc (Nat.le_refl _) _).trans hs.below,hs.die,by have:=hs.below.size;simp at this;omega⟩
end Go.Proofs.Ytlfalcghhckanaa.mdie
namespace Go.Abs
open Go.RowKit
variable {P:Program}
theorem mid_calls {cl:CallF} (hc:CallSound P cl) {f:FuncId} {fn:Func} (hf:P.funcs[f]? = some fn) {c0 c1 rest:Code} (hb:fn.body=some (.seq c0 (.seq c1 rest))) {X:FuncId→List Nat} {k:K} {A:Array Value} {W:World} {R:Ending→World→Prop}
  (h:c0.wp P (Exit.then (fun a w=>c1.wp P (Exit.then (fun a w=>∃ ρ L s v s',ActRel ρ fn.ntmps L [] a∧Clean (X f) L∧SRel ρ s w∧finA P fn (k cl ⟨f,none,fn.ntmps,X f⟩ L [] s)=.val v s'∧∀ ρ' V W',After ρ s w ρ' s' W'→VRel ρ' v V→R (.returned V) W') fun _ _ _=>False) a w) fun _ _ _=>False)
   { tmps:=A++Array.replicate (fn.ntmps - A.size) undef,defers:=[] } W)
  (hk:codeK P (X f) fn.ntmps rest=some k):Calls P f A W R:=by
 intro cs
 obtain ⟨b,hbd⟩:∃ b:Frame,b={ (default:Frame) with fn:=f,kind:=.normal }:=⟨_,rfl⟩
 have hr:b.roundOf=none:=by rw [hbd];rfl
 have henter:Frame.enter P f A .normal=b.at { tmps:=A++Array.replicate (fn.ntmps - A.size) undef,defers:=[] } [.code (.seq c0 (.seq c1 rest))]:=by
  rw [hbd];simp [Frame.enter,Frame.at,hf,hb]
 obtain ⟨e0,a0,w0,q0,ar0⟩:=h b [.code (.seq c1 rest)] cs
 cases e0<;>simp only [Exit.then] at q0
 obtain ⟨e1,a1,w1,q1,ar1⟩:=q0 b [.code rest] cs
 cases e1<;>simp only [Exit.then] at q1
 obtain ⟨ρ,L,s,v,s',hact,hclean,hs,hfin,hR⟩:=q1
 have st1:Steps P (lone (Frame.enter P f A .normal) cs W) (lone (b.atR a1 [.code rest]) cs w1):=by
  rw [henter,Frame.atR_of_none hr]
  exact (Steps.head step_seq ar0).trans (Steps.head step_seq ar1)
 have hctx:CtxRel ρ ⟨f,none,fn.ntmps,X f⟩ b:=⟨by rw [hbd],by rw [hbd],fun _=>hr,fun l e=>by cases e⟩
 generalize hr2:k cl ⟨f,none,fn.ntmps,X f⟩ L [] s=r at hfin
 cases r with
 | fail=>cases hfin
 | done e L1 d s₁ =>
  obtain ⟨ρ₁,a₁,W₁,af,ha₁,_,_,st⟩:=codeK_sound rest hk hc rfl rfl hctx hact hclean hs hr2
  have fin:∀ (hle:leaveA P fn.results.toList L1 d s₁=.val v s') (hst:∃ t,Steps P (lone (Frame.enter P f A .normal) cs W) (lone (back b a₁ t) cs W₁)),
    ∃ V w' fr,R (.returned V) w'∧Steps P (lone (Frame.enter P f A .normal) cs W) (lone fr cs w')∧fr.fn=f∧fr.leaving P w' (.returned V):=by
   intro hle hst
   obtain ⟨V,W₂,af₂,hv,st₂⟩:=leaveA_calls ha₁ af.rel hle
   obtain ⟨t,st₁⟩:=hst
   obtain ⟨fr,h1,h2,h3⟩:=st₂ b (by rw [hbd]) (by rw [hbd];exact hf) t cs
   exact ⟨V,W₂,fr,hR _ _ _ (af.trans af₂) hv,Steps.trans st₁ h1,by rw [h2,hbd],h3⟩
  cases e with
  | exit id=>cases hfin
  | norm =>
   have z:=st [] cs
   obtain ⟨V,w',fr,h1,h2,h3,h4⟩:=fin hfin ⟨[],st1.trans (Steps.trans z (.one (stepR_end hr)))⟩
   exact ⟨.returned V,w',fr,h1,h2,h3,h4⟩
  | ret =>
   obtain ⟨k0,z⟩:=st [] cs
   obtain ⟨V,w',fr,h1,h2,h3,h4⟩:=fin hfin ⟨.code .ret::k0,st1.trans (z.trans (.one (stepR_ret hr)))⟩
   exact ⟨.returned V,w',fr,h1,h2,h3,h4⟩
end Go.Abs
set_option maxRecDepth 10000
namespace Go.Proofs.Ytlfalcghhckanaa.walk
open Go.Abs Go.RowKit Go.Proofs.Ytlfalcghhckanaa.code
noncomputable def die0 (F:Int):St:=St.new ⟨.nil,0,far⟩ (.cells [.int .u64 F] (tag 56))
def rho0 (d:Nat):Rho:=fun b=>if b=0 then some (d,(0,0)) else none
theorem die0_get {F:Int} {b:Nat} {o:AObj} (h:(die0 F).h.get b=some o):b=0∧o=.cells [.int .u64 F] (tag 56):=by
 by_cases e:b=0
 ·subst e
  have:(die0 F).h.get 0=some (.cells [.int .u64 F] (tag 56)):=get_new_eq _ _ _ rfl (by decide)
  rw [this] at h
  exact ⟨rfl,(Option.some.inj h).symm⟩
 ·unfold die0 at h
  rw [get_new_ne _ _ _ e] at h
  cases h
theorem die0_has {F:Int} {b x:Nat} {o:AObj} (h:Has (die0 F).h b x o):b=0∧x=0∧o=.cells [.int .u64 F] (tag 56):=by
 obtain ⟨y,hy,hp⟩:=h
 obtain ⟨rfl,rfl⟩:=die0_get hy
 have hl:AObj.lone (.cells [.int .u64 F] (tag 56)):=trivial
 rw [parts_lone hl] at hp
 have:=List.mem_singleton.mp hp
 cases this
 exact ⟨rfl,rfl,rfl⟩
theorem die0_rel {F:Int} {d:Nat} {W:World} (h:W.heap[d]? = some (.cells #[.int .u64 F] 56 (0,0))):SRel (rho0 d) (die0 F) W:=by
 refine ⟨⟨fun b o hb=>?_,fun b x o hb=>?_,fun b b' x x' o o' c e e' hb hb' _ _=>?_,fun g cs hg=>(by cases hg),fun b x o c e hb hr=>rfl,fun b x x' o o' c e e' hb hb' hr hr'=>?_⟩,fun b hb=>?_⟩
 ·rw [(die0_get hb).1];decide
 ·obtain ⟨rfl,rfl,rfl⟩:=die0_has hb
  exact ⟨d,(0,0),_,if_pos rfl,h,.cells rfl (.cons (.int _ _) .nil) (Typed.tag _)⟩
 ·rw [(die0_has hb).1,(die0_has hb').1]
 ·obtain ⟨_,rfl,_⟩:=die0_has hb
  obtain ⟨_,rfl,_⟩:=die0_has hb'
  rw [hr] at hr'
  cases hr'
  rfl
 ·have:1≤b:=hb
  exact if_neg (by omega)
end Go.Proofs.Ytlfalcghhckanaa.walk
set_option maxRecDepth 10000
namespace Go.Proofs.Ytlfalcghhckanaa.walk
open Go.Abs Go.RowKit Go.Proofs.Ytlfalcghhckanaa.code
set_option maxRecDepth 100000 in
theorem nar_calls (a:Option Addr) (n c:Nat) (w:World) (hn:n≤maxLen) (hc:∀ i,i<n→∃ b o,a=some ⟨b,o,none⟩∧∃ v,w.cell? ⟨b,o+i,none⟩=some (.int .i64 v)) :
  Calls Try.prog 3 #[.slice a n c] w fun e w'=>e=.returned (.bool true)∧Below w.heap.size w w':=by
 have HC:=Lib.hid hc
 clear hc
 refine mid_calls (cl:=knows 14 (call Try.prog X 20)) (knows_sound (call_sound 200) Try.func14 awake.entered (call_sound 20)) Try.func3 rfl (X:=X) (k:=narRest) ?_ (by kernel_rfl)
 simp only [Try.ntmps3,List.size_toArray,List.length_cons,List.length_nil,Nat.reduceAdd,Nat.reduceSub,Array.replicate_succ,Array.replicate_zero,List.push_toArray,List.append_toArray,List.nil_append,List.cons_append]
 go_wp2_with (go_at_call 4;((with_reducible refine (mdie.born _ _ _ _ hn HC.out).mono ?_);rintro e w1 ⟨rfl,hB1,⟨F,hF⟩,hg1⟩))
 have hd0:walk.Die 0 (die0 F).h:=⟨F,get_new_eq _ _ _ rfl (by decide)⟩
 obtain ⟨s',hs'⟩:=nar_body 20 (by omega) ⟨3,none,Try.f3.ntmps,X 3⟩ (die0 F) 0 hd0 (by show 0<1;omega) (by show 1+900000≤1000000000;omega) rfl
 refine ⟨rho0 w.heap.size,.cons 3 (.ptr 0 0) .nil,die0 F,.bool true,s',⟨fun t=>?_,rfl,.nil⟩,fun t ht=>?_,die0_rel hF,hs',fun ρ' V W' af hv=>?_⟩
 ·by_cases e:t=3
  ·subst e
   exact .ptr (e:=(0,0)) (if_pos rfl)
  ·rw [show (Env.cons 3 (.ptr 0 0) .nil).find t=AV.bad by rw [find_cons,if_neg (by omega)];rfl]
   exact .bad _
 ·by_cases e:t=3
  ·subst e
   have hx:(X 3).contains 3=true:=by kernel_rfl
   rw [hx] at ht
   cases ht
  ·rw [find_cons,if_neg (by omega)];rfl
 ·cases hv
  refine ⟨rfl,hB1.trans ⟨af.os,af.tape,af.output,af.size,fun k hk=>af.frame k (by omega) fun b x o e hb hr=>?_⟩⟩
  obtain ⟨_,rfl,_⟩:=die0_has hb
  have hr:some (w.heap.size,(0,0))=some (k,e):=hr
  injection hr with hr
  injection hr with hr _
  omega
end Go.Proofs.Ytlfalcghhckanaa.walk
