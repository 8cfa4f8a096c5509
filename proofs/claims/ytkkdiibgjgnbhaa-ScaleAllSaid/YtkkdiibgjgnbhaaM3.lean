/- Benches made of numbers: scales. -/
import Derived.Test.YtkkdiibgjgnbhaaM2
import Derived.Test.YtkkdiibgjgnbhaaM1
import Derived.Test.YtkkdiibgjgnbhaaWalkAll
set_option maxHeartbeats 16000000
set_option linter.unusedVariables false
set_option maxRecDepth 10000
namespace Go.Abs
theorem loop_start {b:K} {n:Nat} {cl:CallF} {cx:Ctx} {L:Env} {d:List Nat} {s:St} {r:R} (h:loopN b n cl cx L d s=r):∃ w L0,w=s∧L0=L∧loopN b n cl cx L0 d w=r:=⟨s,L,rfl,rfl,h⟩
end Go.Abs
namespace Go.Proofs.Ytkkdiibgjgnbhaa.walk
open Go.Abs Go.Proofs.Ytkkdiibgjgnbhaa.code
structure RowOf (S:Scl) (k:Nat) (l:List Int):Prop where
 len:l.length=k+1
 first:S.fl≤l.getD 0 0∧l.getD 0 0≤S.fh
 drift:∀ j,j<k→S.dl≤l.getD (j+1) 0 - l.getD j 0∧l.getD (j+1) 0 - l.getD j 0≤S.dh
 small:∀ j,j≤k → -(10+3 * (j:Int))≤l.getD j 0∧l.getD j 0≤10+3 * (j:Int)
theorem getD_front {l:List Int} {x:Int} {j:Nat} (h:j<l.length):(l++[x]).getD j 0=l.getD j 0:=by simp [List.getD,List.getElem?_append_left h]
theorem getD_back {l:List Int} {x:Int}:(l++[x]).getD l.length 0=x:=by simp [List.getD]
theorem RowOf.step {S:Scl} {k:Nat} {l:List Int} (r:RowOf S k l) {x:Int} (h:S.dl≤x∧x≤S.dh) (hd : -3≤S.dl∧S.dh≤3):RowOf S (k+1) (l++[l.getD k 0+x]):=by
 obtain ⟨r1,r2,r3,r4⟩:=r
 have e:(l++[l.getD k 0+x]).getD (k+1) 0=l.getD k 0+x:=by
  have:=getD_back (l:=l) (x:=l.getD k 0+x)
  rw [r1] at this;exact this
 refine ⟨by rw [List.length_append,r1];rfl,by rw [getD_front (by omega)];exact r2,fun j hj=>?_,fun j hj=>?_⟩
 ·by_cases hjk:j<k
  ·rw [getD_front (by omega),getD_front (by omega)];exact r3 j hjk
  ·obtain rfl:j=k:=by omega
   rw [e,getD_front (by omega)]
   omega
 ·by_cases hjk:j≤k
  ·rw [getD_front (by omega)];exact r4 j hjk
  ·obtain rfl:j=k+1:=by omega
   have:=r4 k (Nat.le_refl _)
   rw [e]
   omega
theorem made_day (N:Nat) (hN:6≤N) (cx:Ctx) {d p13 p14 lo px bl k:Nat} {b:Bench} {offs:List Int} {errs:List (List Int)} {rv:List AV} {xs:List Nat} {bs:Nat→Nat} {vs:Nat→AV} {L:Env} {s:St} {S:Scl} {l:List Int} {v:AV} (hk:k<b.days) (hdy:b.days≤8) (hs:s.n+2000≤far)
  (hM:Made s.h s.n d p13 p14 lo b offs errs rv xs bs vs) (hl:Blk s.h s.n bl 1 (tag 3) (intRows l) v) (hr:RowOf S k l) (hS : -3≤S.dl∧S.dl≤S.dh∧S.dh≤3) (hb:lo≤bl∧(∀ i,bs i≠bl)∧∀ x ∈ xs,x≠bl) (gx:s.h.get px=some (.cells S.cells (tag 54))) (hx:lo≤px∧px<s.n∧px≠bl)
  (l0:L.find 0=.ptr d 0) (l13:L.find 13=.ptr p13 0) (l18:L.find 18=.ptr px 0) (l19:L.find 19=v) (l20:L.find 20=.int .i64 k) :
  ∃ L1 s1 x bl1 v1,K11l1 (call Try.prog X N) cx L [] s=.done .norm L1 [] s1∧(∀ t,t=0∨t=2∨t=3∨t=10∨t=11∨t=12∨t=13∨t=14∨t=17∨t=18→L1.find t=L.find t)∧L1.find 19=v1∧L1.find 20=.int .i64 ((k+1:Nat):Int)∧RowOf S (k+1) (l++[x]) ∧
   Blk s1.h s1.n bl1 1 (tag 3) (intRows (l++[x])) v1∧s.n≤bl1∧Made s1.h s1.n d p13 p14 lo b offs errs rv xs bs vs∧Goes s s1 d p13 p14 lo 10∧s1.h.get px=some (.cells S.cells (tag 54)):=by
 have hf:far=1000000000:=rfl
 obtain ⟨pd,pp,plo,pn⟩:=hM.pl
 have dd:=hM.die
 have g13:=hM.g13
 have e0:decide ((k:Int)<(b.days:Int))=true:=decide_eq_true (by omega)
 have lln:(intRows l).length=k+1:=by rw [intRows_len,hr.len]
 have hi:=fun s=>hl.ixs (i:=k) (by omega) s
 obtain ⟨sz,hg⟩:=hl.get
 have hc:=hl.cut (i:=k) (by omega)
 have hlk:(intRows l)[k]'(by omega)=[.int .i64 (l.getD k 0)]:=by
  have:k<l.length:=by rw [hr.len];omega
  simp [intRows,List.getD,this]
 rw [hlk] at hc
 have hn:=cut1_nth hc
 have hvo:=hl.okA
 have hbn:=hl.lt
 have gx':=gx
 unfold Scl.cells at gx'
 simp (disch:=first|omega|(with_unfolding_all exact rfl)|(simp only[new_n,put_n,new_m];omega)|(refine put_m_le ?_;simp only[new_m];omega)) only [K11r15,K11r16,K11r17,K11l1,Abs.W,reduceIte,Nat.reduceEqDiff,Nat.reduceSub,Env.find_set,l0,l13,l18,l19,l20,g13,e0,hi,hg,hn,gx',Nat.zero_add]
 generalize hc1:call _ _ _ (.fn 37) _ _=r1
 obtain ⟨x,t1,rfl,st1,d1,x0,x1⟩:=true_ex hc1 (by omega) dd (by show d<s.n;omega) (by show s.n+600≤far;omega) (by omega) (by omega) (by omega)
 have n1:s.n≤t1.n:=st1.n
 have k1:t1.n≤s.n+3:=st1.le
 have g1:∀ c,c<s.n→c≠d→t1.h.get c=s.h.get c:=fun c hc hcd=>st1.same c hc hcd
 have hsm:=hr.small k (Nat.le_refl _)
 have ad:∀ s,aAdd s .i64 (l.getD k 0) x=.val (.int .i64 (l.getD k 0+x)) s:=fun s=>aAdd_i64 s _ _ (by omega)
 have ad1:∀ s,aAdd s .i64 (k:Int) 1=.val (.int .i64 ((k:Int)+1)) s:=fun s=>aAdd_i64 s _ _ (by omega)
 simp (disch:=first|omega|(with_unfolding_all exact rfl)|(simp only[new_n,put_n,new_m];omega)|(refine put_m_le ?_;simp only[new_m];omega)) only [thenT_turn,Abs.W,reduceIte,Nat.reduceEqDiff,Nat.reduceSub,Env.find_set,ad]
 obtain ⟨y,hy⟩:∃ y:St,y=(⟨t1.h,t1.n,minN s.m t1.m⟩:St).new (.cells [.int .i64 (l.getD k 0+x)] 0):=⟨_,rfl⟩
 rw [← hy]
 have yn:y.n=t1.n+1:=by rw [hy];rfl
 have ym:y.m=min s.m t1.m:=by rw [hy];simp only [St.new,minN_eq]
 have yg:∀ c,c<t1.n→y.h.get c=t1.h.get c:=fun c hc=>by rw [hy];exact get_new_ne _ _ _ (by show c≠t1.n;omega)
 have yp:y.h.get t1.n=some (.cells [.int .i64 (l.getD k 0+x)] 0):=by rw [hy];exact get_new_eq _ _ _ rfl (by show t1.n<_;omega)
 have hly:Blk y.h y.n bl 1 (tag 3) (intRows l) v:=hl.mono ((yg _ (by omega)).trans (g1 _ hbn (by omega))) (by omega)
 obtain ⟨s2,e2,B2,s2n,s2g,s2m,s2l⟩:=append_blk (bytes:=8) hly yp rfl rfl (by rw [lln];omega) (by kernel_rfl) (by omega)
 rw [lln] at e2 B2
 have e2':appendA false 1 8 (tag 3) y v (.slice t1.n 0 1 1 false)=.val (.slice y.n 0 (k+1+1) (k+1+1) true) s2:=e2
 simp (disch:=first|omega|(with_unfolding_all exact rfl)|(simp only[new_n,put_n,new_m];omega)|(refine put_m_le ?_;simp only[new_m];omega)) only [Abs.W,reduceIte,Nat.reduceEqDiff,Env.find_set,e2']
 rw [endT_kept (l:=[107]) (s':=t1) (by simp only [keptAll_cons,keptAll_nil,find_cons,Env.find_set,keptV_ptr,hg,g1 bl hbn (by omega),sameO_cells,reduceIte,Nat.reduceEqDiff,Bool.and_self])]
 simp (disch:=first|omega|(with_unfolding_all exact rfl)|(simp only[new_n,put_n,new_m];omega)|(refine put_m_le ?_;simp only[new_m];omega)) only [Abs.W,reduceIte,Nat.reduceEqDiff,Env.find_set,l20,ad1]
 have fr:∀ c,c<s.n→c≠d→c≠bl→s2.h.get c=s.h.get c:=fun c h1 h2 h3=>(s2g c (by omega) h3).trans ((yg c (by omega)).trans (g1 c h1 h2))
 refine ⟨_,s2,l.getD k 0+x,y.n,.slice y.n 0 (k+1+1) (k+1+1) true,rfl,fun t ht=>?_,?_,?_,hr.step ⟨x0,x1⟩ ⟨hS.1,hS.2.2⟩,?_,by omega,hM.keep' ?_ fr (by omega) hb,⟨fun c h1 h2 h3 h4=>?_,by omega,by omega,fun h=>?_,?_⟩,?_⟩
 ·rcases ht with rfl | rfl | rfl | rfl | rfl | rfl | rfl | rfl | rfl | rfl<;>simp only [Env.find_set,reduceIte,Nat.reduceEqDiff]
 ·simp only [Env.find_set,reduceIte,Nat.reduceEqDiff]
 ·simp only [Env.find_set,reduceIte,Nat.reduceEqDiff];rfl
 ·rw [intRows_snoc];exact B2
 ·exact d1.keep ((s2g d (by omega) (by omega)).trans (yg d (by omega)))
 ·exact fr c (by omega) h2 (by omega)
 ·have a1:=st1.m (by show d≤far;omega)
  have a2:=s2m d (by omega) (by omega)
  omega
 ·omega
 ·exact (fr px hx.2.1 (by omega) hx.2.2).trans gx
theorem made_scale (N:Nat) (hN:6≤N) (cx:Ctx) {d p13 p14 lo i:Nat} {b:Bench} {offs:List Int} {errs:List (List Int)} {rv:List AV} {xs:List Nat} {bs:Nat→Nat} {vs:Nat→AV} {L:Env} {s:St} (hi:0<i) (hi6:i≤10) (hs:s.n+5000≤far) (hdy:b.days≤8)
  (hM:Made s.h s.n d p13 p14 lo b offs errs rv xs bs vs) (hbl:b.ss.length≤10) (hel:errs.length≤10) (l0:L.find 0=.ptr d 0) (l13:L.find 13=.ptr p13 0) (l14:L.find 14=.ptr p14 0) (l17:L.find 17=.int .i64 i) :
  ∃ L1 s1 S l rv1 xs1 bs1 vs1,K11l2 (call Try.prog X N) cx L [] s=.done .norm L1 [] s1∧(∀ t,t=0∨t=3∨t=10∨t=11∨t=12∨t=13∨t=14→L1.find t=L.find t)∧L1.find 17=.int .i64 ((i:Int) - 1)∧S.Ok∧RowOf S b.days l ∧
   Made s1.h s1.n d p13 p14 lo { b with ss:=b.ss++[S] } offs (errs++[l]) rv1 xs1 bs1 vs1∧Goes s s1 d p13 p14 lo 120:=by
 have hf:far=1000000000:=rfl
 have e0:decide ((0:Int)<(i:Int))=true:=by simp;omega
 obtain ⟨pd,pp,plo,pn⟩:=hM.pl
 have hd:=hM.die
 simp (disch:=first|omega|(with_unfolding_all exact rfl)|(simp only[new_n,put_n,new_m];omega)|(refine put_m_le ?_;simp only[new_m];omega)) only [K11r11,K11r12,K11r13,K11r14,K11r18,K11r19,K11l2,Abs.W,reduceIte,Nat.reduceEqDiff,Nat.reduceSub,Env.find_set,l0,l17,e0]
 generalize hc1:call _ _ _ (.fn 35) _ _=r1
 obtain ⟨x1,t1,rfl,st1,d1,m1⟩:=one_ex [2,9] hc1 (by omega) (hd.new (by omega) _) (by simp only [new_n];omega) (by simp only [new_n];omega) (get_new_eq _ _ _ rfl (by omega)) (by simp only [new_n];omega) (by omega) rfl (by omega) (by omega)
 have x1r:x1=2∨x1=9:=by simpa using m1
 have n1:s.n+1≤t1.n:=st1.n
 have k1:t1.n≤s.n+1:=st1.le
 have ng:∀ s,negA s (.int .i64 x1)=.val (.int .i64 (-x1)) s:=fun s=>neg_i64 s _ (by omega)
 simp (disch:=first|omega|(with_unfolding_all exact rfl)|(simp only[new_n,put_n,new_m];omega)|(refine put_m_le ?_;simp only[new_m];omega)) only [Abs.W,reduceIte,Nat.reduceEqDiff,Nat.reduceSub,Env.find_set,l0,ng]
 generalize hc2:call _ _ _ (.fn 35) _ _=r2
 obtain ⟨x2,t2,rfl,st2,d2,m2⟩:=one_ex [2,9] hc2 (by omega) (d1.new (by omega) _) (by simp only [new_n];omega) (by simp only [new_n];omega) (get_new_eq _ _ _ rfl (by omega)) (by simp only [new_n];omega) (by omega) rfl (by omega) (by omega)
 have x2r:x2=2∨x2=9:=by simpa using m2
 have n2:t1.n+1≤t2.n:=st2.n
 have k2:t2.n≤t1.n+1:=st2.le
 simp (disch:=first|omega|(with_unfolding_all exact rfl)|(simp only[new_n,put_n,new_m];omega)|(refine put_m_le ?_;simp only[new_m];omega)) only [Abs.W,reduceIte,Nat.reduceEqDiff,Env.find_set]
 generalize hc3:call _ _ _ (.fn 34) _ _=r3
 obtain ⟨fa,fb,t3,rfl,st3,d3,a0,a1,a2⟩:=span_ex hc3 (by omega) d2 (by omega) (by omega) (by omega) (by omega) (by omega)
 have n3:t2.n≤t3.n:=st3.n
 have k3:t3.n≤t2.n+2:=st3.le
 simp (disch:=first|omega|(with_unfolding_all exact rfl)|(simp only[new_n,put_n,new_m];omega)|(refine put_m_le ?_;simp only[new_m];omega)) only [Abs.W,reduceIte,Nat.reduceEqDiff,Nat.reduceSub,Env.find_set,l0]
 generalize hc4:call _ _ _ (.fn 35) _ _=r4
 obtain ⟨x4,t4,rfl,st4,d4,m4⟩:=one_ex [0,3] hc4 (by omega) (d3.new (by omega) _) (by simp only [new_n];omega) (by simp only [new_n];omega) (get_new_eq _ _ _ rfl (by omega)) (by simp only [new_n];omega) (by omega) rfl (by omega) (by omega)
 have x4r:x4=0∨x4=3:=by simpa using m4
 have n4:t3.n+1≤t4.n:=st4.n
 have k4:t4.n≤t3.n+1:=st4.le
 simp (disch:=first|omega|(with_unfolding_all exact rfl)|(simp only[new_n,put_n,new_m];omega)|(refine put_m_le ?_;simp only[new_m];omega)) only [Abs.W,reduceIte,Nat.reduceEqDiff,Env.find_set]
 generalize hc5:call _ _ _ (.fn 34) _ _=r5
 obtain ⟨da,db,t5,rfl,st5,d5,c0,c1,c2⟩:=span_ex hc5 (by omega) d4 (by omega) (by omega) (by omega) (by omega) (by omega)
 have n5:t4.n≤t5.n:=st5.n
 have k5:t5.n≤t4.n+2:=st5.le
 simp (disch:=first|omega|(with_unfolding_all exact rfl)|(simp only[new_n,put_n,new_m];omega)|(refine put_m_le ?_;simp only[new_m];omega)) only [Abs.W,reduceIte,Nat.reduceEqDiff,Nat.reduceAdd,Nat.reduceSub,Env.find_set,l0,Nat.zero_add]
 obtain ⟨S,hSd⟩:∃ S:Scl,S=⟨fa,fb,da,db⟩:=⟨_,rfl⟩
 have hSc:S.cells=[.int .i64 fa,.int .i64 fb,.int .i64 da,.int .i64 db]:=by rw [hSd];rfl
 obtain ⟨y,hy⟩:∃ y:St,y=(t5.new (.cells [.int .i64 0,.int .i64 0,.int .i64 0,.int .i64 0] (tag 54))).put t5.n (.cells [.int .i64 fa,.int .i64 fb,.int .i64 da,.int .i64 db] (tag 54)):=⟨_,rfl⟩
 rw [← hy]
 have yn:y.n=t5.n+1:=by rw [hy];rfl
 have ym:y.m=min t5.m t5.n:=by rw [hy];simp only [St.put,minN_eq,new_m]
 have yg:∀ c,c≠t5.n→y.h.get c=t5.h.get c:=fun c hc=>by rw [hy,get_put_ne' _ _ _ _ hc,get_new_ne _ _ _ hc]
 have yp:y.h.get t5.n=some (.cells [.int .i64 fa,.int .i64 fb,.int .i64 da,.int .i64 db] (tag 54)):=by rw [hy];exact get_put_eq _ _ _ _ rfl (by omega)
 have dy:Die d y.h:=d5.keep (yg _ (by omega))
 generalize hc6:call _ _ _ (.fn 37) _ _=r6
 obtain ⟨x0,t6,rfl,st6,d6,x00,x01⟩:=true_ex hc6 (by omega) dy (by omega) (by omega) (by omega) (by omega) (by omega)
 have n6:y.n≤t6.n:=st6.n
 have k6:t6.n≤y.n+3:=st6.le
 simp (disch:=first|omega|(with_unfolding_all exact rfl)|(simp only[new_n,put_n,new_m];omega)|(refine put_m_le ?_;simp only[new_m];omega)) only [Abs.W,reduceIte,Nat.reduceEqDiff,kLoop_def,Nat.reduceSub,Env.find_set]
 generalize hl:loopN _ rounds _ _ _ _ _=rl
 obtain ⟨w,L0,hw,hL0,hl'⟩:=loop_start hl
 have wn:w.n=t6.n+1:=by rw [hw];rfl
 have wm:w.m=t6.m:=by rw [hw];rfl
 have wg:∀ c,c<t6.n→w.h.get c=t6.h.get c:=fun c hc=>by rw [hw,get_new_ne _ _ _ (by omega)]
 have wp:w.h.get t6.n=some (.cells [.int .i64 x0] 0):=by rw [hw];exact get_new_eq _ _ _ rfl (by omega)
 have back:∀ c,c<s.n→c≠d→w.h.get c=s.h.get c:=fun c hc h2=>by
  rw [wg c (by omega),st6.same c (by omega) h2,yg c (by omega),st5.same c (by omega) h2,st4.same c (by simp only [new_n];omega) h2,get_new_ne _ _ _ (by omega),st3.same c (by omega) h2,st2.same c (by simp only [new_n];omega) h2,get_new_ne _ _ _ (by omega),st1.same c (by simp only [new_n];omega) h2,get_new_ne _ _ _ (by omega)]
 have hMw:Made w.h w.n d p13 p14 lo b offs errs rv xs bs vs:=hM.keep (d6.keep (wg d (by omega))) back (by omega)
 have bsf:∀ j,bs j<s.n∨far<bs j:=hM.ls.far
 have bsl:∀ j,lo≤bs j:=hM.ls.lo
 have xlt:∀ j (h:j<xs.length),xs[j]<s.n:=fun j h=>(hM.er j (by have:=hM.el;have:=hM.xl;omega) (by have:=hM.xl;omega) h).lt
 have xlt':∀ x ∈ xs,x<s.n:=fun x hx=>by obtain ⟨j,hj,rfl⟩:=List.getElem_of_mem hx;exact xlt j hj
 have gxw:w.h.get t5.n=some (.cells S.cells (tag 54)):=by rw [hSc,wg _ (by omega),st6.same _ (by omega) (by omega)];exact yp
 have hS3 : -3≤S.dl∧S.dl≤S.dh∧S.dh≤3:=by rw [hSd];exact ⟨by simp only;omega,c1,by simp only;omega⟩
 have hr0:RowOf S 0 [x0]:=by
  refine ⟨rfl,by rw [hSd];exact ⟨x00,x01⟩,fun j hj=>absurd hj (Nat.not_lt_zero j),fun j hj=>?_⟩
  obtain rfl:j=0:=by omega
  show -(10+3 * ((0:Nat):Int))≤x0∧x0≤10+3 * ((0:Nat):Int)
  omega
 have hB0:Blk w.h w.n t6.n 1 (tag 3) (intRows [x0]) (.slice t6.n 0 1 1 false):=⟨fun r hr=>by simp [intRows] at hr;rw [hr];rfl,false,0,rfl,by omega,wp,fun h=>by cases h⟩
 obtain ⟨e,L1,s1,rfl,rfl,l,v,bl,q0,q13,q14,q17,q18,qf,q19,hr,hB,hbl1,hM1,hG1,gx1⟩:=loop_of hl' (fun k L' t'=>∃ l v bl,L'.find 0=.ptr d 0∧L'.find 13=.ptr p13 0∧L'.find 14=.ptr p14 0∧L'.find 17=.int .i64 i∧L'.find 18=.ptr t5.n 0∧(∀ t,t=3∨t=10∨t=11∨t=12→L'.find t=L.find t)∧L'.find 19=v∧L'.find 20=.int .i64 k∧RowOf S k l∧Blk t'.h t'.n bl 1 (tag 3) (intRows l) v∧(s.n≤bl∧bl≠t5.n)∧Made t'.h t'.n d p13 p14 lo b offs errs rv xs bs vs∧Goes w t' d p13 p14 lo (10 * k)∧t'.h.get t5.n=some (.cells S.cells (tag 54)))
  (fun e L' t'=>e=.exit 4∧∃ l v bl,L'.find 0=.ptr d 0∧L'.find 13=.ptr p13 0∧L'.find 14=.ptr p14 0∧L'.find 17=.int .i64 i∧L'.find 18=.ptr t5.n 0∧(∀ t,t=3∨t=10∨t=11∨t=12→L'.find t=L.find t)∧L'.find 19=v∧RowOf S b.days l∧Blk t'.h t'.n bl 1 (tag 3) (intRows l) v∧(s.n≤bl∧bl≠t5.n)∧Made t'.h t'.n d p13 p14 lo b offs errs rv xs bs vs∧Goes w t' d p13 p14 lo (10 * b.days)∧t'.h.get t5.n=some (.cells S.cells (tag 54))) b.days (by unfold rounds;omega)
  ⟨[x0],.slice t6.n 0 1 1 false,t6.n,by rw [hL0];simp only [Env.find_set,l0,reduceIte,Nat.reduceEqDiff],by rw [hL0];simp only [Env.find_set,l13,reduceIte,Nat.reduceEqDiff],by rw [hL0];simp only [Env.find_set,l14,reduceIte,Nat.reduceEqDiff],by rw [hL0];simp only [Env.find_set,l17,reduceIte,Nat.reduceEqDiff],by rw [hL0];simp only [Env.find_set,reduceIte,Nat.reduceEqDiff],fun t ht=>by rw [hL0];rcases ht with rfl | rfl | rfl | rfl<;>simp only [Env.find_set,reduceIte,Nat.reduceEqDiff],by rw [hL0];simp only [Env.find_set,reduceIte,Nat.reduceEqDiff],by rw [hL0];simp only [Env.find_set,reduceIte,Nat.reduceEqDiff];rfl,hr0,hB0,⟨by omega,by omega⟩,hMw,Goes.refl _ _ _ _ _,gxw⟩
  (fun k L' t' hk ⟨l,v,bl,q0,q13,q14,q17,q18,qf,q19,q20,hr,hB,hbl1,hM1,hG1,gx1⟩=>by
   have:=hG1.le
   have:=hG1.n
   by_cases hlt:k<b.days
   ·obtain ⟨L2,t2',x,bl2,v2,p1,p2,p3,p4,p5,p6,p7,p8,p9,pa⟩:=made_day N hN cx hlt hdy (by omega) hM1 hB hr hS3 ⟨by omega,fun j=>(by have:=bsf j;have:=hB.lt;omega),fun x hx=>(by have:=xlt' x hx;omega)⟩ gx1 ⟨by omega,by omega,fun e=>hbl1.2 e.symm⟩ q0 q13 q18 q19 q20
    refine .inl ⟨hlt,L2,t2',p1,l++[x],v2,bl2,?_,?_,?_,?_,?_,fun t ht=>?_,p3,p4,p5,p6,⟨by omega,by omega⟩,p8,(hG1.trans p9).mono (by omega),pa⟩
    ·rw [p2 0 (by omega)];exact q0
    ·rw [p2 13 (by omega)];exact q13
    ·rw [p2 14 (by omega)];exact q14
    ·rw [p2 17 (by omega)];exact q17
    ·rw [p2 18 (by omega)];exact q18
    ·rw [p2 t (by omega)];exact qf t ht
   ·obtain rfl:k=b.days:=by omega
    have e1:decide ((b.days:Int)<(b.days:Int))=false:=by simp
    have g13:=hM1.g13
    refine .inr ⟨.exit 4,L'.set 101 (.bool false),t',by simp,?_,rfl,l,v,bl,?_,?_,?_,?_,?_,fun t ht=>?_,?_,hr,hB,hbl1,hM1,hG1,gx1⟩
    ·simp (disch:=first|omega|(with_unfolding_all exact rfl)|(simp only[new_n,put_n,new_m];omega)|(refine put_m_le ?_;simp only[new_m];omega)) only [K11r15,K11r16,K11r17,K11l1,Abs.W,reduceIte,Nat.reduceEqDiff,Nat.reduceSub,Env.find_set,q13,q20,g13,e1,Nat.zero_add]
    ·simp only [Env.find_set,q0,reduceIte,Nat.reduceEqDiff]
    ·simp only [Env.find_set,q13,reduceIte,Nat.reduceEqDiff]
    ·simp only [Env.find_set,q14,reduceIte,Nat.reduceEqDiff]
    ·simp only [Env.find_set,q17,reduceIte,Nat.reduceEqDiff]
    ·simp only [Env.find_set,q18,reduceIte,Nat.reduceEqDiff]
    ·rw [Env.find_set,if_neg (by omega)];exact qf t ht
    ·simp only [Env.find_set,q19,reduceIte,Nat.reduceEqDiff])
 obtain ⟨dz,z13,z14,lz,el,xl,er,xo,_⟩:=hM1
 have G1n:=hG1.n
 have G1l:=hG1.le
 have okm:=(lz.at_ 2).okA
 have oko:=(lz.at_ 5).okA
 have vok:=hB.okA
 have gx2:=gx1
 rw [hSc] at gx2
 simp (disch:=first|omega|(with_unfolding_all exact rfl)|(simp only[new_n,put_n,new_m];omega)|(refine put_m_le ?_;simp only[new_m];omega)) only [Abs.W,reduceIte,Nat.reduceEqDiff,Nat.reduceAdd,Nat.reduceSub,q13,q18,z13,gx2,okm,Nat.zero_add]
 obtain ⟨y2,hy2⟩:∃ y2:St,y2=s1.new (.cells [.int .i64 fa,.int .i64 fb,.int .i64 da,.int .i64 db] 0):=⟨_,rfl⟩
 rw [← hy2]
 have y2n:y2.n=s1.n+1:=by rw [hy2];rfl
 have y2m:y2.m=s1.m:=by rw [hy2];rfl
 have y2g:∀ c,c<s1.n→y2.h.get c=s1.h.get c:=fun c hc=>by rw [hy2,get_new_ne _ _ _ (by omega)]
 have y2p:y2.h.get s1.n=some (.cells [.int .i64 fa,.int .i64 fb,.int .i64 da,.int .i64 db] 0):=by rw [hy2];exact get_new_eq _ _ _ rfl (by omega)
 have l2:Lists y2.h y2.n lo benchW benchT (benchR b offs rv) bs vs:=lz.mono (fun j hj=>y2g _ hj) (by omega)
 obtain ⟨s7,v7,e7,l7,s7n,s7g,s7m,s7l⟩:=l2.push 2 (bytes:=32) y2p rfl rfl (by show ((b.ss.map Scl.cells).length+1) * 32≤1000000;rw [List.length_map];omega) (by kernel_rfl) (by omega) (by omega)
 have e7':appendA false 4 32 (tag 54) y2 (vs 2) (.slice s1.n 0 1 1 false)=.val v7 s7:=e7
 have n2':∀ c,c<lo→c≠bs 2:=fun c hc=>by have:=bsl 2;omega
 have n5':∀ c,c<lo→c≠bs 5:=fun c hc=>by have:=bsl 5;omega
 have g7:∀ c,c<s1.n→c≠bs 2→s7.h.get c=s1.h.get c:=fun c h1 h3=>(s7g c (by omega) h3).trans (y2g c h1)
 have g714:=(g7 p14 (by omega) (n2' _ (by omega))).trans z14
 have scv:scalars [v]=true:=by
  show (match v.scalar with | true=>scalars [] | false=>false)=true
  rw [hB.scal];rfl
 have scc:=hB.cells
 have cn:cellsOf 1 (AV.nilslice)=some [AV.nilslice]:=rfl
 simp (disch:=first|omega|(with_unfolding_all exact rfl)|(simp only[new_n,put_n,new_m];omega)|(refine put_m_le ?_;simp only[new_m];omega)) only [Abs.W,reduceIte,Nat.reduceEqDiff,Nat.reduceSub,e7',q14,q19,g714,oko,scc,Nat.zero_add]
 obtain ⟨y9,hy9⟩:∃ y9:St,y9=s7.new (.cells [v] 0):=⟨_,rfl⟩
 rw [← hy9]
 have y9n:y9.n=s7.n+1:=by rw [hy9];rfl
 have y9m:y9.m=s7.m:=by rw [hy9];rfl
 have y9g:∀ c,c<s7.n→y9.h.get c=s7.h.get c:=fun c hc=>by rw [hy9,get_new_ne _ _ _ (by omega)]
 have y9p:y9.h.get s7.n=some (.cells [v] 0):=by rw [hy9];exact get_new_eq _ _ _ rfl (by omega)
 have l9:=l7.mono (h':=y9.h) (n':=y9.n) (fun j hj=>y9g _ hj) (by omega)
 obtain ⟨s10,v10,e10,l10,s10n,s10g,s10m,s10l⟩:=l9.push 5 (bytes:=24) y9p rfl scv (by rw [upd_ne _ _ _ (by omega)];show ((rv.map fun v=>[v]).length+1) * 24≤1000000;rw [List.length_map,el];omega) (by kernel_rfl) (by omega) (by omega)
 rw [upd_ne _ _ _ (by omega)] at e10
 have e10':appendA false 1 24 (tag 22) y9 (vs 5) (.slice s7.n 0 1 1 false)=.val v10 s10:=e10
 have hb5:upd bs 2 y2.n 5=bs 5:=upd_ne _ _ _ (by omega)
 rw [hb5] at s10g
 have g10:∀ c,c<s1.n→c≠bs 2→c≠bs 5→s10.h.get c=s1.h.get c:=fun c h1 h3 h4=>(s10g c (by omega) h4).trans ((y9g c (by omega)).trans (g7 c h1 h3))
 have r13:=(g10 p13 (by omega) (n2' _ (by omega)) (n5' _ (by omega))).trans z13
 have r14:=(g10 p14 (by omega) (n2' _ (by omega)) (n5' _ (by omega))).trans z14
 have sc7:=(l10.at_ 2).scal
 rw [upd_ne _ _ _ (by omega),upd_at] at sc7
 have sc10:=(l10.at_ 5).scal
 rw [upd_at] at sc10
 obtain ⟨sc71,sc72⟩:=sc7
 obtain ⟨sc101,sc102⟩:=sc10
 have asb:∀ s,aSub s .i64 (i:Int) 1=.val (.int .i64 ((i:Int) - 1)) s:=fun s=>aSub_i64 s _ _ (by omega)
 simp (disch:=first|omega|(with_unfolding_all exact rfl)|(simp only[new_n,put_n,new_m];omega)|(refine put_m_le ?_;simp only[new_m];omega)) only [Abs.W,reduceIte,Nat.reduceEqDiff,Nat.reduceSub,e10',q13,q14,r13,r14,sc71,sc72,sc101,sc102,Nat.zero_add]
 rw [endO_ok _ (by
  rw [endOk_cons,endOk_nil]
  simp only [find_cons,reduceIte,Nat.reduceEqDiff]
  exact (lz.at_ 2).apart (fun e=>n2' p14 (by omega) e.symm))]
 simp (disch:=first|omega|(with_unfolding_all exact rfl)|(simp only[new_n,put_n,new_m];omega)|(refine put_m_le ?_;simp only[new_m];omega)) only [Abs.W,reduceIte,Nat.reduceEqDiff,q17,asb]
 generalize hsf:St.put (St.put s10 _ _) _ _=sf
 have sfn:sf.n=s10.n:=by rw [← hsf];rfl
 have sfm:sf.m=min (min s10.m p13) p14:=by rw [← hsf];simp only [St.put,minN_eq]
 have sfg:∀ c,c≠p13→c≠p14→sf.h.get c=s10.h.get c:=fun c h1 h2=>by rw [← hsf,get_put_ne' _ _ _ _ h2,get_put_ne' _ _ _ _ h1]
 have sf13:sf.h.get p13=some (.cells [vs 0,vs 1,v7,vs 3,.int .i64 b.days] (tag 28)):=by rw [← hsf,get_put_ne' _ _ _ _ (by omega)];exact get_put_eq _ _ _ _ rfl (by omega)
 have sf14:sf.h.get p14=some (.cells [vs 4,v10] (tag 36)):=by rw [← hsf];exact get_put_eq _ _ _ _ rfl (by omega)
 have dsf:Die d sf.h:=dz.keep ((sfg d (by omega) (by omega)).trans (g10 d (by omega) (n2' _ (by omega)) (n5' _ (by omega))))
 have hfun:upd (upd (benchR b offs rv) 2 (benchR b offs rv 2++[[.int .i64 fa,.int .i64 fb,.int .i64 da,.int .i64 db]])) 5 (upd (benchR b offs rv) 2 (benchR b offs rv 2++[[.int .i64 fa,.int .i64 fb,.int .i64 da,.int .i64 db]]) 5++[[v]])=benchR { b with ss:=b.ss++[S] } offs (rv++[v]):=by
  funext j
  match j with
  | 0=>rfl
  | 1=>rfl
  | 2 =>
   show b.ss.map Scl.cells++[_]=(b.ss++[S]).map Scl.cells
   rw [List.map_append,List.map_cons,List.map_nil,hSc]
  | 3=>rfl
  | 4=>rfl
  | 5 =>
   show (rv.map fun v=>[v])++[[v]]=(rv++[v]).map fun v=>[v]
   rw [List.map_append];rfl
  | n+6=>rfl
 rw [hfun] at l10
 have bl2:∀ j,bl≠bs j:=fun j=>by have:=bsf j;have:=hB.lt;omega
 have hbl2:=hB.lt
 refine ⟨_,sf,S,l,rv++[v],xs++[bl],_,_,rfl,fun t ht=>?_,?_,?_,hr,⟨dsf,?_,?_,l10.mono (fun j hj=>sfg _ (by have:=l10.lo j;omega) (by have:=l10.lo j;omega)) (by omega),by rw [List.length_append,List.length_append,el];rfl,by rw [List.length_append,List.length_append,xl];rfl,fun j h1 h2 h3=>?_,fun c hc=>?_,⟨pd,pp,plo,by omega⟩⟩,⟨fun c h1 h2 h3 h4=>?_,by omega,by omega,fun h=>?_,?_⟩⟩
 ·rcases ht with rfl | rfl | rfl | rfl | rfl | rfl | rfl
  ·simp only [Env.find_set,q0,l0,reduceIte,Nat.reduceEqDiff]
  ·rw [Env.find_set,if_neg (by omega)];exact qf 3 (by omega)
  ·rw [Env.find_set,if_neg (by omega)];exact qf 10 (by omega)
  ·rw [Env.find_set,if_neg (by omega)];exact qf 11 (by omega)
  ·rw [Env.find_set,if_neg (by omega)];exact qf 12 (by omega)
  ·simp only [Env.find_set,q13,l13,reduceIte,Nat.reduceEqDiff]
  ·simp only [Env.find_set,q14,l14,reduceIte,Nat.reduceEqDiff]
 ·simp only [Env.find_set,reduceIte]
 ·rw [hSd];exact ⟨by simp only;omega,by simp only;omega,by simp only;omega,by simp only;omega,by simp only;omega,by simp only;omega⟩
 ·rw [upd_ne _ _ _ (by omega),upd_ne _ _ _ (by omega),upd_ne _ _ _ (by omega),upd_ne _ _ _ (by omega),upd_ne _ _ _ (by omega),upd_at,upd_ne _ _ _ (by omega),upd_ne _ _ _ (by omega)];exact sf13
 ·rw [upd_ne _ _ _ (by omega),upd_ne _ _ _ (by omega),upd_at];exact sf14
 ·by_cases hj:j<rv.length
  ·rw [List.getElem_append_left (by omega),List.getElem_append_left (by omega),List.getElem_append_left hj]
   have w1:=er j hj (by omega) (by omega)
   have w3:=xo _ (List.getElem_mem (by omega:j<xs.length))
   exact w1.mono ((sfg _ (by omega) (by omega)).trans (g10 _ w1.lt (fun e=>w3.2 2 e.symm) (fun e=>w3.2 5 e.symm))) (by omega)
  ·have hje:j=rv.length:=by rw [List.length_append,List.length_singleton] at h1;omega
   subst hje
   rw [List.getElem_append_right (by omega),List.getElem_append_right (by omega),List.getElem_append_right (by omega)]
   simp only [el,xl,Nat.sub_self,List.getElem_singleton]
   exact hB.mono ((sfg _ (by omega) (by omega)).trans (g10 _ hbl2 (bl2 2) (bl2 5))) (by omega)
 ·rcases List.mem_append.mp hc with hc | hc
  ·have:=xlt' c hc
   refine ⟨(xo c hc).1,fun j=>?_⟩
   unfold upd
   split
   ·omega
   ·split
    ·omega
    ·exact (xo _ hc).2 j
  ·simp at hc
   subst hc
   refine ⟨by omega,fun j=>?_⟩
   unfold upd
   split
   ·omega
   ·split
    ·omega
    ·exact fun e=>bl2 j e.symm
 ·have b2:=n2' c h1
  have b5:=n5' c h1
  rw [sfg c h3 h4,g10 c (by omega) b2 b5,hG1.same c h1 h2 h3 h4,back c (by omega) h2]
 ·have a1:=st1.m (by rw [new_m];exact h)
  have a2:=st2.m (by rw [new_m];exact a1)
  have a3:=st3.m a2
  have a4:=st4.m (by rw [new_m];exact a3)
  have a5:=st5.m a4
  have a6:=st6.m (by omega)
  have a7:=hG1.m (by omega)
  have a8:=s7m d (by omega) (by omega)
  have a9:=s10m d (by omega) (by omega)
  omega
 ·have a1:t1.m≤s.m:=st1.mle
  have a2:t2.m≤t1.m:=st2.mle
  have a3:=st3.mle
  have a4:t4.m≤t3.m:=st4.mle
  have a5:=st5.mle
  have a6:=st6.mle
  have a7:=hG1.mle
  omega
end Go.Proofs.Ytkkdiibgjgnbhaa.walk
namespace Go.Proofs.Ytkkdiibgjgnbhaa.walk
abbrev Gap:=Int × Int
def Gap.plus (g h:Gap):Gap:=(g.1+h.1,g.2+h.2)
def Gap.turned (g:Gap):Gap:=(-g.2, -g.1)
def Gap.meet (g h:Gap):Gap:=(max g.1 h.1,min g.2 h.2)
theorem plus1 (g h:Gap):(g.plus h).1=g.1+h.1:=rfl
theorem plus2 (g h:Gap):(g.plus h).2=g.2+h.2:=rfl
theorem turned1 (g:Gap):g.turned.1 = -g.2:=rfl
theorem turned2 (g:Gap):g.turned.2 = -g.1:=rfl
theorem meet1 (g h:Gap):(g.meet h).1=max g.1 h.1:=rfl
theorem meet2 (g h:Gap):(g.meet h).2=min g.2 h.2:=rfl
structure Claim where
 (a b:Nat)
 gap:Gap
structure Closed (n:Nat) (E:Nat→Nat→Gap):Prop where
 zero:∀ i,i<n→E i i=(0,0)
 anti:∀ i j,i<n→j<n→(E j i).1 = -(E i j).2
 tri:∀ i j k,i<n→j<n→k<n→(E i j).2≤(E i k).2+(E k j).2
theorem Closed.anti' {n:Nat} {E:Nat→Nat→Gap} (c:Closed n E) {i j:Nat} (hi:i<n) (hj:j<n):(E j i).2 = -(E i j).1:=by
 have:=c.anti j i hj hi
 omega
theorem Closed.some_ {n:Nat} {E:Nat→Nat→Gap} (c:Closed n E) {i j:Nat} (hi:i<n) (hj:j<n):(E i j).1≤(E i j).2:=by
 have h1:=c.tri i i j hi hi hj
 have h2:=c.anti' hi hj
 rw [c.zero i hi] at h1
 simp only at h1
 omega
def Bnd (n:Nat) (B:Int) (E:Nat→Nat→Gap):Prop:=∀ i j,i<n→j<n → -B≤(E i j).1∧(E i j).2≤B
def LeE (n:Nat) (F E:Nat→Nat→Gap):Prop:=∀ i j,i<n→j<n→(E i j).1≤(F i j).1∧(F i j).2≤(E i j).2
theorem LeE.refl (n:Nat) (E:Nat→Nat→Gap):LeE n E E:=fun _ _ _ _=>⟨Int.le_refl _,Int.le_refl _⟩
theorem LeE.trans {n:Nat} {E F G:Nat→Nat→Gap} (a:LeE n E F) (b:LeE n F G):LeE n E G:=fun i j hi hj=>⟨Int.le_trans (b i j hi hj).1 (a i j hi hj).1,Int.le_trans (a i j hi hj).2 (b i j hi hj).2⟩
theorem LeE.of2 {n:Nat} {E F:Nat→Nat→Gap} (cE:Closed n E) (cF:Closed n F) (h:∀ i j,i<n→j<n→(F i j).2≤(E i j).2):LeE n F E:=fun i j hi hj=>by
 have:=h j i hj hi
 rw [cE.anti' hi hj,cF.anti' hi hj] at this
 exact ⟨by omega,h i j hi hj⟩
def Says (c:Claim) (E:Nat→Nat→Gap):Prop:=c.gap.1≤(E c.a c.b).1∧(E c.a c.b).2≤c.gap.2
theorem Says.mono {n:Nat} {c:Claim} {E F:Nat→Nat→Gap} (h:Says c E) (l:LeE n F E) (ha:c.a<n) (hb:c.b<n):Says c F:=⟨Int.le_trans h.1 (l _ _ ha hb).1,Int.le_trans (l _ _ ha hb).2 h.2⟩
def withE (E:Nat→Nat→Gap) (c:Claim) (i j:Nat):Gap :=
 ((E i j).meet (((E i c.a).plus ((E c.a c.b).meet c.gap)).plus (E c.b j))).meet (((E i c.b).plus ((E c.a c.b).meet c.gap).turned).plus (E c.a j))
def refutesE (E:Nat→Nat→Gap) (c:Claim):Prop:=((E c.a c.b).meet c.gap).1 > ((E c.a c.b).meet c.gap).2
theorem withE_1 (E:Nat→Nat→Gap) (c:Claim) (i j:Nat):(withE E c i j).1=max (max (E i j).1 ((E i c.a).1+max (E c.a c.b).1 c.gap.1+(E c.b j).1)) ((E i c.b).1 + -(min (E c.a c.b).2 c.gap.2)+(E c.a j).1):=rfl
theorem withE_2 (E:Nat→Nat→Gap) (c:Claim) (i j:Nat):(withE E c i j).2=min (min (E i j).2 ((E i c.a).2+min (E c.a c.b).2 c.gap.2+(E c.b j).2)) ((E i c.b).2 + -(max (E c.a c.b).1 c.gap.1)+(E c.a j).2):=rfl
theorem withE_le (n:Nat) (E:Nat→Nat→Gap) (c:Claim):LeE n (withE E c) E:=fun i j _ _=>by
 rw [withE_1,withE_2]
 omega
theorem tri_mins (ij ia bj ib aj ik ka bk kb ak kj g1 g2 ab ba:Int) (h1:ij≤ik+kj) (h2:ia≤ik+ka) (h3:ib≤ik+kb) (h4:bj≤bk+kj) (h5:aj≤ak+kj) (h6:ba≤bk+ka) (h7:ab≤ak+kb) (h8:0≤bk+kb) (h9:0≤ak+ka)
  (h10:ij≤ia+aj) (h11:ij≤ib+bj) (g:g1≤g2) (ha:g2≤ab) (hb : -g1≤ba) :
  min (min ij (ia+g2+bj)) (ib + -g1+aj)≤min (min ik (ia+g2+bk)) (ib + -g1+ak)+min (min kj (ka+g2+bj)) (kb + -g1+aj):=by
 omega
theorem withE_closed {n:Nat} {E:Nat→Nat→Gap} {c:Claim} (cl:Closed n E) (ha:c.a<n) (hb:c.b<n) (hr:¬ refutesE E c):Closed n (withE E c):=by
 unfold refutesE at hr
 rw [meet1,meet2] at hr
 have z:=cl.anti' ha hb
 refine ⟨fun i hi=>?_,fun i j hi hj=>?_,fun i j k hi hj hk=>?_⟩
 ·have t:=cl.tri c.b c.a i hb ha hi
  have t2:=cl.tri c.a c.b i ha hb hi
  have a1:=cl.anti' ha hi
  have a2:=cl.anti' hb hi
  have a3:=cl.anti c.a i ha hi
  have a4:=cl.anti c.b i hb hi
  have e1:(withE E c i i).1=0:=by rw [withE_1,cl.zero i hi];simp only;omega
  have e2:(withE E c i i).2=0:=by rw [withE_2,cl.zero i hi];simp only;omega
  exact Prod.ext e1 e2
 ·have a0:=cl.anti i j hi hj
  have a1:=cl.anti i c.a hi ha
  have a2:=cl.anti i c.b hi hb
  have a3:=cl.anti c.a j ha hj
  have a4:=cl.anti c.b j hb hj
  rw [withE_1,withE_2]
  omega
 ·rw [withE_2,withE_2,withE_2]
  have z1:=cl.zero c.a ha
  have z2:=cl.zero c.b hb
  have t8:=cl.tri c.b c.b k hb hb hk
  have t9:=cl.tri c.a c.a k ha ha hk
  rw [z2] at t8
  rw [z1] at t9
  exact tri_mins _ _ _ _ _ _ _ _ _ _ _ (max (E c.a c.b).1 c.gap.1) (min (E c.a c.b).2 c.gap.2) (E c.a c.b).2 (E c.b c.a).2 (cl.tri i j k hi hj hk) (cl.tri i c.a k hi ha hk) (cl.tri i c.b k hi hb hk) (cl.tri c.b j k hb hj hk) (cl.tri c.a j k ha hj hk) (cl.tri c.b c.a k hb ha hk) (cl.tri c.a c.b k ha hb hk) t8 t9 (cl.tri i j c.a hi hj ha) (cl.tri i j c.b hi hj hb) (by omega) (by omega) (by omega)
theorem withE_says {n:Nat} {E:Nat→Nat→Gap} {c:Claim} (cl:Closed n E) (ha:c.a<n) (hb:c.b<n):Says c (withE E c):=by
 have z1:=cl.zero c.a ha
 have z2:=cl.zero c.b hb
 unfold Says
 rw [withE_1,withE_2,z1,z2]
 simp only
 omega
theorem Bnd.le {n:Nat} {B:Int} {E F:Nat→Nat→Gap} (b:Bnd n B E) (l:LeE n F E):Bnd n B F:=fun i j hi hj=>by
 have:=b i j hi hj
 have:=l i j hi hj
 omega
theorem withE_most {n:Nat} {E F:Nat→Nat→Gap} {c:Claim} (cE:Closed n E) (cF:Closed n F) (l:LeE n F E) (s:Says c F) (ha:c.a<n) (hb:c.b<n):¬ refutesE E c∧LeE n F (withE E c):=by
 have k:=l _ _ ha hb
 have o:=cF.some_ ha hb
 unfold Says at s
 have hr:¬ refutesE E c:=by
  unfold refutesE
  rw [meet1,meet2]
  omega
 refine ⟨hr,LeE.of2 (withE_closed cE ha hb hr) cF fun i j hi hj=>?_⟩
 rw [withE_2]
 have t0:=(l i j hi hj).2
 have t1:=(l i c.a hi ha).2
 have t2:=(l c.b j hb hj).2
 have t3:=(l i c.b hi hb).2
 have t4:=(l c.a j ha hj).2
 have t5:=cF.tri i j c.a hi hj ha
 have t6:=cF.tri c.a j c.b ha hj hb
 have t7:=cF.tri i j c.b hi hj hb
 have t8:=cF.tri c.b j c.a hb hj ha
 have z:=cF.anti' ha hb
 omega
def moreE (n:Nat) (E:Nat→Nat→Gap) (b:Nat) (g:Gap) (i j:Nat):Gap :=
 if i<n then (if j<n then E i j else (g.plus (E b i)).turned) else if j<n then g.plus (E b j) else (0,0)
theorem moreE_closed {n:Nat} {E:Nat→Nat→Gap} {b:Nat} {g:Gap} (cl:Closed n E) (hb:b<n) (hg:g.1≤g.2):Closed (n+1) (moreE n E b g):=by
 refine ⟨fun i hi=>?_,fun i j hi hj=>?_,fun i j k hi hj hk=>?_⟩
 ·unfold moreE
  split
  ·exact cl.zero i ‹_›
  ·rfl
 ·unfold moreE
  by_cases h1:i<n<;>by_cases h2:j<n<;>simp only [h1,h2,if_true,if_false,plus1,plus2,turned1,turned2]
  ·exact cl.anti i j h1 h2
  ·omega
  ·rfl
 ·unfold moreE
  by_cases h1:i<n<;>by_cases h2:j<n<;>by_cases h3:k<n<;>simp only [h1,h2,h3,if_true,if_false,plus1,plus2,turned2]
  ·exact cl.tri i j k h1 h2 h3
  ·have:=cl.tri i j b h1 h2 hb
   have:=cl.anti' hb h1
   omega
  ·have:=cl.anti' hb h1
   have:=cl.anti' hb h3
   have:=cl.tri i b k h1 hb h3
   omega
  ·omega
  ·have:=cl.tri b j k hb h2 h3
   omega
  ·omega
  ·have:=cl.anti' hb h3
   have:=cl.tri b b k hb hb h3
   rw [cl.zero b hb] at this
   simp only at this
   omega
  ·omega
theorem moreE_old {n:Nat} {E:Nat→Nat→Gap} {b:Nat} {g:Gap} {i j:Nat} (hi:i<n) (hj:j<n):moreE n E b g i j=E i j:=by unfold moreE;rw [if_pos hi,if_pos hj]
theorem moreE_says {n:Nat} {E:Nat→Nat→Gap} {b:Nat} {g:Gap} (cl:Closed n E) (hb:b<n):moreE n E b g n b=g:=by
 unfold moreE
 rw [if_neg (Nat.lt_irrefl n),if_pos hb,cl.zero b hb]
 exact Prod.ext (Int.add_zero _) (Int.add_zero _)
theorem moreE_bnd {n:Nat} {E:Nat→Nat→Gap} {b:Nat} {g:Gap} {B k:Int} (h:Bnd n B E) (hb:b<n) (hg : -k≤g.1∧g.2≤k) (h0:0≤B∧0≤k):Bnd (n+1) (B+k) (moreE n E b g):=fun i j hi hj=>by
 unfold moreE
 by_cases h1:i<n<;>by_cases h2:j<n<;>simp only [h1,h2,if_true,if_false,plus1,plus2,turned1,turned2]
 ·have:=h i j h1 h2
  omega
 ·have:=h b i hb h1
  omega
 ·have:=h b j hb h2
  omega
 ·omega
theorem moreE_most {n:Nat} {E F:Nat→Nat→Gap} {b:Nat} {g:Gap} (cE:Closed n E) (cF:Closed (n+1) F) (l:LeE n F E) (s:Says ⟨n,b,g⟩ F) (hb:b<n) (hg:g.1≤g.2):LeE (n+1) F (moreE n E b g):=by
 refine LeE.of2 (moreE_closed cE hb hg) cF fun i j hi hj=>?_
 unfold Says at s
 simp only at s
 unfold moreE
 by_cases h1:i<n<;>by_cases h2:j<n<;>simp only [h1,h2,if_true,if_false,plus1,plus2,turned2]
 ·exact (l i j h1 h2).2
 ·obtain rfl:j=n:=by omega
  have:=cF.tri i j b hi hj (by omega)
  have:=(l b i hb h1).1
  have:=cF.anti' (i:=b) (j:=i) (by omega) hi
  have:=cF.anti' (i:=j) (j:=b) hj (by omega)
  omega
 ·obtain rfl:i=n:=by omega
  have:=cF.tri i j b hi hj (by omega)
  have:=(l b j hb h2).2
  omega
 ·obtain rfl:i=n:=by omega
  obtain rfl:j=i:=by omega
  rw [cF.zero j hi]
  exact Int.le_refl _
def factE (x:Nat→Int) (i j:Nat):Gap:=(x i - x j,x i - x j)
theorem factE_closed (n:Nat) (x:Nat→Int):Closed n (factE x):=⟨fun i _=>by unfold factE;rw [Int.sub_self],fun i j _ _=>by show x j - x i = -(x i - x j);omega,fun i j k _ _ _=>by show x i - x j≤(x i - x k)+(x k - x j);omega⟩
end Go.Proofs.Ytkkdiibgjgnbhaa.walk
set_option maxRecDepth 10000
namespace Go.Proofs.Ytkkdiibgjgnbhaa.walk
open Go.Abs Go.Proofs.Ytkkdiibgjgnbhaa.code
def gapRow (l:List Gap):List (List AV):=l.map fun g=>[.int .i64 g.1,.int .i64 g.2]
theorem gapRow_len (l:List Gap):(gapRow l).length=l.length:=List.length_map ..
theorem gapRow_at (l:List Gap) (i:Nat) (h:i<(gapRow l).length) (h':i<l.length):(gapRow l)[i]=[.int .i64 l[i].1,.int .i64 l[i].2]:=by simp [gapRow]
structure GTab (h:Heap) (n:Nat) (T:List (List Gap)) (v:AV):Prop where
 ok:∀ t,okA (.val v t)=.val v t
 sc:v.scalar=true
 len:∀ s,lenSlA s v=.val (.int .i64 T.length) s
 at_:∀ i (hi:i<T.length),∃ b p c sz vr,b<n∧(∀ s,ixsA 1 s v (.int .i64 i)=.val (.ptr b p) s)∧h.get b=some (.cells c sz)∧nth c p=vr∧(∀ t,okA (.val vr t)=.val vr t)∧RowsAt h n 2 (gapRow T[i]) vr
theorem GTab.grow {h h':Heap} {n n':Nat} {T:List (List Gap)} {v:AV} (r:GTab h n T v) (hh:∀ b,b<n→h'.get b=h.get b) (hn:n≤n'):GTab h' n' T v :=
 ⟨r.ok,r.sc,r.len,fun i hi=>by
  obtain ⟨b,p,c,sz,vr,h1,h2,h3,h4,h5,h6⟩:=r.at_ i hi
  exact ⟨b,p,c,sz,vr,by omega,h2,by rw [hh b h1];exact h3,h4,h5,h6.grow hh hn⟩⟩
def GTabF (h:Heap) (lo n:Nat) (T:List (List Gap)) (v:AV):Prop:=∀ h':Heap,(∀ x,lo≤x→x<n→h'.get x=h.get x)→GTab h' n T v
theorem GTabF.tab {h:Heap} {lo n:Nat} {T:List (List Gap)} {v:AV} (g:GTabF h lo n T v):GTab h n T v:=g h fun _ _ _=>rfl
theorem GTabF.mono {h h':Heap} {lo n n':Nat} {T:List (List Gap)} {v:AV} (g:GTabF h lo n T v) (hh:∀ x,lo≤x→x<n→h'.get x=h.get x) (hn:n≤n'):GTabF h' lo n' T v:=fun k hk=>(g k fun x h1 h2=>(hk x h1 (by omega)).trans (hh x h1 h2)).grow (fun _ _=>rfl) hn
theorem GTabF.mono' {h h':Heap} {lo lo' n n':Nat} {T:List (List Gap)} {v:AV} (g:GTabF h lo n T v) (hh:∀ x,lo≤x→x<n→h'.get x=h.get x) (hl:lo'≤lo) (hn:n≤n'):GTabF h' lo' n' T v:=fun k hk=>(g k fun x h1 h2=>(hk x (by omega) (by omega)).trans (hh x h1 h2)).grow (fun _ _=>rfl) hn
def Square (n:Nat) (T:List (List Gap)):Prop:=T.length=n∧∀ r ∈ T,r.length=n
def ent (T:List (List Gap)) (i j:Nat):Gap:=(T.getD i []).getD j (0,0)
theorem ent_at {n:Nat} {T:List (List Gap)} (q:Square n T) {i j:Nat} (hi:i<n) (hj:j<n) (h1:i<T.length) (h2:j<T[i].length):T[i][j]=ent T i j:=by
 simp [ent,List.getD,h1,h2]
theorem GTab.row {h:Heap} {m n:Nat} {T:List (List Gap)} {v:AV} (g:GTab h m T v) (q:Square n T) {i:Nat} (hi:i<n) :
  ∃ b p c sz vr,b<m∧(∀ s,ixsA 1 s v (.int .i64 i)=.val (.ptr b p) s)∧h.get b=some (.cells c sz)∧nth c p=vr∧(∀ t,okA (.val vr t)=.val vr t)∧vr≠.bad∧(∀ s,lenSlA s vr=.val (.int .i64 n) s) ∧
   ∀ j,j<n→∃ b p c sz,b<m∧(∀ s,ixsA 2 s vr (.int .i64 j)=.val (.ptr b p) s)∧h.get b=some (.cells c sz)∧cut p 2 c=some [.int .i64 (ent T i j).1,.int .i64 (ent T i j).2]:=by
 have hi':i<T.length:=by rw [q.1];exact hi
 obtain ⟨b,p,c,sz,vr,h1,h2,h3,h4,h5,h6⟩:=g.at_ i hi'
 have hl:T[i].length=n:=q.2 _ (List.getElem_mem hi')
 have l1:=h6.len
 rw [gapRow_len,hl] at l1
 refine ⟨b,p,c,sz,vr,h1,h2,h3,h4,h5,h6.ne,l1,fun j hj=>?_⟩
 have hj':j<T[i].length:=by omega
 obtain ⟨b,p,c,sz,k1,k2,k3,k4⟩:=h6.at_ j (by rw [gapRow_len];exact hj')
 rw [gapRow_at _ _ _ hj',ent_at q hi hj hi' hj'] at k4
 exact ⟨b,p,c,sz,k1,k2,k3,k4⟩
abbrev claimV (c:Claim):AV:=.agg [.int .i64 c.a,.int .i64 c.b,.int .i64 c.gap.1,.int .i64 c.gap.2]
theorem refutes_ok (N:Nat) (hN:2≤N) (T:List (List Gap)) (n0:Nat) (v:AV) (c:Claim) (s:St) (hT:GTab s.h s.n T v) (q:Square n0 T) (ha:c.a<n0) (hb:c.b<n0) (hs:s.n+300≤far) :
  call Try.prog X N (.fn 47) [v,claimV c] s=.val (.bool (decide (((ent T c.a c.b).meet c.gap).2<((ent T c.a c.b).meet c.gap).1))) s:=by
 obtain ⟨n,rfl⟩:∃ n,N=n+1:=⟨N - 1,by omega⟩
 refine call_plain' Try.func47 (fun u uh un um=>?_) rfl
 have hf:far=1000000000:=rfl
 rw [← uh,← un] at hT
 obtain ⟨b1,p1,c1,z1,vr,d1,d2,d3,d4,d5,d6,_,d7⟩:=hT.row q ha
 obtain ⟨b2,p2,c2,z2,e1,e2,e3,e4⟩:=d7 _ hb
 have hok:=hT.ok
 rw [enter47]
 simp (disch:=first|omega|(with_unfolding_all exact rfl)|(simp only[new_n,put_n,new_m];omega)|(refine put_m_le ?_;simp only[new_m];omega)) only [res47,K47r0,K47r1,K47r2,K47,Abs.W,reduceIte,Nat.reduceEqDiff,Nat.reduceAdd,Nat.reduceSub,Nat.zero_add,d2,d3,d4,d5,e2,e3,e4,meet_ok,ixa2_0,ixa2_1]
 refine ⟨_,rfl,?_⟩
 refine put_m_le0 ?_ ?_<;>simp only [new_m,new_n]<;>omega
end Go.Proofs.Ytkkdiibgjgnbhaa.walk
set_option maxRecDepth 10000
namespace Go.Proofs.Ytkkdiibgjgnbhaa.walk
open Go.Abs Go.Proofs.Ytkkdiibgjgnbhaa.code
def withRow (n:Nat) (T:List (List Gap)) (c:Claim) (i:Nat):List Gap:=(List.range n).map fun j=>withE (ent T) c i j
def withT (n:Nat) (T:List (List Gap)) (c:Claim):List (List Gap):=(List.range n).map fun i=>withRow n T c i
theorem withRow_len (n:Nat) (T:List (List Gap)) (c:Claim) (i:Nat):(withRow n T c i).length=n:=by unfold withRow;rw [List.length_map,List.length_range]
theorem withT_square (n:Nat) (T:List (List Gap)) (c:Claim):Square n (withT n T c):=⟨by unfold withT;rw [List.length_map,List.length_range],fun r hr=>by
 unfold withT at hr
 obtain ⟨i,_,rfl⟩:=List.mem_map.mp hr
 exact withRow_len n T c i⟩
theorem withT_ent {n:Nat} (T:List (List Gap)) (c:Claim) {i j:Nat} (hi:i<n) (hj:j<n):ent (withT n T c) i j=withE (ent T) c i j:=by
 simp [ent,withT,withRow,List.getD,hi,hj]
def SmallT (n:Nat) (T:List (List Gap)):Prop:=∀ i j,i<n→j<n → -100000000≤(ent T i j).1∧(ent T i j).1≤100000000 ∧ -100000000≤(ent T i j).2∧(ent T i j).2≤100000000
abbrev zgap:List AV:=[.int .i64 0,.int .i64 0]
theorem gapRow_wide (l:List Gap):∀ r ∈ gapRow l,r.length=2:=by
 intro r hr
 unfold gapRow at hr
 obtain ⟨g,_,rfl⟩:=List.mem_map.mp hr
 rfl
theorem gapRow_snoc (l:List Gap) (g:Gap):gapRow (l++[g])=gapRow l++[[.int .i64 g.1,.int .i64 g.2]]:=by unfold gapRow;rw [List.map_append];rfl
theorem range_snoc {α:Type} (n:Nat) (f:Nat→α):(List.range (n+1)).map f=(List.range n).map f++[f n]:=by rw [List.range_succ,List.map_append];rfl
structure InRow (u w t:St) (R n0 j k:Nat) (T:List (List Gap)) (c:Claim) (i:Nat) (L:Env) (v vr:AV):Prop where
 l0:L.find 0=v
 l3:L.find 3=.ptr u.n 0
 l5:L.find 5=.ptr (u.n+1) 0
 l6:L.find 6=.slice (u.n+2) 0 n0 n0 false
 l7:L.find 7=.int .i64 i
 l9:L.find 9=.ptr (R+1) 0
 l10:L.find 10=.ptr (R+2) 0
 l28:L.find 28=v
 l29:L.find 29=.int .i64 n0
 l30:L.find 30=.int .i64 i
 l56:L.find 56=vr
 l57:L.find 57=.int .i64 n0
 l58:L.find 58=.int .i64 j
 same:∀ b,b<w.n→b≠R→t.h.get b=w.h.get b
 n:w.n≤t.n
 le:t.n≤w.n+k
 m:u.n≤t.m
 far:t.m≤Abs.far
 row:t.h.get R=some (.cells (fillRows n0 zgap (gapRow ((List.range j).map fun j=>withE (ent T) c i j))).flatten 0)
theorem with_cell (N:Nat) (hN:1≤N) (cx:Ctx) (T:List (List Gap)) (n0:Nat) (v vr:AV) (c:Claim) (u w t:St) (R i j:Nat) (L:Env) (hT:GTab u.h u.n T v) (q:Square n0 T) (hn0:n0≤60) (ha:c.a<n0) (hb:c.b<n0) (hB:SmallT n0 T)
  (hg:∀ x,x=((ent T c.a c.b).meet c.gap).1∨x=((ent T c.a c.b).meet c.gap).2 → -100000000≤x∧x≤100000000)
  (hi:i<n0) (hj:j<n0) (hw:∀ b,b<u.n→w.h.get b=u.h.get b) (hun:u.n+3≤R) (hRw:R+3≤w.n) (hs:w.n+1000≤far)
  (gc:w.h.get u.n=some (.cells [.int .i64 c.a,.int .i64 c.b,.int .i64 c.gap.1,.int .i64 c.gap.2] (tag 108)))
  (gn:∃ cs,w.h.get (u.n+2)=some (.cells cs 0)∧nth cs i=.slice R 0 n0 n0 false)
  (g1:w.h.get (R+1)=some (.cells [.int .i64 ((ent T i c.a).plus ((ent T c.a c.b).meet c.gap)).1,.int .i64 ((ent T i c.a).plus ((ent T c.a c.b).meet c.gap)).2] (tag 68)))
  (g2:w.h.get (R+2)=some (.cells [.int .i64 ((ent T i c.b).plus ((ent T c.a c.b).meet c.gap).turned).1,.int .i64 ((ent T i c.b).plus ((ent T c.a c.b).meet c.gap).turned).2] (tag 68)))
  (hvr:∀ j,j<n0→∃ b p c sz,b<u.n∧(∀ s,ixsA 2 s vr (.int .i64 j)=.val (.ptr b p) s)∧u.h.get b=some (.cells c sz)∧cut p 2 c=some [.int .i64 (ent T i j).1,.int .i64 (ent T i j).2])
  (h:InRow u w t R n0 j j T c i L v vr) :
  ∃ L1 t1,K48l0 (call Try.prog X N) cx L [] t=.done .norm L1 [] t1∧InRow u w t1 R n0 (j+1) (j+1) T c i L1 v vr:=by
 have hf:far=1000000000:=rfl
 obtain ⟨l0,l3,l5,l6,l7,l9,l10,l28,l29,l30,l56,l57,l58,same,tn,tk,tm,tf,row⟩:=h
 have e0:decide ((j:Int)<(n0:Int))=true:=decide_eq_true (by omega)
 obtain ⟨b0,p0,c0,z0,d1,d2,d3,d4⟩:=hvr j hj
 obtain ⟨ba,pa,ca,za,va,a1,a2,a3,a4,a5,_,_,a6⟩:=hT.row q ha
 obtain ⟨bb,pb,cb,zb,vb,b1,b2,b3,b4,b5,_,_,b6⟩:=hT.row q hb
 obtain ⟨x1,y1,m1,o1,f1,f2,f3,f4⟩:=a6 j hj
 obtain ⟨x2,y2,m2,o2,k1,k2,k3,k4⟩:=b6 j hj
 obtain ⟨cs,gn1,gn2⟩:=gn
 have hok:=hT.ok
 have old:∀ b,b<u.n→t.h.get b=u.h.get b:=fun b hb=>(same b (by omega) (by omega)).trans (hw b hb)
 have w0:=(old _ d1).trans d3
 have wa:=(old _ a1).trans a3
 have wb:=(old _ b1).trans b3
 have wf:=(old _ f1).trans f3
 have wk:=(old _ k1).trans k3
 have wc:=(same u.n (by omega) (by omega)).trans gc
 have wn:=(same (u.n+2) (by omega) (by omega)).trans gn1
 have w1:=(same (R+1) (by omega) (by omega)).trans g1
 have w2:=(same (R+2) (by omega) (by omega)).trans g2
 have B0:=hB i j hi hj
 have Ba:=hB c.a j ha hj
 have Bb:=hB c.b j hb hj
 have Bia:=hB i c.a hi ha
 have Bib:=hB i c.b hi hb
 have hg1:=hg _ (.inl rfl)
 have hg2:=hg _ (.inr rfl)
 rw [plus1,plus2] at w1
 rw [plus1,plus2,turned1,turned2] at w2
 have i1:∀ s,ixsA 1 s (.slice (u.n+2) 0 n0 n0 false) (.int .i64 (i:Int))=.val (.ptr (u.n+2) i) s:=fun s=>by rw [ixs_slice _ _ _ _ _ _ _ _ hi,Nat.mul_one,Nat.zero_add]
 have i2:∀ s,ixsA 2 s (.slice R 0 n0 n0 false) (.int .i64 (j:Int))=.val (.ptr R (j * 2)) s:=fun s=>by rw [ixs_slice _ _ _ _ _ _ _ _ hj,Nat.zero_add]
 have okR:∀ t,okA (.val (.slice R 0 n0 n0 false) t)=.val (.slice R 0 n0 n0 false) t:=fun _=>rfl
 have hlen:(gapRow ((List.range j).map fun j=>withE (ent T) c i j)).length=j:=by rw [gapRow_len,List.length_map,List.length_range]
 have hov:=fillRows_over (n:=n0) (z:=zgap) (row:=[.int .i64 (withE (ent T) c i j).1,.int .i64 (withE (ent T) c i j).2]) (l:=gapRow ((List.range j).map fun j=>withE (ent T) c i j)) (w:=2) rfl (gapRow_wide _) rfl (by omega)
 rw [hlen,← gapRow_snoc,← range_snoc (f:=fun j=>withE (ent T) c i j),withE_1,withE_2] at hov
 have ad:∀ s,aAdd s .i64 (j:Int) 1=.val (.int .i64 ((j:Int)+1)) s:=fun s=>aAdd_i64 s _ _ (by omega)
 rw [meet1] at hg1 w1 w2
 rw [meet2] at hg2 w1 w2
 refine ⟨_,_,by
  simp (disch:=first|omega|(with_unfolding_all exact rfl)|(simp only[new_n,put_n,new_m];omega)|(refine put_m_le ?_;simp only[new_m];omega)) only [K48r9,K48r10,K48r11,K48r12,K48l0,Abs.W,reduceIte,Nat.reduceEqDiff,Nat.reduceAdd,Nat.reduceSub,Env.find_set,Nat.zero_add,l0,l3,l6,l7,l9,l10,l56,l57,l58,e0,d2,d4,w0,wa,wb,wf,wk,wc,wn,w1,w2,gn2,okR,a2,a4,a5,b2,b4,b5,f2,f4,k2,k4,i1,i2,row,hov,ad,plus_ok,meet_ok]
  rfl,?_⟩
 refine ⟨by simp only [Env.find_set,l0,reduceIte,Nat.reduceEqDiff],by simp only [Env.find_set,l3,reduceIte,Nat.reduceEqDiff],by simp only [Env.find_set,l5,reduceIte,Nat.reduceEqDiff],by simp only [Env.find_set,l6,reduceIte,Nat.reduceEqDiff],by simp only [Env.find_set,l7,reduceIte,Nat.reduceEqDiff],by simp only [Env.find_set,l9,reduceIte,Nat.reduceEqDiff],by simp only [Env.find_set,l10,reduceIte,Nat.reduceEqDiff],by simp only [Env.find_set,l28,reduceIte,Nat.reduceEqDiff],by simp only [Env.find_set,l29,reduceIte,Nat.reduceEqDiff],by simp only [Env.find_set,l30,reduceIte,Nat.reduceEqDiff],by simp only [Env.find_set,l56,reduceIte,Nat.reduceEqDiff],by simp only [Env.find_set,l57,reduceIte,Nat.reduceEqDiff],by simp only [Env.find_set,reduceIte,Nat.reduceEqDiff];rfl,fun b hb hbR=>?_,?_,?_,?_,?_,?_⟩
 ·rw [get_put_ne' _ _ _ _ hbR,get_put_ne' _ _ _ _ (by omega),get_new_ne _ _ _ (by omega)];exact same b hb hbR
 ·simp only [put_n,new_n];omega
 ·simp only [put_n,new_n];omega
 ·simp only [St.put,minN_eq,new_m];omega
 ·simp only [St.put,minN_eq,new_m];omega
 ·exact get_put_eq _ _ _ _ rfl (by omega)
theorem loop_state {b:K} {n:Nat} {cl:CallF} {cx:Ctx} {L:Env} {d:List Nat} {s:St} {r:R} (h:loopN b n cl cx L d s=r):∃ w L0,w=s∧L0=L∧loopN b n cl cx L0 d w=r:=⟨s,L,rfl,rfl,h⟩
structure InTab (u t:St) (n0 i k:Nat) (T:List (List Gap)) (c:Claim) (L:Env) (v:AV):Prop where
 l0:L.find 0=v
 l3:L.find 3=.ptr u.n 0
 l5:L.find 5=.ptr (u.n+1) 0
 l6:L.find 6=.slice (u.n+2) 0 n0 n0 false
 l28:L.find 28=v
 l29:L.find 29=.int .i64 n0
 l30:L.find 30=.int .i64 i
 beside:Beside u t k
 n:u.n+3≤t.n
 g0:t.h.get u.n=some (.cells [.int .i64 c.a,.int .i64 c.b,.int .i64 c.gap.1,.int .i64 c.gap.2] (tag 108))
 g1:t.h.get (u.n+1)=some (.cells [.int .i64 ((ent T c.a c.b).meet c.gap).1,.int .i64 ((ent T c.a c.b).meet c.gap).2] (tag 68))
 g2:∃ vs:List AV,vs.length=i∧t.h.get (u.n+2)=some (.cells (fillRows n0 [.nilslice] (vs.map fun v=>[v])).flatten 0)∧∀ j (h:j<vs.length),∃ b,u.n+3≤b∧b<t.n∧vs[j]=.slice b 0 n0 n0 false∧t.h.get b=some (.cells (gapRow (withRow n0 T c j)).flatten 0)
theorem ones_wide (vs:List AV):∀ r ∈ vs.map (fun v=>[v]),r.length=1:=by
 intro r hr
 obtain ⟨v,_,rfl⟩:=List.mem_map.mp hr
 rfl
theorem InRow.set59 {u w t:St} {R n0 j k:Nat} {T:List (List Gap)} {c:Claim} {i:Nat} {L:Env} {v vr:AV} (h:InRow u w t R n0 j k T c i L v vr) (x:AV):InRow u w t R n0 j k T c i (L.set 59 x) v vr:=⟨by rw [Env.find_set,if_neg (by omega)];exact h.l0,by rw [Env.find_set,if_neg (by omega)];exact h.l3,by rw [Env.find_set,if_neg (by omega)];exact h.l5,by rw [Env.find_set,if_neg (by omega)];exact h.l6,by rw [Env.find_set,if_neg (by omega)];exact h.l7,by rw [Env.find_set,if_neg (by omega)];exact h.l9,by rw [Env.find_set,if_neg (by omega)];exact h.l10,by rw [Env.find_set,if_neg (by omega)];exact h.l28,by rw [Env.find_set,if_neg (by omega)];exact h.l29,by rw [Env.find_set,if_neg (by omega)];exact h.l30,by rw [Env.find_set,if_neg (by omega)];exact h.l56,by rw [Env.find_set,if_neg (by omega)];exact h.l57,by rw [Env.find_set,if_neg (by omega)];exact h.l58,h.same,h.n,h.le,h.m,h.far,h.row⟩
theorem with_round (N:Nat) (hN:1≤N) (cx:Ctx) (T:List (List Gap)) (n0:Nat) (v:AV) (c:Claim) (u t:St) (i k:Nat) (L:Env) (hT:GTab u.h u.n T v) (q:Square n0 T) (hn0:n0≤60) (ha:c.a<n0) (hb:c.b<n0) (hB:SmallT n0 T)
  (hg:∀ x,x=((ent T c.a c.b).meet c.gap).1∨x=((ent T c.a c.b).meet c.gap).2 → -100000000≤x∧x≤100000000)
  (hi:i<n0) (hs:u.n+k+2000≤far) (h:InTab u t n0 i k T c L v) :
  ∃ L1 t1,K48l1 (call Try.prog X N) cx L [] t=.done .norm L1 [] t1∧InTab u t1 n0 (i+1) (k+70) T c L1 v:=by
 have hf:far=1000000000:=rfl
 obtain ⟨l0,l3,l5,l6,l28,l29,l30,hE,hn3,g0,g1,vs,vl,g2,vb⟩:=h
 have tn:=hE.n
 have tl:=hE.le
 have tm:=hE.m
 have tf:=hE.far
 have e0:decide ((i:Int)<(n0:Int))=true:=decide_eq_true (by omega)
 obtain ⟨b0,p0,c0,z0,vr,d1,d2,d3,d4,d5,dne,d6,d7⟩:=hT.row q hi
 have w0:=(hE.same _ d1).trans d3
 obtain ⟨x1,y1,m1,o1,f1,f2,f3,f4⟩:=d7 _ ha
 obtain ⟨x2,y2,m2,o2,k1,k2,k3,k4⟩:=d7 _ hb
 have wf:=(hE.same _ f1).trans f3
 have wk:=(hE.same _ k1).trans k3
 have hok:=hT.ok
 have Bia:=hB i c.a hi ha
 have Bib:=hB i c.b hi hb
 have hg1:=hg _ (.inl rfl)
 have hg2:=hg _ (.inr rfl)
 have mk:∀ s:St,makeA [.int .i64 0,.int .i64 0] 16 s (.int .i64 (n0:Int)) (.int .i64 (n0:Int))=.val (.slice s.n 0 n0 n0 false) (s.new (.cells (List.replicate n0 zgap).flatten 0)):=fun s=>make_rows zgap 16 n0 s (by omega) (by omega)
 have i1:∀ s,ixsA 1 s (.slice (u.n+2) 0 n0 n0 false) (.int .i64 (i:Int))=.val (.ptr (u.n+2) i) s:=fun s=>by rw [ixs_slice _ _ _ _ _ _ _ _ hi,Nat.mul_one,Nat.zero_add]
 have okR:∀ x t,okA (.val (.slice x 0 n0 n0 false) t)=.val (.slice x 0 n0 n0 false) t:=fun _ _=>rfl
 have hov:=fillRows_over (n:=n0) (z:=[.nilslice]) (row:=[.slice t.n 0 n0 n0 false]) (l:=vs.map fun v=>[v]) (w:=1) rfl (ones_wide vs) rfl (by rw [List.length_map,vl];exact hi)
 rw [List.length_map,vl,Nat.mul_one,show (vs.map fun v=>[v])++[[AV.slice t.n 0 n0 n0 false]]=(vs++[AV.slice t.n 0 n0 n0 false]).map fun v=>[v] by rw [List.map_append];rfl] at hov
 have ad:∀ s,aAdd s .i64 (i:Int) 1=.val (.int .i64 ((i:Int)+1)) s:=fun s=>aAdd_i64 s _ _ (by omega)
 simp (disch:=first|omega|(with_unfolding_all exact rfl)|(simp only[new_n,put_n,new_m];omega)|(refine put_m_le ?_;simp only[new_m];omega)) only [K48r4,K48r5,K48r6,K48r7,K48r8,K48r13,K48l1,Abs.W,reduceIte,Nat.reduceEqDiff,Nat.reduceAdd,kLoop_def,Nat.reduceSub,kMake_def,Env.find_set,Nat.zero_add,l3,l5,l6,l28,l29,l30,e0,d2,d4,d5,d6,w0,wf,wk,g0,g1,g2,f2,f4,k2,k4,i1,mk,hov,plus_ok,turned_ok]
 simp only [put_n,new_n]
 generalize hl:loopN _ rounds _ _ _ _ _=r1
 obtain ⟨w,L0,hw,hL0,hl'⟩:=loop_state hl
 have wn:w.n=t.n+3:=by rw [hw];rfl
 have wm:w.m≤t.m∧u.n≤w.m:=by rw [hw];simp only [St.put,minN_eq,new_m];omega
 have wg:∀ b,b<t.n→b≠u.n+2→w.h.get b=t.h.get b:=fun b h1 h2=>by rw [hw];simp (disch:=first|omega|(with_unfolding_all exact rfl)|(simp only[new_n,put_n,new_m];omega)|(refine put_m_le ?_;simp only[new_m];omega)) only [get_put_ne',get_new_ne]
 have w2:w.h.get (u.n+2)=some (.cells (fillRows n0 [.nilslice] ((vs++[AV.slice t.n 0 n0 n0 false]).map fun v=>[v])).flatten 0):=by rw [hw];simp (disch:=first|omega|(with_unfolding_all exact rfl)|(simp only[new_n,put_n,new_m];omega)|(refine put_m_le ?_;simp only[new_m];omega)) only [get_put_ne',get_new_ne,get_put_eq]
 have wR:w.h.get t.n=some (.cells (List.replicate n0 zgap).flatten 0):=by rw [hw];simp (disch:=first|omega|(with_unfolding_all exact rfl)|(simp only[new_n,put_n,new_m];omega)|(refine put_m_le ?_;simp only[new_m];omega)) only [get_put_ne',get_new_ne,get_new_eq]
 have wR1:w.h.get (t.n+1)=some (.cells [.int .i64 ((ent T i c.a).plus ((ent T c.a c.b).meet c.gap)).1,.int .i64 ((ent T i c.a).plus ((ent T c.a c.b).meet c.gap)).2] (tag 68)):=by rw [hw];simp (disch:=first|omega|(with_unfolding_all exact rfl)|(simp only[new_n,put_n,new_m];omega)|(refine put_m_le ?_;simp only[new_m];omega)) only [get_put_ne',get_put_eq,plus1,plus2]
 have wR2:w.h.get (t.n+2)=some (.cells [.int .i64 ((ent T i c.b).plus ((ent T c.a c.b).meet c.gap).turned).1,.int .i64 ((ent T i c.b).plus ((ent T c.a c.b).meet c.gap).turned).2] (tag 68)):=by rw [hw];simp (disch:=first|omega|(with_unfolding_all exact rfl)|(simp only[new_n,put_n,new_m];omega)|(refine put_m_le ?_;simp only[new_m];omega)) only [get_put_eq,plus1,plus2,turned1,turned2]
 have hnth:nth (fillRows n0 [.nilslice] ((vs++[AV.slice t.n 0 n0 n0 false]).map fun v=>[v])).flatten i=.slice t.n 0 n0 n0 false:=by
  have:=fillRows_cut (n:=n0) (z:=[AV.nilslice]) (w:=1) (l:=(vs++[AV.slice t.n 0 n0 n0 false]).map fun v=>[v]) rfl (ones_wide _) (i:=i) (by rw [List.length_map,List.length_append,vl];simp)
  rw [Nat.mul_one] at this
  refine cut1_nth (this.trans ?_)
  simp [vl]
 obtain ⟨e,L1,s1,rfl,rfl,hI⟩:=loop_of hl' (fun j L' t'=>InRow u w t' t.n n0 j j T c i L' v vr) (fun e L1 s1=>e=.exit 2∧InRow u w s1 t.n n0 n0 n0 T c i L1 v vr) n0 (by unfold rounds;omega)
  ⟨by rw [hL0];simp only [Env.find_set,l0,reduceIte,Nat.reduceEqDiff],by rw [hL0];simp only [Env.find_set,l3,reduceIte,Nat.reduceEqDiff],by rw [hL0];simp only [Env.find_set,l5,reduceIte,Nat.reduceEqDiff],by rw [hL0];simp only [Env.find_set,l6,reduceIte,Nat.reduceEqDiff],by rw [hL0];simp only [Env.find_set,reduceIte,Nat.reduceEqDiff],by rw [hL0];simp only [Env.find_set,reduceIte,Nat.reduceEqDiff],by rw [hL0];simp only [Env.find_set,reduceIte,Nat.reduceEqDiff],by rw [hL0];simp only [Env.find_set,l28,reduceIte,Nat.reduceEqDiff],by rw [hL0];simp only [Env.find_set,l29,reduceIte,Nat.reduceEqDiff],by rw [hL0];simp only [Env.find_set,l30,reduceIte,Nat.reduceEqDiff],by rw [hL0];simp only [Env.find_set,reduceIte,Nat.reduceEqDiff],by rw [hL0];simp only [Env.find_set,reduceIte,Nat.reduceEqDiff],by rw [hL0];simp only [Env.find_set,reduceIte,Nat.reduceEqDiff];rfl,fun _ _ _=>rfl,Nat.le_refl _,Nat.le_refl _,wm.2,by omega,by rw [wR,List.range_zero,List.map_nil];exact congrArg (fun x=>some (AObj.cells (List.flatten x) 0)) (fillRows_nil n0 zgap).symm⟩
  (fun j L' t' hj hI=>by
   by_cases hlt:j<n0
   ·obtain ⟨L2,t2,p1,p2⟩:=with_cell N hN cx T n0 v vr c u w t' t.n i j L' hT q hn0 ha hb hB hg hi hlt (fun b hb=>(wg b (by omega) (by omega)).trans (hE.same b hb)) hn3 (by omega) (by omega) ((wg _ (by omega) (by omega)).trans g0) ⟨_,w2,hnth⟩ wR1 wR2 d7 hI
    exact .inl ⟨hlt,L2,t2,p1,p2⟩
   ·obtain rfl:j=n0:=by omega
    have e1:decide ((j:Int)<(j:Int))=false:=by simp
    have q57:=hI.l57
    have q58:=hI.l58
    refine .inr ⟨.exit 2,L'.set 59 (.bool false),t',by simp,?_,rfl,hI.set59 _⟩
    simp (disch:=first|omega|(with_unfolding_all exact rfl)|(simp only[new_n,put_n,new_m];omega)|(refine put_m_le ?_;simp only[new_m];omega)) only [K48r9,K48r10,K48r11,K48r12,K48l0,Abs.W,reduceIte,Env.find_set,q57,q58,e1])
 have q30:=hI.l30
 simp (disch:=first|omega|(with_unfolding_all exact rfl)|(simp only[new_n,put_n,new_m];omega)|(refine put_m_le ?_;simp only[new_m];omega)) only [Abs.W,reduceIte,Nat.reduceEqDiff,q30,ad]
 obtain ⟨r0,r3,r5,r6,_,_,_,r28,r29,_,_,_,_,same,sn,sk,sm,sf,row⟩:=hI
 refine ⟨_,_,rfl,?_,?_,?_,?_,?_,?_,?_,⟨fun b hb=>?_,?_,?_,?_,sf⟩,?_,?_,?_,vs++[AV.slice t.n 0 n0 n0 false],by rw [List.length_append,vl];rfl,(same _ (by omega) (by omega)).trans w2,fun j hj=>?_⟩
 ·simp only [Env.find_set,r0,reduceIte,Nat.reduceEqDiff]
 ·simp only [Env.find_set,r3,reduceIte,Nat.reduceEqDiff]
 ·simp only [Env.find_set,r5,reduceIte,Nat.reduceEqDiff]
 ·simp only [Env.find_set,r6,reduceIte,Nat.reduceEqDiff]
 ·simp only [Env.find_set,r28,reduceIte,Nat.reduceEqDiff]
 ·simp only [Env.find_set,r29,reduceIte,Nat.reduceEqDiff]
 ·simp only [Env.find_set,reduceIte];rfl
 ·exact (same b (by omega) (by omega)).trans ((wg b (by omega) (by omega)).trans (hE.same b hb))
 ·omega
 ·omega
 ·exact sm
 ·omega
 ·exact (same _ (by omega) (by omega)).trans ((wg _ (by omega) (by omega)).trans g0)
 ·exact (same _ (by omega) (by omega)).trans ((wg _ (by omega) (by omega)).trans g1)
 ·by_cases hjv:j<vs.length
  ·rw [List.getElem_append_left hjv]
   obtain ⟨b,h1,h2,h3,h4⟩:=vb j hjv
   exact ⟨b,h1,by omega,h3,(same b (by omega) (by omega)).trans ((wg b h2 (by omega)).trans h4)⟩
  ·have:j=i:=by rw [List.length_append,List.length_singleton] at hj;omega
   subst this
   refine ⟨t.n,hn3,by omega,?_,row.trans ?_⟩
   ·rw [List.getElem_append_right (by omega)];simp only [vl,Nat.sub_self,List.getElem_singleton]
   ·rw [fillRows_full (by rw [gapRow_len,List.length_map,List.length_range])]
    rfl
theorem with_ex {N:Nat} {T:List (List Gap)} {n0:Nat} {v:AV} {c:Claim} {s:St} {r:ARes} (hr:call Try.prog X N (.fn 48) [v,claimV c] s=r) (hN:2≤N) (hT:GTab s.h s.n T v) (q:Square n0 T) (hn0:n0≤60) (hp:1≤n0) (ha:c.a<n0) (hb:c.b<n0) (hB:SmallT n0 T)
  (hg:∀ x,x=((ent T c.a c.b).meet c.gap).1∨x=((ent T c.a c.b).meet c.gap).2 → -100000000≤x∧x≤100000000) (hs:s.n+8000≤far) :
  ∃ v' t,r=.val v' t∧New s t 5000∧GTabF t.h s.n t.n (withT n0 T c) v':=by
 obtain ⟨n,rfl⟩:∃ n,N=n+1:=⟨N - 1,by omega⟩
 have hf:far=1000000000:=rfl
 obtain ⟨v',t,e,st,hq⟩:=call_new (n:=n) (args:=[v,claimV c]) (s:=s) (k:=5000) (Q:=fun v' h n=>GTabF h s.n n (withT n0 T c) v') Try.func48 rfl (fun u uh un um=>by
  rw [← uh,← un] at hT
  have hok:=hT.ok
  have hlen:=hT.len
  rw [q.1] at hlen
  obtain ⟨b1,p1,c1,z1,vr,d1,d2,d3,d4,d5,dne,_,d7⟩:=hT.row q ha
  obtain ⟨b2,p2,c2,z2,e1,e2,e3,e4⟩:=d7 _ hb
  have mk:∀ s:St,makeA [.nilslice] 24 s (.int .i64 (n0:Int)) (.int .i64 (n0:Int))=.val (.slice s.n 0 n0 n0 false) (s.new (.cells (List.replicate n0 [AV.nilslice]).flatten 0)):=fun s=>make_rows [.nilslice] 24 n0 s (by omega) (by omega)
  have okR:∀ x t,okA (.val (.slice x 0 n0 n0 false) t)=.val (.slice x 0 n0 n0 false) t:=fun _ _=>rfl
  rw [enter48]
  simp (disch:=first|omega|(with_unfolding_all exact rfl)|(simp only[new_n,put_n,new_m];omega)|(refine put_m_le ?_;simp only[new_m];omega)) only [K48r0,K48r1,K48r2,K48r3,K48r14,K48,Abs.W,reduceIte,Nat.reduceEqDiff,Nat.reduceAdd,kLoop_def,Nat.reduceSub,kMake_def,Nat.zero_add,hlen,d2,d3,d4,d5,e2,e3,e4,meet_ok,mk]
  simp only [put_n,new_n]
  generalize hl:loopN _ rounds _ _ _ _ _=r1
  obtain ⟨w,L0,hw,hL0,hl'⟩:=loop_state hl
  have wE:Beside u w 3:=by rw [hw];exact ((((Beside.refl u (by omega) um).new _).new _).put _ (Nat.le_succ _)).new _
  have wn:w.n=u.n+3:=by rw [hw];rfl
  have w0:w.h.get u.n=some (.cells [.int .i64 c.a,.int .i64 c.b,.int .i64 c.gap.1,.int .i64 c.gap.2] (tag 108)):=by rw [hw];simp (disch:=first|omega|(with_unfolding_all exact rfl)|(simp only[new_n,put_n,new_m];omega)|(refine put_m_le ?_;simp only[new_m];omega)) only [get_put_ne',get_new_ne,get_new_eq]
  have w1:w.h.get (u.n+1)=some (.cells [.int .i64 ((ent T c.a c.b).meet c.gap).1,.int .i64 ((ent T c.a c.b).meet c.gap).2] (tag 68)):=by rw [hw];simp (disch:=first|omega|(with_unfolding_all exact rfl)|(simp only[new_n,put_n,new_m];omega)|(refine put_m_le ?_;simp only[new_m];omega)) only [get_new_ne,get_put_eq,meet1,meet2]
  have w2:w.h.get (u.n+2)=some (.cells (List.replicate n0 [AV.nilslice]).flatten 0):=by rw [hw];exact get_new_eq _ _ _ rfl (by simp only [put_n,new_n];omega)
  obtain ⟨e,L1,s1,rfl,rfl,hI⟩:=loop_of hl' (fun i L' t'=>InTab u t' n0 i (3+70 * i) T c L' v) (fun e L1 s1=>e=.exit 0∧InTab u s1 n0 n0 (3+70 * n0) T c L1 v) n0 (by unfold rounds;omega)
   ⟨by rw [hL0];simp only [find_cons,reduceIte,Nat.reduceEqDiff],by rw [hL0];simp only [find_cons,reduceIte,Nat.reduceEqDiff],by rw [hL0];simp only [find_cons,reduceIte,Nat.reduceEqDiff],by rw [hL0];simp only [find_cons,reduceIte,Nat.reduceEqDiff],by rw [hL0];simp only [find_cons,reduceIte,Nat.reduceEqDiff],by rw [hL0];simp only [find_cons,reduceIte,Nat.reduceEqDiff],by rw [hL0];simp only [find_cons,reduceIte,Nat.reduceEqDiff];rfl,wE,by omega,w0,w1,[],rfl,by rw [w2,List.map_nil,fillRows_nil],fun j h=>by simp at h⟩
   (fun i L' t' hi hI=>by
    by_cases hlt:i<n0
    ·obtain ⟨L2,t2,p1,p2⟩:=with_round n (by omega) ⟨48,none,Try.f48.ntmps,X 48⟩ T n0 v c u t' i (3+70 * i) L' hT q hn0 ha hb hB hg hlt (by omega) hI
     exact .inl ⟨hlt,L2,t2,p1,by rw [show 3+70 * (i+1)=3+70 * i+70 by omega];exact p2⟩
    ·obtain rfl:i=n0:=by omega
     have e1:decide ((i:Int)<(i:Int))=false:=by simp
     have q29:=hI.l29
     have q30:=hI.l30
     refine .inr ⟨.exit 0,L'.set 31 (.bool false),t',by simp,?_,rfl,?_⟩
     ·simp (disch:=first|omega|(with_unfolding_all exact rfl)|(simp only[new_n,put_n,new_m];omega)|(refine put_m_le ?_;simp only[new_m];omega)) only [K48r4,K48r5,K48r6,K48r7,K48r8,K48r13,K48l1,Abs.W,reduceIte,Env.find_set,q29,q30,e1]
     ·obtain ⟨r0,r3,r5,r6,r28,r29,r30,ra,rb,rc,rd,re⟩:=hI
      refine ⟨?_,?_,?_,?_,?_,?_,?_,ra,rb,rc,rd,re⟩<;>rw [Env.find_set,if_neg (by omega)]<;>assumption)
  obtain ⟨r0,r3,r5,r6,r28,r29,r30,hE,hn3,g0,g1,vs,vl,g2,vb⟩:=hI
  simp (disch:=first|omega|(with_unfolding_all exact rfl)|(simp only[new_n,put_n,new_m];omega)|(refine put_m_le ?_;simp only[new_m];omega)) only [res48,Abs.W,reduceIte,Nat.reduceEqDiff,Env.find_set,r6]
  have tn:=hE.n
  have q1:=(withT_square n0 T c).1
  refine ⟨_,_,rfl,hE.mono (by omega),rfl,fun k hk=>⟨fun _=>rfl,rfl,fun s=>by rw [lenSl_slice,q1],fun i hi=>?_⟩⟩
  rw [q1] at hi
  obtain ⟨b,h1,h2,h3,h4⟩:=vb i (by omega)
  have hl2:(gapRow (withRow n0 T c i)).length=n0:=by rw [gapRow_len,withRow_len]
  have hwi:(withT n0 T c)[i]'(by rw [q1];exact hi)=withRow n0 T c i:=by unfold withT;rw [List.getElem_map,List.getElem_range]
  rw [hwi]
  refine ⟨u.n+2,i,_,_,.slice b 0 n0 n0 false,by omega,fun s=>by rw [ixs_slice _ _ _ _ _ _ _ _ hi,Nat.mul_one,Nat.zero_add],(hk _ (by omega) (by omega)).trans g2,?_,fun _=>rfl,fun s=>by rw [lenSl_slice,hl2],fun j hj=>⟨b,j * 2,_,_,h2,fun s=>by rw [ixs_slice _ _ _ _ _ _ _ _ (by omega),Nat.zero_add],(hk _ (by omega) (by omega)).trans h4,flatten_cut (gapRow_wide _) hj⟩⟩
  have:=fillRows_cut (n:=n0) (z:=[AV.nilslice]) (w:=1) (l:=vs.map fun v=>[v]) rfl (ones_wide _) (i:=i) (by rw [List.length_map,vl];exact hi)
  rw [Nat.mul_one] at this
  refine cut1_nth (this.trans ?_)
  rw [List.getElem_map,h3])
 exact ⟨v',t,hr.symm.trans e,st,hq⟩
end Go.Proofs.Ytkkdiibgjgnbhaa.walk
