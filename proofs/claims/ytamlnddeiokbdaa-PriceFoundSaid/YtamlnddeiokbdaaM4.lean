/- Books that are made of numbers: BookOf. -/
import Derived.Test.YtamlnddeiokbdaaM1
import Derived.Test.YtamlnddeiokbdaaM3
import Derived.Test.YtamlnddeiokbdaaCodes
import Derived.Test.YtamlnddeiokbdaaM2
import Derived.Test.YtamlnddeiokbdaaWalkAll
set_option linter.unusedSimpArgs false
set_option maxHeartbeats 16000000
set_option linter.unusedVariables false
set_option maxRecDepth 10000
namespace Go.Proofs.Ytamlnddeiokbdaa.walk
open Go.Abs Go.Proofs.Ytamlnddeiokbdaa.code
theorem Die.keep {d:Nat} {h h':Heap} (D:Die d h) (e:h'.get d=h.get d):Die d h':=by obtain ⟨f,hf⟩:=D;exact ⟨f,e.trans hf⟩
theorem call_stir2 {P:Program} {X:FuncId→List Nat} {n:Nat} {f:FuncId} {args:List AV} {s:St} {fn:Func} {d k:Nat} {Q:AV→Heap→Nat→Prop} (hf:P.funcs[f]? = some fn) (hk:keepAll=true)
  (h:∀ u:St,u.h=s.h→u.n=s.n→u.m=far→∃ v s',enterA P X (Abs.call P X n) f args u fn=.val v s'∧Stir d u s' k∧Q v s'.h s'.n∧(plain v=true→Q v s.h s.n)) (hd:d≤far) :
  ∃ v t,Abs.call P X (n+1) (.fn f) args s=.val v t∧Stir d s t k∧Q v t.h t.n:=by
 obtain ⟨v,s',h1,h2,h3,h4⟩:=h ⟨s.h,s.n,far⟩ rfl rfl rfl
 cases hb:Nat.ble s.n s'.m with
 | true =>
  cases hp:plain v with
  | true =>
   refine ⟨v,s,?_,(Stir.refl d s).mono (Nat.zero_le _),h4 hp⟩
   show callStep P X (Abs.call P X n) (.fn f) args s=_
   unfold callStep
   simp only [hf,h1]
   unfold Abs.settle
   simp only [hb,hp]
   rfl
  | false =>
   refine ⟨v,⟨s'.h,s'.n,s.m⟩,?_,⟨h2.same,h2.n,h2.le,fun h=>h,Nat.le_refl _⟩,h3⟩
   show callStep P X (Abs.call P X n) (.fn f) args s=_
   unfold callStep
   simp only [hf,h1]
   unfold Abs.settle
   simp only [hb,hp,hk]
   rfl
 | false =>
  refine ⟨v,⟨s'.h,s'.n,minN s.m s'.m⟩,?_,Stir.draw (s:=s) h2 hd,h3⟩
  show callStep P X (Abs.call P X n) (.fn f) args s=_
  unfold callStep
  simp only [hf,h1]
  unfold Abs.settle
  simp only [hb]
  rfl
structure BookJ (u t:St) (d p9:Nat) (b:Book) (v:AV) (bl kk:Nat):Prop where
 die:Die d t.h
 g9:t.h.get p9=some (.cells (bookV b v) (tag 27))
 is:IsAt t.h t.n bl 6 (tag 51) (b.sales.map Sale.cells) v
 lo:p9<bl
 same:∀ c,c<p9→c≠d→t.h.get c=u.h.get c
 n:p9<t.n
 le:t.n≤u.n+kk
 m:d≤u.m→d≤t.m
 mle:t.m≤u.m
 dp:d<p9
 ok:∀ s ∈ b.sales,s.Ok b.stalls b.goods
theorem book_round (N:Nat) (hN:5≤N) (cx:Ctx) {d p9 bl kk:Nat} {b:Book} {v:AV} {u t:St} {L:Env} {i:Nat} {gr ce:Int} (J:BookJ u t d p9 b v bl kk) (hk:1≤b.stalls∧b.stalls≤8) (hg:1≤b.goods∧b.goods≤8) (hl:b.sales.length≤40) (hs:u.n+kk+2000≤far) (hum:u.m≤far) (hi:i≤1000)
  (hgr:0≤gr∧gr≤5000) (hce:0≤ce∧ce≤2000) (q0:L.find 0=.ptr d 0) (q9:L.find 9=.ptr p9 0) (q10:L.find 10=.int .i64 gr) (q11:L.find 11=.int .i64 ce) (q12:L.find 12=.int .i64 (i+1:Nat)) :
  ∃ L1 t1 b1 v1 bl1,K10l0 (call Try.prog X N) cx L [] t=.done .norm L1 [] t1∧BookJ u t1 d p9 b1 v1 bl1 (kk+10)∧b1.stalls=b.stalls∧b1.goods=b.goods∧b1.sales.length=b.sales.length+1∧L1.find 12=.int .i64 (i:Nat)∧∀ c,c<12→L1.find c=L.find c:=by
 have hf:far=1000000000:=rfl
 obtain ⟨jd,j9,ji,jlo,js,jn,jle,jm,jml,jdp,jok⟩:=J
 have e0:decide ((0:Int)<((i+1:Nat):Int))=true:=decide_eq_true (by omega)
 have kv:∀ t,okA (.val v t)=.val v t:=ji.okA
 have sb:∀ s,aSub s .i64 ((i+1:Nat):Int) 1=.val (.int .i64 (i:Int)) s:=fun s=>by rw [aSub_i64 s _ _ (by omega)];congr 2;omega
 unfold bookV at j9
 simp (disch:=first|omega|(with_unfolding_all exact rfl)|(simp only[new_n,put_n,new_m];omega)|(refine put_m_le ?_;simp only[new_m];omega)) only [res10,K10r0,K10r1,K10r2,K10r3,K10r4,K10r5,K10r6,K10r7,K10,K10l0,Abs.W,reduceIte,Nat.reduceEqDiff,Nat.reduceAdd,decide_true,decide_false,kLoop_def,Nat.reduceSub,List.cons_append,List.nil_append,List.append_nil,List.length_cons,List.length_nil,Env.find_set,Nat.zero_add,Nat.add_zero,q0,q9,q10,q11,q12,j9,kv,e0]
 generalize hc1:call _ _ _ (.fn 33) _ _=r1
 obtain ⟨x1,t1,rfl,st1,d1,x10,x11⟩:=cast_ex hc1 (by omega) jd (by show d<t.n;omega) (by show t.n+100≤far;omega) (by omega)
 have n1:t.n≤t1.n:=st1.n
 have k1:t1.n≤t.n:=st1.le
 have g1:∀ c,c<t.n→c≠d→t1.h.get c=t.h.get c:=fun c hc hcd=>st1.same c hc hcd
 have a9:=(g1 p9 (by omega) (by omega)).trans j9
 simp (disch:=first|omega|(with_unfolding_all exact rfl)|(simp only[new_n,put_n,new_m];omega)|(refine put_m_le ?_;simp only[new_m];omega)) only [thenT_turn,Abs.W,reduceIte,Nat.reduceEqDiff,Nat.reduceAdd,decide_true,decide_false,kLoop_def,Nat.reduceSub,List.cons_append,List.nil_append,List.append_nil,List.length_cons,List.length_nil,Env.find_set,q0,q9,a9,Nat.zero_add]
 generalize hc2:call _ _ _ (.fn 33) _ _=r2
 obtain ⟨x2,t2,rfl,st2,d2,x20,x21⟩:=cast_ex hc2 (by omega) d1 (by show d<t1.n;omega) (by show t1.n+100≤far;omega) (by omega)
 have n2:t1.n≤t2.n:=st2.n
 have k2:t2.n≤t1.n:=st2.le
 have g2:∀ c,c<t.n→c≠d→t2.h.get c=t.h.get c:=fun c hc hcd=>(st2.same c (by show c<t1.n;omega) hcd).trans (g1 c hc hcd)
 simp (disch:=first|omega|(with_unfolding_all exact rfl)|(simp only[new_n,put_n,new_m];omega)|(refine put_m_le ?_;simp only[new_m];omega)) only [thenT_turn,Abs.W,reduceIte,Nat.reduceEqDiff,Nat.reduceAdd,decide_true,decide_false,kLoop_def,Nat.reduceSub,List.cons_append,List.nil_append,List.append_nil,List.length_cons,List.length_nil,Env.find_set,q0,q10,Nat.zero_add]
 generalize hc3:call _ _ _ (.fn 34) _ _=r3
 obtain ⟨y1,y2,t3,rfl,st3,d3,y10,y11,y12⟩:=span_ex hc3 (by omega) d2 (by show d<t2.n;omega) (by show t2.n+300≤far;omega) (by omega) (by omega) (by omega)
 have n3:t2.n≤t3.n:=st3.n
 have k3:t3.n≤t2.n+2:=st3.le
 have g3:∀ c,c<t.n→c≠d→t3.h.get c=t.h.get c:=fun c hc hcd=>(st3.same c (by show c<t2.n;omega) hcd).trans (g2 c hc hcd)
 simp (disch:=first|omega|(with_unfolding_all exact rfl)|(simp only[new_n,put_n,new_m];omega)|(refine put_m_le ?_;simp only[new_m];omega)) only [thenT_turn,Abs.W,reduceIte,Nat.reduceEqDiff,Nat.reduceAdd,decide_true,decide_false,kLoop_def,Nat.reduceSub,List.cons_append,List.nil_append,List.append_nil,List.length_cons,List.length_nil,Env.find_set,q0,q11,Nat.zero_add]
 generalize hc4:call _ _ _ (.fn 34) _ _=r4
 obtain ⟨z1,z2,t4,rfl,st4,d4,z10,z11,z12⟩:=span_ex hc4 (by omega) d3 (by show d<t3.n;omega) (by show t3.n+300≤far;omega) (by omega) (by omega) (by omega)
 have n4:t3.n≤t4.n:=st4.n
 have k4:t4.n≤t3.n+2:=st4.le
 have g4:∀ c,c<t.n→c≠d→t4.h.get c=t.h.get c:=fun c hc hcd=>(st4.same c (by show c<t3.n;omega) hcd).trans (g3 c hc hcd)
 simp (disch:=first|omega|(with_unfolding_all exact rfl)|(simp only[new_n,put_n,new_m];omega)|(refine put_m_le ?_;simp only[new_m];omega)) only [thenT_turn,Abs.W,reduceIte,Nat.reduceEqDiff,Nat.reduceAdd,decide_true,decide_false,kLoop_def,Nat.reduceSub,List.cons_append,List.nil_append,List.append_nil,List.length_cons,List.length_nil,Env.find_set,Nat.zero_add]
 obtain ⟨y8,hy8⟩:∃ y8:St,y8=⟨t4.h,t4.n,minN (minN (minN (minN t.m t1.m) t2.m) t3.m) t4.m⟩:=⟨_,rfl⟩
 have y8n:y8.n=t4.n:=by rw [hy8]
 have y8h:y8.h=t4.h:=by rw [hy8]
 have y8m:y8.m=min (min (min (min t.m t1.m) t2.m) t3.m) t4.m:=by rw [hy8];simp only [minN_eq]
 have m1:d≤t1.m:=st1.m (by show d≤far;omega)
 have m2:d≤t2.m:=st2.m (by show d≤far;omega)
 have m3:d≤t3.m:=st3.m (by show d≤far;omega)
 have m4:d≤t4.m:=st4.m (by show d≤far;omega)
 obtain ⟨S,hS⟩:∃ S:Sale,S=⟨x1,x2,y1,y2,z1,z2⟩:=⟨_,rfl⟩
 obtain ⟨y,hy⟩:∃ y:St,y=y8.new (.cells S.cells 0):=⟨_,rfl⟩
 have yn:y.n=t4.n+1:=by rw [hy];show y8.n+1=_;rw [y8n]
 have ym:y.m=y8.m:=by rw [hy];rfl
 have yg:∀ c,c<t4.n→y.h.get c=t4.h.get c:=fun c hc=>by rw [hy,get_new_ne _ _ _ (by omega),y8h]
 have yp:y.h.get t4.n=some (.cells S.cells 0):=by rw [hy,← y8n];exact get_new_eq _ _ _ rfl (by omega)
 have gy:∀ c,c<t.n→c≠d→y.h.get c=t.h.get c:=fun c hc hcd=>(yg c (by omega)).trans (g4 c hc hcd)
 obtain ⟨s7,e7,l7,s7n,s7g,s7m,s7l⟩:=append_at (bytes:=48) (ji.mono (h':=y.h) (n':=y.n) (fun h=>gy bl h (by omega)) (by omega)) yp rfl rfl (by rw [List.length_map];omega) (by kernel_rfl) (by omega)
 have hlen:(b.sales.map Sale.cells).length=b.sales.length:=List.length_map ..
 rw [hlen] at e7 l7
 obtain ⟨v7,hv7⟩:∃ v7,v7=AV.slice y.n 0 (b.sales.length+1) (b.sales.length+1) true:=⟨_,rfl⟩
 rw [← hv7] at e7 l7
 have e7':appendA false 6 48 (tag 51) (y8.new (.cells [.int .i64 x1,.int .i64 x2,.int .i64 y1,.int .i64 y2,.int .i64 z1,.int .i64 z2] 0)) v (.slice t4.n 0 1 1 false)=.val v7 s7:=by
  have:S.cells=[.int .i64 x1,.int .i64 x2,.int .i64 y1,.int .i64 y2,.int .i64 z1,.int .i64 z2]:=by rw [hS];rfl
  rw [hy,this] at e7
  exact e7
 rw [← hy8]
 have s9:=(s7g p9 (by omega) (by omega)).trans ((gy p9 (by omega) (by omega)).trans j9)
 have sc7:scalars [v7]=true:=by rw [hv7];rfl
 have cc7:cellsOf 1 v7=some [v7]:=by rw [hv7];rfl
 simp (disch:=first|omega|(with_unfolding_all exact rfl)|(simp only[new_n,put_n,new_m];omega)|(refine put_m_le ?_;simp only[new_m];omega)) only [Abs.W,reduceIte,Nat.reduceEqDiff,Nat.reduceAdd,decide_true,decide_false,kLoop_def,Nat.reduceSub,List.cons_append,List.nil_append,List.append_nil,List.length_cons,List.length_nil,Env.find_set,e7',q9,s9,sc7,cc7,Nat.zero_add]
 rw [endT_kept (l:=[34]) (s':=t4) (by simp only [keptAll_cons,keptAll_nil,find_cons,Env.find_set,keptV_ptr,(g3 p9 (by omega) (by omega)).trans j9,(g4 p9 (by omega) (by omega)).trans j9,sameO_cells,reduceIte,Nat.reduceEqDiff,Bool.and_self])]
 rw [endT_kept (l:=[34]) (s':=t3) (by simp only [keptAll_cons,keptAll_nil,find_cons,Env.find_set,keptV_ptr,(g2 p9 (by omega) (by omega)).trans j9,(g3 p9 (by omega) (by omega)).trans j9,sameO_cells,reduceIte,Nat.reduceEqDiff,Bool.and_self])]
 rw [endT_kept (l:=[34]) (s':=t2) (by simp only [keptAll_cons,keptAll_nil,find_cons,Env.find_set,keptV_ptr,(g1 p9 (by omega) (by omega)).trans j9,(g2 p9 (by omega) (by omega)).trans j9,sameO_cells,reduceIte,Nat.reduceEqDiff,Bool.and_self])]
 rw [endT_kept (l:=[34,41]) (s':=t1) (by simp only [keptAll_cons,keptAll_nil,find_cons,Env.find_set,keptV_ptr,j9,(g1 p9 (by omega) (by omega)).trans j9,sameO_cells,reduceIte,Nat.reduceEqDiff,Bool.and_self])]
 rw [endO_ok _ (endOk_nil _)]
 simp (disch:=first|omega|(with_unfolding_all exact rfl)|(simp only[new_n,put_n,new_m];omega)|(refine put_m_le ?_;simp only[new_m];omega)) only [res10,K10r0,K10r1,K10r2,K10r3,K10r4,K10r5,K10r6,K10r7,K10,Abs.W,reduceIte,Nat.reduceEqDiff,Nat.reduceAdd,decide_true,decide_false,kLoop_def,Nat.reduceSub,List.cons_append,List.nil_append,List.append_nil,List.length_cons,List.length_nil,Env.find_set,q12,sb,Nat.zero_add]
 have hcells:(b.sales.map Sale.cells)++[S.cells]=(b.sales++[S]).map Sale.cells:=by rw [List.map_append];rfl
 refine ⟨_,_,{ b with sales:=b.sales++[S] },v7,y.n,rfl,⟨?_,?_,?_,by omega,fun c hc hcd=>?_,by simp only [put_n];omega,by simp only [put_n];omega,fun hm=>?_,?_,jdp,fun x hx=>?_⟩,rfl,rfl,by simp,by simp only [Env.find_set,reduceIte,Nat.reduceEqDiff],fun c hc=>?_⟩
 ·exact Die.keep d4 (by rw [get_put_ne' _ _ _ _ (by omega),s7g d (by omega) (by omega),yg d (by omega)])
 ·exact get_put_eq _ _ _ _ rfl (by omega)
 ·rw [← hcells]
  exact l7.mono (fun _=>get_put_ne' _ _ _ _ (by omega)) (by simp only [put_n];omega)
 ·rw [get_put_ne' _ _ _ _ (by omega),s7g c (by omega) (by omega),gy c (by omega) hcd]
  exact js c hc hcd
 ·have:=jm hm
  have:=s7m d (by omega) (by omega) (by omega)
  simp only [St.put,minN_eq];omega
 ·simp only [St.put,minN_eq];omega
 ·rcases List.mem_append.mp hx with hx | hx
  ·exact jok x hx
  ·rw [List.mem_singleton.mp hx,hS]
   exact ⟨by simp only;omega,by simp only;omega,by simp only;omega,by simp only;omega,by simp only;omega,by simp only;omega,by simp only;omega,by simp only;omega,by simp only;omega,by simp only;omega⟩
 ·simp only [Env.find_set]
  rw [if_neg (by omega),if_neg (by omega)]
theorem book_loop (N:Nat) (hN:5≤N) {cx:Ctx} {d p9 bl kk i:Nat} {b:Book} {v:AV} {u w:St} {L:Env} {r:R} {gr ce:Int} (hr:loopN K10l0 rounds (call Try.prog X N) cx L [] w=r) (J:BookJ u w d p9 b v bl kk) (hk:1≤b.stalls∧b.stalls≤8) (hg:1≤b.goods∧b.goods≤8) (h0:b.sales.length=0) (hi:i≤39) (hs:u.n+kk+3000≤far) (hum:u.m≤far)
  (hgr:0≤gr∧gr≤5000) (hce:0≤ce∧ce≤2000) (q0:L.find 0=.ptr d 0) (q9:L.find 9=.ptr p9 0) (q10:L.find 10=.int .i64 gr) (q11:L.find 11=.int .i64 ce) (q12:L.find 12=.int .i64 (i:Int)) :
  ∃ L1 t1 b1 v1 bl1,r=.done (.exit 0) L1 [] t1∧BookJ u t1 d p9 b1 v1 bl1 (kk+400)∧b1.stalls=b.stalls∧b1.goods=b.goods∧b1.sales.length=i∧∀ c,c<12→L1.find c=L.find c:=by
 have hf:far=1000000000:=rfl
 obtain ⟨e,L1,t1,rfl,rfl,b1,v1,bl1,h1,h2,h3,h4,h5⟩:=loop_of hr (fun j L' t'=>∃ b1 v1 bl1,BookJ u t' d p9 b1 v1 bl1 (kk+10 * j)∧b1.stalls=b.stalls∧b1.goods=b.goods∧b1.sales.length=j∧L'.find 12=.int .i64 ((i - j:Nat):Int)∧∀ c,c<12→L'.find c=L.find c)
  (fun e L' t'=>e=.exit 0∧∃ b1 v1 bl1,BookJ u t' d p9 b1 v1 bl1 (kk+400)∧b1.stalls=b.stalls∧b1.goods=b.goods∧b1.sales.length=i∧∀ c,c<12→L'.find c=L.find c) i (by unfold rounds;omega)
  ⟨b,v,bl,J,rfl,rfl,h0,q12,fun _ _=>rfl⟩
  (fun j L' t' hj ⟨b1,v1,bl1,hJ,hb1,hb2,hb3,p12,g⟩=>by
   by_cases hlt:j<i
   ·obtain ⟨L2,t2,b2,v2,bl2,z1,z2,z3,z4,z5,z6,z7⟩:=book_round N hN cx (i:=i - j - 1) hJ (by omega) (by omega) (by omega) (by omega) hum (by omega) hgr hce ((g 0 (by omega)).trans q0) ((g 9 (by omega)).trans q9) ((g 10 (by omega)).trans q10) ((g 11 (by omega)).trans q11) (by rw [p12,show i - j - 1+1=i - j by omega])
    exact .inl ⟨hlt,L2,t2,z1,b2,v2,bl2,z2,z3.trans hb1,z4.trans hb2,by omega,z6.trans (by rw [show i - j - 1=i - (j+1) by omega]),fun c hc=>(z7 c hc).trans (g c hc)⟩
   ·obtain rfl:j=i:=by omega
    have e0:decide ((0:Int)<((0:Nat):Int))=false:=rfl
    rw [Nat.sub_self] at p12
    refine .inr ⟨.exit 0,L'.set 31 (.bool false),t',by simp,?_,rfl,b1,v1,bl1,?_,hb1,hb2,hb3,fun c hc=>?_⟩
    ·simp (disch:=first|omega|(with_unfolding_all exact rfl)|(simp only[new_n,put_n,new_m];omega)|(refine put_m_le ?_;simp only[new_m];omega)) only [res10,K10r0,K10r1,K10r2,K10r3,K10r4,K10r5,K10r6,K10r7,K10,K10l0,Abs.W,reduceIte,Nat.reduceEqDiff,Nat.reduceAdd,decide_true,decide_false,kLoop_def,Nat.reduceSub,List.cons_append,List.nil_append,List.append_nil,List.length_cons,List.length_nil,Env.find_set,p12,e0]
    ·obtain ⟨a1,a2,a3,a4,a5,a6,a7,a8,a9,a10,a11⟩:=hJ
     exact ⟨a1,a2,a3,a4,a5,a6,by omega,a8,a9,a10,a11⟩
    ·simp only [Env.find_set]
     rw [if_neg (by omega)]
     exact g c hc)
 exact ⟨L1,t1,b1,v1,bl1,rfl,h1,h2,h3,h4,h5⟩
theorem BookOf_ex3 {N d:Nat} {k g n:Nat} {s:St} {r:ARes} (hr:call Try.prog X N (.fn 10) [.ptr d 0,.int .i64 (k:Int),.int .i64 (g:Int),.int .i64 (n:Int)] s=r) (hN:6≤N) (hd:Die d s.h) (hlt:d<s.n) (hk:1≤k∧k≤8) (hg:1≤g∧g≤8) (hn:n≤39) (hs:s.n+6000≤far) :
  ∃ (b:Book) (v:AV) (bl:Nat) (t:St),r=.val (.agg (bookV b v)) t∧Stir d s t 500∧Die d t.h∧(b.Ok∧b.stalls≤k∧b.goods≤g)∧b.sales.length≤n∧s.n≤bl∧IsAt t.h t.n bl 6 (tag 51) (b.sales.map Sale.cells) v:=by
 obtain ⟨m,rfl⟩:∃ m,N=m+1:=⟨N - 1,by omega⟩
 have hf:far=1000000000:=rfl
 obtain ⟨v,t,e,st,b,v',bl,rfl,hq1,hq2,hq3,hq4,hq5⟩:=call_stir2 (n:=m) (args:=[.ptr d 0,.int .i64 (k:Int),.int .i64 (g:Int),.int .i64 (n:Int)]) (d:=d) (s:=s) (k:=500) (Q:=fun w h m=>∃ (b:Book) (v:AV) (bl:Nat),w=.agg (bookV b v)∧Die d h∧(b.Ok∧b.stalls≤k∧b.goods≤g)∧b.sales.length≤n∧s.n≤bl∧IsAt h m bl 6 (tag 51) (b.sales.map Sale.cells) v) Try.func10 rfl (fun u uh un um=>by
  have hd':=hd
  rw [← uh] at hd
  rw [← un] at hlt
  rw [enter10]
  simp (disch:=first|omega|(with_unfolding_all exact rfl)|(simp only[new_n,put_n,new_m];omega)|(refine put_m_le ?_;simp only[new_m];omega)) only [res10,K10r0,K10r1,K10r2,K10r3,K10r4,K10r5,K10r6,K10r7,K10,Abs.W,reduceIte,Nat.reduceEqDiff,Nat.reduceAdd,decide_true,decide_false,kLoop_def,Nat.reduceSub,List.cons_append,List.nil_append,List.append_nil,List.length_cons,List.length_nil,Env.find_set]
  obtain ⟨w0,hw0⟩:∃ w0:St,w0=u.new (.cells [.int .i64 0,.int .i64 0,.nilslice] (tag 27)):=⟨_,rfl⟩
  rw [← hw0]
  have w0n:w0.n=u.n+1:=by rw [hw0];rfl
  have w0m:w0.m=far:=by rw [hw0];exact um
  have w0g:∀ c,c<u.n→w0.h.get c=u.h.get c:=fun c hc=>by rw [hw0,get_new_ne _ _ _ (by omega)]
  have w00:w0.h.get u.n=some (.cells [.int .i64 0,.int .i64 0,.nilslice] (tag 27)):=by rw [hw0];exact get_new_eq _ _ _ rfl (by omega)
  generalize hc1:call _ _ _ (.fn 31) _ _=r1
  obtain ⟨x1,t1,rfl,st1,d1,x10,x11⟩:=from_ex hc1 (by omega) (Die.keep hd (w0g d hlt)) (by omega) (by omega) (by omega) (by omega) (by omega) (by omega)
  have n1:=st1.n
  have k1:=st1.le
  simp (disch:=first|omega|(with_unfolding_all exact rfl)|(simp only[new_n,put_n,new_m];omega)|(refine put_m_le ?_;simp only[new_m];omega)) only [Abs.W,reduceIte,Nat.reduceEqDiff,Nat.reduceAdd,decide_true,decide_false,kLoop_def,Nat.reduceSub,List.cons_append,List.nil_append,List.append_nil,List.length_cons,List.length_nil,Env.find_set]
  generalize hc2:call _ _ _ (.fn 31) _ _=r2
  obtain ⟨x2,t2,rfl,st2,d2,x20,x21⟩:=from_ex hc2 (by omega) d1 (by omega) (by omega) (by omega) (by omega) (by omega) (by omega)
  have n2:=st2.n
  have k2:=st2.le
  simp (disch:=first|omega|(with_unfolding_all exact rfl)|(simp only[new_n,put_n,new_m];omega)|(refine put_m_le ?_;simp only[new_m];omega)) only [Abs.W,reduceIte,Nat.reduceEqDiff,Nat.reduceAdd,decide_true,decide_false,kLoop_def,Nat.reduceSub,List.cons_append,List.nil_append,List.append_nil,List.length_cons,List.length_nil,Env.find_set,Nat.zero_add]
  obtain ⟨y,hy⟩:∃ y:St,y=(t2.new (.cells [.int .i64 0,.int .i64 0,.nilslice] (tag 27))).put t2.n (.cells [.int .i64 x1,.int .i64 x2,.nilslice] (tag 27)):=⟨_,rfl⟩
  have yn:y.n=t2.n+1:=by rw [hy];rfl
  have ym:y.m=min t2.m t2.n:=by rw [hy];simp only [St.put,minN_eq,new_m]
  have yg:∀ c,c<t2.n→y.h.get c=t2.h.get c:=fun c hc=>by rw [hy,get_put_ne' _ _ _ _ (by omega),get_new_ne _ _ _ (by omega)]
  have yp:y.h.get t2.n=some (.cells [.int .i64 x1,.int .i64 x2,.nilslice] (tag 27)):=by rw [hy];exact get_put_eq _ _ _ _ rfl (by omega)
  have m1:=st1.m (by omega)
  have m2:=st2.m m1
  have l1:=st1.mle
  have l2:=st2.mle
  rw [← hy]
  clear hy
  generalize hc3:call _ _ _ (.fn 32) _ _=r3
  obtain ⟨gr,t3,rfl,st3,d3,hgr⟩:=one_ex [6,100,5000] (b:=y.n) (sz:=0) hc3 (by omega) (Die.keep d2 ((get_new_ne _ _ _ (by omega)).trans (yg d (by omega)))) (by simp only [new_n];omega) (by simp only [new_n];omega) (get_new_eq _ _ _ rfl (by omega)) (by simp only [new_n];omega) (by omega) rfl (by omega) (by omega)
  have n3:y.n+1≤t3.n:=st3.n
  have k3:t3.n≤y.n+1:=st3.le
  have g3:∀ c,c<y.n→c≠d→t3.h.get c=y.h.get c:=fun c hc hcd=>(st3.same c (by show c<y.n+1;omega) hcd).trans (get_new_ne _ _ _ (by omega))
  have m3:d≤t3.m:=st3.m (by show d≤y.m;omega)
  have l3:t3.m≤y.m:=st3.mle
  simp (disch:=first|omega|(with_unfolding_all exact rfl)|(simp only[new_n,put_n,new_m];omega)|(refine put_m_le ?_;simp only[new_m];omega)) only [Abs.W,reduceIte,Nat.reduceEqDiff,Nat.reduceAdd,decide_true,decide_false,kLoop_def,Nat.reduceSub,List.cons_append,List.nil_append,List.append_nil,List.length_cons,List.length_nil,Env.find_set,Nat.zero_add]
  generalize hc4:call _ _ _ (.fn 32) _ _=r4
  obtain ⟨ce,t4,rfl,st4,d4,hce⟩:=one_ex [6,30,2000] (b:=t3.n) (sz:=0) hc4 (by omega) (Die.keep d3 (get_new_ne _ _ _ (by omega))) (by simp only [new_n];omega) (by simp only [new_n];omega) (get_new_eq _ _ _ rfl (by omega)) (by simp only [new_n];omega) (by omega) rfl (by omega) (by omega)
  have n4:t3.n+1≤t4.n:=st4.n
  have k4:t4.n≤t3.n+1:=st4.le
  have g4:∀ c,c<y.n→c≠d→t4.h.get c=y.h.get c:=fun c hc hcd=>(st4.same c (by show c<t3.n+1;omega) hcd).trans ((get_new_ne _ _ _ (by omega)).trans (g3 c hc hcd))
  have m4:d≤t4.m:=st4.m (by show d≤t3.m;omega)
  have l4:t4.m≤t3.m:=st4.mle
  have adn:∀ s,aAdd s .i64 (n:Int) 1=.val (.int .i64 ((n:Int)+1)) s:=fun s=>aAdd_i64 s _ _ (by omega)
  simp (disch:=first|omega|(with_unfolding_all exact rfl)|(simp only[new_n,put_n,new_m];omega)|(refine put_m_le ?_;simp only[new_m];omega)) only [res10,K10r0,K10r1,K10r2,K10r3,K10r4,K10r5,K10r6,K10r7,K10,Abs.W,reduceIte,Nat.reduceEqDiff,Nat.reduceAdd,decide_true,decide_false,kLoop_def,Nat.reduceSub,List.cons_append,List.nil_append,List.append_nil,List.length_cons,List.length_nil,Env.find_set,adn,Nat.zero_add]
  generalize hc5:call _ _ _ (.fn 33) _ _=r5
  obtain ⟨x5,t5,rfl,st5,d5,x50,x51⟩:=cast_ex hc5 (by omega) d4 (by omega) (by omega) (by omega)
  obtain ⟨i,rfl⟩:∃ n:Nat,x5=n:=⟨x5.toNat,by omega⟩
  obtain ⟨kk,rfl⟩:∃ n:Nat,x1=n:=⟨x1.toNat,by omega⟩
  obtain ⟨gg,rfl⟩:∃ n:Nat,x2=n:=⟨x2.toNat,by omega⟩
  have n5:=st5.n
  have k5:=st5.le
  have m5:=st5.m m4
  have l5:=st5.mle
  have g5:∀ c,c<y.n→c≠d→t5.h.get c=y.h.get c:=fun c hc hcd=>(st5.same c (by omega) hcd).trans (g4 c hc hcd)
  simp (disch:=first|omega|(with_unfolding_all exact rfl)|(simp only[new_n,put_n,new_m];omega)|(refine put_m_le ?_;simp only[new_m];omega)) only [res10,K10r0,K10r1,K10r2,K10r3,K10r4,K10r5,K10r6,K10r7,K10,Abs.W,reduceIte,Nat.reduceEqDiff,Nat.reduceAdd,decide_true,decide_false,kLoop_def,Nat.reduceSub,List.cons_append,List.nil_append,List.append_nil,List.length_cons,List.length_nil,Env.find_set,Nat.zero_add]
  generalize hlp:loopN _ rounds _ _ _ _ _=rl
  have p9:=(g5 t2.n (by omega) (by omega)).trans yp
  have hgr':0≤gr∧gr≤5000:=by simp at hgr;omega
  have hce':0≤ce∧ce≤2000:=by simp at hce;omega
  have base:∀ c,c<t2.n→c≠d→t5.h.get c=t2.h.get c:=fun c hc hcd=>(g5 c (by omega) hcd).trans (yg c hc)
  have base0:∀ c,c<u.n→c≠d→t5.h.get c=u.h.get c:=fun c hc hcd=>(base c (by omega) hcd).trans ((st2.same c (by omega) hcd).trans ((st1.same c (by omega) hcd).trans (w0g c hc)))
  have hJ:BookJ t5 t5 d t2.n ⟨kk,gg,[]⟩ .nilslice (far+1) 0:=⟨d5,p9,IsAt.nil _ _ _ _ _,by omega,fun _ _ _=>rfl,by omega,by omega,fun h=>h,Nat.le_refl _,by omega,fun s hs=>by cases hs⟩
  obtain ⟨L1,t6,b1,v1,bl1,rfl,J6,h61,h62,h63,g6⟩:=book_loop m (by omega) (i:=i) hlp hJ (by show 1≤kk∧kk≤8;omega) (by show 1≤gg∧gg≤8;omega) rfl (by omega) (by omega) (by omega) hgr' hce' (by simp only [find_cons,Env.find_set,reduceIte,Nat.reduceEqDiff]) (by simp only [find_cons,Env.find_set,reduceIte,Nat.reduceEqDiff]) (by simp only [find_cons,Env.find_set,reduceIte,Nat.reduceEqDiff]) (by simp only [find_cons,Env.find_set,reduceIte,Nat.reduceEqDiff]) (by simp only [find_cons,Env.find_set,reduceIte,Nat.reduceEqDiff])
  have f8:L1.find 8=.ptr u.n 0:=(g6 8 (by omega)).trans (by simp only [find_cons,Env.find_set,reduceIte,Nat.reduceEqDiff])
  have f9:L1.find 9=.ptr t2.n 0:=(g6 9 (by omega)).trans (by simp only [find_cons,Env.find_set,reduceIte,Nat.reduceEqDiff])
  have h61:b1.stalls=kk:=h61
  have h62:b1.goods=gg:=h62
  obtain ⟨jd,j9,ji,jlo,js,jn,jle,jm,jml,jdp,jok⟩:=J6
  have j0:t6.h.get u.n=some (.cells [.int .i64 0,.int .i64 0,.nilslice] (tag 27)):=(js u.n (by omega) (by omega)).trans ((base u.n (by omega) (by omega)).trans ((st2.same u.n (by omega) (by omega)).trans ((st1.same u.n (by omega) (by omega)).trans w00)))
  have sc1:=ji.scal.1
  have scb:scalars (bookV b1 v1)=true:=by show scalars [v1]=true;exact sc1
  unfold bookV at j9 scb
  have sh3:shapeT Try.prog 27=some (some 3):=by kernel_rfl
  simp (disch:=first|omega|(with_unfolding_all exact rfl)|(simp only[new_n,put_n,new_m];omega)|(refine put_m_le ?_;simp only[new_m];omega)) only [res10,K10r0,K10r1,K10r2,K10r3,K10r4,K10r5,K10r6,K10r7,K10,Abs.W,reduceIte,Nat.reduceEqDiff,Nat.reduceAdd,decide_true,decide_false,kLoop_def,Nat.reduceSub,List.cons_append,List.nil_append,List.append_nil,List.length_cons,List.length_nil,Env.find_set,f8,f9,j9,j0,scb,Nat.zero_add]
  have okb:b1.Ok∧b1.stalls≤k∧b1.goods≤g:=⟨⟨by omega,by omega,by omega,by omega,by omega,jok⟩,by omega,by omega⟩
  refine ⟨.agg (bookV b1 v1),_,leave_cell _ _ _ _ sh3 ?_,⟨fun c hc hcd=>?_,by simp only [put_n];omega,by simp only [put_n];omega,fun _=>?_,?_⟩,⟨b1,v1,bl1,rfl,Die.keep jd (get_put_ne' _ _ _ _ (by omega)),okb,by omega,by omega,ji.mono (fun _=>get_put_ne' _ _ _ _ (by omega)) (by simp only [put_n];omega)⟩,fun hp=>?_⟩
  ·simp only [Env.find_set,f8,reduceIte,Nat.reduceEqDiff]
   rw [load_ptr,get_put_eq _ _ _ _ rfl (by omega),loadO_cells,partS_some]
   rfl
  ·rw [get_put_ne' _ _ _ _ (by omega),js c (by omega) hcd,base0 c hc hcd]
  ·have:=jm (by omega)
   simp only [St.put,minN_eq];omega
  ·simp only [St.put,minN_eq];omega
  ·have hv:v1=.nilslice∧b1.sales=[]:=by
    rcases ji.is with ⟨z,z2⟩ | ⟨_,_,z,_⟩
    ·exact ⟨z2,List.map_eq_nil_iff.mp z⟩
    ·subst z;simp [plain,plains,bookV] at hp
   exact ⟨b1,v1,s.n,rfl,hd',okb,by omega,Nat.le_refl _,by rw [hv.1,hv.2];exact IsAt.nil _ _ _ _ _⟩) (by omega)
 exact ⟨b,v',bl,t,hr.symm.trans e,st,hq1,hq2,hq3,hq4,hq5⟩
end Go.Proofs.Ytamlnddeiokbdaa.walk
set_option maxRecDepth 10000
namespace Go.Proofs.Ytamlnddeiokbdaa.walk
open Go.Abs Go.Proofs.Ytamlnddeiokbdaa.code
theorem Die.new {d:Nat} {s:St} (h:Die d s.h) (hd:d<s.n) (o:AObj):Die d (s.new o).h:=by obtain ⟨f,hf⟩:=h;exact ⟨f,by rw [get_new_ne _ _ _ (by omega)];exact hf⟩
structure Perm (i:Nat) (f:List Nat):Prop where
 lt:∀ p,p<i→f.getD p 0<i
 all:∀ j,j<i→∃ p,p<i∧f.getD p 0=j
def mix (f:List Nat) (i k:Nat):List Nat:=(f.set i (f.getD k 0)).set k i
theorem getD_set {f:List Nat} {i x p:Nat} (hi:i<f.length):(f.set i x).getD p 0=if i=p then x else f.getD p 0:=by
 simp only [List.getD_eq_getElem?_getD,List.getElem?_set]
 by_cases h:i=p
 ·subst h;simp [hi]
 ·simp [h]
theorem mix_at {f:List Nat} {i k p:Nat} (hi:i<f.length) (hk:k<f.length):(mix f i k).getD p 0=if k=p then i else if i=p then f.getD k 0 else f.getD p 0:=by
 unfold mix
 rw [getD_set (by rw [List.length_set];exact hk),getD_set hi]
theorem Perm.step {i k:Nat} {f:List Nat} (h:Perm i f) (hi:i<f.length) (hk:k≤i):Perm (i+1) (mix f i k):=by
 refine ⟨fun p hp=>?_,fun j hj=>?_⟩
 ·rw [mix_at hi (by omega)]
  by_cases h1:k=p
  ·rw [if_pos h1];omega
  ·rw [if_neg h1]
   by_cases h2:i=p
   ·rw [if_pos h2]
    have:=h.lt k (by omega)
    omega
   ·rw [if_neg h2]
    have:=h.lt p (by omega)
    omega
 ·by_cases hji:j=i
  ·exact ⟨k,by omega,by rw [mix_at hi (by omega),if_pos rfl];exact hji.symm⟩
  ·obtain ⟨p,hp,e⟩:=h.all j (by omega)
   by_cases hpk:p=k
   ·refine ⟨i,by omega,?_⟩
    rw [mix_at hi (by omega),if_neg (by omega),if_pos rfl,← hpk]
    exact e
   ·refine ⟨p,by omega,?_⟩
    rw [mix_at hi (by omega),if_neg (by omega),if_neg (by omega)]
    exact e
def natRows (f:List Nat):List (List AV):=intRows (f.map Int.ofNat)
theorem natRows_len (f:List Nat):(natRows f).length=f.length:=by unfold natRows;rw [intRows_len,List.length_map]
theorem natRows_wide (f:List Nat):∀ r ∈ natRows f,r.length=1:=fun r hr=>by
 unfold natRows intRows at hr
 obtain ⟨x,_,rfl⟩:=List.mem_map.mp hr
 rfl
theorem natRows_at {f:List Nat} {k:Nat} (hk:k<f.length):(natRows f)[k]'(by rw [natRows_len];exact hk)=[.int .i64 (f.getD k 0:Nat)]:=by
 unfold natRows intRows
 simp [List.getD,hk]
theorem natRows_nth {f:List Nat} {k:Nat} (hk:k<f.length):nth (natRows f).flatten k=.int .i64 (f.getD k 0:Nat):=by
 have:=flatten_cut (natRows_wide f) (show k<(natRows f).length by rw [natRows_len];exact hk)
 rw [natRows_at hk,Nat.mul_one] at this
 exact cut1_nth this
theorem natRows_set (f:List Nat) (k x:Nat):(natRows f).set k [.int .i64 (x:Int)]=natRows (f.set k x):=by
 unfold natRows intRows
 rw [List.map_set,List.map_set]
 rfl
theorem natRows_over {f:List Nat} {k:Nat} (hk:k<f.length) (x:Nat):over k [.int .i64 (x:Int)] (natRows f).flatten=some (natRows (f.set k x)).flatten:=by
 have:=over_flatten (row:=[.int .i64 (x:Int)]) (natRows_wide f) (show k<(natRows f).length by rw [natRows_len];exact hk) rfl
 rw [Nat.mul_one,natRows_set] at this
 exact this
structure ShufJ (u t:St) (d m i:Nat) (f:List Nat):Prop where
 die:Die d t.h
 get:t.h.get u.n=some (.cells (natRows f).flatten 0)
 same:∀ c,c<u.n→c≠d→t.h.get c=u.h.get c
 n:t.n=u.n+1
 tm:d≤t.m
 mle:t.m≤far
 len:f.length=m
 perm:Perm i f
theorem shuf_round (N:Nat) (hN:6≤N) (cx:Ctx) {d m i:Nat} {f:List Nat} {u t:St} {L:Env} (hJ:ShufJ u t d m i f) (hi:i<m) (hm:m≤50) (hd:d<u.n) (hs:u.n+1000≤far) (q0:L.find 0=.ptr d 0) (q5:L.find 5=.slice u.n 0 m m false) (q6:L.find 6=.int .i64 i) :
  ∃ L1 t1 f1,K24l0 (call Try.prog X N) cx L [] t=.done .norm L1 [] t1∧ShufJ u t1 d m (i+1) f1∧L1.find 0=.ptr d 0∧L1.find 5=.slice u.n 0 m m false∧L1.find 6=.int .i64 (i+1:Nat):=by
 have hf:far=1000000000:=rfl
 obtain ⟨jd,jg,js,jn,jm,jl,jlen,jp⟩:=hJ
 have e0:decide ((i:Int)<(m:Int))=true:=decide_eq_true (by omega)
 have ad:∀ s,aAdd s .i64 (i:Int) 1=.val (.int .i64 ((i:Int)+1)) s:=fun s=>aAdd_i64 s _ _ (by omega)
 have okR:∀ t,okA (.val (.slice u.n 0 m m false) t)=.val (.slice u.n 0 m m false) t:=fun _=>rfl
 have lnR:∀ s,lenSlA s (.slice u.n 0 m m false)=.val (.int .i64 (m:Int)) s:=fun _=>rfl
 have ixR:∀ s k,k<m→ixsA 1 s (.slice u.n 0 m m false) (.int .i64 (k:Int))=.val (.ptr u.n k) s:=fun s k hk=>by rw [ixs_slice _ _ _ _ _ _ _ _ hk,Nat.zero_add,Nat.mul_one]
 simp (disch:=first|omega|(with_unfolding_all exact rfl)|(simp only[new_n,put_n,new_m];omega)|(refine put_m_le ?_;simp only[new_m];omega)) only [res24,K24r0,K24r1,K24r2,K24r3,K24r4,K24r5,K24r6,K24r7,K24r8,K24,K24l0,Abs.W,reduceIte,Nat.reduceEqDiff,Nat.reduceAdd,decide_true,decide_false,kLoop_def,Nat.reduceSub,List.cons_append,List.nil_append,List.append_nil,List.length_cons,List.length_nil,Env.find_set,q0,q5,q6,okR,lnR,e0,ad,Nat.zero_add]
 generalize hc:call _ _ _ (.fn 33) _ _=r
 obtain ⟨x,t1,rfl,st,d1,x0,x1⟩:=cast_ex hc (by omega) jd (by omega) (by omega) (by omega)
 obtain ⟨k,rfl⟩:∃ n:Nat,x=n:=⟨x.toNat,by omega⟩
 have n1:t.n≤t1.n:=st.n
 have k1:t1.n≤t.n:=st.le
 have g1:=(st.same u.n (by omega) (by omega)).trans jg
 have m1:=st.m jm
 have l1:=st.mle
 have nk:=natRows_nth (f:=f) (k:=k) (by omega)
 have o1:=natRows_over (f:=f) (k:=i) (by omega) (f.getD k 0)
 have o2:=natRows_over (f:=f.set i (f.getD k 0)) (k:=k) (by rw [List.length_set];omega) i
 have i1:∀ s,ixsA 1 s (.slice u.n 0 m m false) (.int .i64 (k:Int))=.val (.ptr u.n k) s:=fun s=>ixR s k (by omega)
 have i2:∀ s,ixsA 1 s (.slice u.n 0 m m false) (.int .i64 (i:Int))=.val (.ptr u.n i) s:=fun s=>ixR s i hi
 simp (disch:=first|omega|(with_unfolding_all exact rfl)|(simp only[new_n,put_n,new_m];omega)|(refine put_m_le ?_;simp only[new_m];omega)) only [res24,K24r0,K24r1,K24r2,K24r3,K24r4,K24r5,K24r6,K24r7,K24r8,K24,Abs.W,reduceIte,Nat.reduceEqDiff,Nat.reduceAdd,decide_true,decide_false,kLoop_def,Nat.reduceSub,List.cons_append,List.nil_append,List.append_nil,List.length_cons,List.length_nil,Env.find_set,q5,q6,okR,i1,i2,g1,nk,o1,o2,ad,Nat.zero_add]
 refine ⟨_,_,mix f i k,rfl,⟨d1.keep ?_,?_,fun c h1 h2=>?_,by simp only [put_n];omega,?_,?_,by unfold mix;rw [List.length_set,List.length_set];exact jlen,jp.step (by omega) (by omega)⟩,by simp only [Env.find_set,q0,reduceIte,Nat.reduceEqDiff],by simp only [Env.find_set,q5,reduceIte,Nat.reduceEqDiff],by simp only [Env.find_set,reduceIte,Nat.reduceEqDiff];rfl⟩
 ·rw [get_put_ne' _ _ _ _ (by omega),get_put_ne' _ _ _ _ (by omega)]
 ·exact get_put_eq _ _ _ _ rfl (by omega)
 ·rw [get_put_ne' _ _ _ _ (by omega),get_put_ne' _ _ _ _ (by omega),st.same c (by omega) h2]
  exact js c h1 h2
 ·simp only [St.put,minN_eq];omega
 ·simp only [St.put,minN_eq];omega
theorem Shuffle_ex {N d m:Nat} {s:St} {r:ARes} (hr:call Try.prog X N (.fn 24) [.ptr d 0,.int .i64 (m:Int)] s=r) (hN:7≤N) (hd:Die d s.h) (hlt:d<s.n) (hm:m≤50) (hs:s.n+2000≤far) :
  ∃ v f t,r=.val v t∧Stir d s t 1∧Die d t.h∧f.length=m∧Perm m f∧Blk t.h t.n s.n 1 (tag 3) (natRows f) v:=by
 obtain ⟨n,rfl⟩:∃ n,N=n+1:=⟨N - 1,by omega⟩
 have hf:far=1000000000:=rfl
 obtain ⟨v,t,e,st,f,hdt,hfl,hp,hb⟩:=call_stir (n:=n) (args:=[.ptr d 0,.int .i64 (m:Int)]) (d:=d) (s:=s) (k:=1) (Q:=fun v h n=>∃ f,Die d h∧f.length=m∧Perm m f∧Blk h n s.n 1 (tag 3) (natRows f) v) Try.func24 rfl (fun u uh un um=>by
  rw [← uh] at hd
  rw [← un] at hlt ⊢
  have mk:∀ s:St,makeA [.int .i64 0] 8 s (.int .i64 (m:Int)) (.int .i64 (m:Int))=.val (.slice s.n 0 m m false) (s.new (.cells (List.replicate m [.int .i64 0]).flatten 0)):=fun s=>make_rows [.int .i64 0] 8 m s (by omega) (by omega)
  have okR:∀ t,okA (.val (.slice u.n 0 m m false) t)=.val (.slice u.n 0 m m false) t:=fun _=>rfl
  have lnR:∀ s,lenSlA s (.slice u.n 0 m m false)=.val (.int .i64 (m:Int)) s:=fun _=>rfl
  have mx:max (0:Int) (m:Int)=(m:Int):=by omega
  rw [enter24]
  simp (disch:=first|omega|(with_unfolding_all exact rfl)|(simp only[new_n,put_n,new_m];omega)|(refine put_m_le ?_;simp only[new_m];omega)) only [res24,K24r0,K24r1,K24r2,K24r3,K24r4,K24r5,K24r6,K24r7,K24r8,K24,Abs.W,reduceIte,Nat.reduceEqDiff,Nat.reduceAdd,decide_true,decide_false,kLoop_def,Nat.reduceSub,List.cons_append,List.nil_append,List.append_nil,List.length_cons,List.length_nil,Env.find_set,Nat.zero_add,kFold_def,foldA_nil,foldA_cons,maxA_i64,mx,kMake_def,mk,okR]
  generalize hlp:loopN _ rounds _ _ _ _ _=r1
  have zr:(List.replicate m [AV.int .i64 0])=natRows (List.replicate m 0):=by unfold natRows intRows;simp
  rw [zr] at hlp
  obtain ⟨e,L1,s1,rfl,rfl,f5,f,hJ⟩:=loop_of hlp (fun i L' t'=>(∃ f,ShufJ u t' d m i f)∧L'.find 0=.ptr d 0∧L'.find 5=.slice u.n 0 m m false∧L'.find 6=.int .i64 i) (fun e L' t'=>e=.exit 0∧L'.find 5=.slice u.n 0 m m false∧∃ f,ShufJ u t' d m m f) m (by unfold rounds;omega)
   ⟨⟨List.replicate m 0,⟨hd.new hlt _,get_new_eq _ _ _ rfl (by omega),fun c h1 h2=>get_new_ne _ _ _ (by omega),rfl,by show d≤u.m;omega,by show u.m≤far;omega,List.length_replicate,⟨fun p hp=>absurd hp (Nat.not_lt_zero p),fun j hj=>absurd hj (Nat.not_lt_zero j)⟩⟩⟩,by simp only [find_cons,Env.find_set,reduceIte,Nat.reduceEqDiff],by simp only [find_cons,Env.find_set,reduceIte,Nat.reduceEqDiff],by simp only [find_cons,Env.find_set,reduceIte,Nat.reduceEqDiff];rfl⟩
   (fun i L' t' hi ⟨⟨f,hJ⟩,q0,q5,q6⟩=>by
    by_cases hlt':i<m
    ·obtain ⟨L2,t2,f1,p1,p2,p3,p4,p5⟩:=shuf_round n (by omega) ⟨24,none,Try.f24.ntmps,X 24⟩ hJ hlt' hm hlt (by omega) q0 q5 q6
     exact .inl ⟨hlt',L2,t2,p1,⟨f1,p2⟩,p3,p4,p5⟩
    ·obtain rfl:i=m:=by omega
     have e1:decide ((i:Int)<(i:Int))=false:=by simp
     refine .inr ⟨.exit 0,L'.set 14 (.bool false),t',by simp,?_,rfl,by simp only [Env.find_set,q5,reduceIte,Nat.reduceEqDiff],f,hJ⟩
     simp (disch:=first|omega|(with_unfolding_all exact rfl)|(simp only[new_n,put_n,new_m];omega)|(refine put_m_le ?_;simp only[new_m];omega)) only [res24,K24r0,K24r1,K24r2,K24r3,K24r4,K24r5,K24r6,K24r7,K24r8,K24,K24l0,Abs.W,reduceIte,Nat.reduceEqDiff,Nat.reduceAdd,decide_true,decide_false,kLoop_def,Nat.reduceSub,List.cons_append,List.nil_append,List.append_nil,List.length_cons,List.length_nil,Env.find_set,q5,q6,okR,lnR,e1,Nat.zero_add])
  simp (disch:=first|omega|(with_unfolding_all exact rfl)|(simp only[new_n,put_n,new_m];omega)|(refine put_m_le ?_;simp only[new_m];omega)) only [res24,K24r0,K24r1,K24r2,K24r3,K24r4,K24r5,K24r6,K24r7,K24r8,K24,Abs.W,reduceIte,Nat.reduceEqDiff,Nat.reduceAdd,decide_true,decide_false,kLoop_def,Nat.reduceSub,List.cons_append,List.nil_append,List.append_nil,List.length_cons,List.length_nil,Env.find_set,f5,okR]
  refine ⟨.slice u.n 0 m m false,s1,rfl,⟨fun c h1 h2=>hJ.same c h1 h2,by have:=hJ.n;omega,by have:=hJ.n;omega,fun _=>hJ.tm,by have:=hJ.mle;omega⟩,rfl,f,hJ.die,hJ.len,hJ.perm,⟨natRows_wide f,false,0,by rw [natRows_len,hJ.len],by have:=hJ.n;omega,hJ.get,fun h=>(by cases h)⟩⟩) (by omega)
 exact ⟨v,f,t,hr.symm.trans e,st,hdt,hfl,hp,hb⟩
end Go.Proofs.Ytamlnddeiokbdaa.walk
set_option maxRecDepth 10000
namespace Go.Abs
structure StepsTo (l:List Step) (f:Int):Prop where
 f0:l.length=0→f=0
 z:0<l.length→(stepAt l 0).fr=0
 up:∀ i,i+1<l.length→(stepAt l i).fr<(stepAt l (i+1)).fr
 lt:∀ i,i<l.length→0≤(stepAt l i).fr∧(stepAt l i).fr<f
 p:0≤f
 le:f≤5000 * l.length
 s0:∀ i,i<l.length→0≤(stepAt l i).sh
 s1:∀ i,i<l.length→(stepAt l i).sh≤1000
theorem StepsTo.nil:StepsTo [] 0:=⟨fun _=>rfl,fun h=>absurd h (by simp),fun i h=>absurd h (by simp),fun i h=>absurd h (by simp),Int.le_refl _,by simp,fun i h=>absurd h (by simp),fun i h=>absurd h (by simp)⟩
theorem stepAt_old (l:List Step) (m:Step) {i:Nat} (h:i<l.length):stepAt (l++[m]) i=stepAt l i:=by
 unfold stepAt
 simp only [List.getD,List.getElem?_append_left h]
theorem stepAt_end (l:List Step) (m:Step):stepAt (l++[m]) l.length=m:=by
 unfold stepAt
 simp [List.getD]
theorem StepsTo.snoc {l:List Step} {f c x:Int} (h:StepsTo l f) (hc:0≤c∧c≤1000) (hx:1≤x∧x≤5000):StepsTo (l++[⟨f,c⟩]) (f+x):=by
 obtain ⟨f0,z,up,lt,p,le,s0,s1⟩:=h
 have hl:(l++[(⟨f,c⟩:Step)]).length=l.length+1:=by simp
 have last:∀ i,i<(l++[(⟨f,c⟩:Step)]).length→¬ i<l.length→i=l.length:=fun i h1 h2=>by omega
 refine ⟨fun h=>by omega,fun _=>?_,fun i hi=>?_,fun i hi=>?_,by omega,by omega,fun i hi=>?_,fun i hi=>?_⟩
 ·by_cases h:0<l.length
  ·rw [stepAt_old l _ h];exact z h
  ·have e:l=[]:=List.length_eq_zero_iff.mp (by omega)
   subst e
   show f=0
   exact f0 rfl
 ·by_cases h:i+1<l.length
  ·rw [stepAt_old l _ h,stepAt_old l _ (by omega)];exact up i h
  ·have e:i+1=l.length:=by omega
   rw [stepAt_old l _ (by omega),e,stepAt_end]
   exact (lt i (by omega)).2
 ·by_cases h:i<l.length
  ·rw [stepAt_old l _ h];have:=lt i h;omega
  ·rw [last i hi h,stepAt_end];show 0≤f∧f<f+x;omega
 ·by_cases h:i<l.length
  ·rw [stepAt_old l _ h];exact s0 i h
  ·rw [last i hi h,stepAt_end];exact hc.1
 ·by_cases h:i<l.length
  ·rw [stepAt_old l _ h];exact s1 i h
  ·rw [last i hi h,stepAt_end];exact hc.2
theorem StepsTo.ok {l:List Step} {f:Int} (h:StepsTo l f) (h0:1≤l.length) (h1:l.length≤4):StepsOk l :=
 ⟨h0,by omega,h.z (by omega),h.up,fun i hi=>by have:=h.lt i hi;have:=h.le;omega,h.s0,h.s1⟩
end Go.Abs
namespace Go.Proofs.Ytamlnddeiokbdaa.walk
open Go.Abs Go.Proofs.Ytamlnddeiokbdaa.code
structure StepsJ (u t:St) (d:Nat) (l:List Step) (v:AV) (bl kk:Nat):Prop where
 die:Die d t.h
 is:IsAt t.h t.n bl 2 (tag 75) (l.map Step.cells) v
 lo:u.n≤bl
 same:∀ c,c<u.n→c≠d→t.h.get c=u.h.get c
 n:u.n≤t.n
 le:t.n≤u.n+kk
 m:d≤t.m
 mle:t.m≤u.m
theorem steps_round (N:Nat) (hN:4≤N) (cx:Ctx) {d bl kk i:Nat} {l:List Step} {v:AV} {f:Int} {u t:St} {L:Env} (J:StepsJ u t d l v bl kk) (hT:StepsTo l f) (hl:l.length≤10) (hdu:d<u.n) (hs:u.n+kk+2000≤far) (hum:u.m≤far) (hi:i≤1000)
  (q0:L.find 0=.ptr d 0) (q5:L.find 5=v) (q6:L.find 6=.int .i64 f) (q7:L.find 7=.int .i64 (i+1:Nat)) :
  ∃ L1 t1 l1 v1 bl1 f1,K11l0 (call Try.prog X N) cx L [] t=.done .norm L1 [] t1∧StepsJ u t1 d l1 v1 bl1 (kk+5)∧StepsTo l1 f1∧l1.length=l.length+1∧L1.find 0=.ptr d 0∧L1.find 5=v1∧L1.find 6=.int .i64 f1∧L1.find 7=.int .i64 (i:Nat):=by
 have hf:far=1000000000:=rfl
 obtain ⟨jd,ji,jlo,js,jn,jle,jm,jml⟩:=J
 have tp:=hT.p
 have tle:=hT.le
 have e0:decide ((0:Int)<((i+1:Nat):Int))=true:=decide_eq_true (by omega)
 have kv:∀ t,okA (.val v t)=.val v t:=ji.okA
 have sb:∀ s,aSub s .i64 ((i+1:Nat):Int) 1=.val (.int .i64 (i:Int)) s:=fun s=>by rw [aSub_i64 s _ _ (by omega)];congr 2;omega
 simp (disch:=first|omega|(with_unfolding_all exact rfl)|(simp only[new_n,put_n,new_m];omega)|(refine put_m_le ?_;simp only[new_m];omega)) only [K11l0,K11r4,K11r5,Abs.W,reduceIte,Nat.reduceEqDiff,Nat.reduceAdd,decide_true,decide_false,kLoop_def,Nat.reduceSub,List.cons_append,List.nil_append,List.append_nil,List.length_cons,List.length_nil,Env.find_set,Nat.zero_add,q0,q5,q6,q7,kv,e0]
 generalize hc1:call _ _ _ (.fn 33) _ _=r1
 obtain ⟨c,t1,rfl,st1,d1,c0,c1⟩:=cast_ex hc1 (by omega) jd (by omega) (by omega) (by omega)
 have n1:t.n≤t1.n:=st1.n
 have k1:t1.n≤t.n:=st1.le
 have m1:d≤t1.m:=st1.m jm
 have l1:t1.m≤t.m:=st1.mle
 have g1:∀ c,c<t.n→c≠d→t1.h.get c=t.h.get c:=fun c hc hcd=>st1.same c hc hcd
 simp (disch:=first|omega|(with_unfolding_all exact rfl)|(simp only[new_n,put_n,new_m];omega)|(refine put_m_le ?_;simp only[new_m];omega)) only [Abs.W,reduceIte,Nat.reduceEqDiff,Nat.reduceAdd,decide_true,decide_false,kLoop_def,Nat.reduceSub,List.cons_append,List.nil_append,List.append_nil,List.length_cons,List.length_nil,Env.find_set,q0,q5,q6,q7,kv,Nat.zero_add]
 obtain ⟨y,hy⟩:∃ y:St,y=t1.new (.cells [.int .i64 f,.int .i64 c] 0):=⟨_,rfl⟩
 have yn:y.n=t1.n+1:=by rw [hy];rfl
 have ym:y.m=t1.m:=by rw [hy];rfl
 have yg:∀ c,c<t1.n→y.h.get c=t1.h.get c:=fun c hc=>by rw [hy,get_new_ne _ _ _ (by omega)]
 have yp:y.h.get t1.n=some (.cells [.int .i64 f,.int .i64 c] 0):=by rw [hy];exact get_new_eq _ _ _ rfl (by omega)
 have gy:∀ c,c<t.n→c≠d→y.h.get c=t.h.get c:=fun c hc hcd=>(yg c (by omega)).trans (g1 c hc hcd)
 obtain ⟨s7,e7,l7,s7n,s7g,s7m,s7l⟩:=append_at (bytes:=16) (ji.mono (h':=y.h) (n':=y.n) (fun h=>gy bl h (by omega)) (by omega)) yp rfl rfl (by rw [List.length_map];omega) (by kernel_rfl) (by omega)
 have hlen:(l.map Step.cells).length=l.length:=List.length_map ..
 rw [hlen] at e7 l7
 obtain ⟨v7,hv7⟩:∃ v7,v7=AV.slice y.n 0 (l.length+1) (l.length+1) true:=⟨_,rfl⟩
 rw [← hv7] at e7 l7
 rw [← hy]
 have kv7:∀ t,okA (.val v7 t)=.val v7 t:=fun t=>by rw [hv7];rfl
 simp (disch:=first|omega|(with_unfolding_all exact rfl)|(simp only[new_n,put_n,new_m];omega)|(refine put_m_le ?_;simp only[new_m];omega)) only [Abs.W,reduceIte,Nat.reduceEqDiff,Nat.reduceAdd,decide_true,decide_false,kLoop_def,Nat.reduceSub,List.cons_append,List.nil_append,List.append_nil,List.length_cons,List.length_nil,Env.find_set,e7,kv7,q0,q5,q6,q7,K11r6,Nat.zero_add]
 have d7:Die d s7.h:=Die.keep d1 ((s7g d (by omega) (by omega)).trans (yg d (by omega)))
 have m7:=s7m d (by omega) (by omega) (by omega)
 generalize hc2:call _ _ _ (.fn 32) _ _=r2
 obtain ⟨w,t2,rfl,st2,d2,hw⟩:=one_ex [5,100,5000] (b:=s7.n) (sz:=0) hc2 (by omega) (Die.keep d7 (get_new_ne _ _ _ (by omega))) (by rw [new_n];omega) (by rw [new_n];omega) (get_new_eq _ _ _ rfl (by omega)) (by rw [new_n];omega) (by omega) rfl (by omega) (by omega)
 have hw':5≤w∧w≤5000:=by simp at hw;omega
 have n2:s7.n+1≤t2.n:=st2.n
 have k2:t2.n≤s7.n+1+0:=st2.le
 have m2:d≤t2.m:=st2.m (by show d≤s7.m;omega)
 have l2:t2.m≤s7.m:=st2.mle
 have g2:∀ c,c<s7.n→c≠d→t2.h.get c=s7.h.get c:=fun c hc hcd=>(st2.same c (by rw [new_n];omega) hcd).trans (get_new_ne _ _ _ (by omega))
 simp (disch:=first|omega|(with_unfolding_all exact rfl)|(simp only[new_n,put_n,new_m];omega)|(refine put_m_le ?_;simp only[new_m];omega)) only [Abs.W,reduceIte,Nat.reduceEqDiff,Nat.reduceAdd,decide_true,decide_false,kLoop_def,Nat.reduceSub,List.cons_append,List.nil_append,List.append_nil,List.length_cons,List.length_nil,Env.find_set,q0,q6,Nat.zero_add]
 generalize hc3:call _ _ _ (.fn 31) _ _=r3
 obtain ⟨x,t3,rfl,st3,d3,x0,x1⟩:=from_ex hc3 (by omega) d2 (by omega) (by omega) (by omega) (by omega) (by omega) (by omega)
 have n3:t2.n≤t3.n:=st3.n
 have k3:t3.n≤t2.n+0:=st3.le
 have m3:d≤t3.m:=st3.m m2
 have l3:t3.m≤t2.m:=st3.mle
 have g3:∀ c,c<s7.n→c≠d→t3.h.get c=s7.h.get c:=fun c hc hcd=>(st3.same c (by omega) hcd).trans (g2 c hc hcd)
 have ad:∀ s,aAdd s .i64 f x=.val (.int .i64 (f+x)) s:=fun s=>aAdd_i64 s _ _ (by omega)
 simp (disch:=first|omega|(with_unfolding_all exact rfl)|(simp only[new_n,put_n,new_m];omega)|(refine put_m_le ?_;simp only[new_m];omega)) only [res11,K11r0,K11r1,K11r2,K11r3,K11r4,K11r5,K11r6,K11r7,K11r8,K11,Abs.W,reduceIte,Nat.reduceEqDiff,Nat.reduceAdd,decide_true,decide_false,kLoop_def,Nat.reduceSub,List.cons_append,List.nil_append,List.append_nil,List.length_cons,List.length_nil,Env.find_set,q6,q7,ad,sb,Nat.zero_add]
 have hcells:(l.map Step.cells)++[[.int .i64 f,.int .i64 c]]=(l++[(⟨f,c⟩:Step)]).map Step.cells:=by rw [List.map_append];rfl
 refine ⟨_,_,l++[⟨f,c⟩],v7,y.n,f+x,rfl,⟨d3,?_,by omega,fun c hc hcd=>?_,by omega,by omega,m3,by omega⟩,hT.snoc (by omega) (by omega),by simp,?_,?_,?_,?_⟩
 ·rw [← hcells]
  exact l7.mono (fun h=>g3 _ (by omega) (by omega)) (by omega)
 ·rw [g3 c (by omega) hcd,s7g c (by omega) (by omega),gy c (by omega) hcd]
  exact js c hc hcd
 ·simp only [Env.find_set,q0,reduceIte,Nat.reduceEqDiff]
 ·simp only [Env.find_set,reduceIte,Nat.reduceEqDiff]
 ·simp only [Env.find_set,reduceIte,Nat.reduceEqDiff]
 ·simp only [Env.find_set,reduceIte,Nat.reduceEqDiff]
theorem StepsOf_ex {N d:Nat} {s:St} {r:ARes} (hr:call Try.prog X N (.fn 11) [.ptr d 0,.int .i64 4] s=r) (hN:6≤N) (hd:Die d s.h) (hlt:d<s.n) (hs:s.n+6000≤far) :
  ∃ (l:List Step) (bl:Nat) (t:St),r=.val (.slice bl 0 l.length l.length true) t∧Stir d s t 100∧Die d t.h∧StepsOk l∧l.length≤4∧s.n≤bl∧bl<t.n∧t.h.get bl=some (.cells (l.map Step.cells).flatten (2+tag 75)):=by
 obtain ⟨m,rfl⟩:∃ m,N=m+1:=⟨N - 1,by omega⟩
 have hf:far=1000000000:=rfl
 obtain ⟨v,t,e,st,l,bl,rfl,hq1,hq2,hq3,hq4,hq5,hq6⟩:=call_stir (n:=m) (args:=[.ptr d 0,.int .i64 4]) (d:=d) (s:=s) (k:=100) (Q:=fun w h m=>∃ (l:List Step) (bl:Nat),w=.slice bl 0 l.length l.length true∧Die d h∧StepsOk l∧l.length≤4∧s.n≤bl∧bl<m∧h.get bl=some (.cells (l.map Step.cells).flatten (2+tag 75))) Try.func11 rfl (fun u uh un um=>by
  rw [← uh] at hd
  rw [← un] at hlt
  rw [enter11]
  simp (disch:=first|omega|(with_unfolding_all exact rfl)|(simp only[new_n,put_n,new_m];omega)|(refine put_m_le ?_;simp only[new_m];omega)) only [res11,K11r0,K11r1,K11r2,K11r3,K11r4,K11r5,K11r6,K11r7,K11r8,K11,Abs.W,reduceIte,Nat.reduceEqDiff,Nat.reduceAdd,decide_true,decide_false,kLoop_def,Nat.reduceSub,List.cons_append,List.nil_append,List.append_nil,List.length_cons,List.length_nil,Env.find_set]
  generalize hc1:call _ _ _ (.fn 31) _ _=r1
  obtain ⟨x1,t1,rfl,st1,d1,x10,x11⟩:=from_ex hc1 (by omega) hd (by omega) (by omega) (by omega) (by omega) (by omega) (by omega)
  have n1:=st1.n
  have k1:=st1.le
  have m1:=st1.m (by omega)
  have l1:=st1.mle
  obtain ⟨i,rfl⟩:∃ n:Nat,x1=n:=⟨x1.toNat,by omega⟩
  simp (disch:=first|omega|(with_unfolding_all exact rfl)|(simp only[new_n,put_n,new_m];omega)|(refine put_m_le ?_;simp only[new_m];omega)) only [res11,K11r0,K11r1,K11r2,K11r3,K11r4,K11r5,K11r6,K11r7,K11r8,K11,Abs.W,reduceIte,Nat.reduceEqDiff,Nat.reduceAdd,decide_true,decide_false,kLoop_def,Nat.reduceSub,List.cons_append,List.nil_append,List.append_nil,List.length_cons,List.length_nil,Env.find_set,Nat.zero_add]
  generalize hlp:loopN _ rounds _ _ _ _ _=rl
  have hJ:StepsJ t1 t1 d [] .nilslice t1.n (5 * 0):=⟨d1,IsAt.nil _ _ _ _ _,Nat.le_refl _,fun _ _ _=>rfl,Nat.le_refl _,by omega,m1,Nat.le_refl _⟩
  obtain ⟨e,L1,t2,rfl,rfl,l,v,bl,f,J,hT,hl,f5⟩:=loop_of hlp (fun j L' t'=>∃ l v bl f,StepsJ t1 t' d l v bl (5 * j)∧StepsTo l f∧l.length=j∧L'.find 0=.ptr d 0∧L'.find 5=v∧L'.find 6=.int .i64 f∧L'.find 7=.int .i64 ((i - j:Nat):Int))
   (fun e L' t'=>e=.exit 0∧∃ l v bl f,StepsJ t1 t' d l v bl (5 * i)∧StepsTo l f∧l.length=i∧L'.find 5=v) i (by unfold rounds;omega)
   ⟨[],.nilslice,t1.n,0,hJ,StepsTo.nil,rfl,by simp only [find_cons,Env.find_set,reduceIte,Nat.reduceEqDiff],by simp only [find_cons,Env.find_set,reduceIte,Nat.reduceEqDiff],by simp only [find_cons,Env.find_set,reduceIte,Nat.reduceEqDiff],by simp only [find_cons,Env.find_set,reduceIte,Nat.reduceEqDiff];rfl⟩
   (fun j L' t' hj ⟨l,v,bl,f,hJ,hT,hl,q0,q5,q6,q7⟩=>by
    by_cases hlt:j<i
    ·obtain ⟨L2,t2,l2,v2,bl2,f2,z1,z2,z3,z4,z5,z6,z7,z8⟩:=steps_round m (by omega) _ (i:=i - j - 1) hJ hT (by omega) (by omega) (by omega) (by omega) (by omega) q0 q5 q6 (by rw [q7,show i - j - 1+1=i - j by omega])
     exact .inl ⟨hlt,L2,t2,z1,l2,v2,bl2,f2,z2,z3,by omega,z5,z6,z7,z8.trans (by rw [show i - j - 1=i - (j+1) by omega])⟩
    ·obtain rfl:j=i:=by omega
     have e0:decide ((0:Int)<((0:Nat):Int))=false:=rfl
     rw [Nat.sub_self] at q7
     refine .inr ⟨.exit 0,L'.set 12 (.bool false),t',by simp,?_,rfl,l,v,bl,f,hJ,hT,hl,by simp only [Env.find_set,q5,reduceIte,Nat.reduceEqDiff]⟩
     simp (disch:=first|omega|(with_unfolding_all exact rfl)|(simp only[new_n,put_n,new_m];omega)|(refine put_m_le ?_;simp only[new_m];omega)) only [res11,K11r0,K11r1,K11r2,K11r3,K11r4,K11r5,K11r6,K11r7,K11r8,K11,K11l0,Abs.W,reduceIte,Nat.reduceEqDiff,Nat.reduceAdd,decide_true,decide_false,kLoop_def,Nat.reduceSub,List.cons_append,List.nil_append,List.append_nil,List.length_cons,List.length_nil,Env.find_set,q7,e0])
  obtain ⟨jd,ji,jlo,js,jn,jle,jm,jml⟩:=J
  have hne:l.map Step.cells≠[]:=fun h=>by
   have:l.length=0:=by rw [← List.length_map (f:=Step.cells),h];rfl
   omega
  obtain ⟨i1,i2,i3⟩:bl<t2.n∧v=.slice bl 0 l.length l.length true∧t2.h.get bl=some (.cells (l.map Step.cells).flatten (2+tag 75)):=by
   rcases ji.is with ⟨z,_⟩ | ⟨_,z1,z2,z3⟩
   ·exact absurd z hne
   ·rw [List.length_map] at z2;exact ⟨z1,z2,z3⟩
  subst i2
  simp (disch:=first|omega|(with_unfolding_all exact rfl)|(simp only[new_n,put_n,new_m];omega)|(refine put_m_le ?_;simp only[new_m];omega)) only [res11,K11r0,K11r1,K11r2,K11r3,K11r4,K11r5,K11r6,K11r7,K11r8,K11,Abs.W,reduceIte,Nat.reduceEqDiff,Nat.reduceAdd,decide_true,decide_false,kLoop_def,Nat.reduceSub,List.cons_append,List.nil_append,List.append_nil,List.length_cons,List.length_nil,Env.find_set,f5,Nat.zero_add]
  exact ⟨_,_,rfl,⟨fun c hc hcd=>(js c (by omega) hcd).trans (st1.same c hc hcd),by omega,by omega,fun _=>jm,by omega⟩,rfl,l,bl,rfl,jd,hT.ok (by omega) (by omega),by omega,by omega,i1,i3⟩) (by omega)
 exact ⟨l,bl,t,hr.symm.trans e,st,hq1,hq2,hq3,hq4,hq5,hq6⟩
end Go.Proofs.Ytamlnddeiokbdaa.walk
set_option maxRecDepth 10000
namespace Go.Abs
structure Past (u t:St) (k:Nat):Prop where
 same:∀ c,c<u.n→t.h.get c=u.h.get c
 n:u.n≤t.n
 le:t.n≤u.n+k
theorem Past.refl (u:St):Past u u 0:=⟨fun _ _=>rfl,Nat.le_refl _,Nat.le_refl _⟩
theorem Past.new {u t:St} {k:Nat} (h:Past u t k) (o:AObj):Past u (t.new o) (k+1):=⟨fun c hc=>by have:=h.n;rw [get_new_ne _ _ _ (by omega)];exact h.same c hc,by have:=h.n;rw [new_n];omega,by have:=h.le;rw [new_n];omega⟩
theorem Past.put {u t:St} {k b:Nat} (h:Past u t k) (o:AObj) (hb:u.n≤b):Past u (t.put b o) k:=⟨fun c hc=>by rw [get_put_ne' _ _ _ _ (by omega)];exact h.same c hc,h.n,h.le⟩
theorem Past.mono {u t:St} {j k:Nat} (h:Past u t j) (hk:j≤k):Past u t k:=⟨h.same,h.n,by have:=h.le;omega⟩
end Go.Abs
namespace Go.Proofs.Ytamlnddeiokbdaa.walk
open Go.Abs Go.Proofs.Ytamlnddeiokbdaa.code
end Go.Proofs.Ytamlnddeiokbdaa.walk
set_option maxRecDepth 10000
namespace Go.Proofs.Ytamlnddeiokbdaa.walk
open Go.Abs Go.Proofs.Ytamlnddeiokbdaa.code
theorem extE0 (a b:AV) (s:St):extA 0 s (.tup [a,b])=.val a s:=Eq.trans (Eq.refl _) (Eq.refl _)
theorem extE1 (a b:AV) (s:St):extA 1 s (.tup [a,b])=.val b s:=Eq.trans (Eq.refl _) (Eq.refl _)
theorem okA_tupE (a b:AV) (s:St):okA (.val (.tup [a,b]) s)=.val (.tup [a,b]) s:=Eq.trans (Eq.refl _) (Eq.refl _)
theorem extT0 (a b c:AV) (s:St):extA 0 s (.tup [a,b,c])=.val a s:=Eq.trans (Eq.refl _) (Eq.refl _)
theorem extT1 (a b c:AV) (s:St):extA 1 s (.tup [a,b,c])=.val b s:=Eq.trans (Eq.refl _) (Eq.refl _)
theorem extT2 (a b c:AV) (s:St):extA 2 s (.tup [a,b,c])=.val c s:=Eq.trans (Eq.refl _) (Eq.refl _)
theorem okA_tupT (a b c:AV) (s:St):okA (.val (.tup [a,b,c]) s)=.val (.tup [a,b,c]) s:=Eq.trans (Eq.refl _) (Eq.refl _)
structure OthJ (u t:St) (p7:Nat) (ks kg:Int) (l:List Sale) (v:AV) (bl kk:Nat):Prop where
 g7:t.h.get p7=some (.cells [.int .i64 ks,.int .i64 kg,v] (tag 27))
 is:IsAt t.h t.n bl 6 (tag 51) (l.map Sale.cells) v
 lo:u.n≤bl
 same:∀ c,c<u.n→c≠p7→t.h.get c=u.h.get c
 n:u.n≤t.n
 le:t.n≤u.n+kk
end Go.Proofs.Ytamlnddeiokbdaa.walk
set_option maxRecDepth 10000
namespace Go.Proofs.Ytamlnddeiokbdaa.walk
open Go.Abs Go.Proofs.Ytamlnddeiokbdaa.code
theorem AllOk.take {Z:List Sold} (ok:AllOk Z) (i:Nat):AllOk (Z.take i):=fun z hz=>ok z (List.mem_of_mem_take hz)
end Go.Proofs.Ytamlnddeiokbdaa.walk
set_option maxRecDepth 10000
namespace Go.Proofs.Ytamlnddeiokbdaa.walk
open Go.Abs Go.Proofs.Ytamlnddeiokbdaa.code
end Go.Proofs.Ytamlnddeiokbdaa.walk
