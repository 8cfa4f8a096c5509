/- Books that are made of numbers: BookOf. -/
import Derived.Test.YtamlnddeiokbdaaM1
import Derived.Test.YtamlnddeiokbdaaM3
import Derived.Test.YtamlnddeiokbdaaM5
import Derived.Test.YtamlnddeiokbdaaCodes
import Derived.Test.YtamlnddeiokbdaaWalkAll
set_option linter.unusedSimpArgs false
set_option maxHeartbeats 16000000
set_option linter.unusedVariables false
set_option maxRecDepth 10000
namespace Go.Proofs.Ytamlnddeiokbdaa.walk
open Go.Abs Go.Proofs.Ytamlnddeiokbdaa.code
theorem Die.keep {d:Nat} {h h':Heap} (D:Die d h) (e:h'.get d=h.get d):Die d h':=by obtain ⟨f,hf⟩:=D;exact ⟨f,e.trans hf⟩
theorem call_stir2 {P:Program} {X:FuncId→List Nat} {n:Nat} {f:FuncId} {args:List AV} {s:St} {fn:Func} {d k:Nat} {Q:AV→Heap→Nat→Prop} (hf:P.funcs[f]? = some fn) (hk:keepAll=true)
  (h:∀ u:St,u.h=s.h→u.n=s.n→u.m=far→∃ v s',enterA P X (Abs.call P X n) f args u fn=.val v s'∧Stir d u s' k∧Q v s'.h s'.n∧(plain v=true→Q v s.h s.n)) (hd:d≤far) :
  ∃ v t,Abs.call P X (n+1) (.fn f) args s=.val v t∧Stir d s t k∧Q v t.h t.n:=by
 obtain ⟨v,s',h1,h2,h3,h4⟩:=h ⟨s.h,s.n,far⟩ rfl rfl rfl
 cases hb:Nat.ble s.n s'.m with
 | true =>
  cases hp:plain v with
  | true =>
   refine ⟨v,s,?_,(Stir.refl d s).mono (Nat.zero_le _),h4 hp⟩
   show callStep P X (Abs.call P X n) (.fn f) args s=_
   unfold callStep
   simp only [hf,h1]
   unfold Abs.settle
   simp only [hb,hp]
   rfl
  | false =>
   refine ⟨v,⟨s'.h,s'.n,s.m⟩,?_,⟨h2.same,h2.n,h2.le,fun h=>h,Nat.le_refl _⟩,h3⟩
   show callStep P X (Abs.call P X n) (.fn f) args s=_
   unfold callStep
   simp only [hf,h1]
   unfold Abs.settle
   simp only [hb,hp,hk]
   rfl
 | false =>
  refine ⟨v,⟨s'.h,s'.n,minN s.m s'.m⟩,?_,Stir.draw (s:=s) h2 hd,h3⟩
  show callStep P X (Abs.call P X n) (.fn f) args s=_
  unfold callStep
  simp only [hf,h1]
  unfold Abs.settle
  simp only [hb]
  rfl
structure BookJ (u t:St) (d p9:Nat) (b:Book) (v:AV) (bl kk:Nat):Prop where
 die:Die d t.h
 g9:t.h.get p9=some (.cells (bookV b v) (tag 27))
 is:IsAt t.h t.n bl 6 (tag 51) (b.sales.map Sale.cells) v
 lo:p9<bl
 same:∀ c,c<p9→c≠d→t.h.get c=u.h.get c
 n:p9<t.n
 le:t.n≤u.n+kk
 m:d≤u.m→d≤t.m
 mle:t.m≤u.m
 dp:d<p9
 ok:∀ s ∈ b.sales,s.Ok b.stalls b.goods
theorem book_round (N:Nat) (hN:5≤N) (cx:Ctx) {d p9 bl kk:Nat} {b:Book} {v:AV} {u t:St} {L:Env} {i:Nat} {gr ce:Int} (J:BookJ u t d p9 b v bl kk) (hk:1≤b.stalls∧b.stalls≤8) (hg:1≤b.goods∧b.goods≤8) (hl:b.sales.length≤40) (hs:u.n+kk+2000≤far) (hum:u.m≤far) (hi:i≤1000)
  (hgr:0≤gr∧gr≤5000) (hce:0≤ce∧ce≤2000) (q0:L.find 0=.ptr d 0) (q9:L.find 9=.ptr p9 0) (q10:L.find 10=.int .i64 gr) (q11:L.find 11=.int .i64 ce) (q12:L.find 12=.int .i64 (i+1:Nat)) :
  ∃ L1 t1 b1 v1 bl1,K10l0 (call Try.prog X N) cx L [] t=.done .norm L1 [] t1∧BookJ u t1 d p9 b1 v1 bl1 (kk+10)∧b1.stalls=b.stalls∧b1.goods=b.goods∧b1.sales.length=b.sales.length+1∧L1.find 12=.int .i64 (i:Nat)∧∀ c,c<12→L1.find c=L.find c:=by
 have hf:far=1000000000:=rfl
 obtain ⟨jd,j9,ji,jlo,js,jn,jle,jm,jml,jdp,jok⟩:=J
 have e0:decide ((0:Int)<((i+1:Nat):Int))=true:=decide_eq_true (by omega)
 have kv:∀ t,okA (.val v t)=.val v t:=ji.okA
 have sb:∀ s,aSub s .i64 ((i+1:Nat):Int) 1=.val (.int .i64 (i:Int)) s:=fun s=>by rw [aSub_i64 s _ _ (by omega)];congr 2;omega
 unfold bookV at j9
 simp (disch:=first|omega|(with_unfolding_all exact rfl)|(simp only[new_n,put_n,new_m];omega)|(refine put_m_le ?_;simp only[new_m];omega)) only [res10,K10r0,K10r1,K10r2,K10r3,K10r4,K10r5,K10r6,K10r7,K10,K10l0,Abs.W,reduceIte,Nat.reduceEqDiff,Nat.reduceAdd,decide_true,decide_false,kLoop_def,Nat.reduceSub,List.cons_append,List.nil_append,List.append_nil,List.length_cons,List.length_nil,Env.find_set,Nat.zero_add,Nat.add_zero,q0,q9,q10,q11,q12,j9,kv,e0]
 generalize hc1:call _ _ _ (.fn 33) _ _=r1
 obtain ⟨x1,t1,rfl,st1,d1,x10,x11⟩:=cast_ex hc1 (by omega) jd (by show d<t.n;omega) (by show t.n+100≤far;omega) (by omega)
 have n1:t.n≤t1.n:=st1.n
 have k1:t1.n≤t.n:=st1.le
 have g1:∀ c,c<t.n→c≠d→t1.h.get c=t.h.get c:=fun c hc hcd=>st1.same c hc hcd
 have a9:=(g1 p9 (by omega) (by omega)).trans j9
 simp (disch:=first|omega|(with_unfolding_all exact rfl)|(simp only[new_n,put_n,new_m];omega)|(refine put_m_le ?_;simp only[new_m];omega)) only [thenT_turn,Abs.W,reduceIte,Nat.reduceEqDiff,Nat.reduceAdd,decide_true,decide_false,kLoop_def,Nat.reduceSub,List.cons_append,List.nil_append,List.append_nil,List.length_cons,List.length_nil,Env.find_set,q0,q9,a9,Nat.zero_add]
 generalize hc2:call _ _ _ (.fn 33) _ _=r2
 obtain ⟨x2,t2,rfl,st2,d2,x20,x21⟩:=cast_ex hc2 (by omega) d1 (by show d<t1.n;omega) (by show t1.n+100≤far;omega) (by omega)
 have n2:t1.n≤t2.n:=st2.n
 have k2:t2.n≤t1.n:=st2.le
 have g2:∀ c,c<t.n→c≠d→t2.h.get c=t.h.get c:=fun c hc hcd=>(st2.same c (by show c<t1.n;omega) hcd).trans (g1 c hc hcd)
 simp (disch:=first|omega|(with_unfolding_all exact rfl)|(simp only[new_n,put_n,new_m];omega)|(refine put_m_le ?_;simp only[new_m];omega)) only [thenT_turn,Abs.W,reduceIte,Nat.reduceEqDiff,Nat.reduceAdd,decide_true,decide_false,kLoop_def,Nat.reduceSub,List.cons_append,List.nil_append,List.append_nil,List.length_cons,List.length_nil,Env.find_set,q0,q10,Nat.zero_add]
 generalize hc3:call _ _ _ (.fn 34) _ _=r3
 obtain ⟨y1,y2,t3,rfl,st3,d3,y10,y11,y12⟩:=span_ex hc3 (by omega) d2 (by show d<t2.n;omega) (by show t2.n+300≤far;omega) (by omega) (by omega) (by omega)
 have n3:t2.n≤t3.n:=st3.n
 have k3:t3.n≤t2.n+2:=st3.le
 have g3:∀ c,c<t.n→c≠d→t3.h.get c=t.h.get c:=fun c hc hcd=>(st3.same c (by show c<t2.n;omega) hcd).trans (g2 c hc hcd)
 simp (disch:=first|omega|(with_unfolding_all exact rfl)|(simp only[new_n,put_n,new_m];omega)|(refine put_m_le ?_;simp only[new_m];omega)) only [thenT_turn,Abs.W,reduceIte,Nat.reduceEqDiff,Nat.reduceAdd,decide_true,decide_false,kLoop_def,Nat.reduceSub,List.cons_append,List.nil_append,List.append_nil,List.length_cons,List.length_nil,Env.find_set,q0,q11,Nat.zero_add]
 generalize hc4:call _ _ _ (.fn 34) _ _=r4
 obtain ⟨z1,z2,t4,rfl,st4,d4,z10,z11,z12⟩:=span_ex hc4 (by omega) d3 (by show d<t3.n;omega) (by show t3.n+300≤far;omega) (by omega) (by omega) (by omega)
 have n4:t3.n≤t4.n:=st4.n
 have k4:t4.n≤t3.n+2:=st4.le
 have g4:∀ c,c<t.n→c≠d→t4.h.get c=t.h.get c:=fun c hc hcd=>(st4.same c (by show c<t3.n;omega) hcd).trans (g3 c hc hcd)
 simp (disch:=first|omega|(with_unfolding_all exact rfl)|(simp only[new_n,put_n,new_m];omega)|(refine put_m_le ?_;simp only[new_m];omega)) only [thenT_turn,Abs.W,reduceIte,Nat.reduceEqDiff,Nat.reduceAdd,decide_true,decide_false,kLoop_def,Nat.reduceSub,List.cons_append,List.nil_append,List.append_nil,List.length_cons,List.length_nil,Env.find_set,Nat.zero_add]
 obtain ⟨y8,hy8⟩:∃ y8:St,y8=⟨t4.h,t4.n,minN (minN (minN (minN t.m t1.m) t2.m) t3.m) t4.m⟩:=⟨_,rfl⟩
 have y8n:y8.n=t4.n:=by rw [hy8]
 have y8h:y8.h=t4.h:=by rw [hy8]
 have y8m:y8.m=min (min (min (min t.m t1.m) t2.m) t3.m) t4.m:=by rw [hy8];simp only [minN_eq]
 have m1:d≤t1.m:=st1.m (by show d≤far;omega)
 have m2:d≤t2.m:=st2.m (by show d≤far;omega)
 have m3:d≤t3.m:=st3.m (by show d≤far;omega)
 have m4:d≤t4.m:=st4.m (by show d≤far;omega)
 obtain ⟨S,hS⟩:∃ S:Sale,S=⟨x1,x2,y1,y2,z1,z2⟩:=⟨_,rfl⟩
 obtain ⟨y,hy⟩:∃ y:St,y=y8.new (.cells S.cells 0):=⟨_,rfl⟩
 have yn:y.n=t4.n+1:=by rw [hy];show y8.n+1=_;rw [y8n]
 have ym:y.m=y8.m:=by rw [hy];rfl
 have yg:∀ c,c<t4.n→y.h.get c=t4.h.get c:=fun c hc=>by rw [hy,get_new_ne _ _ _ (by omega),y8h]
 have yp:y.h.get t4.n=some (.cells S.cells 0):=by rw [hy,← y8n];exact get_new_eq _ _ _ rfl (by omega)
 have gy:∀ c,c<t.n→c≠d→y.h.get c=t.h.get c:=fun c hc hcd=>(yg c (by omega)).trans (g4 c hc hcd)
 obtain ⟨s7,e7,l7,s7n,s7g,s7m,s7l⟩:=append_at (bytes:=48) (ji.mono (h':=y.h) (n':=y.n) (fun h=>gy bl h (by omega)) (by omega)) yp rfl rfl (by rw [List.length_map];omega) (by kernel_rfl) (by omega)
 have hlen:(b.sales.map Sale.cells).length=b.sales.length:=List.length_map ..
 rw [hlen] at e7 l7
 obtain ⟨v7,hv7⟩:∃ v7,v7=AV.slice y.n 0 (b.sales.length+1) (b.sales.length+1) true:=⟨_,rfl⟩
 rw [← hv7] at e7 l7
 have e7':appendA false 6 48 (tag 51) (y8.new (.cells [.int .i64 x1,.int .i64 x2,.int .i64 y1,.int .i64 y2,.int .i64 z1,.int .i64 z2] 0)) v (.slice t4.n 0 1 1 false)=.val v7 s7:=by
  have:S.cells=[.int .i64 x1,.int .i64 x2,.int .i64 y1,.int .i64 y2,.int .i64 z1,.int .i64 z2]:=by rw [hS];rfl
  rw [hy,this] at e7
  exact e7
 rw [← hy8]
 have s9:=(s7g p9 (by omega) (by omega)).trans ((gy p9 (by omega) (by omega)).trans j9)
 have sc7:scalars [v7]=true:=by rw [hv7];rfl
 have cc7:cellsOf 1 v7=some [v7]:=by rw [hv7];rfl
 simp (disch:=first|omega|(with_unfolding_all exact rfl)|(simp only[new_n,put_n,new_m];omega)|(refine put_m_le ?_;simp only[new_m];omega)) only [Abs.W,reduceIte,Nat.reduceEqDiff,Nat.reduceAdd,decide_true,decide_false,kLoop_def,Nat.reduceSub,List.cons_append,List.nil_append,List.append_nil,List.length_cons,List.length_nil,Env.find_set,e7',q9,s9,sc7,cc7,Nat.zero_add]
 rw [endT_kept (l:=[34]) (s':=t4) (by simp only [keptAll_cons,keptAll_nil,find_cons,Env.find_set,keptV_ptr,(g3 p9 (by omega) (by omega)).trans j9,(g4 p9 (by omega) (by omega)).trans j9,sameO_cells,reduceIte,Nat.reduceEqDiff,Bool.and_self])]
 rw [endT_kept (l:=[34]) (s':=t3) (by simp only [keptAll_cons,keptAll_nil,find_cons,Env.find_set,keptV_ptr,(g2 p9 (by omega) (by omega)).trans j9,(g3 p9 (by omega) (by omega)).trans j9,sameO_cells,reduceIte,Nat.reduceEqDiff,Bool.and_self])]
 rw [endT_kept (l:=[34]) (s':=t2) (by simp only [keptAll_cons,keptAll_nil,find_cons,Env.find_set,keptV_ptr,(g1 p9 (by omega) (by omega)).trans j9,(g2 p9 (by omega) (by omega)).trans j9,sameO_cells,reduceIte,Nat.reduceEqDiff,Bool.and_self])]
 rw [endT_kept (l:=[34,41]) (s':=t1) (by simp only [keptAll_cons,keptAll_nil,find_cons,Env.find_set,keptV_ptr,j9,(g1 p9 (by omega) (by omega)).trans j9,sameO_cells,reduceIte,Nat.reduceEqDiff,Bool.and_self])]
 rw [endO_ok _ (endOk_nil _)]
 simp (disch:=first|omega|(with_unfolding_all exact rfl)|(simp only[new_n,put_n,new_m];omega)|(refine put_m_le ?_;simp only[new_m];omega)) only [res10,K10r0,K10r1,K10r2,K10r3,K10r4,K10r5,K10r6,K10r7,K10,Abs.W,reduceIte,Nat.reduceEqDiff,Nat.reduceAdd,decide_true,decide_false,kLoop_def,Nat.reduceSub,List.cons_append,List.nil_append,List.append_nil,List.length_cons,List.length_nil,Env.find_set,q12,sb,Nat.zero_add]
 have hcells:(b.sales.map Sale.cells)++[S.cells]=(b.sales++[S]).map Sale.cells:=by rw [List.map_append];rfl
 refine ⟨_,_,{ b with sales:=b.sales++[S] },v7,y.n,rfl,⟨?_,?_,?_,by omega,fun c hc hcd=>?_,by simp only [put_n];omega,by simp only [put_n];omega,fun hm=>?_,?_,jdp,fun x hx=>?_⟩,rfl,rfl,by simp,by simp only [Env.find_set,reduceIte,Nat.reduceEqDiff],fun c hc=>?_⟩
 ·exact Die.keep d4 (by rw [get_put_ne' _ _ _ _ (by omega),s7g d (by omega) (by omega),yg d (by omega)])
 ·exact get_put_eq _ _ _ _ rfl (by omega)
 ·rw [← hcells]
  exact l7.mono (fun _=>get_put_ne' _ _ _ _ (by omega)) (by simp only [put_n];omega)
 ·rw [get_put_ne' _ _ _ _ (by omega),s7g c (by omega) (by omega),gy c (by omega) hcd]
  exact js c hc hcd
 ·have:=jm hm
  have:=s7m d (by omega) (by omega) (by omega)
  simp only [St.put,minN_eq];omega
 ·simp only [St.put,minN_eq];omega
 ·rcases List.mem_append.mp hx with hx | hx
  ·exact jok x hx
  ·rw [List.mem_singleton.mp hx,hS]
   exact ⟨by simp only;omega,by simp only;omega,by simp only;omega,by simp only;omega,by simp only;omega,by simp only;omega,by simp only;omega,by simp only;omega,by simp only;omega,by simp only;omega⟩
 ·simp only [Env.find_set]
  rw [if_neg (by omega),if_neg (by omega)]
theorem book_loop (N:Nat) (hN:5≤N) {cx:Ctx} {d p9 bl kk i:Nat} {b:Book} {v:AV} {u w:St} {L:Env} {r:R} {gr ce:Int} (hr:loopN K10l0 rounds (call Try.prog X N) cx L [] w=r) (J:BookJ u w d p9 b v bl kk) (hk:1≤b.stalls∧b.stalls≤8) (hg:1≤b.goods∧b.goods≤8) (h0:b.sales.length=0) (hi:i≤39) (hs:u.n+kk+3000≤far) (hum:u.m≤far)
  (hgr:0≤gr∧gr≤5000) (hce:0≤ce∧ce≤2000) (q0:L.find 0=.ptr d 0) (q9:L.find 9=.ptr p9 0) (q10:L.find 10=.int .i64 gr) (q11:L.find 11=.int .i64 ce) (q12:L.find 12=.int .i64 (i:Int)) :
  ∃ L1 t1 b1 v1 bl1,r=.done (.exit 0) L1 [] t1∧BookJ u t1 d p9 b1 v1 bl1 (kk+400)∧b1.stalls=b.stalls∧b1.goods=b.goods∧b1.sales.length=i∧∀ c,c<12→L1.find c=L.find c:=by
 have hf:far=1000000000:=rfl
 obtain ⟨e,L1,t1,rfl,rfl,b1,v1,bl1,h1,h2,h3,h4,h5⟩:=loop_of hr (fun j L' t'=>∃ b1 v1 bl1,BookJ u t' d p9 b1 v1 bl1 (kk+10 * j)∧b1.stalls=b.stalls∧b1.goods=b.goods∧b1.sales.length=j∧L'.find 12=.int .i64 ((i - j:Nat):Int)∧∀ c,c<12→L'.find c=L.find c)
  (fun e L' t'=>e=.exit 0∧∃ b1 v1 bl1,BookJ u t' d p9 b1 v1 bl1 (kk+400)∧b1.stalls=b.stalls∧b1.goods=b.goods∧b1.sales.length=i∧∀ c,c<12→L'.find c=L.find c) i (by unfold rounds;omega)
  ⟨b,v,bl,J,rfl,rfl,h0,q12,fun _ _=>rfl⟩
  (fun j L' t' hj ⟨b1,v1,bl1,hJ,hb1,hb2,hb3,p12,g⟩=>by
   by_cases hlt:j<i
   ·obtain ⟨L2,t2,b2,v2,bl2,z1,z2,z3,z4,z5,z6,z7⟩:=book_round N hN cx (i:=i - j - 1) hJ (by omega) (by omega) (by omega) (by omega) hum (by omega) hgr hce ((g 0 (by omega)).trans q0) ((g 9 (by omega)).trans q9) ((g 10 (by omega)).trans q10) ((g 11 (by omega)).trans q11) (by rw [p12,show i - j - 1+1=i - j by omega])
    exact .inl ⟨hlt,L2,t2,z1,b2,v2,bl2,z2,z3.trans hb1,z4.trans hb2,by omega,z6.trans (by rw [show i - j - 1=i - (j+1) by omega]),fun c hc=>(z7 c hc).trans (g c hc)⟩
   ·obtain rfl:j=i:=by omega
    have e0:decide ((0:Int)<((0:Nat):Int))=false:=rfl
    rw [Nat.sub_self] at p12
    refine .inr ⟨.exit 0,L'.set 31 (.bool false),t',by simp,?_,rfl,b1,v1,bl1,?_,hb1,hb2,hb3,fun c hc=>?_⟩
    ·simp (disch:=first|omega|(with_unfolding_all exact rfl)|(simp only[new_n,put_n,new_m];omega)|(refine put_m_le ?_;simp only[new_m];omega)) only [res10,K10r0,K10r1,K10r2,K10r3,K10r4,K10r5,K10r6,K10r7,K10,K10l0,Abs.W,reduceIte,Nat.reduceEqDiff,Nat.reduceAdd,decide_true,decide_false,kLoop_def,Nat.reduceSub,List.cons_append,List.nil_append,List.append_nil,List.length_cons,List.length_nil,Env.find_set,p12,e0]
    ·obtain ⟨a1,a2,a3,a4,a5,a6,a7,a8,a9,a10,a11⟩:=hJ
     exact ⟨a1,a2,a3,a4,a5,a6,by omega,a8,a9,a10,a11⟩
    ·simp only [Env.find_set]
     rw [if_neg (by omega)]
     exact g c hc)
 exact ⟨L1,t1,b1,v1,bl1,rfl,h1,h2,h3,h4,h5⟩
theorem BookOf_ex3 {N d:Nat} {k g n:Nat} {s:St} {r:ARes} (hr:call Try.prog X N (.fn 10) [.ptr d 0,.int .i64 (k:Int),.int .i64 (g:Int),.int .i64 (n:Int)] s=r) (hN:6≤N) (hd:Die d s.h) (hlt:d<s.n) (hk:1≤k∧k≤8) (hg:1≤g∧g≤8) (hn:n≤39) (hs:s.n+6000≤far) :
  ∃ (b:Book) (v:AV) (bl:Nat) (t:St),r=.val (.agg (bookV b v)) t∧Stir d s t 500∧Die d t.h∧(b.Ok∧b.stalls≤k∧b.goods≤g)∧b.sales.length≤n∧s.n≤bl∧IsAt t.h t.n bl 6 (tag 51) (b.sales.map Sale.cells) v:=by
 obtain ⟨m,rfl⟩:∃ m,N=m+1:=⟨N - 1,by omega⟩
 have hf:far=1000000000:=rfl
 obtain ⟨v,t,e,st,b,v',bl,rfl,hq1,hq2,hq3,hq4,hq5⟩:=call_stir2 (n:=m) (args:=[.ptr d 0,.int .i64 (k:Int),.int .i64 (g:Int),.int .i64 (n:Int)]) (d:=d) (s:=s) (k:=500) (Q:=fun w h m=>∃ (b:Book) (v:AV) (bl:Nat),w=.agg (bookV b v)∧Die d h∧(b.Ok∧b.stalls≤k∧b.goods≤g)∧b.sales.length≤n∧s.n≤bl∧IsAt h m bl 6 (tag 51) (b.sales.map Sale.cells) v) Try.func10 rfl (fun u uh un um=>by
  have hd':=hd
  rw [← uh] at hd
  rw [← un] at hlt
  rw [enter10]
  simp (disch:=first|omega|(with_unfolding_all exact rfl)|(simp only[new_n,put_n,new_m];omega)|(refine put_m_le ?_;simp only[new_m];omega)) only [res10,K10r0,K10r1,K10r2,K10r3,K10r4,K10r5,K10r6,K10r7,K10,Abs.W,reduceIte,Nat.reduceEqDiff,Nat.reduceAdd,decide_true,decide_false,kLoop_def,Nat.reduceSub,List.cons_append,List.nil_append,List.append_nil,List.length_cons,List.length_nil,Env.find_set]
  obtain ⟨w0,hw0⟩:∃ w0:St,w0=u.new (.cells [.int .i64 0,.int .i64 0,.nilslice] (tag 27)):=⟨_,rfl⟩
  rw [← hw0]
  have w0n:w0.n=u.n+1:=by rw [hw0];rfl
  have w0m:w0.m=far:=by rw [hw0];exact um
  have w0g:∀ c,c<u.n→w0.h.get c=u.h.get c:=fun c hc=>by rw [hw0,get_new_ne _ _ _ (by omega)]
  have w00:w0.h.get u.n=some (.cells [.int .i64 0,.int .i64 0,.nilslice] (tag 27)):=by rw [hw0];exact get_new_eq _ _ _ rfl (by omega)
  generalize hc1:call _ _ _ (.fn 31) _ _=r1
  obtain ⟨x1,t1,rfl,st1,d1,x10,x11⟩:=from_ex hc1 (by omega) (Die.keep hd (w0g d hlt)) (by omega) (by omega) (by omega) (by omega) (by omega) (by omega)
  have n1:=st1.n
  have k1:=st1.le
  simp (disch:=first|omega|(with_unfolding_all exact rfl)|(simp only[new_n,put_n,new_m];omega)|(refine put_m_le ?_;simp only[new_m];omega)) only [Abs.W,reduceIte,Nat.reduceEqDiff,Nat.reduceAdd,decide_true,decide_false,kLoop_def,Nat.reduceSub,List.cons_append,List.nil_append,List.append_nil,List.length_cons,List.length_nil,Env.find_set]
  generalize hc2:call _ _ _ (.fn 31) _ _=r2
  obtain ⟨x2,t2,rfl,st2,d2,x20,x21⟩:=from_ex hc2 (by omega) d1 (by omega) (by omega) (by omega) (by omega) (by omega) (by omega)
  have n2:=st2.n
  have k2:=st2.le
  simp (disch:=first|omega|(with_unfolding_all exact rfl)|(simp only[new_n,put_n,new_m];omega)|(refine put_m_le ?_;simp only[new_m];omega)) only [Abs.W,reduceIte,Nat.reduceEqDiff,Nat.reduceAdd,decide_true,decide_false,kLoop_def,Nat.reduceSub,List.cons_append,List.nil_append,List.append_nil,List.length_cons,List.length_nil,Env.find_set,Nat.zero_add]
  obtain ⟨y,hy⟩:∃ y:St,y=(t2.new (.cells [.int .i64 0,.int .i64 0,.nilslice] (tag 27))).put t2.n (.cells [.int .i64 x1,.int .i64 x2,.nilslice] (tag 27)):=⟨_,rfl⟩
  have yn:y.n=t2.n+1:=by rw [hy];rfl
  have ym:y.m=min t2.m t2.n:=by rw [hy];simp only [St.put,minN_eq,new_m]
  have yg:∀ c,c<t2.n→y.h.get c=t2.h.get c:=fun c hc=>by rw [hy,get_put_ne' _ _ _ _ (by omega),get_new_ne _ _ _ (by omega)]
  have yp:y.h.get t2.n=some (.cells [.int .i64 x1,.int .i64 x2,.nilslice] (tag 27)):=by rw [hy];exact get_put_eq _ _ _ _ rfl (by omega)
  have m1:=st1.m (by omega)
  have m2:=st2.m m1
  have l1:=st1.mle
  have l2:=st2.mle
  rw [← hy]
  clear hy
  generalize hc3:call _ _ _ (.fn 32) _ _=r3
  obtain ⟨gr,t3,rfl,st3,d3,hgr⟩:=one_ex [6,100,5000] (b:=y.n) (sz:=0) hc3 (by omega) (Die.keep d2 ((get_new_ne _ _ _ (by omega)).trans (yg d (by omega)))) (by simp only [new_n];omega) (by simp only [new_n];omega) (get_new_eq _ _ _ rfl (by omega)) (by simp only [new_n];omega) (by omega) rfl (by omega) (by omega)
  have n3:y.n+1≤t3.n:=st3.n
  have k3:t3.n≤y.n+1:=st3.le
  have g3:∀ c,c<y.n→c≠d→t3.h.get c=y.h.get c:=fun c hc hcd=>(st3.same c (by show c<y.n+1;omega) hcd).trans (get_new_ne _ _ _ (by omega))
  have m3:d≤t3.m:=st3.m (by show d≤y.m;omega)
  have l3:t3.m≤y.m:=st3.mle
  simp (disch:=first|omega|(with_unfolding_all exact rfl)|(simp only[new_n,put_n,new_m];omega)|(refine put_m_le ?_;simp only[new_m];omega)) only [Abs.W,reduceIte,Nat.reduceEqDiff,Nat.reduceAdd,decide_true,decide_false,kLoop_def,Nat.reduceSub,List.cons_append,List.nil_append,List.append_nil,List.length_cons,List.length_nil,Env.find_set,Nat.zero_add]
  generalize hc4:call _ _ _ (.fn 32) _ _=r4
  obtain ⟨ce,t4,rfl,st4,d4,hce⟩:=one_ex [6,30,2000] (b:=t3.n) (sz:=0) hc4 (by omega) (Die.keep d3 (get_new_ne _ _ _ (by omega))) (by simp only [new_n];omega) (by simp only [new_n];omega) (get_new_eq _ _ _ rfl (by omega)) (by simp only [new_n];omega) (by omega) rfl (by omega) (by omega)
  have n4:t3.n+1≤t4.n:=st4.n
  have k4:t4.n≤t3.n+1:=st4.le
  have g4:∀ c,c<y.n→c≠d→t4.h.get c=y.h.get c:=fun c hc hcd=>(st4.same c (by show c<t3.n+1;omega) hcd).trans ((get_new_ne _ _ _ (by omega)).trans (g3 c hc hcd))
  have m4:d≤t4.m:=st4.m (by show d≤t3.m;omega)
  have l4:t4.m≤t3.m:=st4.mle
  have adn:∀ s,aAdd s .i64 (n:Int) 1=.val (.int .i64 ((n:Int)+1)) s:=fun s=>aAdd_i64 s _ _ (by omega)
  simp (disch:=first|omega|(with_unfolding_all exact rfl)|(simp only[new_n,put_n,new_m];omega)|(refine put_m_le ?_;simp only[new_m];omega)) only [res10,K10r0,K10r1,K10r2,K10r3,K10r4,K10r5,K10r6,K10r7,K10,Abs.W,reduceIte,Nat.reduceEqDiff,Nat.reduceAdd,decide_true,decide_false,kLoop_def,Nat.reduceSub,List.cons_append,List.nil_append,List.append_nil,List.length_cons,List.length_nil,Env.find_set,adn,Nat.zero_add]
  generalize hc5:call _ _ _ (.fn 33) _ _=r5
  obtain ⟨x5,t5,rfl,st5,d5,x50,x51⟩:=cast_ex hc5 (by omega) d4 (by omega) (by omega) (by omega)
  obtain ⟨i,rfl⟩:∃ n:Nat,x5=n:=⟨x5.toNat,by omega⟩
  obtain ⟨kk,rfl⟩:∃ n:Nat,x1=n:=⟨x1.toNat,by omega⟩
  obtain ⟨gg,rfl⟩:∃ n:Nat,x2=n:=⟨x2.toNat,by omega⟩
  have n5:=st5.n
  have k5:=st5.le
  have m5:=st5.m m4
  have l5:=st5.mle
  have g5:∀ c,c<y.n→c≠d→t5.h.get c=y.h.get c:=fun c hc hcd=>(st5.same c (by omega) hcd).trans (g4 c hc hcd)
  simp (disch:=first|omega|(with_unfolding_all exact rfl)|(simp only[new_n,put_n,new_m];omega)|(refine put_m_le ?_;simp only[new_m];omega)) only [res10,K10r0,K10r1,K10r2,K10r3,K10r4,K10r5,K10r6,K10r7,K10,Abs.W,reduceIte,Nat.reduceEqDiff,Nat.reduceAdd,decide_true,decide_false,kLoop_def,Nat.reduceSub,List.cons_append,List.nil_append,List.append_nil,List.length_cons,List.length_nil,Env.find_set,Nat.zero_add]
  generalize hlp:loopN _ rounds _ _ _ _ _=rl
  have p9:=(g5 t2.n (by omega) (by omega)).trans yp
  have hgr':0≤gr∧gr≤5000:=by simp at hgr;omega
  have hce':0≤ce∧ce≤2000:=by simp at hce;omega
  have base:∀ c,c<t2.n→c≠d→t5.h.get c=t2.h.get c:=fun c hc hcd=>(g5 c (by omega) hcd).trans (yg c hc)
  have base0:∀ c,c<u.n→c≠d→t5.h.get c=u.h.get c:=fun c hc hcd=>(base c (by omega) hcd).trans ((st2.same c (by omega) hcd).trans ((st1.same c (by omega) hcd).trans (w0g c hc)))
  have hJ:BookJ t5 t5 d t2.n ⟨kk,gg,[]⟩ .nilslice (far+1) 0:=⟨d5,p9,IsAt.nil _ _ _ _ _,by omega,fun _ _ _=>rfl,by omega,by omega,fun h=>h,Nat.le_refl _,by omega,fun s hs=>by cases hs⟩
  obtain ⟨L1,t6,b1,v1,bl1,rfl,J6,h61,h62,h63,g6⟩:=book_loop m (by omega) (i:=i) hlp hJ (by show 1≤kk∧kk≤8;omega) (by show 1≤gg∧gg≤8;omega) rfl (by omega) (by omega) (by omega) hgr' hce' (by simp only [find_cons,Env.find_set,reduceIte,Nat.reduceEqDiff]) (by simp only [find_cons,Env.find_set,reduceIte,Nat.reduceEqDiff]) (by simp only [find_cons,Env.find_set,reduceIte,Nat.reduceEqDiff]) (by simp only [find_cons,Env.find_set,reduceIte,Nat.reduceEqDiff]) (by simp only [find_cons,Env.find_set,reduceIte,Nat.reduceEqDiff])
  have f8:L1.find 8=.ptr u.n 0:=(g6 8 (by omega)).trans (by simp only [find_cons,Env.find_set,reduceIte,Nat.reduceEqDiff])
  have f9:L1.find 9=.ptr t2.n 0:=(g6 9 (by omega)).trans (by simp only [find_cons,Env.find_set,reduceIte,Nat.reduceEqDiff])
  have h61:b1.stalls=kk:=h61
  have h62:b1.goods=gg:=h62
  obtain ⟨jd,j9,ji,jlo,js,jn,jle,jm,jml,jdp,jok⟩:=J6
  have j0:t6.h.get u.n=some (.cells [.int .i64 0,.int .i64 0,.nilslice] (tag 27)):=(js u.n (by omega) (by omega)).trans ((base u.n (by omega) (by omega)).trans ((st2.same u.n (by omega) (by omega)).trans ((st1.same u.n (by omega) (by omega)).trans w00)))
  have sc1:=ji.scal.1
  have scb:scalars (bookV b1 v1)=true:=by show scalars [v1]=true;exact sc1
  unfold bookV at j9 scb
  have sh3:shapeT Try.prog 27=some (some 3):=by kernel_rfl
  simp (disch:=first|omega|(with_unfolding_all exact rfl)|(simp only[new_n,put_n,new_m];omega)|(refine put_m_le ?_;simp only[new_m];omega)) only [res10,K10r0,K10r1,K10r2,K10r3,K10r4,K10r5,K10r6,K10r7,K10,Abs.W,reduceIte,Nat.reduceEqDiff,Nat.reduceAdd,decide_true,decide_false,kLoop_def,Nat.reduceSub,List.cons_append,List.nil_append,List.append_nil,List.length_cons,List.length_nil,Env.find_set,f8,f9,j9,j0,scb,Nat.zero_add]
  have okb:b1.Ok∧b1.stalls≤k∧b1.goods≤g:=⟨⟨by omega,by omega,by omega,by omega,by omega,jok⟩,by omega,by omega⟩
  refine ⟨.agg (bookV b1 v1),_,leave_cell _ _ _ _ sh3 ?_,⟨fun c hc hcd=>?_,by simp only [put_n];omega,by simp only [put_n];omega,fun _=>?_,?_⟩,⟨b1,v1,bl1,rfl,Die.keep jd (get_put_ne' _ _ _ _ (by omega)),okb,by omega,by omega,ji.mono (fun _=>get_put_ne' _ _ _ _ (by omega)) (by simp only [put_n];omega)⟩,fun hp=>?_⟩
  ·simp only [Env.find_set,f8,reduceIte,Nat.reduceEqDiff]
   rw [load_ptr,get_put_eq _ _ _ _ rfl (by omega),loadO_cells,partS_some]
   rfl
  ·rw [get_put_ne' _ _ _ _ (by omega),js c (by omega) hcd,base0 c hc hcd]
  ·have:=jm (by omega)
   simp only [St.put,minN_eq];omega
  ·simp only [St.put,minN_eq];omega
  ·have hv:v1=.nilslice∧b1.sales=[]:=by
    rcases ji.is with ⟨z,z2⟩ | ⟨_,_,z,_⟩
    ·exact ⟨z2,List.map_eq_nil_iff.mp z⟩
    ·subst z;simp [plain,plains,bookV] at hp
   exact ⟨b1,v1,s.n,rfl,hd',okb,by omega,Nat.le_refl _,by rw [hv.1,hv.2];exact IsAt.nil _ _ _ _ _⟩) (by omega)
 exact ⟨b,v',bl,t,hr.symm.trans e,st,hq1,hq2,hq3,hq4,hq5⟩
end Go.Proofs.Ytamlnddeiokbdaa.walk
set_option maxRecDepth 10000
namespace Go.Proofs.Ytamlnddeiokbdaa.walk
open Go.Abs Go.Proofs.Ytamlnddeiokbdaa.code
theorem Die.new {d:Nat} {s:St} (h:Die d s.h) (hd:d<s.n) (o:AObj):Die d (s.new o).h:=by obtain ⟨f,hf⟩:=h;exact ⟨f,by rw [get_new_ne _ _ _ (by omega)];exact hf⟩
structure Perm (i:Nat) (f:List Nat):Prop where
 lt:∀ p,p<i→f.getD p 0<i
 all:∀ j,j<i→∃ p,p<i∧f.getD p 0=j
def mix (f:List Nat) (i k:Nat):List Nat:=(f.set i (f.getD k 0)).set k i
theorem getD_set {f:List Nat} {i x p:Nat} (hi:i<f.length):(f.set i x).getD p 0=if i=p then x else f.getD p 0:=by
 simp only [List.getD_eq_getElem?_getD,List.getElem?_set]
 by_cases h:i=p
 ·subst h;simp [hi]
 ·simp [h]
theorem mix_at {f:List Nat} {i k p:Nat} (hi:i<f.length) (hk:k<f.length):(mix f i k).getD p 0=if k=p then i else if i=p then f.getD k 0 else f.getD p 0:=by
 unfold mix
 rw [getD_set (by rw [List.length_set];exact hk),getD_set hi]
theorem Perm.step {i k:Nat} {f:List Nat} (h:Perm i f) (hi:i<f.length) (hk:k≤i):Perm (i+1) (mix f i k):=by
 refine ⟨fun p hp=>?_,fun j hj=>?_⟩
 ·rw [mix_at hi (by omega)]
  by_cases h1:k=p
  ·rw [if_pos h1];omega
  ·rw [if_neg h1]
   by_cases h2:i=p
   ·rw [if_pos h2]
    have:=h.lt k (by omega)
    omega
   ·rw [if_neg h2]
    have:=h.lt p (by omega)
    omega
 ·by_cases hji:j=i
  ·exact ⟨k,by omega,by rw [mix_at hi (by omega),if_pos rfl];exact hji.symm⟩
  ·obtain ⟨p,hp,e⟩:=h.all j (by omega)
   by_cases hpk:p=k
   ·refine ⟨i,by omega,?_⟩
    rw [mix_at hi (by omega),if_neg (by omega),if_pos rfl,← hpk]
    exact e
   ·refine ⟨p,by omega,?_⟩
    rw [mix_at hi (by omega),if_neg (by omega),if_neg (by omega)]
    exact e
def natRows (f:List Nat):List (List AV):=intRows (f.map Int.ofNat)
structure ShufJ (u t:St) (d m i:Nat) (f:List Nat):Prop where
 die:Die d t.h
 get:t.h.get u.n=some (.cells (natRows f).flatten 0)
 same:∀ c,c<u.n→c≠d→t.h.get c=u.h.get c
 n:t.n=u.n+1
 tm:d≤t.m
 mle:t.m≤far
 len:f.length=m
 perm:Perm i f
end Go.Proofs.Ytamlnddeiokbdaa.walk
set_option maxRecDepth 10000
namespace Go.Proofs.Ytamlnddeiokbdaa.walk
open Go.Abs Go.Proofs.Ytamlnddeiokbdaa.code
end Go.Proofs.Ytamlnddeiokbdaa.walk
set_option maxRecDepth 10000
namespace Go.Proofs.Ytamlnddeiokbdaa.walk
open Go.Abs Go.Proofs.Ytamlnddeiokbdaa.code
structure TruJ (u t:St) (d:Nat) (S:List Sale) (Z:List Sold) (v:AV) (bl kk:Nat):Prop where
 die:Die d t.h
 is:IsAt t.h t.n bl 2 (tag 64) (truthRows Z) v
 lo:u.n≤bl
 same:∀ c,c<u.n→c≠d→t.h.get c=u.h.get c
 n:u.n≤t.n
 le:t.n≤u.n+kk
 m:d≤t.m
 mle:t.m≤far
 sal:salesZ Z=S
 ok:AllOk Z
theorem truthRows_snoc (Z:List Sold) (z:Sold):truthRows (Z++[z])=truthRows Z++[[.int .i64 z.2.1,.int .i64 z.2.2]]:=by unfold truthRows;rw [List.map_append];rfl
end Go.Proofs.Ytamlnddeiokbdaa.walk
