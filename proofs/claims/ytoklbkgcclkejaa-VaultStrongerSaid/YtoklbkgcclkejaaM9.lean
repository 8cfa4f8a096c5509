/- A hall that is made better: what its bays bear. -/
import Derived.Test.YtoklbkgcclkejaaM6
import Derived.Test.YtoklbkgcclkejaaM8
import Derived.Test.YtoklbkgcclkejaaM7
import Derived.Test.YtoklbkgcclkejaaCodes
import Derived.Test.YtoklbkgcclkejaaWalkAll
set_option linter.unusedSimpArgs false
set_option linter.unusedVariables false
set_option maxHeartbeats 16000000
set_option linter.unusedVariables false
set_option maxRecDepth 10000
namespace Go.Proofs.Ytoklbkgcclkejaa.walk
open Go.Abs Go.Proofs.Ytoklbkgcclkejaa.code
theorem flat_setA (x:AV):∀ {rows:List (List AV)} {w i j:Nat},(∀ r ∈ rows,r.length=w)→(hi:i<rows.length)→j<w→rows.flatten.set (i * w+j) x=(rows.set i (rows[i].set j x)).flatten
 | [],_,_,_,_,hi,_=>by simp at hi
 | a::r,w,0,j,h,hi,hj=>by
  have ha:=h a (List.mem_cons_self ..)
  rw [List.flatten_cons,Nat.zero_mul,Nat.zero_add,List.set_append_left _ _ (by omega)]
  rfl
 | a::r,w,i+1,j,h,hi,hj=>by
  have ha:=h a (List.mem_cons_self ..)
  rw [List.flatten_cons,List.set_append_right _ _ (by rw [ha,Nat.succ_mul];omega),show (i+1) * w+j - a.length=i * w+j by rw [ha,Nat.succ_mul];omega,flat_setA x (fun s hs=>h s (List.mem_cons_of_mem _ hs)) (by simpa using hi) hj]
  rfl
theorem nth_app_right:∀ (a b:List AV) (k:Nat),nth (a++b) (a.length+k)=nth b k
 | [],b,k=>by rw [List.nil_append,List.length_nil,Nat.zero_add]
 | x::a,b,k=>by
  rw [List.cons_append,List.length_cons,Zd,if_neg (by omega),show a.length+1+k - 1=a.length+k by omega]
  exact nth_app_right a b k
theorem nth_app_left:∀ (a b:List AV) (k:Nat),k<a.length→nth (a++b) k=nth a k
 | [],_,_,h=>by simp at h
 | x::a,b,0,_=>rfl
 | x::a,b,k+1,h=>nth_app_left a b k (by simpa using h)
theorem nth_flat:∀ {rows:List (List AV)} {w i j:Nat},(∀ r ∈ rows,r.length=w)→(hi:i<rows.length)→j<w→nth rows.flatten (i * w+j)=nth rows[i] j
 | [],_,_,_,_,hi,_=>by simp at hi
 | a::r,w,0,j,h,hi,hj=>by
  have ha:=h a (List.mem_cons_self ..)
  rw [List.flatten_cons,Nat.zero_mul,Nat.zero_add]
  exact nth_app_left _ _ _ (by omega)
 | a::r,w,i+1,j,h,hi,hj=>by
  have ha:=h a (List.mem_cons_self ..)
  rw [List.flatten_cons,show (i+1) * w+j=a.length+(i * w+j) by rw [ha,Nat.succ_mul];omega,nth_app_right]
  exact nth_flat (fun s hs=>h s (List.mem_cons_of_mem _ hs)) (by simpa using hi) hj
theorem ZA (l:List Int):∀ r ∈ zo l,r.length=1:=fun x hx=>by obtain ⟨p,_,rfl⟩:=List.mem_map.mp hx;rfl
theorem intRows_set (l:List Int) {i:Nat} (hi:i<l.length) (y:Int):(zo l).flatten.set i (.int .i64 y)=(zo (l.set i y)).flatten:=by
 have h:=flat_setA (.int .i64 y) (rows:=zo l) (w:=1) (i:=i) (j:=0) (ZA l) (by rw [jh];exact hi) (by omega)
 rw [Nat.mul_one,Nat.add_zero] at h
 rw [h]
 unfold zo
 rw [List.map_set,List.getElem_map]
 rfl
theorem intRows_nth (l:List Int) {i:Nat} (hi:i<l.length):nth (zo l).flatten i=.int .i64 l[i]:=by
 have h:=nth_flat (rows:=zo l) (w:=1) (i:=i) (j:=0) (ZA l) (by rw [jh];exact hi) (by omega)
 rw [Nat.mul_one,Nat.add_zero] at h
 rw [h]
 unfold zo
 rw [List.getElem_map]
 rfl
structure XJ (t0 t:St) (d s0 tc bB q m bK:Nat) (ba:List Nat) (G:HallR) (xW xS xK:AV) (kk:Nat):Prop where
 die:Die d t.h
 g5:t.h.get tc=some (.cells (zY G xW xS (slI bB G.bears.length) xK) (tag 30))
 hx:HallX t.h tc s0 bB q m bK ba G xW xS (slI bB G.bears.length) xK
 old:∀ c,c<s0→c≠d→t.h.get c=t0.h.get c
 n:tc<t.n
 le:t.n≤tc+kk
 m:d≤t.m∧t.m≤far
 dl:d<s0
theorem HallX.setB {h h':Heap} {n s0 bB q m bK i:Nat} {ba:List Nat} {H:HallR} {vW vS vB vK:AV} {y:Int} (r:HallX h n s0 bB q m bK ba H vW vS vB vK) (g:h'.get bB=some (.cells (zo (H.bears.set i y)).flatten (1+tag 3))) (hh:∀ c,c<n→s0≤c→c≠bB→h'.get c=h.get c):HallX h' n s0 bB q m bK ba { H with bears:=H.bears.set i y } vW vS (slI bB (H.bears.set i y).length) vK:=by
 have hq:=r.q
 exact ⟨r.w.move (fun c h1 h2=>⟨hh c h1 h2.1 (by omega),h2⟩) (Nat.le_refl _),r.s.move (fun c h1 h2=>⟨hh c h1 h2.1 (by omega),h2⟩) (Nat.le_refl _),⟨rfl,g⟩,r.k.move (fun c h1 h2=>hh c h1 (by omega) (by omega)) (Nat.le_refl _),hq⟩
theorem up_bear (n:Nat) (hn:20≤n) (cx:Ctx) {t0 t:St} {d s0 tc bB q m bK i kk:Nat} {ba:List Nat} {G:HallR} {xW xS xK:AV} {L:Env} (J:XJ t0 t d s0 tc bB q m bK ba G xW xS xK kk) (hi:i<G.bears.length) (hb:0≤G.bears[i]∧G.bears[i]≤300) (hl:G.bears.length≤24) (hs:tc+kk+1000≤far)
  (q3:L.find 3=.ptr d 0) (q5:L.find 5=.ptr tc 0) (q6:L.find 6=.int .i64 (i:Int)) :
  ∃ L1 t1 x,K8l0 (awd n) cx L [] t=.done .norm L1 [] t1∧XJ t0 t1 d s0 tc bB q m bK ba { G with bears:=G.bears.set i (G.bears[i]+x) } xW xS xK (kk+5)∧(0≤x∧x≤60)∧L1.find 3=.ptr d 0∧L1.find 4=L.find 4∧L1.find 5=.ptr tc 0∧L1.find 6=.int .i64 ((i+1:Nat):Int):=by
 have hf:far=1000000000:=rfl
 have knC:∀ args s,awd n (.fn 25) args s=call Try.prog X n (.fn 25) args s:=fun _ _=>rfl
 have knO:∀ args s,awd n (.fn 34) args s=call Try.prog X n (.fn 34) args s:=fun _ _=>rfl
 obtain ⟨jd,j5,jx,jo,jn,jle,jm,jdl⟩:=J
 have hq:=jx.q
 have gB:=jx.b.2
 have e0:decide ((i:Int)<(G.bears.length:Int))=true:=decide_eq_true (by omega)
 have ad:∀ s,jK s .i64 (i:Int) 1=.val (.int .i64 ((i:Int)+1)) s:=fun s=>zd s _ _ (by omega)
 have ll:∀ s,jH s (slI bB G.bears.length)=.val (.int .i64 (G.bears.length:Int)) s:=fun _=>rfl
 have hix:∀ s,yJ 1 s (slI bB G.bears.length) (.int .i64 (i:Int))=.val (.ptr bB i) s:=fun s=>by rw [yI _ _ _ _ _ _ _ _ hi,Nat.zero_add,Nat.mul_one]
 have hnth:=intRows_nth G.bears hi
 simp (disch:=first|omega|with_unfolding_all exact rfl) only [K8l0,K8r5,K8r6,Abs.W,reduceIte,Nat.reduceEqDiff,Nat.reduceAdd,Nat.reduceSub,q3,q5,q6,j5,ll,e0,hix,gB,hnth,knC,Nat.zero_add]
 generalize hc1:call _ _ _ (.fn 25) _ _=r1
 obtain ⟨x1,t1,rfl,st1,d1,x10,x11⟩:=wR hc1 (by omega) jd (by show d<t.n;omega) (by show t.n+100≤far;omega) (by omega)
 have n1:t.n≤t1.n:=st1.n
 have k1:t1.n≤t.n:=st1.le
 have m1:d≤t1.m:=st1.m (by show d≤far;omega)
 have g1:∀ c,c<t.n→c≠d→t1.h.get c=t.h.get c:=fun c hc hcd=>st1.same c hc hcd
 simp (disch:=first|omega|with_unfolding_all exact rfl) only [yP,Abs.W,reduceIte,Nat.reduceEqDiff,Nat.reduceAdd,Nat.reduceSub,q3,Nat.zero_add]
 obtain ⟨ya,hya⟩:∃ ya:St,ya=(⟨t1.h,t1.n,jt t.m t1.m⟩:St).new (.cells [.int .i64 0,.int .i64 x1] 0):=⟨_,rfl⟩
 have yan:ya.n=t1.n+1:=by rw [hya];rfl
 have yam:ya.m=min t.m t1.m:=by rw [hya];show jt t.m t1.m=_;simp only [zP]
 have yag:∀ c,c<t1.n→ya.h.get c=t1.h.get c:=fun c hc=>by rw [hya,zG _ _ _ (by show c≠t1.n;omega)]
 have yap:ya.h.get t1.n=some (.cells [.int .i64 0,.int .i64 x1] 0):=by rw [hya];exact zM _ _ _ rfl (by show t1.n<_;omega)
 rw [← hya]
 simp (disch:=first|omega|with_unfolding_all exact rfl) only [knO,Abs.W,reduceIte,Nat.reduceEqDiff,Nat.reduceAdd,Nat.reduceSub,Nat.zero_add]
 generalize hc3:call _ _ _ (.fn 34) _ _=r3
 obtain ⟨x3,t3,rfl,st3,d3,hx3⟩:=one_ex [0,x1] (b:=t1.n) (sz:=0) hc3 (by omega) (d1.keep (yag d (by omega))) (by show d<ya.n;omega) (by show ya.n+200≤far;omega) yap (by show t1.n<ya.n;omega) (by omega) rfl (by omega) (by omega)
 have n3:ya.n≤t3.n:=st3.n
 have k3:t3.n≤ya.n:=st3.le
 have m3:d≤t3.m:=st3.m (by show d≤far;omega)
 have g3:∀ c,c<t.n→c≠d→t3.h.get c=t.h.get c:=fun c hc hcd=>(st3.same c (by show c<ya.n;omega) hcd).trans ((yag c (by omega)).trans (g1 c hc hcd))
 have hx3':0≤x3∧x3≤60:=by simp at hx3;omega
 have hbn:bB<t.n:=by omega
 have hbd:bB≠d:=by omega
 have htd:tc≠d:=by omega
 obtain ⟨y8,hy8⟩:∃ y8:St,y8=⟨t3.h,t3.n,jt ya.m t3.m⟩:=⟨_,rfl⟩
 have y8n:y8.n=t3.n:=by rw [hy8]
 have y8h:y8.h=t3.h:=by rw [hy8]
 have y8m:y8.m=min ya.m t3.m:=by rw [hy8];simp only [zP]
 have g8B:y8.h.get bB=some (.cells (zo G.bears).flatten (1+tag 3)):=by rw [y8h,g3 bB hbn hbd];exact gB
 have ad3:∀ s,jK s .i64 G.bears[i] x3=.val (.int .i64 (G.bears[i]+x3)) s:=fun s=>zd s _ _ (by omega)
 have hrl:i<(zo G.bears).flatten.length:=by rw [jy (ZA _),jh];omega
 obtain ⟨Y,hY⟩:∃ Y:St,Y=y8.put bB (.cells (zo (G.bears.set i (G.bears[i]+x3))).flatten (1+tag 3)):=⟨_,rfl⟩
 have stY:jL 1 y8 (.int .i64 (G.bears[i]+x3)) (.ptr bB i)=.val .undef Y:=by
  have h:=jf (v:=.int .i64 (G.bears[i]+x3)) g8B hrl rfl rfl
  rw [intRows_set _ hi] at h
  rw [h,hY]
 have Yn:Y.n=t3.n:=by rw [hY,zW];exact y8n
 have Ym:Y.m=min y8.m bB:=by rw [hY];simp only [St.put,zP]
 have YB:Y.h.get bB=some (.cells (zo (G.bears.set i (G.bears[i]+x3))).flatten (1+tag 3)):=by rw [hY];exact zO _ _ _ _ rfl (by omega)
 have Yg:∀ c,c≠bB→Y.h.get c=t3.h.get c:=fun c hc=>by rw [hY,zI _ _ _ _ hc,y8h]
 clear hY
 simp (disch:=first|omega|with_unfolding_all exact rfl) only [yP,Abs.W,reduceIte,Nat.reduceEqDiff,Nat.reduceAdd,Nat.reduceSub,Nat.zero_add]
 rw [← hy8]
 simp (disch:=first|omega|with_unfolding_all exact rfl) only [ad3,hix,stY,Abs.W,reduceIte,Nat.reduceEqDiff,Nat.reduceAdd,Nat.reduceSub,Nat.zero_add]
 rw [yf (l:=[31,34,37]) (s':=t3) (by simp only [yB,yH,zJ,efs,ye,(yag tc (by omega)).trans ((g1 tc jn htd).trans j5),(g3 tc jn htd).trans j5,(yag bB (by omega)).trans ((g1 bB hbn hbd).trans gB),(g3 bB hbn hbd).trans gB,yC,reduceIte,Nat.reduceEqDiff,Bool.and_self])]
 rw [yf (l:=[31,34,37]) (s':=t1) (by simp only [yB,yH,zJ,efs,ye,j5,(g1 tc jn htd).trans j5,gB,(g1 bB hbn hbd).trans gB,yC,reduceIte,Nat.reduceEqDiff,Bool.and_self])]
 rw [ZE _ (vi _)]
 simp (disch:=first|omega|with_unfolding_all exact rfl) only [K8r7,Abs.W,reduceIte,Nat.reduceEqDiff,Nat.reduceAdd,Nat.reduceSub,q6,ad,Nat.zero_add]
 have gY:∀ c,c<t.n→c≠d→c≠bB→Y.h.get c=t.h.get c:=fun c h1 h2 h3=>(Yg c h3).trans (g3 c h1 h2)
 refine ⟨_,Y,x3,rfl,⟨?_,?_,?_,fun c h1 h2=>?_,by omega,by omega,by omega,jdl⟩,hx3',?_,?_,?_,?_⟩
 ·exact d3.keep (Yg d (by omega))
 ·rw [gY tc jn htd (by omega)]
  show t.h.get tc=some (.cells (zY G xW xS (slI bB (G.bears.set i (G.bears[i]+x3)).length) xK) (tag 30))
  rw [List.length_set];exact j5
 ·exact jx.setB YB fun c h1 h2 h3=>gY c (by omega) (by omega) h3
 ·exact (gY c (by omega) h2 (by omega)).trans (jo c h1 h2)
 ·simp only [efs,q3,reduceIte,Nat.reduceEqDiff]
 ·simp only [efs,reduceIte,Nat.reduceEqDiff]
 ·simp only [efs,q5,reduceIte,Nat.reduceEqDiff]
 ·simp only [efs,reduceIte,Nat.reduceEqDiff];rfl
end Go.Proofs.Ytoklbkgcclkejaa.walk
set_option maxRecDepth 10000
namespace Go.Proofs.Ytoklbkgcclkejaa.walk
open Go.Abs Go.Proofs.Ytoklbkgcclkejaa.code
theorem put_same (P Q:PutR):(P.x=Q.x∧P.y=Q.y∧P.kind=Q.kind)↔P=Q:=by
 obtain ⟨a,b,k⟩:=P
 obtain ⟨a',b',k'⟩:=Q
 simp
instance (P Q:PutR):Decidable (P=Q):=decidable_of_iff _ (put_same P Q)
end Go.Proofs.Ytoklbkgcclkejaa.walk
set_option maxRecDepth 10000
namespace Go.Proofs.Ytoklbkgcclkejaa.walk
open Go.Abs Go.Proofs.Ytoklbkgcclkejaa.code
end Go.Proofs.Ytoklbkgcclkejaa.walk
set_option maxRecDepth 10000
namespace Go.Abs
theorem over_two:∀ {c:List AV} {i:Nat} (x y:AV),i+1<c.length→over i [x,y] c=some ((c.set i x).set (i+1) y)
 | [],_,_,_,h=>by simp at h
 | [_],0,_,_,h=>by simp at h
 | a::b::r,0,x,y,_=>by cases r<;>rfl
 | a::r,i+1,x,y,h=>by
  have:=over_two (c:=r) (i:=i) x y (by simpa using h)
  show (match over i [x,y] r with | some c=>some (a::c) | none=>none)=_
  rw [this];rfl
end Go.Abs
namespace Go.Proofs.Ytoklbkgcclkejaa.walk
open Go.Abs Go.Proofs.Ytoklbkgcclkejaa.code
end Go.Proofs.Ytoklbkgcclkejaa.walk
set_option maxRecDepth 10000
namespace Go.Proofs.Ytoklbkgcclkejaa.walk
open Go.Abs Go.Proofs.Ytoklbkgcclkejaa.code
theorem store_two {s:St} {b o tg:Nat} {c:List AV} {x y:AV} (h:s.h.get b=some (.cells c tg)) (ho:o+1<c.length) (hv:cellsOf 2 (.agg [x,y])=some [x,y]) (hs:scalars [x,y]=true):jL 2 s (.agg [x,y]) (.ptr b o)=.val .undef (s.put b (.cells ((c.set o x).set (o+1) y) tg)):=by
 rw [Jc,h,gm,hv,JB,hs,JC,over_two x y ho]
 rfl
abbrev wsI (ba:List Nat) (m:Nat):List AV:=ba.map fun b=>slI b m
theorem vm (ks:List KindR) (ws:List AV):∀ r ∈ jA ks ws,r.length=6:=fun r hr=>by
 unfold jA at hr
 obtain ⟨i,hi,rfl⟩:=List.getElem_of_mem hr
 rw [List.getElem_zipWith];rfl
theorem gN {ks:List KindR} {ws:List AV} {i:Nat} (hi:i<(jA ks ws).length) (h1:i<ks.length) (h2:i<ws.length):(jA ks ws)[i]=ks[i].row ws[i]:=by
 unfold jA
 exact List.getElem_zipWith ..
theorem kindRows_set {ks:List KindR} {ws:List AV} {i:Nat} (h2:i<ws.length) (K:KindR):(jA ks ws).set i (K.row ws[i])=jA (ks.set i K) ws:=by
 apply List.ext_getElem
 ·unfold jA;simp
 ·intro j j1 j2
  have hk:j<ks.length∧j<ws.length:=by
   unfold jA at j2
   rw [List.length_zipWith,List.length_set] at j2
   omega
  rw [gN _ (by rw [List.length_set];exact hk.1) hk.2,List.getElem_set,List.getElem_set]
  by_cases e:i=j
  ·subst e;simp
  ·rw [if_neg e,if_neg e,gN _ hk.1 hk.2]
theorem KX.row {h:Heap} {n lo m bK i:Nat} {ks:List KindR} {ba:List Nat} {v:AV} (r:KX h n lo m bK ks ba v) (hi:i<ks.length):v=.slice bK 0 ks.length ks.length true∧bK<n∧h.get bK=some (.cells (jA ks (wsI ba m)).flatten (6+tag 49))∧(jA ks (wsI ba m)).flatten.length=ks.length * 6∧∀ o,o<6→nth (jA ks (wsI ba m)).flatten (i * 6+o)=nth (ks[i].row (slI (ba.getD i 0) m)) o:=by
 have hl:(wsI ba m).length=ks.length:=by rw [List.length_map];exact r.len
 have hk:=yE hl
 have hb:i<ba.length:=by have:=r.len;omega
 rcases r.is.is with ⟨h1,_⟩ | ⟨_,h2,h3,h4⟩
 ·rw [h1] at hk;simp at hk;omega
 ·rw [hk] at h3
  refine ⟨h3,h2,h4,by rw [jy (vm _ _),hk],fun o ho=>?_⟩
  rw [nth_flat (vm _ _) (by rw [hk];exact hi) ho,gN _ hi (by rw [hl];exact hi),List.getElem_map,List.getD_eq_getElem?_getD,List.getElem?_eq_getElem hb]
  rfl
theorem row_set {m i o:Nat} {ks:List KindR} {ba:List Nat} {x:AV} (hl:ba.length=ks.length) (hi:i<ks.length) (ho:o<6) {K':KindR} (hK:(ks[i].row (slI (ba.getD i 0) m)).set o x=K'.row (slI (ba.getD i 0) m)):(jA ks (wsI ba m)).flatten.set (i * 6+o) x=(jA (ks.set i K') (wsI ba m)).flatten:=by
 have hw:i<(wsI ba m).length:=by rw [List.length_map];omega
 have hk:(jA ks (wsI ba m)).length=ks.length:=yE (by rw [List.length_map];exact hl)
 have hwi:(wsI ba m)[i]=slI (ba.getD i 0) m:=by
  rw [List.getElem_map,List.getD_eq_getElem?_getD,List.getElem?_eq_getElem (by omega)];rfl
 rw [flat_setA x (vm _ _) (by rw [hk];exact hi) ho,gN _ hi hw,hwi,hK,← hwi,kindRows_set hw]
theorem KX.setk {h h':Heap} {n lo m bK i:Nat} {ks:List KindR} {ba:List Nat} {v:AV} {K':KindR} (r:KX h n lo m bK ks ba v) (hi:i<ks.length) (ha:K'.away=ks[i].away) (g:h'.get bK=some (.cells (jA (ks.set i K') (wsI ba m)).flatten (6+tag 49))) (hh:∀ c,c<n→lo≤c→c≠bK→h'.get c=h.get c):KX h' n lo m bK (ks.set i K') ba v:=by
 obtain ⟨r1,r2,r3,r4,r5⟩:=r.row hi
 refine ⟨by rw [List.length_set];exact r.len,⟨vm _ _,.inr ⟨?_,r2,?_,g⟩⟩,fun j h1 h2=>?_,r.nd,r.lo,r.hb⟩
 ·intro h0
  have:=congrArg List.length h0
  rw [yE (by rw [List.length_map,List.length_set];exact r.len),List.length_set,List.length_nil] at this
  omega
 ·rw [yE (by rw [List.length_map,List.length_set];exact r.len),List.length_set];exact r1
 ·rw [List.length_set] at h2
  obtain ⟨a1,a2,a3,a4,a5⟩:=r.a j h1 h2
  have e:(ks.set i K')[j].away=ks[j].away:=by
   rw [List.getElem_set]
   split
   ·rename_i e;subst e;exact ha
   ·rfl
  rw [e]
  exact ⟨a1,a2,a3,a4,(hh _ a2 a1 a3).trans a5⟩
theorem HallX.setK {h h':Heap} {n s0 bB q m bK:Nat} {ba:List Nat} {H:HallR} {vW vS vB vK:AV} {ks':List KindR} (r:HallX h n s0 bB q m bK ba H vW vS vB vK) (k':KX h' n q m bK ks' ba vK) (hh:∀ c,c<q→s0≤c→h'.get c=h.get c):HallX h' n s0 bB q m bK ba { H with kinds:=ks' } vW vS vB vK:=by
 have hq:=r.q
 exact ⟨r.w.move (fun c h1 h2=>⟨hh c (by omega) h2.1,h2⟩) (Nat.le_refl _),r.s.move (fun c h1 h2=>⟨hh c (by omega) h2.1,h2⟩) (Nat.le_refl _),⟨r.b.1,(hh bB (by omega) (by omega)).trans r.b.2⟩,k',hq⟩
theorem up_load (n:Nat) (hn:20≤n) (cx:Ctx) {t0 t:St} {d s0 tc bB q m bK i kk:Nat} {ba:List Nat} {G:HallR} {xW xS xK:AV} {L:Env} {K:KindR} (J:XJ t0 t d s0 tc bB q m bK ba G xW xS xK kk) (hi:i<G.kinds.length) (hK:G.kinds[i]=K) (hb:(0≤K.lo∧K.lo≤K.hi)∧K.hi≤1000000) (hs:tc+kk+1000≤far)
  (q3:L.find 3=.ptr d 0) (q8:L.find 8=.ptr bK (i * 6)) :
  ∃ t1 a b,zv K8r11 [] (awd n) cx L [] t=.done .norm L [] t1∧XJ t0 t1 d s0 tc bB q m bK ba { G with kinds:=G.kinds.set i { K with lo:=a,hi:=b } } xW xS xK (kk+5)∧(0≤a∧a≤K.lo)∧K.lo≤b∧b≤K.hi:=by
 have hf:far=1000000000:=rfl
 have knC:∀ args s,awd n (.fn 25) args s=call Try.prog X n (.fn 25) args s:=fun _ _=>rfl
 have knF:∀ args s,awd n (.fn 35) args s=call Try.prog X n (.fn 35) args s:=fun _ _=>rfl
 have knS:∀ args s,awd n (.fn 20) args s=call Try.prog X n (.fn 20) args s:=fun _ _=>rfl
 obtain ⟨jd,j5,jx,jo,jn,jle,jm,jdl⟩:=J
 have hq:=jx.q
 obtain ⟨rk1,rk2,rk3,rk4,rk5⟩:=jx.k.row hi
 have hlo:=jx.k.lo
 have c0:=rk5 0 (by omega)
 have c1:=rk5 1 (by omega)
 rw [hK] at c0 c1
 have c0':nth (jA G.kinds (wsI ba m)).flatten (i * 6)=.int .i64 K.lo:=c0
 have c1':nth (jA G.kinds (wsI ba m)).flatten (i * 6+1)=.int .i64 K.hi:=c1
 have hbn:bK<t.n:=by omega
 have hbd:bK≠d:=by omega
 simp (disch:=first|omega|with_unfolding_all exact rfl) only [K8r11,Abs.W,reduceIte,Nat.reduceEqDiff,Nat.reduceAdd,Nat.reduceSub,q3,q8,rk3,c0',knF,Nat.zero_add,Nat.add_zero]
 generalize hc1:call _ _ _ (.fn 35) _ _=r1
 obtain ⟨a,t1,rfl,st1,d1,a0,a1⟩:=gC hc1 (by omega) jd (by show d<t.n;omega) (by show t.n+200≤far;omega) (by omega) (by omega) (by omega) (by omega)
 have n1:t.n≤t1.n:=st1.n
 have k1:t1.n≤t.n:=st1.le
 have m1:d≤t1.m:=st1.m (by show d≤far;omega)
 have g1:∀ c,c<t.n→c≠d→t1.h.get c=t.h.get c:=fun c hc hcd=>st1.same c hc hcd
 have t1B:=(g1 bK hbn hbd).trans rk3
 have sb:∀ s,wF s .i64 K.hi K.lo=.val (.int .i64 (K.hi - K.lo)) s:=fun s=>yv s _ _ (by omega)
 have ad1:∀ s,jK s .i64 (K.hi - K.lo) 1=.val (.int .i64 (K.hi - K.lo+1)) s:=fun s=>zd s _ _ (by omega)
 simp (disch:=first|omega|with_unfolding_all exact rfl) only [yP,Abs.W,reduceIte,Nat.reduceEqDiff,Nat.reduceAdd,Nat.reduceSub,q3,q8,t1B,c0',c1',sb,ad1,knC,Nat.zero_add,Nat.add_zero]
 generalize hc3:call _ _ _ (.fn 25) _ _=r3
 obtain ⟨x,t3,rfl,st3,d3,x0,x1⟩:=wR hc3 (by omega) d1 (by show d<t1.n;omega) (by show t1.n+100≤far;omega) (by omega)
 have n3:t1.n≤t3.n:=st3.n
 have k3:t3.n≤t1.n:=st3.le
 have m3:d≤t3.m:=st3.m (by show d≤far;omega)
 have g3:∀ c,c<t.n→c≠d→t3.h.get c=t.h.get c:=fun c hc hcd=>(st3.same c (by show c<t1.n;omega) hcd).trans (g1 c hc hcd)
 obtain ⟨y3,hy3⟩:∃ y3:St,y3=⟨t3.h,t3.n,jt (jt t.m t1.m) t3.m⟩:=⟨_,rfl⟩
 have y3n:y3.n=t3.n:=by rw [hy3]
 have y3h:y3.h=t3.h:=by rw [hy3]
 have y3m:y3.m=min (min t.m t1.m) t3.m:=by rw [hy3];simp only [zP]
 have y3B:y3.h.get bK=some (.cells (jA G.kinds (wsI ba m)).flatten (6+tag 49)):=by rw [y3h,g3 bK hbn hbd];exact rk3
 have ad2:∀ s,jK s .i64 K.lo x=.val (.int .i64 (K.lo+x)) s:=fun s=>zd s _ _ (by omega)
 have esp:=mkSpan_ok n (by omega) a (K.lo+x) y3 (by omega)
 have okW:∀ (a b:Int) t,okA (.val (.agg [.int .i64 a,.int .i64 b]) t)=.val (.agg [.int .i64 a,.int .i64 b]) t:=fun _ _ _=>rfl
 obtain ⟨K',hK'⟩:∃ K':KindR,K'={ K with lo:=a,hi:=K.lo+x }:=⟨_,rfl⟩
 obtain ⟨Y,hY⟩:∃ Y:St,Y=y3.put bK (.cells (jA (G.kinds.set i K') (wsI ba m)).flatten (6+tag 49)):=⟨_,rfl⟩
 have hlen:=jx.k.len
 have stY:jL 2 y3 (.agg [.int .i64 a,.int .i64 (K.lo+x)]) (.ptr bK (i * 6))=.val .undef Y:=by
  have h:=store_two (o:=i * 6) (x:=.int .i64 a) (y:=.int .i64 (K.lo+x)) y3B (by rw [rk4];omega) rfl rfl
  have e1:=row_set (m:=m) (ba:=ba) (o:=0) (x:=.int .i64 a) (K':={ K with lo:=a }) hlen hi (by omega) (by rw [hK];rfl)
  rw [Nat.add_zero] at e1
  have e2:=row_set (m:=m) (ba:=ba) (i:=i) (o:=1) (ks:=G.kinds.set i { K with lo:=a }) (x:=.int .i64 (K.lo+x)) (K':=K') (by rw [List.length_set];exact hlen) (by rw [List.length_set];exact hi) (by omega) (by rw [List.getElem_set,if_pos rfl,hK'];rfl)
  rw [List.set_set] at e2
  rw [e1,e2] at h
  rw [h,hY]
 have Yn:Y.n=t3.n:=by rw [hY,zW];exact y3n
 have Ym:Y.m=min y3.m bK:=by rw [hY];simp only [St.put,zP]
 have YB:Y.h.get bK=some (.cells (jA (G.kinds.set i K') (wsI ba m)).flatten (6+tag 49)):=by rw [hY];exact zO _ _ _ _ rfl (by omega)
 have Yg:∀ c,c≠bK→Y.h.get c=t3.h.get c:=fun c hc=>by rw [hY,zI _ _ _ _ hc,y3h]
 clear hY
 simp (disch:=first|omega|with_unfolding_all exact rfl) only [yP,Abs.W,reduceIte,Nat.reduceEqDiff,Nat.reduceAdd,Nat.reduceSub,Nat.zero_add]
 rw [← hy3]
 simp (disch:=first|omega|with_unfolding_all exact rfl) only [ad2,knS,esp,okW,stY,Abs.W,reduceIte,Nat.reduceEqDiff,Nat.reduceAdd,Nat.reduceSub,Nat.zero_add,Nat.add_zero]
 rw [yf (l:=[68]) (s':=t3) (by simp only [yB,yH,zJ,efs,ye,t1B,(g3 bK hbn hbd).trans rk3,yC,reduceIte,Nat.reduceEqDiff,Bool.and_self])]
 rw [yf (l:=[68,74,79]) (s':=t1) (by simp only [yB,yH,zJ,efs,ye,rk3,t1B,yC,reduceIte,Nat.reduceEqDiff,Bool.and_self])]
 rw [ZE _ (vi _)]
 have gY:∀ c,c<t.n→c≠d→c≠bK→Y.h.get c=t.h.get c:=fun c h1 h2 h3=>(Yg c h3).trans (g3 c h1 h2)
 simp (disch:=first|omega|with_unfolding_all exact rfl) only [Abs.W,reduceIte,Nat.reduceEqDiff,Nat.reduceAdd,Nat.reduceSub]
 refine ⟨Y,a,K.lo+x,rfl,⟨d3.keep (Yg d (by omega)),?_,?_,fun c h1 h2=>?_,by omega,by omega,by omega,jdl⟩,⟨a0,by omega⟩,by omega,by omega⟩
 ·rw [gY tc jn (by omega) (by omega)];exact j5
 ·rw [← hK']
  exact jx.setK (jx.k.setk hi (by rw [hK',hK]) YB fun c h1 h2 h3=>gY c (by omega) (by omega) h3) fun c h1 h2=>gY c (by omega) (by omega) (by omega)
 ·exact (gY c (by omega) h2 (by omega)).trans (jo c h1 h2)
theorem up_rent (n:Nat) (hn:20≤n) (cx:Ctx) {t0 t:St} {d s0 tc bB q m bK i kk:Nat} {ba:List Nat} {G:HallR} {xW xS xK:AV} {L:Env} {K:KindR} (J:XJ t0 t d s0 tc bB q m bK ba G xW xS xK kk) (hi:i<G.kinds.length) (hK:G.kinds[i]=K) (hb:(0≤K.rent∧K.rent≤1000)∧0≤K.most∧K.most≤1000) (hs:tc+kk+1000≤far)
  (q3:L.find 3=.ptr d 0) (q8:L.find 8=.ptr bK (i * 6)) :
  ∃ t1 a b,zv K8r12 [] (awd n) cx L [] t=.done .norm L [] t1∧XJ t0 t1 d s0 tc bB q m bK ba { G with kinds:=G.kinds.set i { K with rent:=K.rent+a,most:=K.most+b } } xW xS xK (kk+5)∧(0≤a∧a≤9)∧0≤b∧b≤2:=by
 have hf:far=1000000000:=rfl
 have knC:∀ args s,awd n (.fn 25) args s=call Try.prog X n (.fn 25) args s:=fun _ _=>rfl
 obtain ⟨jd,j5,jx,jo,jn,jle,jm,jdl⟩:=J
 have hq:=jx.q
 obtain ⟨rk1,rk2,rk3,rk4,rk5⟩:=jx.k.row hi
 have hlo:=jx.k.lo
 have c0:nth (jA G.kinds (wsI ba m)).flatten (i * 6+4)=.int .i64 K.rent:=by rw [rk5 4 (by omega),hK];rfl
 have c1:nth (jA G.kinds (wsI ba m)).flatten (i * 6+5)=.int .i64 K.most:=by rw [rk5 5 (by omega),hK];rfl
 have hbn:bK<t.n:=by omega
 have hbd:bK≠d:=by omega
 simp (disch:=first|omega|with_unfolding_all exact rfl) only [K8r12,Abs.W,reduceIte,Nat.reduceEqDiff,Nat.reduceAdd,Nat.reduceSub,q3,q8,rk3,c0,knC,Nat.zero_add,Nat.add_zero]
 generalize hc1:call _ _ _ (.fn 25) _ _=r1
 obtain ⟨a,t1,rfl,st1,d1,a0,a1⟩:=wR hc1 (by omega) jd (by show d<t.n;omega) (by show t.n+100≤far;omega) (by omega)
 have n1:t.n≤t1.n:=st1.n
 have k1:t1.n≤t.n:=st1.le
 have m1:d≤t1.m:=st1.m (by show d≤far;omega)
 have g1:∀ c,c<t.n→c≠d→t1.h.get c=t.h.get c:=fun c hc hcd=>st1.same c hc hcd
 have t1B:=(g1 bK hbn hbd).trans rk3
 have ad1:∀ s,jK s .i64 K.rent a=.val (.int .i64 (K.rent+a)) s:=fun s=>zd s _ _ (by omega)
 simp (disch:=first|omega|with_unfolding_all exact rfl) only [yP,Abs.W,reduceIte,Nat.reduceEqDiff,Nat.reduceAdd,Nat.reduceSub,q3,q8,t1B,c1,ad1,knC,Nat.zero_add,Nat.add_zero]
 generalize hc3:call _ _ _ (.fn 25) _ _=r3
 obtain ⟨b,t3,rfl,st3,d3,b0,b1⟩:=wR hc3 (by omega) d1 (by show d<t1.n;omega) (by show t1.n+100≤far;omega) (by omega)
 have n3:t1.n≤t3.n:=st3.n
 have k3:t3.n≤t1.n:=st3.le
 have m3:d≤t3.m:=st3.m (by show d≤far;omega)
 have g3:∀ c,c<t.n→c≠d→t3.h.get c=t.h.get c:=fun c hc hcd=>(st3.same c (by show c<t1.n;omega) hcd).trans (g1 c hc hcd)
 obtain ⟨y3,hy3⟩:∃ y3:St,y3=⟨t3.h,t3.n,jt (jt t.m t1.m) t3.m⟩:=⟨_,rfl⟩
 have y3n:y3.n=t3.n:=by rw [hy3]
 have y3h:y3.h=t3.h:=by rw [hy3]
 have y3m:y3.m=min (min t.m t1.m) t3.m:=by rw [hy3];simp only [zP]
 have y3B:y3.h.get bK=some (.cells (jA G.kinds (wsI ba m)).flatten (6+tag 49)):=by rw [y3h,g3 bK hbn hbd];exact rk3
 have ad2:∀ s,jK s .i64 K.most b=.val (.int .i64 (K.most+b)) s:=fun s=>zd s _ _ (by omega)
 obtain ⟨K1,hK1⟩:∃ K1:KindR,K1={ K with rent:=K.rent+a }:=⟨_,rfl⟩
 obtain ⟨K',hK'⟩:∃ K':KindR,K'={ K with rent:=K.rent+a,most:=K.most+b }:=⟨_,rfl⟩
 have hlen:=jx.k.len
 obtain ⟨Z,hZ⟩:∃ Z:St,Z=y3.put bK (.cells (jA (G.kinds.set i K1) (wsI ba m)).flatten (6+tag 49)):=⟨_,rfl⟩
 have stZ:jL 1 y3 (.int .i64 (K.rent+a)) (.ptr bK (i * 6+4))=.val .undef Z:=by
  have h:=jf (o:=i * 6+4) (v:=.int .i64 (K.rent+a)) y3B (by rw [rk4];omega) rfl rfl
  rw [row_set (m:=m) (ba:=ba) (o:=4) (K':=K1) hlen hi (by omega) (by rw [hK,hK1];rfl)] at h
  rw [h,hZ]
 have ZB:Z.h.get bK=some (.cells (jA (G.kinds.set i K1) (wsI ba m)).flatten (6+tag 49)):=by rw [hZ];exact zO _ _ _ _ rfl (by omega)
 have Zl:(jA (G.kinds.set i K1) (wsI ba m)).flatten.length=G.kinds.length * 6:=by
  rw [jy (vm _ _),yE (by rw [List.length_map,List.length_set];exact hlen),List.length_set]
 obtain ⟨Y,hY⟩:∃ Y:St,Y=Z.put bK (.cells (jA (G.kinds.set i K') (wsI ba m)).flatten (6+tag 49)):=⟨_,rfl⟩
 have stY:jL 1 Z (.int .i64 (K.most+b)) (.ptr bK (i * 6+5))=.val .undef Y:=by
  have h:=jf (o:=i * 6+5) (v:=.int .i64 (K.most+b)) ZB (by rw [Zl];omega) rfl rfl
  have e2:=row_set (m:=m) (ba:=ba) (i:=i) (o:=5) (ks:=G.kinds.set i K1) (x:=.int .i64 (K.most+b)) (K':=K') (by rw [List.length_set];exact hlen) (by rw [List.length_set];exact hi) (by omega) (by rw [List.getElem_set,if_pos rfl,hK',hK1];rfl)
  rw [List.set_set] at e2
  rw [e2] at h
  rw [h,hY]
 have Yn:Y.n=t3.n:=by rw [hY,zW,hZ,zW];exact y3n
 have Ym:Y.m=min (min y3.m bK) bK:=by rw [hY,hZ];simp only [St.put,zP]
 have YB:Y.h.get bK=some (.cells (jA (G.kinds.set i K') (wsI ba m)).flatten (6+tag 49)):=by rw [hY];exact zO _ _ _ _ rfl (by omega)
 have Yg:∀ c,c≠bK→Y.h.get c=t3.h.get c:=fun c hc=>by rw [hY,zI _ _ _ _ hc,hZ,zI _ _ _ _ hc,y3h]
 clear hY hZ
 simp (disch:=first|omega|with_unfolding_all exact rfl) only [yP,Abs.W,reduceIte,Nat.reduceEqDiff,Nat.reduceAdd,Nat.reduceSub,Nat.zero_add]
 rw [← hy3]
 simp (disch:=first|omega|with_unfolding_all exact rfl) only [ad2,stZ,stY,Abs.W,reduceIte,Nat.reduceEqDiff,Nat.reduceAdd,Nat.reduceSub,Nat.zero_add,Nat.add_zero]
 rw [yf (l:=[92,99]) (s':=t3) (by simp only [yB,yH,zJ,efs,ye,t1B,(g3 bK hbn hbd).trans rk3,yC,reduceIte,Nat.reduceEqDiff,Bool.and_self])]
 rw [yf (l:=[92,99]) (s':=t1) (by simp only [yB,yH,zJ,efs,ye,rk3,t1B,yC,reduceIte,Nat.reduceEqDiff,Bool.and_self])]
 rw [ZE _ (vi _)]
 have gY:∀ c,c<t.n→c≠d→c≠bK→Y.h.get c=t.h.get c:=fun c h1 h2 h3=>(Yg c h3).trans (g3 c h1 h2)
 simp (disch:=first|omega|with_unfolding_all exact rfl) only [Abs.W,reduceIte,Nat.reduceEqDiff,Nat.reduceAdd,Nat.reduceSub]
 refine ⟨Y,a,b,rfl,⟨d3.keep (Yg d (by omega)),?_,?_,fun c h1 h2=>?_,by omega,by omega,by omega,jdl⟩,⟨a0,by omega⟩,by omega,by omega⟩
 ·rw [gY tc jn (by omega) (by omega)];exact j5
 ·rw [← hK']
  exact jx.setK (jx.k.setk hi (by rw [hK',hK]) YB fun c h1 h2 h3=>gY c (by omega) (by omega) h3) fun c h1 h2=>gY c (by omega) (by omega) (by omega)
 ·exact (gY c (by omega) h2 (by omega)).trans (jo c h1 h2)
end Go.Proofs.Ytoklbkgcclkejaa.walk
set_option maxRecDepth 10000
namespace Go.Proofs.Ytoklbkgcclkejaa.walk
open Go.Abs Go.Proofs.Ytoklbkgcclkejaa.code
theorem KX.seta {h h':Heap} {n lo m bK i:Nat} {ks:List KindR} {ba:List Nat} {v:AV} {A:List Int} (r:KX h n lo m bK ks ba v) (hi:i<ks.length) (hA:A.length=m) (g:h'.get (ba.getD i 0)=some (.cells (zo A).flatten (1+tag 3))) (hh:∀ c,c<n→lo≤c→c≠ba.getD i 0→h'.get c=h.get c):KX h' n lo m bK (ks.set i { ks[i] with away:=A }) ba v:=by
 have hb:i<ba.length:=by have:=r.len;omega
 have hbi:ba.getD i 0=ba[i]:=by rw [List.getD_eq_getElem?_getD,List.getElem?_eq_getElem hb];rfl
 rw [hbi] at g hh
 obtain ⟨a1,a2,a3,a4,a5⟩:=r.a i hb hi
 have hw:i<(wsI ba m).length:=by rw [List.length_map];exact hb
 have hk:(jA ks (wsI ba m)).length=ks.length:=yE (by rw [List.length_map];exact r.len)
 have hrow:jA (ks.set i { ks[i] with away:=A }) (wsI ba m)=jA ks (wsI ba m):=by
  rw [← kindRows_set hw]
  have:({ ks[i] with away:=A }:KindR).row (wsI ba m)[i]=(jA ks (wsI ba m))[i]'(by rw [hk];exact hi):=by
   rw [gN _ hi hw];rfl
  rw [this,List.set_getElem_self]
 refine ⟨by rw [List.length_set];exact r.len,?_,fun j h1 h2=>?_,r.nd,r.lo,r.hb⟩
 ·show IsAt h' n bK 6 _ (jA (ks.set i { ks[i] with away:=A }) (wsI ba m)) v
  rw [hrow]
  exact r.is.mono (fun hbn=>hh bK hbn r.lo (fun e=>a3 e.symm)) (Nat.le_refl _)
 ·rw [List.length_set] at h2
  by_cases e:i=j
  ·subst e
   rw [List.getElem_set,if_pos rfl]
   exact ⟨a1,a2,a3,hA,g⟩
  ·rw [List.getElem_set,if_neg e]
   obtain ⟨b1,b2,b3,b4,b5⟩:=r.a j h1 h2
   have hne:ba[j]≠ba[i]:=by
    rcases Nat.lt_or_gt_of_ne e with h | h
    ·exact fun e2=>List.pairwise_iff_getElem.mp r.nd i j hb h1 h e2.symm
    ·exact List.pairwise_iff_getElem.mp r.nd j i h1 hb h
   exact ⟨b1,b2,b3,b4,(hh _ b2 b1 hne).trans b5⟩
theorem up_away (n:Nat) (hn:20≤n) (cx:Ctx) {t0 t:St} {d s0 tc bB q m bK i j kk:Nat} {ba:List Nat} {G:HallR} {xW xS xK:AV} {L:Env} {K:KindR} (J:XJ t0 t d s0 tc bB q m bK ba G xW xS xK kk) (hi:i<G.kinds.length) (hK:G.kinds[i]=K) (hj:j<K.away.length) (hm6:m≤6) (hb:0≤K.away[j]∧K.away[j]≤9) (hs:tc+kk+1000≤far)
  (q3:L.find 3=.ptr d 0) (q8:L.find 8=.ptr bK (i * 6)) (q9:L.find 9=.int .i64 (j:Int)) :
  ∃ L1 t1 x,K8l1 (awd n) cx L [] t=.done .norm L1 [] t1∧XJ t0 t1 d s0 tc bB q m bK ba { G with kinds:=G.kinds.set i { K with away:=K.away.set j x } } xW xS xK (kk+5)∧(0≤x∧x≤K.away[j])∧L1.find 9=.int .i64 ((j+1:Nat):Int)∧∀ c,c<9→L1.find c=L.find c:=by
 have hf:far=1000000000:=rfl
 have knF:∀ args s,awd n (.fn 35) args s=call Try.prog X n (.fn 35) args s:=fun _ _=>rfl
 obtain ⟨jd,j5,jx,jo,jn,jle,jm,jdl⟩:=J
 have hq:=jx.q
 obtain ⟨rk1,rk2,rk3,rk4,rk5⟩:=jx.k.row hi
 have hlo:=jx.k.lo
 have hlen:=jx.k.len
 have hbl:i<ba.length:=by omega
 obtain ⟨a1,a2,a3,a4,a5⟩:=jx.k.a i hbl hi
 have hbi:ba.getD i 0=ba[i]:=by rw [List.getD_eq_getElem?_getD,List.getElem?_eq_getElem hbl];rfl
 obtain ⟨bA,hbA⟩:∃ bA,bA=ba.getD i 0:=⟨_,rfl⟩
 rw [← hbi,← hbA] at a1 a2 a3 a5
 have c3:nth (jA G.kinds (wsI ba m)).flatten (i * 6+3)=slI bA m:=by rw [rk5 3 (by omega),hK,← hbA];rfl
 rw [hK] at a4 a5
 have e0:decide ((j:Int)<(m:Int))=true:=decide_eq_true (by omega)
 have ad:∀ s,jK s .i64 (j:Int) 1=.val (.int .i64 ((j:Int)+1)) s:=fun s=>zd s _ _ (by omega)
 have ll:∀ s,jH s (slI bA m)=.val (.int .i64 (m:Int)) s:=fun _=>rfl
 have hix:∀ s,yJ 1 s (slI bA m) (.int .i64 (j:Int))=.val (.ptr bA j) s:=fun s=>by rw [yI _ _ _ _ _ _ _ _ (by omega),Nat.zero_add,Nat.mul_one]
 have okI:∀ t,okA (.val (slI bA m) t)=.val (slI bA m) t:=fun _=>rfl
 have hnth:=intRows_nth K.away hj
 have hbn:bK<t.n:=by omega
 have hbd:bK≠d:=by omega
 simp (disch:=first|omega|with_unfolding_all exact rfl) only [K8l1,K8r14,K8r15,Abs.W,reduceIte,Nat.reduceEqDiff,Nat.reduceAdd,Nat.reduceSub,q3,q8,q9,rk3,c3,ll,okI,e0,hix,a5,hnth,knF,Nat.zero_add,Nat.add_zero]
 generalize hc1:call _ _ _ (.fn 35) _ _=r1
 obtain ⟨x,t1,rfl,st1,d1,x0,x1⟩:=gC hc1 (by omega) jd (by show d<t.n;omega) (by show t.n+200≤far;omega) (by omega) (by omega) (by omega) (by omega)
 have n1:t.n≤t1.n:=st1.n
 have k1:t1.n≤t.n:=st1.le
 have m1:d≤t1.m:=st1.m (by show d≤far;omega)
 have g1:∀ c,c<t.n→c≠d→t1.h.get c=t.h.get c:=fun c hc hcd=>st1.same c hc hcd
 have t1B:=(g1 bK hbn hbd).trans rk3
 obtain ⟨y3,hy3⟩:∃ y3:St,y3=⟨t1.h,t1.n,jt t.m t1.m⟩:=⟨_,rfl⟩
 have y3n:y3.n=t1.n:=by rw [hy3]
 have y3h:y3.h=t1.h:=by rw [hy3]
 have y3m:y3.m=min t.m t1.m:=by rw [hy3];simp only [zP]
 have y3A:y3.h.get bA=some (.cells (zo K.away).flatten (1+tag 3)):=by rw [y3h,g1 bA (by omega) (by omega)];exact a5
 have hrl:j<(zo K.away).flatten.length:=by rw [jy (ZA _),jh];omega
 obtain ⟨Y,hY⟩:∃ Y:St,Y=y3.put bA (.cells (zo (K.away.set j x)).flatten (1+tag 3)):=⟨_,rfl⟩
 have stY:jL 1 y3 (.int .i64 x) (.ptr bA j)=.val .undef Y:=by
  have h:=jf (v:=.int .i64 x) y3A hrl rfl rfl
  rw [intRows_set _ hj] at h
  rw [h,hY]
 have Yn:Y.n=t1.n:=by rw [hY,zW];exact y3n
 have Ym:Y.m=min y3.m bA:=by rw [hY];simp only [St.put,zP]
 have YA:Y.h.get bA=some (.cells (zo (K.away.set j x)).flatten (1+tag 3)):=by rw [hY];exact zO _ _ _ _ rfl (by omega)
 have Yg:∀ c,c≠bA→Y.h.get c=t1.h.get c:=fun c hc=>by rw [hY,zI _ _ _ _ hc,y3h]
 clear hY
 simp (disch:=first|omega|with_unfolding_all exact rfl) only [yP,Abs.W,reduceIte,Nat.reduceEqDiff,Nat.reduceAdd,Nat.reduceSub,Nat.zero_add]
 rw [← hy3]
 simp (disch:=first|omega|with_unfolding_all exact rfl) only [hix,stY,Abs.W,reduceIte,Nat.reduceEqDiff,Nat.reduceAdd,Nat.reduceSub,Nat.zero_add,Nat.add_zero]
 rw [yf (l:=[119]) (s':=t1) (by simp only [yB,yH,zJ,efs,ye,rk3,t1B,yC,reduceIte,Nat.reduceEqDiff,Bool.and_self])]
 rw [ZE _ (vi _)]
 have gY:∀ c,c<t.n→c≠d→c≠bA→Y.h.get c=t.h.get c:=fun c h1 h2 h3=>(Yg c h3).trans (g1 c h1 h2)
 simp (disch:=first|omega|with_unfolding_all exact rfl) only [K8r16,Abs.W,reduceIte,Nat.reduceEqDiff,Nat.reduceAdd,Nat.reduceSub,q9,ad,Nat.zero_add]
 refine ⟨_,Y,x,rfl,⟨d1.keep (Yg d (by omega)),?_,?_,fun c h1 h2=>?_,by omega,by omega,by omega,jdl⟩,⟨x0,by omega⟩,?_,fun c hc=>?_⟩
 ·rw [gY tc jn (by omega) (by omega)];exact j5
 ·refine jx.setK ?_ fun c h1 h2=>gY c (by omega) (by omega) (by omega)
  have hsa:=jx.k.seta (h':=Y.h) (A:=K.away.set j x) hi (by rw [List.length_set];exact a4) (by rw [← hbA];exact YA) fun c h1 h2 h3=>gY c (by omega) (by omega) (by rw [hbA];exact h3)
  rw [hK] at hsa
  exact hsa
 ·exact (gY c (by omega) h2 (by omega)).trans (jo c h1 h2)
 ·simp only [efs,reduceIte,Nat.reduceEqDiff];rfl
 ·have h1:¬ 9=c:=by omega
  have h2:¬ 114=c:=by omega
  simp only [efs,h1,h2,reduceIte]
structure KBet (m:Nat) (k k':KindR):Prop where
 ok:k'.Ok m
 hi:k'.hi≤k.hi
 w:k'.water=k.water
 r:k.rent≤k'.rent
 m:k.most≤k'.most
 a:∀ j (h1:j<k'.away.length) (h2:j<k.away.length),k'.away[j]≤k.away[j]
theorem up_kind (n:Nat) (hn:20≤n) (cx:Ctx) {t0 t:St} {d s0 tc bB q m bK i kk:Nat} {ba:List Nat} {G:HallR} {xW xS xK:AV} {L:Env} {K:KindR} (J:XJ t0 t d s0 tc bB q m bK ba G xW xS xK kk) (hi:i<G.kinds.length) (hK:G.kinds[i]=K) (ok:K.Ok m) (hsm:K.rent≤100∧K.most≤10) (hm2:G.kinds.length≤2∧m≤2) (hs:tc+kk+2000≤far)
  (q3:L.find 3=.ptr d 0) (q5:L.find 5=.ptr tc 0) (q7:L.find 7=.int .i64 (i:Int)) :
  ∃ L1 t1 K',K8l2 (awd n) cx L [] t=.done .norm L1 [] t1∧XJ t0 t1 d s0 tc bB q m bK ba { G with kinds:=G.kinds.set i K' } xW xS xK (kk+30)∧KBet m K K'∧L1.find 3=.ptr d 0∧L1.find 4=L.find 4∧L1.find 5=.ptr tc 0∧L1.find 7=.int .i64 ((i+1:Nat):Int):=by
 have hf:far=1000000000:=rfl
 have j5:=J.g5
 obtain ⟨rk1,rk2,rk3,rk4,rk5⟩:=J.hx.k.row hi
 have e0:decide ((i:Int)<(G.kinds.length:Int))=true:=decide_eq_true (by omega)
 have ad:∀ s,jK s .i64 (i:Int) 1=.val (.int .i64 ((i:Int)+1)) s:=fun s=>zd s _ _ (by omega)
 have ll:∀ s,jH s xK=.val (.int .i64 (G.kinds.length:Int)) s:=fun s=>by rw [rk1];rfl
 have okK:∀ t,okA (.val xK t)=.val xK t:=fun t=>by rw [rk1];rfl
 have hix:∀ s,yJ 6 s xK (.int .i64 (i:Int))=.val (.ptr bK (i * 6)) s:=fun s=>by rw [rk1,yI _ _ _ _ _ _ _ _ hi,Nat.zero_add]
 have l0:=ok.l0
 have l1:=ok.l1
 have l2:=ok.l2
 have r0:=ok.r0
 have m0:=ok.m0
 simp (disch:=first|omega|with_unfolding_all exact rfl) only [K8l2,K8r9,K8r10,Abs.W,reduceIte,Nat.reduceEqDiff,Nat.reduceAdd,Nat.reduceSub,q5,q7,j5,ll,okK,e0,hix,Nat.zero_add]
 obtain ⟨t1,a,b,e1,J1,⟨a0,a1⟩,b0,b1⟩:=up_load n hn cx (L:=Env.set 8 (.ptr bK (i * 6)) (Env.set 50 (.bool true) L)) J hi hK ⟨⟨l0,l1⟩,l2⟩ (by omega) (by simp only [efs,q3,reduceIte,Nat.reduceEqDiff]) (by simp only [efs,reduceIte,Nat.reduceEqDiff])
 rw [kRegionD_def] at e1
 have hi1:i<(G.kinds.set i { K with lo:=a,hi:=b }).length:=by rw [List.length_set];exact hi
 obtain ⟨t2,c,f,e2,J2,⟨c0,c1⟩,f0,f1⟩:=up_rent n hn cx (L:=Env.set 8 (.ptr bK (i * 6)) (Env.set 50 (.bool true) L)) (i:=i) (K:={ K with lo:=a,hi:=b }) J1 hi1 (by show (G.kinds.set i { K with lo:=a,hi:=b })[i]=_;rw [List.getElem_set,if_pos rfl]) ⟨⟨by show 0≤K.rent;omega,by show K.rent≤1000;omega⟩,by show 0≤K.most;omega,by show K.most≤1000;omega⟩ (by omega) (by simp only [efs,q3,reduceIte,Nat.reduceEqDiff]) (by simp only [efs,reduceIte,Nat.reduceEqDiff])
 have hset:∀ x y:KindR,({ ({ G with kinds:=G.kinds.set i x }:HallR) with kinds:=({ G with kinds:=G.kinds.set i x }:HallR).kinds.set i y }:HallR)={ G with kinds:=G.kinds.set i y }:=fun x y=>by
  show ({ G with kinds:=(G.kinds.set i x).set i y }:HallR)=_
  rw [List.set_set]
 rw [hset] at J2
 rw [e1,vN,gO,e2,vN]
 obtain ⟨K2,hK2⟩:∃ K2:KindR,K2={ K with lo:=a,hi:=b,rent:=K.rent+c,most:=K.most+f }:=⟨_,rfl⟩
 have J2':XJ t0 t2 d s0 tc bB q m bK ba { G with kinds:=G.kinds.set i K2 } xW xS xK (kk+5+5):=by rw [hK2];exact J2
 have hK2a:K2.away=K.away:=by rw [hK2]
 simp (disch:=first|omega|with_unfolding_all exact rfl) only [K8r13,Abs.W,reduceIte,Nat.reduceEqDiff,Nat.reduceAdd,Nat.reduceSub,Nat.zero_add]
 generalize hlp:jR _ rounds _ _ _ _ _=rl
 have al:=ok.al
 obtain ⟨e,L1,t3,rfl,rfl,A,hA,hAx,J3,hc⟩:=jj hlp
  (fun j L' t=>∃ A:List Int,A.length=m∧(∀ p (h1:p<A.length) (h2:p<K.away.length),0≤A[p]∧A[p]≤K.away[p])∧XJ t0 t d s0 tc bB q m bK ba { G with kinds:=G.kinds.set i { K2 with away:=A } } xW xS xK (kk+10+5 * j)∧L'.find 9=.int .i64 (j:Int)∧L'.find 8=.ptr bK (i * 6)∧∀ c,c<8→L'.find c=L.find c)
  (fun e L' t=>e=.exit 4∧∃ A:List Int,A.length=m∧(∀ p (h1:p<A.length) (h2:p<K.away.length),0≤A[p]∧A[p]≤K.away[p])∧XJ t0 t d s0 tc bB q m bK ba { G with kinds:=G.kinds.set i { K2 with away:=A } } xW xS xK (kk+20)∧∀ c,c<8→L'.find c=L.find c) m (by unfold rounds;omega)
  ⟨K.away,al,fun p h1 h2=>⟨(ok.a _ (List.getElem_mem h1)).1,Int.le_refl _⟩,by
   have:({ K2 with away:=K.away }:KindR)=K2:=by rw [← hK2a]
   rw [this];exact J2',by simp only [efs,reduceIte,Nat.reduceEqDiff];rfl,(by simp only [efs,reduceIte,Nat.reduceEqDiff]),fun c hc=>by
   have h1:¬ 8=c:=by omega
   have h2:¬ 9=c:=by omega
   have h3:¬ 50=c:=by omega
   simp only [efs,h1,h2,h3,reduceIte]⟩
  (fun j L' t hj ⟨A,hA,hAx,J3,q9,q8,qc⟩=>by
   have g5:=J3.g5
   have hi3:i<(G.kinds.set i { K2 with away:=A }).length:=by rw [List.length_set];exact hi
   have hK3:(G.kinds.set i { K2 with away:=A })[i]={ K2 with away:=A }:=by rw [List.getElem_set,if_pos rfl]
   have q3':=(qc 3 (by omega)).trans q3
   by_cases hlt:j<m
   ·have hb:=hAx j (by omega) (by omega)
    have h9:=(ok.a K.away[j] (List.getElem_mem _)).2
    obtain ⟨L2,t4,x,r1,r2,r3,r4,r5⟩:=up_away n hn cx (j:=j) (K:={ K2 with away:=A }) J3 hi3 hK3 (by show j<A.length;omega) (by omega) ⟨hb.1,by show A[j]≤9;omega⟩ (by omega) q3' q8 q9
    refine .inl ⟨hlt,L2,t4,r1,A.set j x,by rw [List.length_set];exact hA,fun p h1 h2=>?_,?_,r4,(r5 8 (by omega)).trans q8,fun c hc=>(r5 c (by omega)).trans (qc c hc)⟩
    ·rw [List.getElem_set]
     split
     ·rename_i e;subst e
      exact ⟨r3.1,Int.le_trans r3.2 hb.2⟩
     ·exact hAx p (by rw [List.length_set] at h1;exact h1) h2
    ·rw [hset] at r2
     exact r2
   ·obtain rfl:j=m:=by omega
    obtain ⟨s1,s2,s3,s4,s5⟩:=J3.hx.k.row hi3
    have c3:nth (jA (G.kinds.set i { K2 with away:=A }) (wsI ba j)).flatten (i * 6+3)=slI (ba.getD i 0) j:=by rw [s5 3 (by omega)];rfl
    have e0:decide ((j:Int)<(j:Int))=false:=decide_eq_false (by omega)
    have ll:∀ s,jH s (slI (ba.getD i 0) j)=.val (.int .i64 (j:Int)) s:=fun _=>rfl
    have okI:∀ t,okA (.val (slI (ba.getD i 0) j) t)=.val (slI (ba.getD i 0) j) t:=fun _=>rfl
    refine .inr ⟨.exit 4,L'.set 114 (.bool false),t,by simp,?_,rfl,A,hA,hAx,?_,fun c hc=>?_⟩
    ·simp (disch:=first|omega|with_unfolding_all exact rfl) only [K8l1,K8r14,Abs.W,reduceIte,Nat.reduceEqDiff,Nat.reduceAdd,Nat.reduceSub,q8,q9,s3,c3,ll,okI,e0,Nat.zero_add,Nat.add_zero]
    ·obtain ⟨x1,x2,x3,x4,x5,x6,x7,x8⟩:=J3
     exact ⟨x1,x2,x3,x4,x5,by omega,x7,x8⟩
    ·have h1:¬ 114=c:=by omega
     simp only [efs,h1,reduceIte]
     exact qc c hc)
 simp (disch:=first|omega|with_unfolding_all exact rfl) only [K8r17,Abs.W,reduceIte,Nat.reduceEqDiff,Nat.reduceAdd,Nat.reduceSub,hc,q7,ad,Nat.zero_add]
 refine ⟨_,t3,{ K2 with away:=A },rfl,?_,⟨⟨?_,?_,?_,hA,fun x hx=>?_,?_,?_,?_,?_⟩,?_,?_,?_,?_,fun j h1 h2=>(hAx j h1 h2).2⟩,?_,?_,?_,?_⟩
 ·obtain ⟨x1,x2,x3,x4,x5,x6,x7,x8⟩:=J3
  exact ⟨x1,x2,x3,x4,x5,by omega,x7,x8⟩
 ·rw [hK2];exact a0
 ·rw [hK2];show a≤b;omega
 ·rw [hK2];show b≤1000000;omega
 ·obtain ⟨p,hp,rfl⟩:=List.getElem_of_mem hx
  have hp':p<A.length:=hp
  have h1:=hAx p hp' (by omega)
  have h2:=(ok.a (K.away[p]'(by omega)) (List.getElem_mem _)).2
  exact ⟨h1.1,by show A[p]≤9;omega⟩
 ·rw [hK2];show 0≤K.rent+c;omega
 ·rw [hK2];show K.rent+c≤1000000;omega
 ·rw [hK2];show 0≤K.most+f;omega
 ·rw [hK2];show K.most+f≤24;omega
 ·rw [hK2];exact b1
 ·rw [hK2]
 ·rw [hK2];show K.rent≤K.rent+c;omega
 ·rw [hK2];show K.most≤K.most+f;omega
 ·simp only [efs,reduceIte,Nat.reduceEqDiff];exact (hc 3 (by omega)).trans q3
 ·simp only [efs,reduceIte,Nat.reduceEqDiff];exact hc 4 (by omega)
 ·simp only [efs,reduceIte,Nat.reduceEqDiff];exact (hc 5 (by omega)).trans q5
 ·simp only [efs,reduceIte,Nat.reduceEqDiff];rfl
end Go.Proofs.Ytoklbkgcclkejaa.walk
set_option maxRecDepth 10000
namespace Go.Proofs.Ytoklbkgcclkejaa.walk
open Go.Abs Go.Proofs.Ytoklbkgcclkejaa.code
def Desc (vs:List (Nat × Nat)):Prop:=vs.Pairwise fun a b=>b.1<a.1
theorem wA (v w k:Nat) (r:List (Nat × Nat)):wt v ((w,k)::r)=if v=w then some (k,(w,k)::r) else wt v r:=by
 show (match Nat.beq v w with | true=>some (k,(w,k)::r) | false=>wt v r)=_
 by_cases h:v=w
 ·subst h;rw [Nat.beq_refl,if_pos rfl]
 ·rw [vb h,if_neg h]
theorem verAt_cons (v w k:Nat) (r:List (Nat × Nat)):verAt v ((w,k)::r)=if v=w then some k else verAt v r:=by
 show (match Nat.beq v w with | true=>some k | false=>verAt v r)=_
 by_cases h:v=w
 ·subst h;rw [Nat.beq_refl,if_pos rfl]
 ·rw [vb h,if_neg h]
theorem drop_ver:∀ {vs:List (Nat × Nat)} {v k:Nat} {t:List (Nat × Nat)},wt v vs=some (k,t)→verAt v vs=some k
 | [],_,_,_,h=>by cases h
 | (w,j)::r,v,k,t,h=>by
  rw [wA] at h
  rw [verAt_cons]
  by_cases e:v=w
  ·rw [if_pos e] at h ⊢
   injection h with h
   injection h with h1 h2
   rw [h1]
  ·rw [if_neg e] at h ⊢
   exact drop_ver h
theorem drop_suf:∀ {vs:List (Nat × Nat)} {v k:Nat} {t:List (Nat × Nat)},wt v vs=some (k,t)→∃ p,vs=p++t
 | [],_,_,_,h=>by cases h
 | (w,j)::r,v,k,t,h=>by
  rw [wA] at h
  by_cases e:v=w
  ·rw [if_pos e] at h
   injection h with h
   injection h with h1 h2
   exact ⟨[],h2⟩
  ·rw [if_neg e] at h
   obtain ⟨p,hp⟩:=drop_suf h
   exact ⟨(w,j)::p,by rw [hp];rfl⟩
theorem drop_next:∀ {vs:List (Nat × Nat)} {a k b j:Nat} {rest:List (Nat × Nat)},Desc vs→wt a vs=some (k,(a,k)::(b,j)::rest)→wt b vs=some (j,(b,j)::rest)
 | [],_,_,_,_,_,_,h=>by cases h
 | (w,i)::r,a,k,b,j,rest,hd,h=>by
  obtain ⟨hw,hr⟩:=List.pairwise_cons.mp hd
  rw [wA] at h ⊢
  by_cases e:a=w
  ·rw [if_pos e] at h
   injection h with h
   injection h with h1 h2
   injection h2 with h2 h3
   subst h3
   have hb:b<w:=hw (b,j) (List.mem_cons_self ..)
   rw [if_neg (by omega),wA,if_pos rfl]
  ·rw [if_neg e] at h
   obtain ⟨p,hp⟩:=drop_suf h
   have hb:b<w:=hw (b,j) (by rw [hp];simp)
   rw [if_neg (by omega)]
   exact drop_next hr h
theorem Zj (k x j:Nat) (r:List (Nat × Nat)):leAll k ((x,j)::r)=true↔j≤k∧leAll k r=true:=by
 show (match Nat.ble j k with | true=>leAll k r | false=>false)=true↔_
 cases h:Nat.ble j k with
 | true=>exact ⟨fun e=>⟨Nat.le_of_ble_eq_true h,e⟩,fun e=>e.2⟩
 | false=>exact ⟨fun e=>(by cases e),fun e=>by rw [Nat.ble_eq_true_of_le e.1] at h;cases h⟩
theorem leAll_mono:∀ {r:List (Nat × Nat)} {k k':Nat},k≤k'→leAll k r=true→leAll k' r=true
 | [],_,_,_,_=>rfl
 | (x,j)::r,k,k',hk,h=>by
  obtain ⟨h1,h2⟩:=(Zj k x j r).mp h
  exact (Zj k' x j r).mpr ⟨by omega,leAll_mono hk h2⟩
def vA (l:List PutR):List AV:=(l.map PutR.row).flatten
theorem gJ (l:List PutR):(vA l).length=l.length * 3:=by
 unfold vA
 rw [jy (w:=3) (fun r hr=>by obtain ⟨p,_,rfl⟩:=List.mem_map.mp hr;rfl),List.length_map]
theorem putRows_app (l:List PutR) (P:PutR):vA (l++[P])=vA l++P.row:=by unfold vA;rw [List.map_append,List.flatten_append];simp
def FamAt (h:Heap) (n lo:Nat) (v:AV) (rest:List (Nat × Nat)) (l:List PutR):Prop :=
 (l=[]∧v=.nilslice∧rest=[]) ∨
 (∃ P b,l=[P]∧rest=[]∧lo≤b∧b<n∧v=.slice b 0 1 1 true∧(h.get b=some (.cells P.row (3+tag 51))∨∃ c vs,h.get b=some (.fam c 3 3 vs)∧c.take 3=P.row)) ∨
 (2≤l.length∧∃ b ver c vs,lo≤b∧b<n∧v=.vs b ver l.length∧h.get b=some (.fam c 3 3 vs)∧wt ver vs=some (l.length * 3,(ver,l.length * 3)::rest)∧c.take (l.length * 3)=vA l∧leAll (l.length * 3) ((b,3)::(ver,l.length * 3)::rest)=true∧Desc vs∧∀ x ∈ vs,x.1<n)
theorem FamAt.block {h:Heap} {n lo:Nat} {v:AV} {rest:List (Nat × Nat)} {l:List PutR} (r:FamAt h n lo v rest l):∀ b,jJ v=some b→lo≤b∧b<n:=fun b hb=>by
 rcases r with ⟨_,h1,_⟩ | ⟨_,b',_,_,h1,h2,h3,_⟩ | ⟨_,b',_,_,_,h1,h2,h3,_⟩
 ·rw [h1] at hb;cases hb
 ·rw [h3] at hb
  have hb:some b'=some b:=hb
  injection hb with hb
  omega
 ·rw [h3] at hb
  have hb:some b'=some b:=hb
  injection hb with hb
  omega
theorem FamAt.grow {h h':Heap} {n n' lo:Nat} {v:AV} {rest:List (Nat × Nat)} {l:List PutR} (r:FamAt h n lo v rest l) (hh:∀ b,b<n→jJ v=some b→h'.get b=h.get b) (hn:n≤n'):FamAt h' n' lo v rest l:=by
 rcases r with r | ⟨P,b,h1,h2,h3,h4,h5,h6⟩ | ⟨h0,b,ver,c,vs,h1,h2,h3,h4,h5,h6,h7,h8,h9⟩
 ·exact .inl r
 ·exact .inr (.inl ⟨P,b,h1,h2,h3,by omega,h5,by rw [hh b h4 (by rw [h5];rfl)];exact h6⟩)
 ·exact .inr (.inr ⟨h0,b,ver,c,vs,h1,by omega,h3,by rw [hh b h2 (by rw [h3];rfl)];exact h4,h5,h6,h7,h8,fun x hx=>Nat.lt_of_lt_of_le (h9 x hx) hn⟩)
theorem FamAt.puts {no:Nat→Prop} {h:Heap} {n lo:Nat} {v:AV} {rest:List (Nat × Nat)} {l:List PutR} (r:FamAt h n lo v rest l) (hno:∀ b,lo≤b→b<n→no b):Puts no h n l v:=by
 rcases r with ⟨h1,h2,_⟩ | ⟨P,b,h1,h2,h3,h4,h5,h6⟩ | ⟨h0,b,ver,c,vs,h1,h2,h3,h4,h5,h6,h7,h8,h9⟩
 ·subst h1;subst h2
  exact ⟨fun _=>rfl,fun _=>rfl,fun hi=>by simp at hi⟩
 ·subst h1;subst h5
  refine ⟨fun _=>rfl,fun _=>rfl,fun {i} hi=>?_⟩
  obtain rfl:i=0:=by simp at hi;exact hi
  refine ⟨.ptr b 0,fun s=>?_,fun s' hs=>?_⟩
  ·rw [yI _ _ _ _ _ _ _ _ (by omega)]
  ·rw [gM,hs b h4 (hno b h3 h4)]
   rcases h6 with h6 | ⟨c,vs,h6,h7⟩
   ·rw [h6];rfl
   ·rw [h6]
    show ARes.val (yV (some 3) (c.take 3) 0) s'=_
    rw [h7];rfl
 ·subst h3
  refine ⟨fun _=>rfl,fun _=>rfl,fun {i} hi=>⟨.vp b ver (i * 3),fun s=>?_,fun s' hs=>?_⟩⟩
  ·show (Bool.casesOn (motive:=fun _=>ARes) (Nat.ble (Nat.succ i) l.length) ARes.fail (.val (.vp b ver (Nat.mul i 3)) s))=_
   rw [Nat.ble_eq_true_of_le hi];rfl
  ·show loadV (some 3) s' b ver (i * 3)=_
   unfold loadV gH
   rw [hs b h2 (hno b h1 h2),h4]
   simp only [drop_ver h5,h6]
   rw [vu]
   unfold vA
   rw [vL (w:=3) (fun r hr=>by obtain ⟨p,_,rfl⟩:=List.mem_map.mp hr;rfl) (by rw [List.length_map];exact hi),List.getElem_map]
   rfl
end Go.Proofs.Ytoklbkgcclkejaa.walk
set_option maxRecDepth 10000
namespace Go.Proofs.Ytoklbkgcclkejaa.walk
open Go.Abs Go.Proofs.Ytoklbkgcclkejaa.code
theorem fam_append {s:St} {lo p sz:Nat} {v:AV} {rest:List (Nat × Nat)} {l:List PutR} {P:PutR} (r:FamAt s.h s.n lo v rest l) (hl:l.length≤30) (hp:s.h.get p=some (.cells P.row sz)) (hlo:lo≤s.n) (hs:s.n<549755813888) :
  ∃ v' s' rest',jZ true 3 24 (tag 51) s v (.slice p 0 1 1 false)=.val v' s'∧FamAt s'.h s'.n lo v' rest' (l++[P])∧s'.n=s.n+1∧(∀ c,c<s.n→jJ v≠some c→s'.h.get c=s.h.get c)∧(∀ k,k≤lo→k≤s.m→k≤s'.m)∧s'.m≤s.m∧(∀ b,jJ v'=some b→jJ v=some b∨b=s.n)∧(∀ b,jJ v=some b→jJ v'=some b)∧∀ h'' n'',FamAt h'' n'' lo v' rest' (l++[P])→FamAt h'' n'' lo v rest l:=by
 have hP3:P.row.length=3:=rfl
 have e1:Ja 3 1 s (.slice p 0 1 1 false)=some P.row:=by
  show (match s.h.get p with | some (.cells c _)=>cut 0 3 c | some (.fam c _ k _)=>cut 0 3 (c.take k) | _=>none)=_
  rw [hp];rfl
 have e2:jZ true 3 24 (tag 51) s v (.slice p 0 1 1 false)=growF 3 24 (tag 51) 1 P.row s v:=by
  show (match Ja 3 1 s (.slice p 0 1 1 false) with | none=>ARes.fail | some new=>match Nat.beq new.length (1 * 3) with | false=>.fail | true=>match scalars new with | true=>growF 3 24 (tag 51) 1 new s v | false=>.fail)=_
  rw [e1];rfl
 rw [e2]
 have r0:=r
 rcases r with ⟨h1,h2,h3⟩ | ⟨Q,b,h1,h2,h3,h4,h5,h6⟩ | ⟨h0,b,ver,c,vs,h1,h2,h3,h4,h5,h6,h7,h8,h9⟩
 ·subst h1;subst h2;subst h3
  refine ⟨.slice s.n 0 1 1 true,s.new (.cells P.row (3+tag 51)),[],rfl,.inr (.inl ⟨P,s.n,rfl,rfl,hlo,Nat.lt_succ_self _,rfl,.inl (zM _ _ _ rfl hs)⟩),rfl,fun c hc _=>zG _ _ _ (by omega),fun _ _ h=>h,Nat.le_refl _,fun b hb=>?_,fun b hb=>(by cases hb),fun _ _ _=>.inl ⟨rfl,rfl,rfl⟩⟩
  have:some s.n=some b:=hb
  injection this with this
  exact .inr this.symm
 ·subst h1;subst h2;subst h5
  have hg:(s.put b (.fam (Q.row++P.row) 3 3 [(s.n,6)])).bump.h.get b=some (.fam (Q.row++P.row) 3 3 [(s.n,6)]):=zO _ _ _ _ rfl (by omega)
  refine ⟨.vs b s.n 2,(s.put b (.fam (Q.row++P.row) 3 3 [(s.n,6)])).bump,[],?_,.inr (.inr ⟨Nat.le_refl 2,b,s.n,_,_,h3,Nat.lt_succ_of_lt h4,rfl,hg,?_,rfl,rfl,List.pairwise_singleton _ _,fun x hx=>?_⟩),rfl,fun c hc hcb=>zI _ _ _ _ (fun h=>hcb (by rw [h];rfl)),fun k hk hm=>?_,?_,fun c hc=>.inl hc,fun c hc=>hc,fun h'' n'' f=>?_⟩
  ·show (match s.h.get b with
    | some (.cells c sz)=>if c.length=1 * 3∧vG sz=3 then famA 3 b c.length c.length 1 1 c P.row [] s else .fail
    | some (.fam c sz k _)=>if sz=3 then famA 3 b k k 1 1 c P.row [] s else .fail
    | _=>.fail)=_
   rcases h6 with h6 | ⟨c,vs,h6,h7⟩
   ·rw [h6];rfl
   ·rw [h6]
    have hcl:3≤c.length:=by
     have:=congrArg List.length h7
     rw [List.length_take] at this
     have h8:Q.row.length=3:=rfl
     omega
    show famA 3 b 3 3 1 1 c P.row [] s=_
    unfold famA
    rw [if_pos ⟨rfl,hcl,Nat.one_pos,rfl⟩,h7];rfl
  ·rw [wA,if_pos rfl];rfl
  ·rw [List.mem_singleton.mp hx];exact Nat.lt_succ_self _
  ·show k≤jt s.m b
   rw [zP];omega
  ·show jt s.m b≤s.m
   rw [zP];omega
  ·rcases f with ⟨f1,_⟩ | ⟨_,_,f1,_⟩ | ⟨_,b',ver',c',vs',f1,f2,f3,f4,f5,f6,_⟩
   ·cases f1
   ·cases f1
   ·injection f3 with g1 g2 g3
    subst g1
    refine .inr (.inl ⟨Q,b,rfl,rfl,f1,f2,rfl,.inr ⟨c',vs',f4,?_⟩⟩)
    have h:=congrArg (List.take 3) f6
    rw [List.take_take] at h
    exact h
 ·subst h3
  have hcl:l.length * 3≤c.length:=by
   have:=congrArg List.length h6
   rw [List.length_take,gJ] at this
   omega
  obtain ⟨pre,hpre⟩:=drop_suf h5
  have hd:Desc ((ver,l.length * 3)::rest):=by
   have:=h8
   rw [hpre] at this
   exact (List.pairwise_append.mp this).2.1
  have hlt:∀ x ∈ (ver,l.length * 3)::rest,x.1<s.n:=fun x hx=>h9 x (by rw [hpre];exact List.mem_append_right _ hx)
  have hla:(l++[P]).length=l.length+1:=by rw [List.length_append,List.length_singleton]
  obtain ⟨o,ho⟩:∃ o:AObj,o=.fam (c.take (l.length * 3)++P.row) 3 3 ((s.n,l.length * 3+3)::(ver,l.length * 3)::rest):=⟨_,rfl⟩
  have hg:(s.put b o).bump.h.get b=some o:=zO _ _ _ _ rfl (by omega)
  refine ⟨.vs b s.n (l.length+1),(s.put b o).bump,(ver,l.length * 3)::rest,?_,.inr (.inr ⟨by omega,b,s.n,_,_,h1,Nat.lt_succ_of_lt h2,by rw [hla],by rw [hg,ho],?_,?_,?_,?_,fun x hx=>?_⟩),rfl,fun c hc hcb=>zI _ _ _ _ (fun h=>hcb (by rw [h];rfl)),fun k hk hm=>?_,?_,fun c hc=>.inl hc,fun c hc=>hc,fun h'' n'' f=>?_⟩
  ·show (match Nat.ble ((l.length+1) * 24) limit with
    | true=>match s.h.get b with
     | some (.fam c sz k0 vs)=>match wt ver vs with
      | some (k,rest)=>if sz=3 then famA 3 b k0 k l.length 1 c P.row rest s else .fail
      | none=>.fail
     | _=>.fail
    | false=>.fail)=_
   rw [Nat.ble_eq_true_of_le (show (l.length+1) * 24≤limit by unfold limit;omega),h4]
   simp only [h5,if_true]
   unfold famA
   rw [if_pos ⟨rfl,hcl,Nat.one_pos,h7⟩,ho];rfl
  ·rw [wA,if_pos rfl,hla,Nat.succ_mul]
  ·rw [hla,Nat.succ_mul,putRows_app,h6,List.take_of_length_le (by rw [List.length_append,gJ];exact Nat.le_refl _)]
  ·rw [hla,Nat.succ_mul]
   obtain ⟨q1,q2⟩:=(Zj _ _ _ _).mp h7
   exact (Zj _ _ _ _).mpr ⟨by omega,(Zj _ _ _ _).mpr ⟨Nat.le_refl _,leAll_mono (Nat.le_add_right _ _) q2⟩⟩
  ·exact List.pairwise_cons.mpr ⟨fun x hx=>hlt x hx,hd⟩
  ·rcases List.mem_cons.mp hx with e | hx
   ·rw [e];exact Nat.lt_succ_self _
   ·exact Nat.lt_succ_of_lt (hlt x hx)
  ·show k≤jt s.m b
   rw [zP];omega
  ·show jt s.m b≤s.m
   rw [zP];omega
  ·rcases f with ⟨f1,_⟩ | ⟨_,_,f1,_⟩ | ⟨_,b',ver',c',vs',f1,f2,f3,f4,f5,f6,f7,f8,f9⟩
   ·simp at f1
   ·have:=congrArg List.length f1
    rw [hla,List.length_singleton] at this
    omega
   ·injection f3 with g1 g2 g3
    subst g1;subst g2
    rw [hla] at f5 f6
    refine .inr (.inr ⟨h0,b,ver,c',vs',f1,f2,rfl,f4,drop_next f8 f5,?_,h7,f8,f9⟩)
    have h:=congrArg (List.take (l.length * 3)) f6
    rw [List.take_take,Nat.min_eq_left (by omega),putRows_app,List.take_left' (gJ l)] at h
    exact h
end Go.Proofs.Ytoklbkgcclkejaa.walk
set_option maxRecDepth 10000
namespace Go.Proofs.Ytoklbkgcclkejaa.walk
open Go.Abs Go.Proofs.Ytoklbkgcclkejaa.code
theorem fam_first {s:St} {n lo:Nat} {v:AV} {rest:List (Nat × Nat)} {l:List PutR} (r:FamAt s.h n lo v rest l):Ja 3 l.length s v=some (vA l)∧lenA v=some l.length∧(l≠[]→∀ s,eqlA .nilS false s v .nilslice=.val (.bool false) s):=by
 rcases r with ⟨h1,h2,h3⟩ | ⟨Q,b,h1,h2,h3,h4,h5,h6⟩ | ⟨h0,b,ver,c,vs,h1,h2,h3,h4,h5,h6,h7,h8,h9⟩
 ·subst h1;subst h2
  exact ⟨rfl,rfl,fun h=>absurd rfl h⟩
 ·subst h1;subst h5
  refine ⟨?_,rfl,fun _ s=>by simp [eqlA,Cmp.eq]⟩
  show (match s.h.get b with | some (.cells c _)=>cut 0 3 c | some (.fam c _ k _)=>cut 0 3 (c.take k) | _=>none)=_
  rcases h6 with h6 | ⟨c,vs,h6,h7⟩
  ·rw [h6];rfl
  ·rw [h6]
   show cut 0 3 (c.take 3)=_
   rw [h7];rfl
 ·subst h3
  refine ⟨?_,rfl,fun _ s=>by simp [eqlA,Cmp.eq]⟩
  show (match (match s.h.get b with | some (.fam c _ _ vs)=>(match verAt ver vs with | some k=>some (c.take k) | none=>none) | _=>none) with | some c=>cut 0 (l.length * 3) c | none=>none)=_
  rw [h4]
  simp only [drop_ver h5,h6]
  rw [yS,← gJ,vQ]
theorem cloneP_ex {N:Nat} {s:St} {r:ARes} {v:AV} {lo:Nat} {rest:List (Nat × Nat)} (l:List PutR) (hr:call Try.prog X N (.fn 84) [v] s=r) (hN:1≤N) (hp:FamAt s.h s.n lo v rest l) (h0:l≠[]) (hk:l.length≤30) (hs:s.n+100≤far) :
  ∃ bc t,r=.val (.slice bc 0 l.length l.length true) t∧New s t 2∧s.n≤bc∧bc<t.n∧t.h.get bc=some (.cells (vA l) (3+tag 51)):=by
 obtain ⟨n,rfl⟩:∃ n,N=n+1:=⟨N - 1,by omega⟩
 have hf:far=1000000000:=rfl
 obtain ⟨w,t,e,st,bc,rfl,hq⟩:=wT (n:=n) (args:=[v]) (s:=s) (k:=2) (Q:=fun w h m=>∃ bc,w=.slice bc 0 l.length l.length true∧s.n≤bc∧bc<m∧h.get bc=some (.cells (vA l) (3+tag 51))) Try.func84 rfl (fun u uh un um=>by
  rw [← uh,← un] at hp
  rw [← un] at hs ⊢
  rw [enter84]
  have kv:=(hp.puts (no:=fun _=>True) fun _ _ _=>trivial).okA
  have hnil:=(fam_first hp).2.2 h0
  obtain ⟨w,hw⟩:∃ w:St,w=u.new (.cells [] 0):=⟨_,rfl⟩
  have wn:w.n=u.n+1:=by rw [hw];rfl
  have hlen:=gJ l
  have happ:jZ false 3 24 (tag 51) w (.slice u.n 0 0 0 false) v=.val (.slice w.n 0 l.length l.length true) (w.new (.cells (vA l) (3+tag 51))):=by
   have hpw:FamAt w.h w.n lo v rest l:=hp.grow (fun b hb hv=>by rw [hw,zG _ _ _ (by omega)]) (by omega)
   obtain ⟨e1,p2,_⟩:=fam_first hpw
   have e2:Nat.beq (vA l).length (l.length * 3)=true:=by rw [hlen];exact Nat.beq_refl _
   have e3:scalars (vA l)=true:=gW (put_scal l)
   unfold jZ
   simp only [p2,e1,e2,e3]
   have g0:w.h.get u.n=some (.cells [] 0):=by rw [hw];exact zM _ _ _ rfl (by omega)
   unfold gg
   have e4:Nat.ble l.length 0=false:=by
    cases h:Nat.ble l.length 0 with
    | false=>rfl
    | true =>
     have:=Nat.le_of_ble_eq_true h
     exact absurd (List.length_eq_zero_iff.mp (Nat.le_zero.mp this)) h0
   have e5:Nat.ble (l.length * 24) limit=true:=Nat.ble_eq_true_of_le (by show l.length * 24≤limit;unfold limit;omega)
   have e6:cut 0 0 ([]:List AV)=some []:=rfl
   simp only [g0,Nat.zero_add,Nat.zero_mul,e4,e5,e6,List.nil_append]
  simp (disch:=first|omega|with_unfolding_all exact rfl) only [res84,K84r0,K84r1,K84r2,K84r3,K84,Abs.W,reduceIte,Nat.reduceEqDiff,Nat.reduceAdd,Nat.reduceSub,kEqlE,hnil,kv,Bool.false_eq_true]
  rw [← hw]
  have okR:∀ x t,okA (.val (.slice x 0 l.length l.length true) t)=.val (.slice x 0 l.length l.length true) t:=fun _ _=>rfl
  simp (disch:=first|omega|with_unfolding_all exact rfl) only [Abs.W,reduceIte,Nat.reduceEqDiff,Nat.reduceAdd,Nat.reduceSub,happ,okR]
  exact ⟨_,_,rfl,⟨fun c hc=>by rw [zG _ _ _ (by omega),hw,zG _ _ _ (by omega)],by simp only [zT];omega,by simp only [zT];omega,by rw [zN,hw,zN];omega,by rw [zN,hw,zN];omega⟩,rfl,_,rfl,by omega,by simp only [zT];omega,zM _ _ _ rfl (by omega)⟩)
 exact ⟨bc,t,hr.symm.trans e,st,hq⟩
end Go.Proofs.Ytoklbkgcclkejaa.walk
set_option maxRecDepth 10000
namespace Go.Proofs.Ytoklbkgcclkejaa.walk
open Go.Abs Go.Proofs.Ytoklbkgcclkejaa.code
structure SFix (h0:Heap) (lo pt pc ph ps po pf hb p rb:Nat) (sc:List AV) (H:HallR) (vW vS vB vK vo:AV) (O:List (Int × Int)):Prop where
 bh:h0.get ph=some (.cells [.slice hb 0 (O.length+1) (O.length+1) false] (tag 117))
 bb:h0.get hb=some (.cells (H.hopeRows O 0).flatten 0)
 bs:h0.get ps=some (.cells [.ptr p 0] (tag 78))
 bo:h0.get po=some (.cells [vo] (tag 25))
 bf:∃ sz,h0.get pf=some (.cells [.func 82 [] [.ptr pt 0,.ptr pc 0,.ptr ph 0,.ptr ps 0,.ptr po 0,.ptr pf 0]] sz)
 c:SiteC sc H vW vS vB vK rb
 g:h0.get p=some (vX sc)
 gr:h0.get rb=some (.cells (ZZ p) 0)
 hH:HallAt (fun b=>b≠pt∧b≠pc) h0 lo H vW vS vB vK
 hO:Sl (fun b=>b≠pt∧b≠pc) h0 lo 2 (O.map jE) vo
 lt:(ph<lo∧ps<lo∧po<lo∧pf<lo∧hb<lo∧p<lo∧rb<lo)∧pt<lo∧pc<lo
 ne:(ph≠pt∧ps≠pt∧po≠pt∧pf≠pt∧hb≠pt∧p≠pt∧rb≠pt)∧(ph≠pc∧ps≠pc∧po≠pc∧pf≠pc∧hb≠pc∧p≠pc∧rb≠pc)∧pt≠pc
 oin:∀ c ∈ O,H.In c
 o8:O.length≤6
 k2:H.kinds.length≤2
def ChosenAt (h:Heap) (n lo:Nat) (v vc:AV) (C:List PutR):Prop :=
 (C=[]∧vc=.nilslice)∨∃ bc,lo≤bc∧bc<n∧vc=.slice bc 0 C.length C.length true∧C≠[]∧jJ v≠some bc∧h.get bc=some (.cells (vA C) (3+tag 51))
theorem ChosenAt.grow {h h':Heap} {n n' lo:Nat} {v v' vc:AV} {C:List PutR} (r:ChosenAt h n lo v vc C) (hh:∀ b,lo≤b→b<n→jJ v≠some b→h'.get b=h.get b∧jJ v'≠some b) (hn:n≤n'):ChosenAt h' n' lo v' vc C:=by
 rcases r with r | ⟨bc,h1,h2,h3,h4,h5,h6⟩
 ·exact .inl r
 ·obtain ⟨q1,q2⟩:=hh bc h1 h2 h5
  exact .inr ⟨bc,h1,by omega,h3,h4,q2,q1.trans h6⟩
structure SNow (h0 h:Heap) (n lo pt pc:Nat) (v:AV) (rest:List (Nat × Nat)) (l:List PutR) (T:(Int × Int) × List PutR):Prop where
 same:∀ b,b<lo→b≠pt→b≠pc→h.get b=h0.get b
 top:h.get pt=some (.cells [.int .i64 T.1.1,.int .i64 T.1.2] (tag 120))
 cho:∃ vc,h.get pc=some (.cells [vc] (tag 32))∧ChosenAt h n lo v vc T.2
 fam:FamAt h n lo v rest l
 lo:lo≤n
def wide:Nat→Nat
 | 0=>20
 | m+1=>3 * (30+wide m)+30
structure SPost (h0:Heap) (s t:St) (lo pt pc:Nat) (v:AV) (rest:List (Nat × Nat)) (l:List PutR) (T T':(Int × Int) × List PutR) (k:Nat):Prop where
 now:SNow h0 t.h t.n lo pt pc v rest l T'
 old:∀ b,b<s.n→b≠pt→b≠pc→jJ v≠some b→t.h.get b=s.h.get b
 n:s.n≤t.n
 le:t.n≤s.n+k
 m:∀ k,k≤pt→k≤pc→k≤s.m→k≤t.m
 mle:t.m≤s.m
 or:t.m≤pt∨T'=T
theorem SPost.refl {h0:Heap} {s:St} {lo pt pc:Nat} {v:AV} {rest:List (Nat × Nat)} {l:List PutR} {T:(Int × Int) × List PutR} (a:SNow h0 s.h s.n lo pt pc v rest l T):SPost h0 s s lo pt pc v rest l T T 0 :=
 ⟨a,fun _ _ _ _ _=>rfl,Nat.le_refl _,Nat.le_refl _,fun _ _ _ h=>h,Nat.le_refl _,.inr rfl⟩
theorem SPost.trans {h0:Heap} {s t u:St} {lo pt pc:Nat} {v:AV} {rest:List (Nat × Nat)} {l:List PutR} {T T1 T2:(Int × Int) × List PutR} {k1 k2:Nat} (a:SPost h0 s t lo pt pc v rest l T T1 k1) (b:SPost h0 t u lo pt pc v rest l T1 T2 k2):SPost h0 s u lo pt pc v rest l T T2 (k1+k2):=by
 obtain ⟨a1,a2,a3,a4,a5,a6,a7⟩:=a
 obtain ⟨b1,b2,b3,b4,b5,b6,b7⟩:=b
 refine ⟨b1,fun x h1 h2 h3 h4=>(b2 x (by omega) h2 h3 h4).trans (a2 x h1 h2 h3 h4),by omega,by omega,fun k h1 h2 h3=>b5 k h1 h2 (a5 k h1 h2 h3),by omega,?_⟩
 rcases b7 with b7 | b7
 ·exact .inl b7
 ·rcases a7 with a7 | a7
  ·left;omega
  ·right;rw [b7,a7]
def SOk (N m:Nat) (h0:Heap) (lo pt pc ph ps po pf:Nat) (H:HallR) (O:List (Int × Int)):Prop :=
 ∀ (s:St) (v:AV) (rest:List (Nat × Nat)) (l:List PutR) (T:(Int × Int) × List PutR) (i:Nat),i+m=O.length→SNow h0 s.h s.n lo pt pc v rest l T→H.Good l→l.length≤i→s.n+60000+wide m≤far→s.m≤far →
  ∃ t,call Try.prog X N (.fn 82) [v,.agg [.int .i64 (H.worth l).1,.int .i64 (H.worth l).2],.int .i64 (i:Int),.ptr pt 0,.ptr pc 0,.ptr ph 0,.ptr ps 0,.ptr po 0,.ptr pf 0] s=.val (.tup []) t∧SPost h0 s t lo pt pc v rest l T (srch H.kinds.length H.takesB H.worth H.rent (O.drop i) l T) (wide m)
end Go.Proofs.Ytoklbkgcclkejaa.walk
