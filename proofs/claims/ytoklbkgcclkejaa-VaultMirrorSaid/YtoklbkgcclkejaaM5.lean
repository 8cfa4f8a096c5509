/- Numbers in another order: Shuffle; calls that may turn a block. -/
import Derived.Test.YtoklbkgcclkejaaM1
import Derived.Test.YtoklbkgcclkejaaM4
import Derived.Test.YtoklbkgcclkejaaWalkAll
set_option linter.unusedSimpArgs false
set_option linter.unusedVariables false
set_option maxHeartbeats 16000000
set_option linter.unusedVariables false
set_option maxRecDepth 10000
namespace Go.Proofs.Ytoklbkgcclkejaa.walk
open Go.Abs Go.Proofs.Ytoklbkgcclkejaa.code
theorem Die.keep {d:Nat} {h h':Heap} (D:Die d h) (e:h'.get d=h.get d):Die d h':=by obtain ⟨f,hf⟩:=D;exact ⟨f,e.trans hf⟩
theorem vaJ {P:Program} {X:FuncId→List Nat} {n:Nat} {f:FuncId} {args:List AV} {s:St} {fn:Func} {d k:Nat} {Q:AV→Heap→Nat→Prop} (hf:P.funcs[f]? = some fn) (hk:JP=true)
  (h:∀ u:St,u.h=s.h→u.n=s.n→u.m=far→∃ v s',zZ P X (Abs.call P X n) f args u fn=.val v s'∧Stir d u s' k∧Q v s'.h s'.n∧(plain v=true→Q v s.h s.n)) (hd:d≤far) :
  ∃ v t,Abs.call P X (n+1) (.fn f) args s=.val v t∧Stir d s t k∧Q v t.h t.n:=by
 obtain ⟨v,s',h1,h2,h3,h4⟩:=h ⟨s.h,s.n,far⟩ rfl rfl rfl
 cases hb:Nat.ble s.n s'.m with
 | true =>
  cases hp:plain v with
  | true =>
   refine ⟨v,s,?_,(Stir.refl d s).mono (Nat.zero_le _),h4 hp⟩
   show jP P X (Abs.call P X n) (.fn f) args s=_
   unfold jP
   simp only [hf,h1]
   unfold Abs.settle
   simp only [hb,hp]
   rfl
  | false =>
   refine ⟨v,⟨s'.h,s'.n,s.m⟩,?_,⟨h2.same,h2.n,h2.le,fun h=>h,Nat.le_refl _⟩,h3⟩
   show jP P X (Abs.call P X n) (.fn f) args s=_
   unfold jP
   simp only [hf,h1]
   unfold Abs.settle
   simp only [hb,hp,hk]
   rfl
 | false =>
  refine ⟨v,⟨s'.h,s'.n,yA s.m s'.m⟩,?_,Stir.draw (s:=s) h2 hd,h3⟩
  show jP P X (Abs.call P X n) (.fn f) args s=_
  unfold jP
  simp only [hf,h1]
  unfold Abs.settle
  simp only [hb]
  rfl
theorem Die.new {d:Nat} {s:St} (h:Die d s.h) (hd:d<s.n) (o:AObj):Die d (s.new o).h:=by obtain ⟨f,hf⟩:=h;exact ⟨f,by rw [zH _ _ _ (by omega)];exact hf⟩
structure Perm (i:Nat) (f:List Nat):Prop where
 lt:∀ p,p<i→f.getD p 0<i
 all:∀ j,j<i→∃ p,p<i∧f.getD p 0=j
def mix (f:List Nat) (i k:Nat):List Nat:=(f.set i (f.getD k 0)).set k i
theorem zpJ {f:List Nat} {i x p:Nat} (hi:i<f.length):(f.set i x).getD p 0=if i=p then x else f.getD p 0:=by
 simp only [List.getD_eq_getElem?_getD,List.getElem?_set]
 by_cases h:i=p
 ·subst h;simp [hi]
 ·simp [h]
theorem VHA {f:List Nat} {i k p:Nat} (hi:i<f.length) (hk:k<f.length):(mix f i k).getD p 0=if k=p then i else if i=p then f.getD k 0 else f.getD p 0:=by
 unfold mix
 rw [zpJ (by rw [List.length_set];exact hk),zpJ hi]
theorem Perm.step {i k:Nat} {f:List Nat} (h:Perm i f) (hi:i<f.length) (hk:k≤i):Perm (i+1) (mix f i k):=by
 refine ⟨fun p hp=>?_,fun j hj=>?_⟩
 ·rw [VHA hi (by omega)]
  by_cases h1:k=p
  ·rw [if_pos h1];omega
  ·rw [if_neg h1]
   by_cases h2:i=p
   ·rw [if_pos h2]
    have:=h.lt k (by omega)
    omega
   ·rw [if_neg h2]
    have:=h.lt p (by omega)
    omega
 ·by_cases hji:j=i
  ·exact ⟨k,by omega,by rw [VHA hi (by omega),if_pos rfl];exact hji.symm⟩
  ·obtain ⟨p,hp,e⟩:=h.all j (by omega)
   by_cases hpk:p=k
   ·refine ⟨i,by omega,?_⟩
    rw [VHA hi (by omega),if_neg (by omega),if_pos rfl,← hpk]
    exact e
   ·refine ⟨p,by omega,?_⟩
    rw [VHA hi (by omega),if_neg (by omega),if_neg (by omega)]
    exact e
def yX (f:List Nat):List (List AV):=jA (f.map Int.ofNat)
theorem vJ (f:List Nat):(yX f).length=f.length:=by unfold yX;rw [jc,List.length_map]
theorem YT (f:List Nat):∀ r ∈ yX f,r.length=1:=fun r hr=>by
 unfold yX jA at hr
 obtain ⟨x,_,rfl⟩:=List.mem_map.mp hr
 rfl
theorem wgA {f:List Nat} {k:Nat} (hk:k<f.length):(yX f)[k]'(by rw [vJ];exact hk)=[.int .i64 (f.getD k 0:Nat)]:=by
 unfold yX jA
 simp [List.getD,hk]
theorem zOJ {f:List Nat} {k:Nat} (hk:k<f.length):nth (yX f).flatten k=.int .i64 (f.getD k 0:Nat):=by
 have:=yU (YT f) (show k<(yX f).length by rw [vJ];exact hk)
 rw [wgA hk,Nat.mul_one] at this
 exact Vd this
theorem zNJ (f:List Nat) (k x:Nat):(yX f).set k [.int .i64 (x:Int)]=yX (f.set k x):=by
 unfold yX jA
 rw [List.map_set,List.map_set]
 rfl
theorem zwA {f:List Nat} {k:Nat} (hk:k<f.length) (x:Nat):over k [.int .i64 (x:Int)] (yX f).flatten=some (yX (f.set k x)).flatten:=by
 have:=zpA (row:=[.int .i64 (x:Int)]) (YT f) (show k<(yX f).length by rw [vJ];exact hk) rfl
 rw [Nat.mul_one,zNJ] at this
 exact this
structure ShufJ (u t:St) (d m i:Nat) (f:List Nat):Prop where
 die:Die d t.h
 get:t.h.get u.n=some (.cells (yX f).flatten 0)
 same:∀ c,c<u.n→c≠d→t.h.get c=u.h.get c
 n:t.n=u.n+1
 tm:d≤t.m
 mle:t.m≤far
 len:f.length=m
 perm:Perm i f
theorem yEJ (N:Nat) (hN:6≤N) (cx:Ctx) {d m i:Nat} {f:List Nat} {u t:St} {L:Env} (hJ:ShufJ u t d m i f) (hi:i<m) (hm:m≤50) (hd:d<u.n) (hs:u.n+1000≤far) (q0:L.find 0=.ptr d 0) (q5:L.find 5=.slice u.n 0 m m false) (q6:L.find 6=.int .i64 i) :
  ∃ L1 t1 f1,K21l0 (call Try.prog X N) cx L [] t=.done .norm L1 [] t1∧ShufJ u t1 d m (i+1) f1∧L1.find 0=.ptr d 0∧L1.find 5=.slice u.n 0 m m false∧L1.find 6=.int .i64 (i+1:Nat):=by
 have hf:=hfar
 obtain ⟨jd,jg,js,jn,jm,jl,jlen,jp⟩:=hJ
 have e0:decide ((i:Int)<(m:Int))=true:=decide_eq_true (by omega)
 have ad:∀ s,jI s .i64 (i:Int) 1=.val (.int .i64 ((i:Int)+1)) s:=fun s=>za s _ _ (by omega)
 have okR:∀ t,okA (.val (.slice u.n 0 m m false) t)=.val (.slice u.n 0 m m false) t:=fun _=>rfl
 have lnR:∀ s,zq s (.slice u.n 0 m m false)=.val (.int .i64 (m:Int)) s:=fun _=>rfl
 have ixR:∀ s k,k<m→jX 1 s (.slice u.n 0 m m false) (.int .i64 (k:Int))=.val (.ptr u.n k) s:=fun s k hk=>by rw [jq _ _ _ _ _ _ _ _ hk,Nat.zero_add,Nat.mul_one]
 simp (disch:=first|omega|with_unfolding_all rfl) only [WrA,K21r0,K21r1,K21r2,K21r3,K21r4,K21r5,K21r6,K21r7,K21r8,K21,K21l0,Abs.W,reduceIte,Nat.reduceEqDiff,Nat.reduceAdd,Nat.reduceSub,q0,q5,q6,okR,lnR,e0,ad,Nat.zero_add]
 generalize hc:call _ _ _ (.fn 25) _ _=r
 obtain ⟨x,t1,rfl,st,d1,x0,x1⟩:=we hc (by omega) jd (by omega) (by omega) (by omega)
 obtain ⟨k,rfl⟩:∃ n:Nat,x=n:=⟨x.toNat,by omega⟩
 have n1:t.n≤t1.n:=st.n
 have k1:t1.n≤t.n:=st.le
 have g1:=(st.same u.n (by omega) (by omega)).trans jg
 have m1:=st.m jm
 have l1:=st.mle
 have nk:=zOJ (f:=f) (k:=k) (by omega)
 have o1:=zwA (f:=f) (k:=i) (by omega) (f.getD k 0)
 have o2:=zwA (f:=f.set i (f.getD k 0)) (k:=k) (by rw [List.length_set];omega) i
 have i1:∀ s,jX 1 s (.slice u.n 0 m m false) (.int .i64 (k:Int))=.val (.ptr u.n k) s:=fun s=>ixR s k (by omega)
 have i2:∀ s,jX 1 s (.slice u.n 0 m m false) (.int .i64 (i:Int))=.val (.ptr u.n i) s:=fun s=>ixR s i hi
 simp (disch:=first|omega|with_unfolding_all rfl) only [WrA,K21r0,K21r1,K21r2,K21r3,K21r4,K21r5,K21r6,K21r7,K21r8,K21,Abs.W,reduceIte,Nat.reduceEqDiff,Nat.reduceAdd,Nat.reduceSub,q5,q6,okR,i1,i2,g1,nk,o1,o2,ad,Nat.zero_add]
 refine ⟨_,_,mix f i k,rfl,⟨d1.keep ?_,?_,fun c h1 h2=>?_,by simp only [jB];omega,?_,?_,by unfold mix;rw [List.length_set,List.length_set];exact jlen,jp.step (by omega) (by omega)⟩,by simp only [efs,q0,reduceIte,Nat.reduceEqDiff],by simp only [efs,q5,reduceIte,Nat.reduceEqDiff],by simp only [efs,reduceIte,Nat.reduceEqDiff];rfl⟩
 ·rw [zL _ _ _ _ (by omega),zL _ _ _ _ (by omega)]
 ·exact zN _ _ _ _ rfl (by omega)
 ·rw [zL _ _ _ _ (by omega),zL _ _ _ _ (by omega),st.same c (by omega) h2]
  exact js c h1 h2
 ·simp only [St.put,zQ];omega
 ·simp only [St.put,zQ];omega
theorem vjJ {N d m:Nat} {s:St} {r:ARes} (hr:call Try.prog X N (.fn 21) [.ptr d 0,.int .i64 (m:Int)] s=r) (hN:7≤N) (hd:Die d s.h) (hlt:d<s.n) (hm:m≤50) (hs:s.n+2000≤far) :
  ∃ v f t,r=.val v t∧Stir d s t 1∧Die d t.h∧f.length=m∧Perm m f∧Blk t.h t.n s.n 1 (tag 3) (yX f) v:=by
 obtain ⟨n,rfl⟩:∃ n,N=n+1:=⟨N - 1,by omega⟩
 have hf:=hfar
 obtain ⟨v,t,e,st,f,hdt,hfl,hp,hb⟩:=YUA (n:=n) (args:=[.ptr d 0,.int .i64 (m:Int)]) (d:=d) (s:=s) (k:=1) (Q:=fun v h n=>∃ f,Die d h∧f.length=m∧Perm m f∧Blk h n s.n 1 (tag 3) (yX f) v) Try.func21 rfl (fun u uh un um=>by
  rw [← uh] at hd
  rw [← un] at hlt ⊢
  have mk:∀ s:St,VO [.int .i64 0] 8 s (.int .i64 (m:Int)) (.int .i64 (m:Int))=.val (.slice s.n 0 m m false) (s.new (.cells (List.replicate m [.int .i64 0]).flatten 0)):=fun s=>WE [.int .i64 0] 8 m s (by omega) (by omega)
  have okR:∀ t,okA (.val (.slice u.n 0 m m false) t)=.val (.slice u.n 0 m m false) t:=fun _=>rfl
  have lnR:∀ s,zq s (.slice u.n 0 m m false)=.val (.int .i64 (m:Int)) s:=fun _=>rfl
  have mx:max (0:Int) (m:Int)=(m:Int):=by omega
  rw [jUQ]
  simp (disch:=first|omega|with_unfolding_all rfl) only [WrA,K21r0,K21r1,K21r2,K21r3,K21r4,K21r5,K21r6,K21r7,K21r8,K21,Abs.W,reduceIte,Nat.reduceEqDiff,Nat.reduceAdd,Nat.reduceSub,Nat.zero_add,wC,wF,vj,Zx,mx,WG,mk,okR]
  generalize hlp:jK _ rounds _ _ _ _ _=r1
  have zr:(List.replicate m [AV.int .i64 0])=yX (List.replicate m 0):=by unfold yX jA;simp
  rw [zr] at hlp
  obtain ⟨e,L1,s1,rfl,rfl,f5,f,hJ⟩:=jO hlp (fun i L' t'=>(∃ f,ShufJ u t' d m i f)∧L'.find 0=.ptr d 0∧L'.find 5=.slice u.n 0 m m false∧L'.find 6=.int .i64 i) (fun e L' t'=>e=.exit 0∧L'.find 5=.slice u.n 0 m m false∧∃ f,ShufJ u t' d m m f) m (by unfold rounds;omega)
   ⟨⟨List.replicate m 0,⟨hd.new hlt _,zM _ _ _ rfl (by omega),fun c h1 h2=>zH _ _ _ (by omega),rfl,by show d≤u.m;omega,by show u.m≤far;omega,List.length_replicate,⟨fun p hp=>absurd hp (Nat.not_lt_zero p),fun j hj=>absurd hj (Nat.not_lt_zero j)⟩⟩⟩,by simp only [zK,efs,reduceIte,Nat.reduceEqDiff],by simp only [zK,efs,reduceIte,Nat.reduceEqDiff],by simp only [zK,efs,reduceIte,Nat.reduceEqDiff];rfl⟩
   (fun i L' t' hi ⟨⟨f,hJ⟩,q0,q5,q6⟩=>by
    by_cases hlt':i<m
    ·obtain ⟨L2,t2,f1,p1,p2,p3,p4,p5⟩:=yEJ n (by omega) ⟨21,none,Try.f21.ntmps,X 21⟩ hJ hlt' hm hlt (by omega) q0 q5 q6
     exact .inl ⟨hlt',L2,t2,p1,⟨f1,p2⟩,p3,p4,p5⟩
    ·obtain rfl:i=m:=by omega
     have e1:decide ((i:Int)<(i:Int))=false:=by simp
     refine .inr ⟨.exit 0,L'.set 14 (.bool false),t',by simp,?_,rfl,by simp only [efs,q5,reduceIte,Nat.reduceEqDiff],f,hJ⟩
     simp (disch:=first|omega|with_unfolding_all rfl) only [WrA,K21r0,K21r1,K21r2,K21r3,K21r4,K21r5,K21r6,K21r7,K21r8,K21,K21l0,Abs.W,reduceIte,Nat.reduceEqDiff,Nat.reduceAdd,Nat.reduceSub,q5,q6,okR,lnR,e1,Nat.zero_add])
  simp (disch:=first|omega|with_unfolding_all rfl) only [WrA,K21r0,K21r1,K21r2,K21r3,K21r4,K21r5,K21r6,K21r7,K21r8,K21,Abs.W,reduceIte,Nat.reduceEqDiff,Nat.reduceAdd,Nat.reduceSub,f5,okR]
  refine ⟨.slice u.n 0 m m false,s1,rfl,⟨fun c h1 h2=>hJ.same c h1 h2,by have:=hJ.n;omega,by have:=hJ.n;omega,fun _=>hJ.tm,by have:=hJ.mle;omega⟩,rfl,f,hJ.die,hJ.len,hJ.perm,⟨YT f,false,0,by rw [vJ,hJ.len],by have:=hJ.n;omega,hJ.get,fun h=>(by cases h)⟩⟩) (by omega)
 exact ⟨v,f,t,hr.symm.trans e,st,hdt,hfl,hp,hb⟩
theorem VCA {N d:Nat} {n:Int} {s:St} {r:ARes} (hr:call Try.prog X N (.fn 22) [.ptr d 0,.int .i64 n] s=r) (hN:3≤N) (hd:Die d s.h) (hlt:d<s.n) (hs:s.n+200≤far) (hn:n≤4000000000) :
  ∃ b t,r=.val (.bool b) t∧Stir d s t 0∧Die d t.h:=by
 obtain ⟨m,rfl⟩:∃ m,N=m+1:=⟨N - 1,by omega⟩
 have hf:=hfar
 obtain ⟨v,t,e,st,⟨x,rfl⟩,hd'⟩:=yw (n:=m) (args:=[.ptr d 0,.int .i64 n]) (d:=d) (k:=0) (Q:=fun v=>∃ b,v=.bool b) (R:=Die d) Try.func22 hd (fun u uh un um=>by
  rw [← uh] at hd
  rw [jTQ]
  simp (disch:=first|omega|with_unfolding_all rfl) only [jrQ,K22r0,K22r1,K22,Abs.W,reduceIte,Nat.reduceEqDiff,Nat.reduceAdd,Nat.reduceSub]
  generalize hc:call _ _ _ (.fn 25) _ _=r1
  obtain ⟨y,w,rfl,sw,dw,y0,y1⟩:=we hc (by omega) hd (by omega) (by omega) hn
  simp (disch:=first|omega|with_unfolding_all rfl) only [jrQ,K22r0,K22r1,K22,Abs.W,reduceIte,Nat.reduceEqDiff,Nat.reduceAdd,Nat.reduceSub]
  exact ⟨_,_,rfl,sw,rfl,⟨_,rfl⟩,dw⟩) (by omega)
 exact ⟨x,t,hr.symm.trans e,st,hd'⟩
def HallR.placesI (H:HallR):List (Int × Int):=H.places.map fun p=>((p.1:Int),(p.2:Int))
theorem yj (H:HallR):H.placesI.length=H.places.length:=List.length_map ..
theorem Zl (H:HallR) {i:Nat} (hi:i<H.placesI.length):H.placesI[i]=(((i % H.wide:Nat):Int),((i / H.wide:Nat):Int)):=by
 simp [HallR.placesI,HallR.places]
theorem grJ {H:HallR} {x y:Nat} (hx:x<H.wide) (hy:y<H.deep):H.placesI.take (y * H.wide+x+1)=H.placesI.take (y * H.wide+x)++[((x:Int),(y:Int))]:=by
 unfold HallR.placesI
 rw [← List.map_take,← List.map_take,(ysA hx hy).1,List.map_append]
 rfl
theorem Ww {H:HallR} (w0:1≤H.wide) {i:Nat} (hi:i<H.placesI.length):H.In H.placesI[i]:=by
 rw [Zl]
 have h:=hi
 rw [yj,yq] at h
 have h1:i % H.wide<H.wide:=Nat.mod_lt _ (by omega)
 have h2:i / H.wide<H.deep:=Nat.div_lt_of_lt_mul (by rw [Nat.mul_comm];exact h)
 exact ⟨⟨Int.natCast_nonneg _,Int.ofNat_lt.mpr h1⟩,Int.natCast_nonneg _,Int.ofNat_lt.mpr h2⟩
theorem ZpA {H:HallR} (w0:1≤H.wide):H.placesI.Nodup:=by
 refine List.pairwise_iff_getElem.mpr fun i j hi hj hij e=>?_
 rw [Zl,Zl,Prod.mk.injEq] at e
 have h1:i % H.wide=j % H.wide:=by omega
 have h2:i / H.wide=j / H.wide:=by omega
 have e1:=Nat.div_add_mod i H.wide
 have e2:=Nat.div_add_mod j H.wide
 rw [h1,h2] at e1
 omega
structure PlJ (u w t:St) (H:HallR) (k b:Nat) (v:AV):Prop where
 is:IsAt t.h t.n b 2 (tag 27) ((H.placesI.take k).map jC) v
 lo:u.n<b
 same:∀ c,c<u.n+1→t.h.get c=w.h.get c
 n:u.n+1≤t.n
 le:t.n≤u.n+1+2 * k
 m:u.n≤t.m
 mle:t.m≤far
theorem JnJ (cl:zR) (cx:Ctx) {u w t:St} {H:HallR} {x y b:Nat} {v:AV} {L:Env} {hv:List AV} (J:PlJ u w t H (y * H.wide+x) b v) (hx:x<H.wide) (hy:y<H.deep) (h24:H.places.length≤24) (hs:u.n+200≤far) (w0:w.h.get u.n=some (.cells (.int .i64 (H.wide:Int)::hv) (tag 30))) (hw6:H.wide≤6)
  (q1:L.find 1=.ptr u.n 0) (q3:L.find 3=v) (q4:L.find 4=.int .i64 (y:Int)) (q5:L.find 5=.int .i64 (x:Int)) :
  ∃ L1 t1 b1 v1,jdJ cl cx L [] t=.done .norm L1 [] t1∧PlJ u w t1 H (y * H.wide+x+1) b1 v1∧L1.find 1=.ptr u.n 0∧L1.find 3=v1∧L1.find 4=.int .i64 (y:Int)∧L1.find 5=.int .i64 ((x+1:Nat):Int):=by
 have hf:=hfar
 obtain ⟨ji,jl,js,jn,jle,jm,jml⟩:=J
 have hno:=zkA hx hy
 have e0:decide ((x:Int)<(H.wide:Int))=true:=decide_eq_true (by omega)
 have ad:∀ s,jI s .i64 (x:Int) 1=.val (.int .i64 ((x:Int)+1)) s:=fun s=>za s _ _ (by omega)
 have g:=(js u.n (by omega)).trans w0
 have kv:=ji.okA
 have hln:((H.placesI.take (y * H.wide+x)).map jC).length≤24:=by rw [List.length_map,List.length_take,yj];omega
 obtain ⟨z,hz⟩:∃ z:St,z=t.new (.cells [.int .i64 (x:Int),.int .i64 (y:Int)] 0):=⟨_,rfl⟩
 have zn:z.n=t.n+1:=by rw [hz];rfl
 have zm:z.m=t.m:=by rw [hz];rfl
 have zg:∀ c,c<t.n→z.h.get c=t.h.get c:=fun c hc=>by rw [hz,zH _ _ _ (by omega)]
 have zp:z.h.get t.n=some (.cells [.int .i64 (x:Int),.int .i64 (y:Int)] 0):=by rw [hz];exact zM _ _ _ rfl (by omega)
 obtain ⟨s7,e7,l7,s7n,s7g,s7m,s7l⟩:=vI (bytes:=16) (ji.mono (h':=z.h) (n':=z.n) (fun h=>zg b h) (by omega)) zp rfl rfl (by omega) (by kernel_rfl) (by omega)
 obtain ⟨v7,hv7⟩:∃ v7,v7=AV.slice z.n 0 (((H.placesI.take (y * H.wide+x)).map jC).length+1) (((H.placesI.take (y * H.wide+x)).map jC).length+1) true:=⟨_,rfl⟩
 rw [← hv7] at e7 l7
 have hcells:(H.placesI.take (y * H.wide+x)).map jC++[[.int .i64 (x:Int),.int .i64 (y:Int)]]=(H.placesI.take (y * H.wide+x+1)).map jC:=by rw [grJ hx hy,List.map_append];rfl
 rw [hcells] at l7
 refine ⟨(((L.set 15 (.bool true)).set 3 v7).set 5 (.int .i64 ((x:Int)+1))),s7,z.n,v7,?_,⟨l7,by omega,fun c hc=>?_,by omega,by omega,?_,by omega⟩,?_,?_,?_,?_⟩
 ·simp (disch:=first|omega|with_unfolding_all rfl) only [jdJ,K40r5,K40r6,Abs.W,reduceIte,Nat.reduceEqDiff,Nat.reduceAdd,Nat.reduceSub,Nat.zero_add,q1,q3,q4,q5,g,e0]
  rw [← hz]
  simp (disch:=first|omega|with_unfolding_all rfl) only [yYQ,Abs.W,reduceIte,Nat.reduceEqDiff,Nat.reduceAdd,Nat.reduceSub,Nat.zero_add,e7,q5,ad]
 ·by_cases e:c=b
  ·omega
  ·rw [s7g c (by omega) e,zg c (by omega)];exact js c hc
 ·have:=s7m u.n (by omega) (by omega) (by omega)
  omega
 ·simp only [efs,q1,reduceIte,Nat.reduceEqDiff]
 ·simp only [efs,reduceIte,Nat.reduceEqDiff]
 ·simp only [efs,q4,reduceIte,Nat.reduceEqDiff]
 ·simp only [efs,reduceIte,Nat.reduceEqDiff];rfl
theorem PlJ.more {u w t:St} {H:HallR} {k k' b:Nat} {v:AV} (J:PlJ u w t H k b v) (h:k=k'):PlJ u w t H k' b v:=h▸J
theorem vJQ (cl:zR) (cx:Ctx) {u w t:St} {H:HallR} {y b:Nat} {v:AV} {L:Env} {hv:List AV} {r:R} (hr:jK jdJ rounds cl cx L [] t=r) (J:PlJ u w t H (y * H.wide) b v) (hy:y<H.deep) (h24:H.places.length≤24) (hs:u.n+200≤far) (w0:w.h.get u.n=some (.cells (.int .i64 (H.wide:Int)::hv) (tag 30))) (hw6:H.wide≤6)
  (q1:L.find 1=.ptr u.n 0) (q3:L.find 3=v) (q4:L.find 4=.int .i64 (y:Int)) (q5:L.find 5=.int .i64 0) :
  ∃ L1 t1 b1 v1,r=.done (.exit 2) L1 [] t1∧PlJ u w t1 H ((y+1) * H.wide) b1 v1∧L1.find 1=.ptr u.n 0∧L1.find 3=v1∧L1.find 4=.int .i64 (y:Int):=by
 obtain ⟨e,L1,t1,rfl,rfl,b1,v1,h1,h2,h3,h4⟩:=jO hr (fun i L' t'=>∃ b' v',PlJ u w t' H (y * H.wide+i) b' v'∧L'.find 1=.ptr u.n 0∧L'.find 3=v'∧L'.find 4=.int .i64 (y:Int)∧L'.find 5=.int .i64 (i:Int))
  (fun e L1 t1=>e=.exit 2∧∃ b1 v1,PlJ u w t1 H ((y+1) * H.wide) b1 v1∧L1.find 1=.ptr u.n 0∧L1.find 3=v1∧L1.find 4=.int .i64 (y:Int)) H.wide (by unfold rounds;omega)
  ⟨b,v,J,q1,q3,q4,q5⟩
  (fun i L' t' hi ⟨b',v',J',q1,q3,q4,q5⟩=>by
   by_cases hlt:i<H.wide
   ·obtain ⟨L1,t1,b1,v1,k1,k2,k3,k4,k5,k6⟩:=JnJ cl cx J' hlt hy h24 hs w0 hw6 q1 q3 q4 q5
    exact .inl ⟨hlt,L1,t1,k1,b1,v1,k2,k3,k4,k5,k6⟩
   ·obtain rfl:i=H.wide:=by omega
    have e0:decide ((H.wide:Int)<(H.wide:Int))=false:=by simp
    have g:=(J'.same u.n (by omega)).trans w0
    refine .inr ⟨.exit 2,L'.set 15 (.bool false),t',by simp,?_,rfl,b',v',J'.more (Nat.succ_mul _ _).symm,?_,?_,?_⟩
    ·simp (disch:=first|omega|with_unfolding_all rfl) only [jdJ,K40r5,Abs.W,reduceIte,Nat.reduceEqDiff,Nat.reduceAdd,Nat.reduceSub,Nat.zero_add,q1,q5,g,e0]
    ·simp only [efs,q1,reduceIte,Nat.reduceEqDiff]
    ·simp only [efs,q3,reduceIte,Nat.reduceEqDiff]
    ·simp only [efs,q4,reduceIte,Nat.reduceEqDiff])
 exact ⟨L1,t1,b1,v1,rfl,h1,h2,h3,h4⟩
theorem JXA {N:Nat} {H:HallR} {vW vS vB vK:AV} {s:St} {r:ARes} (hr:call Try.prog X N (.fn 40) [.agg (zP H vW vS vB vK)] s=r) (hN:1≤N) (sz:H.Size) (hs:s.n+300≤far) :
  ∃ v t b,r=.val v t∧New s t 60∧s.n<b∧b<t.n∧IsAt t.h t.n b 2 (tag 27) (H.placesI.map jC) v:=by
 obtain ⟨n,rfl⟩:∃ n,N=n+1:=⟨N - 1,by omega⟩
 have hf:=hfar
 have h24:=vw sz
 obtain ⟨y0,y1,y2,y3,_,_,_,_⟩:=sz
 have hne:H.placesI.map jC≠[]:=fun h=>by
  have:=congrArg List.length h
  rw [List.length_map,yj,yq,List.length_nil] at this
  have:=Nat.mul_pos y2 y0
  omega
 obtain ⟨v,t,e,st,b,hb1,hb2,hb3⟩:=vm (n:=n) (args:=[.agg (zP H vW vS vB vK)]) (s:=s) (k:=60) (Q:=fun v h n=>∃ b,s.n<b∧b<n∧IsAt h n b 2 (tag 27) (H.placesI.map jC) v) Try.func40 rfl (fun u uh un um=>by
  rw [← un]
  obtain ⟨w,hw⟩:∃ w:St,w=u.new (.cells (zP H vW vS vB vK) (tag 30)):=⟨_,rfl⟩
  have wn:w.n=u.n+1:=by rw [hw];rfl
  have wm:w.m=far:=by rw [hw];exact um
  have wg:∀ c,c<u.n→w.h.get c=u.h.get c:=fun c hc=>by rw [hw,zH _ _ _ (by omega)]
  have w0:w.h.get u.n=some (.cells (zP H vW vS vB vK) (tag 30)):=by rw [hw];exact zM _ _ _ rfl (by omega)
  rw [jHQ]
  simp (disch:=first|omega|with_unfolding_all rfl) only [K40,K40r0,K40r1,K40r2,Abs.W,reduceIte,Nat.reduceEqDiff,Nat.reduceAdd,Nat.reduceSub]
  rw [← hw]
  generalize hlp:jK _ rounds _ _ _ _ _=q1
  obtain ⟨e,L1,t1,rfl,rfl,b1,v1,h1,h2⟩:=jO hlp (fun i L' t'=>∃ b' v',PlJ u w t' H (i * H.wide) b' v'∧L'.find 1=.ptr u.n 0∧L'.find 3=v'∧L'.find 4=.int .i64 (i:Int))
   (fun e L1 t1=>e=.exit 0∧∃ b1 v1,PlJ u w t1 H (H.deep * H.wide) b1 v1∧L1.find 3=v1) H.deep (by unfold rounds;omega)
   ⟨u.n+1,.nilslice,⟨by rw [Nat.zero_mul];exact IsAt.nil _ _ _ _ _,by omega,fun _ _=>rfl,by omega,by omega,by omega,by omega⟩,(by simp only [zK,efs,reduceIte,Nat.reduceEqDiff]),(by simp only [zK,efs,reduceIte,Nat.reduceEqDiff]),(by simp only [zK,efs,reduceIte,Nat.reduceEqDiff];rfl)⟩
   (fun i L' t' hi ⟨b',v',J',q1,q3,q4⟩=>by
    have g:=(J'.same u.n (by omega)).trans w0
    by_cases hlt:i<H.deep
    ·have e0:decide ((i:Int)<(H.deep:Int))=true:=decide_eq_true (by omega)
     have ad:∀ s,jI s .i64 (i:Int) 1=.val (.int .i64 ((i:Int)+1)) s:=fun s=>za s _ _ (by omega)
     refine .inl ⟨hlt,?_⟩
     simp (disch:=first|omega|with_unfolding_all rfl) only [WCJ,K40r3,K40r4,Abs.W,reduceIte,Nat.reduceEqDiff,Nat.reduceAdd,Nat.reduceSub,Nat.zero_add,q1,q3,q4,g,e0]
     generalize hlp2:jK _ rounds _ _ _ _ _=rl2
     obtain ⟨L1,t1,b1,v1,rfl,k2,k3,k4,k5⟩:=vJQ _ _ hlp2 J' hlt h24 (by omega) w0 y1 (by simp only [efs,q1,reduceIte,Nat.reduceEqDiff]) (by simp only [efs,q3,reduceIte,Nat.reduceEqDiff]) (by simp only [efs,q4,reduceIte,Nat.reduceEqDiff]) (by simp only [efs,reduceIte,Nat.reduceEqDiff])
     simp (disch:=first|omega|with_unfolding_all rfl) only [yXQ,Abs.W,reduceIte,Nat.reduceEqDiff,Nat.reduceAdd,Nat.reduceSub,Nat.zero_add,k5,ad]
     refine ⟨_,_,rfl,b1,v1,k2,?_,?_,?_⟩
     ·simp only [efs,k3,reduceIte,Nat.reduceEqDiff]
     ·simp only [efs,k4,reduceIte,Nat.reduceEqDiff]
     ·simp only [efs,reduceIte,Nat.reduceEqDiff];rfl
    ·obtain rfl:i=H.deep:=by omega
     have e0:decide ((H.deep:Int)<(H.deep:Int))=false:=by simp
     refine .inr ⟨.exit 0,L'.set 9 (.bool false),t',by simp,?_,rfl,b',v',J',by simp only [efs,q3,reduceIte,Nat.reduceEqDiff]⟩
     simp (disch:=first|omega|with_unfolding_all rfl) only [WCJ,K40r3,Abs.W,reduceIte,Nat.reduceEqDiff,Nat.reduceAdd,Nat.reduceSub,Nat.zero_add,q1,q4,g,e0])
  obtain ⟨ji,jl,js,jn,jle,jm,jml⟩:=h1
  have htk:H.placesI.take (H.deep * H.wide)=H.placesI:=List.take_of_length_le (by rw [yj,yq];exact Nat.le_refl _)
  rw [htk] at ji
  rw [← yq] at jle
  have kv:=ji.okA
  simp (disch:=first|omega|with_unfolding_all rfl) only [yWQ,res40,Abs.W,reduceIte,Nat.reduceEqDiff,Nat.reduceAdd,Nat.reduceSub,h2,kv]
  rcases ji.is with ⟨z,_⟩ | ⟨z1,z2,z3,z4⟩
  ·exact absurd z hne
  ·exact ⟨_,_,rfl,⟨fun c hc=>(js c (by omega)).trans (wg c hc),by omega,by omega,by omega,by omega⟩,by rw [z3];rfl,b1,jl,z2,ji⟩)
 exact ⟨v,t,b,hr.symm.trans e,st,hb1,hb2,hb3⟩
abbrev WP (p9 bW bS bB bK:Nat):Nat→Prop:=fun c=>p9<c∧c≠bW∧c≠bS∧c≠bB∧c≠bK
structure HallJ (u t:St) (d p9:Nat) (H:HallR) (vW vS vB vK:AV) (bW bS bB bK kk:Nat):Prop where
 die:Die d t.h
 g9:t.h.get p9=some (.cells (zP H vW vS vB vK) (tag 30))
 w:IsAt t.h t.n bW 2 (tag 27) (H.water.map jC) vW
 s:IsAt t.h t.n bS 2 (tag 27) (H.shut.map jC) vS
 b:IsAt t.h t.n bB 1 (tag 3) (jA H.bears) vB
 k:∃ ws:List AV,ws.length=H.kinds.length∧IsAt t.h t.n bK 6 (tag 49) (yI H.kinds ws) vK∧∀ i (h1:i<ws.length) (h2:i<H.kinds.length),Sl (WP p9 bW bS bB bK) t.h t.n 1 (jA H.kinds[i].away) ws[i]
 lo:p9<bW∧p9<bS∧p9<bB∧p9<bK
 ne:bW≠bS∧bW≠bB∧bW≠bK∧bS≠bB∧bS≠bK∧bB≠bK
 rg:(bW<t.n∨far<bW)∧(bS<t.n∨far<bS)∧(bB<t.n∨far<bB)∧(bK<t.n∨far<bK)
 same:∀ c,c<p9→c≠d→t.h.get c=u.h.get c
 n:p9<t.n
 le:t.n≤u.n+kk
 m:d≤u.m→d≤t.m
 mle:t.m≤u.m
 dp:d<p9
variable {u t z:St} {d p9 bW bS bB bK kk k:Nat} {H:HallR} {vW vS vB vK:AV}
theorem HallJ.stir (J:HallJ u t d p9 H vW vS vB vK bW bS bB bK kk) (S:Stir d t z k) (D:Die d z.h):HallJ u z d p9 H vW vS vB vK bW bS bB bK (kk+k):=by
 obtain ⟨jd,j9,jw,js,jb,⟨ws,k1,k2,k3⟩,jlo,jne,jrg,jsame,jn,jle,jm,jml,jdp⟩:=J
 have h1:=S.n
 have h2:=S.le
 exact ⟨D,(S.same p9 jn (by omega)).trans j9,jw.mono (fun h=>S.same bW h (by omega)) h1,js.mono (fun h=>S.same bS h (by omega)) h1,jb.mono (fun h=>S.same bB h (by omega)) h1,
  ⟨ws,k1,k2.mono (fun h=>S.same bK h (by omega)) h1,fun i h1' h2'=>(k3 i h1' h2').move (fun c hc hno=>⟨S.same c hc (by have:=hno.1;omega),hno⟩) h1⟩,jlo,jne,by omega,fun c hc hcd=>(S.same c (by omega) hcd).trans (jsame c hc hcd),by omega,by omega,fun h=>S.m (jm h),Nat.le_trans S.mle jml,jdp⟩
theorem HallJ.more {kk':Nat} (J:HallJ u t d p9 H vW vS vB vK bW bS bB bK kk) (h:kk≤kk'):HallJ u t d p9 H vW vS vB vK bW bS bB bK kk':=⟨J.die,J.g9,J.w,J.s,J.b,J.k,J.lo,J.ne,J.rg,J.same,J.n,by have:=J.le;omega,J.m,J.mle,J.dp⟩
theorem HallJ.keep (J:HallJ u t d p9 H vW vS vB vK bW bS bB bK kk) (hh:∀ c,c<t.n→z.h.get c=t.h.get c) (hn:t.n≤z.n) (hk:z.n≤t.n+k) (hm:d≤t.m→d≤z.m) (hml:z.m≤t.m):HallJ u z d p9 H vW vS vB vK bW bS bB bK (kk+k):=by
 obtain ⟨jd,j9,jw,js,jb,⟨ws,k1,k2,k3⟩,jlo,jne,jrg,jsame,jn,jle,jm,jml,jdp⟩:=J
 exact ⟨jd.keep (hh d (by omega)),(hh p9 jn).trans j9,jw.mono (hh bW) hn,js.mono (hh bS) hn,jb.mono (hh bB) hn,
  ⟨ws,k1,k2.mono (hh bK) hn,fun i h1' h2'=>(k3 i h1' h2').move (fun c hc hno=>⟨hh c hc,hno⟩) hn⟩,jlo,jne,by omega,fun c hc hcd=>(hh c (by omega)).trans (jsame c hc hcd),by omega,by omega,fun h=>hm (jm h),Nat.le_trans hml jml,jdp⟩
theorem HallJ.putW {W:List (Int × Int)} {v1:AV} {b1:Nat} (J:HallJ u t d p9 H vW vS vB vK bW bS bB bK kk) (g9:z.h.get p9=some (.cells (zP { H with water:=W } v1 vS vB vK) (tag 30))) (is:IsAt z.h z.n b1 2 (tag 27) (W.map jC) v1) (hb:t.n≤b1) (hb2:b1≤far) (hb3:b1<z.n) (gs:∀ c,c<t.n→c≠bW→c≠p9→z.h.get c=t.h.get c) (hn:t.n≤z.n) (hk:z.n≤t.n+k) (hm:d≤t.m→d≤z.m) (hml:z.m≤t.m):HallJ u z d p9 { H with water:=W } v1 vS vB vK b1 bS bB bK (kk+k):=by
 obtain ⟨jd,j9,jw,js,jb,⟨ws,k1,k2,k3⟩,jlo,jne,jrg,jsame,jn,jle,jm,jml,jdp⟩:=J
 exact ⟨jd.keep (gs d (by omega) (by omega) (by omega)),g9,is,js.mono (fun h=>gs bS h (by omega) (by omega)) hn,jb.mono (fun h=>gs bB h (by omega) (by omega)) hn,
  ⟨ws,k1,k2.mono (fun h=>gs bK h (by omega) (by omega)) hn,fun i h1' h2'=>(k3 i h1' h2').move (fun c hc hno=>by
   obtain ⟨h1,h2,h3,h4,h5⟩:=hno
   exact ⟨gs c hc (by omega) (by omega),by omega,by omega,by omega,by omega,by omega⟩) hn⟩,by omega,by omega,by omega,fun c hc hcd=>(gs c (by omega) (by omega) (by omega)).trans (jsame c hc hcd),by omega,by omega,fun h=>hm (jm h),Nat.le_trans hml jml,jdp⟩
theorem HallJ.putS {W:List (Int × Int)} {v1:AV} {b1:Nat} (J:HallJ u t d p9 H vW vS vB vK bW bS bB bK kk) (g9:z.h.get p9=some (.cells (zP { H with shut:=W } vW v1 vB vK) (tag 30))) (is:IsAt z.h z.n b1 2 (tag 27) (W.map jC) v1) (hb:t.n≤b1) (hb2:b1≤far) (hb3:b1<z.n) (gs:∀ c,c<t.n→c≠bS→c≠p9→z.h.get c=t.h.get c) (hn:t.n≤z.n) (hk:z.n≤t.n+k) (hm:d≤t.m→d≤z.m) (hml:z.m≤t.m):HallJ u z d p9 { H with shut:=W } vW v1 vB vK bW b1 bB bK (kk+k):=by
 obtain ⟨jd,j9,jw,js,jb,⟨ws,k1,k2,k3⟩,jlo,jne,jrg,jsame,jn,jle,jm,jml,jdp⟩:=J
 exact ⟨jd.keep (gs d (by omega) (by omega) (by omega)),g9,jw.mono (fun h=>gs bW h (by omega) (by omega)) hn,is,jb.mono (fun h=>gs bB h (by omega) (by omega)) hn,
  ⟨ws,k1,k2.mono (fun h=>gs bK h (by omega) (by omega)) hn,fun i h1' h2'=>(k3 i h1' h2').move (fun c hc hno=>by
   obtain ⟨h1,h2,h3,h4,h5⟩:=hno
   exact ⟨gs c hc (by omega) (by omega),by omega,by omega,by omega,by omega,by omega⟩) hn⟩,by omega,by omega,by omega,fun c hc hcd=>(gs c (by omega) (by omega) (by omega)).trans (jsame c hc hcd),by omega,by omega,fun h=>hm (jm h),Nat.le_trans hml jml,jdp⟩
theorem HallJ.putB {W:List Int} {v1:AV} {b1:Nat} (J:HallJ u t d p9 H vW vS vB vK bW bS bB bK kk) (g9:z.h.get p9=some (.cells (zP { H with bears:=W } vW vS v1 vK) (tag 30))) (is:IsAt z.h z.n b1 1 (tag 3) (jA W) v1) (hb:t.n≤b1) (hb2:b1≤far) (hb3:b1<z.n) (gs:∀ c,c<t.n→c≠bB→c≠p9→z.h.get c=t.h.get c) (hn:t.n≤z.n) (hk:z.n≤t.n+k) (hm:d≤t.m→d≤z.m) (hml:z.m≤t.m):HallJ u z d p9 { H with bears:=W } vW vS v1 vK bW bS b1 bK (kk+k):=by
 obtain ⟨jd,j9,jw,js,jb,⟨ws,k1,k2,k3⟩,jlo,jne,jrg,jsame,jn,jle,jm,jml,jdp⟩:=J
 exact ⟨jd.keep (gs d (by omega) (by omega) (by omega)),g9,jw.mono (fun h=>gs bW h (by omega) (by omega)) hn,js.mono (fun h=>gs bS h (by omega) (by omega)) hn,is,
  ⟨ws,k1,k2.mono (fun h=>gs bK h (by omega) (by omega)) hn,fun i h1' h2'=>(k3 i h1' h2').move (fun c hc hno=>by
   obtain ⟨h1,h2,h3,h4,h5⟩:=hno
   exact ⟨gs c hc (by omega) (by omega),by omega,by omega,by omega,by omega,by omega⟩) hn⟩,by omega,by omega,by omega,fun c hc hcd=>(gs c (by omega) (by omega) (by omega)).trans (jsame c hc hcd),by omega,by omega,fun h=>hm (jm h),Nat.le_trans hml jml,jdp⟩
theorem Wf {l:List KindR} {ws:List AV} (h:ws.length=l.length) (x:KindR) (w:AV):yI (l++[x]) (ws++[w])=yI l ws++[x.row w]:=by
 unfold yI
 rw [List.zipWith_append h.symm]
 rfl
theorem HallJ.putK {K:KindR} {wv v1:AV} {b1:Nat} {ws:List AV} (J:HallJ u t d p9 H vW vS vB vK bW bS bB bK kk) (g9:z.h.get p9=some (.cells (zP { H with kinds:=H.kinds++[K] } vW vS vB v1) (tag 30))) (k1:ws.length=H.kinds.length) (k3:∀ i (h1:i<ws.length) (h2:i<H.kinds.length),Sl (WP p9 bW bS bB bK) t.h t.n 1 (jA H.kinds[i].away) ws[i]) (is:IsAt z.h z.n b1 6 (tag 49) (yI H.kinds ws++[K.row wv]) v1) (hA:Sl (WP p9 bW bS bB bK) t.h t.n 1 (jA K.away) wv) (hb:t.n≤b1) (hb2:b1≤far) (hb3:b1<z.n) (gs:∀ c,c<t.n→c≠bK→c≠p9→z.h.get c=t.h.get c) (hn:t.n≤z.n) (hk:z.n≤t.n+k) (hm:d≤t.m→d≤z.m) (hml:z.m≤t.m):HallJ u z d p9 { H with kinds:=H.kinds++[K] } vW vS vB v1 bW bS bB b1 (kk+k):=by
 obtain ⟨jd,j9,jw,js,jb,_,jlo,jne,jrg,jsame,jn,jle,jm,jml,jdp⟩:=J
 have mv:∀ c,c<t.n→WP p9 bW bS bB bK c→z.h.get c=t.h.get c∧WP p9 bW bS bB b1 c:=fun c hc hno=>by
  obtain ⟨h1,h2,h3,h4,h5⟩:=hno
  exact ⟨gs c hc (by omega) (by omega),by omega,by omega,by omega,by omega,by omega⟩
 refine ⟨jd.keep (gs d (by omega) (by omega) (by omega)),g9,jw.mono (fun h=>gs bW h (by omega) (by omega)) hn,js.mono (fun h=>gs bS h (by omega) (by omega)) hn,jb.mono (fun h=>gs bB h (by omega) (by omega)) hn,
  ⟨ws++[wv],by simp [k1],by rw [Wf k1];exact is,fun i h1' h2'=>?_⟩,by omega,by omega,by omega,fun c hc hcd=>(gs c (by omega) (by omega) (by omega)).trans (jsame c hc hcd),by omega,by omega,fun h=>hm (jm h),Nat.le_trans hml jml,jdp⟩
 by_cases hi:i<H.kinds.length
 ·have e1:(ws++[wv])[i]=ws[i]'(by omega):=List.getElem_append_left (by omega)
  have e2:(H.kinds++[K])[i]=H.kinds[i]:=List.getElem_append_left hi
  rw [e1]
  show Sl _ z.h z.n 1 (jA (H.kinds++[K])[i].away) _
  rw [e2]
  exact (k3 i (by omega) hi).move mv hn
 ·have hie:i=H.kinds.length:=by
   have:=h2'
   simp only [List.length_append,List.length_singleton] at this
   omega
  subst hie
  have e1:(ws++[wv])[H.kinds.length]=wv:=by rw [List.getElem_append_right (by omega)];simp [k1]
  have e2:(H.kinds++[K])[H.kinds.length]=K:=by rw [List.getElem_append_right (by omega)];simp
  rw [e1]
  show Sl _ z.h z.n 1 (jA (H.kinds++[K])[H.kinds.length].away) _
  rw [e2]
  exact hA.move mv hn
variable {u t z:St} {d p9 bW bS bB bK kk k:Nat} {H:HallR} {vW vS vB vK:AV}
theorem vHQ {cl:zR} {L:Env} {r:ORes} {i lp:Nat} {va:AV} (hr:gAJ cl L t=r) (J:HallJ u t d p9 H vW vS vB vK bW bS bB bK kk) (hA:IsAt t.h t.n lp 2 (tag 27) (H.placesI.map jC) va) (hlp:p9<lp) (hlt:lp<t.n) (hne:bW≠lp) (hi:i<H.placesI.length) (hl:H.water.length≤30) (hs:u.n+kk+100≤far) (hum:u.m≤far)
  (q9:L.find 9=.ptr p9 0) (q10:L.find 10=va) (q11:L.find 11=.int .i64 (i:Int)):∃ M z1 v1 b1,r=.ok M z1∧HallJ u z1 d p9 { H with water:=H.water++[H.placesI[i]] } v1 vS vB vK b1 bS bB bK (kk+2)∧IsAt z1.h z1.n lp 2 (tag 27) (H.placesI.map jC) va∧t.n≤b1∧z1.n=t.n+2:=by
 subst hr
 have hf:=hfar
 have jn:=J.n
 have jle:=J.le
 have jdp:=J.dp
 have jml:=J.mle
 have jlo:=J.lo
 have jne:=J.ne
 have j9:=J.g9
 have ji:=J.w
 have kv:∀ t,okA (.val vW t)=.val vW t:=ji.okA
 have kva:=hA.okA
 have hAs:Sl (fun c=>c=lp) t.h t.n 2 (H.placesI.map jC) va:=Sl.of_at hA fun _=>rfl
 obtain ⟨b,p,c,sz,⟨r1,rb⟩,r2,r3,r4⟩:=Ja hAs hi
 generalize H.placesI[i]=C at *
 obtain ⟨y,hy⟩:∃ y:St,y=t.new (.cells (jC C) 0):=⟨_,rfl⟩
 have yn:y.n=t.n+1:=by rw [hy];rfl
 have ym:y.m=t.m:=by rw [hy];rfl
 have yg:∀ c,c<t.n→y.h.get c=t.h.get c:=fun c hc=>by rw [hy,zH _ _ _ (by omega)]
 have yp:y.h.get t.n=some (.cells (jC C) 0):=by rw [hy];exact zM _ _ _ rfl (by omega)
 obtain ⟨s7,e7,l7,s7n,s7g,s7m,s7l⟩:=vI (bytes:=16) (ji.mono (h':=y.h) (n':=y.n) (fun h=>yg bW h) (by omega)) yp rfl rfl (by rw [List.length_map];omega) (by kernel_rfl) (by omega)
 have hlen:(H.water.map jC).length=H.water.length:=List.length_map ..
 rw [hlen] at e7 l7
 obtain ⟨v7,hv7⟩:∃ v7,v7=AV.slice y.n 0 (H.water.length+1) (H.water.length+1) true:=⟨_,rfl⟩
 rw [← hv7] at e7 l7
 have sc7:scalars [v7]=true:=by rw [hv7];rfl
 have cc7:cellsOf 1 v7=some [v7]:=by rw [hv7];rfl
 have gs:∀ c,c<t.n→c≠bW→s7.h.get c=t.h.get c:=fun c hc hcb=>(s7g c (by omega) hcb).trans (yg c hc)
 have s9:=(gs p9 jn (by omega)).trans j9
 simp (disch:=first|omega|with_unfolding_all rfl) only [gAJ,Abs.W,reduceIte,Nat.reduceEqDiff,Nat.reduceAdd,Nat.reduceSub,q9,q10,q11,j9,kv,kva,r2,r3,r4,Nat.zero_add]
 rw [← hy]
 simp (disch:=first|omega|with_unfolding_all rfl) only [Abs.W,reduceIte,Nat.reduceEqDiff,Nat.reduceAdd,Nat.reduceSub,e7,q9,s9,sc7,cc7,Nat.zero_add]
 have hcells:(H.water.map jC)++[jC C]=(H.water++[C]).map jC:=by rw [List.map_append];rfl
 rw [hcells] at l7
 refine ⟨_,_,v7,y.n,rfl,J.putW (zN _ _ _ _ rfl (by omega)) (l7.mono (fun _=>zL _ _ _ _ (by omega)) (by rw [jB];omega)) (by omega) (by omega) (by rw [jB];omega) (fun c hc h1 h2=>by rw [zL _ _ _ _ h2];exact gs c hc h1) (by rw [jB];omega) (by rw [jB];omega) (fun hm=>?_) ?_,?_,by omega,by rw [jB];omega⟩
 ·have:=s7m d (by omega) (by omega) (by omega)
  simp only [St.put,zQ];omega
 ·simp only [St.put,zQ];omega
 ·exact hA.mono (fun h=>by rw [zL _ _ _ _ (by omega)];exact gs lp h (by omega)) (by rw [jB];omega)
theorem vIQ {cl:zR} {L:Env} {r:ORes} {i lp:Nat} {va:AV} (hr:wzJ cl L t=r) (J:HallJ u t d p9 H vW vS vB vK bW bS bB bK kk) (hA:IsAt t.h t.n lp 2 (tag 27) (H.placesI.map jC) va) (hlp:p9<lp) (hlt:lp<t.n) (hne:bS≠lp) (hi:i<H.placesI.length) (hl:H.shut.length≤30) (hs:u.n+kk+100≤far) (hum:u.m≤far)
  (q9:L.find 9=.ptr p9 0) (q10:L.find 10=va) (q11:L.find 11=.int .i64 (i:Int)):∃ M z1 v1 b1,r=.ok M z1∧HallJ u z1 d p9 { H with shut:=H.shut++[H.placesI[i]] } vW v1 vB vK bW b1 bB bK (kk+2)∧IsAt z1.h z1.n lp 2 (tag 27) (H.placesI.map jC) va∧t.n≤b1∧z1.n=t.n+2:=by
 subst hr
 have hf:=hfar
 have jn:=J.n
 have jle:=J.le
 have jdp:=J.dp
 have jml:=J.mle
 have jlo:=J.lo
 have jne:=J.ne
 have j9:=J.g9
 have ji:=J.s
 have kv:∀ t,okA (.val vS t)=.val vS t:=ji.okA
 have kva:=hA.okA
 have hAs:Sl (fun c=>c=lp) t.h t.n 2 (H.placesI.map jC) va:=Sl.of_at hA fun _=>rfl
 obtain ⟨b,p,c,sz,⟨r1,rb⟩,r2,r3,r4⟩:=Ja hAs hi
 generalize H.placesI[i]=C at *
 obtain ⟨y,hy⟩:∃ y:St,y=t.new (.cells (jC C) 0):=⟨_,rfl⟩
 have yn:y.n=t.n+1:=by rw [hy];rfl
 have ym:y.m=t.m:=by rw [hy];rfl
 have yg:∀ c,c<t.n→y.h.get c=t.h.get c:=fun c hc=>by rw [hy,zH _ _ _ (by omega)]
 have yp:y.h.get t.n=some (.cells (jC C) 0):=by rw [hy];exact zM _ _ _ rfl (by omega)
 obtain ⟨s7,e7,l7,s7n,s7g,s7m,s7l⟩:=vI (bytes:=16) (ji.mono (h':=y.h) (n':=y.n) (fun h=>yg bS h) (by omega)) yp rfl rfl (by rw [List.length_map];omega) (by kernel_rfl) (by omega)
 have hlen:(H.shut.map jC).length=H.shut.length:=List.length_map ..
 rw [hlen] at e7 l7
 obtain ⟨v7,hv7⟩:∃ v7,v7=AV.slice y.n 0 (H.shut.length+1) (H.shut.length+1) true:=⟨_,rfl⟩
 rw [← hv7] at e7 l7
 have sc7:scalars [v7]=true:=by rw [hv7];rfl
 have cc7:cellsOf 1 v7=some [v7]:=by rw [hv7];rfl
 have gs:∀ c,c<t.n→c≠bS→s7.h.get c=t.h.get c:=fun c hc hcb=>(s7g c (by omega) hcb).trans (yg c hc)
 have s9:=(gs p9 jn (by omega)).trans j9
 simp (disch:=first|omega|with_unfolding_all rfl) only [wzJ,Abs.W,reduceIte,Nat.reduceEqDiff,Nat.reduceAdd,Nat.reduceSub,q9,q10,q11,j9,kv,kva,r2,r3,r4,Nat.zero_add]
 rw [← hy]
 simp (disch:=first|omega|with_unfolding_all rfl) only [Abs.W,reduceIte,Nat.reduceEqDiff,Nat.reduceAdd,Nat.reduceSub,e7,q9,s9,sc7,cc7,Nat.zero_add]
 have hcells:(H.shut.map jC)++[jC C]=(H.shut++[C]).map jC:=by rw [List.map_append];rfl
 rw [hcells] at l7
 refine ⟨_,_,v7,y.n,rfl,J.putS (zN _ _ _ _ rfl (by omega)) (l7.mono (fun _=>zL _ _ _ _ (by omega)) (by rw [jB];omega)) (by omega) (by omega) (by rw [jB];omega) (fun c hc h1 h2=>by rw [zL _ _ _ _ h2];exact gs c hc h1) (by rw [jB];omega) (by rw [jB];omega) (fun hm=>?_) ?_,?_,by omega,by rw [jB];omega⟩
 ·have:=s7m d (by omega) (by omega) (by omega)
  simp only [St.put,zQ];omega
 ·simp only [St.put,zQ];omega
 ·exact hA.mono (fun h=>by rw [zL _ _ _ _ (by omega)];exact gs lp h (by omega)) (by rw [jB];omega)
theorem gCJ (N:Nat) (hN:5≤N) (cx:Ctx) {i lp:Nat} {va:AV} {L:Env} (J:HallJ u t d p9 H vW vS vB vK bW bS bB bK kk) (sz:H.Size) (hA:IsAt t.h t.n lp 2 (tag 27) (H.placesI.map jC) va) (hlp:p9<lp∧lp<t.n∧bW≠lp∧bS≠lp) (hwl:H.water.length≤i) (hsl:H.shut.length≤i) (hi:i<H.placesI.length) (hs:u.n+kk+1000≤far) (hum:u.m≤far) (hdm:d≤u.m)
  (q0:L.find 0=.ptr d 0) (q9:L.find 9=.ptr p9 0) (q10:L.find 10=va) (q11:L.find 11=.int .i64 (i:Int)) :
  ∃ L1 t1 W S v1 v2 b1 b2,jlJ (call Try.prog X N) cx L [] t=.done .norm L1 [] t1∧HallJ u t1 d p9 { H with water:=W,shut:=S } v1 v2 vB vK b1 b2 bB bK (kk+4)∧IsAt t1.h t1.n lp 2 (tag 27) (H.placesI.map jC) va∧lp<t1.n∧b1≠lp∧b2≠lp∧(W=H.water∨W=H.water++[H.placesI[i]])∧(S=H.shut∨S=H.shut++[H.placesI[i]])∧L1.find 11=.int .i64 ((i+1:Nat):Int)∧∀ c,c<11→L1.find c=L.find c:=by
 have hf:=hfar
 have jn:=J.n
 have jle:=J.le
 have jdp:=J.dp
 have kva:=hA.okA
 have lva:=hA.rows.len
 have h24:=vw sz
 rw [List.length_map] at lva
 have hpl:=yj H
 have e0:decide ((i:Int)<(H.placesI.length:Int))=true:=decide_eq_true (by omega)
 have ad:∀ s,jI s .i64 (i:Int) 1=.val (.int .i64 ((i:Int)+1)) s:=fun s=>za s _ _ (by omega)
 simp (disch:=first|omega|with_unfolding_all rfl) only [jlJ,K11r5,K11r6,Abs.W,reduceIte,Nat.reduceEqDiff,Nat.reduceAdd,Nat.reduceSub,Nat.zero_add,q0,q10,q11,kva,lva,e0]
 generalize hc1:call _ _ _ (.fn 22) _ _=r1
 obtain ⟨w1,t1,rfl,st1,d1⟩:=VCA hc1 (by omega) J.die (by omega) (by omega) (by omega)
 have n1:=st1.n
 have k1:=st1.le
 have J1:=J.stir st1 d1
 have hA1:=hA.mono (h':=t1.h) (n':=t1.n) (fun h=>st1.same lp h (by omega)) n1
 have L39:∀ c,c<12→((L.set 39 (.bool true)).set 43 (.bool w1)).find c=L.find c:=fun c hc=>by simp only [efs];rw [if_neg (by omega),if_neg (by omega)]
 simp (disch:=first|omega|with_unfolding_all rfl) only [Abs.W,reduceIte,Nat.reduceEqDiff,Nat.reduceAdd,Nat.reduceSub]
 generalize hL1:Env.set 43 _ _=M1
 rw [hL1] at L39
 have hM43:M1.find 43=.bool w1:=by rw [← hL1];simp only [efs,reduceIte,Nat.reduceEqDiff]
 clear hL1
 have step1:∃ M z1 v1 b1 W,jLJ (.bool w1) (zv gAJ []) zd (call Try.prog X N) cx M1 [] t1=.done .norm M [] z1∧HallJ u z1 d p9 { H with water:=W } v1 vS vB vK b1 bS bB bK (kk+2)∧IsAt z1.h z1.n lp 2 (tag 27) (H.placesI.map jC) va∧b1≠lp∧lp<z1.n∧(W=H.water∨W=H.water++[H.placesI[i]])∧∀ c,c<12→M.find c=L.find c:=by
  cases w1 with
  | false =>
   refine ⟨M1,t1,vW,bW,H.water,?_,J1.more (by omega),hA1,hlp.2.2.1,by omega,.inl rfl,L39⟩
   simp only [Abs.W,reduceIte,Nat.reduceEqDiff,Nat.reduceAdd,Nat.reduceSub,hM43]
  | true =>
   obtain ⟨M,z1,v1,b1,k1,k2,k3,k4,k5⟩:=vHQ (cl:=call Try.prog X N) (L:=M1) rfl J1 hA1 hlp.1 (by omega) hlp.2.2.1 hi (by omega) (by omega) hum ((L39 9 (by omega)).trans q9) ((L39 10 (by omega)).trans q10) ((L39 11 (by omega)).trans q11)
   refine ⟨M1,z1,v1,b1,_,?_,k2,k3,by omega,by omega,.inr rfl,L39⟩
   simp (disch:=first|omega|with_unfolding_all rfl) only [Abs.W,reduceIte,Nat.reduceEqDiff,Nat.reduceAdd,Nat.reduceSub,hM43,k1]
 obtain ⟨M2,z1,v1,b1,W,hk1,J2,hA2,hb1,hlz,hW,L2⟩:=step1
 rw [hk1]
 clear hk1
 have j2n:=J2.n
 have j2le:=J2.le
 have L20:=(L2 0 (by omega)).trans q0
 simp (disch:=first|omega|with_unfolding_all rfl) only [yrQ,Abs.W,reduceIte,Nat.reduceEqDiff,Nat.reduceAdd,Nat.reduceSub,L20]
 generalize hc2:call _ _ _ (.fn 22) _ _=r2
 obtain ⟨w2,t2,rfl,st2,d2⟩:=VCA hc2 (by omega) J2.die (by omega) (by omega) (by omega)
 have n2:=st2.n
 have k2:=st2.le
 have J3:=J2.stir st2 d2
 have hA3:=hA2.mono (h':=t2.h) (n':=t2.n) (fun h=>st2.same lp h (by omega)) n2
 have L54:∀ c,c<12→(M2.set 54 (.bool w2)).find c=L.find c:=fun c hc=>by simp only [efs];rw [if_neg (by omega)];exact L2 c hc
 simp (disch:=first|omega|with_unfolding_all rfl) only [Abs.W,reduceIte,Nat.reduceEqDiff,Nat.reduceAdd,Nat.reduceSub]
 generalize hL3:Env.set 54 _ M2=M3
 rw [hL3] at L54
 have hM54:M3.find 54=.bool w2:=by rw [← hL3];simp only [efs,reduceIte,Nat.reduceEqDiff]
 clear hL3
 have step2:∃ M z2 v2 b2 S,jLJ (.bool w2) (zv wzJ []) zd (call Try.prog X N) cx M3 [] t2=.done .norm M [] z2∧HallJ u z2 d p9 { H with water:=W,shut:=S } v1 v2 vB vK b1 b2 bB bK (kk+4)∧IsAt z2.h z2.n lp 2 (tag 27) (H.placesI.map jC) va∧b2≠lp∧lp<z2.n∧(S=H.shut∨S=H.shut++[H.placesI[i]])∧∀ c,c<12→M.find c=L.find c:=by
  cases w2 with
  | false =>
   refine ⟨M3,t2,vS,bS,H.shut,?_,J3.more (by omega),hA3,hlp.2.2.2,by omega,.inl rfl,L54⟩
   simp only [Abs.W,reduceIte,Nat.reduceEqDiff,Nat.reduceAdd,Nat.reduceSub,hM54]
  | true =>
   obtain ⟨M,z2,v2,b2,k1,k2,k3,k4,k5⟩:=vIQ (H:={ H with water:=W }) (cl:=call Try.prog X N) (L:=M3) rfl J3 hA3 hlp.1 (by omega) hlp.2.2.2 hi (by show H.shut.length≤30;omega) (by omega) hum ((L54 9 (by omega)).trans q9) ((L54 10 (by omega)).trans q10) ((L54 11 (by omega)).trans q11)
   refine ⟨M3,z2,v2,b2,_,?_,k2,k3,by omega,by omega,.inr rfl,L54⟩
   simp (disch:=first|omega|with_unfolding_all rfl) only [Abs.W,reduceIte,Nat.reduceEqDiff,Nat.reduceAdd,Nat.reduceSub,hM54,k1]
 obtain ⟨M4,z2,v2,b2,S,hk2,J4,hA4,hb2,hlz2,hS,L4⟩:=step2
 rw [hk2]
 clear hk2
 have L411:=(L4 11 (by omega)).trans q11
 simp (disch:=first|omega|with_unfolding_all rfl) only [WRJ,Abs.W,reduceIte,Nat.reduceEqDiff,Nat.reduceAdd,Nat.reduceSub,L411,ad]
 refine ⟨_,_,W,S,v1,v2,b1,b2,rfl,J4,hA4,hlz2,hb1,hb2,hW,hS,?_,fun c hc=>?_⟩
 ·simp only [efs,reduceIte,Nat.reduceEqDiff];rfl
 ·simp only [efs]
  rw [if_neg (by omega)]
  exact L4 c (by omega)
structure Part (P:List (Int × Int)) (i:Nat) (W:List (Int × Int)):Prop where
 mem:∀ c ∈ W,c ∈ P.take i
 nd:W.Nodup
 len:W.length≤i
theorem Part.zero (P:List (Int × Int)):Part P 0 []:=⟨fun _ h=>(by cases h),List.Pairwise.nil,Nat.le_refl _⟩
theorem Part.step {P W W':List (Int × Int)} {i:Nat} (a:Part P i W) (hi:i<P.length) (hnd:P.Nodup) (h:W'=W∨W'=W++[P[i]]):Part P (i+1) W':=by
 have up:∀ c ∈ W,c ∈ P.take (i+1):=fun c hc=>by rw [yE hi];exact List.mem_append_left _ (a.mem c hc)
 rcases h with rfl | rfl
 ·exact ⟨up,a.nd,by have:=a.len;omega⟩
 ·refine ⟨fun c hc=>?_,?_,by rw [List.length_append];have:=a.len;simp;omega⟩
  ·rcases List.mem_append.mp hc with h | h
   ·exact up c h
   ·rw [List.mem_singleton.mp h,yE hi];exact List.mem_append_right _ (List.mem_singleton.mpr rfl)
  ·refine List.nodup_append.mpr ⟨a.nd,by simp,fun x hx y hy e=>?_⟩
   rw [List.mem_singleton.mp hy] at e
   exact weA hnd hi (e▸a.mem x hx)
theorem Part.all {P W:List (Int × Int)} (a:Part P P.length W):∀ c ∈ W,c ∈ P:=fun c hc=>by have:=a.mem c hc;rwa [List.take_length] at this
variable {u t z:St} {d p9 bW bS bB bK kk k:Nat} {H:HallR} {vW vS vB vK:AV}
theorem ZsJ (N:Nat) (hN:5≤N) (cx:Ctx) {lp:Nat} {va:AV} {L:Env} {r:R} (hr:jK jlJ rounds (call Try.prog X N) cx L [] t=r) (J:HallJ u t d p9 H vW vS vB vK bW bS bB bK kk) (sz:H.Size) (hA:IsAt t.h t.n lp 2 (tag 27) (H.placesI.map jC) va) (hlp:p9<lp∧lp<t.n∧bW≠lp∧bS≠lp) (hwl:H.water=[]) (hsl:H.shut=[]) (hs:u.n+kk+2000≤far) (hum:u.m≤far) (hdm:d≤u.m)
  (q0:L.find 0=.ptr d 0) (q9:L.find 9=.ptr p9 0) (q10:L.find 10=va) (q11:L.find 11=.int .i64 0) :
  ∃ L1 t1 W S v1 v2 b1 b2,r=.done (.exit 0) L1 [] t1∧HallJ u t1 d p9 { H with water:=W,shut:=S } v1 v2 vB vK b1 b2 bB bK (kk+100)∧Part H.placesI H.placesI.length W∧Part H.placesI H.placesI.length S∧∀ c,c<10→L1.find c=L.find c:=by
 have hf:=hfar
 have h24:=vw sz
 have hpl:=yj H
 have hnd:=ZpA sz.w0
 have hH:({ H with water:=[],shut:=[] }:HallR)=H:=by
  obtain ⟨a,b,c,dd,e,f,g,h⟩:=H
  simp only at hwl hsl
  subst hwl hsl
  rfl
 obtain ⟨e,L1,t1,rfl,rfl,W,S,v1,v2,b1,b2,h1,h2,h3,h4⟩:=jO hr (fun i L' t'=>∃ W S v1 v2 b1 b2,HallJ u t' d p9 { H with water:=W,shut:=S } v1 v2 vB vK b1 b2 bB bK (kk+4 * i)∧IsAt t'.h t'.n lp 2 (tag 27) (H.placesI.map jC) va∧lp<t'.n∧b1≠lp∧b2≠lp∧Part H.placesI i W∧Part H.placesI i S∧L'.find 11=.int .i64 (i:Int)∧∀ c,c<11→L'.find c=L.find c)
  (fun e L1 t1=>e=.exit 0∧∃ W S v1 v2 b1 b2,HallJ u t1 d p9 { H with water:=W,shut:=S } v1 v2 vB vK b1 b2 bB bK (kk+100)∧Part H.placesI H.placesI.length W∧Part H.placesI H.placesI.length S∧∀ c,c<10→L1.find c=L.find c) H.placesI.length (by unfold rounds;omega)
  ⟨[],[],vW,vS,bW,bS,by rw [hH];exact J,hA,hlp.2.1,hlp.2.2.1,hlp.2.2.2,Part.zero _,Part.zero _,q11,fun _ _=>rfl⟩
  (fun i L' t' hi ⟨W,S,v1,v2,b1,b2,J',hA',hlt',hb1,hb2,hW,hS,q11,qc⟩=>by
   by_cases hlt:i<H.placesI.length
   ·have hwl':=hW.len
    have hsl':=hS.len
    obtain ⟨L1,t1,W1,S1,w1,w2,c1,c2,k1,k2,k3,k4,k5,k6,k7,k8,k9,k10⟩:=gCJ N hN cx J' ⟨sz.w0,sz.w1,sz.d0,sz.d1,sz.x0,sz.x1,sz.z0,sz.z1⟩ hA' ⟨hlp.1,hlt',hb1,hb2⟩ hwl' hsl' hlt (by omega) hum hdm ((qc 0 (by omega)).trans q0) ((qc 9 (by omega)).trans q9) ((qc 10 (by omega)).trans q10) q11
    exact .inl ⟨hlt,L1,t1,k1,W1,S1,w1,w2,c1,c2,k2.more (by omega),k3,k4,k5,k6,hW.step hlt hnd k7,hS.step hlt hnd k8,k9,fun c hc=>(k10 c hc).trans (qc c hc)⟩
   ·obtain rfl:i=H.placesI.length:=by omega
    have e0:decide ((H.placesI.length:Int)<(H.placesI.length:Int))=false:=by simp
    have kva:=hA'.okA
    have lva:=hA'.rows.len
    rw [List.length_map] at lva
    have q10':=(qc 10 (by omega)).trans q10
    refine .inr ⟨.exit 0,L'.set 39 (.bool false),t',by simp,?_,rfl,W,S,v1,v2,b1,b2,J'.more (by omega),hW,hS,fun c hc=>?_⟩
    ·simp (disch:=first|omega|with_unfolding_all rfl) only [jlJ,K11r5,Abs.W,reduceIte,Nat.reduceEqDiff,Nat.reduceAdd,Nat.reduceSub,q10',q11,kva,lva,e0]
    ·simp only [efs]
     rw [if_neg (by omega)]
     exact qc c (by omega))
 exact ⟨L1,t1,W,S,v1,v2,b1,b2,rfl,h1,h2,h3,h4⟩
theorem vfJ (N:Nat) (hN:5≤N) (cx:Ctx) {i:Nat} {L:Env} (J:HallJ u t d p9 H vW vS vB vK bW bS bB bK kk) (hl:H.bears.length≤30) (hi:i≤100) (hs:u.n+kk+1000≤far) (hum:u.m≤far) (hdm:d≤u.m)
  (q0:L.find 0=.ptr d 0) (q9:L.find 9=.ptr p9 0) (q12:L.find 12=.int .i64 ((i+1:Nat):Int)) :
  ∃ L1 t1 x v1 b1,jkJ (call Try.prog X N) cx L [] t=.done .norm L1 [] t1∧HallJ u t1 d p9 { H with bears:=H.bears++[x] } vW vS v1 vK bW bS b1 bK (kk+10)∧0≤x∧x≤300∧L1.find 12=.int .i64 (i:Int)∧∀ c,c<12→L1.find c=L.find c:=by
 have hf:=hfar
 have jn:=J.n
 have jle:=J.le
 have jdp:=J.dp
 have jml:=J.mle
 have jlo:=J.lo
 have jne:=J.ne
 have j9:=J.g9
 have ji:=J.b
 have e0:decide ((0:Int)<((i+1:Nat):Int))=true:=decide_eq_true (by omega)
 have kv:∀ t,okA (.val vB t)=.val vB t:=ji.okA
 have sb:∀ s,yK s .i64 ((i+1:Nat):Int) 1=.val (.int .i64 (i:Int)) s:=fun s=>by rw [je s _ _ (by omega)];congr 2;omega
 simp (disch:=first|omega|with_unfolding_all rfl) only [jkJ,K11r12,K11r13,Abs.W,reduceIte,Nat.reduceEqDiff,Nat.reduceAdd,Nat.reduceSub,Nat.zero_add,Nat.add_zero,q0,q9,q12,j9,kv,e0]
 generalize hc1:call _ _ _ (.fn 25) _ _=r1
 obtain ⟨x1,t1,rfl,st1,d1,x10,x11⟩:=we hc1 (by omega) J.die (by show d<t.n;omega) (by show t.n+100≤far;omega) (by omega)
 have n1:t.n≤t1.n:=st1.n
 have k1:t1.n≤t.n:=st1.le
 have g1:∀ c,c<t.n→c≠d→t1.h.get c=t.h.get c:=fun c hc hcd=>st1.same c hc hcd
 simp (disch:=first|omega|with_unfolding_all rfl) only [vZ,Abs.W,reduceIte,Nat.reduceEqDiff,Nat.reduceAdd,Nat.reduceSub,q0,Nat.zero_add]
 generalize hc2:call _ _ _ (.fn 25) _ _=r2
 obtain ⟨x2,t2,rfl,st2,d2,x20,x21⟩:=we hc2 (by omega) d1 (by show d<t1.n;omega) (by show t1.n+100≤far;omega) (by omega)
 have n2:t1.n≤t2.n:=st2.n
 have k2:t2.n≤t1.n:=st2.le
 have g2:∀ c,c<t.n→c≠d→t2.h.get c=t.h.get c:=fun c hc hcd=>(st2.same c (by show c<t1.n;omega) hcd).trans (g1 c hc hcd)
 have m1:d≤t1.m:=st1.m (by show d≤far;omega)
 have m2:d≤t2.m:=st2.m (by show d≤far;omega)
 simp (disch:=first|omega|with_unfolding_all rfl) only [vZ,Abs.W,reduceIte,Nat.reduceEqDiff,Nat.reduceAdd,Nat.reduceSub,q0,Nat.zero_add]
 obtain ⟨ya,hya⟩:∃ ya:St,ya=(⟨t2.h,t2.n,yA (yA t.m t1.m) t2.m⟩:St).new (.cells [.int .i64 x1,.int .i64 x2,.int .i64 300] 0):=⟨_,rfl⟩
 have yan:ya.n=t2.n+1:=by rw [hya];rfl
 have yam:ya.m=min (min t.m t1.m) t2.m:=by rw [hya];show yA (yA t.m t1.m) t2.m=_;simp only [zQ]
 have yag:∀ c,c<t2.n→ya.h.get c=t2.h.get c:=fun c hc=>by rw [hya,zH _ _ _ (by show c≠t2.n;omega)]
 have yap:ya.h.get t2.n=some (.cells [.int .i64 x1,.int .i64 x2,.int .i64 300] 0):=by rw [hya];exact zM _ _ _ rfl (by show t2.n<_;omega)
 rw [← hya]
 generalize hc3:call _ _ _ (.fn 34) _ _=r3
 obtain ⟨x3,t3,rfl,st3,d3,hx3⟩:=VBA [x1,x2,300] (b:=t2.n) (sz:=0) hc3 (by omega) (d2.keep (yag d (by omega))) (by show d<ya.n;omega) (by show ya.n+200≤far;omega) yap (by show t2.n<ya.n;omega) (by omega) rfl (by omega) (by omega)
 have n3:ya.n≤t3.n:=st3.n
 have k3:t3.n≤ya.n:=st3.le
 have m3:d≤t3.m:=st3.m (by show d≤far;omega)
 have g3:∀ c,c<t.n→c≠d→t3.h.get c=t.h.get c:=fun c hc hcd=>(st3.same c (by show c<ya.n;omega) hcd).trans ((yag c (by omega)).trans (g2 c hc hcd))
 have hx3':0≤x3∧x3≤300:=by simp at hx3;omega
 simp (disch:=first|omega|with_unfolding_all rfl) only [vZ,Abs.W,reduceIte,Nat.reduceEqDiff,Nat.reduceAdd,Nat.reduceSub,Nat.zero_add]
 obtain ⟨y8,hy8⟩:∃ y8:St,y8=⟨t3.h,t3.n,yA ya.m t3.m⟩:=⟨_,rfl⟩
 have y8n:y8.n=t3.n:=by rw [hy8]
 have y8h:y8.h=t3.h:=by rw [hy8]
 have y8m:y8.m=min ya.m t3.m:=by rw [hy8];simp only [zQ]
 rw [← hy8]
 obtain ⟨y,hy⟩:∃ y:St,y=y8.new (.cells [.int .i64 x3] 0):=⟨_,rfl⟩
 have yn:y.n=t3.n+1:=by rw [hy];show y8.n+1=_;rw [y8n]
 have ym:y.m=y8.m:=by rw [hy];rfl
 have yg:∀ c,c<t3.n→y.h.get c=t3.h.get c:=fun c hc=>by rw [hy,zH _ _ _ (by omega),y8h]
 have yp:y.h.get t3.n=some (.cells [.int .i64 x3] 0):=by rw [hy,← y8n];exact zM _ _ _ rfl (by omega)
 have gy:∀ c,c<t.n→c≠d→y.h.get c=t.h.get c:=fun c hc hcd=>(yg c (by omega)).trans (g3 c hc hcd)
 obtain ⟨s7,e7,l7,s7n,s7g,s7m,s7l⟩:=vI (bytes:=8) (ji.mono (h':=y.h) (n':=y.n) (fun h=>gy bB h (by omega)) (by omega)) yp rfl rfl (by rw [jc];omega) (by kernel_rfl) (by omega)
 rw [jc] at e7 l7
 obtain ⟨v7,hv7⟩:∃ v7,v7=AV.slice y.n 0 (H.bears.length+1) (H.bears.length+1) true:=⟨_,rfl⟩
 rw [← hv7] at e7 l7
 rw [hy] at e7
 have e7':jT false 1 8 (tag 3) (y8.new (.cells [.int .i64 x3] 0)) vB (.slice t3.n 0 1 1 false)=.val v7 s7:=e7
 have sc7:scalars [v7]=true:=by rw [hv7];rfl
 have cc7:cellsOf 1 v7=some [v7]:=by rw [hv7];rfl
 have gs:∀ c,c<t.n→c≠bB→c≠d→s7.h.get c=t.h.get c:=fun c hc hcb hcd=>(s7g c (by omega) hcb).trans (gy c hc hcd)
 have s9:=(gs p9 jn (by omega) (by omega)).trans j9
 simp (disch:=first|omega|with_unfolding_all rfl) only [Abs.W,reduceIte,Nat.reduceEqDiff,Nat.reduceAdd,Nat.reduceSub,y8n,e7',q9,s9,sc7,cc7,Nat.zero_add]
 rw [wG (l:=[70]) (s':=t3) (by simp only [vA,vL,zK,efs,wA,(yag p9 (by omega)).trans ((g2 p9 jn (by omega)).trans j9),(g3 p9 jn (by omega)).trans j9,yx,reduceIte,Nat.reduceEqDiff,Bool.and_self])]
 rw [wG (l:=[70]) (s':=t2) (by simp only [vA,vL,zK,efs,wA,(g1 p9 jn (by omega)).trans j9,(g2 p9 jn (by omega)).trans j9,yx,reduceIte,Nat.reduceEqDiff,Bool.and_self])]
 rw [wG (l:=[70]) (s':=t1) (by simp only [vA,vL,zK,efs,wA,j9,(g1 p9 jn (by omega)).trans j9,yx,reduceIte,Nat.reduceEqDiff,Bool.and_self])]
 rw [wY _ (vH _)]
 simp (disch:=first|omega|(with_unfolding_all exact rfl)|(simp only[zW,jB,jF];omega)|(refine jU ?_;simp only[jF];omega)) only [WPJ,Abs.W,reduceIte,Nat.reduceEqDiff,Nat.reduceAdd,Nat.reduceSub,q12,sb,Nat.zero_add]
 have hcells:jA H.bears++[[AV.int .i64 x3]]=jA (H.bears++[x3]):=(Ya _ _).symm
 rw [hcells] at l7
 have JJ:HallJ u y d p9 H vW vS vB vK bW bS bB bK (kk+4):=by
  refine J.stir (k:=4) ⟨fun c hc hcd=>gy c hc hcd,by omega,by omega,fun hm=>?_,?_⟩ ((d3.keep (yg d (by omega))))
  ·omega
  ·omega
 refine ⟨_,_,x3,v7,y.n,rfl,(JJ.putB (k:=1) (zN _ _ _ _ rfl (by omega)) (l7.mono (fun _=>zL _ _ _ _ (by omega)) (by rw [jB];omega)) (by omega) (by omega) (by rw [jB];omega) (fun c hc h1 h2=>by rw [zL _ _ _ _ h2];exact s7g c hc h1) (by rw [jB];omega) (by rw [jB];omega) (fun hm=>?_) ?_).more (by omega),hx3'.1,hx3'.2,?_,fun c hc=>?_⟩
 ·have:=s7m d (by omega) (by omega) (by omega)
  simp only [St.put,zQ];omega
 ·simp only [St.put,zQ];omega
 ·simp only [efs,reduceIte,Nat.reduceEqDiff]
 ·simp only [efs]
  rw [if_neg (by omega),if_neg (by omega)]
theorem ZlJ (N:Nat) (hN:5≤N) (cx:Ctx) {m:Nat} {L:Env} {r:R} (hr:jK jkJ rounds (call Try.prog X N) cx L [] t=r) (J:HallJ u t d p9 H vW vS vB vK bW bS bB bK kk) (h0:H.bears=[]) (hm:m≤24) (hs:u.n+kk+2000≤far) (hum:u.m≤far) (hdm:d≤u.m)
  (q0:L.find 0=.ptr d 0) (q9:L.find 9=.ptr p9 0) (q12:L.find 12=.int .i64 (m:Int)) :
  ∃ L1 t1 B v1 b1,r=.done (.exit 2) L1 [] t1∧HallJ u t1 d p9 { H with bears:=B } vW vS v1 vK bW bS b1 bK (kk+300)∧B.length=m∧(∀ x ∈ B,0≤x∧x≤300)∧∀ c,c<12→L1.find c=L.find c:=by
 have hf:=hfar
 have hH:({ H with bears:=[] }:HallR)=H:=by
  obtain ⟨a,b,c,dd,e,f,g,h⟩:=H
  simp only at h0
  subst h0
  rfl
 obtain ⟨e,L1,t1,rfl,rfl,B,v1,b1,h1,h2,h3,h4⟩:=jO hr (fun i L' t'=>∃ B v1 b1,HallJ u t' d p9 { H with bears:=B } vW vS v1 vK bW bS b1 bK (kk+10 * i)∧B.length=i∧(∀ x ∈ B,0≤x∧x≤300)∧L'.find 12=.int .i64 ((m - i:Nat):Int)∧∀ c,c<12→L'.find c=L.find c)
  (fun e L1 t1=>e=.exit 2∧∃ B v1 b1,HallJ u t1 d p9 { H with bears:=B } vW vS v1 vK bW bS b1 bK (kk+300)∧B.length=m∧(∀ x ∈ B,0≤x∧x≤300)∧∀ c,c<12→L1.find c=L.find c) m (by unfold rounds;omega)
  ⟨[],vB,bB,by rw [hH];exact J,rfl,fun _ h=>(by cases h),q12,fun _ _=>rfl⟩
  (fun i L' t' hi ⟨B,v1,b1,J',hB,hx,q12,qc⟩=>by
   by_cases hlt:i<m
   ·have q12':L'.find 12=.int .i64 ((m - i - 1+1:Nat):Int):=by rw [q12];congr 2;omega
    obtain ⟨L1,t1,x,w1,c1,k1,k2,k3,k4,k5,k6⟩:=vfJ (H:={ H with bears:=B }) (i:=m - i - 1) N hN cx J' (by show B.length≤30;omega) (by omega) (by omega) hum hdm ((qc 0 (by omega)).trans q0) ((qc 9 (by omega)).trans q9) q12'
    refine .inl ⟨hlt,L1,t1,k1,B++[x],w1,c1,k2.more (by omega),by simp [hB],fun y hy=>?_,by rw [k5];congr 2,fun c hc=>(k6 c hc).trans (qc c hc)⟩
    rcases List.mem_append.mp hy with h | h
    ·exact hx y h
    ·rw [List.mem_singleton.mp h];exact ⟨k3,k4⟩
   ·obtain rfl:i=m:=by omega
    have e0:decide ((0:Int)<((i - i:Nat):Int))=false:=by simp
    refine .inr ⟨.exit 2,L'.set 67 (.bool false),t',by simp,?_,rfl,B,v1,b1,J'.more (by omega),hB,hx,fun c hc=>?_⟩
    ·simp (disch:=first|omega|with_unfolding_all rfl) only [jkJ,K11r12,Abs.W,reduceIte,Nat.reduceEqDiff,Nat.reduceAdd,Nat.reduceSub,q12,e0]
    ·simp only [efs]
     rw [if_neg (by omega)]
     exact qc c hc)
 exact ⟨L1,t1,B,v1,b1,rfl,h1,h2,h3,h4⟩
structure AwJ (t0 t:St) (d p15:Nat) (K:KindR) (wv:AV) (bA kk:Nat):Prop where
 st:Stir d t0 t kk
 die:Die d t.h
 g:t.h.get p15=some (.cells (K.row wv) (tag 49))
 is:IsAt t.h t.n bA 1 (tag 3) (jA K.away) wv
 p:t0.n≤p15∧p15<t.n
 a:t0.n≤bA∧bA≠p15∧(bA<t.n∨far<bA)
 dn:d<t0.n
theorem VaJ (N:Nat) (hN:5≤N) (cx:Ctx) {t0 t:St} {d p15 bA kk i n:Nat} {K:KindR} {wv:AV} {L:Env} (J:AwJ t0 t d p15 K wv bA kk) (hl:K.away.length≤30) (hi:i<n) (hn:n≤100) (hs:t0.n+kk+1000≤far) (h0m:t0.m≤far) (hdm:d≤t0.m)
  (q0:L.find 0=.ptr d 0) (q13:L.find 13=.int .i64 (n:Int)) (q15:L.find 15=.ptr p15 0) (q16:L.find 16=.int .i64 (i:Int)) :
  ∃ L1 t1 x v1 b1,jjJ (call Try.prog X N) cx L [] t=.done .norm L1 [] t1∧AwJ t0 t1 d p15 { K with away:=K.away++[x] } v1 b1 (kk+10)∧0≤x∧x≤9∧L1.find 16=.int .i64 ((i+1:Nat):Int)∧∀ c,c<16→L1.find c=L.find c:=by
 have hf:=hfar
 obtain ⟨jst,jdie,jg,ji,jp,ja,jdn⟩:=J
 have jn:=jst.n
 have jle:=jst.le
 have jm:=jst.m hdm
 have jml:=jst.mle
 have e0:decide ((i:Int)<(n:Int))=true:=decide_eq_true (by omega)
 have kv:∀ t,okA (.val wv t)=.val wv t:=ji.okA
 have ad:∀ s,jI s .i64 (i:Int) 1=.val (.int .i64 ((i:Int)+1)) s:=fun s=>za s _ _ (by omega)
 unfold KindR.row at jg
 simp (disch:=first|omega|with_unfolding_all rfl) only [jjJ,K11r20,K11r21,Abs.W,reduceIte,Nat.reduceEqDiff,Nat.reduceAdd,Nat.reduceSub,Nat.zero_add,Nat.add_zero,q0,q13,q15,q16,jg,kv,e0]
 generalize hc1:call _ _ _ (.fn 25) _ _=r1
 obtain ⟨x1,t1,rfl,st1,d1,x10,x11⟩:=we hc1 (by omega) jdie (by show d<t.n;omega) (by show t.n+100≤far;omega) (by omega)
 have n1:t.n≤t1.n:=st1.n
 have k1:t1.n≤t.n:=st1.le
 have m1:d≤t1.m:=st1.m (by show d≤far;omega)
 have g1:∀ c,c<t.n→c≠d→t1.h.get c=t.h.get c:=fun c hc hcd=>st1.same c hc hcd
 simp (disch:=first|omega|with_unfolding_all rfl) only [vZ,Abs.W,reduceIte,Nat.reduceEqDiff,Nat.reduceAdd,Nat.reduceSub,q0,Nat.zero_add]
 obtain ⟨ya,hya⟩:∃ ya:St,ya=(⟨t1.h,t1.n,yA t.m t1.m⟩:St).new (.cells [.int .i64 0,.int .i64 0,.int .i64 x1] 0):=⟨_,rfl⟩
 have yan:ya.n=t1.n+1:=by rw [hya];rfl
 have yam:ya.m=min t.m t1.m:=by rw [hya];show yA t.m t1.m=_;simp only [zQ]
 have yag:∀ c,c<t1.n→ya.h.get c=t1.h.get c:=fun c hc=>by rw [hya,zH _ _ _ (by show c≠t1.n;omega)]
 have yap:ya.h.get t1.n=some (.cells [.int .i64 0,.int .i64 0,.int .i64 x1] 0):=by rw [hya];exact zM _ _ _ rfl (by show t1.n<_;omega)
 rw [← hya]
 generalize hc3:call _ _ _ (.fn 34) _ _=r3
 obtain ⟨x3,t3,rfl,st3,d3,hx3⟩:=VBA [0,0,x1] (b:=t1.n) (sz:=0) hc3 (by omega) (d1.keep (yag d (by omega))) (by show d<ya.n;omega) (by show ya.n+200≤far;omega) yap (by show t1.n<ya.n;omega) (by omega) rfl (by omega) (by omega)
 have n3:ya.n≤t3.n:=st3.n
 have k3:t3.n≤ya.n:=st3.le
 have m3:d≤t3.m:=st3.m (by show d≤far;omega)
 have g3:∀ c,c<t.n→c≠d→t3.h.get c=t.h.get c:=fun c hc hcd=>(st3.same c (by show c<ya.n;omega) hcd).trans ((yag c (by omega)).trans (g1 c hc hcd))
 have hx3':0≤x3∧x3≤9:=by simp at hx3;omega
 simp (disch:=first|omega|with_unfolding_all rfl) only [vZ,Abs.W,reduceIte,Nat.reduceEqDiff,Nat.reduceAdd,Nat.reduceSub,Nat.zero_add]
 obtain ⟨y8,hy8⟩:∃ y8:St,y8=⟨t3.h,t3.n,yA ya.m t3.m⟩:=⟨_,rfl⟩
 have y8n:y8.n=t3.n:=by rw [hy8]
 have y8h:y8.h=t3.h:=by rw [hy8]
 have y8m:y8.m=min ya.m t3.m:=by rw [hy8];simp only [zQ]
 rw [← hy8]
 obtain ⟨y,hy⟩:∃ y:St,y=y8.new (.cells [.int .i64 x3] 0):=⟨_,rfl⟩
 have yn:y.n=t3.n+1:=by rw [hy];show y8.n+1=_;rw [y8n]
 have ym:y.m=y8.m:=by rw [hy];rfl
 have yg:∀ c,c<t3.n→y.h.get c=t3.h.get c:=fun c hc=>by rw [hy,zH _ _ _ (by omega),y8h]
 have yp:y.h.get t3.n=some (.cells [.int .i64 x3] 0):=by rw [hy,← y8n];exact zM _ _ _ rfl (by omega)
 have gy:∀ c,c<t.n→c≠d→y.h.get c=t.h.get c:=fun c hc hcd=>(yg c (by omega)).trans (g3 c hc hcd)
 obtain ⟨s7,e7,l7,s7n,s7g,s7m,s7l⟩:=vI (bytes:=8) (ji.mono (h':=y.h) (n':=y.n) (fun h=>gy bA h (by omega)) (by omega)) yp rfl rfl (by rw [jc];omega) (by kernel_rfl) (by omega)
 rw [jc] at e7 l7
 obtain ⟨v7,hv7⟩:∃ v7,v7=AV.slice y.n 0 (K.away.length+1) (K.away.length+1) true:=⟨_,rfl⟩
 rw [← hv7] at e7 l7
 rw [hy] at e7
 have e7':jT false 1 8 (tag 3) (y8.new (.cells [.int .i64 x3] 0)) wv (.slice t3.n 0 1 1 false)=.val v7 s7:=e7
 have sc7:scalars [v7]=true:=by rw [hv7];rfl
 have cc7:cellsOf 1 v7=some [v7]:=by rw [hv7];rfl
 have gs:∀ c,c<t.n→c≠bA→c≠d→s7.h.get c=t.h.get c:=fun c hc hcb hcd=>(s7g c (by omega) hcb).trans (gy c hc hcd)
 have s9:=(gs p15 jp.2 (by omega) (by omega)).trans jg
 simp (disch:=first|omega|with_unfolding_all rfl) only [Abs.W,reduceIte,Nat.reduceEqDiff,Nat.reduceAdd,Nat.reduceSub,y8n,e7',q15,s9,sc7,cc7,Nat.zero_add]
 rw [wG (l:=[107]) (s':=t3) (by simp only [vA,vL,zK,efs,wA,(yag p15 (by omega)).trans ((g1 p15 jp.2 (by omega)).trans jg),(g3 p15 jp.2 (by omega)).trans jg,yx,reduceIte,Nat.reduceEqDiff,Bool.and_self])]
 rw [wG (l:=[107]) (s':=t1) (by simp only [vA,vL,zK,efs,wA,jg,(g1 p15 jp.2 (by omega)).trans jg,yx,reduceIte,Nat.reduceEqDiff,Bool.and_self])]
 rw [wY _ (vH _)]
 simp (disch:=first|omega|(with_unfolding_all exact rfl)|(simp only[zW,jB,jF];omega)|(refine jU ?_;simp only[jF];omega)) only [WMJ,Abs.W,reduceIte,Nat.reduceEqDiff,Nat.reduceAdd,Nat.reduceSub,q16,ad,Nat.zero_add]
 have hcells:jA K.away++[[AV.int .i64 x3]]=jA (K.away++[x3]):=(Ya _ _).symm
 rw [hcells] at l7
 refine ⟨_,_,x3,v7,y.n,rfl,⟨⟨fun c hc hcd=>?_,by rw [jB];omega,by rw [jB];omega,fun hm=>?_,?_⟩,?_,zN _ _ _ _ rfl (by omega),l7.mono (fun _=>zL _ _ _ _ (by omega)) (by rw [jB];omega),⟨jp.1,by rw [jB];omega⟩,⟨by omega,by omega,.inl (by rw [jB];omega)⟩,jdn⟩,hx3'.1,hx3'.2,?_,fun c hc=>?_⟩
 ·rw [zL _ _ _ _ (by omega)];exact (gs c (by omega) (by omega) hcd).trans (jst.same c hc hcd)
 ·have:=s7m d (by omega) (by omega) (by omega)
  simp only [St.put,zQ];omega
 ·simp only [St.put,zQ];omega
 ·exact d3.keep (by rw [zL _ _ _ _ (by omega),s7g d (by omega) (by omega),yg d (by omega)])
 ·simp only [efs,reduceIte,Nat.reduceEqDiff];rfl
 ·simp only [efs]
  rw [if_neg (by omega),if_neg (by omega)]
theorem jgQ (N:Nat) (hN:5≤N) (cx:Ctx) {t0 t:St} {d p15 bA kk n:Nat} {K:KindR} {wv:AV} {L:Env} {r:R} (hr:jK jjJ rounds (call Try.prog X N) cx L [] t=r) (J:AwJ t0 t d p15 K wv bA kk) (h0:K.away=[]) (hn:n≤6) (hs:t0.n+kk+2000≤far) (h0m:t0.m≤far) (hdm:d≤t0.m)
  (q0:L.find 0=.ptr d 0) (q13:L.find 13=.int .i64 (n:Int)) (q15:L.find 15=.ptr p15 0) (q16:L.find 16=.int .i64 0) :
  ∃ L1 t1 A v1 b1,r=.done (.exit 6) L1 [] t1∧AwJ t0 t1 d p15 { K with away:=A } v1 b1 (kk+60)∧A.length=n∧(∀ x ∈ A,0≤x∧x≤9)∧∀ c,c<16→L1.find c=L.find c:=by
 have hf:=hfar
 have hK:({ K with away:=[] }:KindR)=K:=by
  obtain ⟨a,b,c,dd,e,f⟩:=K
  simp only at h0
  subst h0
  rfl
 obtain ⟨e,L1,t1,rfl,rfl,A,v1,b1,h1,h2,h3,h4⟩:=jO hr (fun i L' t'=>∃ A v1 b1,AwJ t0 t' d p15 { K with away:=A } v1 b1 (kk+10 * i)∧A.length=i∧(∀ x ∈ A,0≤x∧x≤9)∧L'.find 16=.int .i64 (i:Int)∧∀ c,c<16→L'.find c=L.find c)
  (fun e L1 t1=>e=.exit 6∧∃ A v1 b1,AwJ t0 t1 d p15 { K with away:=A } v1 b1 (kk+60)∧A.length=n∧(∀ x ∈ A,0≤x∧x≤9)∧∀ c,c<16→L1.find c=L.find c) n (by unfold rounds;omega)
  ⟨[],wv,bA,by rw [hK];exact J,rfl,fun _ h=>(by cases h),q16,fun _ _=>rfl⟩
  (fun i L' t' hi ⟨A,v1,b1,J',hA,hx,q16,qc⟩=>by
   have q13':=(qc 13 (by omega)).trans q13
   by_cases hlt:i<n
   ·obtain ⟨L1,t1,x,w1,c1,k1,k2,k3,k4,k5,k6⟩:=VaJ (K:={ K with away:=A }) N hN cx J' (by show A.length≤30;omega) hlt (by omega) (by omega) h0m hdm ((qc 0 (by omega)).trans q0) q13' ((qc 15 (by omega)).trans q15) q16
    refine .inl ⟨hlt,L1,t1,k1,A++[x],w1,c1,k2,by simp [hA],fun y hy=>?_,k5,fun c hc=>(k6 c hc).trans (qc c hc)⟩
    rcases List.mem_append.mp hy with h | h
    ·exact hx y h
    ·rw [List.mem_singleton.mp h];exact ⟨k3,k4⟩
   ·obtain rfl:i=n:=by omega
    have e0:decide ((i:Int)<(i:Int))=false:=by simp
    refine .inr ⟨.exit 6,L'.set 104 (.bool false),t',by simp,?_,rfl,A,v1,b1,⟨J'.st.mono (by omega),J'.die,J'.g,J'.is,J'.p,J'.a,J'.dn⟩,hA,hx,fun c hc=>?_⟩
    ·simp (disch:=first|omega|with_unfolding_all rfl) only [jjJ,K11r20,Abs.W,reduceIte,Nat.reduceEqDiff,Nat.reduceAdd,Nat.reduceSub,q13',q16,e0]
    ·simp only [efs]
     rw [if_neg (by omega)]
     exact qc c hc)
 exact ⟨L1,t1,A,v1,b1,rfl,h1,h2,h3,h4⟩
end Go.Proofs.Ytoklbkgcclkejaa.walk
set_option maxRecDepth 10000
namespace Go.Abs
theorem VkA (b:Bool):cellsOf 1 (.bool b)=some [.bool b]:=Eq.trans (Eq.refl _) (Eq.refl _)
end Go.Abs
namespace Go.Proofs.Ytoklbkgcclkejaa.walk
open Go.Abs Go.Proofs.Ytoklbkgcclkejaa.code
variable {u t z:St} {d p9 bW bS bB bK kk k:Nat} {H:HallR} {vW vS vB vK:AV}
theorem yrJ (N:Nat) (hN:6≤N) (cx:Ctx) {i n:Nat} {L:Env} (J:HallJ u t d p9 H vW vS vB vK bW bS bB bK kk) (hl:H.kinds.length≤6) (hi:i<n) (hn:n≤6) (hs:u.n+kk+3000≤far) (hum:u.m≤far) (hdm:d≤u.m)
  (q0:L.find 0=.ptr d 0) (q9:L.find 9=.ptr p9 0) (q13:L.find 13=.int .i64 (n:Int)) (q14:L.find 14=.int .i64 (i:Int)) :
  ∃ L1 t1 K v1 b1,jiJ (call Try.prog X N) cx L [] t=.done .norm L1 [] t1∧HallJ u t1 d p9 { H with kinds:=H.kinds++[K] } vW vS vB v1 bW bS bB b1 (kk+100)∧(K.Ok n∧K.rent≤100∧K.most≤10)∧L1.find 14=.int .i64 ((i+1:Nat):Int)∧∀ c,c<14→L1.find c=L.find c:=by
 have hf:=hfar
 have jn:=J.n
 have jle:=J.le
 have jdp:=J.dp
 have jml:=J.mle
 have jm:=J.m hdm
 have jlo:=J.lo
 have jne:=J.ne
 have e0:decide ((i:Int)<(n:Int))=true:=decide_eq_true (by omega)
 have ad:∀ s,jI s .i64 (i:Int) 1=.val (.int .i64 ((i:Int)+1)) s:=fun s=>za s _ _ (by omega)
 simp (disch:=first|omega|with_unfolding_all rfl) only [jiJ,K11r17,K11r18,Abs.W,reduceIte,Nat.reduceEqDiff,Nat.reduceAdd,Nat.reduceSub,Nat.zero_add,q0,q13,q14,e0]
 generalize hc1:call _ _ _ (.fn 34) _ _=r1
 obtain ⟨x1,t1,rfl,st1,d1,hx1⟩:=VBA [5,60] (b:=t.n) (sz:=0) hc1 (by omega) (J.die.keep (zH _ _ _ (by omega))) (by rw [zW];omega) (by rw [zW];omega) (zM _ _ _ rfl (by omega)) (by rw [zW];omega) (by omega) rfl (by omega) (by omega)
 have n1:=st1.n
 have k1:=st1.le
 rw [zW] at n1 k1
 have hx1':0≤x1∧x1≤60:=by simp at hx1;omega
 simp (disch:=first|omega|with_unfolding_all rfl) only [Abs.W,reduceIte,Nat.reduceEqDiff,Nat.reduceAdd,Nat.reduceSub,q0,Nat.zero_add]
 generalize hc2:call _ _ _ (.fn 41) _ _=r2
 obtain ⟨y1,y2,t2,rfl,st2,d2,y10,y11,y12⟩:=WWJ hc2 (by omega) d1 (by omega) (by omega) (by omega) (by omega) (by omega)
 have n2:=st2.n
 have k2:=st2.le
 simp (disch:=first|omega|with_unfolding_all rfl) only [Abs.W,reduceIte,Nat.reduceEqDiff,Nat.reduceAdd,Nat.reduceSub,q0]
 generalize hc3:call _ _ _ (.fn 22) _ _=r3
 obtain ⟨wb,t3,rfl,st3,d3⟩:=VCA hc3 (by omega) d2 (by omega) (by omega) (by omega)
 have n3:=st3.n
 have k3:=st3.le
 simp (disch:=first|omega|with_unfolding_all rfl) only [Abs.W,reduceIte,Nat.reduceEqDiff,Nat.reduceAdd,Nat.reduceSub,q0]
 generalize hc4:call _ _ _ (.fn 25) _ _=r4
 obtain ⟨x4,t4,rfl,st4,d4,x40,x41⟩:=we hc4 (by omega) d3 (by omega) (by omega) (by omega)
 have n4:=st4.n
 have k4:=st4.le
 simp (disch:=first|omega|with_unfolding_all rfl) only [Abs.W,reduceIte,Nat.reduceEqDiff,Nat.reduceAdd,Nat.reduceSub,q0]
 generalize hc5:call _ _ _ (.fn 35) _ _=r5
 obtain ⟨x5,t5,rfl,st5,d5,x50,x51⟩:=JS hc5 (by omega) d4 (by omega) (by omega) (by omega) (by omega) (by omega) (by omega)
 have n5:=st5.n
 have k5:=st5.le
 have S5:Stir d t t5 3:=((((((Stir.refl d t).new _).trans st1).trans st2).trans st3).trans st4).trans st5 |>.mono (by omega)
 obtain ⟨K0,hK0⟩:∃ K0:KindR,K0=⟨y1,y2,wb,[],x4,x5⟩:=⟨_,rfl⟩
 simp (disch:=first|omega|with_unfolding_all rfl) only [Abs.W,reduceIte,Nat.reduceEqDiff,Nat.reduceAdd,Nat.reduceSub,JNA,VkA,Nat.zero_add]
 obtain ⟨y,hy⟩:∃ y:St,y=(t5.new (.cells [.int .i64 0,.int .i64 0,.bool false,.nilslice,.int .i64 0,.int .i64 0] (tag 49))).put t5.n (.cells [.int .i64 y1,.int .i64 y2,.bool wb,.nilslice,.int .i64 x4,.int .i64 x5] (tag 49)):=⟨_,rfl⟩
 have Sy:Stir d t y 4:=by rw [hy];exact (S5.new _).put (by omega) _ (.inr (by omega))
 have yn:y.n=t5.n+1:=by rw [hy];rfl
 have yp:y.h.get t5.n=some (.cells (K0.row .nilslice) (tag 49)):=by rw [hy,hK0];exact zN _ _ _ _ rfl (by omega)
 have dy:Die d y.h:=d5.keep (by rw [hy,zL _ _ _ _ (by omega),zH _ _ _ (by omega)])
 rw [← hy]
 have AJ:AwJ t y d t5.n K0 .nilslice (far+9) 4:=⟨Sy,dy,yp,by rw [hK0];exact IsAt.nil _ _ _ _ _,⟨by omega,by omega⟩,⟨by omega,by omega,.inr (by omega)⟩,by omega⟩
 simp (disch:=first|omega|with_unfolding_all rfl) only [WNJ,Abs.W,reduceIte,Nat.reduceEqDiff,Nat.reduceAdd,Nat.reduceSub]
 generalize hlp:jK _ rounds _ _ _ _ _=rl
 obtain ⟨L1,t6,A,v6,b6,rfl,AJ2,hAl,hAx,L1c⟩:=jgQ N (by omega) cx hlp AJ (by rw [hK0]) hn (by omega) (by omega) jm (by simp only [efs,q0,reduceIte,Nat.reduceEqDiff]) (by simp only [efs,q13,reduceIte,Nat.reduceEqDiff]) (by simp only [efs,reduceIte,Nat.reduceEqDiff]) (by simp only [efs,reduceIte,Nat.reduceEqDiff])
 obtain ⟨jst,jdie,jg,ji,jp,ja,jdn⟩:=AJ2
 have n6:=jst.n
 have k6:=jst.le
 have J6:=J.stir jst jdie
 have m9:L1.find 9=.ptr p9 0:=(L1c 9 (by omega)).trans (by simp only [efs,q9,reduceIte,Nat.reduceEqDiff])
 have m15:L1.find 15=.ptr t5.n 0:=(L1c 15 (by omega)).trans (by simp only [efs,reduceIte,Nat.reduceEqDiff])
 have m14:L1.find 14=.int .i64 (i:Int):=(L1c 14 (by omega)).trans (by simp only [efs,q14,reduceIte,Nat.reduceEqDiff])
 have mc:∀ c,c<14→L1.find c=L.find c:=fun c hc=>(L1c c (by omega)).trans (by simp only [efs];rw [if_neg (by omega),if_neg (by omega),if_neg (by omega)])
 clear L1c
 obtain ⟨K,hK⟩:∃ K:KindR,K={ K0 with away:=A }:=⟨_,rfl⟩
 rw [← hK] at jg
 have hKe:K.lo=y1∧K.hi=y2∧K.away=A∧K.rent=x4∧K.most=x5:=by rw [hK,hK0];exact ⟨rfl,rfl,rfl,rfl,rfl⟩
 have okK:K.Ok n:=by
  obtain ⟨h1,h2,h3,h4,h5⟩:=hKe
  exact ⟨by omega,by omega,by omega,by rw [h3];exact hAl,by rw [h3];exact hAx,by omega,by omega,by omega,by omega⟩
 have j9:=J6.g9
 obtain ⟨ws,ks1,ks2,ks3⟩:=J6.k
 have kv:∀ t,okA (.val vK t)=.val vK t:=ks2.okA
 have okr:∀ t,okA (.val (.agg (K.row v6)) t)=.val (.agg (K.row v6)) t:=fun _=>rfl
 have hA6:Sl (WP p9 bW bS bB bK) t6.h t6.n 1 (jA K.away) v6:=by
  rw [hKe.2.2.1]
  have rg:=J.rg
  exact Sl.of_at ji fun h=>⟨by omega,by omega,by omega,by omega,by omega⟩
 have scr:scalars (K.row v6)=true:=by
  show scalars [v6,.int .i64 K.rent,.int .i64 K.most]=true
  rw [hA6.scal.2.2];rfl
 have ctc:cut 0 6 (K.row v6)=some (K.row v6):=by rw [yJ];exact yr (K.row v6)
 obtain ⟨w7,hw7⟩:∃ w7:St,w7=t6.new (.cells (K.row v6) 0):=⟨_,rfl⟩
 have w7n:w7.n=t6.n+1:=by rw [hw7];rfl
 have w7m:w7.m=t6.m:=by rw [hw7];rfl
 have w7g:∀ c,c<t6.n→w7.h.get c=t6.h.get c:=fun c hc=>by rw [hw7,zH _ _ _ (by omega)]
 have w7p:w7.h.get t6.n=some (.cells (K.row v6) 0):=by rw [hw7];exact zM _ _ _ rfl (by omega)
 have hkl:(yI H.kinds ws).length=H.kinds.length:=vO ks1
 obtain ⟨s7,e7,l7,s7n,s7g,s7m,s7l⟩:=vI (bytes:=64) (ks2.mono (h':=w7.h) (n':=w7.n) (fun h=>w7g bK h) (by omega)) w7p rfl scr (by omega) (by kernel_rfl) (by omega)
 rw [hkl] at e7 l7
 obtain ⟨v7,hv7⟩:∃ v7,v7=AV.slice w7.n 0 (H.kinds.length+1) (H.kinds.length+1) true:=⟨_,rfl⟩
 rw [← hv7] at e7 l7
 have sc7:scalars [v7]=true:=by rw [hv7];rfl
 have cc7:cellsOf 1 v7=some [v7]:=by rw [hv7];rfl
 have gs:∀ c,c<t6.n→c≠bK→s7.h.get c=t6.h.get c:=fun c hc hcb=>(s7g c (by omega) hcb).trans (w7g c hc)
 have s9:=(gs p9 (by omega) (by omega)).trans j9
 have hb:zz [.int .i64 0,.int .i64 0,.bool false,.nilslice,.int .i64 0,.int .i64 0] 1 [(0,6,.tmp 119)]=zz [.int .i64 0,.int .i64 0,.bool false,.nilslice,.int .i64 0,.int .i64 0] 1 [(0,6,.tmp 119)]:=rfl
 have hov:wP (K.row v6) [.int .i64 0,.int .i64 0,.bool false,.nilslice,.int .i64 0,.int .i64 0]=some (K.row v6):=rfl
 have hl6:(K.row v6).length=6:=rfl
 simp (disch:=first|omega|with_unfolding_all rfl) only [WLJ,Abs.W,reduceIte,Nat.reduceEqDiff,Nat.reduceAdd,Nat.reduceSub,m9,m15,j9,jg,kv,okr,ctc,hov,hl6,Nat.zero_add]
 rw [← hw7]
 simp (disch:=first|omega|with_unfolding_all rfl) only [WKJ,Abs.W,reduceIte,Nat.reduceEqDiff,Nat.reduceAdd,Nat.reduceSub,e7,m9,m14,s9,sc7,cc7,ad,Nat.zero_add]
 refine ⟨_,_,K,v7,w7.n,rfl,(J6.putK (k:=2) (zN _ _ _ _ rfl (by omega)) ks1 ks3 (l7.mono (fun _=>zL _ _ _ _ (by omega)) (by rw [jB];omega)) hA6 (by omega) (by omega) (by rw [jB];omega) (fun c hc h1 h2=>by rw [zL _ _ _ _ h2];exact gs c hc h1) (by rw [jB];omega) (by rw [jB];omega) (fun hm=>?_) ?_).more (by omega),⟨okK,by rw [hKe.2.2.2.1];omega,by rw [hKe.2.2.2.2];omega⟩,?_,fun c hc=>?_⟩
 ·have:=s7m d (by omega) (by omega) (by omega)
  simp only [St.put,zQ];omega
 ·simp only [St.put,zQ];omega
 ·simp only [efs,reduceIte,Nat.reduceEqDiff];rfl
 ·simp only [efs]
  rw [if_neg (by omega)]
  exact mc c hc
theorem ZOJ (N:Nat) (hN:6≤N) (cx:Ctx) {n:Nat} {L:Env} {r:R} (hr:jK jiJ rounds (call Try.prog X N) cx L [] t=r) (J:HallJ u t d p9 H vW vS vB vK bW bS bB bK kk) (h0:H.kinds=[]) (hn:n≤6) (hs:u.n+kk+5000≤far) (hum:u.m≤far) (hdm:d≤u.m)
  (q0:L.find 0=.ptr d 0) (q9:L.find 9=.ptr p9 0) (q13:L.find 13=.int .i64 (n:Int)) (q14:L.find 14=.int .i64 0) :
  ∃ L1 t1 B v1 b1,r=.done (.exit 4) L1 [] t1∧HallJ u t1 d p9 { H with kinds:=B } vW vS vB v1 bW bS bB b1 (kk+600)∧B.length=n∧(∀ x ∈ B,x.Ok n∧x.rent≤100∧x.most≤10)∧∀ c,c<13→L1.find c=L.find c:=by
 have hf:=hfar
 have hH:({ H with kinds:=[] }:HallR)=H:=by
  obtain ⟨a,b,c,dd,e,f,g,h⟩:=H
  simp only at h0
  subst h0
  rfl
 obtain ⟨e,L1,t1,rfl,rfl,B,v1,b1,h1,h2,h3,h4⟩:=jO hr (fun i L' t'=>∃ B v1 b1,HallJ u t' d p9 { H with kinds:=B } vW vS vB v1 bW bS bB b1 (kk+100 * i)∧B.length=i∧(∀ x ∈ B,x.Ok n∧x.rent≤100∧x.most≤10)∧L'.find 14=.int .i64 (i:Int)∧∀ c,c<14→L'.find c=L.find c)
  (fun e L1 t1=>e=.exit 4∧∃ B v1 b1,HallJ u t1 d p9 { H with kinds:=B } vW vS vB v1 bW bS bB b1 (kk+600)∧B.length=n∧(∀ x ∈ B,x.Ok n∧x.rent≤100∧x.most≤10)∧∀ c,c<13→L1.find c=L.find c) n (by unfold rounds;omega)
  ⟨[],vK,bK,by rw [hH];exact J,rfl,fun _ h=>(by cases h),q14,fun _ _=>rfl⟩
  (fun i L' t' hi ⟨B,v1,b1,J',hB,hx,q14,qc⟩=>by
   have q13':=(qc 13 (by omega)).trans q13
   by_cases hlt:i<n
   ·obtain ⟨L1,t1,x,w1,c1,k1,k2,k3,k4,k5⟩:=yrJ (H:={ H with kinds:=B }) N hN cx J' (by show B.length≤6;omega) hlt hn (by omega) hum hdm ((qc 0 (by omega)).trans q0) ((qc 9 (by omega)).trans q9) q13' q14
    refine .inl ⟨hlt,L1,t1,k1,B++[x],w1,c1,k2.more (by omega),by simp [hB],fun y hy=>?_,k4,fun c hc=>(k5 c hc).trans (qc c hc)⟩
    rcases List.mem_append.mp hy with h | h
    ·exact hx y h
    ·rw [List.mem_singleton.mp h];exact k3
   ·obtain rfl:i=n:=by omega
    have e0:decide ((i:Int)<(i:Int))=false:=by simp
    refine .inr ⟨.exit 4,L'.set 87 (.bool false),t',by simp,?_,rfl,B,v1,b1,J'.more (by omega),hB,hx,fun c hc=>?_⟩
    ·simp (disch:=first|omega|with_unfolding_all rfl) only [jiJ,K11r17,Abs.W,reduceIte,Nat.reduceEqDiff,Nat.reduceAdd,Nat.reduceSub,q13',q14,e0]
    ·simp only [efs]
     rw [if_neg (by omega)]
     exact qc c (by omega))
 exact ⟨L1,t1,B,v1,b1,rfl,h1,h2,h3,h4⟩
theorem HallJ.new {u t s:St} {d p9:Nat} {H:HallR} {vW vS vB vK:AV} {bW bS bB bK kk k:Nat} (J:HallJ u t d p9 H vW vS vB vK bW bS bB bK kk) (S:New t s k):HallJ u s d p9 H vW vS vB vK bW bS bB bK (kk+k) :=
 J.keep S.same S.n S.le (fun h=>by rw [S.m];exact h) (by rw [S.m];exact Nat.le_refl _)
theorem HallJ.at_ {u t:St} {d p9:Nat} {H:HallR} {vW vS vB vK:AV} {bW bS bB bK kk:Nat} (J:HallJ u t d p9 H vW vS vB vK bW bS bB bK kk):HallAt (fun c=>p9<c) t.h t.n H vW vS vB vK:=by
 have lo:=J.lo
 obtain ⟨ws,k1,k2,k3⟩:=J.k
 exact ⟨Sl.of_at J.w fun _=>by omega,Sl.of_at J.s fun _=>by omega,Sl.of_at J.b fun _=>by omega,ws,k1,Sl.of_at k2 fun _=>by omega,fun i h1 h2=>(k3 i h1 h2).move (fun c _ h=>⟨rfl,h.1⟩) (Nat.le_refl _)⟩
structure HallR.Small (H:HallR):Prop where
 b:∀ x ∈ H.bears,x≤300
 k:∀ x ∈ H.kinds,x.rent≤100∧x.most≤10
theorem vHJ {N d:Nat} {W D K:Nat} {s:St} {r:ARes} (hr:call Try.prog X N (.fn 11) [.ptr d 0,.int .i64 (W:Int),.int .i64 (D:Int),.int .i64 (K:Int)] s=r) (hN:8≤N) (hd:Die d s.h) (hdn:d<s.n) (hW:1≤W∧W≤6) (hD:1≤D∧D≤4) (hK:1≤K∧K≤6) (hs:s.n+10000≤far) :
  ∃ H vW vS vB vK t,r=.val (.agg (zP H vW vS vB vK)) t∧Stir d s t 1500∧Die d t.h∧HallR.Ok H∧HallAt (fun c=>s.n≤c) t.h t.n H vW vS vB vK∧(H.wide≤W∧H.deep≤D∧H.kinds.length≤K∧H.Small):=by
 obtain ⟨n,rfl⟩:∃ n,N=n+1:=⟨N - 1,by omega⟩
 have hf:=hfar
 obtain ⟨v,t,e,st,H,vW,vS,vB,vK,rfl,h1,h2,h3,h4⟩:=YUA (n:=n) (d:=d) (args:=[.ptr d 0,.int .i64 (W:Int),.int .i64 (D:Int),.int .i64 (K:Int)]) (s:=s) (k:=1500) (Q:=fun v h m=>∃ H vW vS vB vK,v=.agg (zP H vW vS vB vK)∧Die d h∧HallR.Ok H∧HallAt (fun c=>s.n≤c) h m H vW vS vB vK∧(H.wide≤W∧H.deep≤D∧H.kinds.length≤K∧H.Small)) Try.func11 rfl (fun u uh un um=>by
  rw [← uh] at hd
  rw [← un] at hdn ⊢
  obtain ⟨w,hw⟩:∃ w:St,w=u.new (.cells [.int .i64 0,.int .i64 0,.nilslice,.nilslice,.int .i64 0,.int .i64 0,.nilslice,.nilslice] (tag 30)):=⟨_,rfl⟩
  have wn:w.n=u.n+1:=by rw [hw];rfl
  have wm:w.m=far:=by rw [hw];exact um
  have wg:∀ c,c<u.n→w.h.get c=u.h.get c:=fun c hc=>by rw [hw,zH _ _ _ (by omega)]
  have w0:w.h.get u.n=some (.cells [.int .i64 0,.int .i64 0,.nilslice,.nilslice,.int .i64 0,.int .i64 0,.nilslice,.nilslice] (tag 30)):=by rw [hw];exact zM _ _ _ rfl (by omega)
  rw [jXQ]
  simp (disch:=first|omega|with_unfolding_all rfl) only [K11,K11r0,Abs.W,reduceIte,Nat.reduceEqDiff,Nat.reduceAdd,Nat.reduceSub]
  rw [← hw]
  simp (disch:=first|omega|with_unfolding_all rfl) only [yuQ,Abs.W,reduceIte,Nat.reduceEqDiff,Nat.reduceAdd,Nat.reduceSub]
  generalize hc1:call _ _ _ (.fn 35) _ _=r1
  obtain ⟨x1,t1,rfl,st1,d1,x10,x11⟩:=JS hc1 (by omega) (hd.keep (wg d hdn)) (by omega) (by omega) (by omega) (by omega) (by omega) (by omega)
  have n1:=st1.n
  have k1:=st1.le
  simp (disch:=first|omega|with_unfolding_all rfl) only [Abs.W,reduceIte,Nat.reduceEqDiff,Nat.reduceAdd,Nat.reduceSub]
  generalize hc2:call _ _ _ (.fn 35) _ _=r2
  obtain ⟨x2,t2,rfl,st2,d2,x20,x21⟩:=JS hc2 (by omega) d1 (by omega) (by omega) (by omega) (by omega) (by omega) (by omega)
  have n2:=st2.n
  have k2:=st2.le
  obtain ⟨a1,rfl⟩:=Int.eq_ofNat_of_zero_le (show 0≤x1 by omega)
  obtain ⟨a2,rfl⟩:=Int.eq_ofNat_of_zero_le (show 0≤x2 by omega)
  simp (disch:=first|omega|with_unfolding_all rfl) only [Abs.W,reduceIte,Nat.reduceEqDiff,Nat.reduceAdd,Nat.reduceSub,Nat.zero_add]
  obtain ⟨y,hy⟩:∃ y:St,y=(t2.new (.cells [.int .i64 0,.int .i64 0,.nilslice,.nilslice,.int .i64 0,.int .i64 0,.nilslice,.nilslice] (tag 30))).put t2.n (.cells [.int .i64 (a1:Int),.int .i64 (a2:Int),.nilslice,.nilslice,.int .i64 0,.int .i64 0,.nilslice,.nilslice] (tag 30)):=⟨_,rfl⟩
  have yn:y.n=t2.n+1:=by rw [hy];rfl
  have ym:y.m=min t2.m t2.n:=by rw [hy];simp only [St.put,zQ,jF]
  have S2:Stir d w t2 0:=(st1.trans st2).mono (by omega)
  have Sy:Stir d w y 1:=by rw [hy];exact (S2.new _).put (by omega) _ (.inr (by omega))
  have yp:y.h.get t2.n=some (.cells [.int .i64 (a1:Int),.int .i64 (a2:Int),.nilslice,.nilslice,.int .i64 0,.int .i64 0,.nilslice,.nilslice] (tag 30)):=by rw [hy];exact zN _ _ _ _ rfl (by omega)
  have dy:Die d y.h:=d2.keep (by rw [hy,zL _ _ _ _ (by omega),zH _ _ _ (by omega)])
  rw [← hy]
  have tn2:t2.n=u.n+1:=by omega
  have my:=Sy.m (by omega)
  have myl:=Sy.mle
  simp (disch:=first|omega|with_unfolding_all rfl) only [ytQ,Abs.W,reduceIte,Nat.reduceEqDiff,Nat.reduceAdd,Nat.reduceSub,yp,Nat.zero_add,Nat.add_zero]
  generalize hc3:call _ _ _ (.fn 35) _ _=r3
  obtain ⟨x3,t3,rfl,st3,d3,x30,x31⟩:=JS hc3 (by omega) dy (by show d<y.n;omega) (by show y.n+200≤far;omega) (by omega) (by omega) (by omega) (by omega)
  have n3:y.n≤t3.n:=st3.n
  have k3:t3.n≤y.n:=st3.le
  have m3:d≤t3.m:=st3.m (by show d≤far;omega)
  have g3:∀ c,c<y.n→c≠d→t3.h.get c=y.h.get c:=fun c hc hcd=>st3.same c hc hcd
  have p3:=(g3 t2.n (by omega) (by omega)).trans yp
  simp (disch:=first|omega|with_unfolding_all rfl) only [vZ,Abs.W,reduceIte,Nat.reduceEqDiff,Nat.reduceAdd,Nat.reduceSub,p3,Nat.zero_add]
  obtain ⟨ya,hya⟩:∃ ya:St,ya=⟨t3.h,t3.n,yA y.m t3.m⟩:=⟨_,rfl⟩
  have yan:ya.n=t3.n:=by rw [hya]
  have yah:ya.h=t3.h:=by rw [hya]
  have yam:ya.m=min y.m t3.m:=by rw [hya];simp only [zQ]
  rw [← hya]
  generalize hc4:call _ _ _ (.fn 35) _ _=r4
  obtain ⟨x4,t4,rfl,st4,d4,x40,x41⟩:=JS hc4 (by omega) (by rw [yah];exact d3) (by omega) (by omega) (by omega) (by omega) (by omega) (by omega)
  have n4:=st4.n
  have k4:=st4.le
  have m4:d≤t4.m:=st4.m (by omega)
  have m4l:=st4.mle
  have p4:t4.h.get t2.n=_:=(st4.same t2.n (by omega) (by omega)).trans ((congrArg (fun h=>h.get t2.n) yah).trans p3)
  obtain ⟨a3,rfl⟩:=Int.eq_ofNat_of_zero_le (show 0≤x3 by omega)
  obtain ⟨a4,rfl⟩:=Int.eq_ofNat_of_zero_le (show 0≤x4 by omega)
  simp (disch:=first|omega|with_unfolding_all rfl) only [Abs.W,reduceIte,Nat.reduceEqDiff,Nat.reduceAdd,Nat.reduceSub,p4,Nat.zero_add]
  rw [wG (l:=[29]) (s':=t3) (by simp only [vA,vL,zK,efs,wA,yp,p3,yx,reduceIte,Nat.reduceEqDiff,Bool.and_self])]
  rw [wY _ (vH _)]
  obtain ⟨H0,hH0⟩:∃ H0:HallR,H0=⟨a1,a2,[],[],a3,a4,[],[]⟩:=⟨_,rfl⟩
  obtain ⟨z,hz⟩:∃ z:St,z=t4.put t2.n (.cells (zP H0 .nilslice .nilslice .nilslice .nilslice) (tag 30)):=⟨_,rfl⟩
  have zn:z.n=t4.n:=by rw [hz];rfl
  have zm:z.m=min t4.m t2.n:=by rw [hz];simp only [St.put,zQ]
  have zp:z.h.get t2.n=some (.cells (zP H0 .nilslice .nilslice .nilslice .nilslice) (tag 30)):=by rw [hz];exact zN _ _ _ _ rfl (by omega)
  have hz':t4.put t2.n (AObj.cells [AV.int IntKind.i64 ↑a1,AV.int IntKind.i64 ↑a2,AV.nilslice,AV.nilslice,AV.int IntKind.i64 ↑a3,AV.int IntKind.i64 ↑a4,AV.nilslice,AV.nilslice] (tag 30))=z:=by rw [hz,hH0]
  simp (disch:=first|omega|with_unfolding_all rfl) only [Abs.W,reduceIte,Nat.reduceEqDiff,Nat.reduceAdd,Nat.reduceSub,hz']
  clear hz'
  have sz:H0.Size:=by rw [hH0];exact ⟨by simp only;omega,by simp only;omega,by simp only;omega,by simp only;omega,by simp only;omega,by simp only;omega,by simp only;omega,by simp only;omega⟩
  have J0:HallJ w z d t2.n H0 .nilslice .nilslice .nilslice .nilslice (far+1) (far+2) (far+3) (far+4) 1:=by
   have hw0:H0.water=[]∧H0.shut=[]∧H0.bears=[]∧H0.kinds=[]:=by rw [hH0];exact ⟨rfl,rfl,rfl,rfl⟩
   refine ⟨d4.keep (by rw [hz,zL _ _ _ _ (by omega)]),zp,by rw [hw0.1];exact IsAt.nil _ _ _ _ _,by rw [hw0.2.1];exact IsAt.nil _ _ _ _ _,by rw [hw0.2.2.1];exact IsAt.nil _ _ _ _ _,⟨[],(by rw [hw0.2.2.2];rfl),by rw [hw0.2.2.2];exact IsAt.nil _ _ _ _ _,fun i h1=>absurd h1 (Nat.not_lt_zero _)⟩,by omega,by omega,by omega,fun c hc hcd=>?_,by omega,by omega,fun _=>by omega,by omega,by omega⟩
   rw [hz,zL _ _ _ _ (by omega),st4.same c (by omega) hcd,yah,g3 c (by omega) hcd]
   exact Sy.same c (by omega) hcd
  have hw0:H0.water=[]∧H0.shut=[]∧H0.bears=[]∧H0.kinds=[]:=by rw [hH0];exact ⟨rfl,rfl,rfl,rfl⟩
  have hHs:H0.wide=a1∧H0.deep=a2:=by rw [hH0];exact ⟨rfl,rfl⟩
  clear hH0 hz hy hw
  simp (disch:=first|omega|with_unfolding_all rfl) only [ysQ,K11r4,Abs.W,reduceIte,Nat.reduceEqDiff,Nat.reduceAdd,Nat.reduceSub,zp,Nat.zero_add]
  generalize hc5:call _ _ _ (.fn 40) _ _=r5
  obtain ⟨va,t5,lp,rfl,st5,lp1,lp2,hA⟩:=JXA hc5 (by omega) sz (by omega)
  have n5:=st5.n
  have k5:=st5.le
  have J1:=J0.new st5
  have kva:=hA.okA
  simp (disch:=first|omega|with_unfolding_all rfl) only [Abs.W,reduceIte,Nat.reduceEqDiff,Nat.reduceAdd,Nat.reduceSub,kva]
  generalize hlp:jK _ rounds _ _ _ _ _=rl1
  obtain ⟨L1,t6,WW,SS,v1,v2,b1,b2,rfl,J2,hP1,hP2,L1c⟩:=ZsJ n (by omega) _ hlp J1 sz hA ⟨by omega,by omega,by omega,by omega⟩ hw0.1 hw0.2.1 (by omega) (by omega) (by omega) (by simp only [zK,efs,reduceIte,Nat.reduceEqDiff]) (by simp only [zK,efs,reduceIte,Nat.reduceEqDiff]) (by simp only [zK,efs,reduceIte,Nat.reduceEqDiff]) (by simp only [zK,efs,reduceIte,Nat.reduceEqDiff])
  have j2n:=J2.n
  have j2le:=J2.le
  have g6:=J2.g9
  have l0:L1.find 0=.ptr d 0:=(L1c 0 (by omega)).trans (by simp only [zK,efs,reduceIte,Nat.reduceEqDiff])
  have l3:L1.find 3=.int .i64 (K:Int):=(L1c 3 (by omega)).trans (by simp only [zK,efs,reduceIte,Nat.reduceEqDiff])
  have l8:L1.find 8=.ptr u.n 0:=(L1c 8 (by omega)).trans (by simp only [zK,efs,reduceIte,Nat.reduceEqDiff])
  have l9:L1.find 9=.ptr t2.n 0:=(L1c 9 (by omega)).trans (by simp only [zK,efs,reduceIte,Nat.reduceEqDiff])
  clear L1c
  have k1':∀ t,okA (.val v1 t)=.val v1 t:=J2.w.okA
  have k2':∀ t,okA (.val v2 t)=.val v2 t:=J2.s.okA
  have eb:call Try.prog X n (.fn 36) [.agg (zP { H0 with water:=WW,shut:=SS } v1 v2 .nilslice .nilslice)] t6=.val (.int .i64 (H0.bays:Int)) t6:=Wt n (by omega) { H0 with water:=WW,shut:=SS } ⟨sz.w0,sz.w1,sz.d0,sz.d1,sz.x0,sz.x1,sz.z0,sz.z1⟩ v1 v2 _ _ t6 (by omega)
  simp (disch:=first|omega|with_unfolding_all rfl) only [WQJ,Abs.W,reduceIte,Nat.reduceEqDiff,Nat.reduceAdd,Nat.reduceSub,l9,g6,eb,Nat.zero_add]
  generalize hlp2:jK _ rounds _ _ _ _ _=rl2
  have hb24:=vY sz
  obtain ⟨L2,t7,B,v3,b3,rfl,J3,hB1,hB2,L2c⟩:=ZlJ n (by omega) _ hlp2 J2 hw0.2.2.1 hb24 (by omega) (by omega) (by omega) (by simp only [efs,l0,reduceIte,Nat.reduceEqDiff]) (by simp only [efs,l9,reduceIte,Nat.reduceEqDiff]) (by simp only [efs,reduceIte,Nat.reduceEqDiff])
  have j3n:=J3.n
  have j3le:=J3.le
  have m0:L2.find 0=.ptr d 0:=(L2c 0 (by omega)).trans (by simp only [efs,l0,reduceIte,Nat.reduceEqDiff])
  have m3':L2.find 3=.int .i64 (K:Int):=(L2c 3 (by omega)).trans (by simp only [efs,l3,reduceIte,Nat.reduceEqDiff])
  have m8:L2.find 8=.ptr u.n 0:=(L2c 8 (by omega)).trans (by simp only [efs,l8,reduceIte,Nat.reduceEqDiff])
  have m9:L2.find 9=.ptr t2.n 0:=(L2c 9 (by omega)).trans (by simp only [efs,l9,reduceIte,Nat.reduceEqDiff])
  clear L2c
  simp (disch:=first|omega|with_unfolding_all rfl) only [WOJ,K11r16,Abs.W,reduceIte,Nat.reduceEqDiff,Nat.reduceAdd,Nat.reduceSub,m0,m3']
  generalize hc6:call _ _ _ (.fn 35) _ _=r6
  obtain ⟨x6,t8,rfl,st8,d8,x60,x61⟩:=JS hc6 (by omega) J3.die (by omega) (by omega) (by omega) (by omega) (by omega) (by omega)
  have n8:=st8.n
  have k8:=st8.le
  have J4:=J3.stir st8 d8
  obtain ⟨kn,rfl⟩:=Int.eq_ofNat_of_zero_le (show 0≤x6 by omega)
  simp (disch:=first|omega|with_unfolding_all rfl) only [Abs.W,reduceIte,Nat.reduceEqDiff,Nat.reduceAdd,Nat.reduceSub]
  generalize hlp3:jK _ rounds _ _ _ _ _=rl3
  obtain ⟨L3,t9,KK,v4,b4,rfl,J5,hK1,hK2,L3c⟩:=ZOJ n (by omega) _ hlp3 J4 hw0.2.2.2 (show kn≤6 by omega) (by omega) (by omega) (by omega) (by simp only [efs,m0,reduceIte,Nat.reduceEqDiff]) (by simp only [efs,m9,reduceIte,Nat.reduceEqDiff]) (by simp only [efs,reduceIte,Nat.reduceEqDiff]) (by simp only [efs,reduceIte,Nat.reduceEqDiff])
  have j5n:=J5.n
  have j5le:=J5.le
  have q8:L3.find 8=.ptr u.n 0:=(L3c 8 (by omega)).trans (by simp only [efs,m8,reduceIte,Nat.reduceEqDiff])
  have q9:L3.find 9=.ptr t2.n 0:=(L3c 9 (by omega)).trans (by simp only [efs,m9,reduceIte,Nat.reduceEqDiff])
  clear L3c
  obtain ⟨H,hH⟩:∃ H:HallR,H=⟨H0.wide,H0.deep,WW,SS,H0.bx,H0.bz,B,KK⟩:=⟨_,rfl⟩
  have J6:HallJ w t9 d t2.n H v1 v2 v3 v4 b1 b2 b3 b4 (1+60+100+300+0+600):=by rw [hH];exact J5
  have g9:=J6.g9
  have gu:t9.h.get u.n=_:=(J6.same u.n (by omega) (by omega)).trans w0
  have hHa:=J6.at_
  have okH:H.Ok:=by
   have hin:∀ c ∈ H0.placesI,H0.In c:=fun c hc=>by
    obtain ⟨i,hi,rfl⟩:=List.getElem_of_mem hc
    exact Ww sz.w0 hi
   have h24:=vw sz
   have hpl:=yj H0
   rw [hH]
   exact ⟨⟨sz.w0,sz.w1,sz.d0,sz.d1,sz.x0,sz.x1,sz.z0,sz.z1⟩,fun c hc=>hin c (hP1.all c hc),hP1.nd,by have:=hP1.len;show WW.length≤24;omega,fun c hc=>hin c (hP2.all c hc),hP2.nd,by have:=hP2.len;show SS.length≤24;omega,hB1,fun x hx=>⟨(hB2 x hx).1,by have:=(hB2 x hx).2;omega⟩,by show 1≤KK.length;omega,by show KK.length≤6;omega,fun x hx=>by show x.Ok KK.length;rw [hK1];exact (hK2 x hx).1⟩
  have hSm:H.Small:=by
   rw [hH]
   exact ⟨fun x hx=>(hB2 x hx).2,fun x hx=>(hK2 x hx).2⟩
  have hHw:H.wide=a1∧H.deep=a2∧H.kinds.length=kn:=by rw [hH];exact ⟨hHs.1,hHs.2,hK1⟩
  have scH:=hHa.scal
  have okh:∀ t,okA (.val (.agg (zP H v1 v2 v3 v4)) t)=.val (.agg (zP H v1 v2 v3 v4)) t:=fun _=>rfl
  have st9:jM 8 t9 (.agg (zP H v1 v2 v3 v4)) (.ptr u.n 0)=.val .undef (t9.put u.n (.cells (zP H v1 v2 v3 v4) (tag 30))):=jk t9 8 _ _ _ _ gu rfl rfl scH
  clear hH
  simp (disch:=first|omega|with_unfolding_all rfl) only [WJJ,Abs.W,reduceIte,Nat.reduceEqDiff,Nat.reduceAdd,Nat.reduceSub,q8,q9,g9,okh,st9,Nat.zero_add]
  rw [res11]
  have shF:yH Try.prog 30=some (some 8):=by kernel_rfl
  refine ⟨_,_,yz _ _ _ _ shF (v:=.agg (zP H v1 v2 v3 v4)) ?_,⟨fun c hc hcd=>?_,by rw [jB];omega,by rw [jB];omega,fun hm=>?_,?_⟩,?_,H,v1,v2,v3,v4,rfl,?_,okH,?_,by omega,by omega,by omega,hSm⟩
  ·rw [q8,vt,zN _ _ _ _ rfl (by omega),vg,ve,yJ,show (8:Nat)=(zP H v1 v2 v3 v4).length from rfl,yr];rfl
  ·rw [zL _ _ _ _ (by omega),J6.same c (by omega) hcd];exact wg c hc
  ·have:=J6.m (by omega)
   simp only [St.put,zQ];omega
  ·have:=J6.mle
   simp only [St.put,zQ];omega
  ·obtain ⟨ws,ks1,ks2,ks3⟩:=hHa.k
   rcases ks2.is with ⟨z1,_⟩ | ⟨b,o,cap,e,c,sz',_,_,_,z4,_⟩
   ·have:=congrArg List.length z1
    rw [vO ks1,List.length_nil] at this
    have:=okH.k0
    omega
   ·show plains (zP H v1 v2 v3 v4)=false
    have e1:∀ (v:AV) (l:List AV),plains (v::l)=(match plain v with | true=>plains l | false=>false):=fun v l=>by rw [plains];cases plain v<;>rfl
    have e2:plain v4=false:=by rw [z4];rfl
    have e3:plain v3=true∨plain v3=false:=by cases plain v3<;>simp
    simp only [e1,e2]
    cases plain v1<;>cases plain v2<;>cases plain v3<;>rfl
  ·exact J6.die.keep (zL _ _ _ _ (by omega))
  ·exact hHa.move (fun c h1 h2=>⟨zL _ _ _ _ (by omega),by omega⟩) (by rw [jB];omega)) (by omega)
 exact ⟨H,vW,vS,vB,vK,t,hr.symm.trans e,st,h1,h2,h3,h4⟩
theorem ZZJ {N d:Nat} {W D K:Nat} {s:St} {r:ARes} (hr:call Try.prog X N (.fn 11) [.ptr d 0,.int .i64 (W:Int),.int .i64 (D:Int),.int .i64 (K:Int)] s=r) (hN:8≤N) (hd:Die d s.h) (hdn:d<s.n) (hW:1≤W∧W≤6) (hD:1≤D∧D≤4) (hK:1≤K∧K≤6) (hs:s.n+10000≤far) :
  ∃ H vW vS vB vK t,r=.val (.agg (zP H vW vS vB vK)) t∧Stir d s t 1500∧Die d t.h∧HallR.Ok H∧HallAt (fun c=>s.n≤c) t.h t.n H vW vS vB vK∧(H.wide≤W∧H.deep≤D∧H.kinds.length≤K):=by
 obtain ⟨H,vW,vS,vB,vK,t,h1,h2,h3,h4,h5,h6,h7,h8,_⟩:=vHJ hr hN hd hdn hW hD hK hs
 exact ⟨H,vW,vS,vB,vK,t,h1,h2,h3,h4,h5,h6,h7,h8⟩
end Go.Proofs.Ytoklbkgcclkejaa.walk
