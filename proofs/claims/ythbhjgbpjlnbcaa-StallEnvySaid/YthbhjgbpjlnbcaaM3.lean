/- Numbers in another order: Shuffle; calls that may turn a block. -/
import Derived.Test.YthbhjgbpjlnbcaaM1
import Derived.Test.YthbhjgbpjlnbcaaM2
import Derived.Test.YthbhjgbpjlnbcaaCodes
import Derived.KernelRfl
import Derived.Test.YthbhjgbpjlnbcaaWalkAll
set_option maxHeartbeats 16000000
set_option linter.unusedVariables false
set_option maxRecDepth 10000
namespace Go.Proofs.Ythbhjgbpjlnbcaa.walk
open Go.Abs Go.Proofs.Ythbhjgbpjlnbcaa.code
theorem Die.keep {d:Nat} {h h':Heap} (D:Die d h) (e:h'.get d=h.get d):Die d h':=by obtain ⟨f,hf⟩:=D;exact ⟨f,e.trans hf⟩
theorem Die.new {d:Nat} {s:St} (h:Die d s.h) (hd:d<s.n) (o:AObj):Die d (s.new o).h:=by obtain ⟨f,hf⟩:=h;exact ⟨f,by rw [get_new_ne _ _ _ (by omega)];exact hf⟩
structure Perm (i:Nat) (f:List Nat):Prop where
 lt:∀ p,p<i→f.getD p 0<i
 all:∀ j,j<i→∃ p,p<i∧f.getD p 0=j
def mix (f:List Nat) (i k:Nat):List Nat:=(f.set i (f.getD k 0)).set k i
theorem getD_set {f:List Nat} {i x p:Nat} (hi:i<f.length):(f.set i x).getD p 0=if i=p then x else f.getD p 0:=by
 simp only [List.getD_eq_getElem?_getD,List.getElem?_set]
 by_cases h:i=p
 ·subst h;simp [hi]
 ·simp [h]
theorem mix_at {f:List Nat} {i k p:Nat} (hi:i<f.length) (hk:k<f.length):(mix f i k).getD p 0=if k=p then i else if i=p then f.getD k 0 else f.getD p 0:=by
 unfold mix
 rw [getD_set (by rw [List.length_set];exact hk),getD_set hi]
theorem Perm.step {i k:Nat} {f:List Nat} (h:Perm i f) (hi:i<f.length) (hk:k≤i):Perm (i+1) (mix f i k):=by
 refine ⟨fun p hp=>?_,fun j hj=>?_⟩
 ·rw [mix_at hi (by omega)]
  by_cases h1:k=p
  ·rw [if_pos h1];omega
  ·rw [if_neg h1]
   by_cases h2:i=p
   ·rw [if_pos h2]
    have:=h.lt k (by omega)
    omega
   ·rw [if_neg h2]
    have:=h.lt p (by omega)
    omega
 ·by_cases hji:j=i
  ·exact ⟨k,by omega,by rw [mix_at hi (by omega),if_pos rfl];exact hji.symm⟩
  ·obtain ⟨p,hp,e⟩:=h.all j (by omega)
   by_cases hpk:p=k
   ·refine ⟨i,by omega,?_⟩
    rw [mix_at hi (by omega),if_neg (by omega),if_pos rfl,← hpk]
    exact e
   ·refine ⟨p,by omega,?_⟩
    rw [mix_at hi (by omega),if_neg (by omega),if_neg (by omega)]
    exact e
def natRows (f:List Nat):List (List AV):=intRows (f.map Int.ofNat)
theorem natRows_len (f:List Nat):(natRows f).length=f.length:=by unfold natRows;rw [intRows_len,List.length_map]
theorem natRows_wide (f:List Nat):∀ r ∈ natRows f,r.length=1:=fun r hr=>by
 unfold natRows intRows at hr
 obtain ⟨x,_,rfl⟩:=List.mem_map.mp hr
 rfl
theorem natRows_at {f:List Nat} {k:Nat} (hk:k<f.length):(natRows f)[k]'(by rw [natRows_len];exact hk)=[.int .i64 (f.getD k 0:Nat)]:=by
 unfold natRows intRows
 simp [List.getD,hk]
theorem natRows_nth {f:List Nat} {k:Nat} (hk:k<f.length):nth (natRows f).flatten k=.int .i64 (f.getD k 0:Nat):=by
 have:=flatten_cut (natRows_wide f) (show k<(natRows f).length by rw [natRows_len];exact hk)
 rw [natRows_at hk,Nat.mul_one] at this
 exact cut1_nth this
theorem natRows_set (f:List Nat) (k x:Nat):(natRows f).set k [.int .i64 (x:Int)]=natRows (f.set k x):=by
 unfold natRows intRows
 rw [List.map_set,List.map_set]
 rfl
theorem natRows_over {f:List Nat} {k:Nat} (hk:k<f.length) (x:Nat):over k [.int .i64 (x:Int)] (natRows f).flatten=some (natRows (f.set k x)).flatten:=by
 have:=over_flatten (row:=[.int .i64 (x:Int)]) (natRows_wide f) (show k<(natRows f).length by rw [natRows_len];exact hk) rfl
 rw [Nat.mul_one,natRows_set] at this
 exact this
structure ShufJ (u t:St) (d m i:Nat) (f:List Nat):Prop where
 die:Die d t.h
 get:t.h.get u.n=some (.cells (natRows f).flatten 0)
 same:∀ c,c<u.n→c≠d→t.h.get c=u.h.get c
 n:t.n=u.n+1
 tm:d≤t.m
 mle:t.m≤far
 len:f.length=m
 perm:Perm i f
theorem shuf_round (N:Nat) (hN:6≤N) (cx:Ctx) {d m i:Nat} {f:List Nat} {u t:St} {L:Env} (hJ:ShufJ u t d m i f) (hi:i<m) (hm:m≤50) (hd:d<u.n) (hs:u.n+1000≤far) (q0:L.find 0=.ptr d 0) (q5:L.find 5=.slice u.n 0 m m false) (q6:L.find 6=.int .i64 i) :
  ∃ L1 t1 f1,K34l0 (call Try.prog X N) cx L [] t=.done .norm L1 [] t1∧ShufJ u t1 d m (i+1) f1∧L1.find 0=.ptr d 0∧L1.find 5=.slice u.n 0 m m false∧L1.find 6=.int .i64 (i+1:Nat):=by
 have hf:far=1000000000:=rfl
 obtain ⟨jd,jg,js,jn,jm,jl,jlen,jp⟩:=hJ
 have e0:decide ((i:Int)<(m:Int))=true:=decide_eq_true (by omega)
 have ad:∀ s,aAdd s .i64 (i:Int) 1=.val (.int .i64 ((i:Int)+1)) s:=fun s=>aAdd_i64 s _ _ (by omega)
 have okR:∀ t,okA (.val (.slice u.n 0 m m false) t)=.val (.slice u.n 0 m m false) t:=fun _=>rfl
 have lnR:∀ s,lenSlA s (.slice u.n 0 m m false)=.val (.int .i64 (m:Int)) s:=fun _=>rfl
 have ixR:∀ s k,k<m→ixsA 1 s (.slice u.n 0 m m false) (.int .i64 (k:Int))=.val (.ptr u.n k) s:=fun s k hk=>by rw [ixs_slice _ _ _ _ _ _ _ _ hk,Nat.zero_add,Nat.mul_one]
 simp (disch:=first|omega|(with_unfolding_all exact rfl)|(simp only[new_n,put_n,new_m];omega)|(refine put_m_le ?_;simp only[new_m];omega)) only [K34r3,K34r4,K34r5,K34r6,K34r7,K34l0,Abs.W,reduceIte,Nat.reduceEqDiff,efs,q0,q5,q6,lnR,e0,ad]
 generalize hc:call _ _ _ (.fn 15) _ _=r
 obtain ⟨x,t1,rfl,st,d1,x0,x1⟩:=cast_ex hc (by omega) jd (by omega) (by omega) (by omega)
 obtain ⟨k,rfl⟩:∃ n:Nat,x=n:=⟨x.toNat,by omega⟩
 have n1:t.n≤t1.n:=st.n
 have k1:t1.n≤t.n:=st.le
 have g1:=(st.same u.n (by omega) (by omega)).trans jg
 have m1:=st.m jm
 have l1:=st.mle
 have nk:=natRows_nth (f:=f) (k:=k) (by omega)
 have o1:=natRows_over (f:=f) (k:=i) (by omega) (f.getD k 0)
 have o2:=natRows_over (f:=f.set i (f.getD k 0)) (k:=k) (by rw [List.length_set];omega) i
 have i1:∀ s,ixsA 1 s (.slice u.n 0 m m false) (.int .i64 (k:Int))=.val (.ptr u.n k) s:=fun s=>ixR s k (by omega)
 have i2:∀ s,ixsA 1 s (.slice u.n 0 m m false) (.int .i64 (i:Int))=.val (.ptr u.n i) s:=fun s=>ixR s i hi
 simp (disch:=first|omega|(with_unfolding_all exact rfl)|(simp only[new_n,put_n,new_m];omega)|(refine put_m_le ?_;simp only[new_m];omega)) only [Abs.W,reduceIte,Nat.reduceEqDiff,efs,q5,q6,i1,i2,g1,nk,o1,o2,ad]
 refine ⟨_,_,mix f i k,rfl,⟨d1.keep ?_,?_,fun c h1 h2=>?_,by simp only [put_n];omega,?_,?_,by unfold mix;rw [List.length_set,List.length_set];exact jlen,jp.step (by omega) (by omega)⟩,by simp only [efs,q0,reduceIte,Nat.reduceEqDiff],by simp only [efs,q5,reduceIte,Nat.reduceEqDiff],by simp only [efs,reduceIte,Nat.reduceEqDiff];rfl⟩
 ·rw [get_put_ne' _ _ _ _ (by omega),get_put_ne' _ _ _ _ (by omega)]
 ·exact get_put_eq _ _ _ _ rfl (by omega)
 ·rw [get_put_ne' _ _ _ _ (by omega),get_put_ne' _ _ _ _ (by omega),st.same c (by omega) h2]
  exact js c h1 h2
 ·simp only [St.put,minN_eq];omega
 ·simp only [St.put,minN_eq];omega
theorem Shuffle_ex {N d m:Nat} {s:St} {r:ARes} (hr:call Try.prog X N (.fn 34) [.ptr d 0,.int .i64 (m:Int)] s=r) (hN:7≤N) (hd:Die d s.h) (hlt:d<s.n) (hm:m≤50) (hs:s.n+2000≤far) :
  ∃ v f t,r=.val v t∧Stir d s t 1∧Die d t.h∧f.length=m∧Perm m f∧Blk t.h t.n s.n 1 (tag 3) (natRows f) v:=by
 obtain ⟨n,rfl⟩:∃ n,N=n+1:=⟨N - 1,by omega⟩
 have hf:far=1000000000:=rfl
 obtain ⟨v,t,e,st,f,hdt,hfl,hp,hb⟩:=call_stir (n:=n) (args:=[.ptr d 0,.int .i64 (m:Int)]) (d:=d) (s:=s) (k:=1) (Q:=fun v h n=>∃ f,Die d h∧f.length=m∧Perm m f∧Blk h n s.n 1 (tag 3) (natRows f) v) Try.func34 rfl (fun u uh un um=>by
  rw [← uh] at hd
  rw [← un] at hlt ⊢
  have mk:∀ s:St,makeA [.int .i64 0] 8 s (.int .i64 (m:Int)) (.int .i64 (m:Int))=.val (.slice s.n 0 m m false) (s.new (.cells (List.replicate m [.int .i64 0]).flatten 0)):=fun s=>make_rows [.int .i64 0] 8 m s (by omega) (by omega)
  have okR:∀ t,okA (.val (.slice u.n 0 m m false) t)=.val (.slice u.n 0 m m false) t:=fun _=>rfl
  have lnR:∀ s,lenSlA s (.slice u.n 0 m m false)=.val (.int .i64 (m:Int)) s:=fun _=>rfl
  have mx:max (0:Int) (m:Int)=(m:Int):=by omega
  rw [enter34]
  simp (disch:=first|omega|(with_unfolding_all exact rfl)|(simp only[new_n,put_n,new_m];omega)|(refine put_m_le ?_;simp only[new_m];omega)) only [K34r0,K34r1,K34r2,K34r8,K34,Abs.W,reduceIte,Nat.reduceEqDiff,Nat.reduceAdd,kLoop_def,Nat.zero_add,kFold_def,foldA_nil,foldA_cons,maxA_i64,mx,kMake_def,mk]
  generalize hlp:loopN _ rounds _ _ _ _ _=r1
  have zr:(List.replicate m [AV.int .i64 0])=natRows (List.replicate m 0):=by unfold natRows intRows;simp
  rw [zr] at hlp
  obtain ⟨e,L1,s1,rfl,rfl,f5,f,hJ⟩:=loop_of hlp (fun i L' t'=>(∃ f,ShufJ u t' d m i f)∧L'.find 0=.ptr d 0∧L'.find 5=.slice u.n 0 m m false∧L'.find 6=.int .i64 i) (fun e L' t'=>e=.exit 0∧L'.find 5=.slice u.n 0 m m false∧∃ f,ShufJ u t' d m m f) m (by unfold rounds;omega)
   ⟨⟨List.replicate m 0,⟨hd.new hlt _,get_new_eq _ _ _ rfl (by omega),fun c h1 h2=>get_new_ne _ _ _ (by omega),rfl,by show d≤u.m;omega,by show u.m≤far;omega,List.length_replicate,⟨fun p hp=>absurd hp (Nat.not_lt_zero p),fun j hj=>absurd hj (Nat.not_lt_zero j)⟩⟩⟩,by simp only [find_cons,reduceIte,Nat.reduceEqDiff],by simp only [find_cons,reduceIte,Nat.reduceEqDiff],by simp only [find_cons,reduceIte,Nat.reduceEqDiff];rfl⟩
   (fun i L' t' hi ⟨⟨f,hJ⟩,q0,q5,q6⟩=>by
    by_cases hlt':i<m
    ·obtain ⟨L2,t2,f1,p1,p2,p3,p4,p5⟩:=shuf_round n (by omega) ⟨34,none,Try.f34.ntmps,X 34⟩ hJ hlt' hm hlt (by omega) q0 q5 q6
     exact .inl ⟨hlt',L2,t2,p1,⟨f1,p2⟩,p3,p4,p5⟩
    ·obtain rfl:i=m:=by omega
     have e1:decide ((i:Int)<(i:Int))=false:=by simp
     refine .inr ⟨.exit 0,L'.set 14 (.bool false),t',by simp,?_,rfl,by simp only [efs,q5,reduceIte,Nat.reduceEqDiff],f,hJ⟩
     simp (disch:=first|omega|(with_unfolding_all exact rfl)|(simp only[new_n,put_n,new_m];omega)|(refine put_m_le ?_;simp only[new_m];omega)) only [K34r3,K34r4,K34r5,K34r6,K34r7,K34l0,Abs.W,reduceIte,Nat.reduceEqDiff,efs,q5,q6,lnR,e1])
  simp (disch:=first|omega|(with_unfolding_all exact rfl)|(simp only[new_n,put_n,new_m];omega)|(refine put_m_le ?_;simp only[new_m];omega)) only [res34,Abs.W,reduceIte,Nat.reduceEqDiff,efs,f5]
  refine ⟨.slice u.n 0 m m false,s1,rfl,⟨fun c h1 h2=>hJ.same c h1 h2,by have:=hJ.n;omega,by have:=hJ.n;omega,fun _=>hJ.tm,by have:=hJ.mle;omega⟩,rfl,f,hJ.die,hJ.len,hJ.perm,⟨natRows_wide f,false,0,by rw [natRows_len,hJ.len],by have:=hJ.n;omega,hJ.get,fun h=>(by cases h)⟩⟩) (by omega)
 exact ⟨v,f,t,hr.symm.trans e,st,hdt,hfl,hp,hb⟩
end Go.Proofs.Ythbhjgbpjlnbcaa.walk
set_option maxRecDepth 10000
namespace Go.Proofs.Ythbhjgbpjlnbcaa.walk
open Go.Abs Go.Proofs.Ythbhjgbpjlnbcaa.code
def bidI (l:Letting) (st a:Nat):Int × Bool:=bidOf st (reachOf l.stalls (l.appls.getD a ⟨0,0,[],[]⟩))
def yearsI (l:Letting) (a:Nat):Int:=(l.appls.getD a ⟨0,0,[],[]⟩).years
def aheadI (l:Letting) (st:Nat) (dr:Int→Int) (a b:Nat):Bool :=
 bif (decide ((stallAt l.stalls st).heir=a) || decide ((stallAt l.stalls st).heir=b)) then decide ((stallAt l.stalls st).heir=a)
 else bif (decide ((stallAt l.stalls st).rule=3) && !decide ((bidI l st a).1=(bidI l st b).1)) then decide ((bidI l st b).1<(bidI l st a).1)
 else bif (!decide ((stallAt l.stalls st).rule=1) && !decide (yearsI l a=yearsI l b)) then decide (yearsI l b<yearsI l a)
 else decide (dr a<dr b)
theorem bid_ok (N:Nat) (hN:6≤N) {no na:Nat→Prop} {l:Letting} (ok:l.Ok) {vS vA:AV} {a:Nat} (ha:a<l.appls.length) (st:Nat) {s:St} (hL:LetAt no na s.h s.n l vS vA) (hs:s.n+100000≤far) :
  call Try.prog X N (.fn 50) [.agg [vS,vA],.int .i64 (a:Int),.int .i64 (st:Int)] s=.val (.tup [.int .i64 (bidI l st a).1,.bool (bidI l st a).2]) s:=by
 have e:l.appls.getD a ⟨0,0,[],[]⟩=l.appls[a]:=by simp [List.getD,ha]
 unfold bidI
 rw [e]
 exact bidFor_ok N hN ok ha st hL hs
theorem ahead_ok (N:Nat) (hN:7≤N) {no na:Nat→Prop} {l:Letting} (ok:l.Ok) {vS vA:AV} {a b st:Nat} (ha:a<l.appls.length) (hb:b<l.appls.length) (hst:st<l.stalls.length) {s:St} (hL:LetAt no na s.h s.n l vS vA) {mb:Nat} {ps:List (Int × Int)} (hm:s.h.get mb=some (.map (mapV ps))) (hmb:mb<s.n) (hs:s.n+200000≤far) :
  call Try.prog X N (.fn 64) [.agg [vS,vA,.int .i64 (st:Int),.map mb],.int .i64 (a:Int),.int .i64 (b:Int)] s=.val (.bool (aheadI l st (getP ps) a b)) s:=by
 obtain ⟨n,rfl⟩:∃ n,N=n+1:=⟨N - 1,by omega⟩
 refine call_plain' Try.func64 (fun u uh un um=>?_) rfl
 have hf:far=1000000000:=rfl
 rw [← uh,← un] at hL
 rw [← uh] at hm
 rw [← un] at hmb
 have kS:=hL.okS
 have kA:=hL.okV
 obtain ⟨w,hw⟩:∃ w:St,w=u.new (.cells [vS,vA,.int .i64 (st:Int),.map mb] (tag 101)):=⟨_,rfl⟩
 have wn:w.n=u.n+1:=by rw [hw];rfl
 have wm:w.m=far:=by rw [hw];exact um
 have wg:∀ c,c<u.n→w.h.get c=u.h.get c:=fun c hc=>by rw [hw,get_new_ne _ _ _ (by omega)]
 have w0:w.h.get u.n=some (.cells [vS,vA,.int .i64 (st:Int),.map mb] (tag 101)):=by rw [hw];exact get_new_eq _ _ _ rfl (by omega)
 have hLw:=hL.grow wg (by omega:u.n≤w.n)
 obtain ⟨p,o,cs,sz,r1,r2,r3,r4⟩:=hLw.getS hst
 have hst':stallAt l.stalls (st:Int)=l.stalls[st]:=by unfold stallAt;simp [List.getD,hst]
 obtain ⟨_,pa,oa,ca,za,a1,a2,a3,a4,_,_⟩:=hLw.getA ha
 obtain ⟨_,pb,ob,cb,zb,b1,b2,b3,b4,_,_⟩:=hLw.getA hb
 have a5:=cut_nth a4 (show 0<4 by omega)
 have b5:=cut_nth b4 (show 0<4 by omega)
 have n0:∀ (x:AV) (r:List AV),nth (x::r) 0=x:=fun _ _=>rfl
 rw [n0,Nat.add_zero] at a5 b5
 have ya:yearsI l a=l.appls[a].years:=by unfold yearsI;simp [List.getD,ha]
 have yb:yearsI l b=l.appls[b].years:=by unfold yearsI;simp [List.getD,hb]
 obtain ⟨y,hy⟩:∃ y:St,y=(w.new (.cells [.int .i64 0,.int .i64 0,.int .i64 0] (tag 53))).put w.n (.cells [.int .i64 l.stalls[st].rule,.int .i64 l.stalls[st].least,.int .i64 l.stalls[st].heir] (tag 53)):=⟨_,rfl⟩
 have yn:y.n=w.n+1:=by rw [hy];rfl
 have yg:∀ c,c<w.n→y.h.get c=w.h.get c:=fun c hc=>by rw [hy,get_put_ne' _ _ _ _ (by omega),get_new_ne _ _ _ (by omega)]
 have yp:y.h.get w.n=some (.cells [.int .i64 l.stalls[st].rule,.int .i64 l.stalls[st].least,.int .i64 l.stalls[st].heir] (tag 53)):=by rw [hy];exact get_put_eq _ _ _ _ rfl (by omega)
 have ym:u.n≤y.m:=by rw [hy];simp only [St.put,minN_eq,new_m];omega
 have y0:=(yg u.n (by omega)).trans w0
 have ymb:=(yg mb (by omega)).trans ((wg mb hmb).trans hm)
 have ypa:=(yg pa a1).trans a3
 have ypb:=(yg pb b1).trans b3
 have hLy:=hLw.grow yg (by omega:w.n≤y.n)
 have ca':=bid_ok n (by omega) ok ha st hLy (by omega)
 have cb':=bid_ok n (by omega) ok hb st hLy (by omega)
 have la:=fun s (h:s.h.get mb=some (.map (mapV ps)))=>look_map ps (a:Int) mb s h
 have lb:=fun s (h:s.h.get mb=some (.map (mapV ps)))=>look_map ps (b:Int) mb s h
 have ex0:∀ (a b:AV) (s:St),extA 0 s (.tup [a,b])=.val a s:=fun _ _ _=>rfl
 have ex1:∀ (a b:AV) (s:St),extA 1 s (.tup [a,b])=.val b s:=fun _ _ _=>rfl
 unfold aheadI
 rw [hst',ya,yb]
 generalize bidI l st a=ba at ca' ⊢
 generalize bidI l st b=bb at cb' ⊢
 generalize l.stalls[st]=SR at *
 generalize l.appls[a].years=va at *
 generalize l.appls[b].years=vb at *
 have u1:=eq3 K64r2s6.eq_1
 have u2:=eq3 K64r2s7.eq_1
 have u3:=eq3 K64r2s8.eq_1
 have u4:=eq3 K64r2s9.eq_1
 rw [enter64]
 simp (disch:=first|omega|(with_unfolding_all exact rfl)|(simp only[new_n,put_n,new_m];omega)|(refine put_m_le ?_;simp only[new_m];omega)) only [K64,K64r0,Abs.W,reduceIte,Nat.reduceEqDiff,Nat.reduceAdd]
 rw [← hw]
 simp (disch:=first|omega|(with_unfolding_all exact rfl)|(simp only[new_n,put_n,new_m];omega)|(refine put_m_le ?_;simp only[new_m];omega)) only [K64r1,Abs.W,reduceIte,Nat.reduceEqDiff,Nat.reduceAdd,Nat.reduceSub,w0,kS,r2,r3,r4,Nat.zero_add]
 rw [← hy]
 obtain ⟨e1,he1⟩:∃ e,decide (SR.heir=(a:Int))=e:=⟨_,rfl⟩
 obtain ⟨e2,he2⟩:∃ e,decide (SR.heir=(b:Int))=e:=⟨_,rfl⟩
 rw [he1,he2]
 cases e1 with
 | true =>
  simp (disch:=first|omega|(with_unfolding_all exact rfl)|(simp only[new_n,put_n,new_m];omega)|(refine put_m_le ?_;simp only[new_m];omega)) only [K64r2,K64r3,res64,u1,u2,u3,u4,Abs.W,reduceIte,Nat.reduceEqDiff,Nat.reduceSub,yp,he1,Nat.zero_add]
  exact ⟨_,rfl,ym⟩
 | false =>
  cases e2 with
  | true =>
   simp (disch:=first|omega|(with_unfolding_all exact rfl)|(simp only[new_n,put_n,new_m];omega)|(refine put_m_le ?_;simp only[new_m];omega)) only [K64r2,K64r3,res64,u1,u2,u3,u4,Abs.W,reduceIte,Nat.reduceEqDiff,Nat.reduceSub,yp,he1,he2,Nat.zero_add]
   exact ⟨_,rfl,ym⟩
  | false =>
   simp (disch:=first|omega|(with_unfolding_all exact rfl)|(simp only[new_n,put_n,new_m];omega)|(refine put_m_le ?_;simp only[new_m];omega)) only [K64r2,K64r4,K64r5,u1,u2,u3,u4,Abs.W,reduceIte,Nat.reduceEqDiff,Nat.reduceSub,yp,y0,he1,he2,ca',cb',ex0,ex1,Nat.zero_add]
   obtain ⟨e3,he3⟩:∃ e,decide (SR.rule=3)=e:=⟨_,rfl⟩
   obtain ⟨e4,he4⟩:∃ e,decide (ba.1=bb.1)=e:=⟨_,rfl⟩
   obtain ⟨e5,he5⟩:∃ e,decide (SR.rule=1)=e:=⟨_,rfl⟩
   obtain ⟨e6,he6⟩:∃ e,decide (va=vb)=e:=⟨_,rfl⟩
   rw [he3,he4,he5,he6]
   have v1:=eq3 K64r6s5.eq_1
   have v2:=eq3 K64r6s6.eq_1
   have v3:=eq3 K64r6s7.eq_1
   have v5:=eq3 K64r9s5.eq_1
   have v6:=eq3 K64r9s6.eq_1
   have v7:=eq3 K64r9s7.eq_1
   by_cases h34:e3=true∧e4=false
   ·obtain ⟨rfl,rfl⟩:=h34
    simp (disch:=first|omega|(with_unfolding_all exact rfl)|(simp only[new_n,put_n,new_m];omega)|(refine put_m_le ?_;simp only[new_m];omega)) only [K64r6,K64r7,res64,v1,v2,v3,Abs.W,reduceIte,Nat.reduceEqDiff,Nat.reduceSub,yp,he3,he4,Nat.zero_add]
    exact ⟨_,rfl,ym⟩
   ·have hz:(e3 && !e4)=false:=by cases e3<;>cases e4<;>first | rfl | exact absurd ⟨rfl,rfl⟩ h34
    rw [hz]
    have hcond:∀ z:Abs.R,∀ f:Env→List Nat→St→Abs.R,True:=fun _ _=>trivial
    by_cases h56:e5=false∧e6=false
    ·obtain ⟨rfl,rfl⟩:=h56
     cases e3 with
     | false =>
      simp (disch:=first|omega|(with_unfolding_all exact rfl)|(simp only[new_n,put_n,new_m];omega)|(refine put_m_le ?_;simp only[new_m];omega)) only [K64r6,K64r8,K64r9,K64r10,res64,v1,v2,v3,v5,v6,v7,Abs.W,reduceIte,Nat.reduceEqDiff,Nat.reduceSub,yp,y0,kA,a2,b2,ypa,ypb,a5,b5,he3,he5,he6,Nat.zero_add,Nat.add_zero]
      exact ⟨_,rfl,ym⟩
     | true =>
      cases e4 with
      | false=>exact absurd ⟨rfl,rfl⟩ h34
      | true =>
       simp (disch:=first|omega|(with_unfolding_all exact rfl)|(simp only[new_n,put_n,new_m];omega)|(refine put_m_le ?_;simp only[new_m];omega)) only [K64r6,K64r8,K64r9,K64r10,res64,v1,v2,v3,v5,v6,v7,Abs.W,reduceIte,Nat.reduceEqDiff,Nat.reduceSub,yp,y0,kA,a2,b2,ypa,ypb,a5,b5,he3,he4,he5,he6,Nat.zero_add,Nat.add_zero]
       exact ⟨_,rfl,ym⟩
    ·have hz2:(!e5 && !e6)=false:=by cases e5<;>cases e6<;>first | rfl | exact absurd ⟨rfl,rfl⟩ h56
     rw [hz2]
     cases e3<;>cases e4<;>first | exact absurd ⟨rfl,rfl⟩ h34 | skip
     all_goals
      cases e5<;>cases e6<;>first | exact absurd ⟨rfl,rfl⟩ h56 | skip
     all_goals
      simp (disch:=first|omega|(with_unfolding_all exact rfl)|(simp only[new_n,put_n,new_m];omega)|(refine put_m_le ?_;simp only[new_m];omega)) only [K64r6,K64r8,K64r9,K64r11,res64,v1,v2,v3,v5,v6,v7,Abs.W,reduceIte,Nat.reduceEqDiff,Nat.reduceSub,yp,y0,kA,a2,b2,ypa,ypb,a5,b5,he3,he4,he5,he6,okA_map,kLookE,la,lb,Nat.zero_add,Nat.add_zero]
      exact ⟨_,rfl,ym⟩
theorem able_ok (N:Nat) (hN:7≤N) {no na:Nat→Prop} {l:Letting} (ok:l.Ok) {vS vA:AV} {a st p1 p2:Nat} (ha:a<l.appls.length) {s:St} (hL:LetAt no na s.h s.n l vS vA) (g1:s.h.get p1=some (.cells [vS,vA] (tag 28))) (g2:s.h.get p2=some (.cells [.int .i64 (st:Int)] (tag 3))) (hs:s.n+200000≤far) :
  call Try.prog X N (.fn 62) [.int .i64 (a:Int),.ptr p1 0,.ptr p2 0] s=.val (.bool !(bidI l st a).2) s:=by
 obtain ⟨n,rfl⟩:∃ n,N=n+1:=⟨N - 1,by omega⟩
 refine call_plain' Try.func62 (fun u uh un um=>?_) rfl
 have hf:far=1000000000:=rfl
 rw [← uh,← un] at hL
 rw [← uh] at g1 g2
 have ca:=bid_ok n (by omega) ok ha st hL (by omega)
 have ex0:∀ (a b:AV) (s:St),extA 0 s (.tup [a,b])=.val a s:=fun _ _ _=>rfl
 have ex1:∀ (a b:AV) (s:St),extA 1 s (.tup [a,b])=.val b s:=fun _ _ _=>rfl
 rw [enter62]
 simp (disch:=first|omega|(with_unfolding_all exact rfl)|(simp only[new_n,put_n,new_m];omega)|(refine put_m_le ?_;simp only[new_m];omega)) only [res62,K62r0,K62r1,K62r2,K62,Abs.W,reduceIte,Nat.reduceEqDiff,Nat.reduceAdd,Nat.reduceSub,g1,g2,ca,ex0,ex1,Nat.zero_add]
 exact ⟨_,rfl,by omega⟩
theorem everybody_ex {N:Nat} {no na:Nat→Prop} {l:Letting} {vS vA:AV} {s:St} {r:ARes} (hr:call Try.prog X N (.fn 41) [.agg (letV vS vA)] s=r) (hN:1≤N) (ok:l.Ok) (hL:LetAt no na s.h s.n l vS vA) (hs:s.n+100≤far) :
  ∃ t,r=.val (.slice (s.n+1) 0 l.appls.length l.appls.length false) t∧New s t 2∧t.n=s.n+2∧t.h.get (s.n+1)=some (.cells (natRows (List.range l.appls.length)).flatten 0):=by
 obtain ⟨n,rfl⟩:∃ n,N=n+1:=⟨N - 1,by omega⟩
 have hf:far=1000000000:=rfl
 obtain ⟨v,t,e,st,rfl,hq,hg⟩:=call_new (n:=n) (args:=[.agg (letV vS vA)]) (s:=s) (k:=2) (Q:=fun v h n=>v=.slice (s.n+1) 0 l.appls.length l.appls.length false∧n=s.n+2∧h.get (s.n+1)=some (.cells (natRows (List.range l.appls.length)).flatten 0)) Try.func41 rfl (fun u uh un um=>by
  rw [← uh,← un] at hL
  rw [← un]
  have m1:=ok.m1
  have kA:=hL.okV
  have lA:=hL.lenA
  obtain ⟨m,hm⟩:∃ m,m=l.appls.length:=⟨_,rfl⟩
  rw [← hm] at lA m1 ⊢
  obtain ⟨w,hw⟩:∃ w:St,w=u.new (.cells [vS,vA] (tag 28)):=⟨_,rfl⟩
  have wn:w.n=u.n+1:=by rw [hw];rfl
  have wm:w.m=far:=by rw [hw];exact um
  have wg:∀ c,c<u.n→w.h.get c=u.h.get c:=fun c hc=>by rw [hw,get_new_ne _ _ _ (by omega)]
  have w0:w.h.get u.n=some (.cells [vS,vA] (tag 28)):=by rw [hw];exact get_new_eq _ _ _ rfl (by omega)
  have mk:∀ s:St,makeA [.int .i64 0] 8 s (.int .i64 (m:Int)) (.int .i64 (m:Int))=.val (.slice s.n 0 m m false) (s.new (.cells (List.replicate m [.int .i64 0]).flatten 0)):=fun s=>make_rows [.int .i64 0] 8 m s (by omega) (by omega)
  have zr:(List.replicate m [AV.int .i64 0])=natRows (List.replicate m 0):=by unfold natRows intRows;simp
  rw [zr] at mk
  rw [enter41]
  simp (disch:=first|omega|(with_unfolding_all exact rfl)|(simp only[new_n,put_n,new_m];omega)|(refine put_m_le ?_;simp only[new_m];omega)) only [K41,K41r0,Abs.W,reduceIte,Nat.reduceEqDiff,Nat.reduceAdd]
  rw [← hw]
  simp (disch:=first|omega|(with_unfolding_all exact rfl)|(simp only[new_n,put_n,new_m];omega)|(refine put_m_le ?_;simp only[new_m];omega)) only [K41r1,K41r2,Abs.W,reduceIte,Nat.reduceEqDiff,kLoop_def,Nat.reduceSub,w0,kA,lA,kMake_def,mk,Nat.zero_add]
  generalize hlp:loopN _ rounds _ _ _ _ _=q1
  obtain ⟨e,L1,s1,rfl,rfl,f3,hg,hn,hs1,hm1,hm2⟩:=loop_of hlp (fun i L t=>L.find 3=.slice (u.n+1) 0 m m false∧L.find 10=.int .i64 (m:Int)∧L.find 11=.int .i64 (i:Nat)∧t.h.get (u.n+1)=some (.cells (natRows (List.range i++List.replicate (m - i) 0)).flatten 0)∧t.n=u.n+2∧(∀ c,c<u.n→t.h.get c=u.h.get c)∧u.n≤t.m∧t.m≤far)
   (fun e L t=>e=.exit 0∧L.find 3=.slice (u.n+1) 0 m m false∧t.h.get (u.n+1)=some (.cells (natRows (List.range m)).flatten 0)∧t.n=u.n+2∧(∀ c,c<u.n→t.h.get c=u.h.get c)∧u.n≤t.m∧t.m≤far) m (by unfold rounds;omega)
   ⟨by simp only [find_cons,wn,reduceIte,Nat.reduceEqDiff],by simp only [find_cons,reduceIte,Nat.reduceEqDiff],by simp only [find_cons,reduceIte,Nat.reduceEqDiff];rfl,by
    rw [← wn]
    exact get_new_eq _ _ _ rfl (by omega),by rw [new_n];omega,fun c hc=>by rw [get_new_ne _ _ _ (by omega)];exact wg c hc,by rw [new_m];omega,by rw [new_m];omega⟩
   (fun i L t hi ⟨q3,q10,q11,hg,hn,hsm,hm1,hm2⟩=>by
    by_cases hlt:i<m
    ·have e0:decide ((i:Int)<(m:Int))=true:=decide_eq_true (by omega)
     have ix:=fun s=>ixs_slice 1 s (u.n+1) 0 m m false i hlt
     have ov:=natRows_over (f:=List.range i++List.replicate (m - i) 0) (k:=i) (by rw [List.length_append,List.length_range,List.length_replicate];omega) i
     have ov2:(List.range i++List.replicate (m - i) 0).set i i=List.range (i+1)++List.replicate (m - (i+1)) 0:=by
      obtain ⟨k,hk⟩:∃ k,m - i=k+1:=⟨m - i - 1,by omega⟩
      rw [hk,List.set_append_right _ _ (by rw [List.length_range];omega),List.length_range,Nat.sub_self,List.replicate_succ,List.set_cons_zero,List.range_succ,List.append_assoc,show m - (i+1)=k by omega]
      rfl
     rw [ov2] at ov
     have ad:∀ s,aAdd s .i64 (i:Int) 1=.val (.int .i64 ((i:Int)+1)) s:=fun s=>aAdd_i64 s _ _ (by omega)
     refine .inl ⟨hlt,_,_,by
      simp (disch:=first|omega|(with_unfolding_all exact rfl)|(simp only[new_n,put_n,new_m];omega)|(refine put_m_le ?_;simp only[new_m];omega)) only [K41r3,K41r4,K41r5,K41r6,K41l0,Abs.W,reduceIte,Nat.reduceEqDiff,efs,q3,q10,q11,e0,ix,hg,ov,ad,Nat.zero_add,Nat.mul_one]
      rfl,?_,?_,?_,get_put_eq _ _ _ _ rfl (by omega),by rw [put_n];exact hn,fun c hc=>by rw [get_put_ne' _ _ _ _ (by omega)];exact hsm c hc,by simp only [St.put,minN_eq];omega,by simp only [St.put,minN_eq];omega⟩
     ·simp only [efs,q3,reduceIte,Nat.reduceEqDiff]
     ·simp only [efs,q10,reduceIte,Nat.reduceEqDiff]
     ·simp only [efs,reduceIte,Nat.reduceEqDiff];rfl
    ·obtain rfl:i=m:=by omega
     have e0:decide ((i:Int)<(i:Int))=false:=by simp
     rw [Nat.sub_self,List.replicate_zero,List.append_nil] at hg
     refine .inr ⟨.exit 0,L.set 12 (.bool false),t,by simp,?_,rfl,?_,hg,hn,hsm,hm1,hm2⟩
     ·simp (disch:=first|omega|(with_unfolding_all exact rfl)|(simp only[new_n,put_n,new_m];omega)|(refine put_m_le ?_;simp only[new_m];omega)) only [K41r3,K41r4,K41r5,K41r6,K41l0,Abs.W,reduceIte,efs,q10,q11,e0]
     ·simp only [efs,q3,reduceIte,Nat.reduceEqDiff])
  simp (disch:=first|omega|(with_unfolding_all exact rfl)|(simp only[new_n,put_n,new_m];omega)|(refine put_m_le ?_;simp only[new_m];omega)) only [res41,K41r7,Abs.W,reduceIte,Nat.reduceEqDiff,efs,f3]
  exact ⟨_,_,rfl,⟨hs1,by omega,by omega,hm1,hm2⟩,rfl,rfl,hn,hg⟩)
 exact ⟨t,hr.symm.trans e,st,hq,hg⟩
end Go.Proofs.Ythbhjgbpjlnbcaa.walk
set_option maxRecDepth 10000
namespace Go.Abs
structure TakesQ {α:Type} (P:Program) (X:FuncId→List Nat) (N l k0 w rm:Nat) (ev:α→List AV) (T:List α) (J:List α→Heap→Nat→Prop):Prop where
 take:∀ p x rest (s:St),p++x::rest=T→J p s.h s.n→s.n+rm≤far→w≤s.m→s.m≤far→∃ s',Abs.call P X N (.yield l) (ev x) s=.val (.bool true) s'∧J (p++[x]) s'.h s'.n∧s.n≤s'.n∧s'.n≤s.n+k0∧w≤s'.m∧s'.m≤s.m∧s'.m≤l
end Go.Abs
namespace Go.Proofs.Ythbhjgbpjlnbcaa.walk
open Go.Abs Go.Proofs.Ythbhjgbpjlnbcaa.code
def ev1 (x:Nat):List AV:=[.int .i64 (x:Int)]
theorem natRow {h:Heap} {n:Nat} {f:List Nat} {v:AV} (r:RowsAt h n 1 (natRows f) v) {i:Nat} (hi:i<f.length):∃ b p c sz,b<n∧(∀ s,ixsA 1 s v (.int .i64 (i:Int))=.val (.ptr b p) s)∧h.get b=some (.cells c sz)∧nth c p=.int .i64 ((f[i]:Nat):Int):=by
 obtain ⟨b,p,c,sz,h1,h2,h3,h4⟩:=r.at_ i (by rw [natRows_len];exact hi)
 rw [natRows_at hi] at h4
 refine ⟨b,p,c,sz,h1,h2,h3,?_⟩
 rw [cut1_nth h4]
 simp [List.getD,hi]
theorem natLen {h:Heap} {n:Nat} {f:List Nat} {v:AV} (r:RowsAt h n 1 (natRows f) v) (s:St):lenSlA s v=.val (.int .i64 f.length) s:=by have:=r.len s;rwa [natRows_len] at this
theorem values1_all {N l k0 w rm pb nb:Nat} {f:List Nat} {v:AV} {H:Heap} {J:List Nat→Heap→Nat→Prop} {s:St} (hT:TakesQ Try.prog X N l k0 w rm ev1 f J) (hR:RowsAt H nb 1 (natRows f) v) (gp:H.get pb=some (.cells [v] (tag 22))) (hp:pb<nb) (hl:f.length≤8) (hJ:∀ p h n,J p h n→∀ y,y<nb→h.get y=H.get y) (hls:l<s.n) (hw:w≤l) (h0:J [] s.h s.n) (hs:s.n+10 * k0+rm+1000≤far) (hwm:w≤s.m) (hm:s.m≤far) :
  ∃ t,call Try.prog X (N+1) (.fn 96) [.yield l,.ptr pb 0] s=.val (.tup []) t∧J f t.h t.n∧s.n≤t.n∧t.n≤s.n+10 * k0∧w≤t.m∧t.m≤s.m:=by
 have hf:far=1000000000:=rfl
 have hkm:∀ i,i≤8→k0 * i≤k0 * 8:=fun i hi=>Nat.mul_le_mul_left _ hi
 obtain ⟨v',t,mm,e,⟨rfl,a1,a4,a5,a6,a7,a8⟩,hm'⟩:=call_any (X:=X) (n:=N) (args:=[.yield l,.ptr pb 0]) (s:=s) (Q:=fun v h n m'=>v=.tup []∧J f h n∧s.n≤n∧n≤s.n+k0 * 8∧w≤m'∧m'≤far∧(f=[]∨m'≤l)) Try.func96 rfl (fun u uh un um=>by
  have hRu:=hR.grow (h':=u.h) (n':=nb) (fun y hy=>by rw [uh];exact hJ _ _ _ h0 y hy) (Nat.le_refl _)
  have gpu:u.h.get pb=some (.cells [v] (tag 22)):=by rw [uh,hJ _ _ _ h0 pb hp];exact gp
  have kv:∀ t,okA (.val v t)=.val v t:=fun t=>okA_ne hRu.ne
  have lv:=natLen hRu
  rw [enter96]
  simp (disch:=first|omega|(with_unfolding_all exact rfl)|(simp only[new_n,put_n,new_m];omega)|(refine put_m_le ?_;simp only[new_m];omega)) only [K96r0,K96,Abs.W,reduceIte,Nat.reduceEqDiff,Nat.reduceAdd,kLoop_def,Nat.reduceSub,gpu,kv,lv,Nat.zero_add]
  generalize hlp:loopN _ rounds _ _ _ _ _=rl
  have hJ0:J (f.take 0) u.h u.n:=by rw [uh,un];exact h0
  obtain ⟨e,L1,s1,rfl,rfl,d1,d2,d3,d4,d5,hz⟩:=loop_of hlp (fun i L' t'=>L'.find 0=.yield l∧L'.find 5=v∧L'.find 6=.int .i64 f.length∧L'.find 7=.int .i64 i∧J (f.take i) t'.h t'.n∧u.n≤t'.n∧t'.n≤u.n+k0 * i∧w≤t'.m∧t'.m≤far∧(i=0∨t'.m≤l))
   (fun e L1 t'=>e=.exit 0∧J f t'.h t'.n∧u.n≤t'.n∧t'.n≤u.n+k0 * 8∧w≤t'.m∧t'.m≤far∧(f=[]∨t'.m≤l)) f.length (by unfold rounds;omega)
   ⟨by simp only [find_cons,reduceIte,Nat.reduceEqDiff],by simp only [find_cons,reduceIte,Nat.reduceEqDiff],by simp only [find_cons,reduceIte,Nat.reduceEqDiff],by simp only [find_cons,reduceIte,Nat.reduceEqDiff];rfl,hJ0,Nat.le_refl _,by omega,by omega,by omega,.inl rfl⟩
   (fun i L' t' hi ⟨q0,q5,q6,q7,hJi,tn,tl,tm,tf,hz⟩=>by
    have hki:=hkm i (by omega)
    by_cases hlt:i<f.length
    ·have hki2:=hkm (i+1) (by omega)
     have hki3:k0 * (i+1)=k0 * i+k0:=Nat.mul_succ _ _
     have e0:decide ((i:Int)<(f.length:Int))=true:=decide_eq_true (by omega)
     have hRt:=hR.grow (h':=t'.h) (n':=nb) (fun y hy=>hJ _ _ _ hJi y hy) (Nat.le_refl _)
     obtain ⟨b1,p1,c1,sz1,r1,r2,r3,r4⟩:=natRow hRt hlt
     obtain ⟨s2,e2,f1,f4,f5,f6,f7,f8⟩:=hT.take _ _ _ t' (take_split hlt) hJi (by omega) tm tf
     have e2':call Try.prog X N (.yield l) [.int .i64 ((f[i]:Nat):Int)] t'=.val (.bool true) s2:=e2
     have ad:∀ s,aAdd s .i64 (i:Int) 1=.val (.int .i64 ((i:Int)+1)) s:=fun s=>aAdd_i64 s _ _ (by omega)
     refine .inl ⟨hlt,_,s2,by
      simp (disch:=first|omega|(with_unfolding_all exact rfl)|(simp only[new_n,put_n,new_m];omega)|(refine put_m_le ?_;simp only[new_m];omega)) only [K96r1,K96r2,K96r3,K96r4,K96l0,Abs.W,reduceIte,Nat.reduceEqDiff,efs,q0,q5,q6,q7,e0,r2,r3,r4,e2',ad]
      rfl,?_,?_,?_,?_,by rw [take_snoc hlt];exact f1,by omega,by omega,f6,by omega,.inr f8⟩
     ·simp only [efs,q0,reduceIte,Nat.reduceEqDiff]
     ·simp only [efs,q5,reduceIte,Nat.reduceEqDiff]
     ·simp only [efs,q6,reduceIte,Nat.reduceEqDiff]
     ·simp only [efs,reduceIte,Nat.reduceEqDiff];rfl
    ·obtain rfl:i=f.length:=by omega
     have e1:decide ((f.length:Int)<(f.length:Int))=false:=by simp
     rw [List.take_length] at hJi
     refine .inr ⟨.exit 0,L'.set 8 (.bool false),t',by simp,?_,rfl,hJi,tn,by omega,tm,tf,hz.imp (fun h=>List.length_eq_zero_iff.mp h) id⟩
     simp (disch:=first|omega|(with_unfolding_all exact rfl)|(simp only[new_n,put_n,new_m];omega)|(refine put_m_le ?_;simp only[new_m];omega)) only [K96r1,K96r2,K96r3,K96r4,K96l0,Abs.W,reduceIte,efs,q6,q7,e1])
  simp (disch:=first|omega|(with_unfolding_all exact rfl)|(simp only[new_n,put_n,new_m];omega)|(refine put_m_le ?_;simp only[new_m];omega)) only [res96,Abs.W,leave_nil]
  refine ⟨_,_,rfl,⟨rfl,d1,by omega,by omega,d4,d5,hz⟩,fun _ hle=>⟨rfl,?_,Nat.le_refl _,by omega,d4,d5,hz⟩⟩
  rcases hz with hz | hz
  ·rw [hz];exact h0
  ·omega)
 have hkk:=hkm 8 (Nat.le_refl _)
 refine ⟨t,e,a1,a4,by omega,?_,?_⟩
 ·rcases hm' with ⟨_,hm'⟩ | ⟨_,hm'⟩<;>omega
 ·rcases hm' with ⟨_,hm'⟩ | ⟨_,hm'⟩<;>omega
theorem Values_ok (N:Nat) (hN:1≤N) (v:AV) (hv:v.scalar=true) (s:St) (hs:s.n+100≤far):call Try.prog X N (.fn 86) [v] s=.val (.func 96 [] [.ptr s.n 0]) (s.new (.cells [v] (tag 22))):=by
 obtain ⟨n,rfl⟩:∃ n,N=n+1:=⟨N - 1,by omega⟩
 have hf:far=1000000000:=rfl
 have bx:∀ s,boxA (tag 22) s v=.val (.ptr s.n 0) (s.new (.cells [v] (tag 22))):=fun s=>by cases v<;>first | rfl | cases hv
 obtain ⟨w,t,e,st,hv,hh⟩:=call_new (n:=n) (args:=[v]) (s:=s) (k:=1) (Q:=fun w h n=>w=.func 96 [] [.ptr s.n 0]∧h=(s.new (.cells [v] (tag 22))).h∧n=s.n+1) Try.func86 rfl (fun u uh un um=>by
  rw [enter86]
  simp (disch:=first|omega|(with_unfolding_all exact rfl)|(simp only[new_n,put_n,new_m];omega)|(refine put_m_le ?_;simp only[new_m];omega)) only [res86,K86r0,K86r1,K86,Abs.W,reduceIte,Nat.reduceEqDiff,Nat.reduceAdd,kFuncE,bx]
  refine ⟨_,_,rfl,((Beside.refl u (by omega) um).new _),rfl,by rw [un],?_,?_⟩
  ·show (u.new _).h=(s.new _).h
   unfold St.new
   simp only [uh,un]
  ·show u.n+1=_
   omega)
 rw [e,hv]
 congr 1
 exact St.ext3 hh.1 hh.2 st.m
structure ColJ (s0:St) (p2:Nat) (lo:AObj) (p:List Nat) (h:Heap) (n:Nat):Prop where
 data:∃ v bd,h.get p2=some (.cells [v] (tag 22))∧IsAt h n bd 1 (tag 3) (natRows p) v∧(s0.n+2≤bd)
 same:∀ y,y<s0.n→y≠p2→h.get y=s0.h.get y
 dfr:h.get s0.n=some .dfr
 loop:h.get (s0.n+1)=some lo
 n:s0.n+2≤n
theorem Append_ex {N pb:Nat} {f:List Nat} {v:AV} {s:St} {r:ARes} (hr:call Try.prog X N (.fn 98) [.nilslice,.func 96 [] [.ptr pb 0]] s=r) (hN:4≤N) (hR:RowsAt s.h s.n 1 (natRows f) v) (gp:s.h.get pb=some (.cells [v] (tag 22))) (hp:pb<s.n) (hl:f.length≤8) (hs:s.n+10000≤far) :
  ∃ w bd t,r=.val w t∧New s t 1000∧s.n≤bd∧IsAt t.h t.n bd 1 (tag 3) (natRows f) w:=by
 obtain ⟨M,rfl⟩:∃ M,N=M+3:=⟨N - 3,by omega⟩
 have hf:far=1000000000:=rfl
 obtain ⟨w',t,e,st,bd,hbd,hI⟩:=call_new' (n:=M+2) (args:=[.nilslice,.func 96 [] [.ptr pb 0]]) (s:=s) (k:=1000) (Q:=fun w h n=>∃ bd,s.n≤bd∧IsAt h n bd 1 (tag 3) (natRows f) w) Try.func98 rfl (fun u uh un um=>by
  rw [← uh,← un] at hR
  rw [← uh] at gp
  rw [← un] at hp
  rw [← un]
  obtain ⟨s0,hs0⟩:∃ s0:St,s0=u.new (.cells [.nilslice] (tag 22)):=⟨_,rfl⟩
  have s0n:s0.n=u.n+1:=by rw [hs0];rfl
  have s0m:s0.m=far:=by rw [hs0];exact um
  have s0g:∀ c,c<u.n→s0.h.get c=u.h.get c:=fun c hc=>by rw [hs0,get_new_ne _ _ _ (by omega)]
  have s00:s0.h.get u.n=some (.cells [.nilslice] (tag 22)):=by rw [hs0];exact get_new_eq _ _ _ rfl (by omega)
  have bn:∀ s,boxA (tag 22) s .nilslice=.val (.ptr s.n 0) (s.new (.cells [.nilslice] (tag 22))):=fun _=>rfl
  rw [enter98]
  simp (disch:=first|omega|(with_unfolding_all exact rfl)|(simp only[new_n,put_n,new_m];omega)|(refine put_m_le ?_;simp only[new_m];omega)) only [K98,K98r0,K98r1,Abs.W,reduceIte,Nat.reduceEqDiff,Nat.reduceAdd,bn]
  rw [← hs0]
  clear hs0
  generalize hL0:Env.cons 0 _ _=L0
  have f2:L0.find 2=.ptr u.n 0:=by rw [← hL0];simp only [find_cons,reduceIte,Nat.reduceEqDiff]
  have f6:L0.find 6=.func 96 [] [.ptr pb 0]:=by rw [← hL0];simp only [find_cons,reduceIte,Nat.reduceEqDiff]
  clear hL0
  obtain ⟨lo,hlo⟩:∃ lo,lo=loopO ⟨98,none,Try.f98.ntmps,X 98⟩ L0 [7] (rangeAt Try.f98 0).1 (rangeAt Try.f98 0).2 s0:=⟨_,rfl⟩
  obtain ⟨S0,hS0⟩:∃ S0:St,S0=(s0.new .dfr).new (.loop lo):=⟨_,rfl⟩
  have n0:S0.n=s0.n+2:=by rw [hS0];rfl
  have m0:S0.m=far:=by rw [hS0];exact s0m
  have g0:∀ y,y<s0.n→S0.h.get y=s0.h.get y:=fun y hy=>by rw [hS0,get_new_ne _ _ _ (by rw [new_n];omega),get_new_ne _ _ _ (by omega)]
  have gd:S0.h.get s0.n=some .dfr:=by rw [hS0,get_new_ne _ _ _ (by rw [new_n];omega)];exact get_new_eq _ _ _ rfl (by omega)
  have gl:S0.h.get (s0.n+1)=some (.loop lo):=by rw [hS0];exact get_new_eq _ _ _ rfl (by rw [new_n];omega)
  have hT:TakesQ Try.prog X (M+1) (s0.n+1) 3 (u.n) 100 ev1 f (ColJ s0 u.n (.loop lo)):=⟨fun p x rest t ht ⟨⟨v1,b1,j1,j2,j3⟩,js,jd,jl,jn⟩ hfar hwt hmt=>by
   have hpl:p.length+1≤8:=by rw [← ht] at hl;simp at hl;omega
   have hass:K98a0 (call Try.prog X M) ⟨lo.fn,some (s0.n+1),lo.nt,lo.xs⟩ (setParams lo.tmps lo.params (ev1 x)) [] t=.done .norm ((L0.set 7 (.int .i64 (x:Int))).set 5 (.int .i64 (x:Int))) [] t:=by
    rw [hlo]
    simp (disch:=first|omega|(with_unfolding_all exact rfl)|(simp only[new_n,put_n,new_m];omega)|(refine put_m_le ?_;simp only[new_m];omega)) only [K98a0,K98a0r0,loopO,ev1,setParams1,Abs.W,reduceIte,Nat.reduceEqDiff,efs,Nat.reduceEqDiff]
   obtain ⟨L1,hL1⟩:∃ L1,L1=(L0.set 7 (.int .i64 (x:Int))).set 5 (.int .i64 (x:Int)):=⟨_,rfl⟩
   rw [← hL1] at hass
   have l2:L1.find 2=.ptr u.n 0:=by rw [hL1];simp only [efs,f2,reduceIte,Nat.reduceEqDiff]
   have l5:L1.find 5=.int .i64 (x:Int):=by rw [hL1];simp only [efs,reduceIte,Nat.reduceEqDiff]
   clear hL1
   obtain ⟨z0,hz0⟩:∃ z0:St,z0=t.put (s0.n+1) (.loop { lo with state:=.busy }):=⟨_,rfl⟩
   have zn:z0.n=t.n:=by rw [hz0];rfl
   have zm:z0.m=min t.m (s0.n+1):=by rw [hz0];simp only [St.put,minN_eq]
   have zg:∀ c,c≠s0.n+1→z0.h.get c=t.h.get c:=fun c hc=>by rw [hz0,get_put_ne' _ _ _ _ hc]
   have zl:z0.h.get (s0.n+1)=some (.loop { lo with state:=.busy }):=by rw [hz0];exact get_put_eq _ _ _ _ rfl (by omega)
   have z2:=(zg u.n (by omega)).trans j1
   obtain ⟨y,hy⟩:∃ y:St,y=z0.new (.cells [.int .i64 (x:Int)] 0):=⟨_,rfl⟩
   have yn:y.n=z0.n+1:=by rw [hy];rfl
   have ym:y.m=z0.m:=by rw [hy];rfl
   have yg:∀ c,c<z0.n→y.h.get c=z0.h.get c:=fun c hc=>by rw [hy,get_new_ne _ _ _ (by omega)]
   have yp:y.h.get z0.n=some (.cells [.int .i64 (x:Int)] 0):=by rw [hy];exact get_new_eq _ _ _ rfl (by omega)
   obtain ⟨s7,e7,l7,s7n,s7g,s7m,s7l⟩:=append_at (bytes:=8) (j2.mono (h':=y.h) (n':=y.n) (fun h=>(yg b1 (by omega)).trans (zg b1 (by omega))) (by omega)) yp rfl rfl (by rw [natRows_len];omega) (by kernel_rfl) (by omega)
   rw [natRows_len] at e7 l7
   have hsn:natRows p++[[.int .i64 (x:Int)]]=natRows (p++[x]):=by unfold natRows intRows;simp
   rw [hsn] at l7
   obtain ⟨v7,hv7⟩:∃ v7,v7=AV.slice y.n 0 (p.length+1) (p.length+1) true:=⟨_,rfl⟩
   rw [← hv7] at e7 l7
   rw [hy] at e7
   have kv1:∀ t,okA (.val v1 t)=.val v1 t:=j2.okA
   have sc7:scalars [v7]=true:=by rw [hv7];rfl
   have cc7:cellsOf 1 v7=some [v7]:=by rw [hv7];rfl
   have s9:=(s7g u.n (by omega) (by omega)).trans ((yg u.n (by omega)).trans z2)
   have base:∀ c,c<t.n→c≠s0.n+1→c≠b1→s7.h.get c=t.h.get c:=fun c h1 h2 h3=>(s7g c (by omega) h3).trans ((yg c (by omega)).trans (zg c h2))
   have hbody:K98b0 (call Try.prog X M) ⟨lo.fn,some (s0.n+1),lo.nt,lo.xs⟩ L1 [] z0=.done .norm L1 [] (s7.put u.n (.cells [v7] (tag 22))):=by
    simp (disch:=first|omega|(with_unfolding_all exact rfl)|(simp only[new_n,put_n,new_m];omega)|(refine put_m_le ?_;simp only[new_m];omega)) only [K98b0,K98b0r0,Abs.W,reduceIte,Nat.reduceEqDiff,Nat.reduceSub,l2,l5,z2,kv1,e7,s9,sc7,cc7]
   have lb1:b1<z0.n∨p=[]:=by
    rcases j2.is with ⟨z,_⟩ | ⟨_,z,_⟩
    ·exact .inr (by have:=natRows_len p;rw [z] at this;exact List.length_eq_zero_iff.mp this.symm)
    ·exact .inl (by omega)
   have zl2:(s7.put u.n (.cells [v7] (tag 22))).h.get (s0.n+1)=some (.loop { lo with state:=.busy }):=by
    rw [get_put_ne' _ _ _ _ (by omega),s7g _ (by omega) (by omega),yg _ (by omega)];exact zl
   have hcr:=call_round (P:=Try.prog) (X:=X) (n:=M) (l:=s0.n+1) (args:=ev1 x) (r:=lo) (r1:=lo) jl (by rw [hlo];rfl) (by rw [hlo];exact code98a0) (by rw [hlo];exact code98b0) hass jl (by rw [hlo];rfl) (by rw [← hz0];exact hbody) zl2
   rw [goes_norm,jump_norm] at hcr
   have hlo2:({ ({ lo with state:=.busy }:ALoop) with state:=if true=true then .ready else .done,pending:=none }:ALoop)=lo:=by rw [hlo];rfl
   rw [hlo2] at hcr
   refine ⟨_,hcr,⟨⟨v7,y.n,?_,?_,by omega⟩,fun c h1 h2=>?_,?_,get_put_eq _ _ _ _ rfl (by omega),by simp only [put_n];omega⟩,by simp only [put_n];omega,by simp only [put_n];omega,?_,?_,?_⟩
   ·rw [get_put_ne' _ _ _ _ (by omega)];exact get_put_eq _ _ _ _ rfl (by omega)
   ·exact l7.mono (fun _=>by rw [get_put_ne' _ _ _ _ (by omega),get_put_ne' _ _ _ _ (by omega)]) (by simp only [put_n];omega)
   ·rw [get_put_ne' _ _ _ _ (by omega),get_put_ne' _ _ _ _ (by omega),base c (by omega) (by omega) (by omega)];exact js c h1 h2
   ·rw [get_put_ne' _ _ _ _ (by omega),get_put_ne' _ _ _ _ (by omega),base s0.n (by omega) (by omega) (by omega)];exact jd
   ·have:=s7m u.n (by omega) (by omega) (by omega)
    simp only [St.put,minN_eq];omega
   ·simp only [St.put,minN_eq];omega
   ·simp only [St.put,minN_eq];omega⟩
  have hRS:=hR.grow (h':=S0.h) (n':=u.n) (fun y hy=>(g0 y (by omega)).trans (s0g y hy)) (Nat.le_refl _)
  have gpS:=(g0 pb (by omega)).trans ((s0g pb hp).trans gp)
  obtain ⟨s2,e2,⟨⟨v1,b1,j1,j2,j3⟩,js,jd,jl,jn⟩,k4,k5,k6,k7⟩:=values1_all hT hRS gpS hp hl (fun p h n ⟨_,js,_,_,_⟩ y hy=>(js y (by omega) (by omega)).trans (g0 y (by omega)).symm) (by omega) (by omega) ⟨⟨.nilslice,s0.n+2,(g0 _ (by omega)).trans s00,IsAt.nil _ _ _ _ _,by omega⟩,fun y h1 _=>g0 y h1,gd,gl,by omega⟩ (by omega) (by omega) (by omega)
  have hcall:callV (call Try.prog X (M+2)) [.yield (s0.n+1)] ((s0.new .dfr).new (.loop ⟨.ready,none,98,L0,[7],(rangeAt Try.f98 0).1,(rangeAt Try.f98 0).2,s0.n,Try.f98.ntmps,X 98⟩)) ((Arg.tmp 6).ev L0)=.val (.tup []) s2:=by
   rw [ev_tmp,f6,callV_func]
   rw [hS0,hlo] at e2
   exact e2
  have hrng:=range_any (d:=[]) (e:=.norm) (c:=⟨98,none,Try.f98.ntmps,X 98⟩) rfl hcall jl (by rw [hlo];show LoopState.ready≠LoopState.busy;simp) (by rw [hlo];rfl)
  have p2':(s2.put (s0.n+1) (.loop { lo with state:=.exhausted })).h.get u.n=some (.cells [v1] (tag 22)):=by rw [get_put_ne' _ _ _ _ (by omega)];exact j1
  have kv1:∀ t,okA (.val v1 t)=.val v1 t:=j2.okA
  simp (disch:=first|omega|(with_unfolding_all exact rfl)|(simp only[new_n,put_n,new_m];omega)|(refine put_m_le ?_;simp only[new_m];omega)) only [K98r2,Abs.W,reduceIte,Nat.reduceEqDiff,Nat.reduceSub,hrng,f2,p2',kv1]
  rw [leave_dfr _ _ _ _ _ (by rw [get_put_ne' _ _ _ _ (by omega)];exact jd),res98]
  simp (disch:=first|omega|(with_unfolding_all exact rfl)|(simp only[new_n,put_n,new_m];omega)|(refine put_m_le ?_;simp only[new_m];omega)) only [Abs.W,reduceIte,efs]
  refine ⟨_,_,rfl,⟨fun c hc=>?_,by simp only [St.kill,put_n];omega,by simp only [St.kill,put_n];omega,?_,?_⟩,⟨b1,by omega,j2.mono (fun _=>by rw [get_kill_ne _ _ _ (by omega),get_put_ne' _ _ _ _ (by omega)]) (by simp only [St.kill,put_n];omega)⟩,fun hp=>?_⟩
  ·rw [get_kill_ne _ _ _ (by omega),get_put_ne' _ _ _ _ (by omega),js c (by omega) (by omega)];exact s0g c hc
  ·simp only [St.kill,St.put,minN_eq];omega
  ·simp only [St.kill,St.put,minN_eq];omega
  ·rcases j2.is with ⟨z1,z2⟩ | ⟨_,_,z,_⟩
   ·exact ⟨s.n,by omega,by rw [z1,z2];exact IsAt.nil _ _ _ _ _⟩
   ·subst z;cases hp)
 exact ⟨w',bd,t,hr.symm.trans e,st,hbd,hI⟩
theorem Collect_ex {N pb:Nat} {f:List Nat} {v:AV} {s:St} {r:ARes} (hr:call Try.prog X N (.fn 94) [.func 96 [] [.ptr pb 0]] s=r) (hN:5≤N) (hR:RowsAt s.h s.n 1 (natRows f) v) (gp:s.h.get pb=some (.cells [v] (tag 22))) (hp:pb<s.n) (hl:f.length≤8) (hs:s.n+10000≤far) :
  ∃ w bd t,r=.val w t∧New s t 1000∧s.n≤bd∧IsAt t.h t.n bd 1 (tag 3) (natRows f) w:=by
 obtain ⟨n,rfl⟩:∃ n,N=n+1:=⟨N - 1,by omega⟩
 have hf:far=1000000000:=rfl
 obtain ⟨w',t,e,st,bd,hbd,hI⟩:=call_new' (n:=n) (args:=[.func 96 [] [.ptr pb 0]]) (s:=s) (k:=1000) (Q:=fun w h n=>∃ bd,s.n≤bd∧IsAt h n bd 1 (tag 3) (natRows f) w) Try.func94 rfl (fun u uh un um=>by
  rw [← uh,← un] at hR
  rw [← uh] at gp
  rw [← un] at hp
  rw [← un]
  rw [enter94]
  simp (disch:=first|omega|(with_unfolding_all exact rfl)|(simp only[new_n,put_n,new_m];omega)|(refine put_m_le ?_;simp only[new_m];omega)) only [K94r0,K94r1,K94,Abs.W,reduceIte,Nat.reduceEqDiff,Nat.reduceAdd]
  generalize hc:call _ _ _ (.fn 98) _ _=rc
  obtain ⟨w,bd,t,rfl,st,hbd,hI⟩:=Append_ex hc (by omega) hR gp hp hl (by omega)
  simp (disch:=first|omega|(with_unfolding_all exact rfl)|(simp only[new_n,put_n,new_m];omega)|(refine put_m_le ?_;simp only[new_m];omega)) only [res94,Abs.W,reduceIte,Nat.reduceEqDiff]
  have n1:=st.n
  have k1:=st.le
  refine ⟨_,_,rfl,⟨st.same,by omega,by omega,by have:=st.m;omega,by have:=st.m;omega⟩,⟨bd,hbd,hI⟩,fun hp=>?_⟩
  rcases hI.is with ⟨z1,z2⟩ | ⟨_,_,z,_⟩
  ·exact ⟨u.n,Nat.le_refl _,by rw [z1,z2];exact IsAt.nil _ _ _ _ _⟩
  ·subst z;cases hp)
 exact ⟨w',bd,t,hr.symm.trans e,st,hbd,hI⟩
end Go.Proofs.Ythbhjgbpjlnbcaa.walk
set_option maxRecDepth 10000
namespace Go.Proofs.Ythbhjgbpjlnbcaa.walk
open Go.Abs Go.Proofs.Ythbhjgbpjlnbcaa.code
theorem len64_ok (N:Nat) (hN:1≤N) (k:Nat) (hk:k≤8) (s:St) (hs:s.n≤far):∃ v:Int,call Try.prog X N (.fn 82) [.int .u64 (k:Int)] s=.val (.int .i64 v) s:=by
 obtain ⟨n,rfl⟩:∃ n,N=n+1:=⟨N - 1,by omega⟩
 have:∃ v:Int,∀ u:St,enterA Try.prog X (call Try.prog X n) 82 [.int .u64 (k:Int)] u Try.f82=.val (.int .i64 v) u:=by
  have:k=0∨k=1∨k=2∨k=3∨k=4∨k=5∨k=6∨k=7∨k=8:=by omega
  rcases this with rfl | rfl | rfl | rfl | rfl | rfl | rfl | rfl | rfl
  ·exact ⟨0,fun u=>by rw [enter82];kernel_rfl⟩
  ·exact ⟨1,fun u=>by rw [enter82];kernel_rfl⟩
  ·exact ⟨2,fun u=>by rw [enter82];kernel_rfl⟩
  ·exact ⟨2,fun u=>by rw [enter82];kernel_rfl⟩
  ·exact ⟨3,fun u=>by rw [enter82];kernel_rfl⟩
  ·exact ⟨3,fun u=>by rw [enter82];kernel_rfl⟩
  ·exact ⟨3,fun u=>by rw [enter82];kernel_rfl⟩
  ·exact ⟨3,fun u=>by rw [enter82];kernel_rfl⟩
  ·exact ⟨4,fun u=>by rw [enter82];kernel_rfl⟩
 obtain ⟨v,hv⟩:=this
 exact ⟨v,call_plain (s':=⟨s.h,s.n,far⟩) Try.func82 (hv _) rfl hs⟩
theorem len_ok (N:Nat) (hN:2≤N) (k:Nat) (hk:k≤8) (s:St) (hs:s.n≤far):∃ v:Int,call Try.prog X N (.fn 59) [.int .u64 (k:Int)] s=.val (.int .i64 v) s:=by
 obtain ⟨n,rfl⟩:∃ n,N=n+1:=⟨N - 1,by omega⟩
 obtain ⟨v,hv⟩:=len64_ok n (by omega) k hk ⟨s.h,s.n,far⟩ hs
 refine ⟨v,call_plain (s':=⟨s.h,s.n,far⟩) Try.func59 ?_ rfl hs⟩
 rw [enter59]
 simp only [res59,K59r0,K59r1,K59r2,K59,Abs.W,reduceIte,Nat.reduceEqDiff,Nat.reduceAdd,hv]
def Cmps (N nb:Nat) (cmpv:AV) (rd:Nat→Prop) (H:Heap) (key:Nat→Int) (f:List Nat):Prop :=
 ∀ s:St,(∀ y,rd y→s.h.get y=H.get y)→nb≤s.n→s.n+300000≤far→∀ a ∈ f,∀ b ∈ f,a≠b→∃ c:Int,callV (call Try.prog X N) [.int .i64 (a:Int),.int .i64 (b:Int)] s cmpv=.val (.int .i64 c) s∧(c<0↔key a<key b)
structure Same (f g:List Nat) (n:Nat):Prop where
 len:g.length=n
 mem:∀ x,x ∈ g↔x ∈ f
 nd:g.Nodup
abbrev at0 (g:List Nat) (p:Nat):Nat:=g.getD p 0
theorem at0_mem {g:List Nat} {p:Nat} (h:p<g.length):at0 g p ∈ g:=by
 have:at0 g p=g[p]:=by simp [at0,List.getD,h]
 rw [this];exact List.getElem_mem h
theorem at0_inj {g:List Nat} (hd:g.Nodup) {p q:Nat} (hp:p<g.length) (hq:q<g.length) (e:at0 g p=at0 g q):p=q:=by
 have e1:at0 g p=g[p]:=by simp [at0,List.getD,hp]
 have e2:at0 g q=g[q]:=by simp [at0,List.getD,hq]
 rw [e1,e2] at e
 exact getElem_inj hd hp hq e
def swp (g:List Nat) (j:Nat):List Nat:=(g.set j (at0 g (j - 1))).set (j - 1) (at0 g j)
theorem swp_len (g:List Nat) (j:Nat):(swp g j).length=g.length:=by unfold swp;rw [List.length_set,List.length_set]
theorem swp_at {g:List Nat} {j p:Nat} (hj:j<g.length) (h0:0<j):at0 (swp g j) p=if p=j - 1 then at0 g j else if p=j then at0 g (j - 1) else at0 g p:=by
 unfold swp at0
 rw [getD_set (by rw [List.length_set];omega),getD_set hj]
 by_cases h1:p=j - 1
 ·rw [if_pos h1.symm,if_pos h1]
 ·rw [if_neg (fun e=>h1 e.symm),if_neg h1]
  by_cases h2:p=j
  ·rw [if_pos h2.symm,if_pos h2]
  ·rw [if_neg (fun e=>h2 e.symm),if_neg h2]
theorem mem_at {g:List Nat} {x:Nat}:x ∈ g↔∃ p,p<g.length∧at0 g p=x:=by
 constructor
 ·intro h
  obtain ⟨p,hp,rfl⟩:=List.getElem_of_mem h
  exact ⟨p,hp,by simp [at0,List.getD,hp]⟩
 ·rintro ⟨p,hp,rfl⟩
  exact at0_mem hp
theorem nodup_at {g:List Nat} (h:∀ p q,p<g.length→q<g.length→at0 g p=at0 g q→p=q):g.Nodup:=by
 unfold List.Nodup
 rw [List.pairwise_iff_getElem]
 intro i j hi hj hij e
 have:=h i j hi hj (by simpa [at0,List.getD,hi,hj] using e)
 omega
theorem swp_same {f g:List Nat} {n j:Nat} (h:Same f g n) (hj:j<n) (h0:0<j):Same f (swp g j) n:=by
 obtain ⟨hl,hm,hd⟩:=h
 have hjg:j<g.length:=by omega
 refine ⟨by rw [swp_len];exact hl,fun x=>?_,nodup_at fun p q hp hq e=>?_⟩
 ·rw [← hm x,mem_at,mem_at,swp_len]
  constructor
  ·rintro ⟨p,hp,e⟩
   rw [swp_at hjg h0] at e
   by_cases h1:p=j - 1
   ·rw [if_pos h1] at e;exact ⟨j,hjg,e⟩
   ·rw [if_neg h1] at e
    by_cases h2:p=j
    ·rw [if_pos h2] at e;exact ⟨j - 1,by omega,e⟩
    ·rw [if_neg h2] at e;exact ⟨p,hp,e⟩
  ·rintro ⟨p,hp,e⟩
   by_cases h1:p=j - 1
   ·refine ⟨j,hjg,?_⟩
    rw [swp_at hjg h0,if_neg (by omega),if_pos rfl,← h1];exact e
   ·by_cases h2:p=j
    ·refine ⟨j - 1,by omega,?_⟩
     rw [swp_at hjg h0,if_pos rfl,← h2];exact e
    ·exact ⟨p,hp,by rw [swp_at hjg h0,if_neg h1,if_neg h2];exact e⟩
 ·rw [swp_len] at hp hq
  rw [swp_at hjg h0,swp_at hjg h0] at e
  by_cases p1:p=j - 1<;>by_cases q1:q=j - 1
  ·omega
  ·rw [if_pos p1,if_neg q1] at e
   by_cases q2:q=j
   ·rw [if_pos q2] at e;have:=at0_inj hd hjg (by omega) e;omega
   ·rw [if_neg q2] at e;have:=at0_inj hd hjg hq e;omega
  ·rw [if_neg p1,if_pos q1] at e
   by_cases p2:p=j
   ·rw [if_pos p2] at e;have:=at0_inj hd (by omega) hjg e;omega
   ·rw [if_neg p2] at e;have:=at0_inj hd hp hjg e;omega
  ·rw [if_neg p1,if_neg q1] at e
   by_cases p2:p=j<;>by_cases q2:q=j
   ·omega
   ·rw [if_pos p2,if_neg q2] at e;have:=at0_inj hd (by omega) hq e;omega
   ·rw [if_neg p2,if_pos q2] at e;have:=at0_inj hd hp (by omega) e;omega
   ·rw [if_neg p2,if_neg q2] at e;exact at0_inj hd hp hq e
def Upto (key:Nat→Int) (g:List Nat) (i:Nat):Prop:=∀ p q,p<q→q<i→key (at0 g p)<key (at0 g q)
def ButAt (key:Nat→Int) (g:List Nat) (i j:Nat):Prop:=(∀ p q,p<q→q≤i→p≠j→q≠j→key (at0 g p)<key (at0 g q))∧∀ q,j<q→q≤i→key (at0 g j)<key (at0 g q)
theorem ButAt.start {key:Nat→Int} {g:List Nat} {i:Nat} (h:Upto key g i):ButAt key g i i:=⟨fun p q h1 h2 _ h3=>h p q h1 (by omega),fun q h1 h2=>by omega⟩
theorem ButAt.stop {key:Nat→Int} {g:List Nat} {i j:Nat} (h:ButAt key g i j) (hj:j≤i) (h0:j=0∨key (at0 g (j - 1))<key (at0 g j)):Upto key g (i+1):=by
 intro p q h1 h2
 by_cases hp:p=j
 ·rw [hp];exact h.2 q (by omega) (by omega)
 ·by_cases hq:q=j
  ·rcases h0 with h0 | h0
   ·omega
   ·rw [hq]
    by_cases hp2:p=j - 1
    ·rw [hp2];exact h0
    ·have:=h.1 p (j - 1) (by omega) (by omega) hp (by omega)
     omega
  ·exact h.1 p q h1 (by omega) hp hq
theorem ButAt.step {key:Nat→Int} {g:List Nat} {i j:Nat} (h:ButAt key g i j) (hj:j≤i) (hi:i<g.length) (h0:0<j) (hk:key (at0 g j)<key (at0 g (j - 1))):ButAt key (swp g j) i (j - 1):=by
 have hjg:j<g.length:=by omega
 refine ⟨fun p q h1 h2 hp hq=>?_,fun q h1 h2=>?_⟩
 ·rw [swp_at hjg h0,swp_at hjg h0,if_neg hp,if_neg hq]
  by_cases p2:p=j
  ·rw [if_pos p2,if_neg (by omega)]
   exact h.1 (j - 1) q (by omega) h2 (by omega) (by omega)
  ·rw [if_neg p2]
   by_cases q2:q=j
   ·rw [if_pos q2]
    exact h.1 p (j - 1) (by omega) (by omega) p2 (by omega)
   ·rw [if_neg q2]
    exact h.1 p q h1 h2 p2 q2
 ·rw [swp_at hjg h0,swp_at hjg h0,if_pos rfl,if_neg (by omega)]
  by_cases q2:q=j
  ·rw [if_pos q2];exact hk
  ·rw [if_neg q2];exact h.2 q (by omega) h2
structure SortJ (w t:St) (bd sz:Nat) (f g:List Nat) (k:Nat):Prop where
 cell:t.h.get bd=some (.cells (natRows g).flatten sz)
 same:∀ c,c≠bd→t.h.get c=w.h.get c
 n:t.n=w.n
 m:min w.m bd≤t.m
 mle:t.m≤w.m
 un:t.m≤bd∨t.h.get bd=w.h.get bd
 sm:Same f g k
theorem ins_round (N:Nat) (cx:Ctx) {w t:St} {bd sz nb n i j:Nat} {e:Bool} {cmpv:AV} {rd:Nat→Prop} {key:Nat→Int} {f g:List Nat} {L:Env} (hC:Cmps N nb cmpv rd w.h key f) (hrd:¬ rd bd) (J:SortJ w t bd sz f g n) (hB:ButAt key g i j) (hij:j≤i) (hi:i<n) (hn:n≤8) (hbd:bd<w.n) (hnb:nb≤w.n) (hs:w.n+300000≤far) (hkinj:∀ a ∈ f,∀ b ∈ f,a≠b→key a≠key b)
  (q0:L.find 0=.slice bd 0 n n e) (q1:L.find 1=.int .i64 0) (q3:L.find 3=cmpv) (q9:L.find 9=.int .i64 (j:Nat)) :
  (∃ L1 t1,0<j∧K100l0 (call Try.prog X N) cx L [] t=.done .norm L1 [] t1∧SortJ w t1 bd sz f (swp g j) n∧ButAt key (swp g j) i (j - 1)∧L1.find 9=.int .i64 ((j - 1:Nat):Int)∧∀ c,c<9→L1.find c=L.find c)∨(∃ L1,K100l0 (call Try.prog X N) cx L [] t=.done (.exit 2) L1 [] t∧Upto key g (i+1)∧∀ c,c<9→L1.find c=L.find c):=by
 have hf:far=1000000000:=rfl
 obtain ⟨jc,js,jn,jm,jml,jun,⟨sl,smm,snd⟩⟩:=J
 have hgl:(natRows g).length=n:=by rw [natRows_len,sl]
 have u5:=eq3 K100r3s5.eq_1
 have u6:=eq3 K100r3s6.eq_1
 have u7:=eq3 K100r3s7.eq_1
 have u8:=eq3 K100r3s8.eq_1
 have u9:=eq3 K100r3s9.eq_1
 have u10:=eq3 K100r3s10.eq_1
 have u11:=eq3 K100r3s11.eq_1
 have u12:=eq3 K100r3s12.eq_1
 have u13:=eq3 K100r3s13.eq_1
 have u14:=eq3 K100r3s14.eq_1
 have u15:=eq3 K100r3s15.eq_1
 have u16:=eq3 K100r3s16.eq_1
 by_cases h0:0<j
 ·have e0:decide ((0:Int)<((j:Nat):Int))=true:=decide_eq_true (by omega)
  have sb:∀ s,aSub s .i64 ((j:Nat):Int) 1=.val (.int .i64 ((j - 1:Nat):Int)) s:=fun s=>by rw [aSub_i64 s _ _ (by omega)];congr 2;omega
  have ij:∀ s,ixsA 1 s (.slice bd 0 n n e) (.int .i64 (j:Int))=.val (.ptr bd j) s:=fun s=>by rw [ixs_slice 1 s bd 0 n n e j (by omega),Nat.zero_add,Nat.mul_one]
  have ij1:∀ s,ixsA 1 s (.slice bd 0 n n e) (.int .i64 ((j - 1:Nat):Int))=.val (.ptr bd (j - 1)) s:=fun s=>by rw [ixs_slice 1 s bd 0 n n e (j - 1) (by omega),Nat.zero_add,Nat.mul_one]
  have nj:=natRows_nth (f:=g) (k:=j) (by omega)
  have nj1:=natRows_nth (f:=g) (k:=j - 1) (by omega)
  have hne:at0 g j≠at0 g (j - 1):=fun h=>by have:=at0_inj snd (by omega) (by omega) h;omega
  have mj:=(smm _).mp (at0_mem (g:=g) (p:=j) (by omega))
  have mj1:=(smm _).mp (at0_mem (g:=g) (p:=j - 1) (by omega))
  obtain ⟨c,hc,hck⟩:=hC t (fun y hy=>js y (fun h=>hrd (h▸hy))) (by omega) (by omega) _ mj _ mj1 hne
  by_cases hlt:c<0
  ·have d1:decide (c<0)=true:=decide_eq_true hlt
   have o1:=natRows_over (f:=g) (k:=j) (by omega) (at0 g (j - 1))
   have o2:=natRows_over (f:=g.set j (at0 g (j - 1))) (k:=j - 1) (by rw [List.length_set];omega) (at0 g j)
   refine .inl ⟨_,_,h0,by
    simp (disch:=first|omega|(with_unfolding_all exact rfl)|(simp only[new_n,put_n,new_m];omega)|(refine put_m_le ?_;simp only[new_m];omega)) only [K100l0,K100r3,K100r4,K100r5,u5,u6,u7,u8,u9,u10,u11,u12,u13,u14,u15,u16,Abs.W,reduceIte,Nat.reduceEqDiff,efs,q0,q1,q3,q9,e0,sb,ij,ij1,jc,nj,nj1,hc,d1,o1,o2]
    rfl,⟨get_put_eq _ _ _ _ rfl (by omega),fun c hc=>?_,by simp only [put_n];exact jn,?_,?_,.inl (by simp only [St.put,minN_eq];omega),swp_same ⟨sl,smm,snd⟩ (by omega) h0⟩,hB.step hij (by omega) h0 (hck.mp hlt),?_,fun c hc=>?_⟩
   ·rw [get_put_ne' _ _ _ _ hc,get_put_ne' _ _ _ _ hc];exact js c hc
   ·simp only [St.put,minN_eq];omega
   ·simp only [St.put,minN_eq];omega
   ·simp only [efs,reduceIte,Nat.reduceEqDiff]
   ·simp only [efs]
    repeat rw [if_neg (by omega)]
  ·have d1:decide (c<0)=false:=decide_eq_false hlt
   refine .inr ⟨_,by
    simp (disch:=first|omega|(with_unfolding_all exact rfl)|(simp only[new_n,put_n,new_m];omega)|(refine put_m_le ?_;simp only[new_m];omega)) only [K100l0,K100r3,u5,u6,u7,u8,u9,u10,u11,u12,u13,u14,u15,u16,Abs.W,reduceIte,Nat.reduceEqDiff,efs,q0,q1,q3,q9,e0,sb,ij,ij1,jc,nj,nj1,hc,d1]
    rfl,hB.stop hij (.inr ?_),fun c hc=>?_⟩
   ·have h1:¬ key (at0 g j)<key (at0 g (j - 1)):=fun h=>hlt (hck.mpr h)
    have h2:=hkinj _ mj _ mj1 hne
    omega
   ·simp only [efs]
    repeat rw [if_neg (by omega)]
 ·obtain rfl:j=0:=by omega
  have e0:decide ((0:Int)<((0:Nat):Int))=false:=rfl
  refine .inr ⟨_,by
   simp (disch:=first|omega|(with_unfolding_all exact rfl)|(simp only[new_n,put_n,new_m];omega)|(refine put_m_le ?_;simp only[new_m];omega)) only [K100l0,K100r3,u5,u6,u7,u8,u9,u10,u11,u12,u13,u14,u15,u16,Abs.W,reduceIte,Nat.reduceEqDiff,efs,q1,q9,e0]
   rfl,hB.stop hij (.inl rfl),fun c hc=>?_⟩
  simp only [efs]
  repeat rw [if_neg (by omega)]
end Go.Proofs.Ythbhjgbpjlnbcaa.walk
set_option maxRecDepth 10000
namespace Go.Proofs.Ythbhjgbpjlnbcaa.walk
open Go.Abs Go.Proofs.Ythbhjgbpjlnbcaa.code
theorem insort_ex {N bd sz nb n:Nat} {e:Bool} {cmpv:AV} {rd:Nat→Prop} {key:Nat→Int} {f:List Nat} {s:St} (hC:Cmps N nb cmpv rd s.h key f) (hrd:¬ rd bd) (hcv:cmpv.scalar=true) (hg:s.h.get bd=some (.cells (natRows f).flatten sz)) (hf':f.length=n) (hnd:f.Nodup) (hn:n≤8) (hbd:bd<s.n) (hnb:nb≤s.n) (hs:s.n+300000≤far) (hm:s.m≤far) (hkinj:∀ a ∈ f,∀ b ∈ f,a≠b→key a≠key b) :
  ∃ t g,call Try.prog X (N+1) (.fn 100) [.slice bd 0 n n e,.int .i64 0,.int .i64 (n:Int),cmpv] s=.val (.tup []) t∧SortJ s t bd sz f g n∧Upto key g n:=by
 have hf:far=1000000000:=rfl
 obtain ⟨v',t,mm,e',⟨rfl,g,a1,a2,a3,a4,a5,a6⟩,hm'⟩:=call_any (X:=X) (n:=N) (args:=[.slice bd 0 n n e,.int .i64 0,.int .i64 (n:Int),cmpv]) (s:=s) (Q:=fun v h n' m'=>v=.tup []∧∃ g,h.get bd=some (.cells (natRows g).flatten sz)∧(∀ c,c≠bd→h.get c=s.h.get c)∧n'=s.n∧(bd≤m'∧m'≤far)∧(m'≤bd∨h.get bd=s.h.get bd)∧Same f g n∧Upto key g n) Try.func100 rfl (fun u uh un um=>by
  rw [← uh] at hC hg
  rw [← un] at hbd hnb
  rw [enter100]
  have ad01:∀ s,aAdd s .i64 0 1=.val (.int .i64 1) s:=fun s=>rfl
  simp (disch:=first|omega|(with_unfolding_all exact rfl)|(simp only[new_n,put_n,new_m];omega)|(refine put_m_le ?_;simp only[new_m];omega)) only [K100,K100r0,Abs.W,reduceIte,Nat.reduceEqDiff,Nat.reduceAdd,kLoop_def,ad01]
  generalize hlp:loopN _ rounds _ _ _ _ _=rl
  obtain ⟨e1,L1,s1,rfl,rfl,g,hJ,hU⟩:=loop_of hlp (fun i L' t'=>L'.find 0=.slice bd 0 n n e∧L'.find 1=.int .i64 0∧L'.find 2=.int .i64 (n:Int)∧L'.find 3=cmpv∧L'.find 8=.int .i64 (i+1:Nat)∧∃ g,SortJ u t' bd sz f g n∧Upto key g (i+1))
   (fun e1 L1 t'=>e1=.exit 0∧∃ g,SortJ u t' bd sz f g n∧Upto key g n) (n - 1) (by unfold rounds;omega)
   ⟨by simp only [find_cons,reduceIte,Nat.reduceEqDiff],by simp only [find_cons,reduceIte,Nat.reduceEqDiff],by simp only [find_cons,reduceIte,Nat.reduceEqDiff],by simp only [find_cons,reduceIte,Nat.reduceEqDiff],by simp only [find_cons,reduceIte,Nat.reduceEqDiff];rfl,f,⟨hg,fun _ _=>rfl,rfl,by omega,Nat.le_refl _,.inr rfl,⟨hf',fun _=>Iff.rfl,hnd⟩⟩,fun p q h1 h2=>by omega⟩
   (fun i L' t' hi ⟨q0,q1,q2,q3,q8,g,hJ,hU⟩=>by
    by_cases hlt:i+1<n
    ·have e0:decide (((i+1:Nat):Int)<(n:Int))=true:=decide_eq_true (by omega)
     have ad:∀ s,aAdd s .i64 ((i+1:Nat):Int) 1=.val (.int .i64 ((i+2:Nat):Int)) s:=fun s=>by rw [aAdd_i64 s _ _ (by omega)];rfl
     have hin:∃ L2 t2 g2,K100l1 (call Try.prog X N) ⟨100,none,Try.f100.ntmps,X 100⟩ L' [] t'=.done .norm L2 [] t2∧L2.find 8=.int .i64 ((i+2:Nat):Int)∧(∀ c,c<8→L2.find c=L'.find c)∧SortJ u t2 bd sz f g2 n∧Upto key g2 (i+2):=by
      simp (disch:=first|omega|(with_unfolding_all exact rfl)|(simp only[new_n,put_n,new_m];omega)|(refine put_m_le ?_;simp only[new_m];omega)) only [K100l1,K100r1,K100r2,Abs.W,reduceIte,Nat.reduceEqDiff,kLoop_def,efs,q2,q8,e0]
      generalize hl2:loopN _ rounds _ _ _ _ _=rl2
      obtain ⟨e2,L2,t2,rfl,rfl,g2,hJ2,hU2,hc2⟩:=loop_of hl2 (fun q L2 t2=>q≤i+1∧∃ g2,SortJ u t2 bd sz f g2 n∧ButAt key g2 (i+1) (i+1 - q)∧L2.find 9=.int .i64 ((i+1 - q:Nat):Int)∧∀ c,c<9→L2.find c=L'.find c)
       (fun e2 L2 t2=>e2=.exit 2∧∃ g2,SortJ u t2 bd sz f g2 n∧Upto key g2 (i+2)∧∀ c,c<9→L2.find c=L'.find c) (i+1) (by unfold rounds;omega)
       ⟨Nat.zero_le _,g,hJ,ButAt.start hU,by simp only [efs,reduceIte,Nat.reduceEqDiff];rfl,fun c hc=>by
        simp only [efs]
        repeat rw [if_neg (by omega)]⟩
       (fun q L2 t2 hq ⟨hq',g2,hJ2,hB2,p9,hc2⟩=>by
        rcases ins_round N ⟨100,none,Try.f100.ntmps,X 100⟩ hC hrd hJ2 hB2 (by omega) hlt hn hbd hnb (by omega) hkinj ((hc2 0 (by omega)).trans q0) ((hc2 1 (by omega)).trans q1) ((hc2 3 (by omega)).trans q3) p9 with ⟨L3,t3,z0,z1,z2,z3,z4,z5⟩ | ⟨L3,z1,z2,z3⟩
        ·exact .inl ⟨by omega,L3,t3,z1,by omega,_,z2,by rw [show i+1 - (q+1)=i+1 - q - 1 by omega];exact z3,by rw [show i+1 - (q+1)=i+1 - q - 1 by omega];exact z4,fun c hc=>(z5 c hc).trans (hc2 c hc)⟩
        ·exact .inr ⟨.exit 2,L3,t2,by simp,z1,rfl,g2,hJ2,z2,fun c hc=>(z3 c hc).trans (hc2 c hc)⟩)
      have p8:L2.find 8=.int .i64 ((i+1:Nat):Int):=(hc2 8 (by omega)).trans q8
      simp (disch:=first|omega|(with_unfolding_all exact rfl)|(simp only[new_n,put_n,new_m];omega)|(refine put_m_le ?_;simp only[new_m];omega)) only [K100r6,Abs.W,reduceIte,Nat.reduceEqDiff,p8,ad]
      refine ⟨_,t2,g2,rfl,by simp only [efs,reduceIte],fun c hc=>?_,hJ2,hU2⟩
      simp only [efs]
      repeat rw [if_neg (by omega)]
      exact hc2 c (by omega)
     obtain ⟨L2,t2,g2,z1,z2,z3,z4,z5⟩:=hin
     exact .inl ⟨by omega,L2,t2,z1,(z3 0 (by omega)).trans q0,(z3 1 (by omega)).trans q1,(z3 2 (by omega)).trans q2,(z3 3 (by omega)).trans q3,z2,g2,z4,z5⟩
    ·have e0:decide (((i+1:Nat):Int)<(n:Int))=false:=decide_eq_false (by omega)
     refine .inr ⟨.exit 0,L'.set 14 (.bool false),t',by simp,?_,rfl,g,hJ,fun p q h1 h2=>hU p q h1 (by omega)⟩
     simp (disch:=first|omega|(with_unfolding_all exact rfl)|(simp only[new_n,put_n,new_m];omega)|(refine put_m_le ?_;simp only[new_m];omega)) only [K100l1,K100r1,Abs.W,reduceIte,Nat.reduceEqDiff,efs,q2,q8,e0])
  simp (disch:=first|omega|(with_unfolding_all exact rfl)|(simp only[new_n,put_n,new_m];omega)|(refine put_m_le ?_;simp only[new_m];omega)) only [res100,Abs.W,leave_nil]
  obtain ⟨jc,js,jn,jm,jml,jun,jsm⟩:=hJ
  refine ⟨_,_,rfl,⟨rfl,g,jc,fun c hc=>by rw [js c hc,uh],by omega,by omega,by rw [← uh];exact jun,jsm,hU⟩,fun _ hle=>⟨rfl,g,?_,fun _ _=>trivial,trivial,by omega,.inr trivial,jsm,hU⟩⟩
  rcases jun with h | h
  ·omega
  ·rw [← uh,← h];exact jc)
 refine ⟨t,g,e',⟨a1,a2,a3,?_,?_,?_,a6.1⟩,a6.2⟩
 ·rcases hm' with ⟨_,hm'⟩ | ⟨_,hm'⟩<;>omega
 ·rcases hm' with ⟨_,hm'⟩ | ⟨_,hm'⟩<;>omega
 ·rcases a5 with h | h
  ·rcases hm' with ⟨_,hm'⟩ | ⟨_,hm'⟩
   ·omega
   ·exact .inl (by omega)
  ·exact .inr h
theorem insort0_ex {N:Nat} {v cmpv:AV} {s:St} (hs:s.n≤far):call Try.prog X (N+1) (.fn 100) [v,.int .i64 0,.int .i64 0,cmpv] s=.val (.tup []) s:=by
 refine call_plain (s':=⟨s.h,s.n,far⟩) Try.func100 ?_ rfl hs
 have ad01:∀ s,aAdd s .i64 0 1=.val (.int .i64 1) s:=fun s=>rfl
 have e0:decide ((1:Int)<0)=false:=rfl
 rw [enter100]
 simp only [K100,K100r0,Abs.W,reduceIte,Nat.reduceEqDiff,Nat.reduceAdd,kLoop_def,ad01]
 rw [show rounds=(rounds - 1)+1 from rfl,loopN_succ]
 simp only [K100l1,K100r1,res100,Abs.W,reduceIte,Nat.reduceEqDiff,e0,leave_nil]
def Sorts (s t:St) (bd sz:Nat) (key:Nat→Int) (f:List Nat) (n:Nat):Prop:=∃ g,SortJ s t bd sz f g n∧Upto key g n
theorem sorts_call {P:Program} {n:Nat} {f:FuncId} {args:List AV} {s:St} {fn:Func} {bd sz k:Nat} {key:Nat→Int} {l:List Nat} (hf:P.funcs[f]? = some fn) (hbd:bd<s.n) (hm:s.m≤far)
  (h:∀ u:St,u.h=s.h→u.n=s.n→u.m=far→∃ s',enterA P X (Abs.call P X n) f args u fn=.val (.tup []) s'∧Sorts u s' bd sz key l k) :
  ∃ t,Abs.call P X (n+1) (.fn f) args s=.val (.tup []) t∧Sorts s t bd sz key l k:=by
 have hff:far=1000000000:=rfl
 obtain ⟨s',h1,g,⟨jc,js,jn,jm,jml,jun,jsm⟩,hU⟩:=h ⟨s.h,s.n,far⟩ rfl rfl rfl
 simp only at js jn jm jml jun
 cases hb:Nat.ble s.n s'.m with
 | true =>
  have hle:=Nat.le_of_ble_eq_true hb
  refine ⟨s,?_,g,⟨?_,fun _ _=>rfl,rfl,by omega,Nat.le_refl _,.inr rfl,jsm⟩,hU⟩
  ·show callStep P X (Abs.call P X n) (.fn f) args s=_
   unfold callStep
   simp only [hf,h1]
   unfold Abs.settle
   simp only [hb]
   rfl
  ·rcases jun with h | h
   ·omega
   ·rw [← h];exact jc
 | false =>
  refine ⟨⟨s'.h,s'.n,minN s.m s'.m⟩,?_,g,⟨jc,js,jn,?_,?_,?_,jsm⟩,hU⟩
  ·show callStep P X (Abs.call P X n) (.fn f) args s=_
   unfold callStep
   simp only [hf,h1]
   unfold Abs.settle
   simp only [hb]
   rfl
  ·simp only [minN_eq];omega
  ·simp only [minN_eq];omega
  ·exact jun.imp (fun h=>by simp only [minN_eq];omega) id
theorem pdq_ex {N bd sz nb n:Nat} {e:Bool} {cmpv:AV} {lim:Int} {rd:Nat→Prop} {key:Nat→Int} {f:List Nat} {s:St} (hC:Cmps N nb cmpv rd s.h key f) (hrd:¬ rd bd) (hcv:cmpv.scalar=true) (hg:s.h.get bd=some (.cells (natRows f).flatten sz)) (hf':f.length=n) (hnd:f.Nodup) (hn:n≤8) (hbd:bd<s.n) (hnb:nb≤s.n) (hs:s.n+300000≤far) (hm:s.m≤far) (hkinj:∀ a ∈ f,∀ b ∈ f,a≠b→key a≠key b) :
  ∃ t,call Try.prog X (N+2) (.fn 99) [.slice bd 0 n n e,.int .i64 0,.int .i64 (n:Int),.int .i64 lim,cmpv] s=.val (.tup []) t∧Sorts s t bd sz key f n:=by
 have hf:far=1000000000:=rfl
 refine sorts_call (n:=N+1) Try.func99 hbd hm (fun u uh un um=>?_)
 rw [← uh] at hC hg
 rw [← un] at hbd hnb
 obtain ⟨t,g,e1,hJ,hU⟩:=insort_ex (N:=N) (e:=e) hC hrd hcv hg hf' hnd hn hbd hnb (by omega) (by omega) hkinj
 have sb:∀ s,aSub s .i64 (n:Int) 0=.val (.int .i64 (n:Int)) s:=fun s=>by rw [aSub_i64 s _ _ (by omega),Int.sub_zero]
 have e0:decide ((n:Int)≤12)=true:=decide_eq_true (by omega)
 rw [enter99]
 simp (disch:=first|omega|(with_unfolding_all exact rfl)|(simp only[new_n,put_n,new_m];omega)|(refine put_m_le ?_;simp only[new_m];omega)) only [K99,K99r0,K99r1,Abs.W,reduceIte,Nat.reduceEqDiff,Nat.reduceAdd,kLoop_def]
 rw [show rounds=(rounds - 1)+1 from rfl,loopN_succ]
 simp (disch:=first|omega|(with_unfolding_all exact rfl)|(simp only[new_n,put_n,new_m];omega)|(refine put_m_le ?_;simp only[new_m];omega)) only [K99l0,K99r2,K99r3,K99r4,res99,Abs.W,reduceIte,Nat.reduceEqDiff,sb,e0,e1,leave_nil]
 exact ⟨_,rfl,g,hJ,hU⟩
theorem pdq0_ex {N:Nat} {v cmpv:AV} {lim:Int} {s:St} (hs:s.n≤far):call Try.prog X (N+2) (.fn 99) [v,.int .i64 0,.int .i64 0,.int .i64 lim,cmpv] s=.val (.tup []) s:=by
 refine call_plain (s':=⟨s.h,s.n,far⟩) Try.func99 ?_ rfl hs
 have i0:=insort0_ex (N:=N) (v:=v) (cmpv:=cmpv) (s:=⟨s.h,s.n,far⟩) hs
 have sb:∀ s,aSub s .i64 0 0=.val (.int .i64 0) s:=fun s=>rfl
 have e0:decide ((0:Int)≤12)=true:=rfl
 rw [enter99]
 simp only [K99,K99r0,K99r1,Abs.W,reduceIte,Nat.reduceEqDiff,Nat.reduceAdd,kLoop_def]
 rw [show rounds=(rounds - 1)+1 from rfl,loopN_succ]
 simp only [K99l0,K99r2,K99r3,K99r4,res99,Abs.W,reduceIte,Nat.reduceEqDiff,sb,e0,i0,leave_nil]
theorem sortf_ex {N bd sz nb n:Nat} {e:Bool} {cmpv:AV} {rd:Nat→Prop} {key:Nat→Int} {f:List Nat} {s:St} (hC:Cmps N nb cmpv rd s.h key f) (hrd:¬ rd bd) (hcv:cmpv.scalar=true) (hg:s.h.get bd=some (.cells (natRows f).flatten sz)) (hf':f.length=n) (hnd:f.Nodup) (hn:n≤8) (hbd:bd<s.n) (hnb:nb≤s.n) (hs:s.n+300000≤far) (hm:s.m≤far) (hkinj:∀ a ∈ f,∀ b ∈ f,a≠b→key a≠key b) :
  ∃ t,call Try.prog X (N+3) (.fn 95) [.slice bd 0 n n e,cmpv] s=.val (.tup []) t∧Sorts s t bd sz key f n:=by
 have hf:far=1000000000:=rfl
 refine sorts_call (n:=N+2) Try.func95 hbd hm (fun u uh un um=>?_)
 rw [← uh] at hC hg
 rw [← un] at hbd hnb
 obtain ⟨lim,hl⟩:=len_ok (N+2) (by omega) n hn u (by omega)
 obtain ⟨t,e1,hS⟩:=pdq_ex (N:=N) (e:=e) (lim:=lim) hC hrd hcv hg hf' hnd hn hbd hnb (by omega) (by omega) hkinj
 have w1:wrapA .u64 (n:Int)=n:=wrap_u64 n (by omega)
 rw [enter95]
 simp (disch:=first|omega|(with_unfolding_all exact rfl)|(simp only[new_n,put_n,new_m];omega)|(refine put_m_le ?_;simp only[new_m];omega)) only [res95,K95r0,K95r1,K95,Abs.W,reduceIte,Nat.reduceEqDiff,Nat.reduceAdd,cviA_int,w1,hl,e1,leave_nil]
 exact ⟨_,rfl,hS⟩
theorem sortf0_ex {N:Nat} {v cmpv:AV} {s:St} (hv:∀ s,lenSlA s v=.val (.int .i64 0) s) (hs:s.n≤far):call Try.prog X (N+3) (.fn 95) [v,cmpv] s=.val (.tup []) s:=by
 refine call_plain (s':=⟨s.h,s.n,far⟩) Try.func95 ?_ rfl hs
 obtain ⟨lim,hl⟩:=len_ok (N+2) (by omega) 0 (by omega) ⟨s.h,s.n,far⟩ hs
 have p0:=pdq0_ex (N:=N) (v:=v) (cmpv:=cmpv) (lim:=lim) (s:=⟨s.h,s.n,far⟩) hs
 have w1:wrapA .u64 0=((0:Nat):Int):=rfl
 rw [enter95]
 simp only [res95,K95r0,K95r1,K95,Abs.W,reduceIte,Nat.reduceEqDiff,Nat.reduceAdd,hv,cviA_int,w1,hl,p0,leave_nil]
end Go.Proofs.Ythbhjgbpjlnbcaa.walk
set_option maxRecDepth 10000
namespace Go.Proofs.Ythbhjgbpjlnbcaa.walk
open Go.Abs Go.Proofs.Ythbhjgbpjlnbcaa.code
def keyI (l:Letting) (st:Nat) (dr:Int→Int) (a:Nat):Int :=
 (if (stallAt l.stalls st).heir=a then 0 else 10000000000000)+(if (stallAt l.stalls st).rule=3 then 1000000 - (bidI l st a).1 else 0) * 10000+(if (stallAt l.stalls st).rule=1 then 0 else 60 - yearsI l a) * 10+dr a
theorem key_math {h r ba bb ya yb da db a b:Int} (hab:a≠b) (h1:0≤ba∧ba≤1000000) (h2:0≤bb∧bb≤1000000) (h3:0≤ya∧ya≤60) (h4:0≤yb∧yb≤60) (h5:0≤da∧da≤7) (h6:0≤db∧db≤7) (h7:da≠db) :
  ((bif (decide (h=a) || decide (h=b)) then decide (h=a) else bif (decide (r=3) && !decide (ba=bb)) then decide (bb<ba) else bif (!decide (r=1) && !decide (ya=yb)) then decide (yb<ya) else decide (da<db))=true ↔
   (if h=a then (0:Int) else 10000000000000)+(if r=3 then 1000000 - ba else 0) * 10000+(if r=1 then 0 else 60 - ya) * 10+da<(if h=b then (0:Int) else 10000000000000)+(if r=3 then 1000000 - bb else 0) * 10000+(if r=1 then 0 else 60 - yb) * 10+db) ∧
  (if h=a then (0:Int) else 10000000000000)+(if r=3 then 1000000 - ba else 0) * 10000+(if r=1 then 0 else 60 - ya) * 10+da≠(if h=b then (0:Int) else 10000000000000)+(if r=3 then 1000000 - bb else 0) * 10000+(if r=1 then 0 else 60 - yb) * 10+db:=by
 by_cases e1:h=a
 ·have e2:¬ h=b:=by omega
  simp only [e1,decide_true,Bool.true_or,cond_true,if_true,if_neg hab]
  by_cases e3:r=3
  ·have:¬ r=1:=by omega
   simp only [e3,if_true]
   simp only [show ¬ (3:Int)=1 by omega,if_false]
   refine ⟨⟨fun _=>?_,fun _=>trivial⟩,?_⟩<;>omega
  ·by_cases e4:r=1
   ·simp only [e4,show ¬ (1:Int)=3 by omega,if_true,if_false];refine ⟨⟨fun _=>?_,fun _=>trivial⟩,?_⟩<;>omega
   ·simp only [e3,e4,if_false];refine ⟨⟨fun _=>?_,fun _=>trivial⟩,?_⟩<;>omega
 ·by_cases e2:h=b
  ·simp only [e2,show ¬ b=a by omega,decide_true,decide_false,Bool.or_true,cond_true,if_true,if_false]
   by_cases e3:r=3
   ·simp only [e3,show ¬ (3:Int)=1 by omega,if_true,if_false]
    constructor
    ·simp;omega
    ·omega
   ·by_cases e4:r=1
    ·simp only [e4,show ¬ (1:Int)=3 by omega,if_true,if_false]
     constructor
     ·simp;omega
     ·omega
    ·simp only [e3,e4,if_false]
     constructor
     ·simp;omega
     ·omega
  ·simp only [e1,e2,decide_false,Bool.or_self,cond_false,if_false]
   by_cases e3:r=3
   ·simp only [e3,show ¬ (3:Int)=1 by omega,decide_true,decide_false,Bool.true_and,Bool.not_false,if_true,if_false]
    by_cases e5:ba=bb
    ·simp only [e5,decide_true,Bool.not_true,cond_false]
     by_cases e6:ya=yb
     ·simp only [e6,decide_true,Bool.not_true,cond_false,decide_eq_true_eq];omega
     ·simp only [e6,decide_false,Bool.not_false,cond_true,decide_eq_true_eq];omega
    ·simp only [e5,decide_false,Bool.not_false,cond_true,decide_eq_true_eq];omega
   ·by_cases e4:r=1
    ·simp only [e4,show ¬ (1:Int)=3 by omega,decide_true,decide_false,Bool.false_and,Bool.not_true,cond_false,if_true,if_false,decide_eq_true_eq];omega
    ·simp only [e3,e4,decide_false,Bool.false_and,Bool.not_false,Bool.true_and,cond_false,if_false]
     by_cases e6:ya=yb
     ·simp only [e6,decide_true,Bool.not_true,cond_false,decide_eq_true_eq];omega
     ·simp only [e6,decide_false,Bool.not_false,cond_true,decide_eq_true_eq];omega
theorem bidOf_range {st:Int} {T:List (Int × Int)} (h:∀ x ∈ T,0≤x.2∧x.2≤1000000):0≤(bidOf st T).1∧(bidOf st T).1≤1000000:=by
 induction T with
 | nil=>simp [bidOf]
 | cons x r ih =>
  unfold bidOf
  split
  ·exact h x (List.mem_cons_self ..)
  ·exact ih fun y hy=>h y (List.mem_cons_of_mem _ hy)
theorem applOf {l:Letting} {a:Nat} (ha:a<l.appls.length):l.appls.getD a ⟨0,0,[],[]⟩=l.appls[a]:=by simp [List.getD,ha]
theorem bidI_range {l:Letting} (ok:l.Ok) (st:Nat) {a:Nat} (ha:a<l.appls.length):0≤(bidI l st a).1∧(bidI l st a).1≤1000000:=by
 unfold bidI
 rw [applOf ha]
 refine bidOf_range fun x hx=>?_
 unfold reachOf at hx
 exact (ok.ap _ (List.getElem_mem ha)).b _ (zip_mem (List.mem_filter.mp hx).1).2
theorem ahead_key {l:Letting} (ok:l.Ok) (st:Nat) {dr:Int→Int} {a b:Nat} (ha:a<l.appls.length) (hb:b<l.appls.length) (hab:a≠b) (h5:0≤dr a∧dr a≤7) (h6:0≤dr b∧dr b≤7) (h7:dr a≠dr b):(aheadI l st dr a b=true↔keyI l st dr a<keyI l st dr b)∧keyI l st dr a≠keyI l st dr b:=by
 have ya:0≤yearsI l a∧yearsI l a≤60:=by unfold yearsI;rw [applOf ha];exact ⟨(ok.ap _ (List.getElem_mem ha)).y0,(ok.ap _ (List.getElem_mem ha)).y1⟩
 have yb:0≤yearsI l b∧yearsI l b≤60:=by unfold yearsI;rw [applOf hb];exact ⟨(ok.ap _ (List.getElem_mem hb)).y0,(ok.ap _ (List.getElem_mem hb)).y1⟩
 exact key_math (a:=(a:Int)) (b:=(b:Int)) (by omega) (bidI_range ok st ha) (bidI_range ok st hb) ya yb h5 h6 h7
theorem cmps_ok {N nb p3 mb st:Nat} {no na rd:Nat→Prop} {l:Letting} {vS vA:AV} {H:Heap} {ps:List (Int × Int)} {f:List Nat} (hN:8≤N) (ok:l.Ok) (hst:st<l.stalls.length) (hL:LetAt no na H nb l vS vA) (g3:H.get p3=some (.cells [.func 64 [.agg [vS,vA,.int .i64 (st:Int),.map mb]] []] (tag 95))) (hm:H.get mb=some (.map (mapV ps))) (hmb:mb<nb) (h3:rd p3) (h4:rd mb) (hno:∀ y,no y→rd y) (hna:∀ y,na y→rd y)
  (hf:∀ a ∈ f,a<l.appls.length∧0≤getP ps a∧getP ps a≤7) (hd:∀ a ∈ f,∀ b ∈ f,a≠b→getP ps a≠getP ps b) :
  Cmps N nb (.func 87 [] [.ptr p3 0]) rd H (keyI l st (getP ps)) f:=by
 intro s hs hn hfar a ha b hb hab
 obtain ⟨n,rfl⟩:∃ n,N=n+1:=⟨N - 1,by omega⟩
 have hff:far=1000000000:=rfl
 obtain ⟨a1,a2,a3⟩:=hf a ha
 obtain ⟨b1,b2,b3⟩:=hf b hb
 have hdab:=hd a ha b hb hab
 obtain ⟨k1,_⟩:=ahead_key ok st a1 b1 hab ⟨a2,a3⟩ ⟨b2,b3⟩ hdab
 rw [callV_func]
 have main:∃ c:Int,call Try.prog X (n+1) (.fn 87) [.int .i64 (a:Int),.int .i64 (b:Int),.ptr p3 0] s=.val (.int .i64 c) s∧(c<0↔aheadI l st (getP ps) a b=true):=by
  obtain ⟨w,e,c,rfl,hc⟩:=call_some (n:=n) (s:=s) (k:=0) (args:=[.int .i64 (a:Int),.int .i64 (b:Int),.ptr p3 0]) (Q:=fun w=>∃ c:Int,w=.int .i64 c∧(c<0↔aheadI l st (getP ps) a b=true)) Try.func87 (fun u uh un um=>by
   have hLu:LetAt no na u.h u.n l vS vA:=hL.move (fun y _ h=>⟨by rw [uh];exact hs y (hno y h),h⟩) (fun y _ h=>⟨by rw [uh];exact hs y (hna y h),h⟩) (by omega)
   have gu:u.h.get p3=some (.cells [.func 64 [.agg [vS,vA,.int .i64 (st:Int),.map mb]] []] (tag 95)):=by rw [uh,hs p3 h3];exact g3
   have mu:u.h.get mb=some (.map (mapV ps)):=by rw [uh,hs mb h4];exact hm
   have c1:=ahead_ok n (by omega) ok a1 b1 hst hLu mu (by omega) (by omega)
   have c2:=ahead_ok n (by omega) ok b1 a1 hst hLu mu (by omega) (by omega)
   have hB:Beside u u 0:=Beside.refl u (by omega) um
   rw [enter87]
   cases h1:aheadI l st (getP ps) a b with
   | true =>
    rw [h1] at c1
    simp (disch:=first|omega|(with_unfolding_all exact rfl)|(simp only[new_n,put_n,new_m];omega)|(refine put_m_le ?_;simp only[new_m];omega)) only [res87,K87r0,K87r1,K87r2,K87r3,K87r4,K87r5,K87,Abs.W,reduceIte,Nat.reduceEqDiff,Nat.reduceAdd,Nat.reduceSub,gu,okA_func,c1]
    exact ⟨_,_,rfl,hB,rfl, -1,rfl,by simp⟩
   | false =>
    rw [h1] at c1
    cases h2:aheadI l st (getP ps) b a with
    | true =>
     rw [h2] at c2
     simp (disch:=first|omega|(with_unfolding_all exact rfl)|(simp only[new_n,put_n,new_m];omega)|(refine put_m_le ?_;simp only[new_m];omega)) only [res87,K87r0,K87r1,K87r2,K87r3,K87r4,K87r5,K87,Abs.W,reduceIte,Nat.reduceEqDiff,Nat.reduceAdd,Nat.reduceSub,gu,okA_func,c1,c2]
     exact ⟨_,_,rfl,hB,rfl,1,rfl,by simp⟩
    | false =>
     rw [h2] at c2
     simp (disch:=first|omega|(with_unfolding_all exact rfl)|(simp only[new_n,put_n,new_m];omega)|(refine put_m_le ?_;simp only[new_m];omega)) only [res87,K87r0,K87r1,K87r2,K87r3,K87r4,K87r5,K87,Abs.W,reduceIte,Nat.reduceEqDiff,Nat.reduceAdd,Nat.reduceSub,gu,okA_func,c1,c2]
     exact ⟨_,_,rfl,hB,rfl,0,rfl,by simp⟩)
  exact ⟨c,e,hc⟩
 obtain ⟨c,e,hc⟩:=main
 exact ⟨c,e,hc.trans k1⟩
theorem SortedFunc_ex {N pb nb:Nat} {cmpv v:AV} {rd:Nat→Prop} {key:Nat→Int} {f:List Nat} {s:St} {r:ARes} (hr:call Try.prog X (N+5) (.fn 85) [.func 96 [] [.ptr pb 0],cmpv] s=r) (hN:1≤N) (hC:Cmps (N+1) nb cmpv rd s.h key f) (hrd:∀ y,rd y→y<s.n) (hcv:cmpv.scalar=true) (hR:RowsAt s.h s.n 1 (natRows f) v) (gp:s.h.get pb=some (.cells [v] (tag 22))) (hp:pb<s.n) (hnd:f.Nodup) (hl:f.length≤8) (hnb:nb≤s.n) (hs:s.n+400000≤far) (hkinj:∀ a ∈ f,∀ b ∈ f,a≠b→key a≠key b) :
  ∃ w bd g t,r=.val w t∧New s t 1000∧s.n≤bd∧IsAt t.h t.n bd 1 (tag 3) (natRows g) w∧Same f g f.length∧Upto key g f.length:=by
 have hf:far=1000000000:=rfl
 obtain ⟨w',t,e,st,bd,g,hq⟩:=call_new' (n:=N+4) (args:=[.func 96 [] [.ptr pb 0],cmpv]) (s:=s) (k:=1000) (Q:=fun w h n=>∃ bd g,s.n≤bd∧IsAt h n bd 1 (tag 3) (natRows g) w∧Same f g f.length∧Upto key g f.length) Try.func85 rfl (fun u uh un um=>by
  rw [← uh,← un] at hR
  rw [← uh] at gp hC
  rw [← un] at hp hnb hrd
  rw [← un]
  have okc:∀ t,okA (.val cmpv t)=.val cmpv t:=fun t=>by cases cmpv<;>first | rfl | cases hcv
  rw [enter85]
  simp (disch:=first|omega|(with_unfolding_all exact rfl)|(simp only[new_n,put_n,new_m];omega)|(refine put_m_le ?_;simp only[new_m];omega)) only [K85r0,K85r1,K85r2,K85r3,K85,Abs.W,reduceIte,Nat.reduceEqDiff,Nat.reduceAdd]
  generalize hc:call _ _ _ (.fn 94) _ _=rc
  obtain ⟨w,bd,t,rfl,st,hbd,hI⟩:=Collect_ex hc (by omega) hR gp hp hl (by omega)
  have n1:=st.n
  have k1:=st.le
  have m1:=st.m
  simp (disch:=first|omega|(with_unfolding_all exact rfl)|(simp only[new_n,put_n,new_m];omega)|(refine put_m_le ?_;simp only[new_m];omega)) only [Abs.W,reduceIte,Nat.reduceEqDiff]
  rcases hI.is with ⟨z1,z2⟩ | ⟨z0,z1,z2,z3⟩
  ·have fn:f=[]:=by have:=natRows_len f;rw [z1] at this;exact List.length_eq_zero_iff.mp this.symm
   subst z2
   have s0:=sortf0_ex (N:=N+1) (v:=.nilslice) (cmpv:=cmpv) (s:=t) (fun _=>rfl) (by omega)
   simp (disch:=first|omega|(with_unfolding_all exact rfl)|(simp only[new_n,put_n,new_m];omega)|(refine put_m_le ?_;simp only[new_m];omega)) only [res85,Abs.W,reduceIte,Nat.reduceEqDiff,s0]
   subst fn
   have hfin:Same [] [] 0:=⟨rfl,fun _=>Iff.rfl,List.nodup_nil⟩
   exact ⟨_,_,rfl,⟨st.same,by omega,by omega,by omega,by omega⟩,⟨bd,[],hbd,IsAt.nil _ _ _ _ _,hfin,fun p q h1 h2=>by simp at h2⟩,fun _=>⟨u.n,[],Nat.le_refl _,IsAt.nil _ _ _ _ _,hfin,fun p q h1 h2=>by simp at h2⟩⟩
  ·rw [natRows_len] at z2
   subst z2
   obtain ⟨t2,e2,g,⟨jc,js,jn,jm,jml,jun,jsm⟩,hU⟩:=sortf_ex (N:=N+1) (e:=true) (s:=t) (bd:=bd) (nb:=nb) (rd:=rd) (key:=key) (f:=f) (n:=f.length) (cmpv:=cmpv) (fun s hs hn hfar=>hC s (fun y hy=>(hs y hy).trans (st.same y (hrd y hy))) hn hfar) (fun h=>by have:=hrd _ h;omega) hcv z3 rfl hnd hl z1 (by omega) (by omega) (by omega) hkinj
   simp (disch:=first|omega|(with_unfolding_all exact rfl)|(simp only[new_n,put_n,new_m];omega)|(refine put_m_le ?_;simp only[new_m];omega)) only [res85,Abs.W,reduceIte,Nat.reduceEqDiff,e2]
   have gl:g.length=f.length:=jsm.len
   refine ⟨_,_,rfl,⟨fun c hc=>(js c (by omega)).trans (st.same c hc),by omega,by omega,by omega,by omega⟩,⟨bd,g,hbd,⟨natRows_wide _,.inr ⟨fun e=>?_,by omega,by rw [natRows_len,gl],jc⟩⟩,jsm,hU⟩,fun hp=>by cases hp⟩
   have:=natRows_len g
   rw [e] at this
   simp at this
   have h2:f.length=0:=by omega
   exact z0 (by rw [List.length_eq_zero_iff.mp h2];rfl))
 exact ⟨w',bd,g,t,hr.symm.trans e,st,hq⟩
theorem sorted_ex {N nb mb st:Nat} {no na:Nat→Prop} {l:Letting} {vS vA v:AV} {ps:List (Int × Int)} {f:List Nat} {s:St} {r:ARes} (hr:call Try.prog X (N+6) (.fn 63) [v,.func 64 [.agg [vS,vA,.int .i64 (st:Int),.map mb]] []] s=r) (hN:7≤N) (ok:l.Ok) (hst:st<l.stalls.length) (hL:LetAt no na s.h nb l vS vA) (hm:s.h.get mb=some (.map (mapV ps))) (hmb:mb<nb) (hnb:nb≤s.n)
  (hf:∀ a ∈ f,a<l.appls.length∧0≤getP ps a∧getP ps a≤7) (hd:∀ a ∈ f,∀ b ∈ f,a≠b→getP ps a≠getP ps b) (hR:RowsAt s.h s.n 1 (natRows f) v) (hnd:f.Nodup) (hl:f.length≤8) (hs:s.n+500000≤far) :
  ∃ w bd g t,r=.val w t∧New s t 2000∧s.n≤bd∧IsAt t.h t.n bd 1 (tag 3) (natRows g) w∧Same f g f.length∧Upto (keyI l st (getP ps)) g f.length:=by
 have hff:far=1000000000:=rfl
 have vsc:v.scalar=true:=scal_ln (hR.len none0)
 obtain ⟨w',t,e,st',bd,g,hq⟩:=call_new' (n:=N+5) (args:=[v,.func 64 [.agg [vS,vA,.int .i64 (st:Int),.map mb]] []]) (s:=s) (k:=2000) (Q:=fun w h n=>∃ bd g,s.n≤bd∧IsAt h n bd 1 (tag 3) (natRows g) w∧Same f g f.length∧Upto (keyI l st (getP ps)) g f.length) Try.func63 rfl (fun u uh un um=>by
  rw [← uh,← un] at hR
  rw [← uh] at hL hm
  rw [← un] at hnb
  rw [← un]
  obtain ⟨y,hy⟩:∃ y:St,y=(u.new (.cells [.func 64 [.agg [vS,vA,.int .i64 (st:Int),.map mb]] []] (tag 95))).new (.cells [v] (tag 22)):=⟨_,rfl⟩
  have yn:y.n=u.n+2:=by rw [hy];rfl
  have ym:y.m=far:=by rw [hy];exact um
  have yg:∀ c,c<u.n→y.h.get c=u.h.get c:=fun c hc=>by rw [hy,get_new_ne _ _ _ (by rw [new_n];omega),get_new_ne _ _ _ (by omega)]
  have y0:y.h.get u.n=some (.cells [.func 64 [.agg [vS,vA,.int .i64 (st:Int),.map mb]] []] (tag 95)):=by rw [hy,get_new_ne _ _ _ (by rw [new_n];omega)];exact get_new_eq _ _ _ rfl (by omega)
  have y1:y.h.get (u.n+1)=some (.cells [v] (tag 22)):=by rw [hy];exact get_new_eq _ _ _ rfl (by rw [new_n];omega)
  have vo:=Values_ok (N+5) (by omega) v vsc (u.new (.cells [.func 64 [.agg [vS,vA,.int .i64 (st:Int),.map mb]] []] (tag 95))) (by rw [new_n];omega)
  rw [← hy,new_n] at vo
  rw [enter63]
  simp (disch:=first|omega|(with_unfolding_all exact rfl)|(simp only[new_n,put_n,new_m];omega)|(refine put_m_le ?_;simp only[new_m];omega)) only [K63r0,K63r1,K63,Abs.W,reduceIte,Nat.reduceEqDiff,Nat.reduceAdd,boxA_func,vo,kFuncE]
  generalize hc:call _ _ _ (.fn 85) _ _=rc
  have hLy:=hL.bound.move (h':=y.h) (n':=nb) (no':=fun y=>no y∧y<nb) (na':=fun y=>na y∧y<nb) (fun b h1 h2=>⟨yg b (by omega),h2⟩) (fun b h1 h2=>⟨yg b (by omega),h2⟩) (Nat.le_refl _)
  have hC:=cmps_ok (N:=N+1) (nb:=nb) (p3:=u.n) (mb:=mb) (st:=st) (rd:=fun y=>y=u.n∨y<nb) (f:=f) (by omega) ok hst hLy y0 ((yg mb (by omega)).trans hm) hmb (.inl rfl) (.inr hmb) (fun y h=>.inr h.2) (fun y h=>.inr h.2) hf hd
  obtain ⟨w,bd,g,t,rfl,st2,hbd,hI,hS,hU⟩:=SortedFunc_ex hc (by omega) hC (fun y hy=>by omega) rfl (hR.grow yg (by omega)) y1 (by omega) hnd hl (by omega) (by omega) (fun a ha b hb hab=>(ahead_key ok st (hf a ha).1 (hf b hb).1 hab (hf a ha).2 (hf b hb).2 (hd a ha b hb hab)).2)
  have n1:=st2.n
  have k1:=st2.le
  have m1:=st2.m
  simp (disch:=first|omega|(with_unfolding_all exact rfl)|(simp only[new_n,put_n,new_m];omega)|(refine put_m_le ?_;simp only[new_m];omega)) only [res63,Abs.W,reduceIte,Nat.reduceEqDiff]
  refine ⟨_,_,rfl,⟨fun c hc=>(st2.same c (by omega)).trans (yg c hc),by omega,by omega,by omega,by omega⟩,⟨bd,g,by omega,hI,hS,hU⟩,fun hp=>?_⟩
  rcases hI.is with ⟨z1,z2⟩ | ⟨_,_,z,_⟩
  ·exact ⟨u.n,g,Nat.le_refl _,by rw [z1,z2];exact IsAt.nil _ _ _ _ _,hS,hU⟩
  ·subst z;cases hp)
 exact ⟨w',bd,g,t,hr.symm.trans e,st',hq⟩
end Go.Proofs.Ythbhjgbpjlnbcaa.walk
