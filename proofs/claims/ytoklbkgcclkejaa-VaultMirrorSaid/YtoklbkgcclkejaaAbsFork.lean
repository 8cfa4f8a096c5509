/- A call whose first argument is a slice of unknown capacity. -/
import Derived.Test.YtoklbkgcclkejaaAbsEnter
noncomputable section
namespace Go.Abs
variable {P:Program}
theorem JYJ {a b:AV} (h:JQA a b=true):a=b∧plain a=true:=by
 unfold JQA at h
 split at h
 ·rw [Bool.and_eq_true] at h
  have h1:=YX (Nat.eq_of_beq_eq_true h.1)
  have h2:=h.2
  rw [ZD] at h2
  have h2:=eq_of_beq h2
  subst h1;subst h2
  exact ⟨rfl,rfl⟩
 ·have:=eq_of_beq h;subst this;exact ⟨rfl,rfl⟩
 ·rename_i a b
  have h2:(a.data == b.data)=true:=by cases a;cases b;exact h
  have h3:a=b:=by cases a;cases b;simp at h2;rw [h2]
  subst h3;exact ⟨rfl,rfl⟩
 ·cases h
theorem JOA:∀ {l m:List AV},Zi l m=true→l=m∧plains l=true
 | [],[],_=>⟨rfl,rfl⟩
 | [],_::_,h=>by simp [Zi] at h
 | _::_,[],h=>by simp [Zi] at h
 | a::l,b::m,h=>by
  simp only [Zi,Bool.and_eq_true] at h
  obtain ⟨rfl,h1⟩:=JYJ h.1
  obtain ⟨rfl,h2⟩:=JOA h.2
  refine ⟨rfl,?_⟩
  unfold plains
  rw [h1];exact h2
theorem joined {ρ ρ₁ ρ':Rho} {s s₁ sX:St} {W W':World} {b c sz k bX:Nat} {e:Ext} {x:AObj} {l:List AV} {V:Value} (hs:SRel ρ s W) (hb:s.h.get b=some x) (hρ:ρ b=some (c,e))
  (hle:ρ.le ρ₁) (hold:∀ i,i<s.n→ρ₁ i=ρ i) (hn:s.n≤s₁.n) (hsame:∀ i,i<s.n→i≠b→s₁.h.get i=s.h.get i)
  (hlive:∀ i p y,Has s₁.h i p y→(∃ y',Has s.h i p y')∨∃ k,ρ₁ p=some (c,k))
  (af:After ρ₁ s₁ W ρ' sX W') (hm:s.n≤sX.m) (hv:VRel ρ' (.slice bX 0 k k true) V) (hg:sX.h.get bX=some (.cells l sz)) (hbX:s.n≤bX) (hp:plains l=true) :
  ∃ ρ'',After ρ s W ρ'' ((s.kill b).new (.cells l sz)) W'∧VRel ρ'' (.slice s.n 0 k k true) V:=by
 obtain ⟨cX,eX,C,el,hρX,hWX,hszX,hrelX,htX⟩:=gj af.rel hg
 have hun:ρ s.n=none:=hs.fresh _ (Nat.le_refl _)
 have hput:=Rho.put_le (cX,eX) hun
 have hlt:∀ i y,s.h.get i=some y→i<s.n:=fun i y h=>hs.below h
 have low:∀ i p y,Has s.h i p y→i<s.n∧p<s.n:=by
  intro i p y hp
  obtain ⟨c1,e1,O1,q1,_,_⟩:=hs.heap.obj i p y hp
  refine ⟨by obtain ⟨u,hu,_⟩:=hp;exact hlt i u hu,Nat.lt_of_not_le fun hle=>?_⟩
  rw [hs.fresh p hle] at q1;cases q1
 have old:∀ i p y,i≠b→Has s.h i p y→Has sX.h i p y∧ρ' p=ρ p:=by
  intro i p y hne hy
  obtain ⟨hi,hp⟩:=low i p y hy
  obtain ⟨u,hu,hm'⟩:=hy
  constructor
  ·refine ⟨u,?_,hm'⟩
   rw [af.same i (Nat.lt_of_lt_of_le hi hm) (Nat.lt_of_lt_of_le hi hn),hsame i hi hne];exact hu
  ·rw [af.old p (Nat.lt_of_lt_of_le hp hn),hold p hp]
 have hget:∀ i y,((s.kill b).new (.cells l sz)).h.get i=some y→(i=s.n∧s.n<big∧y=.cells l sz)∨(i<s.n∧i≠b∧s.h.get i=some y):=by
  intro i y hy
  rw [St.new_h] at hy
  rcases jj hy with ⟨rfl,hb',hy⟩ | ⟨hy,_⟩
  ·exact .inl ⟨rfl,hb',by cases hy;rfl⟩
  ·rw [St.kill_h] at hy
   rcases jj hy with ⟨_,_,hy⟩ | ⟨hy,hn | hn⟩
   ·cases hy
   ·exact .inr ⟨hlt _ _ hy,hn,hy⟩
   ·exact absurd (hs.heap.low b x hb) hn
 have hhas:∀ i p y,Has ((s.kill b).new (.cells l sz)).h i p y→(i=s.n∧p=s.n∧y=.cells l sz)∨(i<s.n∧p<s.n∧i≠b∧Has s.h i p y):=by
  rintro i p y ⟨u,hu,hm'⟩
  rcases hget i u hu with ⟨rfl,_,rfl⟩ | ⟨hi,hne,hu⟩
  ·cases List.mem_singleton.mp hm'
   exact .inl ⟨rfl,rfl,rfl⟩
  ·exact .inr ⟨hi,(low i p y ⟨u,hu,hm'⟩).2,hne,u,hu,hm'⟩
 refine ⟨ρ.put s.n (cX,eX),⟨hs,⟨⟨?_,?_,?_,af.rel.heap.tab,?_,?_⟩,?_⟩,hput,Nat.le_succ _,jW _ _,?_,af.os,af.tape,af.output,af.size,?_,?_,fun i hi=>Rho.put_ne _ _ (by omega)⟩,?_⟩
 ·intro i y hy
  rcases hget i y hy with ⟨rfl,hb',_⟩ | ⟨_,_,hy⟩
  ·exact hb'
  ·exact hs.heap.low i y hy
 ·intro i p' y hy
  rcases hhas i p' y hy with ⟨rfl,rfl,rfl⟩ | ⟨hi,hpn,hne,hy⟩
  ·exact ⟨cX,eX,_,Rho.put_same _ _ _,hWX,.cells hszX (hrelX.plain hp) htX⟩
  ·obtain ⟨o1,o2⟩:=old i p' y hne hy
   obtain ⟨c1,e1,O1,q1,q2,q3⟩:=af.rel.heap.obj i p' y o1
   rw [o2] at q1
   obtain ⟨c2,e2,O2,r1,_,r3⟩:=hs.heap.obj i p' y hy
   rw [q1] at r1;cases r1
   exact ⟨c1,e1,O1,by rw [Rho.put_ne _ _ (by omega)];exact q1,q2,(ORel.back (Rho.le_trans hle af.le) r3 q3).mono hput⟩
 ·intro i j p' q' y z c1 e1 e2 hy hz h1 h2
  rcases hhas i p' y hy with ⟨rfl,rfl,_⟩ | ⟨hi,hpn,hne,hy⟩<;>rcases hhas j q' z hz with ⟨rfl,rfl,_⟩ | ⟨hj,hqn,hne',hz⟩
  ·rfl
  ·rw [Rho.put_same] at h1;cases h1
   rw [Rho.put_ne _ _ (by omega)] at h2
   obtain ⟨o1,o2⟩:=old j q' z hne' hz
   have:=af.rel.heap.inj _ _ _ _ _ _ _ _ _ (.base hg) o1 hρX (by rw [o2];exact h2)
   omega
  ·rw [Rho.put_same] at h2;cases h2
   rw [Rho.put_ne _ _ (by omega)] at h1
   obtain ⟨o1,o2⟩:=old i p' y hne hy
   have:=af.rel.heap.inj _ _ _ _ _ _ _ _ _ (.base hg) o1 hρX (by rw [o2];exact h1)
   omega
  ·rw [Rho.put_ne _ _ (by omega)] at h1;rw [Rho.put_ne _ _ (by omega)] at h2
   exact hs.heap.inj _ _ _ _ _ _ _ _ _ hy hz h1 h2
 ·intro i p' y c1 k hy h1
  rcases hhas i p' y hy with ⟨rfl,rfl,_⟩ | ⟨hi,hpn,_,hy⟩
  ·rw [Rho.put_same] at h1;cases h1;exact af.rel.heap.off bX bX _ _ _ (.base hg) hρX
  ·rw [Rho.put_ne _ _ (by omega)] at h1;exact hs.heap.off i p' y c1 k hy h1
 ·intro i p' q' y z c1 k k' hy hz h1 h2
  rcases hhas i p' y hy with ⟨hi,rfl,_⟩ | ⟨hi,hpn,_,hy⟩<;>rcases hhas i q' z hz with ⟨hj,rfl,_⟩ | ⟨hj,hqn,_,hz⟩
  ·rw [h1] at h2;cases h2;rfl
  ·omega
  ·omega
  ·rw [Rho.put_ne _ _ (by omega)] at h1;rw [Rho.put_ne _ _ (by omega)] at h2
   exact hs.heap.zed _ _ _ _ _ _ _ _ hy hz h1 h2
 ·intro i hi
  have:s.n+1≤i:=hi
  rw [Rho.put_ne _ _ (by omega)]
  exact hs.fresh i (by omega)
 ·intro i hi hlt
  have h1:i<yA s.m b:=hi
  have:=jY s.m b
  rw [St.new_h,jH _ _ _ _ (show i≠(s.kill b).n from by show i≠s.n;omega),St.kill_h,jH _ _ _ _ (by omega)]
 ·intro d hd hno
  refine af.frame d hd fun i p' y k' hy hi=>?_
  rcases hlive i p' y hy with ⟨y',hy'⟩ | ⟨k2,hk2⟩
  ·exact Nat.lt_of_lt_of_le (low i p' y' hy').1 hm
  ·rw [hi] at hk2;cases hk2
   have h1:b<yA s.m b:=hno b b _ e (.base hb) hρ
   have:=jY s.m b
   omega
 ·intro i p' y d k' hy hi
  rcases hhas i p' y hy with ⟨rfl,rfl,_⟩ | ⟨hi',hpn,hne,hy⟩
  ·rw [Rho.put_same] at hi;cases hi
   rcases af.from_ bX bX _ cX eX (.base hg) hρX with ⟨b0,x0,o0,e0,h0,h0'⟩ | hle
   ·rcases hlive b0 x0 o0 h0 with ⟨y',hy'⟩ | ⟨k2,hk2⟩
    ·exact .inl ⟨b0,x0,y',e0,hy',by rw [← hold x0 (low b0 x0 y' hy').2];exact h0'⟩
    ·rw [h0'] at hk2;cases hk2;exact .inl ⟨b,b,_,e,.base hb,hρ⟩
   ·exact .inr hle
  ·rw [Rho.put_ne _ _ (by omega)] at hi;exact .inl ⟨i,p',y,k',hy,hi⟩
 ·obtain ⟨d,k',h1,h2⟩:=hv.slice_inv
  rw [hρX] at h1;cases h1
  rw [h2]
  exact .slice (Rho.put_same _ _ _)
theorem ZVJ {s s':St} {b sz:Nat} {r r':ARes} {v:AV} (h:ziJ s b sz r r'=.val v s') :
  ∃ bA bB k l sA sB,r=.val (.slice bA 0 k k true) sA∧r'=.val (.slice bB 0 k k true) sB∧sA.h.get bA=some (.cells l sz)∧sB.h.get bB=some (.cells l sz)∧plains l=true ∧
   s.n≤bA∧s.n≤bB∧s.n≤sA.m∧s.n≤sB.m∧v=.slice s.n 0 k k true∧s'=(s.kill b).new (.cells l sz):=by
 unfold ziJ at h
 split at h
 ·split at h
  ·rename_i hgA hgB
   split at h
   ·rename_i hc
    obtain ⟨rfl,rfl,rfl,rfl,rfl,_,hl,h1,h2,h3,h4,_⟩:=hc
    obtain ⟨rfl,hp⟩:=JOA hl
    cases h
    exact ⟨_,_,_,_,_,_,rfl,rfl,hgA,hgB,hp,h1,h2,h3,h4,rfl,rfl⟩
   ·cases h
  ·cases h
 ·cases h
theorem zrJ {X:FuncId→List Nat} {cl:zR} (hc:CallSound P cl) {f:FuncId} {fn:Func} (hf:P.funcs[f]? = some fn)
  {l:List AV} {A:Array Value} {s s':St} {v:AV} {ρ:Rho} {W:World} (h:zsJ P X cl f s fn l=.val v s') (hs:SRel ρ s W) (hl:VRels ρ l A.toList) :
  (callFunc f A).run P W=.ok (.enter f A) W∧∃ ρ' V W',After ρ s W ρ' s' W'∧VRel ρ' v V ∧
   ∀ fr cs,Steps P (lone (Frame.enter P f A .normal) (fr::cs) W) (lone (fr.finish V) cs W'):=by
 unfold zsJ at h
 split at h
 case h_2=>cases h
 rename_i b len cap rest
 split at h
 case h_2=>cases h
 rename_i c sz hg
 split at h
 case isFalse=>cases h
 rename_i hcond
 obtain ⟨rfl,hcl⟩:=hcond
 obtain ⟨bA,bB,k,ll,sA,sB,hA,hB,gA,gB,hp,h1,h2,h3,h4,rfl,rfl⟩:=ZVJ h
 obtain ⟨d,e,C,el,hρ,hW,hsz,hrel,htg⟩:=gj hs hg
 obtain ⟨A0,Ar,hAl,hA0,hAr⟩:∃ A0 Ar,A.toList=A0::Ar∧VRel ρ (.slice b 0 len len true) A0∧VRels ρ rest Ar:=by
  generalize hAt:A.toList=At at hl
  cases hl with
  | cons x y=>exact ⟨_,_,rfl,x,y⟩
 obtain ⟨d',e',hρ',hA0⟩:=hA0.slice_inv
 rw [hρ] at hρ';cases hρ'
 obtain ⟨e,z⟩:=e
 simp only [if_true] at hA0
 cases e with
 | zero =>
  have hl':VRels ρ (.slice b 0 len len false::rest) A.toList:=by
   rw [hAl]
   refine .cons ?_ hAr
   have:=VRel.slice (ρ:=ρ) (b:=b) (o:=0) (len:=len) (cap:=len) (ext:=false) hρ
   simp only [Bool.false_eq_true,if_false] at this
   rw [hA0,Nat.add_zero]
   exact this
  obtain ⟨hr,ρA,V,WA,af,hv,st⟩:=ZM hc hf hA ⟨hs.heap,hs.fresh⟩ hl'
  obtain ⟨ρ'',af',hv'⟩:=joined (s₁:=⟨s.h,s.n,far⟩) hs hg hρ (Rho.le_refl _) (fun _ _=>rfl) (Nat.le_refl _) (fun _ _ _=>rfl) (fun i p y hy=>.inl ⟨y,hy⟩) af h3 hv gA h1 hp
  exact ⟨hr,ρ'',V,WA,af',hv',st⟩
 | succ e =>
  have hs0:SRel ρ ⟨s.h,s.n,far⟩ W:=⟨hs.heap,hs.fresh⟩
  have hle:=Rho.put_le (d,((e,z):Ext)) (hs.fresh s.n (Nat.le_refl _))
  have hsz:C.size=z+c.length+(e+1) * vD sz:=hsz
  have hrel:VRels ρ c ((C.toList.drop z).take c.length):=hrel
  have hCl:C.toList.length=z+c.length+(e+1) * vD sz:=by simpa using hsz
  have e1:(e+1) * vD sz=vD sz+e * vD sz:=by rw [Nat.add_mul,Nat.one_mul,Nat.add_comm]
  have rn:=After.renew (W':=W) (e':=(e,z)) (o:=.cells (c++List.replicate (vD sz) .bad) sz) hs0 hg hρ rfl hW (fun _ _=>rfl) rfl rfl rfl (by
   refine .cells (by rw [hsz,List.length_append,List.length_replicate,e1];show _=z+(c.length+vD sz)+e * vD sz;omega) ?_ ?_
   have hsplit:(C.toList.drop z).take (c++List.replicate (vD sz) AV.bad).length=(C.toList.drop z).take c.length++((C.toList.drop z).drop c.length).take (vD sz):=by
    rw [List.length_append,List.length_replicate,List.take_add]
   show VRels _ _ ((C.toList.drop z).take (c++List.replicate (vD sz) AV.bad).length)
   rw [hsplit]
   refine (hrel.mono hle).append (jWJ _ ?_)
   ·rw [List.length_take,List.length_drop,List.length_drop,hCl,e1];omega
   ·intro u hu
    obtain ⟨q1,q2,q3⟩:=htg u hu
    exact ⟨q1,q2,fun z0=>absurd (q3 z0) (Nat.succ_ne_zero e)⟩)
  have hro:SRel (ρ.put s.n (d,(e,z))) (roomy s b c sz) W:=⟨rn.rel.heap,rn.rel.fresh⟩
  have hl':VRels (ρ.put s.n (d,(e,z))) (.slice s.n 0 len (len+1) true::rest) A.toList:=by
   rw [hAl]
   refine .cons ?_ (hAr.mono hle)
   have:=VRel.slice (ρ:=ρ.put s.n (d,(e,z))) (b:=s.n) (o:=0) (len:=len) (cap:=len+1) (ext:=true) (Rho.put_same _ _ _)
   simp only [if_true] at this
   rw [hA0,show len+(e+1)=len+1+e from by omega]
   exact this
  obtain ⟨hr,ρB,V,WB,af,hv,st⟩:=ZM hc hf hB hro hl'
  have hget:∀ i,i<s.n→i≠b→(roomy s b c sz).h.get i=s.h.get i:=by
   intro i hi hne
   show (Heap.set _ depth (Heap.set none depth s.h b) s.n).get i=_
   rw [jH _ _ _ _ (by omega),jH _ _ _ _ hne]
  obtain ⟨ρ'',af',hv'⟩:=joined (s₁:=roomy s b c sz) hs hg hρ hle (fun i hi=>Rho.put_ne _ _ (by omega)) (Nat.le_succ _) hget (fun i p y hy=>by
   obtain ⟨u,hy,hm⟩:=hy
   have hy:(Heap.set (some (.cells (c++List.replicate (vD sz) .bad) sz)) depth (Heap.set none depth s.h b) s.n).get i=some u:=hy
   rcases jj hy with ⟨rfl,_,hy⟩ | ⟨hy,_⟩
   ·cases hy
    cases List.mem_singleton.mp hm
    exact .inr ⟨(e,z),Rho.put_same _ _ _⟩
   ·rcases jj hy with ⟨_,_,hy⟩ | ⟨hy,_⟩
    ·cases hy
    ·exact .inl ⟨y,u,hy,hm⟩) af h4 hv gB h2 hp
  exact ⟨hr,ρ'',V,WB,af',hv',st⟩
end Go.Abs
end
