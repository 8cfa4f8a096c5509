/- A region whose order is drawn: operations that do not write, at whatever time. -/
import Derived.Test.YtoklbkgcclkejaaAbsSim2
import Derived.Test.YtoklbkgcclkejaaAbsPerm
noncomputable section
namespace Go.Abs
variable {P:Program}
theorem ZoA {a:Act} {t:Nat} {V:Value} (h:t<a.tmps.size):(a.put (some t) V).tmps.getD t undef=V:=by
 show (a.tmps.setIfInBounds t V).getD t undef=V
 rw [Array.getD_eq_getD_getElem?,Array.getElem?_setIfInBounds_self_of_lt h];rfl
theorem yqA {a:Act} {t:Nat} {dst:Option Tmp} {V:Value} (h:dst≠some t):(a.put dst V).tmps.getD t undef=a.tmps.getD t undef:=by
 cases dst with
 | none=>rfl
 | some u =>
  show (a.tmps.setIfInBounds u V).getD t undef=_
  rw [Array.getD_eq_getD_getElem?,Array.getElem?_setIfInBounds_ne (fun e=>h (by rw [e])),← Array.getD_eq_getD_getElem?]
theorem wSA {a:Act} {dst:Option Tmp} {V:Value}:(a.put dst V).tmps.size=a.tmps.size:=by
 cases dst with
 | none=>rfl
 | some u=>show (a.tmps.setIfInBounds u V).size=_;rw [Array.size_setIfInBounds]
theorem Wv {a:Act} {dst:Option Tmp} {V:Value}:(a.put dst V).defers=a.defers:=by cases dst<;>rfl
theorem jZQ {nt t:Nat} {d:Dst} (h:vWA nt (some t)=some d):t<nt:=by
 unfold vWA at h
 split at h
 ·rename_i e;cases e
 ·rename_i e
  cases e
  split at h
  ·assumption
  ·cases h
theorem closes {ops:Array Oper} {pre:List Nat} (hc:Closed ops pre) {j:Nat} (hr:∀ o e,ops[j]? = some o→e ∈ o.after.toList→always e=true→e.on ∈ pre):Closed ops (j::pre):=by
 intro k hk q e hq he ha
 rcases List.mem_cons.mp hk with rfl | hk
 ·exact List.mem_cons_of_mem _ (hr q e hq he ha)
 ·exact List.mem_cons_of_mem _ (hc k hk q e hq he ha)
section
variable {cl:zR} {nt:Nat} {ops:Array Oper} {ds:List DOp} {ends:List (Nat × Nat)} {Ls:Nat→Env} {ss:Nat→St} {vs:Nat→AV} {nw:Nat→Option AObj} (tr:Tr P cl nt ops ds ends Ls ss vs nw)
 {dl:List Nat} {ρ₀:Rho} {W₀:World} {pre:List Nat} {F:Nat} {ρ:Rho} {W:World} {a:Act} (iv:Inv ops Ls ss vs nw nt dl ρ₀ W₀ pre F ρ W a)
 {j:Nat} {o:Oper} (ho:ops[j]? = some o) (hj:j ∉ pre) (hr:∀ o e,ops[j]? = some o→e ∈ o.after.toList→always e=true→e.on ∈ pre)
include tr iv ho
theorem Inv.dids {ρ':Rho} {V:Value} {G:Nat} (hle:∀ b x,ρ b=some x→ρ' b=some x) (hG:(ss F).n≤(ss G).n) (hv:VRel (ρ'.cut (max (ss (j+1)).n (ss G).n)) (vs j) V) :
  (∀ (t i:Nat) (q:Oper),i ∈ j::pre→ops[i]? = some q→q.dst=some t→VRel (ρ'.cut (max (ss (i+1)).n (ss G).n)) (vs i) ((a.put o.dst V).tmps.getD t undef)) ∧
  (∀ t:Nat,(∀ (i:Nat) (q:Oper),i ∈ j::pre→ops[i]? = some q→q.dst≠some t)→VRel (ρ'.cut (ss G).n) ((Ls 0).find t) ((a.put o.dst V).tmps.getD t undef)):=by
 have hdst:=(tr.step j o ho).dst
 constructor
 ·intro t i q hi hq hd
  by_cases hij:i=j
  ·subst hij
   rw [ho] at hq
   cases hq
   rw [hd] at hdst ⊢
   obtain ⟨d,hd',_⟩:=hdst
   rw [ZoA (by rw [iv.size];exact jZQ hd')]
   exact hv
  ·have hi':i ∈ pre:=by
    rcases List.mem_cons.mp hi with e | e
    ·exact absurd e hij
    ·exact e
   rw [yqA (fun e=>hij (tr.ask.apart i j q o t hq ho hd e))]
   exact (iv.did t i q hi' hq hd).mono (Rho.cut_le (fun b x _ hb=>hle b x hb) (by omega))
 ·intro t hn
  rw [yqA (hn j o (List.mem_cons_self ..) ho)]
  exact (iv.rest t (fun i q hi=>hn i q (List.mem_cons_of_mem _ hi))).mono (Rho.cut_le (fun b x _ hb=>hle b x hb) hG)
include hj hr
theorem Inv.unknown (hF:F≤j) {x:AObj} (hx:nw j=some x):ρ (ss j).n=none∧(∀ b p,Live ss nw pre F b p→b≠(ss j).n∧p≠(ss j).n)∧(∀ i ∈ pre,F≤i→∀ y,nw i=some y→(ss i).n≠(ss j).n):=by
 have hjs:j<ops.size:=(Array.getElem?_eq_some_iff.mp ho).1
 obtain ⟨_,hnew⟩:=tr.nw_some ho hx
 have hn1:(ss (j+1)).n=(ss j).n+1:=by rw [hnew];rfl
 have hpend:∀ i ∈ pre,F≤i→∀ y,nw i=some y→(ss i).n≠(ss j).n:=by
  intro i hi _ y hy e
  have his:=iv.lt i hi
  obtain ⟨_,hnew'⟩:=tr.nw_some (Array.getElem?_eq_getElem his) hy
  have hn2:(ss (i+1)).n=(ss i).n+1:=by rw [hnew'];rfl
  rcases Nat.lt_trichotomy i j with hij | hij | hij
  ·have:=tr.nle (show i+1≤j by omega) (by omega);omega
  ·subst hij;exact hj hi
  ·have:=tr.nle (show j+1≤i by omega) (by omega);omega
 have hFj:=tr.nle hF (by omega)
 refine ⟨?_,?_,hpend⟩
 ·cases h:ρ (ss j).n with
  | none=>rfl
  | some y =>
   rcases iv.dom _ _ h with h' | ⟨i,hi,hFi,⟨z,hz⟩,e⟩
   ·omega
   ·exact absurd e.symm (hpend i hi hFi z hz)
 ·rintro b p (⟨y,hy⟩ | ⟨i,hi,hFi,⟨z,hz⟩,rfl,rfl⟩)
  ·obtain ⟨c,e,O,h1,_,_⟩:=iv.after.rel.heap.obj b p y hy
   have h1:=(Rho.cut_some h1).1
   obtain ⟨u,hu,_⟩:=hy
   have:=iv.after.rel.below hu;omega
  ·exact ⟨hpend i hi hFi z hz,hpend i hi hFi z hz⟩
theorem Inv.next_same (hc:yD o.op≠3) (hn:nw j=none) {W':World} (g:Grew W W') {V:Value} (hv:VRel (ρ.cut (max (ss j).n (ss F).n)) (vs j) V) :
  Inv ops Ls ss vs nw nt dl ρ₀ W₀ (j::pre) F ρ W' (a.put o.dst V):=by
 have hjs:j<ops.size:=(Array.getElem?_eq_some_iff.mp ho).1
 have hlive:∀ b p,Live ss nw (j::pre) F b p→Live ss nw pre F b p:=by
  rintro b p (h | ⟨i,hi,hFi,⟨z,hz⟩,e⟩)
  ·exact .inl h
  ·rcases List.mem_cons.mp hi with rfl | hi
   ·rw [hn] at hz;cases hz
   ·exact .inr ⟨i,hi,hFi,⟨z,hz⟩,e⟩
 have hd:=iv.dids tr ho (ρ':=ρ) (V:=V) (G:=F) (fun _ _ h=>h) (Nat.le_refl _) (by rw [tr.nw_none ho hc hn];exact hv)
 refine ⟨?_,closes iv.closed hr,iv.le,?_,?_,iv.after.grew g,?_,?_,?_,hd.1,hd.2,by rw [wSA];exact iv.size,by rw [Wv];exact iv.defers⟩
 ·intro i hi
  rcases List.mem_cons.mp hi with rfl | hi
  ·exact hjs
  ·exact iv.lt i hi
 ·exact iv.front.imp id fun ⟨h,q,h1,h2,h3⟩=>⟨h,q,h1,List.mem_cons_of_mem _ h2,h3⟩
 ·intro h q hq hq3
  rw [← iv.heavy h q hq hq3]
  constructor
  ·intro hm
   rcases List.mem_cons.mp hm with rfl | hm
   ·rw [ho] at hq;cases hq;exact absurd hq3 hc
   ·exact hm
  ·exact List.mem_cons_of_mem _
 ·intro i hi hFi x hx
  rcases List.mem_cons.mp hi with rfl | hi
  ·rw [hn] at hx;cases hx
  ·obtain ⟨c,e,O,h1,h2,h3,h4⟩:=iv.pend i hi hFi x hx
   exact ⟨c,e,O,h1,g.at h2,h3,h4⟩
 ·intro b b' p p' c e e' hb hb' h1 h2
  exact iv.inj b b' p p' c e e' (hlive b p hb) (hlive b' p' hb') h1 h2
 ·intro b x hb
  exact (iv.dom b x hb).imp id fun ⟨i,h1,h2⟩=>⟨i,List.mem_cons_of_mem _ h1,h2⟩
theorem Inv.next_new (hc:yD o.op≠3) (hF:F≤j) {x:AObj} (hx:nw j=some x) {W':World} (g:Grew W W') {c:Nat} {e:Ext} {O:Obj} (hW:W'.heap[c]? = some O) (hcW:W.heap.size≤c)
  (hO:ORel ((ρ.put (ss j).n (c,e)).cut (ss (j+1)).n) e x O) {V:Value} (hv:VRel ((ρ.put (ss j).n (c,e)).cut (ss (j+1)).n) (vs j) V) :
  Inv ops Ls ss vs nw nt dl ρ₀ W₀ (j::pre) F (ρ.put (ss j).n (c,e)) W' (a.put o.dst V):=by
 have hjs:j<ops.size:=(Array.getElem?_eq_some_iff.mp ho).1
 obtain ⟨hun,hne,hpn⟩:=iv.unknown tr ho hj hr hF hx
 have hle:=Rho.put_le (c,e) hun
 have hFj:=tr.nle hF (by omega)
 have hFj1:=tr.nle (show F≤j+1 by omega) (by omega)
 have hlive:∀ b p,Live ss nw (j::pre) F b p→(b=(ss j).n∧p=(ss j).n)∨Live ss nw pre F b p:=by
  rintro b p (h | ⟨i,hi,hFi,⟨z,hz⟩,e,e'⟩)
  ·exact .inr (.inl h)
  ·rcases List.mem_cons.mp hi with rfl | hi
   ·exact .inl ⟨e,e'.trans e⟩
   ·exact .inr (.inr ⟨i,hi,hFi,⟨z,hz⟩,e,e'⟩)
 have hthere:∀ b p d k,Live ss nw pre F b p→ρ p=some (d,k)→d<W.heap.size:=by
  rintro b p d k (⟨y,hy⟩ | ⟨i,hi,hFi,⟨z,hz⟩,rfl,rfl⟩) h
  ·obtain ⟨d',k',O',h1,h2,_⟩:=iv.after.rel.heap.obj b p y hy
   have:=(Rho.cut_some h1).2
   rw [h] at this;cases this
   exact yS h2
  ·obtain ⟨d',k',O',h1,h2,_⟩:=iv.pend i hi hFi z hz
   rw [h] at h1;cases h1
   exact yS h2
 have hd:=iv.dids tr ho (ρ':=ρ.put (ss j).n (c,e)) (V:=V) (G:=F) hle (Nat.le_refl _) (by rw [Nat.max_eq_left hFj1];exact hv)
 have hcut:(ρ.put (ss j).n (c,e)).cut (ss F).n=ρ.cut (ss F).n:=by
  funext b
  by_cases hb:b<(ss F).n
  ·rw [Rho.cut_lt hb,Rho.cut_lt hb,Rho.put_ne _ _ (by omega)]
  ·rw [Rho.cut_ge (by omega),Rho.cut_ge (by omega)]
 refine ⟨?_,closes iv.closed hr,iv.le,?_,?_,by rw [hcut];exact iv.after.grew g,?_,?_,?_,hd.1,hd.2,by rw [wSA];exact iv.size,by rw [Wv];exact iv.defers⟩
 ·intro i hi
  rcases List.mem_cons.mp hi with rfl | hi
  ·exact hjs
  ·exact iv.lt i hi
 ·exact iv.front.imp id fun ⟨h,q,h1,h2,h3⟩=>⟨h,q,h1,List.mem_cons_of_mem _ h2,h3⟩
 ·intro h q hq hq3
  rw [← iv.heavy h q hq hq3]
  constructor
  ·intro hm
   rcases List.mem_cons.mp hm with rfl | hm
   ·rw [ho] at hq;cases hq;exact absurd hq3 hc
   ·exact hm
  ·exact List.mem_cons_of_mem _
 ·intro i hi hFi y hy
  rcases List.mem_cons.mp hi with rfl | hi
  ·rw [hx] at hy;cases hy
   exact ⟨c,e,O,Rho.put_same _ _ _,hW,Nat.le_trans iv.after.size hcW,hO⟩
  ·obtain ⟨c',e',O',h1,h2,h3,h4⟩:=iv.pend i hi hFi y hy
   exact ⟨c',e',O',hle _ _ h1,g.at h2,h3,h4.mono (Rho.cut_le (fun b z _ hz=>hle b z hz) (Nat.le_refl _))⟩
 ·intro b b' p p' d k k' hb hb' h1 h2
  rcases hlive b p hb with ⟨rfl,rfl⟩ | hb1<;>rcases hlive b' p' hb' with ⟨rfl,rfl⟩ | hb2
  ·rfl
  ·rw [Rho.put_same] at h1;cases h1
   rw [Rho.put_ne _ _ (hne _ _ hb2).2] at h2
   have:=hthere _ _ _ _ hb2 h2;omega
  ·rw [Rho.put_same] at h2;cases h2
   rw [Rho.put_ne _ _ (hne _ _ hb1).2] at h1
   have:=hthere _ _ _ _ hb1 h1;omega
  ·rw [Rho.put_ne _ _ (hne _ _ hb1).2] at h1
   rw [Rho.put_ne _ _ (hne _ _ hb2).2] at h2
   exact iv.inj b b' p p' d k k' hb1 hb2 h1 h2
 ·intro b y hb
  by_cases hbj:b=(ss j).n
  ·exact .inr ⟨j,List.mem_cons_self ..,hF,⟨x,hx⟩,hbj⟩
  ·rw [Rho.put_ne _ _ hbj] at hb
   exact (iv.dom b y hb).imp id fun ⟨i,h1,h2⟩=>⟨i,List.mem_cons_of_mem _ h1,h2⟩
theorem Inv.light (hc:yD o.op≠3) {R:Array Oper} {π:Nat→Nat} (real:Real R π ops):∃ ρ' W' a',Inv ops Ls ss vs nw nt dl ρ₀ W₀ (j::pre) F ρ' W' a' ∧
  ∀ rest b k cs,Steps P (lone (Frame.atR b a (.inRegion R (π j::rest)::k)) cs W) (lone (Frame.atR b a' (.inRegion R rest::k)) cs W'):=by
 obtain ⟨o',ho',hop,hds,hwd⟩:=real.at_ j o ho
 have hjs:j<ops.size:=(Array.getElem?_eq_some_iff.mp ho).1
 have hact:=iv.act tr ho hj hr
 have hwl:=JCA (wc (yf ops o) (Ls j)) (ops:=ops) (o:=o)
 rcases (tr.step j o ho).run with ⟨hw,hv,hn,hs⟩ | ⟨hw,h | h⟩
 ·refine ⟨ρ,W,a.put o.dst undef,iv.next_same tr ho hj hr hc hn (.refl W) (by rw [hv];exact .tup .nil),fun rest b k cs=>?_⟩
  rw [← hds];exact wGJ ho' (by rw [hwd];exact ZH hact (by rw [← hwl];exact hw)) rest b k cs
 ·have hwt:=ZH hact (by rw [← hwl];exact hw)
  obtain ⟨f,need,hf,hdf,hneed,hmap,hrun⟩:=h.run
  have hNle:max (ss j).n (ss F).n≤big:=by
   have h1:=tr.nle (show j≤ops.size by omega) (Nat.le_refl _)
   have h2:=tr.nle iv.le (Nat.le_refl _)
   have:=tr.big
   omega
  obtain ⟨s2,hs2n,hs2m,hs2,hrel⟩:∃ s2:St,s2.n=max (ss j).n (ss F).n∧s2.m=max (ss j).n (ss F).n∧(∀ b,need=some b→s2.h.get b=(ss j).h.get b) ∧
    SRel (ρ.cut (max (ss j).n (ss F).n)) s2 W:=by
   cases need with
   | none=>exact ⟨⟨.nil,max (ss j).n (ss F).n,max (ss j).n (ss F).n⟩,rfl,rfl,(fun b e=>by cases e),
     ⟨⟨(fun b o h=>by cases h),(fun b p o h=>by obtain ⟨_,h,_⟩:=h;cases h),(fun b b' p p' o o' c e e' h=>by obtain ⟨_,h,_⟩:=h;cases h),iv.after.rel.heap.tab,(fun b p o c e h=>by obtain ⟨_,h,_⟩:=h;cases h),(fun b p p' o o' c e e' h=>by obtain ⟨_,h,_⟩:=h;cases h)⟩,fun b hb=>Rho.cut_ge hb⟩⟩
   | some b =>
    have hc2:yD o.op=2:=Classical.byContradiction fun hne=>by have:=hneed hne;cases this
    obtain ⟨⟨x,hx⟩,q,qs,p,hqs,hp,hpv⟩:=hmap b rfl
    have hq:q ∈ o.op.operands.toList:=by rw [hqs];exact List.mem_cons_self ..
    have hpe:p.ev (zOA (yf ops o) (Ls j))=p.ev (Ls j):=(jV hp hq (fun t ht=>wc (yf ops o) (Ls j) t (Jf ht))).symm
    have hblk:jN (p.ev (Ls j))=some b:=by
     rcases hpv with ⟨off,hpv⟩ | hpv | ⟨w,off,hpv⟩<;>rw [hpv]<;>rfl
    obtain ⟨u,hu,hbu⟩:∃ u,vYA o.op=some u∧jN ((Ls j).find u)=some b:=by
     rcases gnA hp (Ls j) with ⟨t,rfl,e⟩ | e
     ·exact ⟨t,by unfold vYA;rw [hqs],by rw [← e];exact hblk⟩
     ·rw [e] at hblk;cases hblk
    have hvr:=zX hact.env hp
    rw [hpe] at hvr
    have hy:∃ y,ρ.cut (max (ss j).n (ss F).n) b=some y:=by
     rcases hpv with ⟨off,hpv⟩ | hpv | ⟨w,off,hpv⟩
     ·rw [hpv] at hvr
      obtain ⟨c,e,h1,_⟩:=hvr.ptr_inv
      exact ⟨_,h1⟩
     ·rw [hpv] at hvr
      obtain ⟨c,e,h1,_⟩:=hvr.map_inv
      exact ⟨_,h1⟩
     ·rw [hpv] at hvr
      obtain ⟨y,c,e,h1,_⟩:=hvr.vp_inv
      exact ⟨_,h1⟩
    obtain ⟨y,hy⟩:=hy
    have hbN:=(Rho.cut_some hy).1
    obtain ⟨hrd,hzd⟩:=iv.read tr ho hj hr hc2 hu hbu hx hy
    have hb:b<big:=by omega
    have hget:∀ i z,(Heap.set (some x) depth .nil b).get i=some z→i=b∧z=x:=by
     intro i z hz
     rcases jj hz with ⟨h1,_,h2⟩ | ⟨h1,_⟩
     ·cases h2;exact ⟨h1,rfl⟩
     ·cases h1
    refine ⟨⟨Heap.set (some x) depth .nil b,max (ss j).n (ss F).n,max (ss j).n (ss F).n⟩,rfl,rfl,(fun b' e=>by cases e;rw [hx];show (Heap.set (some x) depth .nil b).get b=some x;exact vU _ _ _ hb),⟨⟨?_,?_,?_,iv.after.rel.heap.tab,?_,?_⟩,fun b hb=>Rho.cut_ge hb⟩⟩
    ·intro i z hz
     rw [(hget i z hz).1];exact hb
    ·rintro i q z ⟨u,hz,hm⟩
     obtain ⟨rfl,rfl⟩:=hget i u hz
     obtain ⟨c,e,O,h1,h2,h3,_⟩:=hrd q z hm
     exact ⟨c,e,O,h1,h2,h3⟩
    ·rintro i i' q q' z z' _ _ _ ⟨u,hz,_⟩ ⟨u',hz',_⟩ _ _
     rw [(hget i u hz).1,(hget i' u' hz').1]
    ·rintro i q z c' e' ⟨u,hz,hm⟩ hi
     obtain ⟨rfl,rfl⟩:=hget i u hz
     obtain ⟨c,e,O,h1,_,_,h4⟩:=hrd q z hm
     rw [h1] at hi;cases hi;exact h4
    ·rintro i q q' z z' c' e' e'' ⟨u,hz,hm⟩ ⟨u',hz',hm'⟩ h1 h2
     obtain ⟨rfl,rfl⟩:=hget i u hz
     rw [hz] at hz';cases hz'
     exact hzd q q' z z' c' e' e'' hm hm' h1 h2
  have late:nw j≠none→F≤j:=by
   intro hne
   refine Nat.le_of_not_lt fun hlt=>?_
   have hc1:yD o.op=1:=Classical.byContradiction fun hn=>hne (h.made.make hn)
   rcases iv.front with h0 | ⟨q,p,hq,hqm,hqo,hq3⟩
   ·omega
   ·have hjq:j<q:=by
     rcases Nat.lt_or_ge j q with h1 | h1
     ·exact h1
     ·have:j=q:=by omega
      subst this
      exact absurd hqm hj
    rcases tr.ask.pair j q o p hjq ho hqo with hb | ⟨_,_,hb⟩
    ·exact hj (hb.mem iv.closed hqm)
    ·exact (hb hq3).2 hc1
  have hfv:=hrun s2 (fun hne=>by
   have:=tr.nle (late hne) (by omega)
   rw [hs2n];omega) hs2
  rw [wHJ hf _ _ s2 (fun t ht=>wc (yf ops o) (Ls j) t (Jf ht))] at hfv
  obtain ⟨ρ₁,W₁,V,af,hv,st⟩:=yaJ tr.cs ho' (by rw [hwd];exact hwt) hact hrel (by rw [hop];exact .oper hdf hf hfv)
  rw [hds] at st
  have g:Grew W W₁:=by
   refine ⟨af.os,af.tape,af.output,af.size,fun c hc=>af.frame c hc fun b p x e hb _=>?_⟩
   obtain ⟨u,hu,_⟩:=hb
   have hb':=hrel.below hu
   have:(s2.add (nw j)).m=s2.m:=by cases nw j<;>rfl
   rw [this,hs2m,← hs2n]
   exact hb'
  cases hn:nw j with
  | none =>
   rw [hn] at af
   have he:ρ₁=ρ.cut (max (ss j).n (ss F).n):=by
    funext b
    by_cases hb:b<max (ss j).n (ss F).n
    ·exact af.old b (by rw [hs2n];exact hb)
    ·rw [Rho.cut_ge (by omega)]
     exact af.rel.fresh b (by show s2.n≤b;rw [hs2n];omega)
   rw [he] at hv
   exact ⟨ρ,W₁,a.put o.dst V,iv.next_same tr ho hj hr hc hn g hv,st⟩
  | some x =>
   rw [hn] at af
   have hF:=late (by rw [hn];simp)
   have hFj:=tr.nle hF (by omega)
   have hN:max (ss j).n (ss F).n=(ss j).n:=by omega
   rw [hN] at hs2n hrel af
   obtain ⟨_,hnew⟩:=tr.nw_some ho hn
   have hn1:(ss (j+1)).n=(ss j).n+1:=by rw [hnew];rfl
   have hbig:s2.n<big:=by
    have:=tr.nle (show j+1≤ops.size by omega) (Nat.le_refl _)
    have:=tr.big
    omega
   have hgx:(s2.new x).h.get s2.n=some x:=by rw [St.new_h,vU _ _ _ hbig]
   have hlx:=h.made.lone x hn
   have hHx:Has (s2.new x).h s2.n s2.n x:=.lone hgx hlx
   obtain ⟨c,e,O,h1,h2,h3⟩:=af.rel.heap.obj s2.n s2.n x hHx
   have hcW:W.heap.size≤c:=by
    rcases af.from_ s2.n s2.n x c e hHx h1 with ⟨b0,x0,o0,e0,hb0,hr0⟩ | hle
    ·exfalso
     obtain ⟨u,hu,hm⟩:=hb0
     have hlt:=hrel.below hu
     have hr0:=af.le _ _ hr0
     have hsm:=af.same b0 (by show b0<s2.m;rw [hs2m,hN,← hs2n];exact hlt) hlt
     rw [hu] at hsm
     have:=af.rel.heap.inj _ _ _ _ _ _ _ _ _ hHx ⟨u,hsm,hm⟩ h1 hr0
     omega
    ·exact hle
   have he:ρ₁=(ρ.put (ss j).n (c,e)).cut (ss (j+1)).n:=by
    funext b
    rcases Nat.lt_trichotomy b (ss j).n with hb | hb | hb
    ·rw [Rho.cut_lt (by omega),Rho.put_ne _ _ (by omega),af.old b (by omega),Rho.cut_lt hb]
    ·subst hb
     rw [Rho.cut_lt (by omega),Rho.put_same,← hs2n];exact h1
    ·rw [Rho.cut_ge (by omega)]
     exact af.rel.fresh b (by show s2.n+1≤b;omega)
   rw [he] at hv h3
   exact ⟨_,W₁,a.put o.dst V,iv.next_new tr ho hj hr hc hF hn g h2 hcW h3 hv,st⟩
 ·exact absurd h.cls hc
end
end Go.Abs
end
