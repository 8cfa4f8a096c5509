/- A region whose order is drawn: operations that may write; the whole region. -/
import Derived.Test.YtoklbkgcclkejaaAbsSim3
import Derived.Test.YtoklbkgcclkejaaAbsCode
noncomputable section
namespace Go.Abs
variable {P:Program}
section
variable {cl:zR} {nt:Nat} {ops:Array Oper} {ds:List DOp} {ends:List (Nat × Nat)} {Ls:Nat→Env} {ss:Nat→St} {vs:Nat→AV} {nw:Nat→Option AObj} (tr:Tr P cl nt ops ds ends Ls ss vs nw)
 {dl:List Nat} {ρ₀:Rho} {W₀:World} {pre:List Nat} {F:Nat} {ρ:Rho} {W:World} {a:Act} (iv:Inv ops Ls ss vs nw nt dl ρ₀ W₀ pre F ρ W a)
include tr iv
theorem Inv.fill {j:Nat} (hjs:j≤ops.size) (hall:∀ k q,F≤k→k<j→ops[k]? = some q→yD q.op≠3∧((∃ x,nw k=some x)→k ∈ pre)):∀ {i:Nat},F≤i→i≤j →
  After ρ₀ (ss 0) W₀ (ρ.cut (ss i).n) (ss i) W∧∀ b p x,Has (ss i).h b p x→Live ss nw pre F b p
 | 0,h,_=>by
  have:F=0:=by omega
  subst this
  exact ⟨iv.after,fun b p x hb=>.inl ⟨x,hb⟩⟩
 | i+1,h,h'=>by
  by_cases e:F=i+1
  ·subst e
   exact ⟨iv.after,fun b p x hb=>.inl ⟨x,hb⟩⟩
  ·obtain ⟨ih1,ih2⟩:=Inv.fill hjs hall (i:=i) (by omega) (by omega)
   have ho:=Array.getElem?_eq_getElem (xs:=ops) (i:=i) (by omega)
   obtain ⟨hc,hp⟩:=hall i _ (by omega) (by omega) ho
   cases hn:nw i with
   | none=>rw [tr.nw_none ho hc hn];exact ⟨ih1,ih2⟩
   | some x =>
    obtain ⟨_,hnew⟩:=tr.nw_some ho hn
    have hn1:(ss (i+1)).n=(ss i).n+1:=by rw [hnew];rfl
    have hi:=hp ⟨x,hn⟩
    obtain ⟨c,k,O,h1,h2,h3,h4⟩:=iv.pend i hi (by omega) x hn
    have hlive:Live ss nw pre F (ss i).n (ss i).n:=.inr ⟨i,hi,by omega,⟨x,hn⟩,rfl,rfl⟩
    have af:=ih1.told (ρ':=ρ.cut (ss (i+1)).n) (c:=c) (e:=k) (o:=x) (O:=O) (Rho.cut_mono (by omega)) (by rw [Rho.cut_lt (by omega)];exact h1)
     (fun b hb=>by rw [Rho.cut_lt hb,Rho.cut_lt (by omega)]) (fun b hb=>Rho.cut_ge (by omega)) h2 h4 h3 (fun b p y e' hb hr=>by
      have:=iv.inj b (ss i).n p (ss i).n c e' k (ih2 b p y hb) hlive (Rho.cut_some hr).2 h1
      obtain ⟨u,hu,_⟩:=hb
      have:=ih1.rel.below hu
      omega)
    rw [hnew]
    refine ⟨by rw [hnew] at af;exact af,fun b p y hb=>?_⟩
    obtain ⟨u,hb,hm⟩:=hb
    rw [St.new_h] at hb
    rcases jj hb with ⟨rfl,_,hb⟩ | ⟨hb,_⟩
    ·cases hb
     rw [vd h4.lone] at hm
     cases List.mem_singleton.mp hm
     exact hlive
    ·exact ih2 b p y ⟨u,hb,hm⟩
variable {j:Nat} {o:Oper} (ho:ops[j]? = some o) (hj:j ∉ pre) (hr:∀ o e,ops[j]? = some o→e ∈ o.after.toList→always e=true→e.on ∈ pre) (hc:yD o.op=3)
include ho hj hr hc
theorem Inv.before:F≤j∧∀ k q,F≤k→k<j→ops[k]? = some q→yD q.op≠3∧((∃ x,nw k=some x)→k ∈ pre):=by
 refine ⟨Nat.le_of_not_lt fun h=>hj ((iv.heavy j o ho hc).mpr h),?_⟩
 intro k q hk hkj hq
 constructor
 ·intro hq3
  rcases tr.ask.pair k j q o hkj hq ho with hb | ⟨_,_,hb⟩
  ·have:=(iv.heavy k q hq hq3).mp (hb.of_ready iv.closed hr);omega
  ·exact (hb hc).1 hq3
 ·rintro ⟨x,hx⟩
  rcases tr.ask.pair k j q o hkj hq ho with hb | ⟨_,_,hb⟩
  ·exact hb.of_ready iv.closed hr
  ·exact absurd (tr.nw_some hq hx).1 (hb hc).2
theorem Inv.next_heavy {ρ₁:Rho} {W₁:World} {V:Value} (af:After (ρ.cut (ss j).n) (ss j) W ρ₁ (ss (j+1)) W₁) (hv:VRel ρ₁ (vs j) V) :
  Inv ops Ls ss vs nw nt dl ρ₀ W₀ (j::pre) (j+1) (fun b=>if b<(ss (j+1)).n then ρ₁ b else ρ b) W₁ (a.put o.dst V):=by
 have hjs:j<ops.size:=(Array.getElem?_eq_some_iff.mp ho).1
 obtain ⟨hFj,hall⟩:=iv.before tr ho hj hr hc
 obtain ⟨fill1,fill2⟩:=iv.fill tr (Nat.le_of_lt hjs) hall hFj (Nat.le_refl _)
 obtain ⟨ρ',hρ'⟩:∃ ρ':Rho,ρ'=fun b=>if b<(ss (j+1)).n then ρ₁ b else ρ b:=⟨_,rfl⟩
 rw [← hρ']
 have hlow:∀ b,b<(ss (j+1)).n→ρ' b=ρ₁ b:=fun b hb=>by rw [hρ'];exact if_pos hb
 have hhigh:∀ b,(ss (j+1)).n≤b→ρ' b=ρ b:=fun b hb=>by rw [hρ'];exact if_neg (by omega)
 have hn1:=af.n
 have hFn:=tr.nle hFj (by omega)
 have early:∀ i ∈ pre,∀ x,nw i=some x→(i<j∧(ss i).n<(ss j).n)∨(j+1≤i∧(ss (j+1)).n≤(ss i).n):=by
  intro i hi x hx
  have his:=iv.lt i hi
  obtain ⟨_,hnew⟩:=tr.nw_some (Array.getElem?_eq_getElem his) hx
  have hn2:(ss (i+1)).n=(ss i).n+1:=by rw [hnew];rfl
  rcases Nat.lt_trichotomy i j with h | h | h
  ·have:=tr.nle (show i+1≤j by omega) (by omega)
   exact .inl ⟨h,by omega⟩
  ·subst h;exact absurd hi hj
  ·exact .inr ⟨h,tr.nle (show j+1≤i by omega) (by omega)⟩
 have hle:∀ b x,ρ b=some x→ρ' b=some x:=by
  intro b x hb
  by_cases h1:b<(ss (j+1)).n
  ·rw [hlow b h1]
   by_cases h2:b<(ss j).n
   ·rw [af.old b h2,Rho.cut_lt h2];exact hb
   ·exfalso
    rcases iv.dom b x hb with h | ⟨i,hi,_,⟨z,hz⟩,e⟩
    ·omega
    ·rcases early i hi z hz with ⟨_,h⟩ | ⟨_,h⟩<;>omega
  ·rw [hhigh b (by omega)];exact hb
 have hcut:ρ'.cut (ss (j+1)).n=ρ₁:=by
  funext b
  by_cases hb:b<(ss (j+1)).n
  ·rw [Rho.cut_lt hb,hlow b hb]
  ·rw [Rho.cut_ge (by omega)];exact (af.rel.fresh b (by omega)).symm
 have hd:=iv.dids tr ho (ρ':=ρ') (V:=V) (G:=j+1) hle (by omega) (by rw [Nat.max_self,hcut];exact hv)
 have hlive:∀ b p,Live ss nw (j::pre) (j+1) b p→(∃ x,Has (ss (j+1)).h b p x)∨(Live ss nw pre F b p∧(ss (j+1)).n≤b∧p=b∧∀ c e,ρ p=some (c,e)→c<W.heap.size):=by
  rintro b p (h | ⟨i,hi,hFi,⟨z,hz⟩,rfl,rfl⟩)
  ·exact .inl h
  ·rcases List.mem_cons.mp hi with rfl | hi
   ·rw [tr.nw_heavy ho hc] at hz;cases hz
   ·refine .inr ⟨.inr ⟨i,hi,by omega,⟨z,hz⟩,rfl,rfl⟩,?_,rfl,fun c e he=>?_⟩
    ·exact tr.nle hFi (Nat.le_of_lt (iv.lt i hi))
    ·obtain ⟨c',e',O,h1,h2,_⟩:=iv.pend i hi (by omega) z hz
     rw [he] at h1;cases h1
     exact yS h2
 have apart:∀ b b' p p' c e e',(∃ x,Has (ss (j+1)).h b p x)→(Live ss nw pre F b' p'∧(ss (j+1)).n≤b'∧p'=b'∧∀ c e,ρ p'=some (c,e)→c<W.heap.size)→ρ₁ p=some (c,e)→ρ p'=some (c,e')→False:=by
  rintro b b' p p' c e e' ⟨x,hx⟩ ⟨hl,hge,_,hlt⟩ h1 h2
  rcases af.from_ b p x c e hx h1 with ⟨b0,p0,x0,e0,hb0,hr0⟩ | h
  ·have:=iv.inj b0 b' p0 p' c e0 e' (fill2 b0 p0 x0 hb0) hl (Rho.cut_some hr0).2 h2
   obtain ⟨u,hu,_⟩:=hb0
   have:=fill1.rel.below hu
   omega
  ·have:=hlt c e' h2;omega
 refine ⟨?_,closes iv.closed hr,hjs,?_,?_,?_,?_,?_,?_,hd.1,hd.2,by rw [wSA];exact iv.size,by rw [Wv];exact iv.defers⟩
 ·intro i hi
  rcases List.mem_cons.mp hi with rfl | hi
  ·exact hjs
  ·exact iv.lt i hi
 ·exact .inr ⟨j,o,rfl,List.mem_cons_self ..,ho,hc⟩
 ·intro h q hq hq3
  constructor
  ·intro hm
   rcases List.mem_cons.mp hm with rfl | hm
   ·omega
   ·have:=(iv.heavy h q hq hq3).mp hm;omega
  ·intro hlt
   by_cases e:h=j
   ·subst e;exact List.mem_cons_self ..
   ·refine List.mem_cons_of_mem _ ((iv.heavy h q hq hq3).mpr (Nat.lt_of_not_le fun hle=>?_))
    exact (hall h q hle (by omega) hq).1 hq3
 ·rw [hcut];exact fill1.trans af
 ·intro i hi hFi x hx
  rcases List.mem_cons.mp hi with rfl | hi
  ·omega
  ·obtain ⟨c,e,O,h1,h2,h3,h4⟩:=iv.pend i hi (by omega) x hx
   have hN:=tr.nle hFi (Nat.le_of_lt (iv.lt i hi))
   refine ⟨c,e,O,by rw [hhigh _ hN];exact h1,?_,h3,h4.mono (Rho.cut_le (fun b z _ hz=>hle b z hz) (Nat.le_refl _))⟩
   rw [af.frame c (yS h2) (fun b p y e' hb hρ=>?_)]
   ·exact h2
   ·exfalso
    have:=iv.inj b (ss i).n p (ss i).n c e' e (fill2 b p y hb) (.inr ⟨i,hi,by omega,⟨x,hx⟩,rfl,rfl⟩) (Rho.cut_some hρ).2 h1
    obtain ⟨u,hu,_⟩:=hb
    have:=fill1.rel.below hu
    omega
 ·intro b b' p p' c e e' hb hb' h1 h2
  have low:∀ b p,(∃ x,Has (ss (j+1)).h b p x)→p<(ss (j+1)).n:=fun b p ⟨x,hx⟩=>by
   obtain ⟨c1,e1,O1,q1,_,_⟩:=af.rel.heap.obj b p x hx
   refine Nat.lt_of_not_le fun hle=>?_
   rw [af.rel.fresh p hle] at q1;cases q1
  rcases hlive b p hb with hb1 | hb1<;>rcases hlive b' p' hb' with hb2 | hb2
  ·rw [hlow _ (low b p hb1)] at h1
   rw [hlow _ (low b' p' hb2)] at h2
   obtain ⟨x,hx⟩:=hb1
   obtain ⟨x',hx'⟩:=hb2
   exact af.rel.heap.inj _ _ _ _ _ _ _ _ _ hx hx' h1 h2
  ·rw [hlow _ (low b p hb1)] at h1
   rw [hhigh _ (by rw [hb2.2.2.1];exact hb2.2.1)] at h2
   exact absurd (apart b b' p p' c e e' hb1 hb2 h1 h2) id
  ·rw [hlow _ (low b' p' hb2)] at h2
   rw [hhigh _ (by rw [hb1.2.2.1];exact hb1.2.1)] at h1
   exact absurd (apart b' b p' p c e' e hb2 hb1 h2 h1) id
  ·rw [hhigh _ (by rw [hb1.2.2.1];exact hb1.2.1)] at h1
   rw [hhigh _ (by rw [hb2.2.2.1];exact hb2.2.1)] at h2
   exact iv.inj b b' p p' c e e' hb1.1 hb2.1 h1 h2
 ·intro b x hb
  by_cases h1:b<(ss (j+1)).n
  ·exact .inl h1
  ·rw [hhigh b (by omega)] at hb
   rcases iv.dom b x hb with h | ⟨i,hi,hFi,⟨z,hz⟩,e⟩
   ·omega
   ·rcases early i hi z hz with ⟨_,h⟩ | ⟨h,_⟩
    ·omega
    ·exact .inr ⟨i,List.mem_cons_of_mem _ hi,h,⟨z,hz⟩,e⟩
theorem Inv.heavies {R:Array Oper} {π:Nat→Nat} (real:Real R π ops):∃ ρ' W' a',Inv ops Ls ss vs nw nt dl ρ₀ W₀ (j::pre) (j+1) ρ' W' a' ∧
  ∀ rest b k cs,Steps P (lone (Frame.atR b a (.inRegion R (π j::rest)::k)) cs W) (lone (Frame.atR b a' (.inRegion R rest::k)) cs W'):=by
 obtain ⟨o',ho',hop,hds,hwd⟩:=real.at_ j o ho
 have hjs:j<ops.size:=(Array.getElem?_eq_some_iff.mp ho).1
 obtain ⟨hFj,hall⟩:=iv.before tr ho hj hr hc
 obtain ⟨fill1,_⟩:=iv.fill tr (Nat.le_of_lt hjs) hall hFj (Nat.le_refl _)
 have hact:=iv.act tr ho hj hr
 have hN:max (ss j).n (ss F).n=(ss j).n:=by have:=tr.nle hFj (by omega);omega
 rw [hN] at hact
 have hwl:=JCA (wc (yf ops o) (Ls j)) (ops:=ops) (o:=o)
 have hloc:Agree (ye o.op.operands.toList) (Ls j) (zOA (yf ops o) (Ls j)):=fun t ht=>wc (yf ops o) (Ls j) t (Jf ht)
 rcases (tr.step j o ho).run with ⟨hw,hv,hn,hs⟩ | ⟨hw,h | h⟩
 ·have af:After (ρ.cut (ss j).n) (ss j) W (ρ.cut (ss j).n) (ss (j+1)) W:=by rw [hs];exact .refl fill1.rel
  refine ⟨_,W,a.put o.dst undef,iv.next_heavy tr ho hj hr hc af (by rw [hv];exact .tup .nil),fun rest b k cs=>?_⟩
  rw [← hds];exact wGJ ho' (by rw [hwd];exact ZH hact (by rw [← hwl];exact hw)) rest b k cs
 ·exact absurd hc h.cls
 ·have hwt:=ZH hact (by rw [← hwl];exact hw)
  rcases h.run with ⟨_,hrun⟩ | ⟨_,s₁,hrun,_,he⟩
  ·obtain ⟨ρ₁,W₁,V,af,hv,st⟩:=yaJ tr.cs ho' (by rw [hwd];exact hwt) hact fill1.rel (by rw [hop];exact hrun.loc hloc)
   rw [hds] at st
   exact ⟨_,W₁,a.put o.dst V,iv.next_heavy tr ho hj hr hc af hv,st⟩
  ·obtain ⟨ρ₁,W₁,V,af,hv,st⟩:=yaJ tr.cs ho' (by rw [hwd];exact hwt) hact (s:=⟨(ss j).h,(ss j).n,far⟩) ⟨fill1.rel.heap,fill1.rel.fresh⟩ (by rw [hop];exact hrun.loc hloc)
   rw [hds] at st
   have af':After (ρ.cut (ss j).n) (ss j) W ρ₁ (ss (j+1)) W₁:=by
    rw [he]
    exact af.mark _ (jW _ _) (fun b hb _=>Nat.lt_of_lt_of_le hb (jY _ _))
   exact ⟨_,W₁,a.put o.dst V,iv.next_heavy tr ho hj hr hc af' hv,st⟩
end
theorem sim {cl:zR} {nt:Nat} {ops:Array Oper} {ds:List DOp} {ends:List (Nat × Nat)} {Ls:Nat→Env} {ss:Nat→St} {vs:Nat→AV} {nw:Nat→Option AObj} (tr:Tr P cl nt ops ds ends Ls ss vs nw) {dl:List Nat} {ρ₀:Rho} {W₀:World} {R:Array Oper} {π:Nat→Nat} (real:Real R π ops) :
  ∀ {rest pre:List Nat} {F:Nat} {ρ:Rho} {W:World} {a:Act},Fits ops pre rest→Inv ops Ls ss vs nw nt dl ρ₀ W₀ pre F ρ W a →
  ∃ ρ' W' a',After ρ₀ (ss 0) W₀ ρ' (ss ops.size) W'∧ActRel ρ' nt (Ls ops.size) dl a' ∧
   ∀ b k cs,Steps P (lone (Frame.atR b a (.inRegion R (rest.map π)::k)) cs W) (lone (Frame.atR b a' (.inRegion R []::k)) cs W')
 | [],pre,F,ρ,W,a,hf,iv=>by
  have hf:∀ i,i<ops.size→i ∈ pre:=hf
  obtain ⟨fill1,_⟩:=iv.fill tr (j:=ops.size) (Nat.le_refl _) (fun k q hk hks hq=>⟨fun h3=>by have:=(iv.heavy k q hq h3).mp (hf k hks);omega,fun _=>hf k hks⟩) iv.le (Nat.le_refl _)
  refine ⟨_,W,a,fill1,⟨fun t=>?_,iv.size,iv.defers.mono fill1.le⟩,fun b k cs=>.refl _ _⟩
  have hFn:=tr.nle iv.le (Nat.le_refl _)
  by_cases h:∃ (i:Nat) (q:Oper),ops[i]? = some q∧q.dst=some t
  ·obtain ⟨i,q,hq,hd⟩:=h
   have his:i<ops.size:=(Array.getElem?_eq_some_iff.mp hq).1
   rw [tr.find1 hq hd his (Nat.le_refl _)]
   refine (iv.did t i q (hf i his) hq hd).mono (Rho.cut_mono ?_)
   have:=tr.nle (show i+1≤ops.size by omega) (Nat.le_refl _)
   omega
  ·rw [tr.find0 (Nat.le_refl _) (fun i q _ hq hd=>h ⟨i,q,hq,hd⟩)]
   exact (iv.rest t (fun i q _ hq hd=>h ⟨i,q,hq,hd⟩)).mono (Rho.cut_mono hFn)
 | j::rest,pre,F,ρ,W,a,hf,iv=>by
  obtain ⟨hjs,hj,hr,hf⟩:=hf
  have ho:=Array.getElem?_eq_getElem hjs
  by_cases hc:yD ops[j].op=3
  ·obtain ⟨ρ',W',a',iv',st⟩:=iv.heavies tr ho hj hr hc real
   obtain ⟨ρ'',W'',a'',h1,h2,st'⟩:=sim tr real hf iv'
   exact ⟨ρ'',W'',a'',h1,h2,fun b k cs=>(st (rest.map π) b k cs).trans (st' b k cs)⟩
  ·obtain ⟨ρ',W',a',iv',st⟩:=iv.light tr ho hj hr hc real
   obtain ⟨ρ'',W'',a'',h1,h2,st'⟩:=sim tr real hf iv'
   exact ⟨ρ'',W'',a'',h1,h2,fun b k cs=>(st (rest.map π) b k cs).trans (st' b k cs)⟩
variable {xs:List Nat} {nt:Nat}
theorem yMA {id:Nat} {R:Array Oper} {f:zF} (hf:YKA P nt R=some f):jt P xs nt (.region id R true) (zv f (Jk xs R.toList)):=by
 intro cl hc c ρ L d s a W b e L' d' s' hn hx hb ha hL hs h
 unfold zv at h
 generalize hr:f cl L s=r at h
 cases r with
 | fail=>cases h
 | ok M s₁ =>
  have h:(match Nat.ble s₁.n 549755813888 with | true=>Go.Abs.R.done .norm (Zz (Jk xs R.toList) M L) d s₁ | false=>.fail)=.done e L' d' s':=h
  split at h
  case h_2=>cases h
  rename_i hbig
  cases h
  obtain ⟨ops,π,ds,hds,hf,real,hsch⟩:=vQJ hf
  unfold YLA at hf
  split at hf
  case h_2=>cases hf
  rename_i ends g hp hends hops
  cases hf
  unfold yQ at hr
  generalize hr1:g cl L s=r1 at hr
  cases r1 with
  | fail=>cases hr
  | ok M1 s1 =>
  have hr:(match Ys M1 ends with | true=>ORes.ok M1 s1 | false=>.fail)=.ok M s':=hr
  split at hr
  case h_2=>cases hr
  rename_i hend
  cases hr
  have ask:=checked hds hp hends
  obtain ⟨Ls,ss,vs,nw,e1,e2,e3,e4,hst⟩:=trace (suf:=ops.toList) (i:=0) (by rw [List.drop_zero]) hops hr1
  rw [Nat.zero_add,Array.length_toList] at e3 e4
  have tr:Tr P cl nt ops ds ends Ls ss vs nw:=⟨ask,hc,fun k o ho=>by rw [e3];exact hst k o (Nat.zero_le _) ho,by rw [e4];exact Nat.le_of_ble_eq_true hbig,(fun b hb=>by
   rw [e2] at hb ⊢
   cases hg:s.h.get b with
   | none=>rfl
   | some x=>have:=hs.below hg;omega),by rw [e3];exact YIA hend⟩
  have hd:After ρ s W ρ s { W with drawn:=W.drawn+1 }:=After.drew hs rfl rfl rfl rfl
  have hcut:ρ.cut s.n=ρ:=by
   funext b
   by_cases hb:b<s.n
   ·exact Rho.cut_lt hb
   ·rw [Rho.cut_ge (by omega)];exact (hs.fresh b (by omega)).symm
  have iv:Inv ops Ls ss vs nw nt d ρ { W with drawn:=W.drawn+1 } [] 0 ρ { W with drawn:=W.drawn+1 } a:=by
   refine ⟨(fun i hi=>by cases hi),(fun k hk=>by cases hk),Nat.zero_le _,.inl rfl,?_,?_,(fun i hi=>by cases hi),?_,?_,(fun t i o hi=>by cases hi),?_,ha.size,ha.defers⟩
   ·intro h o _ _
    constructor
    ·intro hm;cases hm
    ·intro hlt;omega
   ·rw [e2,hcut];exact .refl hd.rel
   ·intro b b' p p' c e e' hb hb' h1 h2
    rcases hb with ⟨x,hx⟩ | ⟨i,hi,_⟩
    ·rcases hb' with ⟨x',hx'⟩ | ⟨i,hi,_⟩
     ·rw [e2] at hx hx'
      exact hs.heap.inj _ _ _ _ _ _ _ _ _ hx hx' h1 h2
     ·cases hi
    ·cases hi
   ·intro b x hb
    left
    rw [e2]
    refine Nat.lt_of_not_le fun hle=>?_
    rw [hs.fresh b hle] at hb;cases hb
   ·intro t _
    rw [e1,e2,hcut]
    exact ha.env t
  obtain ⟨sch,hs1,hs2⟩:=hsch (P.follows .mixedOrders) (W.tape W.drawn (.order b.fn id))
  obtain ⟨ρ',W',a',af,ha',st⟩:=sim tr real hs2 iv
  rw [e2,e4] at af
  rw [e3] at ha'
  have hq:∀ t,(∀ o ∈ R.toList,o.dst≠some t)→M.find t=L.find t:=by
   intro t ht
   rw [← e3,← e1]
   refine tr.find0 (Nat.le_refl _) (fun j o _ ho=>?_)
   obtain ⟨o',ho',_,hds',_⟩:=real.at_ j o ho
   rw [← hds']
   exact ht o' (by have:=Array.mem_of_getElem? ho';exact Array.mem_def.mp this)
  obtain ⟨h1,h2⟩:=zfJ (xs:=xs) ha' hq hL
  refine ⟨ρ',a',W',hd.trans af,h1,h2,fun _=>rfl,fun k cs=>?_⟩
  have z:=st b k cs
  rw [← hs1] at z
  exact Steps.head stepR_region_draw (z.trans (.one stepR_region_end))
end Go.Abs
end
