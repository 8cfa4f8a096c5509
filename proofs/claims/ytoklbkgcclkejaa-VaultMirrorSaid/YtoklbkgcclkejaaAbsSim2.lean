/- A region whose order is drawn: what holds while it is run in some order. -/
import Derived.Test.YtoklbkgcclkejaaAbsSim1
noncomputable section
namespace Go.Abs
variable {P:Program}
def Rho.cut (ρ:Rho) (n:Nat):Rho:=fun b=>if b<n then ρ b else none
theorem Rho.cut_lt {ρ:Rho} {n b:Nat} (h:b<n):ρ.cut n b=ρ b:=if_pos h
theorem Rho.cut_ge {ρ:Rho} {n b:Nat} (h:n≤b):ρ.cut n b=none:=if_neg (by omega)
theorem Rho.cut_some {ρ:Rho} {n b:Nat} {x:Nat × Ext} (h:ρ.cut n b=some x):b<n∧ρ b=some x:=by
 unfold Rho.cut at h
 split at h
 ·exact ⟨by assumption,h⟩
 ·cases h
theorem Rho.cut_le {ρ ρ':Rho} {n m:Nat} (h:∀ b x,b<n→ρ b=some x→ρ' b=some x) (hn:n≤m):(ρ.cut n).le (ρ'.cut m):=by
 intro b x hb
 obtain ⟨h1,h2⟩:=Rho.cut_some hb
 rw [Rho.cut_lt (by omega)]
 exact h b x h1 h2
theorem Rho.cut_mono {ρ:Rho} {n m:Nat} (hn:n≤m):(ρ.cut n).le (ρ.cut m):=Rho.cut_le (fun _ _ _ h=>h) hn
def zOA (ts:List Nat) (L:Env):Env:=ts.foldr (fun t E=>.cons t (L.find t) E) .nil
theorem Vc {L:Env} {t:Nat}:∀ {ts:List Nat},(zOA ts L).find t=if t ∈ ts then L.find t else .bad
 | []=>rfl
 | u::r=>by
  show (Env.cons u (L.find u) (zOA r L)).find t=_
  by_cases e:u=t
  ·subst e;rw [yM,if_pos (List.mem_cons_self ..)]
  ·rw [yN _ _ e,Vc]
   by_cases h:t ∈ r
   ·rw [if_pos h,if_pos (List.mem_cons_of_mem _ h)]
   ·rw [if_neg h,if_neg (by simp only [List.mem_cons,not_or];exact ⟨fun z=>e z.symm,h⟩)]
theorem wc (ts:List Nat) (L:Env):Agree ts L (zOA ts L):=fun t ht=>by rw [Vc,if_pos ht]
structure Grew (W W':World):Prop where
 os:W'.os=W.os
 tape:W'.tape=W.tape
 output:W'.output=W.output
 size:W.heap.size≤W'.heap.size
 old:∀ c,c<W.heap.size→W'.heap[c]? = W.heap[c]?
theorem Grew.at {W W':World} (g:Grew W W') {c:Nat} {O:Obj} (h:W.heap[c]? = some O):W'.heap[c]? = some O:=by rw [g.old c (yS h)];exact h
theorem Grew.refl (W:World):Grew W W:=⟨rfl,rfl,rfl,Nat.le_refl _,fun _ _=>rfl⟩
theorem After.grew {ρ₀ ρ:Rho} {s₀ s:St} {W₀ W W':World} (a:After ρ₀ s₀ W₀ ρ s W) (g:Grew W W'):After ρ₀ s₀ W₀ ρ s W' where
 src:=a.src
 rel:=⟨⟨a.rel.heap.low,fun b x o hb=>by
  obtain ⟨c,e,O,h1,h2,h3⟩:=a.rel.heap.obj b x o hb
  exact ⟨c,e,O,h1,g.at h2,h3⟩,a.rel.heap.inj,fun q cs hq=>by
  obtain ⟨C,el,fr,h1,h2⟩:=a.rel.heap.tab q cs hq
  exact ⟨C,el,fr,g.at h1,h2⟩,a.rel.heap.off,a.rel.heap.zed⟩,a.rel.fresh⟩
 le:=a.le
 n:=a.n
 m:=a.m
 same:=a.same
 os:=g.os.trans a.os
 tape:=g.tape.trans a.tape
 output:=g.output.trans a.output
 size:=Nat.le_trans a.size g.size
 frame c hc hn:=by
  rw [g.old c (Nat.lt_of_lt_of_le hc a.size)]
  exact a.frame c hc hn
 from_:=a.from_
 old:=a.old
theorem After.told {ρ₀ ρ ρ':Rho} {s₀ s:St} {W₀ W:World} {c:Nat} {e:Ext} {o:AObj} {O:Obj} (a:After ρ₀ s₀ W₀ ρ s W) (hle:ρ.le ρ') (hat:ρ' s.n=some (c,e))
  (hlow:∀ b,b<s.n→ρ' b=ρ b) (hfresh:∀ b,s.n<b→ρ' b=none) (hW:W.heap[c]? = some O) (ho:ORel ρ' e o O) (hc:W₀.heap.size≤c)
  (hnew:∀ b p x e',Has s.h b p x→ρ p≠some (c,e')):After ρ₀ s₀ W₀ ρ' (s.new o) W:=by
 have hget:∀ b x,(s.new o).h.get b=some x→(b=s.n∧s.n<big∧x=o)∨(b<s.n∧s.h.get b=some x):=by
  intro b x hx
  rw [St.new_h] at hx
  rcases jj hx with ⟨rfl,hb,hx⟩ | ⟨hx,_⟩
  ·exact .inl ⟨rfl,hb,by cases hx;rfl⟩
  ·exact .inr ⟨a.rel.below hx,hx⟩
 have hhas:∀ b p x,Has (s.new o).h b p x→(b=s.n∧p=s.n∧x=o)∨(b<s.n∧p<s.n∧Has s.h b p x):=by
  rintro b p x ⟨u,hu,hm⟩
  rcases hget b u hu with ⟨rfl,_,rfl⟩ | ⟨hb,hu⟩
  ·rw [vd ho.lone] at hm
   cases List.mem_singleton.mp hm
   exact .inl ⟨rfl,rfl,rfl⟩
  ·obtain ⟨c1,e1,O1,q1,_,_⟩:=a.rel.heap.obj b p x ⟨u,hu,hm⟩
   refine .inr ⟨hb,Nat.lt_of_not_le fun hle=>?_,u,hu,hm⟩
   rw [a.rel.fresh p hle] at q1;cases q1
 refine ⟨a.src,⟨⟨?_,?_,?_,a.rel.heap.tab,?_,?_⟩,?_⟩,Rho.le_trans a.le hle,Nat.le_trans a.n (Nat.le_succ _),a.m,?_,a.os,a.tape,a.output,a.size,a.frame,?_,?_⟩
 ·intro b x hx
  rcases hget b x hx with ⟨rfl,hb,_⟩ | ⟨_,hx⟩
  ·exact hb
  ·exact a.rel.heap.low b x hx
 ·intro b p x hx
  rcases hhas b p x hx with ⟨rfl,rfl,rfl⟩ | ⟨_,hne,hx⟩
  ·exact ⟨c,e,O,hat,hW,ho⟩
  ·obtain ⟨c',k,Q,h1,h2,h3⟩:=a.rel.heap.obj b p x hx
   exact ⟨c',k,Q,by rw [hlow p hne];exact h1,h2,h3.mono hle⟩
 ·intro b b' p p' x x' c1 k k' hx hx' hr hr'
  rcases hhas b p x hx with ⟨rfl,rfl,_⟩ | ⟨_,hne,hx⟩<;>rcases hhas b' p' x' hx' with ⟨rfl,rfl,_⟩ | ⟨_,hne',hx'⟩
  ·rfl
  ·rw [hat] at hr;cases hr
   rw [hlow _ hne'] at hr'
   exact absurd hr' (hnew _ _ _ _ hx')
  ·rw [hat] at hr';cases hr'
   rw [hlow _ hne] at hr
   exact absurd hr (hnew _ _ _ _ hx)
  ·rw [hlow _ hne] at hr;rw [hlow _ hne'] at hr'
   exact a.rel.heap.inj _ _ _ _ _ _ _ _ _ hx hx' hr hr'
 ·intro b p x c1 k hx hr
  rcases hhas b p x hx with ⟨rfl,rfl,_⟩ | ⟨_,hne,hx⟩
  ·rw [hat] at hr;cases hr;exact a.src.heap.new hc
  ·rw [hlow _ hne] at hr;exact a.rel.heap.off b p x c1 k hx hr
 ·intro b p p' x x' c1 k k' hx hx' hr hr'
  rcases hhas b p x hx with ⟨hb,rfl,_⟩ | ⟨hb,hne,hx⟩<;>rcases hhas b p' x' hx' with ⟨hb',rfl,_⟩ | ⟨hb',hne',hx'⟩
  ·rw [hr] at hr';cases hr';rfl
  ·omega
  ·omega
  ·rw [hlow _ hne] at hr;rw [hlow _ hne'] at hr'
   exact a.rel.heap.zed _ _ _ _ _ _ _ _ hx hx' hr hr'
 ·intro b hle
  have hle:s.n+1≤b:=hle
  exact hfresh b (by omega)
 ·intro b hb hlt
  have hb:b<s.m:=hb
  have:=a.n
  rw [St.new_h,jH _ _ _ _ (by omega)]
  exact a.same b hb hlt
 ·intro b p x c1 k hx hr
  rcases hhas b p x hx with ⟨rfl,rfl,_⟩ | ⟨_,hne,hx⟩
  ·rw [hat] at hr;cases hr;exact .inr hc
  ·rw [hlow _ hne] at hr;exact a.from_ b p x c1 k hx hr
 ·intro b hb
  rw [hlow b (Nat.lt_of_lt_of_le hb a.n)]
  exact a.old b hb
theorem yaJ {cl:zR} (hc:CallSound P cl) {nt:Nat} {ops:Array Oper} {i:Nat} {o:Oper} (ho:ops[i]? = some o) {ρ:Rho} {L:Env} {dl:List Nat} {s s':St} {W:World} {a:Act} {v:AV}
  (hw:Region.wanted o (yielded ops a.tmps)=true) (ha:ActRel ρ nt L dl a) (hs:SRel ρ s W) (h:Runs P cl o.op L s v s') :
  ∃ ρ₁ W₁ V,After ρ s W ρ₁ s' W₁∧VRel ρ₁ v V ∧
   ∀ rest b k cs,Steps P (lone (Frame.atR b a (.inRegion ops (i::rest)::k)) cs W) (lone (Frame.atR b (a.put o.dst V) (.inRegion ops rest::k)) cs W₁):=by
 cases h with
 | call e h1 h2 hx =>
  rename_i f args ts fa l
  have hA:=gJ ha.env h2
  obtain ⟨ρ₁,V,W₁,af,hv,hcase⟩:=Vf (A:=args.map (evT a.tmps)) hc hx hs (zX ha.env h1) (by rw [Array.toList_map];exact hA)
  have hnd:∀ c,o.op≠.defer c:=by intro c z;rw [e] at z;cases z
  have hrun:execOp a.eval o=(do let d ← Deferred.ofValue (evT a.tmps f) (args.map (evT a.tmps));invoke d.target d.args:Sem Next):=by
   rw [gi];unfold execOp;rw [e];rfl
  refine ⟨ρ₁,W₁,V,af,hv,?_⟩
  intro rest b k cs
  have hfin:(Frame.atR b a (.inRegion ops (i::rest)::k)).finish V=Frame.atR b (a.put o.dst V) (.inRegion ops rest::k):=by
   rw [Frame.finish_atR,ho];rfl
  rw [← hfin]
  rcases hcase with ⟨g,B,hr,st⟩ | ⟨c,g,T,x,y,hr,st⟩
  ·exact .head (yhA ho hw hnd (by rw [hrun];exact hr)) (st _ _)
  ·exact .head (ygA ho hw hnd (by rw [hrun];exact hr)) (st _ _)
 | oper hnd hop hx =>
  obtain ⟨ρ₁,W₁,V,hr,af,hv⟩:=JcA hop o rfl ρ L a.tmps s W v s' ha.env hs hx
  refine ⟨ρ₁,W₁,V,af,hv,?_⟩
  intro rest b k cs
  rcases hr with hr | ⟨hr,rfl⟩
  ·exact .one (yfA ho hw hnd (by rw [gi];exact hr))
  ·exact .one (WX ho hw hnd (by rw [gi];exact hr))
theorem wGJ {ops:Array Oper} {i:Nat} {o:Oper} (ho:ops[i]? = some o) {a:Act} {W:World} (hw:Region.wanted o (yielded ops a.tmps)=false) (rest:List Nat) (b:Frame) (k:List Item) (cs:List Frame) :
  Steps P (lone (Frame.atR b a (.inRegion ops (i::rest)::k)) cs W) (lone (Frame.atR b (a.put o.dst undef) (.inRegion ops rest::k)) cs W):=by
 have:=stepR_op_skip (P:=P) (b:=b) (a:=a) (k:=k) (cs:=cs) (w:=W) (ops:=ops) (i:=i) (rest:=rest) (by rw [ho];exact hw)
 rw [ho] at this
 exact .one this
theorem ZH {ops:Array Oper} {o:Oper} {ρ:Rho} {nt:Nat} {L:Env} {dl:List Nat} {a:Act} {x:Bool} (ha:ActRel ρ nt L dl a) (h:ZF ops o L=some x) :
  Region.wanted o (yielded ops a.tmps)=x:=by
 unfold ZF at h
 split at h
 ·rename_i hg;cases h;exact ydA hg
 ·rename_i j w hg
  split at h
  ·rename_i t ht
   split at h
   ·rename_i b hb
    cases h
    exact ycA hg (yZA ha ht hb)
   ·rename_i hb
    cases h
    exact JBA hg (vrA ha ht hb)
   ·cases h
  ·cases h
def Live (ss:Nat→St) (nw:Nat→Option AObj) (pre:List Nat) (F b p:Nat):Prop :=
 (∃ x,Has (ss F).h b p x)∨∃ i ∈ pre,F≤i∧(∃ o,nw i=some o)∧b=(ss i).n∧p=b
structure Inv (ops:Array Oper) (Ls:Nat→Env) (ss:Nat→St) (vs:Nat→AV) (nw:Nat→Option AObj) (nt:Nat) (dl:List Nat) (ρ₀:Rho) (W₀:World)
  (pre:List Nat) (F:Nat) (ρ:Rho) (W:World) (a:Act):Prop where
 lt:∀ i ∈ pre,i<ops.size
 closed:Closed ops pre
 le:F≤ops.size
 front:F=0∨∃ h o,F=h+1∧h ∈ pre∧ops[h]? = some o∧yD o.op=3
 heavy:∀ (h:Nat) (o:Oper),ops[h]? = some o→yD o.op=3→(h ∈ pre↔h<F)
 after:After ρ₀ (ss 0) W₀ (ρ.cut (ss F).n) (ss F) W
 pend:∀ i ∈ pre,F≤i→∀ x,nw i=some x→∃ c e O,ρ (ss i).n=some (c,e)∧W.heap[c]? = some O∧W₀.heap.size≤c∧ORel (ρ.cut (ss (i+1)).n) e x O
 inj:∀ b b' p p' c e e',Live ss nw pre F b p→Live ss nw pre F b' p'→ρ p=some (c,e)→ρ p'=some (c,e')→b=b'
 dom:∀ b x,ρ b=some x→b<(ss F).n∨∃ i ∈ pre,F≤i∧(∃ o,nw i=some o)∧b=(ss i).n
 did:∀ (t i:Nat) (o:Oper),i ∈ pre→ops[i]? = some o→o.dst=some t→VRel (ρ.cut (max (ss (i+1)).n (ss F).n)) (vs i) (a.tmps.getD t undef)
 rest:∀ t:Nat,(∀ (i:Nat) (o:Oper),i ∈ pre→ops[i]? = some o→o.dst≠some t)→VRel (ρ.cut (ss F).n) ((Ls 0).find t) (a.tmps.getD t undef)
 size:a.tmps.size=nt
 defers:DRel ρ₀ dl a.defers
section
variable {cl:zR} {nt:Nat} {ops:Array Oper} {ds:List DOp} {ends:List (Nat × Nat)} {Ls:Nat→Env} {ss:Nat→St} {vs:Nat→AV} {nw:Nat→Option AObj} (tr:Tr P cl nt ops ds ends Ls ss vs nw)
 {dl:List Nat} {ρ₀:Rho} {W₀:World} {pre:List Nat} {F:Nat} {ρ:Rho} {W:World} {a:Act} (iv:Inv ops Ls ss vs nw nt dl ρ₀ W₀ pre F ρ W a)
include tr iv
theorem Inv.env {j:Nat} {o:Oper} (ho:ops[j]? = some o) (hj:j ∉ pre) (hr:∀ o e,ops[j]? = some o→e ∈ o.after.toList→always e=true→e.on ∈ pre) :
  EnvRel (ρ.cut (max (ss j).n (ss F).n)) (zOA (yf ops o) (Ls j)) a.tmps:=by
 have hjs:j<ops.size:=(Array.getElem?_eq_some_iff.mp ho).1
 intro t
 rw [Vc]
 by_cases ht:t ∈ yf ops o
 ·rw [if_pos ht]
  by_cases hw:∃ i q,i<j∧ops[i]? = some q∧q.dst=some t
  ·obtain ⟨i,q,hij,hq,hd⟩:=hw
   rw [tr.find1 hq hd hij (by omega)]
   have hi:i ∈ pre:=by
    rcases tr.ask.pair i j q o hij hq ho with hb | ⟨hb,_,_⟩
    ·exact hb.of_ready iv.closed hr
    ·exact absurd ht (hb t hd)
   refine (iv.did t i q hi hq hd).mono (Rho.cut_mono ?_)
   have:=tr.nle (show i+1≤j by omega) (by omega)
   omega
  ·rw [tr.find0 (show j≤ops.size by omega) (fun i q hij hq hd=>hw ⟨i,q,hij,hq,hd⟩)]
   refine (iv.rest t ?_).mono (Rho.cut_mono (by omega))
   intro i q hi hq hd
   rcases Nat.lt_trichotomy i j with hij | hij | hij
   ·exact hw ⟨i,q,hij,hq,hd⟩
   ·subst hij;exact hj hi
   ·rcases tr.ask.pair j i o q hij ho hq with hb | ⟨_,hb,_⟩
    ·exact hj (hb.mem iv.closed hi)
    ·exact hb t hd ht
 ·rw [if_neg ht];exact .bad _
theorem Inv.act {j:Nat} {o:Oper} (ho:ops[j]? = some o) (hj:j ∉ pre) (hr:∀ o e,ops[j]? = some o→e ∈ o.after.toList→always e=true→e.on ∈ pre) :
  ActRel (ρ.cut (max (ss j).n (ss F).n)) nt (zOA (yf ops o) (Ls j)) dl a :=
 ⟨iv.env tr ho hj hr,iv.size,iv.defers.mono (Rho.le_trans iv.after.le (Rho.cut_mono (by omega)))⟩
theorem Inv.read {j:Nat} {o:Oper} (ho:ops[j]? = some o) (hj:j ∉ pre) (hr:∀ o e,ops[j]? = some o→e ∈ o.after.toList→always e=true→e.on ∈ pre) (hc:yD o.op=2)
  {b u:Nat} (hu:vYA o.op=some u) (hbu:jN ((Ls j).find u)=some b) {x:AObj} {y:Nat × Ext} (hx:(ss j).h.get b=some x) (hy:ρ.cut (max (ss j).n (ss F).n) b=some y) :
  (∀ p o,(p,o) ∈ parts b x→∃ c e O,ρ.cut (max (ss j).n (ss F).n) p=some (c,e)∧W.heap[c]? = some O∧ORel (ρ.cut (max (ss j).n (ss F).n)) e o O∧Yd c=none) ∧
  ∀ p p' o o' c e e',(p,o) ∈ parts b x→(p',o') ∈ parts b x→ρ.cut (max (ss j).n (ss F).n) p=some (c,e)→ρ.cut (max (ss j).n (ss F).n) p'=some (c,e')→e.2=e'.2:=by
 have hjs:j<ops.size:=(Array.getElem?_eq_some_iff.mp ho).1
 have hbj:b<(ss j).n:=by
  refine Nat.lt_of_not_le fun hle=>?_
  have:=tr.wf (i:=j) (by omega) b hle
  rw [hx] at this;cases this
 have hfl:∀ (h:Nat) (q:Oper),ops[h]? = some q→yD q.op=3→b<(ss h).n→¬ Bef ops j h→¬ Bef ops h j→(ss (h+1)).h.get b=(ss h).h.get b:=fun h q hq hq3 hb n1 n2=>tr.keeps ho hq hc hq3 n1 n2 hb hu hbu
 by_cases hbF:b<(ss F).n
 ·have heq:(ss F).h.get b=(ss j).h.get b:=by
   rcases Nat.le_total F j with hle | hle
   ·refine (tr.stable hbF hle (by omega) ?_).symm
    intro h q h1 h2 hq hq3 hbh
    refine hfl h q hq hq3 hbh (fun z=>?_) (fun z=>?_)
    ·have:=tr.ask.lt _ _ z;omega
    ·have:=(iv.heavy h q hq hq3).mp (z.of_ready iv.closed hr);omega
   ·refine tr.stable hbj hle iv.le ?_
    intro h q h1 h2 hq hq3 hbh
    refine hfl h q hq hq3 hbh (fun z=>?_) (fun z=>?_)
    ·exact hj (z.mem iv.closed ((iv.heavy h q hq hq3).mpr h2))
    ·have:=tr.ask.lt _ _ z;omega
  have hF:(ss F).h.get b=some x:=by rw [heq];exact hx
  have known:∀ p o,(p,o) ∈ parts b x→∃ c e O,ρ.cut (ss F).n p=some (c,e)∧W.heap[c]? = some O∧ORel (ρ.cut (ss F).n) e o O:=fun p o hp=>iv.after.rel.heap.obj b p o ⟨x,hF,hp⟩
  refine ⟨fun p o hp=>?_,fun p p' o o' c e e' hp hp' h1 h2=>?_⟩
  ·obtain ⟨c,e,O,h1,h2,h3⟩:=known p o hp
   exact ⟨c,e,O,Rho.cut_mono (by omega) _ _ h1,h2,h3.mono (Rho.cut_mono (by omega)),iv.after.rel.heap.off b p o c e ⟨x,hF,hp⟩ h1⟩
  ·obtain ⟨c1,e1,O1,q1,_,_⟩:=known p o hp
   obtain ⟨c2,e2,O2,q2,_,_⟩:=known p' o' hp'
   have q1':=Rho.cut_mono (ρ:=ρ) (m:=max (ss j).n (ss F).n) (Nat.le_max_right ..) _ _ q1
   have q2':=Rho.cut_mono (ρ:=ρ) (m:=max (ss j).n (ss F).n) (Nat.le_max_right ..) _ _ q2
   rw [h1] at q1';cases q1'
   rw [h2] at q2';cases q2'
   exact iv.after.rel.heap.zed _ _ _ _ _ _ _ _ ⟨x,hF,hp⟩ ⟨x,hF,hp'⟩ q1 q2
 ·obtain ⟨_,hy'⟩:=Rho.cut_some hy
  rcases iv.dom b y hy' with h | ⟨i,hi,hFi,⟨z,hz⟩,rfl⟩
  ·exact absurd h hbF
  ·have his:=iv.lt i hi
   have hij:i<j:=by
    refine Nat.lt_of_not_le fun hle=>?_
    have:=tr.nle hle (by omega)
    omega
   obtain ⟨_,hnew⟩:=tr.nw_some (Array.getElem?_eq_getElem his) hz
   have hn1:(ss (i+1)).n=(ss i).n+1:=by rw [hnew];rfl
   have hst:(ss j).h.get (ss i).n=(ss (i+1)).h.get (ss i).n:=by
    refine tr.stable (by omega) (by omega) (by omega) ?_
    intro h q h1 h2 hq hq3 hbh
    refine hfl h q hq hq3 hbh (fun z=>?_) (fun z=>?_)
    ·have:=tr.ask.lt _ _ z;omega
    ·have:=(iv.heavy h q hq hq3).mp (z.of_ready iv.closed hr);omega
   have hbig:(ss i).n<big:=by
    have:=tr.nle (show i+1≤ops.size by omega) (Nat.le_refl _)
    have:=tr.big
    omega
   have hz':(ss (i+1)).h.get (ss i).n=some z:=by rw [hnew,St.new_h,vU _ _ _ hbig]
   rw [hst,hz'] at hx
   cases hx
   obtain ⟨c,e,O,h1,h2,hcW,h3⟩:=iv.pend i hi hFi _ hz
   have hle:=tr.nle (show i+1≤j by omega) (by omega)
   have hone:∀ p o,(p,o) ∈ parts (ss i).n x→p=(ss i).n∧o=x:=fun p o hp=>by
    rw [vd h3.lone] at hp
    cases List.mem_singleton.mp hp
    exact ⟨rfl,rfl⟩
   refine ⟨fun p o hp=>?_,fun p p' o o' c e e' hp hp' q1 q2=>?_⟩
   ·obtain ⟨rfl,rfl⟩:=hone p o hp
    exact ⟨c,e,O,by rw [Rho.cut_lt (by omega)];exact h1,h2,h3.mono (Rho.cut_mono (by omega)),iv.after.src.heap.new hcW⟩
   ·obtain ⟨rfl,rfl⟩:=hone p o hp
    obtain ⟨rfl,rfl⟩:=hone p' o' hp'
    rw [q1] at q2;cases q2;rfl
end
end Go.Abs
end
