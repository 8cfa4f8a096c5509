/- Pieces of code. -/
import Derived.Test.YtoklbkgcclkejaaAbsOrder
noncomputable section
namespace Go.Abs
variable {P:Program}
def Arr (P:Program) (M:Machine) (b:Frame) (k:List Item) (cs:List Frame):Ex→Act→World→Prop
 | .norm,a,W=>Steps P M (lone (b.atR a k) cs W)
 | .exit id,a,W=>∃ k0,exitTo id k0=exitTo id k∧Steps P M (lone (b.atR a (.code (.exit id)::k0)) cs W)
 | .ret,a,W=>∃ k0,Steps P M (lone (b.atR a (.code .ret::k0)) cs W)
theorem Arr.of {M M':Machine} {b:Frame} {k:List Item} {cs:List Frame} {e:Ex} {a:Act} {W:World} (h:Steps P M M') (h':Arr P M' b k cs e a W):Arr P M b k cs e a W:=by
 cases e with
 | norm=>exact h.trans h'
 | exit id=>exact h'.imp fun _ x=>⟨x.1,h.trans x.2⟩
 | ret=>exact h'.imp fun _ x=>h.trans x
structure CtxRel (ρ:Rho) (c:Ctx) (b:Frame):Prop where
 fn:b.fn=c.fn
 kind:b.kind=.normal
 none:c.rnd=none→b.roundOf=none
 some:∀ l,c.rnd=some l→∃ x e,ρ l=some (x,e)∧b.roundOf=some x
theorem CtxRel.mono {ρ ρ':Rho} (h:ρ.le ρ') {c:Ctx} {b:Frame} (r:CtxRel ρ c b):CtxRel ρ' c b :=
 ⟨r.fn,r.kind,r.none,fun l e=>(r.some l e).imp fun _ x=>x.imp fun _ y=>⟨h _ _ y.1,y.2⟩⟩
def Clean (xs:List Nat) (L:Env):Prop:=∀ t,xs.contains t=false→L.find t=.bad
def jt (P:Program) (xs:List Nat) (nt:Nat) (x:Code) (f:K):Prop :=
 ∀ {cl:zR},CallSound P cl→∀ {c:Ctx} {ρ:Rho} {L:Env} {d:List Nat} {s:St} {a:Act} {W:World} {b:Frame} {e:Ex} {L':Env} {d':List Nat} {s':St},
  c.nt=nt→c.xs=xs→CtxRel ρ c b→ActRel ρ nt L d a→Clean xs L→SRel ρ s W→f cl c L d s=.done e L' d' s' →
  ∃ ρ' a' W',After ρ s W ρ' s' W'∧ActRel ρ' nt L' d' a'∧Clean xs L'∧(c.rnd≠none→d'=d) ∧
   ∀ k cs,Arr P (lone (b.atR a (.code x::k)) cs W) b k cs e a' W'
variable {xs:List Nat} {nt:Nat}
theorem ZgJ:jt P xs nt .skip zd:=by
 intro cl _ c ρ L d s a W b e L' d' s' _ _ _ ha hL hs h
 cases h
 exact ⟨ρ,a,W,.refl hs,ha,hL,fun _=>rfl,fun k cs=>.one stepR_skip⟩
theorem ZZ {x:Code}:jt P xs nt x wtA:=by
 intro cl _ c ρ L d s a W b e L' d' s' _ _ _ _ _ _ h
 cases h
theorem vVJ {l:Nat}:jt P xs nt (.label l) zd:=by
 intro cl _ c ρ L d s a W b e L' d' s' _ _ _ ha hL hs h
 cases h
 exact ⟨ρ,a,W,.refl hs,ha,hL,fun _=>rfl,fun k cs=>.one stepR_label⟩
theorem ZiJ {id:Nat}:jt P xs nt (.exit id) (jy id):=by
 intro cl _ c ρ L d s a W b e L' d' s' _ _ _ ha hL hs h
 cases h
 exact ⟨ρ,a,W,.refl hs,ha,hL,fun _=>rfl,fun k cs=>⟨k,rfl,.refl _ _⟩⟩
theorem VKJ:jt P xs nt .ret jG:=by
 intro cl _ c ρ L d s a W b e L' d' s' _ _ _ ha hL hs h
 cases h
 exact ⟨ρ,a,W,.refl hs,ha,hL,fun _=>rfl,fun k cs=>⟨k,.refl _ _⟩⟩
theorem Arr.pass {M:Machine} {b:Frame} {x:Item} {k:List Item} {cs:List Frame} {e:Ex} {a:Act} {W:World} (hx:∀ id,exitTo id (x::k)=exitTo id k) (he:e≠.norm)
  (h:Arr P M b (x::k) cs e a W):Arr P M b k cs e a W:=by
 cases e with
 | norm=>exact absurd rfl he
 | exit id=>exact h.imp fun _ y=>⟨y.1.trans (hx id),y.2⟩
 | ret=>exact h
theorem VJJ {x y:Code} {f g:K} (hf:jt P xs nt x f) (hg:jt P xs nt y g):jt P xs nt (.seq x y) (zG f g):=by
 intro cl hc c ρ L d s a W b e L' d' s' hn hx hb ha hL hs h
 unfold zG at h
 generalize hr:f cl c L d s=r at h
 cases r with
 | fail=>cases h
 | done e₁ L₁ d₁ s₁ =>
  obtain ⟨ρ₁,a₁,W₁,af,ha₁,hL₁,hd₁,st⟩:=hf hc hn hx hb ha hL hs hr
  cases e₁ with
  | norm =>
   obtain ⟨ρ₂,a₂,W₂,af₂,ha₂,hL₂,hd₂,st₂⟩:=hg hc hn hx (hb.mono af.le) ha₁ hL₁ af.rel h
   exact ⟨ρ₂,a₂,W₂,af.trans af₂,ha₂,hL₂,fun z=>(hd₂ z).trans (hd₁ z),fun k cs=>.of (.head stepR_seq (st (.code y::k) cs)) (st₂ k cs)⟩
  | exit id =>
   cases h
   exact ⟨ρ₁,a₁,W₁,af,ha₁,hL₁,hd₁,fun k cs=>.of (.one stepR_seq) (.pass (x:=.code y) (fun _=>rfl) (fun z=>by cases z) (st (.code y::k) cs))⟩
  | ret =>
   cases h
   exact ⟨ρ₁,a₁,W₁,af,ha₁,hL₁,hd₁,fun k cs=>.of (.one stepR_seq) (.pass (x:=.code y) (fun _=>rfl) (fun z=>by cases z) (st (.code y::k) cs))⟩
theorem VEA {f:Bool→R} {v:AV} {e:Ex} {L:Env} {d:List Nat} {s:St} (h:VFA f v=.done e L d s):∃ t,v=.bool t∧f t=.done e L d s:=by
 cases v<;>first | exact ⟨_,rfl,h⟩ | (cases h)
theorem ZjJ {q:Operand} {z:Arg} {x y:Code} {f g:K} (hq:jL q=some z) (hf:jt P xs nt x f) (hg:jt P xs nt y g) :
  jt P xs nt (.cond q x y) (ze z f g):=by
 intro cl hc c ρ L d s a W b e L' d' s' hn hx hb ha hL hs h
 unfold ze at h
 obtain ⟨t,ht,h⟩:=VEA h
 have hv:=zX ha.env hq
 rw [ht,← gi] at hv
 generalize hy:a.eval q=v at hv
 cases hv
 cases t with
 | true =>
  obtain ⟨ρ₁,a₁,W₁,af,ha₁,hL₁,hd₁,st⟩:=hf hc hn hx hb ha hL hs h
  exact ⟨ρ₁,a₁,W₁,af,ha₁,hL₁,hd₁,fun k cs=>.of (.one (stepR_cond hy)) (st k cs)⟩
 | false =>
  obtain ⟨ρ₁,a₁,W₁,af,ha₁,hL₁,hd₁,st⟩:=hg hc hn hx hb ha hL hs h
  exact ⟨ρ₁,a₁,W₁,af,ha₁,hL₁,hd₁,fun k cs=>.of (.one (stepR_cond hy)) (st k cs)⟩
theorem vTJ {x:Code} {f:K} (hf:jt P xs nt x f):jt P xs nt (.scope x) f:=by
 intro cl hc c ρ L d s a W b e L' d' s' hn hx hb ha hL hs h
 obtain ⟨ρ₁,a₁,W₁,af,ha₁,hL₁,hd₁,st⟩:=hf hc hn hx hb ha hL hs h
 refine ⟨ρ₁,a₁,W₁,af,ha₁,hL₁,hd₁,fun k cs=>.of (.one WYA) ?_⟩
 have:=st (.inScope x::k) cs
 cases e with
 | norm=>exact Steps.trans this (.one ZfA)
 | exit id=>exact .pass (x:=.inScope x) (fun _=>rfl) (fun z=>by cases z) this
 | ret=>exact this
theorem ZeJ (id:Nat) (k:List Item):exitTo id (.inBlock id::k)=some k:=by
 show (if id == id then some k else exitTo id k)=_
 rw [if_pos (by simp)]
theorem vPJ {id id':Nat} (h:id'≠id) (k:List Item):exitTo id' (.inBlock id::k)=exitTo id' k:=by
 show (if id == id' then some k else exitTo id' k)=_
 rw [if_neg (by simp;exact fun e=>h e.symm)]
theorem vWJ {id:Nat} {x:Code} {f:K} (hf:jt P xs nt x f):jt P xs nt (.block id x) (zU id f):=by
 intro cl hc c ρ L d s a W b e L' d' s' hn hx hb ha hL hs h
 unfold zU at h
 generalize hr:f cl c L d s=r at h
 cases r with
 | fail=>cases h
 | done e₁ L₁ d₁ s₁ =>
  obtain ⟨ρ₁,a₁,W₁,af,ha₁,hL₁,hd₁,st⟩:=hf hc hn hx hb ha hL hs hr
  cases e₁ with
  | norm =>
   cases h
   exact ⟨ρ₁,a₁,W₁,af,ha₁,hL₁,hd₁,fun k cs=>.head stepR_block (Steps.trans (st (.inBlock id::k) cs) (.one stepR_inBlock))⟩
  | ret =>
   cases h
   exact ⟨ρ₁,a₁,W₁,af,ha₁,hL₁,hd₁,fun k cs=>.of (.one stepR_block) (st (.inBlock id::k) cs)⟩
  | exit id' =>
   by_cases e':id'=id
   ·subst e'
    simp only [Nat.beq_refl] at h
    cases h
    refine ⟨ρ₁,a₁,W₁,af,ha₁,hL₁,hd₁,fun k cs=>?_⟩
    obtain ⟨k0,h0,st0⟩:=st (.inBlock id'::k) cs
    exact .head stepR_block (st0.trans (.one (stepR_exit (h0.trans (ZeJ id' k)))))
   ·simp only [vf e'] at h
    cases h
    refine ⟨ρ₁,a₁,W₁,af,ha₁,hL₁,hd₁,fun k cs=>.of (.one stepR_block) ?_⟩
    exact (st (.inBlock id::k) cs).imp fun k0 z=>⟨z.1.trans (vPJ e' k),z.2⟩
theorem yyA {x:Code} {f:K} (hf:jt P xs nt x f):∀ n {cl:zR},CallSound P cl→∀ {c:Ctx} {ρ:Rho} {L:Env} {d:List Nat} {s:St} {a:Act} {W:World} {b:Frame} {e:Ex} {L':Env} {d':List Nat} {s':St},
  c.nt=nt→c.xs=xs→CtxRel ρ c b→ActRel ρ nt L d a→Clean xs L→SRel ρ s W→jK f n cl c L d s=.done e L' d' s' →
  ∃ ρ' a' W',After ρ s W ρ' s' W'∧ActRel ρ' nt L' d' a'∧Clean xs L'∧(c.rnd≠none→d'=d)∧e≠.norm ∧
   ∀ k cs,Arr P (lone (b.atR a (.code x::.inLoop x::k)) cs W) b k cs e a' W'
 | 0,cl,_,c,ρ,L,d,s,a,W,b,e,L',d',s',_,_,_,_,_,_,h=>by cases h
 | n+1,cl,hc,c,ρ,L,d,s,a,W,b,e,L',d',s',hn,hx,hb,ha,hL,hs,h=>by
  have h:zG f (jK f n) cl c L d s=.done e L' d' s':=h
  unfold zG at h
  generalize hr:f cl c L d s=r at h
  cases r with
  | fail=>cases h
  | done e₁ L₁ d₁ s₁ =>
   obtain ⟨ρ₁,a₁,W₁,af,ha₁,hL₁,hd₁,st⟩:=hf hc hn hx hb ha hL hs hr
   cases e₁ with
   | norm =>
    obtain ⟨ρ₂,a₂,W₂,af₂,ha₂,hL₂,hd₂,he,st₂⟩:=yyA hf n hc hn hx (hb.mono af.le) ha₁ hL₁ af.rel h
    exact ⟨ρ₂,a₂,W₂,af.trans af₂,ha₂,hL₂,fun z=>(hd₂ z).trans (hd₁ z),he,
     fun k cs=>.of (Steps.trans (st (.inLoop x::k) cs) (.one stepR_inLoop)) (st₂ k cs)⟩
   | exit id =>
    cases h
    exact ⟨ρ₁,a₁,W₁,af,ha₁,hL₁,hd₁,(fun z=>by cases z),fun k cs=>.pass (x:=.inLoop x) (fun _=>rfl) (fun z=>by cases z) (st (.inLoop x::k) cs)⟩
   | ret =>
    cases h
    exact ⟨ρ₁,a₁,W₁,af,ha₁,hL₁,hd₁,(fun z=>by cases z),fun k cs=>.pass (x:=.inLoop x) (fun _=>rfl) (fun z=>by cases z) (st (.inLoop x::k) cs)⟩
theorem ZhJ {x:Code} {f:K} (hf:jt P xs nt x f):jt P xs nt (.loop x) (ju f):=by
 intro cl hc c ρ L d s a W b e L' d' s' hn hx hb ha hL hs h
 obtain ⟨ρ₁,a₁,W₁,af,ha₁,hL₁,hd₁,_,st⟩:=yyA hf rounds hc hn hx hb ha hL hs h
 exact ⟨ρ₁,a₁,W₁,af,ha₁,hL₁,hd₁,fun k cs=>.of (.one stepR_loop) (st k cs)⟩
theorem efs (t:Nat) (v:AV) (u:Nat):∀ L:Env,(L.set t v).find u=if t=u then v else L.find u
 | .nil=>by
  show (Env.cons t v .nil).find u=_
  by_cases h:t=u
  ·subst h;rw [if_pos rfl,yM]
  ·rw [if_neg h,yN v _ h]
 | .cons w x r=>by
  show (Bool.rec (motive:=fun _=>Env) (Env.cons w x (r.set t v)) (Env.cons w v r) (Nat.beq w t):Env).find u=_
  by_cases h:w=t
  ·subst h
   rw [YS rfl]
   by_cases h':w=u
   ·subst h';rw [if_pos rfl];exact yM w v r
   ·rw [if_neg h',yN x r h'];exact yN v r h'
  ·rw [vf h]
   show (Env.cons w x (r.set t v)).find u=_
   by_cases h':w=u
   ·subst h';rw [yM,if_neg (fun e=>h e.symm),yM]
   ·rw [yN x _ h',yN x r h'];exact efs t v u r
theorem zGA (M:Env) (u:Nat):∀ (l:List Nat) (L:Env),(Zz l M L).find u=if u ∈ l then M.find u else L.find u
 | [],L=>by rw [if_neg (by simp)];rfl
 | t::l,L=>by
  show (Zz l M (L.set t (M.find t))).find u=_
  rw [zGA M u l,efs]
  by_cases h:u ∈ l
  ·rw [if_pos h,if_pos (List.mem_cons_of_mem _ h)]
  ·rw [if_neg h]
   by_cases h':t=u
   ·subst h';rw [if_pos rfl,if_pos (List.mem_cons_self ..)]
   ·rw [if_neg h',if_neg (by simp only [List.mem_cons,not_or];exact ⟨fun e=>h' e.symm,h⟩)]
theorem wjA {X:List Nat} {ops:List Oper} {t:Nat}:t ∈ Jk X ops↔X.contains t=true∧∃ o ∈ ops,o.dst=some t:=by
 unfold Jk
 rw [List.mem_filterMap]
 constructor
 ·rintro ⟨o,ho,h⟩
  split at h
  ·rename_i u hu
   split at h
   ·rename_i hc;cases h;exact ⟨hc,o,ho,hu⟩
   ·cases h
  ·cases h
 ·rintro ⟨hc,o,ho,h⟩
  exact ⟨o,ho,by rw [h];show (if X.contains t=true then some t else none)=_;rw [if_pos hc]⟩
theorem zfJ {ρ:Rho} {L M:Env} {d:List Nat} {a:Act} {ops:List Oper} (ha:ActRel ρ nt M d a) (hq:∀ t,(∀ o ∈ ops,o.dst≠some t)→M.find t=L.find t) (hL:Clean xs L) :
  ActRel ρ nt (Zz (Jk xs ops) M L) d a∧Clean xs (Zz (Jk xs ops) M L):=by
 constructor
 ·refine ⟨fun t=>?_,ha.size,ha.defers⟩
  rw [zGA]
  by_cases h:t ∈ Jk xs ops
  ·rw [if_pos h];exact ha.env t
  ·rw [if_neg h]
   rw [wjA] at h
   cases hc:xs.contains t with
   | false=>rw [hL t hc];exact .bad _
   | true =>
    rw [← hq t (fun o ho e=>h ⟨hc,o,ho,e⟩)]
    exact ha.env t
 ·intro t ht
  rw [zGA,if_neg (by rw [wjA];intro z;rw [ht] at z;cases z.1)]
  exact hL t ht
theorem yLA {id:Nat} {ops:Array Oper} {f:zF} (hf:yZJ P nt ops ops.toList=some f) :
  jt P xs nt (.region id ops false) (zD f (Jk xs ops.toList)):=by
 intro cl hc c ρ L d s a W b e L' d' s' hn hx hb ha hL hs h
 unfold zD at h
 generalize hr:f cl L s=r at h
 cases r with
 | fail=>cases h
 | ok M s₁ =>
  cases h
  obtain ⟨ρ',W',a',af,ha',hq,st⟩:=JaA hc (suf:=ops.toList) (i:=0) (by rw [List.drop_zero]) hf ha hs hr
  obtain ⟨h1,h2⟩:=zfJ (xs:=xs) ha' hq hL
  refine ⟨ρ',a',W',af,h1,h2,fun _=>rfl,fun k cs=>?_⟩
  have z:=st b k cs
  rw [Array.length_toList,← List.range_eq_range'] at z
  exact Steps.head stepR_region (z.trans (.one stepR_region_end))
end Go.Abs
end
