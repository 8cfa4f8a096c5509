/- Rounds of a range over a function, and calls of every depth. -/
import Derived.Test.YtoklbkgcclkejaaAbsFork
noncomputable section
namespace Go.Abs
variable {P:Program}
theorem EnvRel.set {ρ:Rho} {L:Env} {T:Array Value} {t:Nat} {v:AV} {V:Value} (h:EnvRel ρ L T) (ht:t<T.size) (hv:VRel ρ v V):EnvRel ρ (L.set t v) (T.setIfInBounds t V):=by
 intro u
 rw [efs]
 by_cases e:t=u
 ·subst e
  rw [if_pos rfl,Array.getD_eq_getD_getElem?,Array.getElem?_setIfInBounds_self_of_lt ht]
  exact hv
 ·rw [if_neg e,Array.getD_eq_getD_getElem?,Array.getElem?_setIfInBounds_ne e,← Array.getD_eq_getD_getElem?]
  exact h u
theorem WY {ρ:Rho} {xs:List Nat} {nt:Nat}:∀ {ts:List Tmp} {l:List AV} {V:List Value} {L:Env} {T:Array Value},VRels ρ l V→ts.length=l.length →
  (∀ t ∈ ts,t<nt∧xs.contains t=true)→EnvRel ρ L T→T.size=nt→Clean xs L →
  EnvRel ρ (vE L ts l) ((ts.zip V).foldl (fun T (t,a)=>T.setIfInBounds t a) T)∧((ts.zip V).foldl (fun T (t,a)=>T.setIfInBounds t a) T).size=nt∧Clean xs (vE L ts l)
 | [],[],_,L,T,_,_,_,h,hn,hL=>⟨h,hn,hL⟩
 | t::ts,a::l,_,L,T,.cons hv hr,hlen,hp,h,hn,hL=>by
  obtain ⟨h1,h2⟩:=hp t (List.mem_cons_self ..)
  refine WY (L:=L.set t a) hr (by simpa using hlen) (fun u hu=>hp u (List.mem_cons_of_mem _ hu)) (h.set (by rw [hn];exact h1) hv) (by rw [Array.size_setIfInBounds];exact hn) ?_
  intro u hu
  rw [efs,if_neg (fun e=>by subst e;rw [h2] at hu;cases hu)]
  exact hL u hu
theorem ZcJ {β:Type} (ps:Array Tmp) (A:Array Value) (f:β→Tmp × Value→β) (z:β):(ps.zip A).foldl f z=(ps.toList.zip A.toList).foldl f z:=by
 rw [← Array.foldl_toList,Array.toList_zip]
theorem YrA {cl:zR} (hc:CallSound P cl) {b c:Nat} {e:Ext} {r:ALoop} {l:List AV} {A:Array Value} {s s':St} {v:AV} {ρ:Rho} {W:World}
  (hr:yv s b=some r) (h:jkA P cl b l s r=.val v s') (hρ:ρ b=some (c,e)) (hs:SRel ρ s W) (hl:VRels ρ l A.toList) :
  ∃ g T x y,(Instr.yield c A).run P W=.ok (.round c g T x y) W∧∃ ρ' V W',After ρ s W ρ' s' W'∧VRel ρ' v V ∧
   ∀ fr cs,Steps P (lone (Frame.round c g T x y .normal) (fr::cs) W) (lone (fr.finish V) cs W'):=by
 obtain ⟨R,hx,hR⟩:=zzA hs hr hρ
 unfold jkA at h
 split at h
 ·cases h
 rename_i hlen
 have hlen:l.length=r.params.length:=Classical.not_not.mp hlen
 split at h
 case h_2=>cases h
 rename_i fa fb h1 h2
 split at h
 case h_2=>cases h
 rename_i L₁ d₁ s₁ he₁
 split at h
 case h_2=>cases h
 rename_i r₁ hr₁
 split at h
 case h_2=>cases h
 rename_i hst
 split at h
 case h_2=>cases h
 rename_i q L₂ d₂ s₂ he₂
 have hsz:A.size=R.params.size:=by
  rw [← Array.length_toList,← Array.length_toList,hR.params,← hlen,hl.length]
 obtain ⟨e1,e2,e3⟩:=WY hl hlen.symm hR.ps hR.tmps hR.nt hR.clean
 rw [← hR.params] at e1 e2 e3
 obtain ⟨T,hT⟩:∃ T,T=(R.params.zip A).foldl (fun tmps (t,a)=>tmps.setIfInBounds t a) R.tmps:=⟨_,rfl⟩
 refine ⟨R.fn,T,R.assign,R.body,by rw [hT];simp [Instr.yield,Sem.run_bind,gT hx,hsz],?_⟩
 rw [← ZcJ,← hT] at e1 e2
 have hframe:Frame.round c R.fn T R.assign R.body .normal=(Frame.round c R.fn T R.assign R.body .normal).atR { tmps:=T,defers:=[] } [.code r.assign,.beginRound,.code r.body]:=by
  simp [Frame.round,Frame.atR,hR.assign,hR.body]
 have hctx:CtxRel ρ ⟨r.fn,some b,r.nt,r.xs⟩ (Frame.round c R.fn T R.assign R.body .normal):=⟨hR.fn,rfl,(fun z=>by cases z),(fun l' z=>by cases z;exact ⟨c,e,hρ,rfl⟩)⟩
 rw [hR.params] at e1 e3
 obtain ⟨ρ₁,a₁,W₁,af₁,ha₁,hL₁,hd₁,st₁⟩:=yP _ h1 hc rfl rfl hctx (a:={ tmps:=T,defers:=[] }) ⟨e1,e2,.nil⟩ e3 hs he₁
 obtain ⟨W₂,hbr,af₂⟩:=ghA (P:=P) af₁.rel hr₁ (af₁.le _ _ hρ) hst
 have hd₁:=hd₁ (by simp)
 subst hd₁
 obtain ⟨ρ₃,a₃,W₃,af₃,ha₃,hL₃,hd₃,st₃⟩:=yP _ h2 hc rfl rfl (hctx.mono (Rho.le_trans af₁.le af₂.le)) (ha₁.mono af₂.le) hL₁ af₂.rel he₂
 obtain ⟨V,W₄,hend,af₄,hv⟩:=VdA (P:=P) af₃.rel (af₃.le _ _ (af₂.le _ _ (af₁.le _ _ hρ))) h
 refine ⟨ρ₃,V,W₄,af₁.trans (af₂.trans (af₃.trans af₄)),hv,fun fr cs=>?_⟩
 rw [hframe]
 have z₁:=st₁ [.beginRound,.code r.body] (fr::cs)
 have z₂:Steps P _ _:=Steps.trans z₁ (.one (stepR_beginRound rfl hbr))
 refine z₂.trans ?_
 have z₃:=st₃ [] (fr::cs)
 cases q with
 | norm=>exact Steps.trans z₃ (.one (stepR_round_end rfl rfl hend))
 | ret =>
  obtain ⟨k0,z⟩:=z₃
  exact z.trans (.one (stepR_round_ret rfl rfl hend))
 | exit id =>
  obtain ⟨k0,hk0,z⟩:=z₃
  exact z.trans (.one (stepR_round_exit rfl rfl hk0 hend))
theorem YqA {ρ ρ':Rho} {s s₁ s':St} {W W':World} {v w:AV} {V:Value} (hs:SRel ρ s W) (a:After ρ ⟨s.h,s.n,far⟩ W ρ' s₁ W') (hv:VRel ρ' v V)
  (h:settle s (.val v s₁)=.val w s'):w=v∧∃ ρ'',After ρ s W ρ'' s' W'∧VRel ρ'' v V:=by
 unfold settle at h
 simp only at h
 split at h
 ·rename_i hm
  have hm:=Nat.le_of_ble_eq_true hm
  split at h
  ·rename_i hp
   cases h
   exact ⟨rfl,ρ,a.settle_plain hs hm,hv.plain hp⟩
  ·cases h
   have h0:∀ b,b<s.n→s.h.get b=s₁.h.get b:=fun b hb=>(a.same b (Nat.lt_of_lt_of_le hb hm) hb).symm
   rcases wQJ JP s₁.h (reach s.n s₁.h 4000 [v] s.h) with e | e
   ·rw [e];exact ⟨rfl,ρ',a.mark s.m (Nat.le_refl _) (fun b _ hb=>by omega),hv⟩
   ·rw [e];exact ⟨rfl,ρ',(a.mark s.m (Nat.le_refl _) (fun b _ hb=>by omega)).sub ⟨WuA _ _ (fun b o hb=>by rw [← h0 b (hs.below hb)];exact hb),JVA _ _ h0⟩,hv⟩
 ·cases h
  exact ⟨rfl,ρ',a.mark _ (jW _ _) (fun b hb _=>by have:=jY s.m s₁.m;omega),hv⟩
theorem gdA {X:FuncId→List Nat} {cl:zR} (hc:CallSound P cl):CallSound P (jP P X cl) where
 fr:=vRA hc.fr
 fn:=by
  intro f l s v s' ρ W A h hs hl
  unfold jP at h
  simp only at h
  split at h
  ·cases h
  ·rename_i fn hf
   rcases wYA h with h | ⟨_,h⟩
   ·generalize hr:zZ P X cl f l ⟨s.h,s.n,far⟩ fn=r at h
    cases r with
    | fail=>cases h
    | val w s₁ =>
     obtain ⟨h1,ρ',V,W',af,hv,st⟩:=ZM hc hf hr ⟨hs.heap,hs.fresh⟩ hl
     obtain ⟨rfl,ρ'',af',hv'⟩:=YqA hs af hv h
     exact ⟨h1,ρ'',V,W',af',hv',st⟩
   ·exact zrJ hc hf h hs hl
 yield:=by
  intro b c e l s v s' ρ W A h hρ hs hl
  unfold jP at h
  simp only at h
  split at h
  ·rename_i r hr
   exact YrA hc hr h hρ hs hl
  ·cases h
theorem Yj {X:FuncId→List Nat}:∀ n,CallSound P (call P X n)
 | 0=>⟨whJ 0,(fun _ _ _ _ _ _ _ _ h=>by cases h),(fun _ _ _ _ _ _ _ _ _ _ h=>by cases h)⟩
 | n+1=>gdA (Yj n)
end Go.Abs
end
