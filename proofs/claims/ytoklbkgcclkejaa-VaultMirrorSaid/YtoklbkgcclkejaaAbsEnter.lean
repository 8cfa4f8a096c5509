/- Entering a function. -/
import Derived.Test.YtoklbkgcclkejaaAbsCall
noncomputable section
namespace Go.Abs
variable {P:Program}
theorem ZM {X:FuncId→List Nat} {cl:zR} (hc:CallSound P cl) {f:FuncId} {fn:Func} (hf:P.funcs[f]? = some fn)
  {l:List AV} {A:Array Value} {s s':St} {v:AV} {ρ:Rho} {W:World} (h:zZ P X cl f l s fn=.val v s') (hs:SRel ρ s W) (hl:VRels ρ l A.toList) :
  (callFunc f A).run P W=.ok (.enter f A) W∧∃ ρ' V W',After ρ s W ρ' s' W'∧VRel ρ' v V ∧
   ∀ fr cs,Steps P (lone (Frame.enter P f A .normal) (fr::cs) W) (lone (fr.finish V) cs W'):=by
 unfold zZ at h
 split at h
 ·cases h
 rename_i body hb
 split at h
 ·cases h
 rename_i hname
 split at h
 case h_2=>cases h
 rename_i hn1 hn2
 split at h
 ·cases h
 rename_i k hk
 have hn1:=Nat.le_of_ble_eq_true hn1
 have hn2:=Nat.le_of_ble_eq_true hn2
 have hlen:l.length=A.size:=by rw [hl.length,Array.length_toList]
 have hname':¬ fn.name = "runtime.NumGoroutine":=fun e=>hname (by simp [e])
 refine ⟨by simp [callFunc,hf,hname',hb],?_⟩
 generalize hr:k cl ⟨f,none,fn.ntmps,X f⟩ (zO 0 l .nil) [] s=r at h
 cases r with
 | fail=>cases h
 | done e L d s₁ =>
  have hact:ActRel ρ fn.ntmps (zO 0 l .nil) [] { tmps:=A++Array.replicate (fn.ntmps - A.size) undef,defers:=[] }:=by
   refine ⟨Jd hl ?_,?_,.nil⟩
   ·intro j w hw
    have hw:A[j]? = some w:=by rw [← Array.getElem?_toList];exact hw
    have hj:j<A.size:=(Array.getElem?_eq_some_iff.mp hw).1
    rw [Nat.zero_add,Array.getD_eq_getD_getElem?,Array.getElem?_append_left hj,hw]
    rfl
   ·show (A++Array.replicate (fn.ntmps - A.size) undef).size=fn.ntmps
    rw [Array.size_append,Array.size_replicate]
    omega
  have hclean:Clean (X f) (zO 0 l .nil):=by
   intro t ht
   refine Je (.inr ?_)
   rw [Nat.zero_add]
   refine Nat.le_of_not_lt fun hlt=>?_
   have:=wmA (X:=X f) (t:=t) 100 0 (Nat.zero_le _) (Nat.lt_of_lt_of_le hlt hn2)
   rw [ht] at this
   cases this
  have hctx:CtxRel ρ ⟨f,none,fn.ntmps,X f⟩ (Frame.enter P f A .normal):=⟨rfl,rfl,fun _=>rfl,fun l e=>by cases e⟩
  have hframe:Frame.enter P f A .normal=(Frame.enter P f A .normal).atR { tmps:=A++Array.replicate (fn.ntmps - A.size) undef,defers:=[] } [.code body]:=by
   simp [Frame.enter,Frame.atR,hf,hb]
  obtain ⟨ρ₁,a₁,W₁,af,ha₁,_,_,st⟩:=yP body hk hc rfl rfl hctx hact hclean hs hr
  have fin:∀ (hle:yL P fn.results.toList L d s₁=.val v s') (hst:∀ cs,∃ t,Steps P (lone (Frame.enter P f A .normal) cs W) (lone (back (Frame.enter P f A .normal) a₁ t) cs W₁)),
    ∃ ρ' V W',After ρ s W ρ' s' W'∧VRel ρ' v V∧∀ fr cs,Steps P (lone (Frame.enter P f A .normal) (fr::cs) W) (lone (fr.finish V) cs W'):=by
   intro hle hst
   obtain ⟨V,W₂,af₂,hv,st₂⟩:=VLA ha₁ af.rel hle
   refine ⟨ρ₁,V,W₂,af.trans af₂,hv,fun fr cs=>?_⟩
   obtain ⟨t,st₁⟩:=hst (fr::cs)
   exact st₁.trans (st₂ _ rfl hf t fr cs)
  cases e with
  | exit id=>cases h
  | norm =>
   refine fin h fun cs=>⟨[],?_⟩
   have z:=st [] cs
   rw [← hframe] at z
   exact Steps.trans z (.one (stepR_end rfl))
  | ret =>
   refine fin h fun cs=>?_
   obtain ⟨k0,z⟩:=st [] cs
   rw [← hframe] at z
   exact ⟨.code .ret::k0,z.trans (.one (stepR_ret rfl))⟩
end Go.Abs
end
