/- From the interpreter to contracts: a call that begins with nothing known of memory. -/
import Derived.Test.YtoklbkgcclkejaaAbsRound
import Derived.Below
noncomputable section
namespace Go.Abs
open Go.RowKit
variable {P:Program}
theorem jDA {ρ:Rho} {L:Env} {d:List Nat} {a:Act} {s s':St} {W:World} {fn:Func} {v:AV} {nt:Nat} (ha:ActRel ρ nt L d a) (hs:SRel ρ s W)
  (h:yL P fn.results.toList L d s=.val v s') :
  ∃ V W',After ρ s W ρ s' W'∧VRel ρ v V∧∀ b,b.kind=.normal→P.funcs[b.fn]? = some fn→∀ t cs,∃ fr,Steps P (lone (back b a t) cs W) (lone fr cs W')∧fr.fn=b.fn∧fr.leaving P W' (.returned V):=by
 unfold yL at h
 split at h
 ·cases h
 rename_i s₁ h1
 split at h
 ·rename_i l h2
  cases h
  obtain ⟨W₁,af,st⟩:=JZ (T:=a.tmps) h1 ha.defers hs
  obtain ⟨V,h3,h4⟩:=yoA (P:=P) (fn:=fn) ha.env af.rel h2
  exact ⟨V,W₁,af,h4,fun b hk hf t cs=>⟨_,st b t cs,rfl,rfl,rfl,hk,fn,hf,h3⟩⟩
 ·cases h
theorem VbA {X:FuncId→List Nat} {cl:zR} (hc:CallSound P cl) {f:FuncId} {fn:Func} (hf:P.funcs[f]? = some fn)
  {l:List AV} {A:Array Value} {s s':St} {v:AV} {ρ:Rho} {W:World} (h:zZ P X cl f l s fn=.val v s') (hs:SRel ρ s W) (hl:VRels ρ l A.toList) :
  ∃ ρ' V W',After ρ s W ρ' s' W'∧VRel ρ' v V∧Calls P f A W fun e w=>e=.returned V∧w=W':=by
 unfold zZ at h
 split at h
 ·cases h
 rename_i body hb
 split at h
 ·cases h
 split at h
 case h_2=>cases h
 rename_i hn1 hn2
 split at h
 ·cases h
 rename_i k hk
 have hn1:=Nat.le_of_ble_eq_true hn1
 have hn2:=Nat.le_of_ble_eq_true hn2
 have hlen:l.length=A.size:=by rw [hl.length,Array.length_toList]
 generalize hr:k cl ⟨f,none,fn.ntmps,X f⟩ (zO 0 l .nil) [] s=r at h
 cases r with
 | fail=>cases h
 | done e L d s₁ =>
  have hact:ActRel ρ fn.ntmps (zO 0 l .nil) [] { tmps:=A++Array.replicate (fn.ntmps - A.size) undef,defers:=[] }:=by
   refine ⟨Jd hl ?_,?_,.nil⟩
   ·intro j w hw
    have hw:A[j]? = some w:=by rw [← Array.getElem?_toList];exact hw
    have hj:j<A.size:=(Array.getElem?_eq_some_iff.mp hw).1
    rw [Nat.zero_add,Array.getD_eq_getD_getElem?,Array.getElem?_append_left hj,hw]
    rfl
   ·show (A++Array.replicate (fn.ntmps - A.size) undef).size=fn.ntmps
    rw [Array.size_append,Array.size_replicate]
    omega
  have hclean:Clean (X f) (zO 0 l .nil):=by
   intro t ht
   refine Je (.inr ?_)
   rw [Nat.zero_add]
   refine Nat.le_of_not_lt fun hlt=>?_
   have:=wmA (X:=X f) (t:=t) 100 0 (Nat.zero_le _) (Nat.lt_of_lt_of_le hlt hn2)
   rw [ht] at this
   cases this
  have hctx:CtxRel ρ ⟨f,none,fn.ntmps,X f⟩ (Frame.enter P f A .normal):=⟨rfl,rfl,fun _=>rfl,fun l e=>by cases e⟩
  have hframe:Frame.enter P f A .normal=(Frame.enter P f A .normal).atR { tmps:=A++Array.replicate (fn.ntmps - A.size) undef,defers:=[] } [.code body]:=by
   simp [Frame.enter,Frame.atR,hf,hb]
  obtain ⟨ρ₁,a₁,W₁,af,ha₁,_,_,st⟩:=yP body hk hc rfl rfl hctx hact hclean hs hr
  have fin:∀ (hle:yL P fn.results.toList L d s₁=.val v s') (hst:∀ cs,∃ t,Steps P (lone (Frame.enter P f A .normal) cs W) (lone (back (Frame.enter P f A .normal) a₁ t) cs W₁)),
    ∃ ρ' V W',After ρ s W ρ' s' W'∧VRel ρ' v V∧Calls P f A W fun e w=>e=.returned V∧w=W':=by
   intro hle hst
   obtain ⟨V,W₂,af₂,hv,st₂⟩:=jDA ha₁ af.rel hle
   refine ⟨ρ₁,V,W₂,af.trans af₂,hv,fun cs=>?_⟩
   obtain ⟨t,st₁⟩:=hst cs
   obtain ⟨fr,h1,h2,h3⟩:=st₂ (Frame.enter P f A .normal) rfl hf t cs
   exact ⟨.returned V,W₂,fr,⟨rfl,rfl⟩,Steps.trans st₁ h1,h2,h3⟩
  cases e with
  | exit id=>cases h
  | norm =>
   refine fin h fun cs=>⟨[],?_⟩
   have z:=st [] cs
   rw [← hframe] at z
   exact Steps.trans z (.one (stepR_end rfl))
  | ret =>
   refine fin h fun cs=>?_
   obtain ⟨k0,z⟩:=st [] cs
   rw [← hframe] at z
   exact ⟨.code .ret::k0,z.trans (.one (stepR_ret rfl))⟩
def Zv:St:=⟨.nil,0,far⟩
theorem ZT {b x:Nat} {o:AObj} (h:Has Zv.h b x o):False:=by obtain ⟨_,h,_⟩:=h;cases h
theorem JiA (W:World) (hW:∀ g cs,Yd g=some cs→GlobOk W g cs):SRel (fun _=>none) Zv W :=
 ⟨⟨(fun b o h=>by cases h),(fun _ _ _ h=>(ZT h).elim),(fun _ _ _ _ _ _ _ _ _ h=>(ZT h).elim),hW,(fun _ _ _ _ _ h=>(ZT h).elim),(fun _ _ _ _ _ _ _ _ h=>(ZT h).elim)⟩,fun _ _=>rfl⟩
theorem After.below {ρ ρ':Rho} {s':St} {W W':World} (a:After ρ Zv W ρ' s' W'):Below W.heap.size W W' :=
 ⟨a.os,a.tape,a.output,a.size,fun k hk=>a.frame k hk fun _ _ _ _ hb _=>(ZT hb).elim⟩
def yyJ:ARes→Bool
 | .val (.bool true) _=>true
 | _=>false
end Go.Abs
end
