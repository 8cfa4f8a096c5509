/- A region whose order is drawn: its run in the order of the text, operation by operation. -/
import Derived.Test.YtoklbkgcclkejaaAbsOrder
import Derived.Test.YtoklbkgcclkejaaAbsOrd
noncomputable section
namespace Go.Abs
variable {P:Program}
inductive Runs (P:Program) (cl:zR) (op:Op) (L:Env) (s:St) (v:AV) (s':St):Prop
 | call {f:Operand} {args:Array Operand} {ts:Array TypeId} {fa:Arg} {l:List Arg}:op=.call ⟨.value f,args,ts⟩→jL f=some fa→jz args.toList=some l →
   wh cl (evs l L) s (fa.ev L)=.val v s'→Runs P cl op L s v s'
 | oper {f:OpF}:(∀ c,op≠.defer c)→opK P op=some f→f L s=.val v s'→Runs P cl op L s v s'
theorem Runs.fr {cl:zR} (hc:FrCall cl) {op:Op} {L:Env} {s s':St} {v:AV} (h:Runs P cl op L s v s'):Fr s s':=by
 cases h with
 | call _ _ _ h=>exact hc.val h
 | oper _ hk h=>exact ybJ hk _ _ _ _ h
theorem Runs.loc {cl:zR} {op:Op} {L L':Env} {s s':St} {v:AV} (h:Runs P cl op L s v s') (hL:Agree (ye op.operands.toList) L L'):Runs P cl op L' s v s':=by
 cases h with
 | call e h1 h2 h =>
  rename_i f args ts fa l
  have hop:op.operands.toList=f::args.toList:=by rw [e];simp [Op.operands,Call.operands]
  rw [hop] at hL
  refine .call e h1 h2 ?_
  rw [← wJ h2 (fun x hx=>List.mem_cons_of_mem _ hx) hL,← jV h1 (List.mem_cons_self ..) hL]
  exact h
 | oper hd hk h=>exact .oper hd hk (by rw [← wHJ hk _ _ s hL];exact h)
def ZF (ops:Array Oper) (o:Oper) (L:Env):Option Bool:=match o.guard with
 | none=>some true
 | some (j,w)=>match (ops[j]?).bind (·.dst) with
  | some t=>match L.find t with
   | .bool b=>some (b == w)
   | .tup []=>some false
   | _=>none
  | none=>none
theorem JCA {ops:Array Oper} {o:Oper} {L L':Env} (hL:Agree (yf ops o) L L'):ZF ops o L=ZF ops o L':=by
 unfold ZF
 split
 ·rfl
 ·rename_i j w hg
  split
  ·rename_i t ht
   rw [hL t (by unfold yf;rw [hg];simp [ht])]
  ·rfl
theorem Jf {ops:Array Oper} {o:Oper} {t:Nat} (h:t ∈ ye o.op.operands.toList):t ∈ yf ops o:=by
 unfold yf
 split
 ·exact h
 ·split
  ·exact List.mem_cons_of_mem _ h
  ·exact h
structure LightA (P:Program) (o:Oper) (L:Env) (s:St) (v:AV) (new:Option AObj) (s':St):Prop where
 cls:yD o.op≠3
 made:Mk (yD o.op) new
 add:s'=s.add new
 run:∃ f need,opK P o.op=some f∧(∀ c,o.op≠.defer c)∧(yD o.op≠2→need=none) ∧
  (∀ b,need=some b→(∃ x,s.h.get b=some x)∧∃ x r a,o.op.operands.toList=x::r∧jL x=some a∧((∃ p,a.ev L=.ptr b p)∨a.ev L=.map b∨∃ w p,a.ev L=.vp b w p)) ∧
  ∀ s2,(new≠none→s2.n=s.n)→(∀ b,need=some b→s2.h.get b=s.h.get b)→f L s2=.val v (s2.add new)
structure HeavyA (P:Program) (cl:zR) (ds:List DOp) (i:Nat) (o:Oper) (M L:Env) (s:St) (v:AV) (new:Option AObj) (s':St):Prop where
 cls:yD o.op=3
 new:new=none
 run:(Yf ds i o.op=false∧Runs P cl o.op L s v s')∨(Yf ds i o.op=true∧∃ s₁,Runs P cl o.op L ⟨s.h,s.n,far⟩ v s₁∧VIA (vaA ds i) M s s₁=true∧s'=⟨s₁.h,s₁.n,yA s.m s₁.m⟩)
structure AStep (P:Program) (cl:zR) (nt:Nat) (ops:Array Oper) (ds:List DOp) (i:Nat) (o:Oper) (M L:Env) (s:St) (v:AV) (new:Option AObj) (L':Env) (s':St):Prop where
 dst:∃ d,vWA nt o.dst=some d∧L'=d.put v L
 run:(ZF ops o L=some false∧v=.undef∧new=none∧s'=s)∨(ZF ops o L=some true∧(LightA P o L s v new s'∨HeavyA P cl ds i o M L s v new s'))
theorem JeA {op:Op} {f:OpF} (h:opK P op=some f):∀ c,op≠.defer c:=by
 intro c e
 rw [e] at h
 cases h
theorem gjJ {cl:zR} {ds:List DOp} {i:Nat} {o:Oper} {M L:Env} {s s':St} {v:AV} (hf:Yf ds i o.op=false) (h:Runs P cl o.op L s v s') :
  ∃ new,LightA P o L s v new s'∨HeavyA P cl ds i o M L s v new s':=by
 by_cases hc:yD o.op=3
 ·exact ⟨none,.inr ⟨hc,rfl,.inl ⟨hf,h⟩⟩⟩
 ·cases h with
  | call e _ _ _=>rw [e] at hc;exact absurd rfl hc
  | oper hd hk h =>
   obtain ⟨need,new,h1,h2,h3,h4,h5⟩:=JdA hk hc _ _ _ _ h
   exact ⟨new,.inl ⟨hc,h1,h3,_,need,hk,hd,h2,h4,h5⟩⟩
theorem gwJ {cl:zR} {d:Dst} {op:Op} {rest k:zF} (h:zHJ P d op rest=some k) {L M:Env} {s s':St} (hk:k cl L s=.ok M s') :
  ∃ v s₁,Runs P cl op L s v s₁∧rest cl (d.put v L) s₁=.ok M s':=by
 unfold zHJ at h
 split at h
 ·rename_i f hop
  cases h
  unfold zC at hk
  generalize hx:f L s=x at hk
  cases x with
  | fail=>cases hk
  | val v s₁=>exact ⟨v,s₁,.oper (JeA hop) hop hx,hk⟩
 ·unfold geA at h
  split at h
  ·split at h
   ·rename_i fa l h1 h2
    cases h
    unfold zo at hk
    generalize hx:wh cl (evs l L) s (fa.ev L)=x at hk
    cases x with
    | fail=>cases hk
    | val v s₁=>exact ⟨v,s₁,.call rfl h1 h2 hx,hk⟩
   ·cases h;cases hk
  ·cases h;cases hk
theorem ycJ {cl:zR} {w:Option (List Nat)} {d:Dst} {op:Op} {rest k:zF} (h:zGJ P w d op rest=some k) {L M:Env} {s s':St} (hk:k cl L s=.ok M s') :
  ∃ v s₁,Runs P cl op L ⟨s.h,s.n,far⟩ v s₁∧VIA w M s s₁=true∧rest cl (d.put v L) ⟨s₁.h,s₁.n,yA s.m s₁.m⟩=.ok M s':=by
 unfold zGJ at h
 split at h
 ·rename_i f hop
  cases h
  unfold wLJ at hk
  generalize hx:f L ⟨s.h,s.n,far⟩=x at hk
  cases x with
  | fail=>cases hk
  | val v s₁=>exact ⟨v,s₁,.oper (JeA hop) hop hx,(WK hk).1,(WK hk).2⟩
 ·unfold viA at h
  split at h
  ·split at h
   ·rename_i fa l h1 h2
    cases h
    unfold jf at hk
    generalize hx:wh cl (evs l L) ⟨s.h,s.n,far⟩ (fa.ev L)=x at hk
    cases x with
    | fail=>cases hk
    | val v s₁=>exact ⟨v,s₁,.call rfl h1 h2 hx,(WK hk).1,(WK hk).2⟩
   ·cases h;cases hk
  ·cases h;cases hk
theorem yzJ {op:Op} (h:Jm op=true):yD op=3:=by
 unfold Jm at h
 split at h
 ·rfl
 ·cases h
theorem YDA {ds:List DOp} {i:Nat} {op:Op} (h:Yf ds i op=true):Jm op=true:=by
 unfold Yf at h
 split at h
 ·cases h
 ·rename_i hb;exact hb
theorem YqJ {ds:List DOp} {i:Nat} {op:Op} (h:Yf ds i op=true):yD op=3:=yzJ (YDA h)
theorem vFA {cl:zR} {ops:Array Oper} {o:Oper} {d:Dst} {k rest g:zF} (h:VU ops d k rest o.guard=some g) {L M:Env} {s s':St} (hk:g cl L s=.ok M s') :
  (ZF ops o L=some true∧k cl L s=.ok M s')∨(ZF ops o L=some false∧rest cl (d.put .undef L) s=.ok M s'):=by
 unfold VU at h
 split at h
 ·rename_i hg
  cases h
  exact .inl ⟨by unfold ZF;rw [hg],hk⟩
 ·rename_i j want hg
  split at h
  ·rename_i t ht
   cases h
   unfold oIf at hk
   rcases waA hk with ⟨b,hb,hk⟩ | ⟨hb,hk⟩
   case inr =>
    have hw:ZF ops o L=some false:=by unfold ZF;rw [hg];simp only [ht,hb]
    exact .inr ⟨hw,hk⟩
   have hw:ZF ops o L=some (b == want):=by unfold ZF;rw [hg];simp only [ht,hb]
   cases e:(b == want) with
   | true=>rw [e] at hk hw;exact .inl ⟨hw,hk⟩
   | false=>rw [e] at hk hw;exact .inr ⟨hw,hk⟩
  ·cases h
theorem trace {cl:zR} {nt:Nat} {ops:Array Oper} {ds:List DOp}:∀ {suf:List Oper} {i:Nat} {f:zF} {L M:Env} {s s':St},
  ops.toList.drop i=suf→gvJ P nt ops ds i suf=some f→f cl L s=.ok M s' →
  ∃ (Ls:Nat→Env) (ss:Nat→St) (vs:Nat→AV) (nw:Nat→Option AObj),Ls i=L∧ss i=s∧Ls (i+suf.length)=M∧ss (i+suf.length)=s' ∧
   ∀ k o,i≤k→ops[k]? = some o→AStep P cl nt ops ds k o M (Ls k) (ss k) (vs k) (nw k) (Ls (k+1)) (ss (k+1))
 | [],i,f,L,M,s,s',hd,hf,h=>by
  cases hf
  cases h
  refine ⟨fun _=>L,fun _=>s,fun _=>.undef,fun _=>none,rfl,rfl,rfl,rfl,fun k o hk ho=>?_⟩
  have h1:=congrArg List.length hd
  simp only [List.length_drop,List.length_nil,Array.length_toList] at h1
  have:=(Array.getElem?_eq_some_iff.mp ho).1
  omega
 | o::suf,i,f,L,M,s,s',hd,hf,h=>by
  have ho:ops[i]? = some o:=by
   have:(ops.toList.drop i)[0]? = some o:=by rw [hd];rfl
   rw [List.getElem?_drop] at this
   simpa using this
  have hd':ops.toList.drop (i+1)=suf:=by rw [← List.drop_drop,hd];rfl
  unfold gvJ at hf
  split at hf
  ·cases hf
  rename_i rst hrst
  split at hf
  ·cases hf
  rename_i d hdst
  have go:∀ {v new s₁},((ZF ops o L=some false∧v=.undef∧new=none∧s₁=s)∨(ZF ops o L=some true∧(LightA P o L s v new s₁∨HeavyA P cl ds i o M L s v new s₁))) →
    rst cl (d.put v L) s₁=.ok M s' →
    ∃ (Ls:Nat→Env) (ss:Nat→St) (vs:Nat→AV) (nw:Nat→Option AObj),Ls i=L∧ss i=s∧Ls (i+(o::suf).length)=M∧ss (i+(o::suf).length)=s' ∧
     ∀ k o,i≤k→ops[k]? = some o→AStep P cl nt ops ds k o M (Ls k) (ss k) (vs k) (nw k) (Ls (k+1)) (ss (k+1)):=by
   intro v new s₁ hst hr
   obtain ⟨Ls,ss,vs,nw,e1,e2,e3,e4,hs⟩:=trace hd' hrst hr
   refine ⟨fun k=>if k=i then L else Ls k,fun k=>if k=i then s else ss k,fun k=>if k=i then v else vs k,fun k=>if k=i then new else nw k,if_pos rfl,if_pos rfl,?_,?_,?_⟩
   ·show (if i+(o::suf).length=i then L else Ls (i+(o::suf).length))=M
    rw [if_neg (by simp),List.length_cons,← e3]
    congr 1;omega
   ·show (if i+(o::suf).length=i then s else ss (i+(o::suf).length))=s'
    rw [if_neg (by simp),List.length_cons,← e4]
    congr 1;omega
   ·intro k q hk hq
    show AStep P cl nt ops ds k q M (if k=i then L else Ls k) (if k=i then s else ss k) (if k=i then v else vs k) (if k=i then new else nw k) (if k+1=i then L else Ls (k+1)) (if k+1=i then s else ss (k+1))
    rw [if_neg (show ¬ k+1=i by omega),if_neg (show ¬ k+1=i by omega)]
    by_cases e:k=i
    ·subst e
     rw [ho] at hq
     cases hq
     rw [if_pos rfl,if_pos rfl,if_pos rfl,if_pos rfl,e1,e2]
     exact ⟨⟨d,hdst,rfl⟩,hst⟩
    ·rw [if_neg e,if_neg e,if_neg e,if_neg e]
     exact hs k q (by omega) hq
  split at hf
  ·rename_i hfl
   split at hf
   ·cases hf
   rename_i k hk
   rcases vFA hf h with ⟨hw,hr⟩ | ⟨hw,hr⟩
   ·obtain ⟨v,s₁,h1,h2,h3⟩:=ycJ hk hr
    exact go (.inr ⟨hw,.inr ⟨YqJ hfl,rfl,.inr ⟨hfl,s₁,h1,h2,rfl⟩⟩⟩) h3
   ·exact go (.inl ⟨hw,rfl,rfl,rfl⟩) hr
  ·rename_i hfl
   split at hf
   ·cases hf
   rename_i k hk
   rcases vFA hf h with ⟨hw,hr⟩ | ⟨hw,hr⟩
   ·obtain ⟨v,s₁,h1,h2⟩:=gwJ hk hr
    obtain ⟨new,h3⟩:=gjJ hfl h1
    exact go (.inr ⟨hw,h3⟩) h2
   ·exact go (.inl ⟨hw,rfl,rfl,rfl⟩) hr
theorem JlJ {nt t:Nat} {d:Dst} (hd:vWA nt (some t)=some d) (v:AV) (L:Env):(d.put v L).find t=v:=by
 unfold vWA at hd
 split at hd
 ·rename_i e;cases e
 ·rename_i e
  cases e
  split at hd
  ·cases hd;exact yM _ _ _
  ·cases hd
structure Tr (P:Program) (cl:zR) (nt:Nat) (ops:Array Oper) (ds:List DOp) (ends:List (Nat × Nat)) (Ls:Nat→Env) (ss:Nat→St) (vs:Nat→AV) (nw:Nat→Option AObj):Prop where
 ask:Asked ops ds ends
 cs:CallSound P cl
 step:∀ k o,ops[k]? = some o→AStep P cl nt ops ds k o (Ls ops.size) (Ls k) (ss k) (vs k) (nw k) (Ls (k+1)) (ss (k+1))
 big:(ss ops.size).n≤big
 wf0:∀ b,(ss 0).n≤b→(ss 0).h.get b=none
 ends:∀ p ∈ ends,vX ((Ls ops.size).find p.1) ((Ls ops.size).find p.2)=true
theorem YIA {M:Env}:∀ {l:List (Nat × Nat)},Ys M l=true→∀ p ∈ l,vX (M.find p.1) (M.find p.2)=true
 | [],_,p,hp=>by cases hp
 | (t,u)::r,h,p,hp=>by
  unfold Ys at h
  split at h
  ·rename_i ha
   rcases List.mem_cons.mp hp with rfl | hp
   ·exact ha
   ·exact YIA h p hp
  ·cases h
section
variable {cl:zR} {nt:Nat} {ops:Array Oper} {ds:List DOp} {ends:List (Nat × Nat)} {Ls:Nat→Env} {ss:Nat→St} {vs:Nat→AV} {nw:Nat→Option AObj} (tr:Tr P cl nt ops ds ends Ls ss vs nw)
include tr
theorem Tr.fr1 {k:Nat} {o:Oper} (ho:ops[k]? = some o):Fr (ss k) (ss (k+1)):=by
 rcases (tr.step k o ho).run with ⟨_,_,_,e⟩ | ⟨_,h | h⟩
 ·rw [e];exact .refl _
 ·rw [h.add];exact .add _ _
 ·rcases h.run with ⟨_,h⟩ | ⟨_,s₁,h,_,e⟩
  ·exact h.fr tr.cs.fr
  ·rw [e]
   exact (h.fr tr.cs.fr).mark _ (jW _ _) (fun b hb _=>Nat.lt_of_lt_of_le hb (jY _ _))
theorem Tr.fr {i:Nat}:∀ {j:Nat},i≤j→j≤ops.size→Fr (ss i) (ss j)
 | 0,h,_=>by
  have:i=0:=by omega
  subst this;exact .refl _
 | j+1,h,h'=>by
  by_cases e:i=j+1
  ·subst e;exact .refl _
  ·exact (Tr.fr (j:=j) (by omega) (by omega)).trans (tr.fr1 (Array.getElem?_eq_getElem (by omega)))
theorem Tr.nle {i j:Nat} (h:i≤j) (hj:j≤ops.size):(ss i).n≤(ss j).n:=(tr.fr h hj).n
theorem Tr.wf {i:Nat} (h:i≤ops.size):∀ b,(ss i).n≤b→(ss i).h.get b=none:=(tr.fr (Nat.zero_le i) h).wf tr.wf0
theorem Tr.nw_some {k:Nat} {o:Oper} (ho:ops[k]? = some o) {x:AObj} (h:nw k=some x):yD o.op=1∧ss (k+1)=(ss k).new x:=by
 rcases (tr.step k o ho).run with ⟨_,_,e,_⟩ | ⟨_,h' | h'⟩
 ·rw [h] at e;cases e
 ·refine ⟨Classical.byContradiction fun hn=>?_,?_⟩
  ·have:=h'.made.make hn;rw [h] at this;cases this
  ·have:=h'.add;rw [h] at this;exact this
 ·have:=h'.new;rw [h] at this;cases this
theorem Tr.nw_none {k:Nat} {o:Oper} (ho:ops[k]? = some o) (hc:yD o.op≠3) (h:nw k=none):ss (k+1)=ss k:=by
 rcases (tr.step k o ho).run with ⟨_,_,_,e⟩ | ⟨_,h' | h'⟩
 ·exact e
 ·have:=h'.add;rw [h] at this;exact this
 ·exact absurd h'.cls hc
theorem Tr.nw_heavy {k:Nat} {o:Oper} (ho:ops[k]? = some o) (hc:yD o.op=3):nw k=none:=by
 cases h:nw k with
 | none=>rfl
 | some x=>have:=(tr.nw_some ho h).1;omega
theorem Tr.find0 {t:Nat}:∀ {i:Nat},i≤ops.size→(∀ j o,j<i→ops[j]? = some o→o.dst≠some t)→(Ls i).find t=(Ls 0).find t
 | 0,_,_=>rfl
 | i+1,h,hn=>by
  have ho:=Array.getElem?_eq_getElem (xs:=ops) (i:=i) (by omega)
  obtain ⟨d,hd,e⟩:=(tr.step i _ ho).dst
  rw [e,Zk hd (hn i _ (by omega) ho)]
  exact Tr.find0 (by omega) (fun j o hj=>hn j o (by omega))
theorem Tr.find1 {t j:Nat} {o:Oper} (ho:ops[j]? = some o) (hd:o.dst=some t):∀ {i:Nat},j<i→i≤ops.size→(Ls i).find t=vs j
 | 0,h,_=>by omega
 | i+1,h,h'=>by
  have ho':=Array.getElem?_eq_getElem (xs:=ops) (i:=i) (by omega)
  obtain ⟨d,hd',e⟩:=(tr.step i _ ho').dst
  rw [e]
  by_cases ej:j=i
  ·subst ej
   rw [ho] at ho'
   cases ho'
   rw [hd] at hd'
   exact JlJ hd' _ _
  ·rw [Zk hd' (fun z=>ej (tr.ask.apart j i _ _ t ho ho' hd z))]
   exact Tr.find1 ho hd (by omega) (by omega)
theorem Tr.find_keep {t k:Nat} (hn:∀ (i:Nat) (q:Oper),k≤i→ops[i]? = some q→q.dst≠some t):∀ {i:Nat},k≤i→i≤ops.size→(Ls i).find t=(Ls k).find t
 | 0,h,_=>by
  have:k=0:=by omega
  subst this;rfl
 | i+1,h,h'=>by
  by_cases e:k=i+1
  ·subst e;rfl
  ·have ho:=Array.getElem?_eq_getElem (xs:=ops) (i:=i) (by omega)
   obtain ⟨d,hd,e⟩:=(tr.step i _ ho).dst
   rw [e,Zk hd (hn i _ (by omega) ho)]
   exact Tr.find_keep hn (by omega) (by omega)
omit tr in
theorem gO {L:Env} {m u b:Nat} {h h':Heap}:∀ {l:List Nat},gn L m h h' l=true→u ∈ l→jN (L.find u)=some b→b<m∨h'.get b=h.get b
 | [],_,h,_=>by cases h
 | w::r,h,hm,hb=>by
  unfold gn at h
  rcases List.mem_cons.mp hm with e | hm
  ·subst e
   rw [hb] at h
   simp only at h
   split at h
   ·rename_i hle;exact .inl (Nat.le_of_ble_eq_true hle)
   ·split at h
    ·rename_i hs;exact .inr (JZJ hs).symm
    ·cases h
  ·split at h
   ·split at h
    ·exact gO h hm hb
    ·split at h
     ·exact gO h hm hb
     ·cases h
   ·exact gO h hm hb
theorem Tr.keeps {j h:Nat} {o q:Oper} (ho:ops[j]? = some o) (hq:ops[h]? = some q) (hc:yD o.op=2) (hq3:yD q.op=3) (n1:¬ Bef ops j h) (n2:¬ Bef ops h j) {b u:Nat} (hb:b<(ss h).n)
  (hu:vYA o.op=some u) (hbu:jN ((Ls j).find u)=some b):(ss (h+1)).h.get b=(ss h).h.get b:=by
 have hjs:=(Array.getElem?_eq_some_iff.mp ho).1
 have hhs:=(Array.getElem?_eq_some_iff.mp hq).1
 rcases (tr.step h q hq).run with ⟨_,_,_,e⟩ | ⟨_,hl | hv⟩
 ·rw [e]
 ·exact absurd hq3 hl.cls
 ·cases hcall:Jm q.op with
  | true =>
   have hfl:=tr.ask.flag j h o q ho hq hc hq3 hcall n1 n2
   rcases hv.run with ⟨z,_⟩ | ⟨_,s₁,hr,hm,e⟩
   ·rw [hfl] at z;cases z
   ·rw [e]
    unfold VIA at hm
    split at hm
    ·rename_i hle
     exact (hr.fr tr.cs.fr).same b (Nat.lt_of_lt_of_le hb (Nat.le_of_ble_eq_true hle)) hb
    ·split at hm
     ·cases hm
     ·rename_i l hw
      obtain ⟨w1,w3⟩:=tr.ask.watch j h o q ho hq hc n1 n2 l u hw hu
      rcases gO hm w1 (by rw [tr.find_keep w3 (Nat.le_of_lt hjs) (Nat.le_refl _)];exact hbu) with hlt | heq
      ·exact (hr.fr tr.cs.fr).same b hlt hb
      ·exact heq
  | false =>
   rcases hv.run with ⟨_,hr⟩ | ⟨z,_⟩
   ·cases hr with
    | call e _ _ _=>rw [e] at hcall;cases hcall
    | oper _ hk hf =>
     refine JwJ hk hq3 _ _ _ _ hf b hb ?_
     intro t r hops hbt
     have had:vYA q.op=some t:=by unfold vYA;rw [hops]
     obtain ⟨hin,l1,l2⟩:=tr.ask.ends j h o q ho hq hc hq3 hcall n1 n2 t u had hu
     have hap:=tr.ends _ hin
     rw [tr.find_keep l1 (Nat.le_of_lt hhs) (Nat.le_refl _),tr.find_keep l2 (Nat.le_of_lt hjs) (Nat.le_refl _)] at hap
     unfold vX at hap
     rw [hbt,hbu] at hap
     simp at hap
   ·rw [YDA z] at hcall;cases hcall
theorem Tr.stable {p b:Nat} (hb:b<(ss p).n):∀ {q:Nat},p≤q→q≤ops.size→(∀ (h:Nat) (o:Oper),p≤h→h<q→ops[h]? = some o→yD o.op=3→b<(ss h).n→(ss (h+1)).h.get b=(ss h).h.get b) →
  (ss q).h.get b=(ss p).h.get b
 | 0,h,_,_=>by
  have:p=0:=by omega
  subst this;rfl
 | q+1,h,h',hf=>by
  by_cases e:p=q+1
  ·subst e;rfl
  ·have ih:=Tr.stable hb (q:=q) (by omega) (by omega) (fun x o h1 h2=>hf x o h1 (by omega))
   rw [← ih]
   have ho:=Array.getElem?_eq_getElem (xs:=ops) (i:=q) (by omega)
   have hbq:b<(ss q).n:=Nat.lt_of_lt_of_le hb (tr.fr (show p≤q by omega) (by omega)).n
   rcases (tr.step q _ ho).run with ⟨_,_,_,e⟩ | ⟨_,h | h⟩
   ·rw [e]
   ·rw [h.add]
    cases nw q with
    | none=>rfl
    | some x=>show ((ss q).new x).h.get b=_;rw [St.new_h,jH _ _ _ _ (by omega)]
   ·exact hf q _ (by omega) (by omega) ho h.cls hbq
end
end Go.Abs
end
