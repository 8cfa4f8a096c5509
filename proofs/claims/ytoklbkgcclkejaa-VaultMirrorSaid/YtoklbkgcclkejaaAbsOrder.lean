/- The operations of a region in the order of the text. -/
import Derived.Test.YtoklbkgcclkejaaAbsRun
noncomputable section
namespace Go.Abs
variable {P:Program}
theorem waA {no:Unit→ORes} {f:Bool→ORes} {v:AV} {M:Env} {s:St} (h:VDA no f v=.ok M s):(∃ b,v=.bool b∧f b=.ok M s)∨(v=.tup []∧no ()=.ok M s):=by
 cases v with
 | bool b=>exact .inl ⟨b,rfl,h⟩
 | tup l=>cases l with
  | nil=>exact .inr ⟨rfl,h⟩
  | cons _ _=>cases h
 | _=>cases h
theorem ydA {o:Oper} {y:Nat→Option Bool} (h:o.guard=none):Region.wanted o y=true:=by
 unfold Region.wanted;rw [h]
theorem ycA {o:Oper} {y:Nat→Option Bool} {j:Nat} {b t:Bool} (h:o.guard=some (j,b)) (hy:y j=some t):Region.wanted o y=(t == b):=by
 unfold Region.wanted;rw [h];show (y j == some b)=_;rw [hy];cases t<;>cases b<;>rfl
theorem yZA {ρ:Rho} {nt:Nat} {L:Env} {d:List Nat} {a:Act} (h:ActRel ρ nt L d a) {ops:Array Oper} {j:Nat} {t:Tmp} {b:Bool}
  (hj:(ops[j]?).bind (·.dst)=some t) (hb:L.find t=.bool b):yielded ops a.tmps j=some b:=by
 have hv:=h.env t
 rw [hb] at hv
 unfold yielded
 rw [hj]
 show (match a.tmps[t]? with | some (.bool b)=>some b | _=>none)=_
 rw [Array.getD_eq_getD_getElem?] at hv
 generalize hx:a.tmps[t]? = x at hv
 cases x with
 | none=>cases hv
 | some x=>cases hv;rfl
theorem vrA {ρ:Rho} {nt:Nat} {L:Env} {d:List Nat} {a:Act} (h:ActRel ρ nt L d a) {ops:Array Oper} {j:Nat} {t:Tmp}
  (hj:(ops[j]?).bind (·.dst)=some t) (hb:L.find t=.tup []):yielded ops a.tmps j=none:=by
 have hv:=h.env t
 rw [hb] at hv
 unfold yielded
 rw [hj]
 show (match a.tmps[t]? with | some (.bool b)=>some b | _=>none)=_
 rw [Array.getD_eq_getD_getElem?] at hv
 generalize hx:a.tmps[t]? = x at hv
 cases x with
 | none=>rfl
 | some x=>cases hv;rfl
theorem JBA {o:Oper} {y:Nat→Option Bool} {j:Nat} {b:Bool} (h:o.guard=some (j,b)) (hy:y j=none):Region.wanted o y=false:=by
 unfold Region.wanted;rw [h];show (y j == some b)=_;rw [hy];rfl
theorem Zk {nt:Nat} {dst:Option Tmp} {d:Dst} (hd:vWA nt dst=some d) {v:AV} {L:Env} {t:Nat} (h:dst≠some t):(d.put v L).find t=L.find t:=by
 unfold vWA at hd
 split at hd
 ·cases hd;rfl
 ·split at hd
  ·cases hd
   exact yN v L (fun e=>h (by rw [e]))
  ·cases hd
theorem JfA {cl:zR} (hc:CallSound P cl) {nt:Nat} {ops:Array Oper} {i:Nat} {rest:List Nat} {o:Oper} {d:Dst} {op rst:zF}
  (ho:ops[i]? = some o) (hd:vWA nt o.dst=some d) (hk:zHJ P d o.op rst=some op) {ρ:Rho} {L M:Env} {ds:List Nat} {s s':St} {W:World} {a:Act}
  (hw:Region.wanted o (yielded ops a.tmps)=true) (ha:ActRel ρ nt L ds a) (hs:SRel ρ s W) (h:op cl L s=.ok M s') :
  ∃ ρ₁ L₁ s₁ W₁ a₁,After ρ s W ρ₁ s₁ W₁∧ActRel ρ₁ nt L₁ ds a₁∧rst cl L₁ s₁=.ok M s'∧(∀ t,o.dst≠some t→L₁.find t=L.find t) ∧
   ∀ b k cs,Steps P (lone (Frame.atR b a (.inRegion ops (i::rest)::k)) cs W) (lone (Frame.atR b a₁ (.inRegion ops rest::k)) cs W₁):=by
 unfold zHJ at hk
 split at hk
 ·rename_i f hop
  cases hk
  unfold zC at h
  generalize hx:f L s=x at h
  cases x with
  | fail=>cases h
  | val v s₁ =>
   obtain ⟨ρ₁,W₁,V,hr,af,hv⟩:=JcA hop o rfl ρ L a.tmps s W v s₁ ha.env hs hx
   have hnd:∀ c,o.op≠.defer c:=by
    intro c e;rw [e] at hop;cases hop
   refine ⟨ρ₁,_,s₁,W₁,a.put o.dst V,af,vdA hd (ha.mono af.le) hv,h,fun t=>Zk hd,?_⟩
   intro b k cs
   rcases hr with hr | ⟨hr,rfl⟩
   ·exact .one (yfA ho hw hnd (by rw [gi];exact hr))
   ·exact .one (WX ho hw hnd (by rw [gi];exact hr))
 ·unfold geA at hk
  split at hk
  ·rename_i f args _ hop
   split at hk
   ·rename_i fa l h1 h2
    cases hk
    unfold zo at h
    generalize hx:wh cl (evs l L) s (fa.ev L)=x at h
    cases x with
    | fail=>cases h
    | val v s₁ =>
     have hA:=gJ ha.env h2
     obtain ⟨ρ₁,V,W₁,af,hv,hcase⟩:=Vf (A:=args.map (evT a.tmps)) hc hx hs (zX ha.env h1) (by rw [Array.toList_map];exact hA)
     have hnd:∀ c,o.op≠.defer c:=by intro c e;rw [hop] at e;cases e
     have hrun:execOp a.eval o=(do let d ← Deferred.ofValue (evT a.tmps f) (args.map (evT a.tmps));invoke d.target d.args:Sem Next):=by
      rw [gi];unfold execOp;rw [hop];rfl
     have hfin:∀ b k,(Frame.atR b a (.inRegion ops (i::rest)::k)).finish V=Frame.atR b (a.put o.dst V) (.inRegion ops rest::k):=by
      intro b k;rw [Frame.finish_atR,ho];rfl
     refine ⟨ρ₁,_,s₁,W₁,a.put o.dst V,af,vdA hd (ha.mono af.le) hv,h,fun t=>Zk hd,?_⟩
     intro b k cs
     rw [← hfin]
     rcases hcase with ⟨g,B,hr,st⟩ | ⟨c,g,T,x,y,hr,st⟩
     ·exact .head (yhA ho hw hnd (by rw [hrun];exact hr)) (st _ _)
     ·exact .head (ygA ho hw hnd (by rw [hrun];exact hr)) (st _ _)
   ·cases hk;cases h
  ·cases hk;cases h
theorem JaA {cl:zR} (hc:CallSound P cl) {nt:Nat} {ops:Array Oper}:∀ {suf:List Oper} {i:Nat} {f:zF} {ρ:Rho} {L M:Env} {ds:List Nat} {s s':St} {W:World} {a:Act},
  ops.toList.drop i=suf→yZJ P nt ops suf=some f→ActRel ρ nt L ds a→SRel ρ s W→f cl L s=.ok M s' →
  ∃ ρ' W' a',After ρ s W ρ' s' W'∧ActRel ρ' nt M ds a'∧(∀ t,(∀ o ∈ suf,o.dst≠some t)→M.find t=L.find t) ∧
   ∀ b k cs,Steps P (lone (Frame.atR b a (.inRegion ops (List.range' i suf.length)::k)) cs W) (lone (Frame.atR b a' (.inRegion ops []::k)) cs W')
 | [],i,f,ρ,L,M,ds,s,s',W,a,_,hf,ha,hs,h=>by
  cases hf
  cases h
  exact ⟨ρ,W,a,.refl hs,ha,fun _ _=>rfl,fun b k cs=>.refl _ _⟩
 | o::suf,i,f,ρ,L,M,ds,s,s',W,a,hd,hf,ha,hs,h=>by
  have ho:ops[i]? = some o:=by
   have:(ops.toList.drop i)[0]? = some o:=by rw [hd];rfl
   rw [List.getElem?_drop] at this
   simpa using this
  have hd':ops.toList.drop (i+1)=suf:=by
   rw [← List.drop_drop,hd];rfl
  unfold yZJ at hf
  split at hf
  ·cases hf
  rename_i rst hrst
  split at hf
  ·cases hf
  rename_i d hdst
  split at hf
  ·cases hf
  rename_i op hop
  have go:∀ {ρ₁ L₁ s₁ W₁ a₁},After ρ s W ρ₁ s₁ W₁→ActRel ρ₁ nt L₁ ds a₁→rst cl L₁ s₁=.ok M s'→(∀ t,o.dst≠some t→L₁.find t=L.find t) →
    (∀ b k cs,Steps P (lone (Frame.atR b a (.inRegion ops (i::List.range' (i+1) suf.length)::k)) cs W) (lone (Frame.atR b a₁ (.inRegion ops (List.range' (i+1) suf.length)::k)) cs W₁)) →
    ∃ ρ' W' a',After ρ s W ρ' s' W'∧ActRel ρ' nt M ds a'∧(∀ t,(∀ q ∈ o::suf,q.dst≠some t)→M.find t=L.find t) ∧
     ∀ b k cs,Steps P (lone (Frame.atR b a (.inRegion ops (List.range' i (o::suf).length)::k)) cs W) (lone (Frame.atR b a' (.inRegion ops []::k)) cs W'):=by
   intro ρ₁ L₁ s₁ W₁ a₁ af ha₁ hr hq st
   obtain ⟨ρ',W',a',af',ha',hq',st'⟩:=JaA hc hd' hrst ha₁ af.rel hr
   exact ⟨ρ',W',a',af.trans af',ha',fun t z=>(hq' t fun q hm=>z q (List.mem_cons_of_mem _ hm)).trans (hq t (z o (List.mem_cons_self ..))),fun b k cs=>(st b k cs).trans (st' b k cs)⟩
  unfold VU at hf
  split at hf
  ·rename_i hg
   cases hf
   obtain ⟨ρ₁,L₁,s₁,W₁,a₁,af,ha₁,hr,hq,st⟩:=JfA hc (rest:=List.range' (i+1) suf.length) ho hdst hop (ydA hg) ha hs h
   exact go af ha₁ hr hq st
  ·rename_i j want hg
   split at hf
   ·rename_i t ht
    cases hf
    unfold oIf at h
    rcases waA h with ⟨bb,hb,h⟩ | ⟨hb,h⟩
    case inr =>
     have hwt:Region.wanted o (yielded ops a.tmps)=false:=JBA hg (vrA ha ht hb)
     refine go (.refl hs) (vdA hdst ha (V:=undef) (v:=.undef) ?_) h (fun t=>Zk hdst) ?_
     ·exact .tup .nil
     ·intro b k cs
      have:=stepR_op_skip (P:=P) (b:=b) (a:=a) (k:=k) (cs:=cs) (w:=W) (ops:=ops) (i:=i) (rest:=List.range' (i+1) suf.length) (by rw [ho];exact hwt)
      rw [ho] at this
      exact .one this
    have hy:=yZA ha ht hb
    have hwt:=ycA hg hy
    cases e:(bb == want) with
    | true =>
     rw [e] at h hwt
     obtain ⟨ρ₁,L₁,s₁,W₁,a₁,af,ha₁,hr,hq,st⟩:=JfA hc (rest:=List.range' (i+1) suf.length) ho hdst hop hwt ha hs h
     exact go af ha₁ hr hq st
    | false =>
     rw [e] at h hwt
     refine go (.refl hs) (vdA hdst ha (V:=undef) (v:=.undef) ?_) h (fun t=>Zk hdst) ?_
     ·exact .tup .nil
     ·intro b k cs
      have:=stepR_op_skip (P:=P) (b:=b) (a:=a) (k:=k) (cs:=cs) (w:=W) (ops:=ops) (i:=i) (rest:=List.range' (i+1) suf.length) (by rw [ho];exact hwt)
      rw [ho] at this
      exact .one this
   ·cases hf
end Go.Abs
end
