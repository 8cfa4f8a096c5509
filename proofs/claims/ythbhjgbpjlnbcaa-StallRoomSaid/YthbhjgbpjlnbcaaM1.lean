/- Places that are let, one offer after another: who holds them at last. -/
import Derived.Test.YthbhjgbpjlnbcaaAbsOps
import Derived.Test.YthbhjgbpjlnbcaaAbsWalk
import Derived.Test.YthbhjgbpjlnbcaaWalkAll
set_option linter.unusedSimpArgs false
set_option maxHeartbeats 16000000
set_option maxRecDepth 10000
namespace Go.Proofs.Ythbhjgbpjlnbcaa.walk
structure Mkt where
 n:Nat
 k:Nat
 R:Nat→List Nat
 key:Nat→Nat→Int
structure Mkt.Ok (m:Mkt):Prop where
 nd:∀ a,a<m.n→(m.R a).Nodup
 lt:∀ a,a<m.n→∀ s ∈ m.R a,s<m.k
 ne:∀ s a b,a<m.n→b<m.n→a≠b→m.key s a≠m.key s b
namespace Mkt
variable (m:Mkt)
def pos (a s:Nat):Nat:=(m.R a).idxOf s
def Better (s a:Nat) (h:Int):Prop:=h = -1∨m.key s a<m.key s h.toNat
instance (s a:Nat) (h:Int):Decidable (m.Better s a h):=by unfold Better;infer_instance
variable {m}
theorem pos_lt {a s:Nat} (h:s ∈ m.R a):m.pos a s<(m.R a).length:=List.idxOf_lt_length_of_mem h
theorem pos_inj {a s t:Nat} (hs:s ∈ m.R a) (ht:t ∈ m.R a) (e:m.pos a s=m.pos a t):s=t:=by
 have h1:=List.getElem_idxOf (pos_lt hs)
 have h2:=List.getElem_idxOf (pos_lt ht)
 unfold pos at e
 rw [← h1,← h2]
 congr 1
theorem pos_app {a s t:Nat} {p r:List Nat} (h:m.R a=p++s::r) (hs:s ∉ p) (ht:t ∈ m.R a):t ∈ p↔m.pos a t<m.pos a s:=by
 unfold pos
 rw [h,List.idxOf_append,List.idxOf_append,if_neg hs,List.idxOf_cons_self]
 constructor
 ·intro h;rw [if_pos h];have:=List.idxOf_lt_length_of_mem h;omega
 ·intro h2
  by_cases h3:t ∈ p
  ·exact h3
  ·rw [if_neg h3] at h2;omega
variable (m)
structure Fair (μ:Nat→Int):Prop where
 form:∀ s,μ s = -1∨∃ a:Nat,μ s=a
 hold:∀ s (a:Nat),μ s=a→a<m.n∧s ∈ m.R a
 inj:∀ s t (a:Nat),μ s=a→μ t=a→s=t
 fair:∀ a,a<m.n→∀ s ∈ m.R a,(∃ t,μ t=a∧m.pos a t≤m.pos a s)∨μ s = -1∨¬ m.key s a<m.key s (μ s).toNat
structure Inv (H:Nat→Int) (q:List Nat):Prop where
 form:∀ s,H s = -1∨∃ a:Nat,H s=a
 hold:∀ s (a:Nat),H s=a→a<m.n∧s ∈ m.R a
 inj:∀ s t (a:Nat),H s=a→H t=a→s=t
 qn:∀ a ∈ q,a<m.n∧∀ s,H s≠a
 qd:q.Nodup
 stab:∀ a,a<m.n→a ∉ q→∀ s ∈ m.R a,(∃ t,H t=a∧m.pos a t≤m.pos a s)∨¬ m.Better s a (H s)
 opt:∀ μ,m.Fair μ→∀ s t (a:Nat),H s=a→μ t=a→m.pos a s≤m.pos a t
variable {m}
def upd (H:Nat→Int) (s:Nat) (a:Int):Nat→Int:=fun t=>if t=s then a else H t
theorem upd_at (H:Nat→Int) (s:Nat) (a:Int):upd H s a s=a:=if_pos rfl
theorem upd_ne (H:Nat→Int) {s t:Nat} (a:Int) (h:t≠s):upd H s a t=H t:=if_neg h
theorem Inv.notref {H:Nat→Int} {q:List Nat} (ok:m.Ok) (I:m.Inv H q) {μ:Nat→Int} (F:m.Fair μ) {a t:Nat} (ha:a<m.n) (hμ:μ t=a) (hn:∀ s,H s≠a) (hb:¬ m.Better t a (H t)):False:=by
 rcases I.form t with h0 | ⟨h,hh⟩
 ·exact hb (.inl h0)
 ·have hne:h≠a:=fun e=>hn t (by rw [hh,e])
  obtain ⟨hlt,hmem⟩:=I.hold t h hh
  have hk:m.key t h<m.key t a:=by
   have h1:¬ m.key t a<m.key t h:=fun h2=>hb (.inr (by rw [hh];exact h2))
   have h2:=ok.ne t h a hlt ha hne
   omega
  rcases F.fair h hlt t hmem with ⟨t',h1,h2⟩ | h1 | h1
  ·have h3:=I.opt μ F t t' h hh h1
   have:t'=t:=pos_inj (F.hold t' h h1).2 hmem (by omega)
   subst this
   rw [hμ] at h1
   exact hne (by omega)
  ·rw [hμ] at h1;omega
  ·rw [hμ] at h1;exact h1 hk
theorem Inv.refuse {H:Nat→Int} {q:List Nat} {a:Nat} (I:m.Inv H (a::q)) (hb:∀ s ∈ m.R a,¬ m.Better s a (H s)):m.Inv H q :=
 ⟨I.form,I.hold,I.inj,fun b h=>I.qn b (List.mem_cons_of_mem _ h),(List.nodup_cons.mp I.qd).2,fun b h1 h2 s hs=>by
  by_cases e:b=a
  ·subst e;exact .inr (hb s hs)
  ·exact I.stab b h1 (fun h=>(List.mem_cons.mp h).elim e h2) s hs,I.opt⟩
def behind (q:List Nat) (h:Int):List Nat:=if h = -1 then q else q++[h.toNat]
theorem Inv.take {H:Nat→Int} {q:List Nat} {a s:Nat} {p r:List Nat} (ok:m.Ok) (I:m.Inv H (a::q)) (hR:m.R a=p++s::r) (hp:∀ t ∈ p,¬ m.Better t a (H t)) (hb:m.Better s a (H s)):m.Inv (upd H s a) (behind q (H s)):=by
 obtain ⟨ha,hna⟩:=I.qn a (List.mem_cons_self ..)
 have nd:=ok.nd a ha
 have hsp:s ∉ p:=by
  rw [hR] at nd
  intro h
  have:=(List.nodup_append.mp nd).2.2 s h s (List.mem_cons_self ..)
  exact this rfl
 have hsR:s ∈ m.R a:=by rw [hR];simp
 have haq:a ∉ q:=(List.nodup_cons.mp I.qd).1
 have hqm:∀ {b:Nat},b ∉ behind q (H s)→b ∉ q∧H s≠b:=fun {b} h=>by
  unfold behind at h
  split at h
  ·rename_i e;exact ⟨h,by rw [e];omega⟩
  ·rename_i e
   refine ⟨fun h2=>h (List.mem_append_left _ h2),fun h2=>h (List.mem_append_right _ ?_)⟩
   rw [h2];simp
 refine ⟨fun t=>?_,fun t b h=>?_,fun t t' b h1 h2=>?_,fun b hb'=>?_,?_,fun b hb1 hb2 t ht=>?_,fun μ F t t' b h1 h2=>?_⟩
 ·by_cases e:t=s
  ·subst e;rw [upd_at];exact .inr ⟨a,rfl⟩
  ·rw [upd_ne _ _ e];exact I.form t
 ·by_cases e:t=s
  ·subst e;rw [upd_at] at h
   have:b=a:=by omega
   subst this;exact ⟨ha,hsR⟩
  ·rw [upd_ne _ _ e] at h;exact I.hold t b h
 ·by_cases e1:t=s
  ·by_cases e2:t'=s
   ·rw [e1,e2]
   ·subst e1
    rw [upd_at] at h1;rw [upd_ne _ _ e2] at h2
    exact absurd h2 (by rw [← h1];exact hna t')
  ·by_cases e2:t'=s
   ·subst e2
    rw [upd_at] at h2;rw [upd_ne _ _ e1] at h1
    exact absurd h1 (by rw [← h2];exact hna t)
   ·rw [upd_ne _ _ e1] at h1;rw [upd_ne _ _ e2] at h2
    exact I.inj t t' b h1 h2
 ·unfold behind at hb'
  have old:b ∈ q→b<m.n∧∀ t,upd H s a t≠b:=fun h=>by
   obtain ⟨x1,x2⟩:=I.qn b (List.mem_cons_of_mem _ h)
   refine ⟨x1,fun t=>?_⟩
   by_cases e:t=s
   ·subst e;rw [upd_at];intro h3;exact haq (by rw [show a=b by omega];exact h)
   ·rw [upd_ne _ _ e];exact x2 t
  split at hb'
  ·exact old hb'
  ·rename_i e
   rcases List.mem_append.mp hb' with h | h
   ·exact old h
   ·rw [List.mem_singleton] at h
    subst h
    rcases I.form s with h0 | ⟨c,hc⟩
    ·exact absurd h0 e
    ·have hcb:(H s).toNat=c:=by rw [hc];exact Int.toNat_natCast c
     rw [hcb]
     refine ⟨(I.hold s c hc).1,fun t=>?_⟩
     by_cases e:t=s
     ·subst e;rw [upd_at];intro h3
      exact hna t (by rw [hc];omega)
     ·rw [upd_ne _ _ e];exact fun h3=>e (I.inj t s c h3 hc)
 ·unfold behind
  split
  ·exact (List.nodup_cons.mp I.qd).2
  ·rename_i e
   refine List.nodup_append.mpr ⟨(List.nodup_cons.mp I.qd).2,by simp,fun x hx y hy=>?_⟩
   rw [List.mem_singleton] at hy
   subst hy
   rcases I.form s with h0 | ⟨c,hc⟩
   ·exact absurd h0 e
   ·rw [hc,Int.toNat_natCast]
    intro h3
    subst h3
    exact (I.qn x (List.mem_cons_of_mem _ hx)).2 s hc
 ·by_cases e:b=a
  ·subst e
   by_cases e2:m.pos b t<m.pos b s
   ·have htp:=(pos_app hR hsp ht).mpr e2
    have:t≠s:=fun e3=>hsp (e3▸htp)
    exact .inr (by rw [upd_ne _ _ this];exact hp t htp)
   ·exact .inl ⟨s,upd_at _ _ _,by omega⟩
  ·obtain ⟨c1,c2⟩:=hqm hb2
   rcases I.stab b hb1 (fun h=>(List.mem_cons.mp h).elim e c1) t ht with ⟨t',h1,h2⟩ | h1
   ·have:t'≠s:=fun e3=>c2 (by rw [← e3];exact h1)
    exact .inl ⟨t',by rw [upd_ne _ _ this];exact h1,h2⟩
   ·by_cases e2:t=s
    ·subst e2
     rw [upd_at]
     refine .inr fun h2=>?_
     rcases h2 with h2 | h2
     ·omega
     ·rw [Int.toNat_natCast] at h2
      rcases hb with h3 | h3
      ·exact h1 (.inl h3)
      ·exact h1 (.inr (by omega))
    ·exact .inr (by rw [upd_ne _ _ e2];exact h1)
 ·by_cases e:t=s
  ·subst e
   rw [upd_at] at h1
   have:b=a:=by omega
   subst this
   rcases Nat.lt_or_ge (m.pos b t') (m.pos b t) with h3 | h3
   ·exact (I.notref ok F ha h2 hna (hp t' ((pos_app hR hsp (F.hold t' b h2).2).mpr h3))).elim
   ·exact h3
  ·rw [upd_ne _ _ e] at h1
   exact I.opt μ F t t' b h1 h2
theorem Inv.start (ok:m.Ok):m.Inv (fun _ => -1) (List.range m.n) :=
 ⟨fun _=>.inl rfl,fun s a h=>by omega,fun s t a h=>by omega,fun a h=>⟨List.mem_range.mp h,fun s=>by omega⟩,List.nodup_range,fun a h1 h2=>absurd (List.mem_range.mpr h1) h2,fun μ _ s t a h=>by omega⟩
theorem Inv.best {H:Nat→Int} (ok:m.Ok) (I:m.Inv H []) {μ:Nat→Int} (F:m.Fair μ) {a t:Nat} (hμ:μ t=a):∃ s,H s=a∧m.pos a s≤m.pos a t:=by
 obtain ⟨ha,ht⟩:=F.hold t a hμ
 rcases I.stab a ha (by simp) t ht with h | h
 ·exact h
 ·by_cases e:∃ s,H s=a
  ·obtain ⟨s,hs⟩:=e
   exact ⟨s,hs,I.opt μ F s t a hs hμ⟩
  ·exact (I.notref ok F ha hμ (fun s hs=>e ⟨s,hs⟩) h).elim
theorem Inv.fair {H:Nat→Int} (I:m.Inv H []):m.Fair H:=⟨I.form,I.hold,I.inj,fun a ha s hs=>(I.stab a ha (by simp) s hs).imp id fun h=>.inr fun h2=>h (.inr h2)⟩
/-! ### How long it can go on -/
def sumTo (f:Nat→Nat):Nat→Nat
 | 0=>0
 | k+1=>sumTo f k+f k
theorem sumTo_same {f g:Nat→Nat}:∀ {k:Nat},(∀ t,t<k→f t=g t)→sumTo f k=sumTo g k
 | 0,_=>rfl
 | k+1,h=>by
  show sumTo f k+f k=sumTo g k+g k
  rw [sumTo_same fun t ht=>h t (by omega),h k (by omega)]
theorem sumTo_lt {f g:Nat→Nat} {s:Nat} (hs:f s<g s):∀ {k:Nat},s<k→(∀ t,t≠s→f t=g t)→sumTo f k<sumTo g k
 | 0,h,_=>by omega
 | k+1,h,he=>by
  show sumTo f k+f k<sumTo g k+g k
  by_cases e:s=k
  ·subst e
   rw [sumTo_same (f:=f) (g:=g) fun t ht=>he t (by omega)]
   omega
  ·have:=sumTo_lt hs (k:=k) (by omega) he
   rw [he k (by omega)]
   omega
theorem sumTo_le {f:Nat→Nat} {c:Nat} (h:∀ s,f s≤c):∀ k:Nat,sumTo f k≤k * c
 | 0=>by simp [sumTo]
 | k+1=>by
  show sumTo f k+f k≤(k+1) * c
  have h1:=sumTo_le h k
  have h2:=h k
  rw [Nat.succ_mul]
  omega
variable (m)
def wt (s:Nat) (h:Int):Nat:=if h = -1 then m.n else ((List.range m.n).filter (fun b=>m.key s b<m.key s h.toNat)).length
def meas (H:Nat→Int) (q:List Nat):Nat:=sumTo (fun s=>m.wt s (H s)) m.k+q.length
variable {m}
theorem wt_le (s:Nat) (h:Int):m.wt s h≤m.n:=by
 unfold wt
 split
 ·exact Nat.le_refl _
 ·have:=List.length_filter_le (fun b=>decide (m.key s b<m.key s h.toNat)) (List.range m.n)
  rwa [List.length_range] at this
theorem filter_less {p q:Nat→Bool} (hpq:∀ x,p x=true→q x=true):∀ {l:List Nat} {a:Nat},a ∈ l→q a=true→p a=false→(l.filter p).length<(l.filter q).length
 | x::l,a,ha,hq,hp=>by
  have le:∀ l:List Nat,(l.filter p).length≤(l.filter q).length:=fun l=>by
   induction l with
   | nil=>simp
   | cons y l ih =>
    cases h:p y with
    | true=>rw [List.filter_cons_of_pos h,List.filter_cons_of_pos (hpq y h)];simpa using ih
    | false =>
     rw [List.filter_cons_of_neg (by simp [h])]
     cases h2:q y with
     | true=>rw [List.filter_cons_of_pos h2];simp;omega
     | false=>rw [List.filter_cons_of_neg (by simp [h2])];exact ih
  rcases List.mem_cons.mp ha with rfl | ha
  ·rw [List.filter_cons_of_neg (by simp [hp]),List.filter_cons_of_pos hq]
   have:=le l
   simp;omega
  ·have ih:=filter_less hpq ha hq hp
   cases h:p x with
   | true=>rw [List.filter_cons_of_pos h,List.filter_cons_of_pos (hpq x h)];simpa using ih
   | false =>
    rw [List.filter_cons_of_neg (by simp [h])]
    cases h2:q x with
    | true=>rw [List.filter_cons_of_pos h2];simp;omega
    | false=>rw [List.filter_cons_of_neg (by simp [h2])];exact ih
theorem wt_less {s a:Nat} {h:Int} (ha:a<m.n) (hb:m.Better s a h):m.wt s a<m.wt s h:=by
 unfold wt
 rw [if_neg (show ¬ ((a:Int) = -1) by omega),Int.toNat_natCast]
 by_cases e:h = -1
 ·rw [if_pos e]
  have:=filter_less (p:=fun b=>decide (m.key s b<m.key s a)) (q:=fun _=>true) (fun _ _=>rfl) (List.mem_range.mpr ha) rfl (by simp)
  rw [List.filter_eq_self.mpr (fun _ _=>rfl),List.length_range] at this
  exact this
 ·rw [if_neg e]
  have hk:m.key s a<m.key s h.toNat:=hb.resolve_left e
  exact filter_less (fun x hx=>by have:=of_decide_eq_true hx;exact decide_eq_true (by omega)) (List.mem_range.mpr ha) (decide_eq_true hk) (by simp)
theorem meas_refuse (H:Nat→Int) (a:Nat) (q:List Nat):m.meas H q+1=m.meas H (a::q):=by unfold meas;rw [List.length_cons];omega
theorem meas_take {H:Nat→Int} {q:List Nat} {a s:Nat} (ha:a<m.n) (hs:s<m.k) (hb:m.Better s a (H s)):m.meas (upd H s a) (behind q (H s))+1≤m.meas H (a::q):=by
 have h1:sumTo (fun t=>m.wt t (upd H s a t)) m.k<sumTo (fun t=>m.wt t (H t)) m.k:=sumTo_lt (s:=s) (by show m.wt s (upd H s a s)<m.wt s (H s);rw [upd_at];exact wt_less ha hb) hs (fun t ht=>by show m.wt t (upd H s a t)=m.wt t (H t);rw [upd_ne _ _ ht])
 have h2:(behind q (H s)).length≤q.length+1:=by
  unfold behind;split
  ·omega
  ·rw [List.length_append,List.length_singleton];omega
 unfold meas
 rw [List.length_cons]
 omega
theorem meas_start:m.meas (fun _ => -1) (List.range m.n)≤m.k * m.n+m.n:=by
 have:=sumTo_le (f:=fun s=>m.wt s (-1)) (c:=m.n) (fun s=>wt_le s (-1)) m.k
 show sumTo (fun s=>m.wt s (-1)) m.k+(List.range m.n).length≤_
 rw [List.length_range]
 omega
theorem first_of (P:Nat→Prop) [DecidablePred P]:∀ l:List Nat,(∀ x ∈ l,¬ P x)∨∃ p s r,l=p++s::r∧P s∧∀ t ∈ p,¬ P t
 | []=>.inl fun x h=>by cases h
 | x::l=>by
  by_cases e:P x
  ·exact .inr ⟨[],x,l,rfl,e,fun t h=>by cases h⟩
  ·rcases first_of P l with h | ⟨p,s,r,h1,h2,h3⟩
   ·exact .inl fun y hy=>(List.mem_cons.mp hy).elim (fun h2=>h2▸e) (h y)
   ·exact .inr ⟨x::p,s,r,by rw [h1];rfl,h2,fun t ht=>(List.mem_cons.mp ht).elim (fun h2=>h2▸e) (h3 t)⟩
theorem ends (ok:m.Ok):∀ (c:Nat) (H:Nat→Int) (q:List Nat),m.Inv H q→m.meas H q≤c→∃ H',m.Inv H' []
 | c,H,[],I,_=>⟨H,I⟩
 | 0,H,a::q,_,h=>by unfold meas at h;rw [List.length_cons] at h;omega
 | c+1,H,a::q,I,h=>by
  have ha:=(I.qn a (List.mem_cons_self ..)).1
  rcases first_of (fun s=>m.Better s a (H s)) (m.R a) with h1 | ⟨p,s,r,h1,h2,h3⟩
  ·exact ends ok c H q (I.refuse h1) (by have:=meas_refuse (m:=m) H a q;omega)
  ·exact ends ok c _ _ (I.take ok h1 h3 h2) (by have:=meas_take (q:=q) ha (ok.lt a ha s (by rw [h1];simp)) h2;omega)
end Mkt
end Go.Proofs.Ythbhjgbpjlnbcaa.walk
set_option maxRecDepth 10000
namespace Go.Proofs.Ythbhjgbpjlnbcaa.walk
theorem len_sub:∀ {l k:List Nat},l.Nodup→(∀ x ∈ l,x ∈ k)→l.length≤k.length
 | [],_,_,_=>Nat.zero_le _
 | x::l,k,hd,h=>by
  obtain ⟨h1,h2⟩:=List.nodup_cons.mp hd
  have hx:=h x (List.mem_cons_self ..)
  have:=len_sub (l:=l) (k:=k.erase x) h2 fun y hy=>(List.mem_erase_of_ne (fun e=>h1 (by rw [← e];exact hy))).mpr (h y (List.mem_cons_of_mem _ hy))
  rw [List.length_erase_of_mem hx] at this
  have hp:=List.length_pos_of_mem hx
  rw [List.length_cons]
  omega
namespace Mkt
variable (m:Mkt)
structure Stable (μ:Nat→Int):Prop where
 form:∀ s,μ s = -1∨∃ a:Nat,μ s=a
 hold:∀ s (a:Nat),μ s=a→a<m.n∧s ∈ m.R a
 inj:∀ s t (a:Nat),μ s=a→μ t=a→s=t
 stab:∀ a,a<m.n→∀ s ∈ m.R a,(∃ t,μ t=a∧m.pos a t≤m.pos a s)∨¬ m.Better s a (μ s)
variable {m}
theorem Inv.stable {H:Nat→Int} (I:m.Inv H []):m.Stable H:=⟨I.form,I.hold,I.inj,fun a ha=>I.stab a ha (by simp)⟩
def withR (m:Mkt) (w:Nat) (R':List Nat):Mkt:=⟨m.n,m.k,fun a=>if a=w then R' else m.R a,m.key⟩
theorem withR_at (w:Nat) (R':List Nat):(m.withR w R').R w=R':=if_pos rfl
theorem withR_ne {w a:Nat} (R':List Nat) (h:a≠w):(m.withR w R').R a=m.R a:=if_neg h
theorem withR_ok (ok:m.Ok) {w:Nat} {R':List Nat} (hw:w<m.n) (hd:R'.Nodup) (hs:∀ s ∈ R',s ∈ m.R w):(m.withR w R').Ok:=by
 refine ⟨fun a ha=>?_,fun a ha s h=>?_,ok.ne⟩
 ·by_cases e:a=w
  ·subst e;rw [withR_at];exact hd
  ·rw [withR_ne _ e];exact ok.nd a ha
 ·by_cases e:a=w
  ·subst e;rw [withR_at] at h;exact ok.lt a ha s (hs s h)
  ·rw [withR_ne _ e] at h;exact ok.lt a ha s h
theorem pos_eq {m':Mkt} {a:Nat} (h:m'.R a=m.R a) (s:Nat):m'.pos a s=m.pos a s:=by unfold pos;rw [h]
end Mkt
end Go.Proofs.Ythbhjgbpjlnbcaa.walk
namespace Go.Abs
variable {P:Program}
def At (L:Env):List (Nat × AV)→Prop
 | []=>True
 | (t,v)::r=>L.find t=v∧At L r
theorem loop_inv {body:K} {cl:CallF} {cx:Ctx} (I:Nat→Env→St→Prop) (Q:Ex→Env→St→Prop) (k:Nat)
  (step:∀ i L s,i≤k→I i L s→(i<k∧∃ L1 s1,body cl cx L [] s=.done .norm L1 [] s1∧I (i+1) L1 s1)∨(∃ e L1 s1,e≠.norm∧body cl cx L [] s=.done e L1 [] s1∧Q e L1 s1)) :
  ∀ (m i fuel:Nat) (L:Env) (s:St),i+m=k→m<fuel→I i L s→∃ e L1 s1,loopN body fuel cl cx L [] s=.done e L1 [] s1∧Q e L1 s1
 | m,i,0,_,_,_,hf,_=>by omega
 | m,i,fuel+1,L,s,hm,hf,hI=>by
  rcases step i L s (by omega) hI with ⟨hi,L1,s1,h1,h2⟩ | ⟨e,L1,s1,he,h1,h2⟩
  ·obtain ⟨m',rfl⟩:∃ m',m=m'+1:=⟨m - 1,by omega⟩
   obtain ⟨e,L2,s2,h3,h4⟩:=loop_inv I Q k step m' (i+1) fuel L1 s1 (by omega) (by omega) h2
   exact ⟨e,L2,s2,by rw [loopN_succ,h1,thenK_norm,h3],h4⟩
  ·refine ⟨e,L1,s1,?_,h2⟩
   rw [loopN_succ,h1]
   cases e with
   | norm=>exact absurd rfl he
   | exit id=>rfl
   | ret=>rfl
theorem loop_of {body:K} {cl:CallF} {cx:Ctx} {L:Env} {s:St} {r:R} (hr:loopN body rounds cl cx L [] s=r) (I:Nat→Env→St→Prop) (Q:Ex→Env→St→Prop) (k:Nat) (hk:k<rounds) (h0:I 0 L s)
  (step:∀ i L s,i≤k→I i L s→(i<k∧∃ L1 s1,body cl cx L [] s=.done .norm L1 [] s1∧I (i+1) L1 s1)∨(∃ e L1 s1,e≠.norm∧body cl cx L [] s=.done e L1 [] s1∧Q e L1 s1)) :
  ∃ e L1 s1,r=.done e L1 [] s1∧Q e L1 s1:=by
 obtain ⟨e,L1,s1,h1,h2⟩:=loop_inv I Q k step k 0 rounds L s (by omega) hk h0
 exact ⟨e,L1,s1,hr.symm.trans h1,h2⟩
theorem minN_min (a b:Nat):minN a b=min a b:=by
 unfold minN
 cases h:Nat.ble a b
 ·have:¬ a≤b:=fun h'=>by rw [Nat.ble_eq_true_of_le h'] at h;cases h
  show b=_;omega
 ·have:=Nat.le_of_ble_eq_true h
  show a=_;omega
structure Stir (d:Nat) (u s:St) (k:Nat):Prop where
 same:∀ b,b<u.n→b≠d→s.h.get b=u.h.get b
 n:u.n≤s.n
 le:s.n≤u.n+k
 m:d≤u.m→d≤s.m
 mle:s.m≤u.m
theorem Stir.refl (d:Nat) (u:St):Stir d u u 0:=⟨fun _ _ _=>rfl,Nat.le_refl _,Nat.le_refl _,fun h=>h,Nat.le_refl _⟩
theorem Stir.new {d:Nat} {u s:St} {k:Nat} (h:Stir d u s k) (o:AObj):Stir d u (s.new o) (k+1) :=
 ⟨fun b hb hd=>by rw [get_new_ne _ _ _ (by have:=h.n;omega)];exact h.same b hb hd,Nat.le_trans h.n (Nat.le_succ _),by have:=h.le;show s.n+1≤_;omega,h.m,h.mle⟩
theorem Stir.put {d:Nat} {u s:St} {k b:Nat} (h:Stir d u s k) (hd:d<u.n) (o:AObj) (hb:b=d∨u.n≤b):Stir d u (s.put b o) k :=
 ⟨fun c hc hcd=>by rw [get_put_ne' _ _ _ _ (by omega)];exact h.same c hc hcd,h.n,h.le,fun hm=>by
  show d≤minN s.m b
  rw [minN_min]
  have:=h.m hm
  omega,Nat.le_trans (minN_le_left _ _) h.mle⟩
theorem Stir.trans {d:Nat} {u s t:St} {j k:Nat} (a:Stir d u s j) (b:Stir d s t k):Stir d u t (j+k) :=
 ⟨fun c hc hd=>(b.same c (by have:=a.n;omega) hd).trans (a.same c hc hd),Nat.le_trans a.n b.n,by have:=a.le;have:=b.le;omega,fun h=>b.m (a.m h),Nat.le_trans b.mle a.mle⟩
theorem Stir.mono {d:Nat} {u s:St} {j k:Nat} (a:Stir d u s j) (h:j≤k):Stir d u s k:=⟨a.same,a.n,by have:=a.le;omega,a.m,a.mle⟩
theorem Stir.draw {d:Nat} {s t:St} {k:Nat} (a:Stir d ⟨s.h,s.n,far⟩ t k) (hd:d≤far):Stir d s ⟨t.h,t.n,minN s.m t.m⟩ k :=
 ⟨a.same,a.n,a.le,fun h=>by
  show d≤minN s.m t.m
  rw [minN_min]
  have:d≤t.m:=a.m hd
  omega,minN_le_left _ _⟩
structure New (s t:St) (k:Nat):Prop where
 same:∀ b,b<s.n→t.h.get b=s.h.get b
 n:s.n≤t.n
 le:t.n≤s.n+k
 m:t.m=s.m
theorem New.refl (s:St):New s s 0:=⟨fun _ _=>rfl,Nat.le_refl _,Nat.le_refl _,rfl⟩
theorem New.draw {s t:St} {k:Nat} (a:New ⟨s.h,s.n,far⟩ t k) (h:s.m≤far):New s ⟨t.h,t.n,minN s.m t.m⟩ k :=
 ⟨a.same,a.n,a.le,by
  show minN s.m t.m=s.m
  have:t.m=far:=a.m
  rw [minN_min];omega⟩
theorem Stir.after {d:Nat} {u s t:St} {j k:Nat} (a:Stir d u s j) (b:New s t k):Stir d u t (j+k) :=
 ⟨fun c hc hd=>(b.same c (by have:=a.n;omega)).trans (a.same c hc hd),Nat.le_trans a.n b.n,by have:=a.le;have:=b.le;omega,fun h=>by rw [b.m];exact a.m h,by rw [b.m];exact a.mle⟩
theorem Beside.after {u s t:St} {j k:Nat} (a:Beside u s j) (b:New s t k):Beside u t (j+k) :=
 ⟨fun c hc=>(b.same c (by have:=a.n;omega)).trans (a.same c hc),Nat.le_trans a.n b.n,by have:=a.le;have:=b.le;omega,by rw [b.m];exact a.m,by rw [b.m];exact a.far⟩
theorem call_stir_plain {X:FuncId→List Nat} {n:Nat} {f:FuncId} {args:List AV} {s:St} {fn:Func} {d k:Nat} {Q:AV→Prop} {R:Heap→Prop} (hf:P.funcs[f]? = some fn) (h0:R s.h)
  (h:∀ u:St,u.h=s.h→u.n=s.n→u.m=far→∃ v s',enterA P X (call P X n) f args u fn=.val v s'∧Stir d u s' k∧plain v=true∧Q v∧R s'.h) (hd:d≤far) :
  ∃ v t,call P X (n+1) (.fn f) args s=.val v t∧Stir d s t k∧Q v∧R t.h:=by
 obtain ⟨v,s',h1,h2,h3,h4,h5⟩:=h ⟨s.h,s.n,far⟩ rfl rfl rfl
 cases hb:Nat.ble s.n s'.m with
 | true =>
  refine ⟨v,s,?_,(Stir.refl d s).mono (Nat.zero_le _),h4,h0⟩
  show callStep P X (call P X n) (.fn f) args s=_
  unfold callStep
  simp only [hf,h1]
  unfold Abs.settle
  simp only [hb,h3]
  rfl
 | false =>
  refine ⟨v,⟨s'.h,s'.n,minN s.m s'.m⟩,?_,Stir.draw (s:=s) h2 hd,h4,h5⟩
  show callStep P X (call P X n) (.fn f) args s=_
  unfold callStep
  simp only [hf,h1]
  unfold Abs.settle
  simp only [hb]
  rfl
theorem call_stir {X:FuncId→List Nat} {n:Nat} {f:FuncId} {args:List AV} {s:St} {fn:Func} {d k:Nat} {Q:AV→Heap→Nat→Prop} (hf:P.funcs[f]? = some fn) (hk:keepAll=true)
  (h:∀ u:St,u.h=s.h→u.n=s.n→u.m=far→∃ v s',enterA P X (call P X n) f args u fn=.val v s'∧Stir d u s' k∧plain v=false∧Q v s'.h s'.n) (hd:d≤far) :
  ∃ v t,call P X (n+1) (.fn f) args s=.val v t∧Stir d s t k∧Q v t.h t.n:=by
 obtain ⟨v,s',h1,h2,h3,h4⟩:=h ⟨s.h,s.n,far⟩ rfl rfl rfl
 cases hb:Nat.ble s.n s'.m with
 | true =>
  refine ⟨v,⟨s'.h,s'.n,s.m⟩,?_,⟨h2.same,h2.n,h2.le,fun h=>h,Nat.le_refl _⟩,h4⟩
  show callStep P X (call P X n) (.fn f) args s=_
  unfold callStep
  simp only [hf,h1]
  unfold Abs.settle
  simp only [hb,h3,hk]
  rfl
 | false =>
  refine ⟨v,⟨s'.h,s'.n,minN s.m s'.m⟩,?_,Stir.draw (s:=s) h2 hd,h4⟩
  show callStep P X (call P X n) (.fn f) args s=_
  unfold callStep
  simp only [hf,h1]
  unfold Abs.settle
  simp only [hb]
  rfl
theorem call_new {X:FuncId→List Nat} {n:Nat} {f:FuncId} {args:List AV} {s:St} {fn:Func} {k:Nat} {Q:AV→Heap→Nat→Prop} (hf:P.funcs[f]? = some fn) (hk:keepAll=true)
  (h:∀ u:St,u.h=s.h→u.n=s.n→u.m=far→∃ v s',enterA P X (call P X n) f args u fn=.val v s'∧Beside u s' k∧plain v=false∧Q v s'.h s'.n) :
  ∃ v t,call P X (n+1) (.fn f) args s=.val v t∧New s t k∧Q v t.h t.n:=by
 obtain ⟨v,s',h1,h2,h3,h4⟩:=h ⟨s.h,s.n,far⟩ rfl rfl rfl
 have hb:Nat.ble s.n s'.m=true:=Nat.ble_eq_true_of_le h2.m
 refine ⟨v,⟨s'.h,s'.n,s.m⟩,?_,⟨h2.same,h2.n,h2.le,rfl⟩,h4⟩
 show callStep P X (call P X n) (.fn f) args s=_
 unfold callStep
 simp only [hf,h1]
 unfold Abs.settle
 simp only [hb,h3,hk]
 rfl
theorem call_new' {X:FuncId→List Nat} {n:Nat} {f:FuncId} {args:List AV} {s:St} {fn:Func} {k:Nat} {Q:AV→Heap→Nat→Prop} (hf:P.funcs[f]? = some fn) (hk:keepAll=true)
  (h:∀ u:St,u.h=s.h→u.n=s.n→u.m=far→∃ v s',enterA P X (call P X n) f args u fn=.val v s'∧Beside u s' k∧Q v s'.h s'.n∧(plain v=true→Q v s.h s.n)) :
  ∃ v t,call P X (n+1) (.fn f) args s=.val v t∧New s t k∧Q v t.h t.n:=by
 obtain ⟨v,s',h1,h2,h3,h4⟩:=h ⟨s.h,s.n,far⟩ rfl rfl rfl
 have hb:Nat.ble s.n s'.m=true:=Nat.ble_eq_true_of_le h2.m
 cases hp:plain v with
 | true =>
  refine ⟨v,s,?_,⟨fun _ _=>rfl,Nat.le_refl _,Nat.le_add_right _ _,rfl⟩,h4 hp⟩
  show callStep P X (call P X n) (.fn f) args s=_
  unfold callStep
  simp only [hf,h1]
  unfold Abs.settle
  simp only [hb,hp]
  rfl
 | false =>
  refine ⟨v,⟨s'.h,s'.n,s.m⟩,?_,⟨h2.same,h2.n,h2.le,rfl⟩,h3⟩
  show callStep P X (call P X n) (.fn f) args s=_
  unfold callStep
  simp only [hf,h1]
  unfold Abs.settle
  simp only [hb,hp,hk]
  rfl
theorem call_any {X:FuncId→List Nat} {n:Nat} {f:FuncId} {args:List AV} {s:St} {fn:Func} {Q:AV→Heap→Nat→Nat→Prop} (hf:P.funcs[f]? = some fn) (hk:keepAll=true)
  (h:∀ u:St,u.h=s.h→u.n=s.n→u.m=far→∃ v s',enterA P X (call P X n) f args u fn=.val v s'∧Q v s'.h s'.n s'.m∧(plain v=true→s.n≤s'.m→Q v s.h s.n s'.m)) :
  ∃ v t m,call P X (n+1) (.fn f) args s=.val v t∧Q v t.h t.n m∧((s.n≤m∧t.m=s.m)∨(m<s.n∧t.m=min s.m m)):=by
 obtain ⟨v,s',h1,h2,h3⟩:=h ⟨s.h,s.n,far⟩ rfl rfl rfl
 cases hb:Nat.ble s.n s'.m with
 | true =>
  have hle:=Nat.le_of_ble_eq_true hb
  cases hp:plain v with
  | true =>
   refine ⟨v,s,s'.m,?_,h3 hp hle,.inl ⟨hle,rfl⟩⟩
   show callStep P X (call P X n) (.fn f) args s=_
   unfold callStep
   simp only [hf,h1]
   unfold Abs.settle
   simp only [hb,hp]
   rfl
  | false =>
   refine ⟨v,⟨s'.h,s'.n,s.m⟩,s'.m,?_,h2,.inl ⟨hle,rfl⟩⟩
   show callStep P X (call P X n) (.fn f) args s=_
   unfold callStep
   simp only [hf,h1]
   unfold Abs.settle
   simp only [hb,hp,hk]
   rfl
 | false =>
  have hlt:s'.m<s.n:=by
   rcases Nat.lt_or_ge s'.m s.n with h | h
   ·exact h
   ·rw [Nat.ble_eq_true_of_le h] at hb;cases hb
  refine ⟨v,⟨s'.h,s'.n,minN s.m s'.m⟩,s'.m,?_,h2,.inr ⟨hlt,minN_min _ _⟩⟩
  show callStep P X (call P X n) (.fn f) args s=_
  unfold callStep
  simp only [hf,h1]
  unfold Abs.settle
  simp only [hb]
  rfl
theorem call_some {X:FuncId→List Nat} {n:Nat} {f:FuncId} {args:List AV} {s:St} {fn:Func} {k:Nat} {Q:AV→Prop} (hf:P.funcs[f]? = some fn)
  (h:∀ u:St,u.h=s.h→u.n=s.n→u.m=far→∃ v s',enterA P X (call P X n) f args u fn=.val v s'∧Beside u s' k∧plain v=true∧Q v) :
  ∃ v,call P X (n+1) (.fn f) args s=.val v s∧Q v:=by
 obtain ⟨v,s',h1,h2,h3,h4⟩:=h ⟨s.h,s.n,far⟩ rfl rfl rfl
 exact ⟨v,call_plain hf h1 h3 h2.m,h4⟩
/-! ### Ends of what may be -/
theorem kFold_def (f:AV→AV→AV) (x:Arg) (r:List Arg) (L:Env) (s:St):kFold f x r L s=okA (.val (foldA f (x.ev L) (evs r L)) s):=Eq.trans (Eq.refl _) (Eq.refl _)
theorem foldA_nil (f:AV→AV→AV) (x:AV):foldA f x []=x:=Eq.trans (Eq.refl _) (Eq.refl _)
theorem foldA_cons (f:AV→AV→AV) (x y:AV) (r:List AV):foldA f x (y::r)=foldA f (f x y) r:=Eq.trans (Eq.refl _) (Eq.refl _)
theorem minN_eq (a b:Nat):minN a b=min a b:=minN_min a b
theorem maxA_i64 (x y:Int):maxA (.int .i64 x) (.int .i64 y)=.int .i64 (max x y):=by
 show AV.int .i64 (match leI y x with | true=>x | false=>y)=_
 rw [leI_eq]
 by_cases h:y≤x
 ·rw [decide_eq_true h,Int.max_eq_left h]
 ·rw [decide_eq_false h,Int.max_eq_right (by omega)]
/-! ### Numbers -/
theorem kShr_def (x y:Arg) (L:Env) (s:St):kShr x y L s=shrA s (x.ev L) (y.ev L):=Eq.trans (Eq.refl _) (Eq.refl _)
def shrI (a b:Int):Int:=a.fdiv (2 ^ (min b.toNat 64))
theorem shrA_u64 (s:St) (a:Int) (k:IntKind) (b:Int) (hb:0≤b):shrA s (.int .u64 a) (.int k b)=.val (.int .u64 (shrI a b)) s:=by
 cases b with
 | ofNat b=>rfl
 | negSucc b=>omega
theorem shrI_nonneg (a b:Int) (h:0≤a):0≤shrI a b:=Int.fdiv_nonneg h (Int.pow_nonneg (by decide))
theorem cviA_int (k k':IntKind) (s:St) (n:Int):cviA k s (.int k' n)=.val (.int k (wrapA k n)) s:=Eq.trans (Eq.refl _) (Eq.refl _)
theorem wrap_u64 (n:Int) (h:0≤n∧n≤18446744073709551615):wrapA .u64 n=n:=by rw [wrapA_eq];exact IntWalk.u64_in n h
theorem wrap_u64_range (n:Int):0≤IntKind.u64.wrap n∧IntKind.u64.wrap n≤18446744073709551615:=by
 simp [IntKind.wrap,IntKind.bits,IntKind.signed];omega
theorem aMul_def (s:St) (k:IntKind) (a b:Int):aMul s k a b=.val (.int k (wrapA k (Int.mul a b))) s:=Eq.trans (Eq.refl _) (Eq.refl _)
theorem aAdd_def (s:St) (k:IntKind) (a b:Int):aAdd s k a b=.val (.int k (wrapA k (Int.add a b))) s:=Eq.trans (Eq.refl _) (Eq.refl _)
def xorI (k:IntKind) (a b:Int):Int:=k.wrap (BitVec.ofInt k.bits a ^^^ BitVec.ofInt k.bits b).toNat
theorem xorI_range (a b:Int):0≤xorI .u64 a b∧xorI .u64 a b≤18446744073709551615:=wrap_u64_range _
theorem aXor_def (s:St) (k:IntKind) (a b:Int):aXor s k a b=.val (.int k (xorI k a b)) s:=Eq.trans (Eq.refl _) (Eq.refl _)
theorem aRem_ne (s:St) (k:IntKind) (a b:Int) (h:b≠0):aRem s k a b=.val (.int k (a.tmod b)) s:=by unfold aRem;rw [if_neg h]
end Go.Abs
namespace Go.Abs
variable {P:Program}
structure Rows (h:Heap) (lo n w tg:Nat) (rows:List (List AV)) (v:AV):Prop where
 wide:∀ r ∈ rows,r.length=w
 is:(rows=[]∧v=.nilslice)∨(∃ b,lo≤b∧b<n∧v=.slice b 0 rows.length rows.length true∧h.get b=some (.cells rows.flatten (w+tg)))
theorem Rows.nil (h:Heap) (lo n w tg:Nat):Rows h lo n w tg [] .nilslice:=⟨fun r hr=>by (cases hr),.inl ⟨rfl,rfl⟩⟩
theorem Rows.mono {h h':Heap} {lo n n' w tg:Nat} {rows:List (List AV)} {v:AV} (r:Rows h lo n w tg rows v) (hh:∀ b,lo≤b→b<n→h'.get b=h.get b) (hn:n≤n'):Rows h' lo n' w tg rows v :=
 ⟨r.wide,r.is.imp id fun ⟨b,h0,h1,h2,h3⟩=>⟨b,h0,by omega,h2,by rw [hh b h0 h1];exact h3⟩⟩
theorem flatten_cut:∀ {rows:List (List AV)} {w i:Nat},(∀ r ∈ rows,r.length=w)→(hi:i<rows.length)→cut (i * w) w rows.flatten=some rows[i]
 | [],w,i,_,hi=>by simp at hi
 | r::rs,w,i,hw,hi=>by
  have hr:r.length=w:=hw r (List.mem_cons_self ..)
  have cut1_app:∀ (r l:List AV),cut1 r.length (r++l)=some r:=by
   intro r l
   induction r with
   | nil=>exact cut1_zero l
   | cons a r ih=>rw [List.length_cons,List.cons_append,cut1_cons,ih];rfl
  have cut_0:∀ (k:Nat) (l:List AV),cut 0 k l=cut1 k l:=by
   intro k l
   cases l with
   | nil=>rfl
   | cons a l=>rfl
  cases i with
  | zero =>
   rw [Nat.zero_mul,List.flatten_cons,cut_0,← hr,cut1_app]
   rfl
  | succ i =>
   have ih:=flatten_cut (rows:=rs) (w:=w) (i:=i) (fun x hx=>hw x (List.mem_cons_of_mem _ hx)) (by simpa using hi)
   have drop:∀ (r l:List AV) (o k:Nat),cut (o+r.length) k (r++l)=cut o k l:=by
    intro r l o k
    induction r with
    | nil=>rfl
    | cons a r ih=>rw [List.length_cons,List.cons_append,← Nat.add_assoc,cut_cons,if_neg (by omega)];exact ih
   rw [List.flatten_cons,show (i+1) * w=i * w+r.length by rw [Nat.succ_mul,hr],drop,ih]
   rfl
theorem Rows.at_ {h:Heap} {lo n w tg:Nat} {rows:List (List AV)} {v:AV} (r:Rows h lo n w tg rows v):RowsAt h n w rows v:=by
 refine ⟨fun s=>?_,fun i hi=>?_⟩
 ·rcases r.is with ⟨h1,h2⟩ | ⟨b,_,_,h2,_⟩
  ·subst h1;subst h2;rfl
  ·subst h2;rfl
 ·rcases r.is with ⟨h1,_⟩ | ⟨b,_,hb,h2,h3⟩
  ·subst h1;simp at hi
  ·subst h2
   exact ⟨b,i * w,rows.flatten,w+tg,hb,fun s=>by rw [ixs_slice _ _ _ _ _ _ _ _ hi,Nat.zero_add],h3,flatten_cut r.wide hi⟩
theorem Rows.len {h:Heap} {lo n w tg:Nat} {rows:List (List AV)} {v:AV} (r:Rows h lo n w tg rows v) (s:St):lenSlA s v=.val (.int .i64 rows.length) s:=r.at_.len s
theorem Rows.scalar {h:Heap} {lo n w tg:Nat} {rows:List (List AV)} {v:AV} (r:Rows h lo n w tg rows v):(∀ t,okA (.val v t)=.val v t)∧cellsOf 1 v=some [v]∧(∀ l,scalars (v::l)=scalars l):=by
 rcases r.is with ⟨_,h2⟩ | ⟨b,_,_,h2,_⟩<;>subst h2<;>exact ⟨fun _=>rfl,rfl,fun _=>rfl⟩
theorem flatten_len:∀ {rows:List (List AV)} {w:Nat},(∀ r ∈ rows,r.length=w)→rows.flatten.length=rows.length * w
 | [],w,_=>by simp
 | r::rs,w,hw=>by
  have:=flatten_len (rows:=rs) (w:=w) (fun x hx=>hw x (List.mem_cons_of_mem _ hx))
  rw [List.flatten_cons,List.length_append,this,hw r (List.mem_cons_self ..),List.length_cons,Nat.succ_mul,Nat.add_comm]
theorem append_row {s:St} {lo w bytes tg:Nat} {rows:List (List AV)} {v:AV} (r:Rows s.h lo s.n w tg rows v) {p sz:Nat} {row:List AV} (hp:s.h.get p=some (.cells row sz)) (hw:row.length=w) (hsc:scalars row=true)
  (hb:(rows.length+1) * bytes≤1000000) (htg:szOf (w+tg)=w) (hs:s.n<549755813888) (hlo:lo≤s.n) :
  ∃ v' s',appendA false w bytes tg s v (.slice p 0 1 1 false)=.val v' s'∧Rows s'.h lo s'.n w tg (rows++[row]) v'∧s'.n=s.n+1∧(∀ b,b<lo→s'.h.get b=s.h.get b)∧(∀ b,b<s.n→v≠.slice b 0 rows.length rows.length true→s'.h.get b=s.h.get b)∧(∀ k,k≤lo→k≤s.m→k≤s'.m)∧s'.m≤s.m∧v'=.slice s.n 0 (rows.length+1) (rows.length+1) true:=by
 have h1:∀ x,appendA false w bytes tg s x (.slice p 0 1 1 false)=growA w bytes tg 1 row s x:=by
  intro x
  have e1:firstA w 1 s (.slice p 0 1 1 false)=some row:=by
   show (match s.h.get p with | some (.cells c _)=>cut 0 (1 * w) c | some (.fam c _ k _)=>cut 0 (1 * w) (c.take k) | _=>none)=some row
   rw [hp]
   simp only [Nat.one_mul]
   have cut_0:∀ (k:Nat) (l:List AV),cut 0 k l=cut1 k l:=by
    intro k l
    cases l with
    | nil=>rfl
    | cons a l=>rfl
   have all:∀ l:List AV,cut1 l.length l=some l:=by
    intro l
    induction l with
    | nil=>rfl
    | cons a l ih=>rw [List.length_cons,cut1_cons,ih];rfl
   rw [cut_0,← hw,all]
  show (match (some 1:Option Nat) with | none=>ARes.fail | some n=>match firstA w n s (.slice p 0 1 1 false) with | none=>.fail | some new=>match Nat.beq new.length (n * w) with | false=>.fail | true=>match scalars new with | true=>(growA w bytes tg n new s x) | false=>.fail)=_
  simp only [e1,hw,Nat.one_mul,Nat.beq_refl,hsc]
 rcases r.is with ⟨h2,h3⟩ | ⟨b,hlb,hbn,h3,h4⟩
 ·subst h2;subst h3
  refine ⟨.slice s.n 0 1 1 true,s.new (.cells row (w+tg)),?_,⟨fun x hx=>?_,.inr ⟨s.n,hlo,Nat.lt_succ_self _,rfl,?_⟩⟩,rfl,fun b hb=>?_,fun b hb _=>?_,fun _ _ h=>h,Nat.le_refl _,rfl⟩
  ·rw [h1]
   show (match Nat.beq 1 0 with | true=>ARes.val .nilslice s | false=>match Nat.ble (1 * bytes) limit with | false=>.fail | true=>.val (.slice s.n 0 1 1 true) (s.new (.cells row (w+tg))))=_
   have:Nat.ble (1 * bytes) limit=true:=Nat.ble_eq_true_of_le (by unfold limit;simp at hb;omega)
   rw [this]
  ·simp at hx;subst hx;exact hw
  ·simp only [List.nil_append,List.flatten_cons,List.flatten_nil,List.append_nil]
   exact get_new_eq _ _ _ rfl hs
  ·exact get_new_ne _ _ _ (by omega)
  ·exact get_new_ne _ _ _ (by omega)
 ·subst h3
  have hfl:=flatten_len r.wide
  refine ⟨.slice s.n 0 (rows.length+1) (rows.length+1) true,(s.kill b).new (.cells (rows.flatten++row) (w+tg)),?_,⟨fun x hx=>?_,.inr ⟨s.n,hlo,Nat.lt_succ_self _,by simp,?_⟩⟩,rfl,fun c hc=>?_,fun c hc hne=>?_,fun k hk hm=>?_,minN_le_left _ _,rfl⟩
  ·rw [h1]
   unfold growA
   simp only [h4]
   have e1:Nat.ble (rows.length+1) rows.length=false:=by
    cases h:Nat.ble (rows.length+1) rows.length with
    | false=>rfl
    | true=>have:=Nat.le_of_ble_eq_true h;omega
   have e2:Nat.ble ((rows.length+1) * bytes) limit=true:=Nat.ble_eq_true_of_le hb
   simp only [e1,e2,hfl,htg,Nat.zero_add,List.drop_zero,and_self,if_true]
  ·rcases List.mem_append.mp hx with hx | hx
   ·exact r.wide x hx
   ·simp at hx;subst hx;exact hw
  ·rw [List.flatten_append,List.flatten_cons,List.flatten_nil,List.append_nil]
   exact get_new_eq _ _ _ rfl hs
  ·rw [get_new_ne _ _ _ (by show c≠s.n;omega),St.kill_h,heap_set_ne _ _ _ _ (by omega)]
  ·rw [get_new_ne _ _ _ (by show c≠s.n;omega),St.kill_h,heap_set_ne _ _ _ _ (fun e=>hne (by rw [e]))]
  ·show k≤minN s.m b
   rw [minN_min];omega
/-! ### Slices as they come in, copies, parts -/
theorem cut_zero (k:Nat) (l:List AV):cut 0 k l=cut1 k l:=by cases l<;>rfl
theorem cut1_app:∀ (r l:List AV),cut1 r.length (r++l)=some r:=by
 intro r l
 induction r with
 | nil=>exact cut1_zero l
 | cons a r ih=>rw [List.length_cons,List.cons_append,cut1_cons,ih];rfl
theorem cut1_all (l:List AV):cut1 l.length l=some l:=by have:=cut1_app l [];rwa [List.append_nil] at this
theorem cut1_some:∀ {k:Nat} {l r:List AV},cut1 k l=some r→∃ t,l=r++t∧r.length=k
 | 0,l,r,h=>by rw [cut1_zero] at h;cases h;exact ⟨l,rfl,rfl⟩
 | k+1,[],r,h=>by cases h
 | k+1,a::l,r,h=>by
  rw [cut1_cons] at h
  generalize hq:cut1 k l=q at h
  cases q with
  | none=>cases h
  | some q =>
   cases h
   obtain ⟨t,h1,h2⟩:=cut1_some hq
   exact ⟨t,by rw [h1];rfl,by rw [List.length_cons,h2]⟩
theorem cut_some:∀ {o k:Nat} {l r:List AV},cut o k l=some r→∃ a t,l=a++r++t∧a.length=o∧r.length=k
 | 0,k,l,r,h=>by
  rw [cut_zero] at h
  obtain ⟨t,h1,h2⟩:=cut1_some h
  exact ⟨[],t,by rw [h1];rfl,rfl,h2⟩
 | o+1,k,[],r,h=>by cases h
 | o+1,k,a::l,r,h=>by
  rw [cut_cons,if_neg (by omega)] at h
  obtain ⟨x,t,h1,h2,h3⟩:=cut_some h
  exact ⟨a::x,t,by rw [h1];rfl,by rw [List.length_cons,h2];omega,h3⟩
theorem cut_skip:∀ (a l:List AV) (o k:Nat),cut (a.length+o) k (a++l)=cut o k l
 | [],l,o,k=>by rw [List.length_nil,Nat.zero_add,List.nil_append]
 | x::a,l,o,k=>by
  rw [List.length_cons,List.cons_append,show a.length+1+o=(a.length+o)+1 by omega,cut_cons,if_neg (by omega)]
  exact cut_skip a l o k
theorem cut_app:∀ {o k:Nat} {l r t:List AV},cut o k l=some r→cut o k (l++t)=some r:=by
 intro o k l r t h
 obtain ⟨a,u,h1,h2,h3⟩:=cut_some h
 rw [h1,← h2,List.append_assoc,List.append_assoc]
 have:=cut_skip a (r++(u++t)) 0 k
 rw [Nat.add_zero] at this
 rw [this,cut_zero,← h3,cut1_app]
theorem cut_cut {o k i w:Nat} {c F r:List AV} (h:cut o k c=some F) (h2:cut i w F=some r):cut (o+i) w c=some r:=by
 obtain ⟨a,t,h3,h4,h5⟩:=cut_some h
 rw [h3,← h4,List.append_assoc,cut_skip]
 exact cut_app h2
structure Seq (h:Heap) (n w:Nat) (rows:List (List AV)) (v:AV):Prop where
 wide:∀ r ∈ rows,r.length=w
 is:(rows=[]∧v=.nilslice)∨∃ b o cap e c sz,b<n∧v=.slice b o rows.length cap e∧h.get b=some (.cells c sz)∧cut o (rows.length * w) c=some rows.flatten
theorem Seq.at_ {h:Heap} {n w:Nat} {rows:List (List AV)} {v:AV} (r:Seq h n w rows v):RowsAt h n w rows v:=by
 refine ⟨fun s=>?_,fun i hi=>?_⟩
 ·rcases r.is with ⟨h1,h2⟩ | ⟨b,o,cap,e,c,sz,_,h2,_⟩
  ·subst h1;subst h2;rfl
  ·subst h2;rfl
 ·rcases r.is with ⟨h1,_⟩ | ⟨b,o,cap,e,c,sz,hb,h2,h3,h4⟩
  ·subst h1;simp at hi
  ·subst h2
   exact ⟨b,o+i * w,c,sz,hb,fun s=>ixs_slice _ _ _ _ _ _ _ _ hi,h3,cut_cut h4 (flatten_cut r.wide hi)⟩
theorem Seq.grow {h h':Heap} {n n' w:Nat} {rows:List (List AV)} {v:AV} (r:Seq h n w rows v) (hh:∀ b,b<n→h'.get b=h.get b) (hn:n≤n'):Seq h' n' w rows v :=
 ⟨r.wide,r.is.imp id fun ⟨b,o,cap,e,c,sz,h1,h2,h3,h4⟩=>⟨b,o,cap,e,c,sz,by omega,h2,by rw [hh b h1];exact h3,h4⟩⟩
theorem Rows.seq {h:Heap} {lo n w tg:Nat} {rows:List (List AV)} {v:AV} (r:Rows h lo n w tg rows v):Seq h n w rows v :=
 ⟨r.wide,r.is.imp id fun ⟨b,_,h1,h2,h3⟩=>⟨b,0,_,_,_,_,h1,h2,h3,by rw [cut_zero,← flatten_len r.wide,cut1_all]⟩⟩
theorem Seq.first {s:St} {n w:Nat} {rows:List (List AV)} {v:AV} (r:Seq s.h n w rows v):lenA v=some rows.length∧firstA w rows.length s v=some rows.flatten:=by
 rcases r.is with ⟨h1,h2⟩ | ⟨b,o,cap,e,c,sz,hb,h2,h3,h4⟩
 ·subst h1;subst h2;exact ⟨rfl,rfl⟩
 ·subst h2
  refine ⟨rfl,?_⟩
  show (match s.h.get b with | some (.cells c _)=>cut o (rows.length * w) c | some (.fam c _ k _)=>cut o (rows.length * w) (c.take k) | _=>none)=_
  rw [h3]
  exact h4
theorem Seq.scalar {h:Heap} {n w:Nat} {rows:List (List AV)} {v:AV} (r:Seq h n w rows v):(∀ t,okA (.val v t)=.val v t)∧cellsOf 1 v=some [v]∧(∀ l,scalars (v::l)=scalars l):=by
 rcases r.is with ⟨_,h2⟩ | ⟨b,o,cap,e,c,sz,_,h2,_⟩<;>subst h2<;>exact ⟨fun _=>rfl,rfl,fun _=>rfl⟩
theorem scalars_append:∀ {a b:List AV},scalars a=true→scalars b=true→scalars (a++b)=true
 | [],b,_,h=>h
 | x::a,b,h1,h2=>by
  have e:∀ (x:AV) (l:List AV),scalars (x::l)=(match x.scalar with | true=>scalars l | false=>false):=fun _ _=>rfl
  rw [e] at h1
  rw [List.cons_append,e]
  split at h1
  ·exact scalars_append h1 h2
  ·cases h1
theorem scalars_flatten:∀ {rows:List (List AV)},(∀ r ∈ rows,scalars r=true)→scalars rows.flatten=true
 | [],_=>rfl
 | r::rs,h=>by rw [List.flatten_cons];exact scalars_append (h r (List.mem_cons_self ..)) (scalars_flatten fun x hx=>h x (List.mem_cons_of_mem _ hx))
structure Own (h:Heap) (lo n w tg:Nat) (rows:List (List AV)) (v:AV):Prop where
 wide:∀ r ∈ rows,r.length=w
 is:(rows=[]∧(v=.nilslice∨∃ b,lo≤b∧b<n∧v=.slice b 0 0 0 false∧h.get b=some (.cells [] 0)))∨(rows≠[]∧∃ b,lo≤b∧b<n∧v=.slice b 0 rows.length rows.length true∧h.get b=some (.cells rows.flatten (w+tg)))
theorem Own.seq {h:Heap} {lo n w tg:Nat} {rows:List (List AV)} {v:AV} (r:Own h lo n w tg rows v):Seq h n w rows v:=by
 refine ⟨r.wide,?_⟩
 rcases r.is with ⟨h1,h2 | ⟨b,_,h3,h4,h5⟩⟩ | ⟨_,b,_,h3,h4,h5⟩
 ·exact .inl ⟨h1,h2⟩
 ·subst h1;exact .inr ⟨b,0,0,false,[],0,h3,h4,h5,by rw [List.length_nil,Nat.zero_mul];rfl⟩
 ·exact .inr ⟨b,0,_,_,_,_,h3,h4,h5,by rw [cut_zero,← flatten_len r.wide,cut1_all]⟩
theorem Own.mono {h h':Heap} {lo n n' w tg:Nat} {rows:List (List AV)} {v:AV} (r:Own h lo n w tg rows v) (hh:∀ b,lo≤b→b<n→h'.get b=h.get b) (hn:n≤n'):Own h' lo n' w tg rows v:=by
 refine ⟨r.wide,?_⟩
 rcases r.is with ⟨h1,h2 | ⟨b,h0,h3,h4,h5⟩⟩ | ⟨h1,b,h0,h3,h4,h5⟩
 ·exact .inl ⟨h1,.inl h2⟩
 ·exact .inl ⟨h1,.inr ⟨b,h0,by omega,h4,by rw [hh b h0 h3];exact h5⟩⟩
 ·exact .inr ⟨h1,b,h0,by omega,h4,by rw [hh b h0 h3];exact h5⟩
end Go.Abs
namespace Go.Abs
variable {P:Program}
theorem over_skip:∀ (a l vs:List AV) (o:Nat),over (a.length+o) vs (a++l)=(over o vs l).map (a++·)
 | [],l,vs,o=>by
  rw [List.length_nil,Nat.zero_add,List.nil_append]
  cases over o vs l<;>rfl
 | x::a,l,vs,o=>by
  rw [List.length_cons,List.cons_append,show a.length+1+o=(a.length+o)+1 by omega,over_cons,if_neg (by omega),show a.length+o+1 - 1=a.length+o by omega,over_skip a l vs o]
  cases over o vs l<;>rfl
theorem over_head:∀ (vs r l:List AV),vs.length=r.length→over 0 vs (r++l)=some (vs++l):=by
 have h1:∀ (vs r l:List AV),vs.length=r.length→over1 vs (r++l)=some (vs++l):=by
  intro vs
  induction vs with
  | nil=>intro r l h;cases r with
   | nil=>exact over1_nil _
   | cons _ _=>simp at h
  | cons v vs ih=>intro r l h;cases r with
   | nil=>simp at h
   | cons a r=>rw [List.cons_append,over1_cons,ih r l (by simpa using h)];rfl
 intro vs r l h
 have:over 0 vs (r++l)=over1 vs (r++l):=by
  cases hq:r++l with
  | nil=>rfl
  | cons a c=>rw [over_cons,if_pos rfl]
 rw [this,h1 vs r l h]
theorem over_flatten {rows:List (List AV)} {w j:Nat} {row:List AV} (hw:∀ r ∈ rows,r.length=w) (hj:j<rows.length) (hr:row.length=w):over (j * w) row rows.flatten=some (rows.set j row).flatten:=by
 have e:rows=rows.take j++rows[j]::rows.drop (j+1):=by rw [List.getElem_cons_drop];exact (List.take_append_drop j rows).symm
 have l1:(rows.take j).flatten.length=j * w:=by
  rw [flatten_len (w:=w) (fun r hr=>hw r (List.mem_of_mem_take hr)),List.length_take,Nat.min_eq_left (by omega)]
 rw [List.set_eq_take_append_cons_drop,if_pos hj]
 conv=>lhs;rw [e]
 rw [List.flatten_append,List.flatten_cons,List.flatten_append,List.flatten_cons]
 have:=over_skip (rows.take j).flatten (rows[j]++(rows.drop (j+1)).flatten) row 0
 rw [Nat.add_zero,l1] at this
 rw [this,over_head row rows[j] _ (by rw [hr,hw _ (List.getElem_mem hj)])]
 rfl
theorem zeros_scalar (z:List AV) (h:scalars z=true):∀ n,scalars (zerosA z n)=true
 | 0=>rfl
 | n+1=>scalars_append h (zeros_scalar z h n)
theorem zeros_flatten (z:List AV):∀ n,zerosA z n=(List.replicate n z).flatten
 | 0=>rfl
 | n+1=>by
  show z++zerosA z n=_
  rw [zeros_flatten z n,List.replicate_succ,List.flatten_cons]
theorem make_rows (z:List AV) (bytes n:Nat) (s:St) (h1:n * bytes≤1000000) (h2:n≤1000000):makeA z bytes s (.int .i64 (n:Int)) (.int .i64 (n:Int))=.val (.slice s.n 0 n n false) (s.new (.cells (List.replicate n z).flatten 0)):=by
 show (match Nat.ble n n with | false=>ARes.fail | true=>match Nat.ble (n * bytes) limit with | false=>.fail | true=>match Nat.ble n limit with | false=>.fail | true=>.val (.slice s.n 0 n n false) (s.new (.cells (zerosA z n) 0)))=_
 rw [Nat.ble_eq_true_of_le (Nat.le_refl n),Nat.ble_eq_true_of_le (by unfold limit;omega:n * bytes≤limit),Nat.ble_eq_true_of_le (by unfold limit;omega:n≤limit),zeros_flatten]
theorem kMake_def (z:List AV) (bytes:Nat) (l c:Arg) (L:Env) (s:St):kMake z bytes l c L s=makeA z bytes s (l.ev L) (c.ev L):=Eq.trans (Eq.refl _) (Eq.refl _)
theorem cut1_nth:∀ {p:Nat} {c:List AV} {v:AV},cut p 1 c=some [v]→nth c p=v
 | p,[],v,h=>by cases p<;>cases h
 | 0,a::c,v,h=>by
  rw [cut_zero,cut1_cons,cut1_zero] at h
  cases h
  rfl
 | p+1,a::c,v,h=>by
  rw [cut_cons,if_neg (by omega),Nat.add_sub_cancel] at h
  rw [nth_cons,if_neg (by omega),Nat.add_sub_cancel]
  exact cut1_nth h
theorem leave_nil {P:Program} (L:Env) (s:St):leaveA P [] L [] s=.val (.tup []) s:=rfl
theorem call_round {X:FuncId→List Nat} {n l:Nat} {args:List AV} {s s1 s2:St} {r r1 r2:ALoop} {a b:K} {L L2:Env} {d d2:List Nat} {e:Ex} (hl:s.h.get l=some (.loop r)) (hr:args.length=r.params.length)
  (ha:codeK P r.xs r.nt r.assign=some a) (hb:codeK P r.xs r.nt r.body=some b) (h1:a (call P X n) ⟨r.fn,some l,r.nt,r.xs⟩ (setParams r.tmps r.params args) [] s=.done .norm L d s1)
  (h2:s1.h.get l=some (.loop r1)) (h3:r1.state=.ready) (h4:b (call P X n) ⟨r.fn,some l,r.nt,r.xs⟩ L [] (s1.put l (.loop { r1 with state:=.busy }))=.done e L2 d2 s2) (h5:s2.h.get l=some (.loop r2)) :
  call P X (n+1) (.yield l) args s=.val (.bool (goesOn e)) (s2.put l (.loop { r2 with state:=if goesOn e then .ready else .done,pending:=jumpOf e })):=by
 have e1:loopAt s l=some r:=by unfold loopAt;rw [hl]
 have e2:loopAt s1 l=some r1:=by unfold loopAt;rw [h2]
 have e3:loopAt s2 l=some r2:=by unfold loopAt;rw [h5]
 show callStep P X (call P X n) (.yield l) args s=_
 unfold callStep
 simp only [e1]
 unfold roundA
 rw [if_neg (by simp [hr])]
 simp only [ha,hb,h1,e2,h3,h4]
 unfold endRoundA
 simp only [e3]
theorem range_eq {f:Arg} {ps:List Tmp} {a b:Code} {cl:CallF} {c:Ctx} {L:Env} {d:List Nat} {s s2:St} {v:AV} {r:ALoop} (hc:c.rnd=none)
  (h:callV cl [.yield (s.n+1)] ((s.new .dfr).new (.loop ⟨.ready,none,c.fn,L,ps,a,b,s.n,c.nt,c.xs⟩)) (f.ev L)=.val v s2) (hr:s2.h.get (s.n+1)=some (.loop r)) (hb:r.state≠.busy) :
  kRange f ps a b cl c L d s=jumpA L (s.n::d) (s2.put (s.n+1) (.loop { r with state:=.exhausted })) r.pending:=by
 have e1:enterLoopA c L d ps a b s=some (s.n::d,(s.new .dfr).new (.loop ⟨.ready,none,c.fn,L,ps,a,b,s.n,c.nt,c.xs⟩)):=by unfold enterLoopA;rw [hc]
 have e2:Nat.sub ((s.new .dfr).new (.loop ⟨.ready,none,c.fn,L,ps,a,b,s.n,c.nt,c.xs⟩)).n 1=s.n+1:=rfl
 have e3:loopAt s2 (s.n+1)=some r:=by unfold loopAt;rw [hr]
 unfold kRange
 simp only [e1]
 rw [e2,h]
 simp only
 rw [e3]
 cases hst:r.state with
 | busy=>exact absurd hst hb
 | _=>simp only [hst]
theorem setParams2 (L:Env) (t u:Tmp) (a b:AV):setParams L [t,u] [a,b]=(L.set t a).set u b:=rfl
theorem setParams1 (L:Env) (t:Tmp) (a:AV):setParams L [t] [a]=L.set t a:=rfl
theorem leave_dfr (P:Program) (rs:List ResultVar) (x:Nat) (L:Env) (s:St) (h:s.h.get x=some .dfr):leaveA P rs L [x] s=leaveA P rs L [] (s.kill x):=by
 unfold leaveA
 have:takeDfs s [x]=some (s.kill x):=by
  show (match s.h.get x with | some .dfr=>takeDfs (s.kill x) [] | _=>none)=_
  rw [h];rfl
 rw [this]
 rfl
theorem boxA_func (sz:Nat) (s:St) (f:FuncId) (x y:List AV):boxA sz s (.func f x y)=.val (.ptr s.n 0) (s.new (.cells [.func f x y] sz)):=Eq.trans (Eq.refl _) (Eq.refl _)
theorem okA_func (f:FuncId) (x y:List AV) (s:St):okA (.val (.func f x y) s)=.val (.func f x y) s:=Eq.trans (Eq.refl _) (Eq.refl _)
theorem get_kill_ne (s:St) (b c:Nat) (h:b≠c):(s.kill c).h.get b=s.h.get b:=by rw [St.kill_h,heap_set_ne _ _ _ _ h]
structure Turn (d:Nat) (u t:St) (k:Nat):Prop where
 same:∀ b,b<u.n→b≠d→t.h.get b=u.h.get b
 n:u.n≤t.n
 le:t.n≤u.n+k
end Go.Abs
