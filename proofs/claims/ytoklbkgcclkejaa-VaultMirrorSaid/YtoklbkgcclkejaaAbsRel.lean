/- What abstract values, cells and heaps say of the model's own, and how that outlasts steps. -/
import Derived.Test.YtoklbkgcclkejaaAbsDef
import Derived.Control
noncomputable section
namespace Go.Abs
abbrev Ext:=Nat × Nat
abbrev Rho:=Nat→Option (Nat × Ext)
mutual
inductive VRel (ρ:Rho):AV→Value→Prop
 | bad (v:Value):VRel ρ .bad v
 | int (k:IntKind) (n:Int):VRel ρ (.int k n) (.int k n)
 | bool (b:Bool):VRel ρ (.bool b) (.bool b)
 | str (s:ByteArray):VRel ρ (.str s) (.string s)
 | ptr {b o c:Nat} {e:Ext}:ρ b=some (c,e)→VRel ρ (.ptr b o) (.pointer (some ⟨c,e.2+o,none⟩))
 | nilptr:VRel ρ .nilptr (.pointer none)
 | slice {b o len cap:Nat} {ext:Bool} {c:Nat} {e:Ext}:ρ b=some (c,e) →
   VRel ρ (.slice b o len cap ext) (.slice (some ⟨c,e.2+o,none⟩) len (if ext then cap+e.1 else cap))
 | tail {b o c p:Nat} {e:Ext}:ρ b=some (c,e)→(e.1=0∨p=e.2+o)→VRel ρ (.tail b o) (.slice (some ⟨c,p,none⟩) 0 e.1)
 | nilslice:VRel ρ .nilslice (.slice none 0 0)
 | map {b c:Nat} {e:Ext}:ρ b=some (c,e)→VRel ρ (.map b) (.map (some c))
 | nilmap:VRel ρ .nilmap (.map none)
 | func {f:FuncId} {first cap:List AV} {F C:Array Value}:VRels ρ first F.toList→VRels ρ cap C.toList→VRel ρ (.func f first cap) (.func (.func f) F C)
 | yield {l c:Nat} {e:Ext}:ρ l=some (c,e)→VRel ρ (.yield l) (.func (.yield c) #[] #[])
 | nilfunc:VRel ρ .nilfunc .nilFunc
 | nilif:VRel ρ .nilif .nilIface
 | agg {l:List AV} {L:Array Value}:VRels ρ l L.toList→VRel ρ (.agg l) (.agg L)
 | tup {l:List AV} {L:Array Value}:VRels ρ l L.toList→VRel ρ (.tup l) (.tuple L)
 | ge {k:IntKind} {n m:Int}:n≤m→VRel ρ (.ge k n) (.int k m)
 | gptr (g o:Nat):VRel ρ (.gptr g o) (.pointer (some ⟨g,o,none⟩))
 | vs {b v len c:Nat} {e:Ext} {y:Nat × Ext}:ρ b=some y→ρ v=some (c,e)→VRel ρ (.vs b v len) (.slice (some ⟨c,e.2,none⟩) len (len+e.1))
 | vp {b v o c:Nat} {e:Ext} {y:Nat × Ext}:ρ b=some y→ρ v=some (c,e)→VRel ρ (.vp b v o) (.pointer (some ⟨c,e.2+o,none⟩))
inductive VRels (ρ:Rho):List AV→List Value→Prop
 | nil:VRels ρ [] []
 | cons {a:AV} {v:Value} {l:List AV} {L:List Value}:VRel ρ a v→VRels ρ l L→VRels ρ (a::l) (v::L)
end
def Rho.le (ρ ρ':Rho):Prop:=∀ b x,ρ b=some x→ρ' b=some x
theorem Rho.le_refl (ρ:Rho):ρ.le ρ:=fun _ _ h=>h
theorem Rho.le_trans {a b c:Rho} (h:a.le b) (h':b.le c):a.le c:=fun _ _ e=>h' _ _ (h _ _ e)
mutual
theorem VRel.mono {ρ ρ':Rho} (h:ρ.le ρ'):∀ {a v},VRel ρ a v→VRel ρ' a v
 | _,_,.bad v=>.bad v
 | _,_,.int k n=>.int k n
 | _,_,.bool b=>.bool b
 | _,_,.str s=>.str s
 | _,_,.ptr e=>.ptr (h _ _ e)
 | _,_,.nilptr=>.nilptr
 | _,_,.slice e=>.slice (h _ _ e)
 | _,_,.tail e q=>.tail (h _ _ e) q
 | _,_,.nilslice=>.nilslice
 | _,_,.map e=>.map (h _ _ e)
 | _,_,.nilmap=>.nilmap
 | _,_,.func a b=>.func (VRels.mono h a) (VRels.mono h b)
 | _,_,.yield e=>.yield (h _ _ e)
 | _,_,.nilfunc=>.nilfunc
 | _,_,.nilif=>.nilif
 | _,_,.agg a=>.agg (VRels.mono h a)
 | _,_,.tup a=>.tup (VRels.mono h a)
 | _,_,.ge a=>.ge a
 | _,_,.gptr g o=>.gptr g o
 | _,_,.vs e q=>.vs (h _ _ e) (h _ _ q)
 | _,_,.vp e q=>.vp (h _ _ e) (h _ _ q)
theorem VRels.mono {ρ ρ':Rho} (h:ρ.le ρ'):∀ {l L},VRels ρ l L→VRels ρ' l L
 | _,_,.nil=>.nil
 | _,_,.cons a b=>.cons (VRel.mono h a) (VRels.mono h b)
end
mutual
theorem VRel.plain {ρ ρ':Rho}:∀ {a v},VRel ρ a v→plain a=true→VRel ρ' a v
 | _,_,.bad v,_=>.bad v
 | _,_,.int k n,_=>.int k n
 | _,_,.bool b,_=>.bool b
 | _,_,.str s,_=>.str s
 | _,_,.ptr _,h=>by simp [Abs.plain] at h
 | _,_,.nilptr,_=>.nilptr
 | _,_,.slice _,h=>by simp [Abs.plain] at h
 | _,_,.tail _ _,h=>by simp [Abs.plain] at h
 | _,_,.nilslice,_=>.nilslice
 | _,_,.map _,h=>by simp [Abs.plain] at h
 | _,_,.nilmap,_=>.nilmap
 | _,_,.func _ _,h=>by simp [Abs.plain] at h
 | _,_,.yield _,h=>by simp [Abs.plain] at h
 | _,_,.nilfunc,_=>.nilfunc
 | _,_,.nilif,_=>.nilif
 | _,_,.agg a,h=>.agg (VRels.plain a (by simpa [Abs.plain] using h))
 | _,_,.tup a,h=>.tup (VRels.plain a (by simpa [Abs.plain] using h))
 | _,_,.ge _,h=>by simp [Abs.plain] at h
 | _,_,.gptr g o,_=>.gptr g o
 | _,_,.vs _ _,h=>by simp [Abs.plain] at h
 | _,_,.vp _ _,h=>by simp [Abs.plain] at h
theorem VRels.plain {ρ ρ':Rho}:∀ {l L},VRels ρ l L→plains l=true→VRels ρ' l L
 | _,_,.nil,_=>.nil
 | _,_,.cons (a:=a) x y,h=>by
  unfold plains at h
  cases hp:Abs.plain a with
  | false=>rw [hp] at h;simp at h
  | true=>rw [hp] at h;exact .cons (VRel.plain x hp) (VRels.plain y h)
end
mutual
theorem VRel.back {ρ ρ':Rho} (h:ρ.le ρ'):∀ {a v v'},VRel ρ a v→VRel ρ' a v'→VRel ρ a v'
 | _,_,_,.bad _,_=>.bad _
 | _,_,_,.int _ _,.int _ _=>.int _ _
 | _,_,_,.bool _,.bool _=>.bool _
 | _,_,_,.str _,.str _=>.str _
 | _,_,_,.ptr e,.ptr e'=>by
  have:=h _ _ e;rw [e'] at this;cases this;exact .ptr e
 | _,_,_,.nilptr,.nilptr=>.nilptr
 | _,_,_,.slice e,.slice e'=>by
  have:=h _ _ e;rw [e'] at this;cases this;exact .slice e
 | _,_,_,.tail e q,.tail e' q'=>by
  have:=h _ _ e;rw [e'] at this;cases this;exact .tail e q'
 | _,_,_,.nilslice,.nilslice=>.nilslice
 | _,_,_,.map e,.map e'=>by
  have:=h _ _ e;rw [e'] at this;cases this;exact .map e
 | _,_,_,.nilmap,.nilmap=>.nilmap
 | _,_,_,.func a b,.func a' b'=>.func (VRels.back h a a') (VRels.back h b b')
 | _,_,_,.yield e,.yield e'=>by
  have:=h _ _ e;rw [e'] at this;cases this;exact .yield e
 | _,_,_,.nilfunc,.nilfunc=>.nilfunc
 | _,_,_,.nilif,.nilif=>.nilif
 | _,_,_,.agg a,.agg a'=>.agg (VRels.back h a a')
 | _,_,_,.tup a,.tup a'=>.tup (VRels.back h a a')
 | _,_,_,.ge _,.ge a'=>.ge a'
 | _,_,_,.gptr g o,.gptr _ _=>.gptr g o
 | _,_,_,.vs e q,.vs _ q'=>by
  have:=h _ _ q;rw [q'] at this;cases this;exact .vs e q
 | _,_,_,.vp e q,.vp _ q'=>by
  have:=h _ _ q;rw [q'] at this;cases this;exact .vp e q
theorem VRels.back {ρ ρ':Rho} (h:ρ.le ρ'):∀ {l L L'},VRels ρ l L→VRels ρ' l L'→VRels ρ l L'
 | _,_,_,.nil,.nil=>.nil
 | _,_,_,.cons a b,.cons a' b'=>.cons (VRel.back h a a') (VRels.back h b b')
end
theorem VRels.length {ρ:Rho}:∀ {l L},VRels ρ l L→l.length=L.length
 | _,_,.nil=>rfl
 | _,_,.cons _ b=>by simp [VRels.length b]
theorem VRels.append {ρ:Rho}:∀ {l L m M},VRels ρ l L→VRels ρ m M→VRels ρ (l++m) (L++M)
 | _,_,_,_,.nil,h=>h
 | _,_,_,_,.cons a b,h=>.cons a (VRels.append b h)
theorem VRels.get {ρ:Rho}:∀ {l L},VRels ρ l L→∀ (i:Nat) (a:AV),l[i]? = some a→∃ v,L[i]? = some v∧VRel ρ a v
 | _,_,.nil,i,a,h=>by simp at h
 | _,_,.cons (v:=v) x y,0,a,h=>by simp at h;subst h;exact ⟨v,by simp,x⟩
 | _,_,.cons x y,i+1,a,h=>by
  simp at h
  obtain ⟨v,hv,hr⟩:=VRels.get y i a h
  exact ⟨v,by simpa using hv,hr⟩
theorem VRels.of_get {ρ:Rho}:∀ {l L},l.length=L.length→(∀ (i:Nat) (a:AV) (v:Value),l[i]? = some a→L[i]? = some v→VRel ρ a v)→VRels ρ l L
 | [],[],_,_=>.nil
 | a::l,v::L,h,hg=>.cons (hg 0 a v (by simp) (by simp)) (VRels.of_get (by simpa using h) fun i x y hx hy=>hg (i+1) x y (by simpa using hx) (by simpa using hy))
def EnvRel (ρ:Rho) (L:Env) (T:Array Value):Prop:=∀ t,VRel ρ (L.find t) (T.getD t undef)
inductive EntRels (ρ:Rho):List (AV × AV)→List MapEntry→Prop
 | nil:EntRels ρ [] []
 | cons {k v:AV} {x:MapEntry} {l:List (AV × AV)} {L:List MapEntry}:VRel ρ k x.key→VRel ρ v x.val→EntRels ρ l L→EntRels ρ ((k,v)::l) (x::L)
theorem EntRels.mono {ρ ρ':Rho} (h:ρ.le ρ'):∀ {l L},EntRels ρ l L→EntRels ρ' l L
 | _,_,.nil=>.nil
 | _,_,.cons a b c=>.cons (a.mono h) (b.mono h) (EntRels.mono h c)
structure LoopRel (ρ:Rho) (r:ALoop) (R:Loop):Prop where
 state:R.state=r.state
 pending:R.pending=r.pending
 fn:R.fn=r.fn
 tmps:EnvRel ρ r.tmps R.tmps
 params:R.params.toList=r.params
 assign:R.assign=r.assign
 body:R.body=r.body
 defers:∃ e,ρ r.defers=some (R.defers,e)
 nt:R.tmps.size=r.nt
 clean:∀ t,r.xs.contains t=false→r.tmps.find t=.bad
 ps:∀ t ∈ r.params,t<r.nt∧r.xs.contains t=true
def Typed (sz:Nat) (el:TypeId) (e:Ext):Prop:=∀ t,sz / 1048576=t+1→el=t∧e.2=0∧(sz % 1048576=0→e.1=0)
theorem Typed.none {sz:Nat} {el:TypeId} {e:Ext} (h:sz<1048576):Typed sz el e:=fun t ht=>by omega
theorem vrJ (t n:Nat) (h:n<1048576):(n+tag t) / 1048576=t+1:=by show (n+1048576 * (t+1)) / 1048576=t+1;omega
theorem YeA (t n:Nat) (h:n<1048576):(n+tag t) % 1048576=n:=by show (n+1048576 * (t+1)) % 1048576=n;omega
theorem Typed.tag (t:Nat):Typed (tag t) t (0,0):=fun u hu=>by
 have h:(0+Abs.tag t) / 1048576=t+1:=vrJ t 0 (by omega)
 rw [Nat.zero_add] at h
 exact ⟨Nat.succ.inj (h.symm.trans hu),rfl,fun _=>rfl⟩
theorem Typed.grown (t n r:Nat) (h:n<1048576) (h0:n≠0):Typed (n+Abs.tag t) t (r,0):=fun u hu=>by
 rw [vrJ t n h] at hu
 exact ⟨Nat.succ.inj hu,rfl,fun z=>by rw [YeA t n h] at z;exact absurd z h0⟩
inductive ORel (ρ:Rho) (e:Ext):AObj→Obj→Prop
 | cells {c:List AV} {sz:Nat} {C:Array Value} {el:TypeId}:C.size=e.2+c.length+e.1 * vD sz→VRels ρ c ((C.toList.drop e.2).take c.length)→Typed sz el e→ORel ρ e (.cells c sz) (.cells C el (0,0))
 | map {es:List (AV × AV)} {E:Array MapEntry} {k:Nat}:EntRels ρ es E.toList→ORel ρ e (.map es) (.map E k)
 | loop {r:ALoop} {R:Loop}:LoopRel ρ r R→ORel ρ e (.loop r) (.loop R)
 | dfr:ORel ρ e .dfr (.deferred (some []))
theorem EnvRel.mono {ρ ρ':Rho} (h:ρ.le ρ') {L:Env} {T:Array Value} (hr:EnvRel ρ L T):EnvRel ρ' L T:=fun t=>(hr t).mono h
theorem LoopRel.mono {ρ ρ':Rho} (h:ρ.le ρ') {r R} (hr:LoopRel ρ r R):LoopRel ρ' r R :=
 ⟨hr.state,hr.pending,hr.fn,hr.tmps.mono h,hr.params,hr.assign,hr.body,hr.defers.imp fun _ e=>h _ _ e,hr.nt,hr.clean,hr.ps⟩
theorem ORel.mono {ρ ρ':Rho} (h:ρ.le ρ') {e o O} (hr:ORel ρ e o O):ORel ρ' e o O:=by
 cases hr with
 | cells a b c=>exact .cells a (b.mono h) c
 | map a=>exact .map (a.mono h)
 | loop a=>exact .loop (a.mono h)
 | dfr=>exact .dfr
theorem YS {a b:Nat} (h:a=b):Nat.beq a b=true:=by subst h;exact Nat.beq_refl a
theorem vf {a b:Nat} (h:a≠b):Nat.beq a b=false:=by
 cases e:Nat.beq a b with
 | false=>rfl
 | true=>exact absurd (Nat.eq_of_beq_eq_true e) h
theorem Heap.get_node (l r:Heap) (v:Option AObj) (n:Nat) :
  Heap.get (.node l v r) n=if n=0 then v else if n % 2=0 then l.get (n / 2) else r.get (n / 2):=by
 show Bool.rec (motive:=fun _=>Option AObj) (Bool.rec (motive:=fun _=>Option AObj) (r.get (Nat.div n 2)) (l.get (Nat.div n 2)) (Nat.beq (Nat.mod n 2) 0)) v (Nat.beq n 0)=_
 by_cases h:n=0
 ·subst h;rfl
 ·have h1:Nat.beq n 0=false:=vf h
  rw [h1,if_neg h]
  show Bool.rec (motive:=fun _=>Option AObj) (r.get (Nat.div n 2)) (l.get (Nat.div n 2)) (Nat.beq (Nat.mod n 2) 0)=_
  by_cases h2:n % 2=0
  ·have h3:Nat.beq (Nat.mod n 2) 0=true:=YS h2
   rw [h3,if_pos h2];rfl
  ·have h3:Nat.beq (Nat.mod n 2) 0=false:=vf h2
   rw [h3,if_neg h2];rfl
theorem Heap.set_succ (x:Option AObj) (f:Nat) (t:Heap) (n:Nat):Heap.set x (f+1) t n=Heap.set1 x (Heap.set x f) t n:=rfl
theorem Heap.set1_nil (x:Option AObj) (ih:Heap→Nat→Heap) (n:Nat) :
  Heap.set1 x ih .nil n=if n=0 then .node .nil x .nil else if n % 2=0 then .node (ih .nil (n / 2)) none .nil else .node .nil none (ih .nil (n / 2)):=by
 show Bool.rec (motive:=fun _=>Heap) (Bool.rec (motive:=fun _=>Heap) (Heap.node Heap.nil none (ih Heap.nil (Nat.div n 2))) (Heap.node (ih Heap.nil (Nat.div n 2)) none Heap.nil) (Nat.beq (Nat.mod n 2) 0)) (Heap.node Heap.nil x Heap.nil) (Nat.beq n 0)=_
 by_cases h:n=0
 ·subst h;rfl
 ·have h1:Nat.beq n 0=false:=vf h
  rw [h1,if_neg h]
  show Bool.rec (motive:=fun _=>Heap) (Heap.node Heap.nil none (ih Heap.nil (Nat.div n 2))) (Heap.node (ih Heap.nil (Nat.div n 2)) none Heap.nil) (Nat.beq (Nat.mod n 2) 0)=_
  by_cases h2:n % 2=0
  ·have h3:Nat.beq (Nat.mod n 2) 0=true:=YS h2
   rw [h3,if_pos h2];rfl
  ·have h3:Nat.beq (Nat.mod n 2) 0=false:=vf h2
   rw [h3,if_neg h2];rfl
theorem Heap.set1_node (x:Option AObj) (ih:Heap→Nat→Heap) (l r:Heap) (v:Option AObj) (n:Nat) :
  Heap.set1 x ih (.node l v r) n=if n=0 then .node l x r else if n % 2=0 then .node (ih l (n / 2)) v r else .node l v (ih r (n / 2)):=by
 show Bool.rec (motive:=fun _=>Heap) (Bool.rec (motive:=fun _=>Heap) (Heap.node l v (ih r (Nat.div n 2))) (Heap.node (ih l (Nat.div n 2)) v r) (Nat.beq (Nat.mod n 2) 0)) (Heap.node l x r) (Nat.beq n 0)=_
 by_cases h:n=0
 ·subst h;rfl
 ·have h1:Nat.beq n 0=false:=vf h
  rw [h1,if_neg h]
  show Bool.rec (motive:=fun _=>Heap) (Heap.node l v (ih r (Nat.div n 2))) (Heap.node (ih l (Nat.div n 2)) v r) (Nat.beq (Nat.mod n 2) 0)=_
  by_cases h2:n % 2=0
  ·have h3:Nat.beq (Nat.mod n 2) 0=true:=YS h2
   rw [h3,if_pos h2];rfl
  ·have h3:Nat.beq (Nat.mod n 2) 0=false:=vf h2
   rw [h3,if_neg h2];rfl
theorem Heap.get_set_ne (x:Option AObj):∀ (f:Nat) (t:Heap) (n m:Nat),m≠n→(Heap.set x f t n).get m=t.get m:=by
 intro f
 induction f with
 | zero=>intro t n m _;rfl
 | succ f ih =>
  intro t n m hne
  rw [Heap.set_succ]
  cases t with
  | nil =>
   rw [Heap.set1_nil]
   by_cases h0:n=0
   ·rw [if_pos h0,Heap.get_node,if_neg (by omega)];split<;>rfl
   ·rw [if_neg h0]
    by_cases h2:n % 2=0
    ·rw [if_pos h2,Heap.get_node]
     by_cases hm:m=0
     ·rw [if_pos hm];rfl
     ·rw [if_neg hm]
      by_cases hm2:m % 2=0
      ·rw [if_pos hm2,ih _ _ _ (by omega)];rfl
      ·rw [if_neg hm2];rfl
    ·rw [if_neg h2,Heap.get_node]
     by_cases hm:m=0
     ·rw [if_pos hm];rfl
     ·rw [if_neg hm]
      by_cases hm2:m % 2=0
      ·rw [if_pos hm2];rfl
      ·rw [if_neg hm2,ih _ _ _ (by omega)];rfl
  | node l v r =>
   rw [Heap.set1_node,Heap.get_node]
   by_cases h0:n=0
   ·rw [if_pos h0,Heap.get_node,if_neg (show m≠0 by omega),if_neg (show m≠0 by omega)]
   ·rw [if_neg h0]
    by_cases h2:n % 2=0
    ·rw [if_pos h2,Heap.get_node]
     by_cases hm:m=0
     ·rw [if_pos hm,if_pos hm]
     ·rw [if_neg hm,if_neg hm]
      by_cases hm2:m % 2=0
      ·rw [if_pos hm2,if_pos hm2,ih _ _ _ (by omega)]
      ·rw [if_neg hm2,if_neg hm2]
    ·rw [if_neg h2,Heap.get_node]
     by_cases hm:m=0
     ·rw [if_pos hm,if_pos hm]
     ·rw [if_neg hm,if_neg hm]
      by_cases hm2:m % 2=0
      ·rw [if_pos hm2,if_pos hm2]
      ·rw [if_neg hm2,if_neg hm2,ih _ _ _ (by omega)]
theorem JmJ {f n:Nat} (h:n<2 ^ (f+1)):n / 2<2 ^ f:=by
 rw [Nat.pow_succ] at h;omega
theorem Heap.get_set_same (x:Option AObj):∀ (f:Nat) (t:Heap) (n:Nat),n<2 ^ f→(Heap.set x (f+1) t n).get n=x:=by
 intro f
 induction f with
 | zero =>
  intro t n hn
  have h0:n=0:=by simpa using hn
  subst h0
  rw [Heap.set_succ]
  cases t<;>rfl
 | succ f ih =>
  intro t n hn
  rw [Heap.set_succ]
  have hd:=JmJ hn
  cases t with
  | nil =>
   rw [Heap.set1_nil]
   by_cases h0:n=0
   ·rw [if_pos h0,Heap.get_node,if_pos h0]
   ·rw [if_neg h0]
    by_cases h2:n % 2=0
    ·rw [if_pos h2,Heap.get_node,if_neg h0,if_pos h2];exact ih _ _ hd
    ·rw [if_neg h2,Heap.get_node,if_neg h0,if_neg h2];exact ih _ _ hd
  | node l v r =>
   rw [Heap.set1_node]
   by_cases h0:n=0
   ·rw [if_pos h0,Heap.get_node,if_pos h0]
   ·rw [if_neg h0]
    by_cases h2:n % 2=0
    ·rw [if_pos h2,Heap.get_node,if_neg h0,if_pos h2];exact ih _ _ hd
    ·rw [if_neg h2,Heap.get_node,if_neg h0,if_neg h2];exact ih _ _ hd
def big:Nat:=2 ^ 39
theorem Heap.get_set_big (x:Option AObj):∀ (f:Nat) (t:Heap) (n:Nat),2 ^ f≤n→(Heap.set x (f+1) t n).get n=t.get n:=by
 intro f
 induction f with
 | zero =>
  intro t n hn
  have h0:n≠0:=by
   have:1≤n:=by simpa using hn
   omega
  rw [Heap.set_succ]
  cases t with
  | nil =>
   rw [Heap.set1_nil,if_neg h0]
   by_cases h2:n % 2=0
   ·rw [if_pos h2,Heap.get_node,if_neg h0,if_pos h2];rfl
   ·rw [if_neg h2,Heap.get_node,if_neg h0,if_neg h2];rfl
  | node l v r =>
   rw [Heap.set1_node,if_neg h0]
   by_cases h2:n % 2=0
   ·rw [if_pos h2,Heap.get_node,if_neg h0,if_pos h2,Heap.get_node,if_neg h0,if_pos h2];rfl
   ·rw [if_neg h2,Heap.get_node,if_neg h0,if_neg h2,Heap.get_node,if_neg h0,if_neg h2];rfl
 | succ f ih =>
  intro t n hn
  have hp:1≤2 ^ (f+1):=Nat.one_le_two_pow
  have h0:n≠0:=by omega
  have hd:2 ^ f≤n / 2:=by rw [Nat.pow_succ] at hn;omega
  rw [Heap.set_succ]
  cases t with
  | nil =>
   rw [Heap.set1_nil,if_neg h0]
   by_cases h2:n % 2=0
   ·rw [if_pos h2,Heap.get_node,if_neg h0,if_pos h2,ih _ _ hd];rfl
   ·rw [if_neg h2,Heap.get_node,if_neg h0,if_neg h2,ih _ _ hd];rfl
  | node l v r =>
   rw [Heap.set1_node,if_neg h0]
   by_cases h2:n % 2=0
   ·rw [if_pos h2,Heap.get_node,if_neg h0,if_pos h2,Heap.get_node,if_neg h0,if_pos h2,ih _ _ hd]
   ·rw [if_neg h2,Heap.get_node,if_neg h0,if_neg h2,Heap.get_node,if_neg h0,if_neg h2,ih _ _ hd]
theorem EntRels.back {ρ ρ':Rho} (h:ρ.le ρ'):∀ {l L L'},EntRels ρ l L→EntRels ρ' l L'→EntRels ρ l L'
 | _,_,_,.nil,.nil=>.nil
 | _,_,_,.cons a b c,.cons a' b' c'=>.cons (a.back h a') (b.back h b') (EntRels.back h c c')
theorem ORel.back {ρ ρ':Rho} (h:ρ.le ρ') {e e':Ext} {o:AObj} {O O':Obj} (a:ORel ρ e o O) (b:ORel ρ' e' o O'):ORel ρ e' o O':=by
 cases a with
 | cells a1 a2=>cases b with | cells b1 b2 b3=>exact .cells b1 (a2.back h b2) b3
 | map a1=>cases b with | map b1=>exact .map (a1.back h b1)
 | loop a1=>cases b with
  | loop b1 =>
   refine .loop ⟨b1.state,b1.pending,b1.fn,?_,b1.params,b1.assign,b1.body,?_,b1.nt,b1.clean,b1.ps⟩
   ·exact fun t=>(a1.tmps t).back h (b1.tmps t)
   ·obtain ⟨x,hx⟩:=a1.defers
    obtain ⟨y,hy⟩:=b1.defers
    have:=h _ _ hx;rw [hy] at this
    injection this with this;injection this with e1 _
    exact ⟨x,by rw [e1];exact hx⟩
 | dfr=>cases b with | dfr=>exact .dfr
def GlobOk (W:World) (g:Nat) (cs:List Value):Prop:=∃ C el fr,W.heap[g]? = some (.cells C el fr)∧C.toList.take cs.length=cs
theorem GlobOk.of {W W':World} {g:Nat} {cs:List Value} (h:GlobOk W g cs) (e:W'.heap[g]? = W.heap[g]?):GlobOk W' g cs:=by
 obtain ⟨C,el,fr,h1,h2⟩:=h
 exact ⟨C,el,fr,e.trans h1,h2⟩
theorem GlobOk.push {W:World} {O:Obj} {g:Nat} {cs:List Value} (h:GlobOk W g cs):GlobOk { W with heap:=W.heap.push O } g cs:=by
 obtain ⟨C,el,fr,h1,h2⟩:=h
 refine ⟨C,el,fr,?_,h2⟩
 show (W.heap.push O)[g]? = _
 have:=(Array.getElem?_eq_some_iff.mp h1).1
 rw [Array.getElem?_push,if_neg (by omega)];exact h1
def parts (b:Nat):AObj→List (Nat × AObj)
 | .fam c sz k vs=>(b,.cells (c.take k) sz)::vs.map fun p=>(p.1,.cells (c.take p.2) sz)
 | o=>[(b,o)]
def Has (h:Heap) (b x:Nat) (o:AObj):Prop:=∃ y,h.get b=some y∧(x,o) ∈ parts b y
def AObj.lone:AObj→Prop
 | .fam _ _ _ _=>False
 | _=>True
theorem vd {b:Nat} {o:AObj} (h:o.lone):parts b o=[(b,o)]:=by cases o<;>first | rfl | exact absurd h id
theorem ORel.lone {ρ:Rho} {e:Ext} {o:AObj} {O:Obj} (h:ORel ρ e o O):o.lone:=by cases h<;>trivial
theorem Has.lone {h:Heap} {b:Nat} {o:AObj} (hb:h.get b=some o) (hl:o.lone):Has h b b o:=⟨o,hb,by rw [vd hl];exact List.mem_singleton.mpr rfl⟩
def AObj.base:AObj→AObj
 | .fam c sz k _=>.cells (c.take k) sz
 | o=>o
theorem yWJ (b:Nat) (o:AObj):(b,o.base) ∈ parts b o:=by cases o<;>exact List.mem_cons_self ..
theorem Has.base {h:Heap} {b:Nat} {o:AObj} (hb:h.get b=some o):Has h b b o.base:=⟨o,hb,yWJ b o⟩
structure HRel (ρ:Rho) (h:Heap) (W:World):Prop where
 low:∀ b o,h.get b=some o→b<big
 obj:∀ b x o,Has h b x o→∃ c e O,ρ x=some (c,e)∧W.heap[c]? = some O∧ORel ρ e o O
 inj:∀ b b' x x' o o' c e e',Has h b x o→Has h b' x' o'→ρ x=some (c,e)→ρ x'=some (c,e')→b=b'
 tab:∀ g cs,Yd g=some cs→GlobOk W g cs
 off:∀ b x o c e,Has h b x o→ρ x=some (c,e)→Yd c=none
 zed:∀ b x x' o o' c e e',Has h b x o→Has h b x' o'→ρ x=some (c,e)→ρ x'=some (c,e')→e.2=e'.2
structure SRel (ρ:Rho) (s:St) (W:World):Prop where
 heap:HRel ρ s.h W
 fresh:∀ b,s.n≤b→ρ b=none
theorem HRel.new {ρ:Rho} {h:Heap} {W:World} (r:HRel ρ h W) {c:Nat} (hc:W.heap.size≤c):Yd c=none:=by
 cases hg:Yd c with
 | none=>rfl
 | some cs =>
  obtain ⟨C,el,fr,h1,_⟩:=r.tab c cs hg
  have:=(Array.getElem?_eq_some_iff.mp h1).1
  omega
theorem HRel.ne {ρ:Rho} {h:Heap} {W:World} (r:HRel ρ h W) {b c:Nat} {e:Ext} {o:AObj} (hb:h.get b=some o) (hr:ρ b=some (c,e)) {g:Nat} {cs:List Value} (hg:Yd g=some cs):g≠c:=fun z=>by
 subst z
 rw [r.off b b _ g e (.base hb) hr] at hg;cases hg
theorem SRel.below {ρ:Rho} {s:St} {W:World} (h:SRel ρ s W) {b:Nat} {x:AObj} (hb:s.h.get b=some x):b<s.n:=by
 obtain ⟨c,e,O,hr,_,_⟩:=h.heap.obj b b _ (.base hb)
 rcases Nat.lt_or_ge b s.n with hl | hl
 ·exact hl
 ·rw [h.fresh b hl] at hr;cases hr
structure After (ρ:Rho) (s:St) (W:World) (ρ':Rho) (s':St) (W':World):Prop where
 src:SRel ρ s W
 rel:SRel ρ' s' W'
 le:ρ.le ρ'
 n:s.n≤s'.n
 m:s'.m≤s.m
 same:∀ b,b<s'.m→b<s.n→s'.h.get b=s.h.get b
 os:W'.os=W.os
 tape:W'.tape=W.tape
 output:W'.output=W.output
 size:W.heap.size≤W'.heap.size
 frame:∀ c,c<W.heap.size→(∀ b x o e,Has s.h b x o→ρ x=some (c,e)→b<s'.m)→W'.heap[c]? = W.heap[c]?
 from_:∀ b x o c e,Has s'.h b x o→ρ' x=some (c,e)→(∃ b0 x0 o0 e0,Has s.h b0 x0 o0∧ρ x0=some (c,e0))∨W.heap.size≤c
 old:∀ b,b<s.n→ρ' b=ρ b
theorem After.refl {ρ:Rho} {s:St} {W:World} (h:SRel ρ s W):After ρ s W ρ s W :=
 ⟨h,h,Rho.le_refl _,Nat.le_refl _,Nat.le_refl _,fun _ _ _=>rfl,rfl,rfl,rfl,Nat.le_refl _,fun _ _ _=>rfl,fun b x o _ e hb hr=>.inl ⟨b,x,o,e,hb,hr⟩,fun _ _=>rfl⟩
theorem After.trans {ρ ρ' ρ'':Rho} {s s' s'':St} {W W' W'':World} (a:After ρ s W ρ' s' W') (b:After ρ' s' W' ρ'' s'' W''):After ρ s W ρ'' s'' W'' where
 src:=a.src
 rel:=b.rel
 le:=Rho.le_trans a.le b.le
 n:=Nat.le_trans a.n b.n
 m:=Nat.le_trans b.m a.m
 same x h1 h2:=(b.same x h1 (Nat.lt_of_lt_of_le h2 a.n)).trans (a.same x (Nat.lt_of_lt_of_le h1 b.m) h2)
 os:=b.os.trans a.os
 tape:=b.tape.trans a.tape
 output:=b.output.trans a.output
 size:=Nat.le_trans a.size b.size
 frame c hc hn:=by
  have h1:=a.frame c hc (fun x p o e hx hr=>Nat.lt_of_lt_of_le (hn x p o e hx hr) b.m)
  refine (b.frame c (Nat.lt_of_lt_of_le hc a.size) ?_).trans h1
  intro x p o e hx hr
  rcases a.from_ x p o c e hx hr with ⟨b0,x0,o0,e0,h0,h0'⟩ | hle
  ·have hm:=hn b0 x0 o0 e0 h0 h0'
   obtain ⟨y,hy,hp⟩:=h0
   have hb:b0<s.n:=a.src.below hy
   have hg:=a.same b0 (Nat.lt_of_lt_of_le hm b.m) hb
   rw [hy] at hg
   have:=a.rel.heap.inj _ _ _ _ _ _ _ _ _ hx ⟨y,hg,hp⟩ hr (a.le _ _ h0')
   rw [this];exact hm
  ·omega
 from_ x p o c e hx hr:=by
  rcases b.from_ x p o c e hx hr with ⟨b0,x0,o0,e0,h0,h0'⟩ | hle
  ·rcases a.from_ b0 x0 o0 c e0 h0 h0' with h | hle
   ·exact .inl h
   ·exact .inr hle
  ·exact .inr (Nat.le_trans a.size hle)
 old x hx:=(b.old x (Nat.lt_of_lt_of_le hx a.n)).trans (a.old x hx)
theorem SRel.mark {ρ:Rho} {h:Heap} {n m m':Nat} {W:World} (r:SRel ρ ⟨h,n,m⟩ W):SRel ρ ⟨h,n,m'⟩ W:=⟨r.heap,r.fresh⟩
def Rho.put (ρ:Rho) (b:Nat) (x:Nat × Ext):Rho:=fun i=>if i=b then some x else ρ i
theorem Rho.put_same (ρ:Rho) (b:Nat) (x:Nat × Ext):ρ.put b x b=some x:=if_pos rfl
theorem Rho.put_ne (ρ:Rho) {b i:Nat} (x:Nat × Ext) (h:i≠b):ρ.put b x i=ρ i:=if_neg h
theorem Rho.put_le {ρ:Rho} {b:Nat} (x:Nat × Ext) (h:ρ b=none):ρ.le (ρ.put b x):=fun i y hi=>by
 by_cases e:i=b
 ·subst e;rw [h] at hi;cases hi
 ·rw [Rho.put_ne _ _ e];exact hi
theorem VTA (x:Option AObj) (t:Heap) (n:Nat) (h:¬ n<big):(Heap.set x depth t n).get n=t.get n :=
 Heap.get_set_big x 39 t n (by unfold big at h;omega)
theorem jH (x:Option AObj) (t:Heap) (n m:Nat) (h:m≠n):(Heap.set x depth t n).get m=t.get m:=Heap.get_set_ne x depth t n m h
theorem St.new_h (s:St) (o:AObj):(s.new o).h=Heap.set (some o) depth s.h s.n:=rfl
theorem St.put_h (s:St) (b:Nat) (o:AObj):(s.put b o).h=Heap.set (some o) depth s.h b:=rfl
theorem St.kill_h (s:St) (b:Nat):(s.kill b).h=Heap.set none depth s.h b:=rfl
theorem vU (x:Option AObj) (t:Heap) (n:Nat) (h:n<big):(Heap.set x depth t n).get n=x :=
 Heap.get_set_same x 39 t n h
theorem jW (a b:Nat):yA a b≤a:=by
 unfold yA
 cases h:Nat.ble a b with
 | true=>exact Nat.le_refl _
 | false=>exact Nat.le_of_lt (Nat.lt_of_not_le fun hle=>by rw [Nat.ble_eq_true_of_le hle] at h;cases h)
theorem jY (a b:Nat):yA a b≤b:=by
 unfold yA
 cases h:Nat.ble a b with
 | true=>exact Nat.le_of_ble_eq_true h
 | false=>exact Nat.le_refl _
theorem yS {A:Array Obj} {c:Nat} {Q:Obj} (h:A[c]? = some Q):c<A.size:=by
 rcases Nat.lt_or_ge c A.size with hl | hl
 ·exact hl
 ·rw [Array.getElem?_eq_none hl] at h;cases h
theorem jj {t:Heap} {n i:Nat} {x:Option AObj} {y:AObj} (h:(Heap.set x depth t n).get i=some y) :
  (i=n∧n<big∧x=some y)∨(t.get i=some y∧(i≠n∨¬ n<big)):=by
 by_cases e:i=n
 ·subst e
  by_cases hb:i<big
  ·rw [vU _ _ _ hb] at h;exact .inl ⟨rfl,hb,h⟩
  ·rw [VTA _ _ _ hb] at h;exact .inr ⟨h,.inr hb⟩
 ·rw [jH _ _ _ _ e] at h;exact .inr ⟨h,.inl e⟩
theorem After.new {ρ:Rho} {s:St} {W W':World} {o:AObj} {O:Obj} {e:Ext} (h:SRel ρ s W)
  (hW:W'={ W with heap:=W.heap.push O }) (ho:ORel (ρ.put s.n (W.heap.size,e)) e o O) :
  After ρ s W (ρ.put s.n (W.heap.size,e)) (s.new o) W':=by
 subst hW
 have hf:ρ s.n=none:=h.fresh _ (Nat.le_refl _)
 have hget:∀ b x,(s.new o).h.get b=some x→(b=s.n∧s.n<big∧x=o)∨(b≠s.n∧s.h.get b=some x):=by
  intro b x hx
  rw [St.new_h] at hx
  rcases jj hx with ⟨rfl,hb,hx⟩ | ⟨hx,_⟩
  ·exact .inl ⟨rfl,hb,by cases hx;rfl⟩
  ·exact .inr ⟨by have:=h.below hx;omega,hx⟩
 have hhas:∀ b x q,Has (s.new o).h b x q→(b=s.n∧x=s.n∧q=o)∨(b≠s.n∧x≠s.n∧Has s.h b x q):=by
  rintro b x q ⟨y,hy,hm⟩
  rcases hget b y hy with ⟨rfl,_,rfl⟩ | ⟨hne,hy⟩
  ·rw [vd ho.lone] at hm
   cases List.mem_singleton.mp hm
   exact .inl ⟨rfl,rfl,rfl⟩
  ·refine .inr ⟨hne,fun hx=>?_,y,hy,hm⟩
   subst hx
   obtain ⟨c,k,Q,h1,_,_⟩:=h.heap.obj b _ q ⟨y,hy,hm⟩
   rw [hf] at h1;cases h1
 refine ⟨h,⟨⟨?_,?_,?_,fun g cs hg=>(h.heap.tab g cs hg).push,?_,?_⟩,?_⟩,Rho.put_le _ hf,Nat.le_succ _,Nat.le_refl _,?_,rfl,rfl,rfl,by simp,?_,?_,fun i hi=>Rho.put_ne _ _ (by omega)⟩
 ·intro b x hx
  rcases hget b x hx with ⟨rfl,hb,_⟩ | ⟨_,hx⟩
  ·exact hb
  ·exact h.heap.low b x hx
 ·intro b p x hx
  rcases hhas b p x hx with ⟨rfl,rfl,rfl⟩ | ⟨_,hne,hx⟩
  ·exact ⟨W.heap.size,e,O,Rho.put_same _ _ _,by simp,ho⟩
  ·obtain ⟨c,k,Q,h1,h2,h3⟩:=h.heap.obj b p x hx
   refine ⟨c,k,Q,by rw [Rho.put_ne _ _ hne];exact h1,?_,h3.mono (Rho.put_le _ hf)⟩
   show (W.heap.push O)[c]? = some Q
   rw [Array.getElem?_push,if_neg (by have:=yS h2;omega)];exact h2
 ·intro b b' p p' x x' c k k' hx hx' hr hr'
  rcases hhas b p x hx with ⟨rfl,rfl,_⟩ | ⟨_,hne,hx⟩<;>rcases hhas b' p' x' hx' with ⟨rfl,rfl,_⟩ | ⟨_,hne',hx'⟩
  ·rfl
  ·rw [Rho.put_same] at hr;cases hr
   rw [Rho.put_ne _ _ hne'] at hr'
   obtain ⟨c,k,Q,h1,h2,_⟩:=h.heap.obj b' p' x' hx'
   rw [h1] at hr';cases hr'
   exact absurd (yS h2) (Nat.lt_irrefl _)
  ·rw [Rho.put_same] at hr';cases hr'
   rw [Rho.put_ne _ _ hne] at hr
   obtain ⟨c,k,Q,h1,h2,_⟩:=h.heap.obj b p x hx
   rw [h1] at hr;cases hr
   exact absurd (yS h2) (Nat.lt_irrefl _)
  ·rw [Rho.put_ne _ _ hne] at hr;rw [Rho.put_ne _ _ hne'] at hr'
   exact h.heap.inj _ _ _ _ _ _ _ _ _ hx hx' hr hr'
 ·intro b p x c k hx hr
  rcases hhas b p x hx with ⟨rfl,rfl,_⟩ | ⟨_,hne,hx⟩
  ·rw [Rho.put_same] at hr;cases hr;exact h.heap.new (Nat.le_refl _)
  ·rw [Rho.put_ne _ _ hne] at hr;exact h.heap.off b p x c k hx hr
 ·intro b p p' x x' c k k' hx hx' hr hr'
  rcases hhas b p x hx with ⟨hb,rfl,_⟩ | ⟨hb,hne,hx⟩<;>rcases hhas b p' x' hx' with ⟨hb',rfl,_⟩ | ⟨hb',hne',hx'⟩
  ·rw [hr] at hr';cases hr';rfl
  ·exact absurd hb hb'
  ·exact absurd hb' hb
  ·rw [Rho.put_ne _ _ hne] at hr;rw [Rho.put_ne _ _ hne'] at hr'
   exact h.heap.zed b p p' x x' c k k' hx hx' hr hr'
 ·intro b hle
  have:s.n+1≤b:=hle
  rw [Rho.put_ne _ _ (by omega)]
  exact h.fresh b (by omega)
 ·intro b _ hlt
  rw [St.new_h,jH _ _ _ _ (by omega)]
 ·intro c hc _
  show (W.heap.push O)[c]? = _
  rw [Array.getElem?_push,if_neg (by omega)]
 ·intro b p x c k hx hr
  rcases hhas b p x hx with ⟨rfl,rfl,_⟩ | ⟨_,hne,hx⟩
  ·rw [Rho.put_same] at hr;cases hr;exact .inr (Nat.le_refl _)
  ·rw [Rho.put_ne _ _ hne] at hr;exact .inl ⟨b,p,x,k,hx,hr⟩
theorem After.put {ρ:Rho} {s:St} {W W':World} {b c:Nat} {e:Ext} {x o:AObj} {O:Obj} (h:SRel ρ s W) (hb:s.h.get b=some x) (hr:ρ b=some (c,e))
  (hsz:W'.heap.size=W.heap.size) (hat:W'.heap[c]? = some O) (hot:∀ i,i≠c→W'.heap[i]? = W.heap[i]?)
  (hos:W'.os=W.os) (htape:W'.tape=W.tape) (hout:W'.output=W.output) (ho:ORel ρ e o O):After ρ s W ρ (s.put b o) W':=by
 have hbig:=h.heap.low b x hb
 have hget:∀ i y,(s.put b o).h.get i=some y→(i=b∧y=o)∨(i≠b∧s.h.get i=some y):=by
  intro i y hy
  rw [St.put_h] at hy
  rcases jj hy with ⟨rfl,_,hy⟩ | ⟨hy,hn | hn⟩
  ·exact .inl ⟨rfl,by cases hy;rfl⟩
  ·exact .inr ⟨hn,hy⟩
  ·exact absurd hbig hn
 have hhas:∀ i p y,Has (s.put b o).h i p y→(i=b∧p=b∧y=o)∨(i≠b∧Has s.h i p y):=by
  rintro i p y ⟨z,hz,hm⟩
  rcases hget i z hz with ⟨rfl,rfl⟩ | ⟨hne,hz⟩
  ·rw [vd ho.lone] at hm
   cases List.mem_singleton.mp hm
   exact .inl ⟨rfl,rfl,rfl⟩
  ·exact .inr ⟨hne,z,hz,hm⟩
 have d:∀ i p y,Has (s.put b o).h i p y→∃ y',Has s.h i p y':=fun i p y hy=>by
  rcases hhas i p y hy with ⟨rfl,rfl,_⟩ | ⟨_,hy⟩
  ·exact ⟨_,.base hb⟩
  ·exact ⟨_,hy⟩
 refine ⟨h,⟨⟨?_,?_,?_,fun g cs hg=>(h.heap.tab g cs hg).of (hot g (h.heap.ne hb hr hg)),fun i p y c' k hy hi=>by obtain ⟨y',hy'⟩:=d i p y hy;exact h.heap.off i p y' c' k hy' hi,
  fun i p p' y z c1 e1 e2 hy hz h1 h2=>by obtain ⟨y',hy'⟩:=d i p y hy;obtain ⟨z',hz'⟩:=d i p' z hz;exact h.heap.zed i p p' y' z' c1 e1 e2 hy' hz' h1 h2⟩,h.fresh⟩,Rho.le_refl _,Nat.le_refl _,jW _ _,?_,hos,htape,hout,by omega,?_,?_,fun _ _=>rfl⟩
 ·intro i y hy
  rcases hget i y hy with ⟨rfl,_⟩ | ⟨_,hy⟩
  ·exact hbig
  ·exact h.heap.low i y hy
 ·intro i p y hy
  rcases hhas i p y hy with ⟨rfl,rfl,rfl⟩ | ⟨he,hy⟩
  ·exact ⟨c,e,O,hr,hat,ho⟩
  ·obtain ⟨c',e',O',h1,h2,h3⟩:=h.heap.obj i p y hy
   refine ⟨c',e',O',h1,?_,h3⟩
   rw [hot c' ?_];exact h2
   rintro rfl
   exact he (h.heap.inj _ _ _ _ _ _ _ _ _ hy (.base hb) h1 hr)
 ·intro i j p q y z c1 e1 e2 hy hz h1 h2
  obtain ⟨y',hy'⟩:=d i p y hy
  obtain ⟨z',hz'⟩:=d j q z hz
  exact h.heap.inj _ _ _ _ _ _ _ _ _ hy' hz' h1 h2
 ·intro i hi _
  have:=jY s.m b
  have hi':i<yA s.m b:=hi
  rw [St.put_h,jH _ _ _ _ (by omega)]
 ·intro i _ hn
  refine hot i fun he=>?_
  have h1:b<yA s.m b:=hn b b _ e (.base hb) (he▸hr)
  have:=jY s.m b
  omega
 ·intro i p y c1 e1 hy h1
  obtain ⟨y',hy'⟩:=d i p y hy
  exact .inl ⟨i,p,y',e1,hy',h1⟩
theorem After.kill {ρ:Rho} {s:St} {W:World} (b:Nat) (h:SRel ρ s W):After ρ s W ρ (s.kill b) W:=by
 have d:∀ i y,(s.kill b).h.get i=some y→s.h.get i=some y:=by
  intro i y hy
  rw [St.kill_h] at hy
  rcases jj hy with ⟨_,_,hy⟩ | ⟨hy,_⟩
  ·cases hy
  ·exact hy
 have d':∀ i p y,Has (s.kill b).h i p y→Has s.h i p y:=fun i p y ⟨z,hz,hm⟩=>⟨z,d i z hz,hm⟩
 refine ⟨h,⟨⟨fun i y hy=>h.heap.low i y (d i y hy),fun i p y hy=>h.heap.obj i p y (d' i p y hy),fun i j p q y z c1 e1 e2 hy hz h1 h2=>h.heap.inj _ _ _ _ _ _ _ _ _ (d' i p y hy) (d' j q z hz) h1 h2,h.heap.tab,fun i p y c k hy hi=>h.heap.off i p y c k (d' i p y hy) hi,fun i p q y z c1 e1 e2 hy hz h1 h2=>h.heap.zed _ _ _ _ _ _ _ _ (d' i p y hy) (d' i q z hz) h1 h2⟩,h.fresh⟩,
  Rho.le_refl _,Nat.le_refl _,jW _ _,?_,rfl,rfl,rfl,Nat.le_refl _,fun _ _ _=>rfl,fun i p y c1 e1 hy h1=>.inl ⟨i,p,y,e1,d' i p y hy,h1⟩,fun _ _=>rfl⟩
 intro i hi _
 have:=jY s.m b
 have hi':i<yA s.m b:=hi
 rw [St.kill_h,jH _ _ _ _ (by omega)]
theorem After.renew {ρ:Rho} {s:St} {W W':World} {b c:Nat} {e e':Ext} {x o:AObj} {O:Obj} (h:SRel ρ s W) (hb:s.h.get b=some x) (hr:ρ b=some (c,e))
  (hsz:W'.heap.size=W.heap.size) (hat:W'.heap[c]? = some O) (hot:∀ i,i≠c→W'.heap[i]? = W.heap[i]?)
  (hos:W'.os=W.os) (htape:W'.tape=W.tape) (hout:W'.output=W.output) (ho:ORel (ρ.put s.n (c,e')) e' o O) :
  After ρ s W (ρ.put s.n (c,e')) ((s.kill b).new o) W':=by
 have hf:ρ s.n=none:=h.fresh _ (Nat.le_refl _)
 have hle:=Rho.put_le (c,e') hf
 have hget:∀ i y,((s.kill b).new o).h.get i=some y→(i=s.n∧s.n<big∧y=o)∨(i≠s.n∧i≠b∧s.h.get i=some y):=by
  intro i y hy
  rw [St.new_h] at hy
  rcases jj hy with ⟨rfl,hb',hy⟩ | ⟨hy,_⟩
  ·exact .inl ⟨rfl,hb',by cases hy;rfl⟩
  ·rw [St.kill_h] at hy
   rcases jj hy with ⟨_,_,hy⟩ | ⟨hy,hn | hn⟩
   ·cases hy
   ·exact .inr ⟨by have:=h.below hy;omega,hn,hy⟩
   ·exact absurd (h.heap.low b x hb) hn
 have hhas:∀ i p y,Has ((s.kill b).new o).h i p y→(i=s.n∧p=s.n∧y=o)∨(p≠s.n∧i≠b∧Has s.h i p y):=by
  rintro i p y ⟨z,hz,hm⟩
  rcases hget i z hz with ⟨rfl,_,rfl⟩ | ⟨_,hne,hz⟩
  ·rw [vd ho.lone] at hm
   cases List.mem_singleton.mp hm
   exact .inl ⟨rfl,rfl,rfl⟩
  ·refine .inr ⟨fun hp=>?_,hne,z,hz,hm⟩
   subst hp
   obtain ⟨c,k,Q,h1,_,_⟩:=h.heap.obj i _ y ⟨z,hz,hm⟩
   rw [hf] at h1;cases h1
 refine ⟨h,⟨⟨?_,?_,?_,fun g cs hg=>(h.heap.tab g cs hg).of (hot g (h.heap.ne hb hr hg)),?_,?_⟩,?_⟩,hle,Nat.le_succ _,jW _ _,?_,hos,htape,hout,by omega,?_,?_,fun i hi=>Rho.put_ne _ _ (by omega)⟩
 ·intro i y hy
  rcases hget i y hy with ⟨rfl,hb',_⟩ | ⟨_,_,hy⟩
  ·exact hb'
  ·exact h.heap.low i y hy
 ·intro i p y hy
  rcases hhas i p y hy with ⟨rfl,rfl,rfl⟩ | ⟨hn,hnb,hy⟩
  ·exact ⟨c,e',O,Rho.put_same _ _ _,hat,ho⟩
  ·obtain ⟨c1,k,Q,h1,h2,h3⟩:=h.heap.obj i p y hy
   refine ⟨c1,k,Q,by rw [Rho.put_ne _ _ hn];exact h1,?_,h3.mono hle⟩
   rw [hot c1 ?_];exact h2
   rintro rfl
   exact hnb (h.heap.inj _ _ _ _ _ _ _ _ _ hy (.base hb) h1 hr)
 ·intro i j p q y z c1 e1 e2 hy hz h1 h2
  rcases hhas i p y hy with ⟨rfl,rfl,_⟩ | ⟨hn,hnb,hy⟩<;>rcases hhas j q z hz with ⟨rfl,rfl,_⟩ | ⟨hn',hnb',hz⟩
  ·rfl
  ·rw [Rho.put_same] at h1;cases h1
   rw [Rho.put_ne _ _ hn'] at h2
   exact absurd (h.heap.inj _ _ _ _ _ _ _ _ _ hz (.base hb) h2 hr) hnb'
  ·rw [Rho.put_same] at h2;cases h2
   rw [Rho.put_ne _ _ hn] at h1
   exact absurd (h.heap.inj _ _ _ _ _ _ _ _ _ hy (.base hb) h1 hr) hnb
  ·rw [Rho.put_ne _ _ hn] at h1;rw [Rho.put_ne _ _ hn'] at h2
   exact h.heap.inj _ _ _ _ _ _ _ _ _ hy hz h1 h2
 ·intro i p y c1 k hy h1
  rcases hhas i p y hy with ⟨rfl,rfl,_⟩ | ⟨hn,_,hy⟩
  ·rw [Rho.put_same] at h1;cases h1;exact h.heap.off b b _ _ _ (.base hb) hr
  ·rw [Rho.put_ne _ _ hn] at h1;exact h.heap.off i p y c1 k hy h1
 ·intro i p p' y z c1 k k' hy hz h1 h2
  rcases hhas i p y hy with ⟨hi,rfl,_⟩ | ⟨hn,_,hy⟩<;>rcases hhas i p' z hz with ⟨hi',rfl,_⟩ | ⟨hn',_,hz⟩
  ·rw [h1] at h2;cases h2;rfl
  ·obtain ⟨u,hu,_⟩:=hz
   have:=h.below hu;omega
  ·obtain ⟨u,hu,_⟩:=hy
   have:=h.below hu;omega
  ·rw [Rho.put_ne _ _ hn] at h1;rw [Rho.put_ne _ _ hn'] at h2
   exact h.heap.zed i p p' y z c1 k k' hy hz h1 h2
 ·intro i hi
  have:s.n+1≤i:=hi
  rw [Rho.put_ne _ _ (by omega)]
  exact h.fresh i (by omega)
 ·intro i hi hlt
  have h1:i<yA s.m b:=hi
  have:=jY s.m b
  rw [St.new_h,jH _ _ _ _ (show i≠(s.kill b).n from by show i≠s.n;omega),St.kill_h,jH _ _ _ _ (by omega)]
 ·intro i _ hn
  refine hot i fun he=>?_
  have h1:b<yA s.m b:=hn b b _ e (.base hb) (he▸hr)
  have:=jY s.m b
  omega
 ·intro i p y c1 k hy h1
  rcases hhas i p y hy with ⟨rfl,rfl,_⟩ | ⟨hn,_,hy⟩
  ·rw [Rho.put_same] at h1;cases h1;exact .inl ⟨b,b,_,e,.base hb,hr⟩
  ·rw [Rho.put_ne _ _ hn] at h1;exact .inl ⟨i,p,y,k,hy,h1⟩
theorem After.fam {ρ:Rho} {s:St} {W W':World} {b x d dn:Nat} {e en:Ext} {y o q:AObj} (h:SRel ρ s W) (hb:s.h.get b=some y) (hx:Has s.h b x q) (hρ:ρ x=some (d,e))
  (hnew:(dn=d∧en.2=e.2)∨W.heap.size≤dn) (hparts:∀ p r,(p,r) ∈ parts b o→p=s.n∨∃ r',(p,r') ∈ parts b y)
  (hobj:∀ p r,(p,r) ∈ parts b o→∃ c k O,ρ.put s.n (dn,en) p=some (c,k)∧W'.heap[c]? = some O∧ORel (ρ.put s.n (dn,en)) k r O)
  (hsz:W.heap.size≤W'.heap.size) (hot:∀ i,i≠d→i<W.heap.size→W'.heap[i]? = W.heap[i]?) (hos:W'.os=W.os) (htape:W'.tape=W.tape) (hout:W'.output=W.output) :
  After ρ s W (ρ.put s.n (dn,en)) ⟨(s.put b o).h,Nat.succ s.n,(s.put b o).m⟩ W':=by
 have hf:ρ s.n=none:=h.fresh _ (Nat.le_refl _)
 have hle:=Rho.put_le (dn,en) hf
 have hbig:=h.heap.low b y hb
 have hbn:=h.below hb
 have hget:∀ i z,(s.put b o).h.get i=some z→(i=b∧z=o)∨(i≠b∧s.h.get i=some z):=by
  intro i z hz
  rw [St.put_h] at hz
  rcases jj hz with ⟨rfl,_,hz⟩ | ⟨hz,hn | hn⟩
  ·exact .inl ⟨rfl,by cases hz;rfl⟩
  ·exact .inr ⟨hn,hz⟩
  ·exact absurd hbig hn
 have hold:∀ i p r,Has s.h i p r→p≠s.n:=fun i p r hp z=>by
  subst z
  obtain ⟨c,k,Q,h1,_,_⟩:=h.heap.obj i _ r hp
  rw [hf] at h1;cases h1
 have hhas:∀ i p r,Has (s.put b o).h i p r→(i=b∧(p,r) ∈ parts b o∧(p=s.n∨(p≠s.n∧∃ r',Has s.h b p r')))∨(i≠b∧p≠s.n∧Has s.h i p r):=by
  rintro i p r ⟨z,hz,hm⟩
  rcases hget i z hz with ⟨rfl,rfl⟩ | ⟨hne,hz⟩
  ·refine .inl ⟨rfl,hm,?_⟩
   rcases hparts p r hm with hp | ⟨r',hr'⟩
   ·exact .inl hp
   ·exact .inr ⟨hold i p r' ⟨y,hb,hr'⟩,r',y,hb,hr'⟩
  ·exact .inr ⟨hne,hold i p r ⟨z,hz,hm⟩,z,hz,hm⟩
 have hat:∀ p c k,(p=s.n∨(p≠s.n∧∃ r',Has s.h b p r'))→ρ.put s.n (dn,en) p=some (c,k)→(∃ p' r' k',Has s.h b p' r'∧ρ p'=some (c,k')∧k.2=k'.2)∨(W.heap.size≤c∧p=s.n):=by
  rintro p c k (rfl | ⟨hp,r',hr'⟩) hc
  ·rw [Rho.put_same] at hc;cases hc
   rcases hnew with ⟨rfl,h2⟩ | hnew
   ·exact .inl ⟨x,q,e,hx,hρ,h2⟩
   ·exact .inr ⟨hnew,rfl⟩
  ·rw [Rho.put_ne _ _ hp] at hc
   exact .inl ⟨p,r',k,hr',hc,rfl⟩
 have hthere:∀ i p r c k,Has s.h i p r→ρ p=some (c,k)→c<W.heap.size:=fun i p r c k hp hc=>by
  obtain ⟨c',k',Q,h1,h2,_⟩:=h.heap.obj i p r hp
  rw [hc] at h1;cases h1
  exact yS h2
 refine ⟨h,⟨⟨?_,?_,?_,?_,?_,?_⟩,?_⟩,hle,Nat.le_succ _,jW _ _,?_,hos,htape,hout,hsz,?_,?_,fun i hi=>Rho.put_ne _ _ (by omega)⟩
 ·intro i z hz
  rcases hget i z hz with ⟨rfl,_⟩ | ⟨_,hz⟩
  ·exact hbig
  ·exact h.heap.low i z hz
 ·intro i p r hp
  rcases hhas i p r hp with ⟨rfl,hm,_⟩ | ⟨hne,hpn,hp⟩
  ·exact hobj p r hm
  ·obtain ⟨c,k,O,h1,h2,h3⟩:=h.heap.obj i p r hp
   refine ⟨c,k,O,by rw [Rho.put_ne _ _ hpn];exact h1,?_,h3.mono hle⟩
   rw [hot c ?_ (yS h2)];exact h2
   rintro rfl
   exact hne (h.heap.inj _ _ _ _ _ _ _ _ _ hp hx h1 hρ)
 ·intro i j p p' r r' c k k' hp hp' h1 h2
  rcases hhas i p r hp with ⟨hi,_,hq⟩ | ⟨hne,hpn,ho1⟩<;>rcases hhas j p' r' hp' with ⟨hj,_,hq'⟩ | ⟨hne',hpn',ho2⟩
  ·rw [hi,hj]
  ·rw [Rho.put_ne _ _ hpn'] at h2
   rcases hat p c k hq h1 with ⟨p1,r1,k1,q1,q2,_⟩ | ⟨hge,_⟩
   ·rw [hi];exact h.heap.inj _ _ _ _ _ _ _ _ _ q1 ho2 q2 h2
   ·have:=hthere _ _ _ _ _ ho2 h2;omega
  ·rw [Rho.put_ne _ _ hpn] at h1
   rcases hat p' c k' hq' h2 with ⟨p1,r1,k1,q1,q2,_⟩ | ⟨hge,_⟩
   ·rw [hj];exact h.heap.inj _ _ _ _ _ _ _ _ _ ho1 q1 h1 q2
   ·have:=hthere _ _ _ _ _ ho1 h1;omega
  ·rw [Rho.put_ne _ _ hpn] at h1;rw [Rho.put_ne _ _ hpn'] at h2
   exact h.heap.inj _ _ _ _ _ _ _ _ _ ho1 ho2 h1 h2
 ·intro g cs hg
  obtain ⟨C,el,fr,h1,h2⟩:=h.heap.tab g cs hg
  refine ⟨C,el,fr,?_,h2⟩
  rw [hot g ?_ (yS h1)];exact h1
  rintro rfl
  rw [h.heap.off b x q g e hx hρ] at hg;cases hg
 ·intro i p r c k hp hr
  rcases hhas i p r hp with ⟨rfl,_,hq⟩ | ⟨_,hpn,hp⟩
  ·rcases hat p c k hq hr with ⟨p1,r1,k1,q1,q2,_⟩ | ⟨hge,_⟩
   ·exact h.heap.off _ _ _ _ _ q1 q2
   ·exact h.heap.new hge
  ·rw [Rho.put_ne _ _ hpn] at hr;exact h.heap.off i p r c k hp hr
 ·intro i p p' r r' c k k' hp hp' h1 h2
  rcases hhas i p r hp with ⟨hi,_,hq⟩ | ⟨hne,hpn,hp⟩<;>rcases hhas i p' r' hp' with ⟨hi',_,hq'⟩ | ⟨hne',hpn',hp'⟩
  ·rcases hat p c k hq h1 with ⟨p1,r1,k1,q1,q2,q3⟩ | ⟨hge,hp⟩<;>rcases hat p' c k' hq' h2 with ⟨p2,r2,k2,u1,u2,u3⟩ | ⟨hge',hp'⟩
   ·rw [q3,u3];exact h.heap.zed _ _ _ _ _ _ _ _ q1 u1 q2 u2
   ·have:=hthere _ _ _ _ _ q1 q2;omega
   ·have:=hthere _ _ _ _ _ u1 u2;omega
   ·subst hp;subst hp';rw [h1] at h2;cases h2;rfl
  ·exact absurd hi hne'
  ·exact absurd hi' hne
  ·rw [Rho.put_ne _ _ hpn] at h1;rw [Rho.put_ne _ _ hpn'] at h2
   exact h.heap.zed _ _ _ _ _ _ _ _ hp hp' h1 h2
 ·intro i hi
  have:s.n+1≤i:=hi
  rw [Rho.put_ne _ _ (by omega)]
  exact h.fresh i (by omega)
 ·intro i hi hlt
  have:=jY s.m b
  have hi':i<yA s.m b:=hi
  show (s.put b o).h.get i=_
  rw [St.put_h,jH _ _ _ _ (by omega)]
 ·intro i hi hn
  refine hot i (fun he=>?_) hi
  have h1:b<yA s.m b:=hn b x q e hx (he▸hρ)
  have:=jY s.m b
  omega
 ·intro i p r c k hp hr
  rcases hhas i p r hp with ⟨rfl,_,hq⟩ | ⟨_,hpn,hp⟩
  ·rcases hat p c k hq hr with ⟨p1,r1,k1,q1,q2,_⟩ | ⟨hge,_⟩
   ·exact .inl ⟨_,p1,r1,k1,q1,q2⟩
   ·exact .inr hge
  ·rw [Rho.put_ne _ _ hpn] at hr;exact .inl ⟨i,p,r,k,hp,hr⟩
theorem SRel.drew {ρ:Rho} {s:St} {W W':World} (h:SRel ρ s W) (hW:W'.heap=W.heap):SRel ρ s W' :=
 ⟨⟨h.heap.low,fun b x o hb=>by rw [hW];exact h.heap.obj b x o hb,h.heap.inj,fun g cs hg=>(h.heap.tab g cs hg).of (by rw [hW]),h.heap.off,h.heap.zed⟩,h.fresh⟩
theorem After.drew {ρ:Rho} {s:St} {W W':World} (h:SRel ρ s W) (hW:W'.heap=W.heap) (hos:W'.os=W.os) (htape:W'.tape=W.tape) (hout:W'.output=W.output):After ρ s W ρ s W' :=
 ⟨h,h.drew hW,Rho.le_refl _,Nat.le_refl _,Nat.le_refl _,fun _ _ _=>rfl,hos,htape,hout,by rw [hW];exact Nat.le_refl _,fun _ _ _=>by rw [hW],fun b x o _ e hb hr=>.inl ⟨b,x,o,e,hb,hr⟩,fun _ _=>rfl⟩
theorem After.settle_plain {ρ ρ':Rho} {s s':St} {W W':World} (hr:SRel ρ s W) (a:After ρ ⟨s.h,s.n,far⟩ W ρ' s' W') (hm:s.n≤s'.m):After ρ s W ρ s W':=by
 have hsame:∀ b,b<s.n→s'.h.get b=s.h.get b:=fun b hb=>a.same b (Nat.lt_of_lt_of_le hb hm) hb
 refine ⟨hr,⟨⟨hr.heap.low,?_,hr.heap.inj,a.rel.heap.tab,hr.heap.off,hr.heap.zed⟩,hr.fresh⟩,Rho.le_refl _,Nat.le_refl _,Nat.le_refl _,fun _ _ _=>rfl,a.os,a.tape,a.output,a.size,fun c hc _=>a.frame c hc (fun b x o e ⟨y,hy,_⟩ _=>Nat.lt_of_lt_of_le (hr.below hy) hm),fun b x o _ e hb hr=>.inl ⟨b,x,o,e,hb,hr⟩,fun _ _=>rfl⟩
 rintro b x o ⟨y,hy,hp⟩
 have hlt:=hr.below hy
 obtain ⟨c,e,O,h1,h2,h3⟩:=a.rel.heap.obj b x o ⟨y,by rw [hsame b hlt];exact hy,hp⟩
 obtain ⟨c0,e0,O0,h0,_,h4⟩:=hr.heap.obj b x o ⟨y,hy,hp⟩
 have:=a.le _ _ h0
 rw [h1] at this;cases this
 exact ⟨c,e,O,h0,h2,h4.back a.le h3⟩
theorem After.mark {ρ ρ':Rho} {s s':St} {W W':World} (a:After ρ ⟨s.h,s.n,far⟩ W ρ' s' W') (m:Nat) (hm:m≤s.m) (hle:∀ b,b<m→b<s.n→b<s'.m):After ρ s W ρ' ⟨s'.h,s'.n,m⟩ W' :=
 ⟨⟨a.src.heap,a.src.fresh⟩,⟨a.rel.heap,a.rel.fresh⟩,a.le,a.n,hm,fun b h1 h2=>a.same b (hle b h1 h2) h2,a.os,a.tape,a.output,a.size,fun c hc hn=>a.frame c hc (fun b x o e hb hr=>hle b (hn b x o e hb hr) (by obtain ⟨y,hy,_⟩:=hb;exact a.src.below hy)),a.from_,a.old⟩
structure Sub (n0:Nat) (all h:Heap):Prop where
 sub:∀ b o,h.get b=some o→all.get b=some o
 low:∀ b,b<n0→h.get b=all.get b
theorem VE {n0:Nat} {all:Heap} {Q:Heap→Prop} (hall:Q all) (hset:∀ h b o,Q h→n0≤b→all.get b=some o→Q (Heap.set (some o) depth h b)):∀ (n:Nat) {l:List AV} {h:Heap},Q h→Q (reach n0 all n l h)
 | 0,_,_,_=>hall
 | n+1,l,h,hs=>by
  have ih:∀ {l h},Q h→Q (reach n0 all n l h):=fun h=>VE hall hset n h
  have blk:∀ (r:List AV) (b:Nat),Q (VF n0 all (reach n0 all n) r h b):=by
   intro r b
   unfold VF
   split
   ·exact ih hs
   ·rename_i hb
    have hb:=Nat.le_of_ble_eq_true hb
    split
    ·exact ih hs
    ·split
     ·exact ih hs
     ·rename_i o ho
      split
      ·exact ih (hset h b o hs hb ho)
      ·exact hall
  show Q (ySJ n0 all (reach n0 all n) l h)
  unfold ySJ
  cases l with
  | nil=>exact hs
  | cons v r =>
   show Q (yRJ n0 all (reach n0 all n) r h v)
   unfold yRJ
   split
   ·exact blk _ _
   ·exact blk _ _
   ·exact blk _ _
   ·exact blk _ _
   ·exact blk _ _
   ·exact blk _ _
   ·exact ih hs
   ·exact ih hs
   ·exact ih hs
   ·exact hall
   ·exact ih hs
theorem JVA {n0:Nat} {all h:Heap} (n:Nat) (l:List AV) (hl:∀ b,b<n0→h.get b=all.get b):∀ b,b<n0→(reach n0 all n l h).get b=all.get b :=
 VE (Q:=fun h=>∀ b,b<n0→h.get b=all.get b) (fun _ _=>rfl) (fun h b o hq hb _ i hi=>by rw [jH _ _ _ _ (by omega)];exact hq i hi) n hl
theorem WuA {n0:Nat} {all h:Heap} (n:Nat) (l:List AV) (hl:∀ b o,h.get b=some o→all.get b=some o):∀ b o,(reach n0 all n l h).get b=some o→all.get b=some o :=
 VE (Q:=fun h=>∀ b o,h.get b=some o→all.get b=some o) (fun _ _ h=>h) (fun h b o hq _ ho i y hy=>by
  rcases jj hy with ⟨rfl,_,hy⟩ | ⟨hy,_⟩
  ·cases hy;exact ho
  ·exact hq i y hy) n hl
theorem Sub.has {n0:Nat} {all h:Heap} (hs:Sub n0 all h) {b x:Nat} {o:AObj} (hb:Has h b x o):Has all b x o:=by
 obtain ⟨y,hy,hp⟩:=hb
 exact ⟨y,hs.sub b y hy,hp⟩
theorem After.sub {ρ ρ':Rho} {s s':St} {W W':World} (a:After ρ s W ρ' s' W') {h:Heap} (hs:Sub s.n s'.h h):After ρ s W ρ' ⟨h,s'.n,s'.m⟩ W' where
 src:=a.src
 rel:=⟨⟨fun b o hb=>a.rel.heap.low b o (hs.sub b o hb),fun b x o hb=>a.rel.heap.obj b x o (hs.has hb),fun b b' x x' o o' c e e' hb hb' h1 h2=>a.rel.heap.inj _ _ _ _ _ _ _ _ _ (hs.has hb) (hs.has hb') h1 h2,a.rel.heap.tab,fun b x o c e hb hr=>a.rel.heap.off b x o c e (hs.has hb) hr,fun b x x' o o' c e e' hb hb' h1 h2=>a.rel.heap.zed _ _ _ _ _ _ _ _ (hs.has hb) (hs.has hb') h1 h2⟩,a.rel.fresh⟩
 le:=a.le
 n:=a.n
 m:=a.m
 same b h1 h2:=by rw [hs.low b h2];exact a.same b h1 h2
 os:=a.os
 tape:=a.tape
 output:=a.output
 size:=a.size
 frame:=a.frame
 from_ b x o c e hb hr:=a.from_ b x o c e (hs.has hb) hr
 old:=a.old
end Go.Abs
end
