/- Regions whose order is drawn: what the check says, and which orders there are. -/
import Derived.Test.YtoklbkgcclkejaaAbsFr
import Derived.Orders
noncomputable section
namespace Go.Abs
variable {ops:Array Oper}
inductive Bef (ops:Array Oper):Nat→Nat→Prop
 | edge {i j:Nat} {o:Oper} {e:Edge}:ops[j]? = some o→e ∈ o.after.toList→always e=true→e.on=i→Bef ops i j
 | trans {i j k:Nat}:Bef ops i j→Bef ops j k→Bef ops i k
def Closed (ops:Array Oper) (pre:List Nat):Prop:=∀ j ∈ pre,∀ o e,ops[j]? = some o→e ∈ o.after.toList→always e=true→e.on ∈ pre
theorem Bef.mem {pre:List Nat} (hc:Closed ops pre) {i j:Nat} (h:Bef ops i j):j ∈ pre→i ∈ pre:=by
 induction h with
 | edge ho he ha hi=>intro hj;rw [← hi];exact hc _ hj _ _ ho he ha
 | trans _ _ h1 h2=>intro hk;exact h1 (h2 hk)
theorem Bef.of_ready {pre:List Nat} (hc:Closed ops pre) {i j:Nat} (h:Bef ops i j):(∀ o e,ops[j]? = some o→e ∈ o.after.toList→always e=true→e.on ∈ pre)→i ∈ pre:=by
 induction h with
 | edge ho he ha hi=>intro hj;rw [← hi];exact hj _ _ ho he ha
 | trans h1 _ _ h2=>intro hk;exact h1.mem hc (h2 hk)
theorem wkA:∀ {ds:List DOp} {n k:Nat},(Jg ds n).testBit k=true→∃ d,ds[n]? = some d∧d.mask.testBit k=true
 | [],n,k,h=>by simp [Jg] at h
 | d::r,0,k,h=>⟨d,by simp,h⟩
 | d::r,n+1,k,h=>by
  obtain ⟨x,h1,h2⟩:=wkA (ds:=r) (n:=n) h
  exact ⟨x,by simpa using h1,h2⟩
theorem zDA:∀ {ds:List DOp} {n:Nat} {d:DOp},ds[n]? = some d→Jg ds n=d.mask
 | [],n,d,h=>by simp at h
 | x::r,0,d,h=>by simp at h;subst h;rfl
 | x::r,n+1,d,h=>zDA (ds:=r) (n:=n) (by simpa using h)
theorem zCA {ds:List DOp} {k:Nat}:∀ {es:List Edge},(VN ds es).testBit k=true→∃ e ∈ es,always e=true∧(k=e.on∨(Jg ds e.on).testBit k=true)
 | [],h=>by simp [VN] at h
 | e::r,h=>by
  unfold VN at h
  split at h
  ·rename_i ha
   have h:((2 ^ e.on ||| Jg ds e.on) ||| VN ds r).testBit k=true:=h
   rw [Nat.testBit_or,Nat.testBit_or,Bool.or_eq_true,Bool.or_eq_true,Nat.testBit_two_pow] at h
   rcases h with (h | h) | h
   ·exact ⟨e,List.mem_cons_self ..,ha,.inl (of_decide_eq_true h).symm⟩
   ·exact ⟨e,List.mem_cons_self ..,ha,.inr h⟩
   ·obtain ⟨e',h1,h2⟩:=zCA h
    exact ⟨e',List.mem_cons_of_mem _ h1,h2⟩
  ·obtain ⟨e',h1,h2⟩:=zCA h
   exact ⟨e',List.mem_cons_of_mem _ h1,h2⟩
theorem Va {i:Nat}:∀ {es:List Edge},Yh i es=true→∀ e ∈ es,(∃ d,e.ground=.gcOnly d)∨e.on<i
 | [],_,e,he=>by cases he
 | x::r,h,e,he=>by
  unfold Yh at h
  split at h
  ·rename_i d hg
   rcases List.mem_cons.mp he with rfl | he
   ·exact .inl ⟨d,hg⟩
   ·exact Va h e he
  ·split at h
   ·rename_i hb
    rcases List.mem_cons.mp he with rfl | he
    ·exact .inr (Nat.le_of_ble_eq_true hb)
    ·exact Va h e he
   ·cases h
theorem VoA {e:Edge} (h:always e=true) (md:Region.Mode):Region.binds md e=true:=by
 unfold always at h
 unfold Region.binds
 split at h
 ·cases h
 ·cases h
 ·rename_i h1 h2
  split
  ·rename_i q;exact absurd q (h1 _)
  ·rename_i q;exact absurd q (h2 _)
  ·rfl
theorem gOA {i:Nat} {es:List Edge} (h:Yh i es=true) {e:Edge} (he:e ∈ es) (hg:∀ d,e.ground≠.gcOnly d):e.on<i:=by
 rcases Va h e he with ⟨d,hd⟩ | h
 ·exact absurd hd (hg d)
 ·exact h
theorem ZmJ {e:Edge} (h:always e=true):∀ d,e.ground≠.gcOnly d:=by
 intro d hd
 unfold always at h
 rw [hd] at h
 cases h
structure DSpec (ops:Array Oper) (i:Nat) (d:DOp) (o:Oper):Prop where
 dst:d.dst=o.dst
 looks:d.looks=yf ops o
 cls:d.cls=yD o.op
 mask:∀ k,d.mask.testBit k=true→Bef ops k i
 edges:Yh i o.after.toList=true
 call:d.call=Jm o.op
 ad:d.ad=vYA o.op
theorem vNA:∀ {suf:List Oper} {i:Nat} {ds out:List DOp},ops.toList.drop i=suf→ds.length=i→(∀ k d,ds[k]? = some d→∃ o,ops[k]? = some o∧DSpec ops k d o) →
  Yi ops i suf ds=some out→out.length=ops.size∧∀ k d,out[k]? = some d→∃ o,ops[k]? = some o∧DSpec ops k d o
 | [],i,ds,out,hd,hl,hs,h=>by
  cases h
  have:ops.toList.length≤i:=by
   have:=congrArg List.length hd
   simp only [List.length_drop,List.length_nil] at this
   omega
  have h2:ds.length≤ops.size:=by
   rcases Nat.lt_or_ge ops.size ds.length with hlt | hge
   ·obtain ⟨o,ho,_⟩:=hs ops.size (ds[ops.size]) (List.getElem?_eq_getElem hlt)
    simp at ho
   ·exact hge
  refine ⟨?_,hs⟩
  simp at this
  omega
 | o::r,i,ds,out,hd,hl,hs,h=>by
  have ho:ops[i]? = some o:=by
   have:(ops.toList.drop i)[0]? = some o:=by rw [hd];rfl
   rw [List.getElem?_drop] at this
   simpa using this
  have hd':ops.toList.drop (i+1)=r:=by rw [← List.drop_drop,hd];rfl
  unfold Yi at h
  split at h
  ·rename_i he
   refine vNA hd' (by simp [hl]) ?_ h
   intro k d hk
   rw [List.getElem?_append] at hk
   split at hk
   ·exact hs k d hk
   ·rename_i hlt
    have hk0:k=i:=by
     rcases Nat.eq_zero_or_pos (k - ds.length) with h0 | h0
     ·omega
     ·have:([⟨o.dst,yf ops o,yD o.op,VN ds o.after.toList,Jm o.op,vYA o.op⟩]:List DOp)[k - ds.length]? = none:=by
       rw [List.getElem?_eq_none_iff];simp;omega
      rw [this] at hk;cases hk
    subst hk0
    rw [hl,Nat.sub_self] at hk
    simp at hk
    subst hk
    refine ⟨o,ho,rfl,rfl,rfl,?_,he,rfl,rfl⟩
    intro x hx
    obtain ⟨e,he1,ha,he2⟩:=zCA hx
    rcases he2 with rfl | he2
    ·exact .edge ho he1 ha rfl
    ·obtain ⟨d,hd1,hd2⟩:=wkA he2
     obtain ⟨o',_,sp⟩:=hs _ _ hd1
     exact .trans (sp.mask x hd2) (.edge ho he1 ha rfl)
  ·cases h
theorem jJA {t:Nat}:∀ {l:List Nat},YdJ t l=false→t ∉ l
 | [],_=>by simp
 | u::r,h=>by
  unfold YdJ at h
  split at h
  ·cases h
  ·rename_i hb
   intro hm
   rcases List.mem_cons.mp hm with rfl | hm
   ·rw [Nat.beq_refl] at hb;cases hb
   ·exact jJA h hm
theorem zvA {a b:Nat} (h:Nat.beq a b=false):a≠b:=fun e=>by subst e;rw [Nat.beq_refl] at h;cases h
theorem ZtA {a b:DOp} (h:jOA a b=true) :
  (∀ t,a.dst=some t→t ∉ b.looks)∧(∀ t,b.dst=some t→t ∉ a.looks)∧(b.cls=3→a.cls≠3∧a.cls≠1):=by
 unfold jOA at h
 split at h
 ·cases h
 rename_i h1
 split at h
 ·cases h
 rename_i h2
 have s1:∀ t,a.dst=some t→t ∉ b.looks:=fun t e=>by rw [e] at h1;exact jJA h1
 have s2:∀ t,b.dst=some t→t ∉ a.looks:=fun t e=>by rw [e] at h2;exact jJA h2
 refine ⟨s1,s2,?_⟩
 split at h
 ·rename_i h3;exact fun e=>absurd e (zvA h3)
 ·split at h
  ·cases h
  ·rename_i h4
   split at h
   ·cases h
   ·rename_i h5;exact fun _=>⟨zvA h4,zvA h5⟩
theorem VH {i:Nat} {a b:DOp} (h:jrA i a b=true):(∀ t,a.dst=some t→b.dst≠some t)∧(b.mask.testBit i=true∨jOA a b=true):=by
 unfold jrA at h
 split at h
 ·cases h
 rename_i h1
 refine ⟨fun t e e'=>?_,?_⟩
 ·rw [e,e'] at h1
  exact zvA h1 rfl
 ·split at h
  ·rename_i hb;exact .inl hb
  ·exact .inr h
theorem Vj {i:Nat} {a:DOp}:∀ {l:List DOp},WQ i a l=true→∀ b ∈ l,jrA i a b=true
 | [],_,b,hb=>by cases hb
 | x::r,h,b,hb=>by
  unfold WQ at h
  split at h
  ·rename_i hx
   rcases List.mem_cons.mp hb with rfl | hb
   ·exact hx
   ·exact Vj h b hb
  ·cases h
theorem zlA:∀ {l:List DOp} {n:Nat},zmA n l=true→∀ i j a b,i<j→l[i]? = some a→l[j]? = some b→jrA (n+i) a b=true
 | [],n,_,i,j,a,b,_,ha,_=>by simp at ha
 | x::r,n,h,i,j,a,b,hij,ha,hb=>by
  unfold zmA at h
  split at h
  ·rename_i hx
   cases j with
   | zero=>omega
   | succ j =>
    have hb:r[j]? = some b:=by simpa using hb
    cases i with
    | zero =>
     simp at ha
     subst ha
     exact Vj hx b (List.mem_of_getElem? hb)
    | succ i =>
     have:=zlA h i j a b (by omega) (by simpa using ha) hb
     rw [show n+(i+1)=Nat.succ n+i from by omega]
     exact this
  ·cases h
theorem gCA {j:Nat} {h:DOp}:∀ {l:List DOp} {n i:Nat} {a:DOp},l[i]? = some a→a.cls=2→h.mask.testBit (n+i)=false→a.mask.testBit j=false→vHA j h n l=true
 | [],n,i,a,ha,_,_,_=>by simp at ha
 | x::r,n,i,a,ha,hc,h1,h2=>by
  cases i with
  | zero =>
   simp at ha
   subst ha
   unfold vHA
   rw [Nat.add_zero] at h1
   rw [hc,h1,h2]
  | succ i =>
   have ih:=gCA (n:=Nat.succ n) (l:=r) (i:=i) (a:=a) (by simpa using ha) hc (by rw [show Nat.succ n+i=n+(i+1) from by omega];exact h1) h2
   unfold vHA
   split
   ·exact ih
   ·split
    ·exact ih
    ·split
     ·exact ih
     ·rfl
theorem zNA {t j:Nat}:∀ {l:List DOp} {n:Nat},early t j n l=true→∀ x d,l[x]? = some d→j≤n+x→d.dst≠some t
 | [],n,_,x,d,hd,_=>by simp at hd
 | a::r,n,h,x,d,hd,hx=>by
  unfold early at h
  cases x with
  | zero =>
   simp at hd
   subst hd
   split at h
   ·rename_i hb
    have:Nat.ble j n=true:=Nat.ble_eq_true_of_le (by omega)
    rw [this] at hb;cases hb
   ·split at h
    ·rename_i hd;rw [hd];simp
    ·rename_i u hd
     split at h
     ·cases h
     ·rename_i hne
      rw [hd]
      intro e
      cases e
      exact zvA hne rfl
  | succ x =>
   have hd:r[x]? = some d:=by simpa using hd
   have go:early t j (Nat.succ n) r=true→d.dst≠some t:=fun h=>zNA h x d hd (by omega)
   split at h
   ·exact go h
   ·split at h
    ·exact go h
    ·split at h
     ·cases h
     ·exact go h
theorem gNA {ds:List DOp} {j t mask:Nat}:∀ {r:List DOp} {n:Nat} {l:List (Nat × Nat)},YA ds j t mask n r=some l →
  ∀ x a,r[x]? = some a→a.cls=2→mask.testBit (n+x)=false→a.mask.testBit j=false→∀ u,a.ad=some u→(t,u) ∈ l∧early t j 0 ds=true∧early u (n+x) 0 ds=true
 | [],n,l,_,x,a,ha,_,_,_,_,_=>by simp at ha
 | b::r,n,l,h,x,a,ha,hc,h1,h2,u,hu=>by
  unfold YA at h
  cases x with
  | zero =>
   simp at ha
   subst ha
   rw [Nat.add_zero] at h1 ⊢
   rw [hc,h1,h2,hu] at h
   have h:(match early t j 0 ds,early u n 0 ds,YA ds j t mask (Nat.succ n) r with
    | true,true,some l=>some ((t,u)::l)
    | _,_,_=>none)=some l:=h
   split at h
   ·rename_i e1 e2 e3;cases h;exact ⟨List.mem_cons_self ..,e1,e2⟩
   ·cases h
  | succ x =>
   have ha:r[x]? = some a:=by simpa using ha
   have e:n+(x+1)=Nat.succ n+x:=by omega
   rw [e] at h1 ⊢
   have go:∀ {l},YA ds j t mask (Nat.succ n) r=some l→(t,u) ∈ l∧early t j 0 ds=true∧early u (Nat.succ n+x) 0 ds=true:=fun h=>gNA h x a ha hc h1 h2 u hu
   split at h
   ·exact go h
   ·split at h
    ·exact go h
    ·split at h
     ·exact go h
     ·split at h
      ·exact go h
      ·split at h
       ·rename_i e3;cases h
        obtain ⟨q1,q2⟩:=go e3
        exact ⟨List.mem_cons_of_mem _ q1,q2⟩
       ·cases h
theorem vLA {ds:List DOp}:∀ {r:List DOp} {n:Nat} {l:List (Nat × Nat)},VZ ds n r=some l →
  ∀ x d,r[x]? = some d→d.cls=3→d.call=false→∀ t,d.ad=some t→∃ l',YA ds (n+x) t d.mask 0 ds=some l'∧∀ p ∈ l',p ∈ l
 | [],n,l,_,x,d,hd,_,_,_,_=>by simp at hd
 | b::r,n,l,h,x,d,hd,hc,hl,t,ht=>by
  unfold VZ at h
  cases x with
  | zero =>
   simp at hd
   subst hd
   rw [hc,hl,ht] at h
   have h:(match YA ds n t b.mask 0 ds,VZ ds (Nat.succ n) r with
    | some l,some m=>some (l++m)
    | _,_=>none)=some l:=h
   split at h
   ·rename_i e1 e2;cases h;exact ⟨_,e1,fun p hp=>List.mem_append_left _ hp⟩
   ·cases h
  | succ x =>
   have hd:r[x]? = some d:=by simpa using hd
   have e:n+(x+1)=Nat.succ n+x:=by omega
   rw [e]
   have go:∀ {l},VZ ds (Nat.succ n) r=some l→∃ l',YA ds (Nat.succ n+x) t d.mask 0 ds=some l'∧∀ p ∈ l',p ∈ l:=fun h=>vLA h x d hd hc hl t ht
   split at h
   ·split at h
    ·rename_i e1 e2;cases h
     obtain ⟨l',q1,q2⟩:=go e2
     exact ⟨l',q1,fun p hp=>List.mem_append_right _ (q2 p hp)⟩
    ·cases h
   ·exact go h
theorem ybA {ds:List DOp} {j mask:Nat}:∀ {r:List DOp} {n:Nat} {l:List Nat},YI ds j mask n r=some l →
  ∀ i a,r[i]? = some a→a.cls=2→mask.testBit (n+i)=false→a.mask.testBit j=false→∀ u,a.ad=some u→u ∈ l∧early u (n+i) 0 ds=true
 | [],n,l,_,i,a,ha,_,_,_,_,_=>by simp at ha
 | x::r,n,l,h,i,a,ha,hc,h1,h2,u,hu=>by
  have next:∀ {l'},YI ds j mask (Nat.succ n) r=some l'→∀ k,i=k+1→u ∈ l'∧early u (n+i) 0 ds=true:=by
   intro l' h' k hk
   subst hk
   have:=ybA h' k a (by simpa using ha) hc (by rw [show Nat.succ n+k=n+(k+1) from by omega];exact h1) h2 u hu
   rw [show Nat.succ n+k=n+(k+1) from by omega] at this
   exact this
  unfold YI at h
  cases i with
  | zero =>
   simp at ha
   subst ha
   rw [Nat.add_zero] at h1 ⊢
   rw [hc] at h
   simp only at h
   rw [h1,h2,hu] at h
   simp only at h
   split at h
   ·rename_i he hl
    cases h
    exact ⟨List.mem_cons_self ..,he⟩
   ·cases h
  | succ k =>
   split at h
   ·exact next h k rfl
   ·split at h
    ·exact next h k rfl
    ·split at h
     ·exact next h k rfl
     ·split at h
      ·exact next h k rfl
      ·split at h
       ·rename_i hl
        cases h
        obtain ⟨q1,q2⟩:=next hl k rfl
        exact ⟨List.mem_cons_of_mem _ q1,q2⟩
       ·cases h
structure Asked (ops:Array Oper) (ds:List DOp) (ends:List (Nat × Nat)):Prop where
 lt:∀ i j,Bef ops i j→i<j
 apart:∀ (i j:Nat) (o o':Oper) (t:Nat),ops[i]? = some o→ops[j]? = some o'→o.dst=some t→o'.dst=some t→i=j
 pair:∀ (i j:Nat) (o o':Oper),i<j→ops[i]? = some o→ops[j]? = some o'→Bef ops i j ∨
  ((∀ t,o.dst=some t→t ∉ yf ops o')∧(∀ t,o'.dst=some t→t ∉ yf ops o)∧(yD o'.op=3→yD o.op≠3∧yD o.op≠1))
 flag:∀ (i j:Nat) (o o':Oper),ops[i]? = some o→ops[j]? = some o'→yD o.op=2→yD o'.op=3→Jm o'.op=true→¬ Bef ops i j→¬ Bef ops j i→Yf ds j o'.op=true
 watch:∀ (i j:Nat) (o o':Oper),ops[i]? = some o→ops[j]? = some o'→yD o.op=2→¬ Bef ops i j→¬ Bef ops j i→∀ l u,vaA ds j=some l→vYA o.op=some u →
  u ∈ l∧∀ (k:Nat) (q:Oper),i≤k→ops[k]? = some q→q.dst≠some u
 ends:∀ (i j:Nat) (o o':Oper),ops[i]? = some o→ops[j]? = some o'→yD o.op=2→yD o'.op=3→Jm o'.op=false→¬ Bef ops i j→¬ Bef ops j i →
  ∀ t u,vYA o'.op=some t→vYA o.op=some u→(t,u) ∈ ends∧(∀ (k:Nat) (q:Oper),j≤k→ops[k]? = some q→q.dst≠some t)∧(∀ (k:Nat) (q:Oper),i≤k→ops[k]? = some q→q.dst≠some u)
theorem jAJ {ds:List DOp} (h:Yi ops 0 ops.toList []=some ds):∀ (i:Nat) (o:Oper),ops[i]? = some o→∃ d,ds[i]? = some d∧DSpec ops i d o:=by
 obtain ⟨hl,hs⟩:=vNA (i:=0) (by rw [List.drop_zero]) rfl (fun k d hk=>by simp at hk) h
 intro i o ho
 have hi:i<ds.length:=by rw [hl];exact (Array.getElem?_eq_some_iff.mp ho).1
 obtain ⟨o',ho',sp⟩:=hs i _ (List.getElem?_eq_getElem hi)
 rw [ho] at ho'
 cases ho'
 exact ⟨_,List.getElem?_eq_getElem hi,sp⟩
theorem checked {ds:List DOp} {ends:List (Nat × Nat)} (h:Yi ops 0 ops.toList []=some ds) (hp:zmA 0 ds=true) (hends:VZ ds 0 ds=some ends):Asked ops ds ends:=by
 have get:=jAJ h
 have lt:∀ i j,Bef ops i j→i<j:=by
  intro i j hb
  induction hb with
  | edge ho he ha hi =>
   obtain ⟨d,_,sp⟩:=get _ _ ho
   rw [← hi];exact gOA sp.edges he (ZmJ ha)
  | trans _ _ h1 h2=>exact Nat.lt_trans h1 h2
 have two:∀ i j o o',i<j→ops[i]? = some o→ops[j]? = some o'→∃ a b,DSpec ops i a o∧DSpec ops j b o'∧jrA i a b=true:=by
  intro i j o o' hij ho ho'
  obtain ⟨a,ha,sa⟩:=get i o ho
  obtain ⟨b,hb,sb⟩:=get j o' ho'
  have:=zlA hp i j a b hij ha hb
  rw [Nat.zero_add] at this
  exact ⟨a,b,sa,sb,this⟩
 refine ⟨lt,?_,?_,?_,?_,?_⟩
 ·intro i j o o' t ho ho' h1 h2
  rcases Nat.lt_trichotomy i j with hij | hij | hij
  ·obtain ⟨a,b,sa,sb,hp⟩:=two i j o o' hij ho ho'
   exact absurd (sb.dst.trans h2) ((VH hp).1 t (sa.dst.trans h1))
  ·exact hij
  ·obtain ⟨a,b,sa,sb,hp⟩:=two j i o' o hij ho' ho
   exact absurd (sb.dst.trans h1) ((VH hp).1 t (sa.dst.trans h2))
 ·intro i j o o' hij ho ho'
  obtain ⟨a,b,sa,sb,hp⟩:=two i j o o' hij ho ho'
  rcases (VH hp).2 with hb | hb
  ·exact .inl (sb.mask i hb)
  ·obtain ⟨h1,h2,h3⟩:=ZtA hb
   rw [sa.dst,sb.looks] at h1
   rw [sb.dst,sa.looks] at h2
   rw [sa.cls,sb.cls] at h3
   exact .inr ⟨h1,h2,h3⟩
 ·intro i j o o' ho ho' hc _ hcall hn hn'
  obtain ⟨a,ha,sa⟩:=get i o ho
  obtain ⟨b,hb,sb⟩:=get j o' ho'
  unfold Yf
  rw [hcall]
  show vHA j ⟨none,[],3,Jg ds j,true,none⟩ 0 ds=true
  refine gCA ha (sa.cls.trans hc) ?_ ?_
  ·rw [Nat.zero_add,zDA hb]
   cases e:b.mask.testBit i with
   | false=>rfl
   | true=>exact absurd (sb.mask i e) hn
  ·cases e:a.mask.testBit j with
   | false=>rfl
   | true=>exact absurd (sa.mask j e) hn'
 ·intro i j o o' ho ho' hc hn hn' l u hw hu
  obtain ⟨a,ha,sa⟩:=get i o ho
  obtain ⟨b,hb,sb⟩:=get j o' ho'
  unfold vaA at hw
  have hq:=ybA hw i a ha (sa.cls.trans hc) (by
   rw [Nat.zero_add,zDA hb]
   cases e:b.mask.testBit i with
   | false=>rfl
   | true=>exact absurd (sb.mask i e) hn) (by
   cases e:a.mask.testBit j with
   | false=>rfl
   | true=>exact absurd (sa.mask j e) hn') u (sa.ad.trans hu)
  rw [Nat.zero_add] at hq
  refine ⟨hq.1,fun k q hk hq'=>?_⟩
  obtain ⟨d,hd,sd⟩:=get k q hq'
  rw [← sd.dst]
  exact zNA hq.2 k d hd (by omega)
 ·intro i j o o' ho ho' hc hc' hcall hn hn' t u ht hu
  obtain ⟨a,ha,sa⟩:=get i o ho
  obtain ⟨b,hb,sb⟩:=get j o' ho'
  obtain ⟨l,h1,h2⟩:=vLA hends j b hb (sb.cls.trans hc') (sb.call.trans hcall) t (sb.ad.trans ht)
  have hq:=gNA h1 i a ha (sa.cls.trans hc) (by
   rw [Nat.zero_add]
   cases e:b.mask.testBit i with
   | false=>rfl
   | true=>exact absurd (sb.mask i e) hn) (by
   rw [Nat.zero_add]
   cases e:a.mask.testBit j with
   | false=>rfl
   | true=>exact absurd (sa.mask j e) hn') u (sa.ad.trans hu)
  rw [Nat.zero_add,Nat.zero_add] at hq
  have low:∀ (x y:Nat),early x y 0 ds=true→∀ (k:Nat) (q:Oper),y≤k→ops[k]? = some q→q.dst≠some x:=by
   intro x y he k q hk hq
   obtain ⟨d,hd,sd⟩:=get k q hq
   rw [← sd.dst]
   exact zNA he k d hd (by omega)
  exact ⟨h2 _ hq.1,low t j hq.2.1,low u i hq.2.2⟩
def Fits (ops:Array Oper):List Nat→List Nat→Prop
 | pre,[]=>∀ i,i<ops.size→i ∈ pre
 | pre,i::rest=>i<ops.size∧i ∉ pre∧(∀ o e,ops[i]? = some o→e ∈ o.after.toList→always e=true→e.on ∈ pre)∧Fits ops (i::pre) rest
structure Tops (md:Region.Mode) (ops:Array Oper) (ord:List Nat):Prop where
 all:∀ i,i<ops.size→i ∈ ord
 back:∀ l₁ i l₂,ord=l₁++i::l₂→∀ o e,ops[i]? = some o→e ∈ o.after.toList→Region.binds md e=true→e.on ∈ l₁∧e.on<ops.size
theorem Wl {md:Region.Mode} (h:∀ (i:Nat) (o:Oper) (e:Edge),ops[i]? = some o→e ∈ o.after.toList→Region.binds md e=true→e.on<i):Tops md ops (List.range ops.size) where
 all i hi:=List.mem_range.mpr hi
 back l₁ i l₂ he o e ho hm hb:=by
  have hi:(List.range ops.size)[l₁.length]? = some i:=by rw [he,List.getElem?_append_right (Nat.le_refl _)];simp
  have hsz:=(Array.getElem?_eq_some_iff.mp ho).1
  have hlt:=h i o e ho hm hb
  have hil:i=l₁.length:=by
   rw [List.getElem?_eq_some_iff] at hi
   obtain ⟨h1,h2⟩:=hi
   rw [List.getElem_range] at h2
   exact h2.symm
  refine ⟨?_,by omega⟩
  have hk:l₁[e.on]? = some e.on:=by
   rw [← List.getElem?_append_left (l₂:=i::l₂) (by omega),← he,List.getElem?_range (by omega)]
  exact List.mem_of_getElem? hk
theorem gkA {i:Nat}:∀ {es:List Edge},glA i es=true→∀ e ∈ es,e.on<i
 | [],_,e,he=>by cases he
 | x::r,h,e,he=>by
  unfold glA at h
  split at h
  ·rename_i hb
   rcases List.mem_cons.mp he with rfl | he
   ·exact Nat.le_of_ble_eq_true hb
   ·exact gkA h e he
  ·cases h
theorem jVA:∀ {l:List Oper} {n:Nat},vlA n l=true→∀ x o,l[x]? = some o→glA (n+x) o.after.toList=true
 | [],n,_,x,o,ho=>by simp at ho
 | a::r,n,h,x,o,ho=>by
  unfold vlA at h
  split at h
  ·rename_i hb
   cases x with
   | zero=>simp at ho;subst ho;exact hb
   | succ x =>
    have:=jVA h x o (by simpa using ho)
    rw [show n+(x+1)=Nat.succ n+x from by omega]
    exact this
  ·cases h
theorem Yc {l:List Nat}:∀ {es:List Edge},wV l es=true→∀ e ∈ es,Region.binds .gc e=true→e.on ∈ l
 | [],_,e,he,_=>by cases he
 | x::r,h,e,he,hb=>by
  unfold wV at h
  split at h
  ·rename_i hg
   rcases List.mem_cons.mp he with rfl | he
   ·unfold inGc at hg
    split at hg
    ·rename_i d hd
     unfold Region.binds at hb
     rw [hd] at hb
     cases hb
    ·cases hg
   ·exact Yc h e he hb
  ·split at h
   ·rename_i hc
    rcases List.mem_cons.mp he with rfl | he
    ·exact List.contains_iff_mem.mp hc
    ·exact Yc h e he hb
   ·cases h
theorem jQA {l:List Nat}:∀ {os:List Oper} {n i:Nat},WI l n os=some i→∃ x o,i=n+x∧os[x]? = some o∧wV l o.after.toList=true
 | [],n,i,h=>by cases h
 | a::r,n,i,h=>by
  unfold WI at h
  have go:WI l (Nat.succ n) r=some i→∃ x o,i=n+x∧(a::r)[x]? = some o∧wV l o.after.toList=true:=fun h=>by
   obtain ⟨x,o,h1,h2,h3⟩:=jQA h
   exact ⟨x+1,o,by omega,by simpa using h2,h3⟩
  split at h
  ·exact go h
  ·split at h
   ·rename_i hi;cases h;exact ⟨0,a,rfl,by simp,hi⟩
   ·exact go h
theorem jMA {os:List Oper}:∀ {n:Nat} {l:List Nat},(∀ l₁ i l₂,l=l₁++i::l₂→i<os.length∧∀ o,os[i]? = some o→wV l₁ o.after.toList=true) →
  ∀ l₁ i l₂,jNA os n l=l₁++i::l₂→i<os.length∧∀ o,os[i]? = some o→wV l₁ o.after.toList=true
 | 0,l,h,l₁,i,l₂,he=>h l₁ i l₂ he
 | n+1,l,h,l₁,i,l₂,he=>by
  unfold jNA at he
  split at he
  ·rename_i k hk
   refine jMA (l:=l++[k]) ?_ l₁ i l₂ he
   intro m₁ x m₂ hm
   obtain ⟨y,o,h1,h2,h3⟩:=jQA hk
   rw [Nat.zero_add] at h1
   subst h1
   rcases List.eq_nil_or_concat m₂ with rfl | ⟨m,z,rfl⟩
   ·have:=List.append_inj' hm rfl
    obtain ⟨rfl,h5⟩:=this
    cases h5
    refine ⟨(List.getElem?_eq_some_iff.mp h2).1,fun q hq=>?_⟩
    rw [h2] at hq;cases hq
    exact h3
   ·have h5:l++[k]=(m₁++x::m)++[z]:=by rw [hm];simp
    have:=(List.append_inj' h5 rfl).1
    exact h m₁ x m this
  ·exact h l₁ i l₂ he
theorem zSA {l:List Nat}:∀ {n:Nat},jaJ n l=true→∀ i,i<n→i ∈ l
 | 0,_,i,hi=>by omega
 | n+1,h,i,hi=>by
  unfold jaJ at h
  split at h
  ·rename_i hc
   by_cases e:i=n
   ·subst e;exact List.contains_iff_mem.mp hc
   ·exact zSA h i (by omega)
  ·cases h
theorem WUJ (h:WwJ ops.toList=true):∃ ord,Tops .gc ops ord:=by
 unfold WwJ at h
 split at h
 ·rename_i hb
  refine ⟨_,Wl fun i o e ho hm _=>?_⟩
  have:=jVA hb i o (by rw [Array.getElem?_toList];exact ho)
  rw [Nat.zero_add] at this
  exact gkA this e hm
 ·have hsp:=jMA (os:=ops.toList) (n:=ops.toList.length) (l:=[]) (fun l₁ i l₂ he=>by simp at he)
  refine ⟨jNA ops.toList ops.toList.length [],⟨fun i hi=>zSA h i (by simpa using hi),?_⟩⟩
  intro l₁ i l₂ he o e ho hm hb
  have h1:=Yc ((hsp l₁ i l₂ he).2 o (by rw [Array.getElem?_toList];exact ho)) e hm hb
  refine ⟨h1,?_⟩
  obtain ⟨m₁,m₂,hm'⟩:=List.append_of_mem h1
  have:=(hsp m₁ e.on (m₂++i::l₂) (by rw [he,hm'];simp)).1
  simpa using this
theorem gSA {p q:Nat→Bool} (hpq:∀ i,q i=true→p i=true):∀ {l:List Nat} {i:Nat},i ∈ l→p i=true→q i=false→(l.filter q).length<(l.filter p).length
 | [],i,hi,_,_=>by cases hi
 | x::r,i,hi,hp,hq=>by
  have le:(r.filter q).length≤(r.filter p).length:=by
   clear hi
   induction r with
   | nil=>simp
   | cons y r ih =>
    rw [List.filter_cons,List.filter_cons]
    by_cases h1:q y=true
    ·rw [if_pos h1,if_pos (hpq y h1)];simpa using ih
    ·rw [if_neg h1]
     split
     ·simp;omega
     ·exact ih
  rw [List.filter_cons,List.filter_cons]
  rcases List.mem_cons.mp hi with rfl | hi
  ·rw [if_neg (by rw [hq];simp),if_pos hp];simp;omega
  ·have ih:=gSA hpq hi hp hq
   by_cases h1:q x=true
   ·rw [if_pos h1,if_pos (hpq x h1)];simpa using ih
   ·rw [if_neg h1]
    split
    ·simp;omega
    ·exact ih
def unlisted (n:Nat) (listed:Array Bool):List Nat:=(List.range n).filter fun i=>!listed.getD i true
theorem VP {md:Region.Mode} {ord:List Nat} (tp:Tops md ops ord):∀ (fuel t:Nat) (listed:Array Bool) (pre:List Nat),
  listed.size=ops.size→(∀ i,listed.getD i false=true↔i ∈ pre)→(unlisted ops.size listed).length≤fuel→Fits ops pre (Region.linearise.go md ops fuel t listed [])
 | 0,t,listed,pre,hsz,hm,hf=>by
  have e:Region.linearise.go md ops 0 t listed []=[]:=rfl
  rw [e]
  intro i hi
  have hnil:unlisted ops.size listed=[]:=List.eq_nil_of_length_eq_zero (by omega)
  have:i ∉ unlisted ops.size listed:=by rw [hnil];simp
  unfold unlisted at this
  rw [List.mem_filter] at this
  have h1:listed.getD i true=true:=by
   cases e:listed.getD i true with
   | true=>rfl
   | false=>exact absurd ⟨List.mem_range.mpr hi,by rw [e];rfl⟩ this
  rw [← hm]
  rw [Array.getD_eq_getD_getElem?,Array.getElem?_eq_getElem (by omega)] at h1 ⊢
  exact h1
 | fuel+1,t,listed,pre,hsz,hm,hf=>by
  have hgd:∀ i,i<ops.size→listed.getD i true=listed.getD i false:=by
   intro i hi
   rw [Array.getD_eq_getD_getElem?,Array.getD_eq_getD_getElem?,Array.getElem?_eq_getElem (by omega)]
   rfl
  have ready:∀ i,i ∈ Region.ready md ops listed↔(i<ops.size∧i ∉ pre∧∀ o e,ops[i]? = some o→e ∈ o.after.toList→Region.binds md e=true→e.on ∈ pre):=by
   intro i
   unfold Region.ready
   rw [List.mem_filter,List.mem_range]
   constructor
   ·rintro ⟨h1,h2⟩
    rw [Bool.and_eq_true] at h2
    refine ⟨h1,?_,?_⟩
    ·rw [← hm,← hgd i h1]
     intro z
     rw [z] at h2
     cases h2.1
    ·intro o e ho hmem hb
     have h3:=h2.2
     rw [ho] at h3
     simp only [Option.map_some,Option.getD_some] at h3
     have h4:=(Array.all_eq_true_iff_forall_mem.mp h3) e (Array.mem_def.mpr hmem)
     rw [hb] at h4
     rw [← hm]
     simpa using h4
   ·rintro ⟨h1,h2,h3⟩
    refine ⟨h1,?_⟩
    rw [Bool.and_eq_true]
    constructor
    ·rw [hgd i h1]
     cases e:listed.getD i false with
     | false=>rfl
     | true=>exact absurd ((hm i).mp e) h2
    ·have ho:=Array.getElem?_eq_getElem h1
     rw [ho]
     simp only [Option.map_some,Option.getD_some]
     refine Array.all_eq_true_iff_forall_mem.mpr fun e hmem=>?_
     cases hb:Region.binds md e with
     | false=>rfl
     | true =>
      rw [(hm e.on).mpr (h3 _ _ ho (Array.mem_def.mp hmem) hb)]
      rfl
  have eq:Region.linearise.go md ops (fuel+1) t listed []=match (Region.ready md ops listed)[t % (Region.ready md ops listed).length]? with
    | some i=>Region.linearise.go md ops fuel (t / (Region.ready md ops listed).length) (listed.setIfInBounds i true) [i]
    | none=>[].reverse:=rfl
  rw [eq]
  cases hi:(Region.ready md ops listed)[t % (Region.ready md ops listed).length]? with
  | none =>
   have hnil:Region.ready md ops listed=[]:=by
    cases hr:Region.ready md ops listed with
    | nil=>rfl
    | cons x xs =>
     rw [hr] at hi
     have hlt:t % (x::xs).length<(x::xs).length:=Nat.mod_lt _ (by simp)
     simp at hi
     simp at hlt
     omega
   show Fits ops pre []
   have key:∀ l₂ l₁:List Nat,ord=l₁++l₂→(∀ x ∈ l₁,x<ops.size→x ∈ pre)→∀ x ∈ ord,x<ops.size→x ∈ pre:=by
    intro l₂
    induction l₂ with
    | nil=>intro l₁ he h x hx;rw [he,List.append_nil] at hx;exact h x hx
    | cons y l₂ ih =>
     intro l₁ he h
     refine ih (l₁++[y]) (by rw [he];simp) ?_
     intro x hx hlt
     rcases List.mem_append.mp hx with hx | hx
     ·exact h x hx hlt
     ·have hxy:x=y:=by simpa using hx
      subst hxy
      by_cases hp:x ∈ pre
      ·exact hp
      ·have:x ∈ Region.ready md ops listed:=(ready x).mpr ⟨hlt,hp,fun o e ho hmem hb=>by
        obtain ⟨q1,q2⟩:=tp.back l₁ x l₂ he o e ho hmem hb
        exact h _ q1 q2⟩
       rw [hnil] at this
       cases this
   exact fun i hlt=>key ord [] rfl (fun x hx=>by cases hx) i (tp.all i hlt) hlt
  | some i =>
   simp only []
   rw [linearise_go_acc,List.reverse_singleton,List.singleton_append]
   obtain ⟨h1,h2,h3⟩:=(ready i).mp (List.mem_of_getElem? hi)
   have hset:∀ k,(listed.setIfInBounds i true).getD k false=true↔k ∈ i::pre:=by
    intro k
    rw [List.mem_cons,Array.getD_eq_getD_getElem?]
    by_cases e:i=k
    ·subst e
     rw [Array.getElem?_setIfInBounds_self_of_lt (by omega)]
     simp
    ·rw [Array.getElem?_setIfInBounds_ne e,← Array.getD_eq_getD_getElem?,hm]
     constructor
     ·exact .inr
     ·rintro (z | z)
      ·exact absurd z.symm e
      ·exact z
   refine ⟨h1,h2,fun o e ho hmem ha=>h3 o e ho hmem (VoA ha md),VP tp fuel _ _ (i::pre) (by rw [Array.size_setIfInBounds];exact hsz) hset ?_⟩
   have hc:(unlisted ops.size (listed.setIfInBounds i true)).length<(unlisted ops.size listed).length:=by
    refine gSA ?_ (i:=i) (List.mem_range.mpr h1) ?_ ?_
    ·intro k hk
     rw [Array.getD_eq_getD_getElem?] at hk ⊢
     by_cases e:i=k
     ·subst e
      rw [Array.getElem?_setIfInBounds_self_of_lt (by omega)] at hk
      simp at hk
     ·rw [Array.getElem?_setIfInBounds_ne e] at hk
      exact hk
    ·rw [hgd i h1]
     cases e:listed.getD i false with
     | false=>rfl
     | true=>exact absurd ((hm i).mp e) h2
    ·rw [Array.getD_eq_getD_getElem?,Array.getElem?_setIfInBounds_self_of_lt (by omega)]
     rfl
   omega
theorem Jj {md:Region.Mode} {ord:List Nat} (tp:Tops md ops ord) (t:Nat):Fits ops [] (Region.linearise md ops t):=by
 refine VP tp _ _ _ _ (by simp) ?_ ?_
 ·intro i
  rw [Array.getD_eq_getD_getElem?]
  by_cases hi:i<ops.size
  ·rw [Array.getElem?_eq_getElem (by simpa using hi)];simp
  ·rw [Array.getElem?_eq_none (by simpa using hi)];simp
 ·unfold unlisted
  exact Nat.le_trans (List.length_filter_le _ _) (by simp)
theorem WZ {ds:List DOp} (h:Yi ops 0 ops.toList []=some ds) (hg:WwJ ops.toList=true) (mixed:Bool) (t:Nat):Fits ops [] (Region.schedule mixed ops t):=by
 have back:∀ md,md≠.gc→∀ (i:Nat) (o:Oper) (e:Edge),ops[i]? = some o→e ∈ o.after.toList→Region.binds md e=true→e.on<i:=by
  intro md hmd i o e ho hm hb
  obtain ⟨d,_,sp⟩:=jAJ h i o ho
  refine gOA sp.edges hm (fun d hd=>?_)
  unfold Region.binds at hb
  rw [hd] at hb
  simp at hb
  exact hmd hb
 obtain ⟨ord,tg⟩:=WUJ hg
 unfold Region.schedule
 split
 ·exact Jj (Wl (back .any (fun z=>by cases z))) t
 ·split
  ·exact Jj (Wl (back .text (fun z=>by cases z))) _
  ·exact Jj tg _
end Go.Abs
end
