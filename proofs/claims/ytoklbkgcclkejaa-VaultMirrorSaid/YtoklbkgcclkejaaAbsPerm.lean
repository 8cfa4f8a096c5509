/- A region's operations in another order than that of the text. -/
import Derived.Test.YtoklbkgcclkejaaAbsOrd
noncomputable section
namespace Go.Abs
variable {P:Program}
theorem zjA {i:Nat}:∀ {l:List Nat},i ∈ l→l[JK i l]? = some i
 | [],h=>by cases h
 | x::r,h=>by
  unfold JK
  split
  ·rename_i hb;have:=Nat.eq_of_beq_eq_true hb;subst this;rfl
  ·rename_i hb
   rcases List.mem_cons.mp h with rfl | h
   ·rw [Nat.beq_refl] at hb;cases hb
   ·show (x::r)[JK i r+1]? = _
    rw [List.getElem?_cons_succ];exact zjA h
theorem WwA {i:Nat}:∀ {l:List Nat},i ∉ l→JK i l=l.length
 | [],_=>rfl
 | x::r,h=>by
  unfold JK
  split
  ·rename_i hb;have:=Nat.eq_of_beq_eq_true hb;subst this;exact absurd (List.mem_cons_self ..) h
  ·show JK i r+1=r.length+1
   rw [WwA fun z=>h (List.mem_cons_of_mem _ z)]
theorem wDJ:∀ {l:List Nat},wfA l=true→∀ (k i:Nat),l[k]? = some i→JK i l=k
 | [],_,k,i,hk=>by simp at hk
 | x::r,h,k,i,hk=>by
  unfold wfA at h
  split at h
  ·cases h
  rename_i hx
  cases k with
  | zero =>
   simp at hk
   subst hk
   unfold JK
   rw [Nat.beq_refl]
  | succ k =>
   have hk:r[k]? = some i:=by simpa using hk
   have hne:Nat.beq x i=false:=by
    cases e:Nat.beq x i with
    | false=>rfl
    | true =>
     have:=Nat.eq_of_beq_eq_true e
     subst this
     exact absurd (List.mem_of_getElem? hk) (jJA hx)
   unfold JK
   rw [hne]
   show JK i r+1=k+1
   rw [wDJ h k i hk]
theorem Wr {ord:List Nat}:∀ {es:List Edge} {e:Edge},e ∈ jlA ord es→∃ x ∈ es,always x=true∧e.on=JK x.on ord
 | [],e,h=>by cases h
 | y::r,e,h=>by
  unfold jlA at h
  split at h
  ·rename_i ha
   rcases List.mem_cons.mp h with rfl | h
   ·exact ⟨y,List.mem_cons_self ..,ha,rfl⟩
   ·obtain ⟨x,h1,h2⟩:=Wr h
    exact ⟨x,List.mem_cons_of_mem _ h1,h2⟩
  ·obtain ⟨x,h1,h2⟩:=Wr h
   exact ⟨x,List.mem_cons_of_mem _ h1,h2⟩
theorem wWA {R:Array Oper} {ord:List Nat}:∀ {l:List Nat} {out:List Oper},wEJ R ord l=some out→out.length=l.length ∧
  ∀ (k i:Nat),l[k]? = some i→∃ o,R[i]? = some o∧out[k]? = some (relab ord o)
 | [],out,h=>by cases h;exact ⟨rfl,fun k i hk=>by simp at hk⟩
 | x::r,out,h=>by
  unfold wEJ at h
  split at h
  ·rename_i o l h1 h2
   cases h
   obtain ⟨e1,e2⟩:=wWA h2
   refine ⟨by simp [e1],fun k i hk=>?_⟩
   cases k with
   | zero=>simp at hk;subst hk;exact ⟨o,h1,rfl⟩
   | succ k =>
    obtain ⟨q,q1,q2⟩:=e2 k i (by simpa using hk)
    exact ⟨q,q1,by simpa using q2⟩
  ·cases h
structure Real (R:Array Oper) (π:Nat→Nat) (ops:Array Oper):Prop where
 at_:∀ (j:Nat) (o:Oper),ops[j]? = some o→∃ o',R[π j]? = some o'∧o'.op=o.op∧o'.dst=o.dst∧∀ T,Region.wanted o' (yielded R T)=Region.wanted o (yielded ops T)
theorem Real.refl (ops:Array Oper):Real ops id ops:=⟨fun _ o ho=>⟨o,ho,rfl,rfl,fun _=>rfl⟩⟩
structure PermOk (R:Array Oper) (ord:List Nat) (ops:Array Oper):Prop where
 all:∀ i,i<R.size→i ∈ ord
 nodup:wfA ord=true
 size:ops.size=ord.length
 at_:∀ (k i:Nat),ord[k]? = some i→∃ o:Oper,R[i]? = some o∧ops[k]? = some (relab ord o)
theorem JpJ {R ops:Array Oper} {ord:List Nat} (h:JqJ R ord=some ops):PermOk R ord ops:=by
 unfold JqJ at h
 split at h
 ·rename_i l h1 h2 h3
  cases h
  obtain ⟨e1,e2⟩:=wWA h3
  exact ⟨zSA h1,h2,by simpa using e1,fun k i hk=>by
   obtain ⟨o,q1,q2⟩:=e2 k i hk
   exact ⟨o,q1,by simpa using q2⟩⟩
 ·cases h
section
variable {R ops:Array Oper} {ord:List Nat} (p:PermOk R ord ops)
include p
theorem PermOk.get {j:Nat} {o:Oper} (ho:ops[j]? = some o):∃ i q,ord[j]? = some i∧R[i]? = some q∧o=relab ord q:=by
 have hj:=(Array.getElem?_eq_some_iff.mp ho).1
 have hi:ord[j]? = some (ord[j]'(by rw [← p.size];exact hj)):=List.getElem?_eq_getElem _
 obtain ⟨q,h1,h2⟩:=p.at_ _ _ hi
 rw [ho] at h2
 exact ⟨_,q,hi,h1,by cases h2;rfl⟩
theorem PermOk.dst (g:Nat):(R[g]?).bind (·.dst)=(ops[JK g ord]?).bind (·.dst):=by
 by_cases hg:g ∈ ord
 ·obtain ⟨o,h1,h2⟩:=p.at_ _ _ (zjA hg)
  rw [h1,h2];rfl
 ·have h1:R[g]? = none:=by
   rw [Array.getElem?_eq_none_iff]
   exact Nat.le_of_not_lt fun h=>hg (p.all g h)
  have h2:ops[JK g ord]? = none:=by
   rw [Array.getElem?_eq_none_iff,WwA hg,p.size];exact Nat.le_refl _
  rw [h1,h2]
theorem PermOk.real:Real R (fun k=>ord.getD k 0) ops:=⟨fun j o ho=>by
 obtain ⟨i,q,h1,h2,rfl⟩:=p.get ho
 refine ⟨q,by rw [List.getD_eq_getElem?_getD,h1];exact h2,rfl,rfl,fun T=>?_⟩
 unfold Region.wanted relab
 cases hq:q.guard with
 | none=>rfl
 | some g =>
  obtain ⟨g,b⟩:=g
  simp only []
  have:yielded R T g=yielded ops T (JK g ord):=by unfold yielded;rw [p.dst g]
  rw [this]⟩
theorem PermOk.fits:∀ {rest pre:List Nat},(∀ x ∈ pre,x<R.size)→Fits R pre rest →
  Fits ops (pre.map fun x=>JK x ord) (rest.map fun x=>JK x ord)∧(rest.map fun x=>JK x ord).map (fun k=>ord.getD k 0)=rest
 | [],pre,_,h=>by
  have h:∀ i,i<R.size→i ∈ pre:=h
  refine ⟨?_,rfl⟩
  show ∀ k,k<ops.size→_
  intro k hk
  obtain ⟨i,q,h1,h2,_⟩:=p.get (Array.getElem?_eq_getElem hk)
  exact List.mem_map.mpr ⟨i,h i (Array.getElem?_eq_some_iff.mp h2).1,wDJ p.nodup k i h1⟩
 | i::rest,pre,hp,h=>by
  obtain ⟨h1,h2,h3,h4⟩:=h
  obtain ⟨r1,r2⟩:=PermOk.fits (pre:=i::pre) (fun x hx=>by
   rcases List.mem_cons.mp hx with rfl | hx
   ·exact h1
   ·exact hp x hx) h4
  have hg:=zjA (p.all i h1)
  have hi:ord.getD (JK i ord) 0=i:=by rw [List.getD_eq_getElem?_getD,hg];rfl
  refine ⟨⟨?_,?_,?_,r1⟩,?_⟩
  ·rw [p.size];exact (List.getElem?_eq_some_iff.mp hg).1
  ·intro hm
   obtain ⟨x,hx,e⟩:=List.mem_map.mp hm
   have hgx:=zjA (p.all x (hp x hx))
   rw [e,hg] at hgx
   cases hgx
   exact h2 hx
  ·intro o e ho he ha
   obtain ⟨i',q,q1,q2,rfl⟩:=p.get ho
   rw [hg] at q1
   cases q1
   have he:e ∈ jlA ord q.after.toList:=by simpa [relab] using he
   obtain ⟨x,x1,x2,x3⟩:=Wr he
   rw [x3]
   exact List.mem_map.mpr ⟨x.on,h3 q x q2 x1 x2,rfl⟩
  ·show ord.getD (JK i ord) 0::_=_
   rw [hi];exact congrArg _ r2
end
theorem vQJ {nt:Nat} {R:Array Oper} {f:zF} (hf:YKA P nt R=some f):∃ (ops:Array Oper) (π:Nat→Nat) (ds:List DOp),Yi ops 0 ops.toList []=some ds∧YLA P nt ops ds=some f∧Real R π ops ∧
  (∀ mixed t,∃ rest,Region.schedule mixed R t=rest.map π∧Fits ops [] rest):=by
 unfold YKA at hf
 split at hf
 ·rename_i ds h1 h2
  split at hf
  ·rename_i f' h3
   cases hf
   exact ⟨R,id,ds,h1,h3,.refl R,fun m t=>⟨_,(List.map_id _).symm,WZ h1 h2 m t⟩⟩
  ·split at hf
   ·rename_i ops h4
    have p:=JpJ h4
    unfold wZJ at hf
    split at hf
    ·cases hf
    ·rename_i ds' h5
     refine ⟨ops,_,ds',h5,hf,p.real,fun m t=>?_⟩
     obtain ⟨q1,q2⟩:=p.fits (fun x hx=>by cases hx) (WZ h1 h2 m t)
     exact ⟨_,q2.symm,q1⟩
   ·cases hf
 ·cases hf
end Go.Abs
end
