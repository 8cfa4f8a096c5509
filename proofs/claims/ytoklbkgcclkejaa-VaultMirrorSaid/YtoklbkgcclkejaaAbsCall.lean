/- Pieces of code, all of them; what is behind a function. -/
import Derived.Test.YtoklbkgcclkejaaAbsRange
import Derived.Test.YtoklbkgcclkejaaAbsSim4
noncomputable section
namespace Go.Abs
variable {P:Program}
theorem yP {xs:List Nat} {nt:Nat}:∀ (x:Code) {f:K},jh P xs nt x=some f→jt P xs nt x f
 | .skip,f,h=>by cases h;exact ZgJ
 | .label _,f,h=>by cases h;exact vVJ
 | .exit _,f,h=>by cases h;exact ZiJ
 | .ret,f,h=>by cases h;exact VKJ
 | .region id ops false,f,h=>by
  unfold jh at h
  split at h
  ·rename_i k hk
   cases h
   exact yLA hk
  ·cases h;exact ZZ
 | .region id ops true,f,h=>by
  unfold jh at h
  split at h
  ·rename_i k hk
   cases h
   exact yMA hk
  ·cases h;exact ZZ
 | .seq x y,f,h=>by
  unfold jh at h
  split at h
  ·rename_i a b ha hb
   cases h
   exact VJJ (yP x ha) (yP y hb)
  ·cases h
 | .cond q x y,f,h=>by
  unfold jh at h
  split at h
  ·rename_i z a b hz ha hb
   cases h
   exact ZjJ hz (yP x ha) (yP y hb)
  ·cases h
 | .block id x,f,h=>by
  unfold jh at h
  split at h
  ·rename_i a ha
   cases h
   exact vWJ (yP x ha)
  ·cases h
 | .loop x,f,h=>by
  unfold jh at h
  split at h
  ·rename_i a ha
   cases h
   exact ZhJ (yP x ha)
  ·cases h
 | .scope x,f,h=>by
  unfold jh at h
  exact vTJ (yP x h)
 | .rangeFunc g ps x y,f,h=>by
  unfold jh at h
  split at h
  ·rename_i a ha
   split at h
   ·rename_i hps
    cases h
    exact vUJ ha (fun t ht=>by
     have:=List.all_eq_true.mp hps t ht
     simpa using this)
   ·cases h;exact ZZ
  ·cases h;exact ZZ
 | .goto _,f,h=>by cases h;exact ZZ
 | .refuse _,f,h=>by cases h;exact ZZ
theorem yKJ {W:World} {x:Nat} (h:W.heap[x]? = some (.deferred (some []))) :
  (Instr.takeDeferred x).run P W=.ok [] { W with heap:=W.heap.setIfInBounds x (.deferred none) }:=by
 have:(getObj x).run P W=.ok (.deferred (some [])) W:=by simp [getObj,Sem.run,h]
 have h2:(setObj x (.deferred none)).run P W=.ok () { W with heap:=W.heap.setIfInBounds x (.deferred none) }:=by simp [setObj,Sem.run,h]
 simp [Instr.takeDeferred,Sem.run_bind,this,h2]
theorem JZ {T:Array Value}:∀ {d:List Nat} {D:List Deferred} {ρ:Rho} {s s':St} {W:World},
  gL s d=some s'→DRel ρ d D→SRel ρ s W →
  ∃ W',After ρ s W ρ s' W'∧∀ b t cs,Steps P (lone (back b { tmps:=T,defers:=D } t) cs W) (lone (back b { tmps:=T,defers:=[] } t) cs W')
 | [],_,ρ,s,s',W,h,hd,hs=>by
  cases h
  cases hd
  exact ⟨W,.refl hs,fun _ _ _=>.refl _ _⟩
 | l::d,_,ρ,s,s',W,h,hd,hs=>by
  unfold gL at h
  split at h
  ·rename_i hl
   cases hd with
   | cons hr hd =>
    rename_i c e D
    obtain ⟨c',e',O,h1,h2,h3⟩:=hs.heap.obj l l _ (.lone hl trivial)
    rw [hr] at h1
    cases h1
    cases h3
    have a:=After.gone (W':={ W with heap:=W.heap.setIfInBounds c (.deferred none) }) hs hl hr (by simp) (fun i hi=>Array.getElem?_setIfInBounds_ne (fun z=>hi z.symm)) rfl rfl rfl
    obtain ⟨W',a',st⟩:=JZ (T:=T) h hd a.rel
    exact ⟨W',a.trans a',fun b t cs=>.head (gJJ rfl (yKJ h2)) (st b t cs)⟩
  ·cases h
def Jc (T:Array Value):ResultVar→Sem Value
 | .tmp t=>pure (T.getD t undef)
 | .cell a t=>do loadVar t (← asAddr (T.getD a undef))
theorem YP {ρ:Rho} {L:Env} {T:Array Value} {s:St} {W:World} (hL:EnvRel ρ L T) (hs:SRel ρ s W):∀ {rs:List ResultVar} {l:List AV},
  wN P L s rs=some l→∃ V,(rs.mapM (Jc T)).run P W=.ok V W∧VRels ρ l V
 | [],l,h=>by cases h;exact ⟨[],by simp,.nil⟩
 | .tmp t::rs,l,h=>by
  unfold wN at h
  split at h
  ·rename_i m hm
   cases h
   obtain ⟨V,h1,h2⟩:=YP hL hs hm
   exact ⟨T.getD t undef::V,by simp [Jc,h1],.cons (hL t) h2⟩
  ·cases h
 | .cell a t::rs,l,h=>by
  unfold wN at h
  split at h
  ·rename_i sh ht
   split at h
   ·rename_i v s' m hl hm
    cases h
    obtain ⟨V,h1,h2⟩:=YP hL hs hm
    obtain ⟨hl,hb⟩:=gN hl
    have hx:=hL a
    rcases wt hl with ⟨b,p,e,hl⟩ | ⟨g,p,e,hl⟩ | ⟨b,w,p,e,hl⟩
    case inr.inr =>
     rw [e] at hx
     obtain ⟨_,d,k,_,hρ,hx⟩:=hx.vp_inv
     unfold vAA at hl
     split at hl
     ·rename_i c hg
      obtain ⟨sz,hg⟩:=ZI hg
      cases hl
      obtain ⟨d',e',C,el,hρ',hW,hsz,hrel,_⟩:=ZK hs hg
      rw [hρ] at hρ';cases hρ'
      obtain ⟨V1,hV,hr⟩:=wo ht hW hrel rfl hb
      exact ⟨V1::V,by simp [Jc,hx,asAddr,Sem.run_bind,hV,h1],.cons hr h2⟩
     ·cases hl
    case inr.inl =>
     rw [e] at hx
     have hx:=hx.gptr_inv
     unfold JmA at hl
     split at hl
     ·rename_i c hg
      cases hl
      obtain ⟨V1,hV,hr⟩:=YBA (P:=P) ht hs hg rfl hb
      exact ⟨V1::V,by simp [Jc,hx,asAddr,Sem.run_bind,hV,h1],.cons hr h2⟩
     ·cases hl
    rw [e] at hx
    obtain ⟨d,k,hρ,hx⟩:=hx.ptr_inv
    unfold gM at hl
    split at hl
    ·rename_i c sz hg
     cases hl
     obtain ⟨d',e',C,el,hρ',hW,hsz,hrel,_⟩:=gj hs hg
     rw [hρ] at hρ';cases hρ'
     obtain ⟨V1,hV,hr⟩:=wo ht hW hrel rfl hb
     exact ⟨V1::V,by simp [Jc,hx,asAddr,Sem.run_bind,hV,h1],.cons hr h2⟩
    ·rename_i c sz k' vs hg
     cases hl
     obtain ⟨d',e',C,el,hρ',hW,hsz,hrel,_⟩:=ZK hs (Has.base hg)
     rw [hρ] at hρ';cases hρ'
     obtain ⟨V1,hV,hr⟩:=wo ht hW hrel rfl hb
     exact ⟨V1::V,by simp [Jc,hx,asAddr,Sem.run_bind,hV,h1],.cons hr h2⟩
    ·cases hl
   ·cases h
  ·cases h
theorem yoA {ρ:Rho} {L:Env} {T:Array Value} {s:St} {W:World} {fn:Func} {l:List AV} (hL:EnvRel ρ L T) (hs:SRel ρ s W)
  (h:wN P L s fn.results.toList=some l):∃ V,(results fn T).run P W=.ok V W∧VRel ρ (oneA l) V:=by
 obtain ⟨V,h1,h2⟩:=YP hL hs h
 have e:fn.results.mapM (Jc T)=Functor.map List.toArray (fn.results.toList.mapM (Jc T)):=by
  conv=>lhs;rw [← Array.toArray_toList (xs:=fn.results)]
  exact List.mapM_toArray
 have h3:(fn.results.mapM (Jc T)).run P W=.ok V.toArray W:=by rw [e,Sem.run_map,h1];rfl
 have h4:results fn T=(do let vs ← fn.results.mapM (Jc T);pure (if h:vs.size=1 then vs[0] else .tuple vs):Sem Value):=rfl
 rw [h4]
 refine ⟨if h:V.toArray.size=1 then V.toArray[0] else .tuple V.toArray,by simp only [Sem.run_bind,h3,Result.andThen_ok,Sem.run_pure],?_⟩
 cases h2 with
 | nil=>exact .tup .nil
 | cons a b =>
  cases b with
  | nil=>exact a
  | cons c d =>
   rw [dif_neg (by simp)]
   exact .tup (.cons a (.cons c d))
theorem VLA {ρ:Rho} {L:Env} {d:List Nat} {a:Act} {s s':St} {W:World} {fn:Func} {v:AV} {nt:Nat} (ha:ActRel ρ nt L d a) (hs:SRel ρ s W)
  (h:yL P fn.results.toList L d s=.val v s') :
  ∃ V W',After ρ s W ρ s' W'∧VRel ρ v V∧∀ b,b.kind=.normal→P.funcs[b.fn]? = some fn→∀ t c cs,Steps P (lone (back b a t) (c::cs) W) (lone (c.finish V) cs W'):=by
 unfold yL at h
 split at h
 ·cases h
 rename_i s₁ h1
 split at h
 ·rename_i l h2
  cases h
  obtain ⟨W₁,af,st⟩:=JZ (T:=a.tmps) h1 ha.defers hs
  obtain ⟨V,h3,h4⟩:=yoA (P:=P) (fn:=fn) ha.env af.rel h2
  exact ⟨V,W₁,af,h4,fun b hk hf t c cs=>(st b t (c::cs)).trans (.one (gKJ rfl hk hf h3))⟩
 ·cases h
theorem Jd {ρ:Rho} {T:Array Value}:∀ {l:List AV} {V:List Value} {i:Nat},VRels ρ l V→(∀ (j:Nat) (v:Value),V[j]? = some v→T.getD (i+j) undef=v) →
  EnvRel ρ (zO i l .nil) T
 | [],_,i,_,_=>fun t=>.bad _
 | a::l,_,i,.cons (v:=v) (L:=V) h r,hT=>by
  intro t
  show VRel ρ (Env.find t (.cons i a (zO (Nat.succ i) l .nil))) _
  by_cases e:i=t
  ·subst e
   have:=hT 0 v rfl
   rw [Nat.add_zero] at this
   rw [yM,this]
   exact h
  ·rw [yN _ _ e]
   exact Jd r (fun j w hw=>by
    have:=hT (j+1) w (by simpa using hw)
    rw [← this];congr 1;omega) t
theorem Je:∀ {l:List AV} {i t:Nat},t<i∨i+l.length≤t→(zO i l .nil).find t=.bad
 | [],i,t,_=>rfl
 | a::l,i,t,h=>by
  have hl:(a::l).length=l.length+1:=rfl
  show Env.find t (.cons i a (zO (Nat.succ i) l .nil))=_
  rw [yN _ _ (by omega)]
  exact Je (by omega)
theorem wmA {X:List Nat} {t:Nat}:∀ n i,i≤t→t<lead X n i→X.contains t=true
 | 0,i,h,h'=>by
  have h':t<i:=h'
  omega
 | n+1,i,h,h'=>by
  unfold lead at h'
  split at h'
  ·rename_i hc
   by_cases e:i=t
   ·subst e;exact hc
   ·exact wmA n (i+1) (by omega) h'
  ·omega
end Go.Abs
end
