/- Pieces of code, all of them; what is behind a function. -/
import Derived.Test.YtoklbkgcclkejaaAbsRange
import Derived.Test.YtoklbkgcclkejaaAbsSim4
noncomputable section
namespace Go.Abs
variable {P:Program}
theorem yQ {xs:List Nat} {nt:Nat}:∀ (x:Code) {f:K},jh P xs nt x=some f→jt P xs nt x f
 | .skip,f,h=>by cases h;exact code_skip
 | .label _,f,h=>by cases h;exact code_label
 | .exit _,f,h=>by cases h;exact code_exit
 | .ret,f,h=>by cases h;exact code_ret
 | .region id ops false,f,h=>by
  unfold jh at h
  split at h
  ·rename_i k hk
   cases h
   exact code_region_text hk
  ·cases h;exact ZY
 | .region id ops true,f,h=>by
  unfold jh at h
  split at h
  ·rename_i k hk
   cases h
   exact code_region_draw hk
  ·cases h;exact ZY
 | .seq x y,f,h=>by
  unfold jh at h
  split at h
  ·rename_i a b ha hb
   cases h
   exact code_seq (yQ x ha) (yQ y hb)
  ·cases h
 | .cond q x y,f,h=>by
  unfold jh at h
  split at h
  ·rename_i z a b hz ha hb
   cases h
   exact code_cond hz (yQ x ha) (yQ y hb)
  ·cases h
 | .block id x,f,h=>by
  unfold jh at h
  split at h
  ·rename_i a ha
   cases h
   exact code_block (yQ x ha)
  ·cases h
 | .loop x,f,h=>by
  unfold jh at h
  split at h
  ·rename_i a ha
   cases h
   exact code_loop (yQ x ha)
  ·cases h
 | .scope x,f,h=>by
  unfold jh at h
  exact code_scope (yQ x h)
 | .rangeFunc g ps x y,f,h=>by
  unfold jh at h
  split at h
  ·rename_i a ha
   split at h
   ·rename_i hps
    cases h
    exact code_range ha (fun t ht=>by
     have:=List.all_eq_true.mp hps t ht
     simpa using this)
   ·cases h;exact ZY
  ·cases h;exact ZY
 | .goto _,f,h=>by cases h;exact ZY
 | .refuse _,f,h=>by cases h;exact ZY
theorem run_getDfr {W:World} {x:Nat} (h:W.heap[x]? = some (.deferred (some []))) :
  (Instr.takeDeferred x).run P W=.ok [] { W with heap:=W.heap.setIfInBounds x (.deferred none) }:=by
 have:(getObj x).run P W=.ok (.deferred (some [])) W:=by simp [getObj,Sem.run,h]
 have h2:(setObj x (.deferred none)).run P W=.ok () { W with heap:=W.heap.setIfInBounds x (.deferred none) }:=by simp [setObj,Sem.run,h]
 simp [Instr.takeDeferred,Sem.run_bind,this,h2]
theorem JX {T:Array Value}:∀ {d:List Nat} {D:List Deferred} {ρ:Rho} {s s':St} {W:World},
  gK s d=some s'→DRel ρ d D→SRel ρ s W →
  ∃ W',After ρ s W ρ s' W'∧∀ b t cs,Steps P (lone (back b { tmps:=T,defers:=D } t) cs W) (lone (back b { tmps:=T,defers:=[] } t) cs W')
 | [],_,ρ,s,s',W,h,hd,hs=>by
  cases h
  cases hd
  exact ⟨W,.refl hs,fun _ _ _=>.refl _ _⟩
 | l::d,_,ρ,s,s',W,h,hd,hs=>by
  unfold gK at h
  split at h
  ·rename_i hl
   cases hd with
   | cons hr hd =>
    rename_i c e D
    obtain ⟨c',e',O,h1,h2,h3⟩:=hs.heap.obj l l _ (.lone hl trivial)
    rw [hr] at h1
    cases h1
    cases h3
    have a:=After.gone (W':={ W with heap:=W.heap.setIfInBounds c (.deferred none) }) hs hl hr (by simp) (fun i hi=>Array.getElem?_setIfInBounds_ne (fun z=>hi z.symm)) rfl rfl rfl
    obtain ⟨W',a',st⟩:=JX (T:=T) h hd a.rel
    exact ⟨W',a.trans a',fun b t cs=>.head (step_mark rfl (run_getDfr h2)) (st b t cs)⟩
  ·cases h
def Ja (T:Array Value):ResultVar→Sem Value
 | .tmp t=>pure (T.getD t undef)
 | .cell a t=>do loadVar t (← asAddr (T.getD a undef))
theorem YN {ρ:Rho} {L:Env} {T:Array Value} {s:St} {W:World} (hL:EnvRel ρ L T) (hs:SRel ρ s W):∀ {rs:List ResultVar} {l:List AV},
  wO P L s rs=some l→∃ V,(rs.mapM (Ja T)).run P W=.ok V W∧VRels ρ l V
 | [],l,h=>by cases h;exact ⟨[],by simp,.nil⟩
 | .tmp t::rs,l,h=>by
  unfold wO at h
  split at h
  ·rename_i m hm
   cases h
   obtain ⟨V,h1,h2⟩:=YN hL hs hm
   exact ⟨T.getD t undef::V,by simp [Ja,h1],.cons (hL t) h2⟩
  ·cases h
 | .cell a t::rs,l,h=>by
  unfold wO at h
  split at h
  ·rename_i sh ht
   split at h
   ·rename_i v s' m hl hm
    cases h
    obtain ⟨V,h1,h2⟩:=YN hL hs hm
    obtain ⟨hl,hb⟩:=gM hl
    have hx:=hL a
    rcases ww hl with ⟨b,p,e,hl⟩ | ⟨g,p,e,hl⟩ | ⟨b,w,p,e,hl⟩
    case inr.inr =>
     rw [e] at hx
     obtain ⟨_,d,k,_,hρ,hx⟩:=hx.vp_inv
     unfold loadV at hl
     split at hl
     ·rename_i c hg
      obtain ⟨sz,hg⟩:=ZF hg
      cases hl
      obtain ⟨d',e',C,el,hρ',hW,hsz,hrel,_⟩:=ZH hs hg
      rw [hρ] at hρ';cases hρ'
      obtain ⟨V1,hV,hr⟩:=wt ht hW hrel rfl hb
      exact ⟨V1::V,by simp [Ja,hx,asAddr,Sem.run_bind,hV,h1],.cons hr h2⟩
     ·cases hl
    case inr.inl =>
     rw [e] at hx
     have hx:=hx.gptr_inv
     unfold loadG at hl
     split at hl
     ·rename_i c hg
      cases hl
      obtain ⟨V1,hV,hr⟩:=glob_read (P:=P) ht hs hg rfl hb
      exact ⟨V1::V,by simp [Ja,hx,asAddr,Sem.run_bind,hV,h1],.cons hr h2⟩
     ·cases hl
    rw [e] at hx
    obtain ⟨d,k,hρ,hx⟩:=hx.ptr_inv
    unfold gL at hl
    split at hl
    ·rename_i c sz hg
     cases hl
     obtain ⟨d',e',C,el,hρ',hW,hsz,hrel,_⟩:=vw hs hg
     rw [hρ] at hρ';cases hρ'
     obtain ⟨V1,hV,hr⟩:=wt ht hW hrel rfl hb
     exact ⟨V1::V,by simp [Ja,hx,asAddr,Sem.run_bind,hV,h1],.cons hr h2⟩
    ·rename_i c sz k' vs hg
     cases hl
     obtain ⟨d',e',C,el,hρ',hW,hsz,hrel,_⟩:=ZH hs (Has.base hg)
     rw [hρ] at hρ';cases hρ'
     obtain ⟨V1,hV,hr⟩:=wt ht hW hrel rfl hb
     exact ⟨V1::V,by simp [Ja,hx,asAddr,Sem.run_bind,hV,h1],.cons hr h2⟩
    ·cases hl
   ·cases h
  ·cases h
theorem results_rel {ρ:Rho} {L:Env} {T:Array Value} {s:St} {W:World} {fn:Func} {l:List AV} (hL:EnvRel ρ L T) (hs:SRel ρ s W)
  (h:wO P L s fn.results.toList=some l):∃ V,(results fn T).run P W=.ok V W∧VRel ρ (oneA l) V:=by
 obtain ⟨V,h1,h2⟩:=YN hL hs h
 have e:fn.results.mapM (Ja T)=Functor.map List.toArray (fn.results.toList.mapM (Ja T)):=by
  conv=>lhs;rw [← Array.toArray_toList (xs:=fn.results)]
  exact List.mapM_toArray
 have h3:(fn.results.mapM (Ja T)).run P W=.ok V.toArray W:=by rw [e,Sem.run_map,h1];rfl
 have h4:results fn T=(do let vs ← fn.results.mapM (Ja T);pure (if h:vs.size=1 then vs[0] else .tuple vs):Sem Value):=rfl
 rw [h4]
 refine ⟨if h:V.toArray.size=1 then V.toArray[0] else .tuple V.toArray,by simp only [Sem.run_bind,h3,Result.andThen_ok,Sem.run_pure],?_⟩
 cases h2 with
 | nil=>exact .tup .nil
 | cons a b =>
  cases b with
  | nil=>exact a
  | cons c d =>
   rw [dif_neg (by simp)]
   exact .tup (.cons a (.cons c d))
theorem leaveA_sound {ρ:Rho} {L:Env} {d:List Nat} {a:Act} {s s':St} {W:World} {fn:Func} {v:AV} {nt:Nat} (ha:ActRel ρ nt L d a) (hs:SRel ρ s W)
  (h:yL P fn.results.toList L d s=.val v s') :
  ∃ V W',After ρ s W ρ s' W'∧VRel ρ v V∧∀ b,b.kind=.normal→P.funcs[b.fn]? = some fn→∀ t c cs,Steps P (lone (back b a t) (c::cs) W) (lone (c.finish V) cs W'):=by
 unfold yL at h
 split at h
 ·cases h
 rename_i s₁ h1
 split at h
 ·rename_i l h2
  cases h
  obtain ⟨W₁,af,st⟩:=JX (T:=a.tmps) h1 ha.defers hs
  obtain ⟨V,h3,h4⟩:=results_rel (P:=P) (fn:=fn) ha.env af.rel h2
  exact ⟨V,W₁,af,h4,fun b hk hf t c cs=>(st b t (c::cs)).trans (.one (step_back rfl hk hf h3))⟩
 ·cases h
theorem Jb {ρ:Rho} {T:Array Value}:∀ {l:List AV} {V:List Value} {i:Nat},VRels ρ l V→(∀ (j:Nat) (v:Value),V[j]? = some v→T.getD (i+j) undef=v) →
  EnvRel ρ (zO i l .nil) T
 | [],_,i,_,_=>fun t=>.bad _
 | a::l,_,i,.cons (v:=v) (L:=V) h r,hT=>by
  intro t
  show VRel ρ (Env.find t (.cons i a (zO (Nat.succ i) l .nil))) _
  by_cases e:i=t
  ·subst e
   have:=hT 0 v rfl
   rw [Nat.add_zero] at this
   rw [yM,this]
   exact h
  ·rw [yN _ _ e]
   exact Jb r (fun j w hw=>by
    have:=hT (j+1) w (by simpa using hw)
    rw [← this];congr 1;omega) t
theorem Jc:∀ {l:List AV} {i t:Nat},t<i∨i+l.length≤t→(zO i l .nil).find t=.bad
 | [],i,t,_=>rfl
 | a::l,i,t,h=>by
  have hl:(a::l).length=l.length+1:=rfl
  show Env.find t (.cons i a (zO (Nat.succ i) l .nil))=_
  rw [yN _ _ (by omega)]
  exact Jc (by omega)
theorem lead_has {X:List Nat} {t:Nat}:∀ n i,i≤t→t<lead X n i→X.contains t=true
 | 0,i,h,h'=>by
  have h':t<i:=h'
  omega
 | n+1,i,h,h'=>by
  unfold lead at h'
  split at h'
  ·rename_i hc
   by_cases e:i=t
   ·subst e;exact hc
   ·exact lead_has n (i+1) (by omega) h'
  ·omega
end Go.Abs
end
