/- Maps. -/
import Derived.Test.YtoklbkgcclkejaaAbsText
set_option linter.unusedVariables false
noncomputable section
namespace Go.Abs
variable {P:Program}
theorem vIA {d:Nat} {t:TypeId} {c:Cmp} (hc:ZE P d t=some c) (hd:d≤Op.maxDepth) {ρ:Rho} {k:AV} {K:Value} (hk:VRel ρ k K) (W:World) :
  ∀ {es:List (AV × AV)} {E:List MapEntry},EntRels ρ es E→∀ {i:Nat} {r:Option (Nat × AV)},ZG c k es i=some r →
   ∃ R,(Instr.findAsking t K E i).run P W=.ok R W∧((r=none∧R=none)∨∃ j v V,r=some (j,v)∧R=some (j,V)∧VRel ρ v V)
 | _,_,.nil,i,r,h=>by
  cases h
  exact ⟨none,by simp [Instr.findAsking],.inl ⟨rfl,rfl⟩⟩
 | _,_,.cons (k:=k') (v:=v) (x:=x) hk' hv hr,i,r,h=>by
  unfold ZG at h
  split at h
  ·rename_i hq
   cases h
   have heq:(Op.equal t K x.key).run P W=.ok true W:=gLA d hc hd hq hk hk' W
   exact ⟨some (i,x.val),by simp [Instr.findAsking,heq],.inr ⟨i,v,x.val,rfl,rfl,hv⟩⟩
  ·rename_i hq
   have heq:(Op.equal t K x.key).run P W=.ok false W:=gLA d hc hd hq hk hk' W
   obtain ⟨R,h1,h2⟩:=vIA hc hd hk W hr h
   exact ⟨R,by simp [Instr.findAsking,heq];exact h1,h2⟩
  ·cases h
theorem WmA {d:Nat} {t:TypeId} {c:Cmp} (hc:ZE P (d+1) t=some c) {D:TypeDesc} (hu:P.underlying t=some D) {ρ:Rho} {k k':AV} {K K':Value} (hk:VRel ρ k K) (hk':VRel ρ k' K')
  {b b':Bool} (hq:Cmp.eq c k k'=some b) (hn:Instr.sameNow D K K'=some b'):b'=b:=by
 have hb:=gC hq
 cases hk<;>first | exact absurd rfl hb.1 | skip
 all_goals cases hk'<;>first | exact absurd rfl hb.2 | skip
 all_goals (cases D<;>first | (cases hn;done) | skip)
 all_goals (unfold ZE at hc;rw [hu] at hc;simp only [Option.some.injEq] at hc)
 all_goals (subst hc;simp [Cmp.eq,Instr.sameNow,ZD] at hq hn)
 all_goals first | (rw [← hn,← hq];done) | (obtain ⟨h1,h2⟩:=hq;obtain ⟨h3,h4⟩:=hn;rw [← h2,← h4];done) | skip
def Vu (ρ:Rho) (r:Option (Nat × AV)) (R:Option (Nat × Value)):Prop:=(r=none∧R=none)∨∃ j v V,r=some (j,v)∧R=some (j,V)∧VRel ρ v V
theorem zuJ {d:Nat} {t:TypeId} {c:Cmp} (hc:ZE P (d+1) t=some c) {D:TypeDesc} (hu:P.underlying t=some D) {ρ:Rho} {k:AV} {K:Value} (hk:VRel ρ k K) :
  ∀ {es:List (AV × AV)} {E:List MapEntry},EntRels ρ es E→∀ {i:Nat} {r:Option (Nat × AV)} {R:Option (Nat × Value)},ZG c k es i=some r→Instr.findNow D K E i=some R→Vu ρ r R
 | _,_,.nil,i,r,R,h,hn=>by
  cases h
  simp [Instr.findNow] at hn
  exact .inl ⟨rfl,hn.symm⟩
 | _,_,.cons (k:=k') (v:=v) (x:=x) hk' hv hr,i,r,R,h,hn=>by
  unfold Instr.findNow at hn
  unfold ZG at h
  split at h
  ·rename_i hq
   cases h
   split at hn
   ·cases hn;exact .inr ⟨i,v,x.val,rfl,rfl,hv⟩
   ·rename_i hs;exact absurd (WmA hc hu hk hk' hq hs) (by simp)
   ·cases hn
  ·rename_i hq
   split at hn
   ·rename_i hs;exact absurd (WmA hc hu hk hk' hq hs) (by simp)
   ·exact zuJ hc hu hk hr h hn
   ·cases hn
  ·cases h
theorem YsJ {d:Nat} {t:TypeId} {c:Cmp} (hc:ZE P (d+1) t=some c) (hd:d+1≤Op.maxDepth) {ρ:Rho} {k:AV} {K:Value} (hk:VRel ρ k K) (W:World)
  {es:List (AV × AV)} {E:List MapEntry} (he:EntRels ρ es E) {r:Option (Nat × AV)} (h:ZG c k es 0=some r):∃ R,(Instr.findKey t K E).run P W=.ok R W∧Vu ρ r R:=by
 have hu:∃ D,P.underlying t=some D:=by
  unfold ZE at hc
  cases hD:P.underlying t with
  | none=>rw [hD] at hc;cases hc
  | some D=>exact ⟨D,rfl⟩
 obtain ⟨D,hu⟩:=hu
 cases hn:Instr.findNow D K E 0 with
 | some R=>exact ⟨R,by simp [Instr.findKey,zY W hu,hn],zuJ hc hu hk he h hn⟩
 | none =>
  obtain ⟨R,h1,h2⟩:=vIA hc hd hk W he h
  exact ⟨R,by simp [Instr.findKey,zY W hu,hn];exact h1,h2⟩
def vkJ (P:Program) (d:Nat):Prop:=∀ {t:TypeId} {c:Cmp},VNA P d t=true→ZE P d t=some c→∀ {e:Nat},d≤e→∀ {x y:AV},Cmp.eq c x y=some true →
  ∀ {ρ:Rho} {X:Value},VRel ρ x X→∀ (em:Bool) (W:World),(Instr.checkKey em e t X).run P W=.ok () W
theorem woA {d:Nat} (IH:vkJ P d) {e:Nat} (he:d≤e) {ρ:Rho} {xs ys:List AV} {X:Array Value} (hx:VRels ρ xs X.toList) (em:Bool) (W:World) :
  ∀ (fs:List Field) (l:List (Nat × Option Nat × Cmp)),(∀ f ∈ fs,VNA P d f.type=true)→fs.foldr (fun f k=>match k with
    | none=>none
    | some l=>if f.name = "_" then none else match yH P f.type,ZE P d f.type with
     | some sh,some c=>some ((f.offset,sh,c)::l)
     | _,_=>none) (some [])=some l →
   Cmp.eqs l xs ys=some true→∀ f ∈ fs,f.name ≠ "_"∧∃ a,(part f.type X f.offset).run P W=.ok a W∧(Instr.checkKey em e f.type a).run P W=.ok () W
 | [],_,_,_,_=>by simp
 | f::fs,l,hk,h,hr=>by
  rw [List.foldr_cons] at h
  split at h
  ·cases h
  ·rename_i l' hl'
   split at h
   ·cases h
   ·rename_i hname
    split at h
    ·rename_i sh c hsh hc
     cases h
     simp only [Cmp.eqs] at hr
     split at hr
     ·rename_i hq
      intro g hg
      rcases List.mem_cons.1 hg with rfl | hg
      ·obtain ⟨a,h1,h2⟩:=JM hsh W hx (gC hq).1
       exact ⟨hname,a,h1,IH (hk g (by simp)) hc he hq h2 em W⟩
      ·exact woA IH he hx em W fs l' (fun f hf=>hk f (by simp [hf])) hl' hr g hg
     ·rename_i hne;exact absurd hr hne
    ·cases h
theorem JpA {d:Nat} (IH:vkJ P d) {e:Nat} (he:d≤e) {ρ:Rho} {xs ys:List AV} {X:Array Value} (hx:VRels ρ xs X.toList) (em:Bool) (W:World)
  {t:TypeId} {sh:Option Nat} {c:Cmp} (hkt:VNA P d t=true) (hsh:yH P t=some sh) (hc:ZE P d t=some c) (n:Nat) :
  ∀ (is:List Nat),Cmp.eqs (is.map fun i=>(i * n,sh,c)) xs ys=some true→∀ i ∈ is,∃ a,(part t X (i * n)).run P W=.ok a W∧(Instr.checkKey em e t a).run P W=.ok () W
 | [],_=>by simp
 | j::is,hr=>by
  simp only [List.map_cons,Cmp.eqs] at hr
  split at hr
  ·rename_i hq
   intro i hi
   rcases List.mem_cons.1 hi with rfl | hi
   ·obtain ⟨a,h1,h2⟩:=JM hsh W hx (gC hq).1
    exact ⟨a,h1,IH hkt hc he hq h2 em W⟩
   ·exact JpA IH he hx em W hkt hsh hc n is hr i hi
  ·rename_i hne;exact absurd hr hne
theorem jiA {α:Type} {W:World} {h:α→PUnit→Sem (ForInStep PUnit)}:∀ (l:List α),(∀ x ∈ l,(h x PUnit.unit).run P W=.ok (ForInStep.yield PUnit.unit) W) →
  (forIn l PUnit.unit h:Sem PUnit).run P W=.ok PUnit.unit W
 | [],_=>by simp
 | a::l,hl=>by
  rw [List.forIn_cons,Sem.run_bind,hl a (by simp),Result.andThen_ok]
  exact jiA l (fun x hx=>hl x (by simp [hx]))
theorem VMA:∀ (d:Nat),vkJ P d
 | 0,t,c,h,_,_,_,_,_,_,_,_,_,_,_=>by simp [VNA] at h
 | d+1,t,c,hkey,h,e,he,x,y,hr,ρ,X,hX,em,W=>by
  obtain ⟨e,rfl⟩:∃ k,e=k+1:=⟨e - 1,by omega⟩
  have he':d≤e:=by omega
  unfold VNA at hkey
  unfold ZE at h
  split at h
  case h_1 hu =>
   cases h
   cases x<;>simp only [Cmp.eq,reduceCtorEq] at hr
   simp [Instr.checkKey,zY W hu,hX.bool_inv]
  case h_2 hu =>
   cases h
   cases x<;>simp only [Cmp.eq,reduceCtorEq] at hr
   simp [Instr.checkKey,zY W hu,hX.int_inv]
  case h_3 hu =>
   cases h
   cases x<;>simp only [Cmp.eq,reduceCtorEq] at hr
   simp [Instr.checkKey,zY W hu,hX.str_inv]
  case h_4 hu=>rw [hu] at hkey;cases hkey
  case h_5 hu=>rw [hu] at hkey;cases hkey
  case h_6 hu=>rw [hu] at hkey;cases hkey
  case h_7 hu=>rw [hu] at hkey;cases hkey
  case h_8 fs hu =>
   rw [hu] at hkey
   simp only at hkey
   split at h
   ·cases h
   ·split at h
    ·rename_i l hl
     cases h
     cases x<;>cases y<;>simp only [Cmp.eq,reduceCtorEq] at hr
     rename_i xs ys
     obtain ⟨X',rfl,hx⟩:=hX.agg_inv
     have hall:=woA (VMA d) he' hx em W fs.toList l (fun f hf=>by have:=Array.all_eq_true_iff_forall_mem.1 hkey f (by simpa using hf);exact this) hl hr
     simp only [Instr.checkKey,Sem.run_bind,zY W hu,Result.andThen_ok]
     rw [← Array.forIn_toList,jiA fs.toList (fun f hf=>by
      obtain ⟨hn,a,h1,h2⟩:=hall f hf
      simp [hn,h1,h2])]
     rfl
    ·cases h
  case h_9 n elem hu =>
   rw [hu] at hkey
   simp only at hkey
   split at h
   ·rename_i k sh c' hk hsh hc
    cases h
    cases x<;>cases y<;>simp only [Cmp.eq,reduceCtorEq] at hr
    rename_i xs ys
    obtain ⟨X',rfl,hx⟩:=hX.agg_inv
    have hall:=JpA (VMA d) he' hx em W hkey hsh hc k (List.range n) hr
    simp only [Instr.checkKey,Sem.run_bind,zY W hu,Result.andThen_ok]
    simp only [Std.Legacy.Range.forIn_eq_forIn_range',Std.Legacy.Range.size,Nat.sub_zero,Nat.add_one_sub_one,Nat.div_one]
    rw [jiA (List.range' 0 n) (fun i hi=>by
      obtain ⟨a,h1,h2⟩:=hall i (by rw [List.range_eq_range'];exact hi)
      simp [jR W hk,h1,h2])]
    rfl
   ·cases h
  case h_10=>cases h
theorem yAA {t:TypeId} {c:Cmp} (h:wqA P t=some c):VNA P vl t=true∧ZE P vl t=some c:=by
 unfold wqA at h
 split at h
 ·rename_i hk;exact ⟨hk,h⟩
 ·cases h
theorem ysJ {c:Cmp} {k:AV} (h:Wh c k=true):Cmp.eq c k k=some true:=by
 unfold Wh at h
 split at h
 ·assumption
 ·cases h
theorem yNA {t:TypeId} {c:Cmp} (h:wqA P t=some c) {k:AV} (hk:Wh c k=true) {ρ:Rho} {K:Value} (hr:VRel ρ k K) (em:Bool) (W:World) :
  (Instr.checkKey em 10000 t K).run P W=.ok () W :=
 VMA vl (yAA h).1 (yAA h).2 (by unfold vl;omega) (ysJ hk) hr em W
theorem gEA {t:TypeId} {c:Cmp} (h:wqA P t=some c) {ρ:Rho} {k:AV} {K:Value} (hk:VRel ρ k K) (W:World)
  {es:List (AV × AV)} {E:List MapEntry} (he:EntRels ρ es E) {r:Option (Nat × AV)} (hf:ZG c k es 0=some r):∃ R,(Instr.findKey t K E).run P W=.ok R W∧Vu ρ r R :=
 YsJ (d:=11) (yAA h).2 (by unfold Op.maxDepth;omega) hk W he hf
theorem jvJ {t key elem:TypeId} (hu:P.underlying t=some (.map key elem)) {c:Cmp} (hc:wqA P key=some c) {z:AV} (hz:WOA P elem=some z) {ok:Bool} {x y:Operand} {a b:Arg}
  (ha:jL x=some a) (hb:jL y=some b):Sound P (.lookup t x y ok) (jGA c z ok a b):=by
 intro o ho ρ L T s W v s' hL hs hf
 have hx:=zX hL ha
 have hy:=zX hL hb
 have h':jBA c z ok s (b.ev L) (a.ev L)=.val v s':=hf
 generalize a.ev L=av at hx h'
 generalize b.ev L=bv at hy h'
 obtain ⟨Z,hZ,hZr⟩:=gkJ W ρ hz
 have key:∀ {es:List (AV × AV)} {E:Array MapEntry} {r:Option (Nat × AV)},EntRels ρ es E.toList→Wh c bv=true→ZG c bv es 0=some r→Ye ok z s (some r)=.val v s' →
   (∀ {V:Value},(Instr.lookup t (evT T x) (evT T y) ok).run P W=.ok V W→VRel ρ v V→s'=s→Res ((execOp (evT T) o).run P W) ρ s W v s') ∧
   ∃ R,(Instr.findKey key (evT T y) E.toList).run P W=.ok R W∧Vu ρ r R:=by
  intro es E r he hk hr _
  refine ⟨fun {V} h1 h2 h3=>?_,gEA hc hy W he hr⟩
  subst h3
  exact Res.same hs (V:=V) (by simp [execOp,ho,h1]) h2
 have fin:∀ {E:Array MapEntry} {r:Option (Nat × AV)} {R:Option (Nat × Value)} {em:Bool},Wh c bv=true→Vu ρ r R→Ye ok z s (some r)=.val v s' →
   s'=s∧∃ V,VRel ρ v V∧V=(match R with | some (_,u)=>(if ok then .tuple #[u,.bool true] else u) | none=>(if ok then .tuple #[Z,.bool false] else Z)):=by
  intro E r R em hk hr hfd
  rcases hr with ⟨rfl,rfl⟩ | ⟨j,u,U,rfl,rfl,hu'⟩
  ·unfold Ye at hfd
   simp only at hfd
   cases hfd
   cases ok with
   | true=>exact ⟨rfl,_,.tup (.cons hZr (.cons (.bool _) .nil)),rfl⟩
   | false=>exact ⟨rfl,_,hZr,rfl⟩
  ·unfold Ye at hfd
   simp only at hfd
   cases hfd
   cases ok with
   | true=>exact ⟨rfl,_,.tup (.cons hu' (.cons (.bool _) .nil)),rfl⟩
   | false=>exact ⟨rfl,_,hu',rfl⟩
 unfold jBA at h'
 split at h'
 ·split at h'
  ·rename_i hk
   have hx:=hx.nilmap_inv
   obtain ⟨k1,R,k2,k3⟩:=key (es:=[]) (E:=#[]) (r:=none) .nil hk (by simp [ZG]) h'
   obtain ⟨e1,V,e2,e3⟩:=fin (E:=#[]) (em:=true) hk k3 h'
   have hch:=yNA hc hk hy true W
   refine k1 (V:=V) ?_ e2 e1
   rcases k3 with ⟨_,rfl⟩ | ⟨_,_,_,h0,_⟩
   ·simp at k2
    cases ok<;>simp [Instr.lookup,zY W hu,hx,hch,hZ,e3,k2]
   ·cases h0
  ·cases h'
 ·split at h'
  ·rename_i es hg
   split at h'
   ·rename_i hk
    obtain ⟨d,e',hρ,hx⟩:=hx.map_inv
    obtain ⟨d',e'',E,kk,hρ',hW,he⟩:=ykJ hs hg
    rw [hρ] at hρ';cases hρ'
    cases hfa:ZG c bv es 0 with
    | none=>rw [hfa] at h';cases h'
    | some r =>
     rw [hfa] at h'
     obtain ⟨k1,R,k2,k3⟩:=key he hk hfa h'
     obtain ⟨e1,V,e2,e3⟩:=fin (E:=E) (em:=E.isEmpty) hk k3 h'
     have hch:=yNA hc hk hy E.isEmpty W
     have hget:=Wq (P:=P) hW
     refine k1 (V:=V) ?_ e2 e1
     rcases k3 with ⟨rfl,rfl⟩ | ⟨j,u,U,rfl,rfl,_⟩
     ·cases ok<;>simp [Instr.lookup,zY W hu,hx,hget,hch,hZ,e3,k2]
     ·cases ok<;>simp [Instr.lookup,zY W hu,hx,hget,hch,e3,k2]
   ·cases h'
  ·cases h'
 ·cases h'
theorem wMA {a b:AV} (h:JQA a b=true) {ρ:Rho} {A B:Value} (ha:VRel ρ a A) (hb:VRel ρ b B) (n:Nat):Instr.sameBits n A B=true:=by
 unfold JQA at h
 split at h
 ·have hA:=ha.int_inv;have hB:=hb.int_inv
  simp only [Bool.and_eq_true] at h
  have e1:=YX (Nat.eq_of_beq_eq_true h.1)
  have e2:=h.2
  rw [ZD] at e2
  subst hA;subst hB;subst e1
  simpa [Instr.sameBits] using e2
 ·have hA:=ha.bool_inv;have hB:=hb.bool_inv
  subst hA;subst hB;simpa [Instr.sameBits] using h
 ·have hA:=ha.str_inv;have hB:=hb.str_inv
  subst hA;subst hB;simpa [Instr.sameBits] using h
 ·cases h
theorem ymA {ρ:Rho} (n:Nat):∀ {l m:List AV},Zi l m=true→∀ {L M:List Value},VRels ρ l L→VRels ρ m M→L.length=M.length∧(L.zip M).all (fun x=>Instr.sameBits n x.1 x.2)=true
 | [],[],_,_,_,.nil,.nil=>⟨rfl,rfl⟩
 | [],_::_,h,_,_,_,_=>by simp [Zi] at h
 | _::_,[],h,_,_,_,_=>by simp [Zi] at h
 | a::l,b::m,h,_,_,.cons x y,.cons x' y'=>by
  simp only [Zi,Bool.and_eq_true] at h
  obtain ⟨h1,h2⟩:=ymA n h.2 y y'
  exact ⟨by simp [h1],by simp [wMA h.1 x x' n];simpa using h2⟩
theorem yIJ {a b:AV} (h:JaJ a b=true) {ρ:Rho} {A B:Value} (ha:VRel ρ a A) (hb:VRel ρ b B) (n:Nat):Instr.sameBits (n+1) A B=true:=by
 unfold JaJ at h
 split at h
 ·split at h
  ·obtain ⟨L,rfl,hl⟩:=ha.agg_inv
   obtain ⟨M,rfl,hm⟩:=hb.agg_inv
   obtain ⟨h1,h2⟩:=ymA n h hl hm
   have h1:L.size=M.size:=by simpa using h1
   simp only [Instr.sameBits,h1,beq_self_eq_true,Bool.true_and]
   exact h2
  ·cases h
 ·exact wMA h ha hb (n+1)
theorem EntRels.key {ρ:Rho}:∀ {l L},EntRels ρ l L→∀ {i:Nat} {x:MapEntry},L[i]? = some x→VRel ρ (zdJ l i) x.key
 | _,_,.nil,i,x,h=>by simp at h
 | _,_,.cons a _ _,0,x,h=>by simp at h;subst h;exact a
 | _,_,.cons _ _ c,i+1,x,h=>by simpa [zdJ] using EntRels.key c (by simpa using h)
theorem EntRels.modify {ρ:Rho} {k v:AV} {K V:Value} (hk:VRel ρ k K) (hv:VRel ρ v V):∀ {l L},EntRels ρ l L→∀ (i:Nat),EntRels ρ (jhA l i (k,v)) (L.modify i fun e=>{ e with key:=K,val:=V })
 | _,_,.nil,i=>by simp [jhA];exact .nil
 | _,_,.cons _ _ c,0=>by simp [jhA];exact .cons hk hv c
 | _,_,.cons a b c,i+1=>by simp [jhA];exact .cons a b (EntRels.modify hk hv c i)
theorem EntRels.append {ρ:Rho}:∀ {l L m M},EntRels ρ l L→EntRels ρ m M→EntRels ρ (l++m) (L++M)
 | _,_,_,_,.nil,h=>h
 | _,_,_,_,.cons a b c,h=>.cons a b (EntRels.append c h)
theorem wNA {W:World} {d k:Nat} {E:Array MapEntry} (h:W.heap[d]? = some (.map E k)) (o:Obj):(setObj d o).run P W=.ok () { W with heap:=W.heap.setIfInBounds d o }:=by
 simp [setObj,Sem.run,h]
theorem After.setMap {ρ:Rho} {s:St} {W:World} (hs:SRel ρ s W) {b d k k':Nat} {e:Ext} {es es':List (AV × AV)} {E E':Array MapEntry} (hg:s.h.get b=some (.map es)) (hρ:ρ b=some (d,e))
  (hW:W.heap[d]? = some (.map E k)) (he:EntRels ρ es' E'.toList):After ρ s W ρ (s.put b (.map es')) { W with heap:=W.heap.setIfInBounds d (.map E' k') }:=by
 have hlt:=yS hW
 refine After.put hs hg hρ (O:=.map E' k') (by simp) (by simp [hlt]) ?_ rfl rfl rfl (.map he)
 intro i hi
 show (W.heap.setIfInBounds d (.map E' k'))[i]? = _
 rw [Array.getElem?_setIfInBounds,if_neg (by omega)]
theorem zqJ {c:Cmp} {k:AV}:∀ {es:List (AV × AV)} {i j:Nat} {v:AV},ZG c k es i=some (some (j,v))→i≤j∧j - i<es.length
 | [],i,j,v,h=>by cases h
 | (k',u)::es,i,j,v,h=>by
  unfold ZG at h
  split at h
  ·cases h;exact ⟨Nat.le_refl _,by simp⟩
  ·obtain ⟨h1,h2⟩:=zqJ h
   have:i+1≤j:=h1
   have h3:j - (i+1)<es.length:=h2
   exact ⟨by omega,by simp;omega⟩
  ·cases h
theorem yJJ {t key elem:TypeId} (hu:P.underlying t=some (.map key elem)) {c:Cmp} (hc:wqA P key=some c) {ρ:Rho} {s s':St} {W:World} (hs:SRel ρ s W) {m k w v:AV} {M K V:Value}
  (hm:VRel ρ m M) (hk:VRel ρ k K) (hv:VRel ρ w V) (h:YdA c s k w m=.val v s'):v=.undef∧∃ W',(Instr.mapUpdate t M K V).run P W=.ok () W'∧After ρ s W ρ s' W':=by
 unfold YdA at h
 split at h
 ·rename_i b
  split at h
  ·rename_i es hg
   split at h
   ·cases h
   ·rename_i hko
    obtain ⟨d,e',hρ,rfl⟩:=hm.map_inv
    obtain ⟨d',e'',E,kk,hρ',hW,he⟩:=ykJ hs hg
    rw [hρ] at hρ';cases hρ'
    have hch:=yNA hc hko hk false W
    have hget:=Wq (P:=P) hW
    split at h
    ·rename_i i u hfa
     split at h
     ·rename_i hsame
      cases h
      refine ⟨rfl,?_⟩
      obtain ⟨R,k2,k3⟩:=gEA hc hk W he hfa
      rcases k3 with ⟨h0,_⟩ | ⟨j,u',U,h0,rfl,_⟩
      ·cases h0
      ·cases h0
       obtain ⟨_,hlt⟩:=zqJ hfa
       have hlt':i<E.size:=by have:=he.length;simp at this hlt;omega
       have hEi:E[i]? = some E[i]:=by simp [hlt']
       have hkey:VRel ρ (zdJ es i) (E[i]).key:=he.key (by simp)
       have hbits:=yIJ hsame hkey hk 9999
       have hset:=fun o=>wNA (P:=P) hW o
       refine ⟨_,?_,After.setMap hs hg hρ hW (E':=E.modify i fun e=>{ e with key:=K,val:=V }) (k':=kk) (by
        have:=EntRels.modify hk hv he i
        simpa using this)⟩
       simp [Instr.mapUpdate,zY W hu,hget,hch,k2,hEi,Instr.keyThatStays,hbits,hset]
     ·cases h
    ·rename_i hfa
     cases h
     refine ⟨rfl,?_⟩
     obtain ⟨R,k2,k3⟩:=gEA hc hk W he hfa
     rcases k3 with ⟨_,rfl⟩ | ⟨_,_,_,h0,_⟩
     ·have hset:=fun o=>wNA (P:=P) hW o
      refine ⟨_,?_,After.setMap hs hg hρ hW (E':=E.push { key:=K,val:=V,born:=kk }) (k':=kk+1) (by
       have:=EntRels.append he (.cons (x:={ key:=K,val:=V,born:=kk }) hk hv .nil)
       simpa using this)⟩
      simp [Instr.mapUpdate,zY W hu,hget,hch,k2,hset]
     ·cases h0
    ·cases h
  ·cases h
 ·cases h
theorem zaA {op:Op} {t key elem:TypeId} {x y w:Operand} (hop:op=.mapUpdate t x y w∨op=.insert t x y w) (hu:P.underlying t=some (.map key elem)) {c:Cmp} (hc:wqA P key=some c) {a b d:Arg}
  (ha:jL x=some a) (hb:jL y=some b) (hd:jL w=some d):Sound P op (wsA c a b d):=by
 intro o ho ρ L T s W v s' hL hs hf
 unfold wsA at hf
 split at hf
 ·obtain ⟨rfl,W',h1,h2⟩:=yJJ hu hc hs (zX hL ha) (zX hL hb) (zX hL hd) hf
  refine ⟨ρ,W',undef,.inr ⟨?_,rfl⟩,h2,.tup .nil⟩
  rcases hop with rfl | rfl<;>simp [execOp,ho,h1]
 ·cases hf
theorem YlA {t key elem:TypeId} (hu:P.underlying t=some (.map key elem)) {c:Cmp} (hc:wqA P key=some c) {args:Array Operand} {ts:Array TypeId} (ht:ts[0]? = some t) {a b:Arg} (ha:jz args.toList=some [a,b]) :
  Sound P (JF .delete args ts) (YXJ c a b):=by
 intro o ho ρ L T s W v s' hL hs h
 have h:ARes.fail=.val v s':=h
 cases h
end Go.Abs
end
