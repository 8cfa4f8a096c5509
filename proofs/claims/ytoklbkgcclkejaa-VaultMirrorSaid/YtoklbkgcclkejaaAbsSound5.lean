/- The built-in functions. -/
import Derived.Test.YtoklbkgcclkejaaAbsSound4
noncomputable section
namespace Go.Abs
variable {P:Program}
theorem yi {o:Oper} {b:Builtin} {args:Array Operand} {ts:Array TypeId} (ho:o.op=.call { callee:=.builtin b,args:=args,argTypes:=ts }) (T:Array Value) (W:World) :
  ∃ cs,(execOp (evT T) o).run P W=(builtin b ts o.type cs (args.map (evT T))).run P W:=by
 simp only [execOp,ho,resolve,Sem.run_bind,Sem.run_pure,Result.andThen_ok,invoke]
 exact ⟨_,rfl⟩
theorem YG {args:Array Operand} {x:Operand} (h:args.toList=[x]) (T:Array Value):args.map (evT T)=#[evT T x]:=by
 apply Array.ext';simp [h]
theorem VcJ {args:Array Operand} {x y:Operand} (h:args.toList=[x,y]) (T:Array Value):args.map (evT T)=#[evT T x,evT T y]:=by
 apply Array.ext';simp [h]
theorem gK {l:List Operand} {a:Arg} (h:jz l=some [a]):∃ x,l=[x]∧jL x=some a:=by
 cases l with
 | nil=>cases h
 | cons x r =>
  unfold jz at h
  split at h
  ·rename_i b m h1 h2
   cases h
   cases r with
   | nil=>exact ⟨x,rfl,h1⟩
   | cons y r=>unfold jz at h2;split at h2<;>cases h2
  ·cases h
theorem YYA {l:List Operand} {a b:Arg} (h:jz l=some [a,b]):∃ x y,l=[x,y]∧jL x=some a∧jL y=some b:=by
 cases l with
 | nil=>cases h
 | cons x r =>
  unfold jz at h
  split at h
  ·rename_i c m h1 h2
   cases h
   obtain ⟨y,rfl,hy⟩:=gK h2
   exact ⟨x,y,rfl,h1,hy⟩
  ·cases h
abbrev JF (b:Builtin) (args:Array Operand) (ts:Array TypeId):Op:=.call { callee:=.builtin b,args:=args,argTypes:=ts }
theorem ykJ {ρ:Rho} {s:St} {W:World} (hs:SRel ρ s W) {b:Nat} {es:List (AV × AV)} (hb:s.h.get b=some (.map es)) :
  ∃ d e E k,ρ b=some (d,e)∧W.heap[d]? = some (.map E k)∧EntRels ρ es E.toList:=by
 obtain ⟨d,e,O,h1,h2,h3⟩:=hs.heap.obj b b _ (.lone hb trivial)
 cases h3 with
 | map a=>exact ⟨d,e,_,_,h1,h2,a⟩
theorem EntRels.length {ρ:Rho}:∀ {l L},EntRels ρ l L→l.length=L.length
 | _,_,.nil=>rfl
 | _,_,.cons _ _ c=>by simp [EntRels.length c]
theorem Wq {W:World} {d k:Nat} {E:Array MapEntry} (h:W.heap[d]? = some (.map E k)):(getObj d).run P W=.ok (.map E k) W:=by
 simp [getObj,Sem.run,h]
theorem WbA {t e:TypeId} (hu:P.underlying t=some (.slice e)) {args:Array Operand} {ts:Array TypeId} (ht:ts[0]? = some t) {a:Arg} (ha:jz args.toList=some [a]) :
  Sound P (JF .len args ts) (kUn zq a):=by
 intro o ho ρ L T s W v s' hL hs hf
 obtain ⟨x,hl,ha⟩:=gK ha
 obtain ⟨cs,hrun⟩:=yi (P:=P) ho T W
 have hx:=zX hL ha
 have h':zq s (a.ev L)=.val v s':=hf
 generalize a.ev L=av at hx h'
 unfold zq at h'
 split at h'
 ·cases h'
  obtain ⟨d,e,_,hx⟩:=hx.slice_inv
  refine Res.same hs (V:=goInt _) ?_ (.int _ _)
  rw [hrun,YG hl]
  simp [builtin,Builtin.len_,ht,zY W hu,hx]
 ·cases h'
  refine Res.same hs (V:=goInt 0) ?_ (.int _ _)
  rw [hrun,YG hl]
  simp [builtin,Builtin.len_,ht,zY W hu,hx.nilslice_inv]
 ·cases h'
  obtain ⟨d,e,q,_,_,hx⟩:=hx.tail_inv
  refine Res.same hs (V:=goInt 0) ?_ (.int _ _)
  rw [hrun,YG hl]
  simp [builtin,Builtin.len_,ht,zY W hu,hx]
 ·cases h'
  obtain ⟨_,d,e,_,_,hx⟩:=hx.vs_inv
  refine Res.same hs (V:=goInt _) ?_ (.int _ _)
  rw [hrun,YG hl]
  simp [builtin,Builtin.len_,ht,zY W hu,hx]
 ·cases h'
theorem YiA {t:TypeId} (hu:P.underlying t=some .string) {args:Array Operand} {ts:Array TypeId} (ht:ts[0]? = some t) {a:Arg} (ha:jz args.toList=some [a]) :
  Sound P (JF .len args ts) (kUn jCA a):=by
 intro o ho ρ L T s W v s' hL hs hf
 obtain ⟨x,hl,ha⟩:=gK ha
 obtain ⟨cs,hrun⟩:=yi (P:=P) ho T W
 have hx:=zX hL ha
 have h':jCA s (a.ev L)=.val v s':=hf
 generalize a.ev L=av at hx h'
 unfold jCA at h'
 split at h'
 ·cases h'
  refine Res.same hs (V:=goInt _) ?_ (.int _ _)
  rw [hrun,YG hl]
  simp [builtin,Builtin.len_,ht,zY W hu,hx.str_inv]
 ·cases h'
theorem YjA {t k e:TypeId} (hu:P.underlying t=some (.map k e)) {args:Array Operand} {ts:Array TypeId} (ht:ts[0]? = some t) {a:Arg} (ha:jz args.toList=some [a]) :
  Sound P (JF .len args ts) (kUn YW a):=by
 intro o ho ρ L T s W v s' hL hs hf
 obtain ⟨x,hl,ha⟩:=gK ha
 obtain ⟨cs,hrun⟩:=yi (P:=P) ho T W
 have hx:=zX hL ha
 have h':YW s (a.ev L)=.val v s':=hf
 generalize a.ev L=av at hx h'
 unfold YW at h'
 split at h'
 ·cases h'
  refine Res.same hs (V:=goInt 0) ?_ (.int _ _)
  rw [hrun,YG hl]
  simp [builtin,Builtin.len_,ht,zY W hu,hx.nilmap_inv]
 ·split at h'
  ·rename_i es hg
   cases h'
   obtain ⟨d,e',hρ,hx⟩:=hx.map_inv
   obtain ⟨d',e'',E,k',hρ',hW,hr⟩:=ykJ hs hg
   rw [hρ] at hρ';cases hρ'
   refine Res.same hs (V:=goInt _) ?_ (.int _ _)
   rw [hrun,YG hl]
   have hlen:=hr.length
   simp [builtin,Builtin.len_,ht,zY W hu,hx,Wq hW,hlen]
  ·cases h'
 ·cases h'
theorem gZJ {t e:TypeId} (hu:P.underlying t=some (.slice e)) {args:Array Operand} {ts:Array TypeId} (ht:ts[0]? = some t) {a:Arg} (ha:jz args.toList=some [a]) :
  Sound P (JF .cap args ts) (kUn YTA a):=by
 intro o ho ρ L T s W v s' hL hs hf
 obtain ⟨x,hl,ha⟩:=gK ha
 obtain ⟨cs,hrun⟩:=yi (P:=P) ho T W
 have hx:=zX hL ha
 have h':YTA s (a.ev L)=.val v s':=hf
 generalize a.ev L=av at hx h'
 unfold YTA at h'
 split at h'
 ·cases h'
  obtain ⟨d,e,_,hx⟩:=hx.slice_inv
  refine Res.same hs (V:=goInt _) ?_ (.int _ _)
  rw [hrun,YG hl]
  simp [builtin,Builtin.cap_,ht,zY W hu,hx]
 ·rename_i c
  cases h'
  obtain ⟨d,e,hρ,hx⟩:=hx.slice_inv
  refine Res.same hs (V:=goInt ((c+e.1:Nat):Int)) ?_ (.ge (by show (c:Int)≤_;omega))
  rw [hrun,YG hl]
  simp [builtin,Builtin.cap_,ht,zY W hu,hx]
 ·cases h'
  obtain ⟨d,e,q,_,_,hx⟩:=hx.tail_inv
  refine Res.same hs (V:=goInt (e.1:Nat)) ?_ (.ge (by omega))
  rw [hrun,YG hl]
  simp [builtin,Builtin.cap_,ht,zY W hu,hx]
 ·cases h'
  refine Res.same hs (V:=goInt 0) ?_ (.int _ _)
  rw [hrun,YG hl]
  simp [builtin,Builtin.cap_,ht,zY W hu,hx.nilslice_inv]
 ·cases h'
theorem zbA {b:Builtin} (hb:b=.len∨b=.cap) {t e:TypeId} {n:Nat} (hu:P.underlying t=some (.array n e)) {args:Array Operand} {ts:Array TypeId} (ht:ts[0]? = some t) {a:Arg} (ha:jz args.toList=some [a]) :
  Sound P (JF b args ts) (zE (.con (.int .i64 n))):=by
 intro o ho ρ L T s W v s' hL hs hf
 obtain ⟨x,hl,ha⟩:=gK ha
 obtain ⟨cs,hrun⟩:=yi (P:=P) ho T W
 cases hf
 refine Res.same hs (V:=goInt n) ?_ (.int _ _)
 rw [hrun,YG hl]
 rcases hb with rfl | rfl
 ·simp [builtin,Builtin.len_,ht,zY W hu]
 ·simp [builtin,Builtin.cap_,ht,zY W hu]
theorem gBA {f:AV→AV→AV} {g:Value→Value→Sem Value} {W:World} (hfg:∀ {ρ:Rho} {a b:AV} {A B:Value},VRel ρ a A→VRel ρ b B→f a b≠.bad→∃ C,(g A B).run P W=.ok C W∧VRel ρ (f a b) C)
  (hbad:∀ b,f .bad b=.bad) {ρ:Rho}:∀ {l:List AV} {Ls:List Value} {x:AV} {X:Value},VRel ρ x X→VRels ρ l Ls→VX f x l≠.bad→∃ C,(Ls.foldlM g X).run P W=.ok C W∧VRel ρ (VX f x l) C
 | _,_,x,X,hx,.nil,_=>⟨X,by simp,hx⟩
 | _,_,x,X,hx,.cons (a:=a) (l:=l) ha hl,hb=>by
  have hall:∀ (l:List AV),VX f .bad l=.bad:=by
   intro l;induction l with
   | nil=>rfl
   | cons a l ih=>simp [VX,hbad,ih]
  have h1:f x a≠.bad:=by
   intro e
   apply hb
   show VX f (f x a) l=.bad
   rw [e,hall]
  obtain ⟨C,hC,hr⟩:=hfg hx ha h1
  obtain ⟨D,hD,hr'⟩:=gBA hfg hbad hr hl hb
  exact ⟨D,by simp [hC,hD],hr'⟩
theorem YIJ {W:World} {ρ:Rho} {a b:AV} {A B:Value} (ha:VRel ρ a A) (hb:VRel ρ b B) (h:yjJ a b≠.bad):∃ C,(Builtin.min2 A B).run P W=.ok C W∧VRel ρ (yjJ a b) C:=by
 unfold yjJ at h ⊢
 split at h
 ·rename_i k x k' y
  have hA:=ha.int_inv
  have hB:=hb.int_inv
  refine ⟨.int k (if y<x then y else x),by simp [hA,hB,Builtin.min2],?_⟩
  have:(match leI x y with | true=>x | false=>y)=if y<x then y else x:=by
   rw [wT]
   by_cases hxy:x≤y
   ·simp [hxy,Int.not_lt.2 hxy]
   ·simp [hxy,Int.not_le.1 hxy]
  show VRel ρ (.int k (match leI x y with | true=>x | false=>y)) _
  rw [this];exact .int _ _
 ·exact absurd rfl h
theorem YLJ {W:World} {ρ:Rho} {a b:AV} {A B:Value} (ha:VRel ρ a A) (hb:VRel ρ b B) (h:jvA a b≠.bad):∃ C,(Builtin.max2 A B).run P W=.ok C W∧VRel ρ (jvA a b) C:=by
 unfold jvA at h ⊢
 split at h
 ·rename_i k x k' y
  have hA:=ha.int_inv
  have hB:=hb.int_inv
  refine ⟨.int k (if y > x then y else x),by simp [hA,hB,Builtin.max2],?_⟩
  have:(match leI y x with | true=>x | false=>y)=if y > x then y else x:=by
   rw [wT]
   by_cases hxy:y≤x
   ·simp [hxy,Int.not_lt.2 hxy]
   ·simp [hxy,Int.not_le.1 hxy]
  show VRel ρ (.int k (match leI y x with | true=>x | false=>y)) _
  rw [this];exact .int _ _
 ·exact absurd rfl h
theorem gSJ {args:Array Operand} {ts:Array TypeId} {a:Arg} {r:List Arg} (ha:jz args.toList=some (a::r)):Sound P (JF .min args ts) (gY yjJ a r):=by
 intro o ho ρ L T s W v s' hL hs hf
 obtain ⟨cs,hrun⟩:=yi (P:=P) ho T W
 obtain ⟨hf,hb⟩:=gN hf
 cases hf
 have hall:=gJ hL ha
 cases hl:args.toList with
 | nil=>rw [hl] at ha;cases ha
 | cons x xs =>
  rw [hl] at hall
  cases hall with
  | cons h1 h2 =>
   obtain ⟨C,hC,hr⟩:=gBA (P:=P) (W:=W) (g:=Builtin.min2) (fun a b c=>YIJ a b c) (fun b=>by cases b<;>rfl) h1 h2 hb
   refine Res.same hs (V:=C) ?_ hr
   rw [hrun]
   simp [builtin,Builtin.min_,hl,hC]
theorem gTJ {args:Array Operand} {ts:Array TypeId} {a:Arg} {r:List Arg} (ha:jz args.toList=some (a::r)):Sound P (JF .max args ts) (gY jvA a r):=by
 intro o ho ρ L T s W v s' hL hs hf
 obtain ⟨cs,hrun⟩:=yi (P:=P) ho T W
 obtain ⟨hf,hb⟩:=gN hf
 cases hf
 have hall:=gJ hL ha
 cases hl:args.toList with
 | nil=>rw [hl] at ha;cases ha
 | cons x xs =>
  rw [hl] at hall
  cases hall with
  | cons h1 h2 =>
   obtain ⟨C,hC,hr⟩:=gBA (P:=P) (W:=W) (g:=Builtin.max2) (fun a b c=>YLJ a b c) (fun b=>by cases b<;>rfl) h1 h2 hb
   refine Res.same hs (V:=C) ?_ hr
   rw [hrun]
   simp [builtin,Builtin.max_,hl,hC]
end Go.Abs
end
