/- What operations, pieces of code and calls leave as it was, told of the abstract states alone. -/
import Derived.Test.YtoklbkgcclkejaaAbsLight2
set_option linter.unusedVariables false
noncomputable section
namespace Go.Abs
variable {P:Program}
def FrF (f:OpF):Prop:=∀ L s v s',f L s=.val v s'→Fr s s'
theorem Light.fr {l:List Operand} {c:Nat} {f:OpF} (h:Light l c f):FrF f:=by
 intro L s v s' hf
 obtain ⟨_,new,_,_,e,_⟩:=h L s v s' hf
 rw [e]
 exact .add s new
theorem YiJ (k:Nat) (a x:Arg):FrF (jD k a x):=by
 intro L s v s' h
 unfold jD at h
 generalize a.ev L=p at h
 unfold jM at h
 split at h
 ·split at h
  ·rename_i hg
   split at h
   ·cases h
   ·split at h
    ·cases h
    ·split at h
     ·cases h;exact .put _ hg
     ·cases h
  ·cases h
 ·cases h
theorem YhJ (c:Cmp) (m k v:Arg):FrF (wsA c m k v):=by
 intro L s w s' h
 unfold wsA at h
 split at h
 ·generalize m.ev L=p at h
  unfold YdA at h
  split at h
  ·split at h
   ·rename_i hg
    split at h
    ·cases h
    ·split at h
     ·split at h
      ·cases h;exact .put _ hg
      ·cases h
     ·cases h;exact .put _ hg
     ·cases h
   ·cases h
  ·cases h
 ·cases h
theorem vaQ (c:Cmp) (m k:Arg):FrF (YXJ c m k):=by
 intro L s w s' h
 have h:ARes.fail=.val w s':=h
 cases h
theorem VWA {size bytes tg n:Nat} {new:List AV} {s s':St} {x v:AV} (h:wD size bytes tg n new s x=.val v s'):Fr s s':=by
 unfold wD at h
 split at h
 ·split at h
  ·cases h;exact .refl _
  ·split at h
   ·cases h
   ·cases h;exact .new _ _
 ·split at h
  ·rename_i hg
   split at h
   ·split at h
    ·cases h;exact .put _ hg
    ·cases h
   ·split at h
    ·cases h
    ·split at h
     ·split at h
      ·cases h;exact (Fr.kill _ _).trans (.new _ _)
      ·cases h
     ·split at h
      ·cases h;exact .new _ _
      ·cases h
  ·cases h
 ·split at h
  ·cases h;exact .refl _
  ·split at h
   ·cases h
   ·split at h
    ·split at h
     ·cases h;exact (Fr.kill _ _).trans (.new _ _)
     ·cases h
    ·cases h
 ·cases h
theorem Fr.bump (s:St):Fr s s.bump :=
 ⟨Nat.le_succ _,Nat.le_refl _,fun _ _ _=>rfl,fun h b hb=>h b (Nat.le_of_succ_le hb)⟩
theorem gJA {size b k0 k len n:Nat} {c new:List AV} {rest:List (Nat × Nat)} {s s':St} {v:AV} (h:yIA size b k0 k len n c new rest s=.val v s'):∃ o,s'=(s.put b o).bump:=by
 unfold yIA at h
 split at h
 ·cases h;exact ⟨_,rfl⟩
 ·cases h
theorem JyA {size bytes tg n:Nat} {new:List AV} {s s':St} {x v:AV} (h:jLA size bytes tg n new s x=.val v s') :
  (∃ b y o,jN x=some b∧s.h.get b=some y∧s'=(s.put b o).bump)∨wD size bytes tg n new s x=.val v s':=by
 unfold jLA at h
 split at h
 ·split at h
  ·split at h
   ·rename_i hg
    split at h
    ·obtain ⟨o,e⟩:=gJA h;exact .inl ⟨_,_,o,rfl,hg,e⟩
    ·cases h
   ·rename_i hg
    split at h
    ·obtain ⟨o,e⟩:=gJA h;exact .inl ⟨_,_,o,rfl,hg,e⟩
    ·cases h
   ·cases h
  ·cases h
 ·split at h
  ·split at h
   ·rename_i hg
    split at h
    ·split at h
     ·obtain ⟨o,e⟩:=gJA h;exact .inl ⟨_,_,o,rfl,hg,e⟩
     ·cases h
    ·cases h
   ·cases h
  ·cases h
 ·exact .inr h
theorem YnJ {size bytes tg n:Nat} {new:List AV} {s s':St} {x v:AV} (h:jLA size bytes tg n new s x=.val v s'):Fr s s':=by
 rcases JyA h with ⟨b,y,o,_,hg,rfl⟩ | h
 ·exact (Fr.put o hg).trans (.bump _)
 ·exact VWA h
theorem ZbJ (fm:Bool) (size bytes tg:Nat) (a b:Arg):FrF (jJ (jT fm size bytes tg) a b):=by
 intro L s v s' h
 unfold jJ at h
 generalize a.ev L=x at h
 generalize b.ev L=y at h
 unfold jT at h
 repeat' (split at h)
 all_goals first | (cases h;done) | exact VWA h | exact YnJ h
theorem vKJ (z:List AV) (size bytes tg:Nat) (a b:Arg):FrF (jJ (JX z size bytes tg) a b):=by
 intro L s v s' h
 unfold jJ at h
 generalize a.ev L=x at h
 generalize b.ev L=y at h
 unfold JX at h
 repeat' (split at h)
 all_goals first | (cases h;done) | exact VWA h
theorem YoJ (z:List AV) (a:Arg):FrF (kUn (VfA z) a):=by
 intro L s v s' h
 have h:ARes.fail=.val v s':=h
 cases h
theorem ZqA {size:Nat} {s s':St} {x y v:AV} (h:Vy size s x y=.val v s'):s'=s:=by
 unfold Vy at h
 cases h
theorem yiJ {z:Nat} {s s':St} {x v:AV} (h:vfA z s x=.val v s'):∃ o,s'=s.new o:=by
 unfold vfA at h
 cases h
theorem vKA {f:FuncId} {args:List Operand} {g:OpF} (h:WJ P f args=some g) {L:Env} {s s':St} {v:AV} (hg:g L s=.val v s'):s'=s∨∃ o,s'=s.new o:=by
 unfold WJ at h
 repeat' (split at h)
 all_goals first | (cases h;done) | (cases h;exact .inl (ZqA hg)) | (cases h;cases hg;exact .inl rfl) | (cases h;exact .inr (yiJ hg))
theorem zBQ (size:Nat) (a b:Arg):FrF (jJ (wdJ size) a b):=by
 intro L s v s' h
 have h:ARes.fail=.val v s':=h
 cases h
theorem gUA {a b:TypeId} {y:Arg} {f:OpF} (h:gVA P a b y=some f) {L:Env} {s s':St} {v:AV} (hg:f L s=.val v s'):s'=s:=by
 unfold gVA at h
 repeat' (split at h)
 all_goals first | (cases h;done) | (cases h;have hg:ARes.fail=.val v s':=hg;cases hg)
theorem Yw {t:Nat} {s s':St} {x n v:AV} (h:Zc t s x n=.val v s'):s'=s∨∃ b,jN x=some b∧s'=s.kill b:=by
 unfold Zc at h
 cases h
theorem VVA (t:Nat) (a b:Arg):FrF (jJ (Zc t) a b):=by
 intro L s v s' h
 rcases Yw h with e | ⟨b,_,e⟩
 ·rw [e];exact .refl _
 ·rw [e];exact .kill _ _
theorem vJJ {b:Builtin} {args:Array Operand} {ts:Array TypeId} {m:List Arg} (ha:jz args.toList=some m) {f:OpF} (hf:vn P b ts m=some f):FrF f:=by
 by_cases hc:yD (.call ⟨.builtin b,args,ts⟩)=3
 ·unfold vn at hf
  split at hf
  all_goals first | (cases hf;done) | (cases hc;done) | skip
  ·unfold jUA at hf
   repeat' (split at hf)
   all_goals first | (cases hf;done) | (cases hf;exact ZbJ _ _ _ _ _ _) | (cases hf;exact vKJ _ _ _ _ _ _)
  ·unfold jIJ at hf
   repeat' (split at hf)
   all_goals first | (cases hf;done) | (cases hf;exact zBQ _ _ _)
  ·unfold gZA at hf
   repeat' (split at hf)
   all_goals first | (cases hf;done) | (cases hf;exact YoJ _ _)
  ·unfold Zb at hf
   repeat' (split at hf)
   all_goals first | (cases hf;done) | (cases hf;exact VVA _ _ _)
  ·repeat' (split at hf)
   all_goals first | (cases hf;done) | (cases hf;exact vaQ _ _ _)
 ·exact (Wc ha hf hc).fr
theorem wyA {p q:TypeId} {x:Operand} {a:Arg} {f:OpF} (hc:yD (.convert p q x)=3) (h:gTA P p q a=some f):JR p q=true∧gVA P p q a=some f:=by
 have hc:(match JR p q with | true=>3 | false=>0)=3:=hc
 unfold gTA at h
 cases e:JR p q with
 | true=>rw [e] at h;exact ⟨rfl,h⟩
 | false=>rw [e] at hc;cases hc
theorem ybJ {op:Op} {f:OpF} (h:opK P op=some f):FrF f:=by
 by_cases hc:yD op=3
 ·unfold opK at h
  split at h
  all_goals first | (cases hc;done) | skip
  ·split at h
   ·obtain ⟨a,b,ha,hb,h⟩:=yB h;cases h;exact YiJ _ _ _
   ·cases h
  ·obtain ⟨a,ha,h⟩:=jS h
   obtain ⟨_,h⟩:=wyA hc h
   intro L s v s' hg
   rw [gUA h hg];exact .refl _
  ·split at h
   ·obtain ⟨a,b,c,ha,hb,hd,h⟩:=yl h;cases h;exact YhJ _ _ _ _
   ·cases h
  ·split at h
   ·obtain ⟨a,b,c,ha,hb,hd,h⟩:=yl h;cases h;exact YhJ _ _ _ _
   ·cases h
  ·split at h
   ·rename_i hl;exact vJJ hl h
   ·cases h
  ·intro L s v s' hg
   rcases vKA h hg with e | ⟨o,e⟩
   ·rw [e];exact .refl _
   ·rw [e];exact .new _ _
  ·cases h
 ·exact (JdA h hc).fr
theorem gnA {x:Operand} {a:Arg} (h:jL x=some a) (L:Env):(∃ t,x=.tmp t∧a.ev L=L.find t)∨jN (a.ev L)=none:=by
 unfold jL at h
 split at h
 ·rename_i t;cases h;exact .inl ⟨t,rfl,rfl⟩
 ·rename_i v
  split at h
  ·rename_i w hw
   cases h
   right
   show jN w=none
   unfold zsA at hw
   split at hw
   ·split at hw
    ·cases hw;rfl
    ·cases hw
   ·unfold VI at hw
    split at hw
    all_goals first
     | (cases hw;rfl)
     | (cases hw;done)
     | (split at hw<;>first | (cases hw;rfl) | (cases hw;done))
  ·cases h
 ·cases h;exact .inr rfl
 ·cases h;exact .inr rfl
def Only (l:List Operand) (f:OpF):Prop:=∀ L s v s',f L s=.val v s'→∀ b,b<s.n→(∀ t r,l=.tmp t::r→jN (L.find t)≠some b)→s'.h.get b=s.h.get b
theorem VK {x:Operand} {a:Arg} (ha:jL x=some a) {r:List Operand} {L:Env} {b c:Nat} (hb:∀ t q,x::r=.tmp t::q→jN (L.find t)≠some b) (hc:jN (a.ev L)=some c):b≠c:=by
 rcases gnA ha L with ⟨t,rfl,e⟩ | e
 ·intro z
  subst z
  rw [e] at hc
  exact hb t r rfl hc
 ·rw [e] at hc;cases hc
theorem wz {s:St} {b c:Nat} {o:AObj} (h:b≠c):(s.put c o).h.get b=s.h.get b:=by rw [St.put_h,jH _ _ _ _ h]
theorem ydJ (k:Nat) {x:Operand} {a:Arg} (ha:jL x=some a) (y:Arg) (r:List Operand):Only (x::r) (jD k a y):=by
 intro L s v s' h b hbn hb
 have hne:=fun c hc=>VK (c:=c) ha hb hc
 unfold jD at h
 generalize a.ev L=p at h hne
 unfold jM at h
 split at h
 ·split at h
  ·split at h
   ·cases h
   ·split at h
    ·cases h
    ·split at h
     ·cases h;exact wz (hne _ rfl)
     ·cases h
  ·cases h
 ·cases h
theorem zIJ (c:Cmp) {x:Operand} {m:Arg} (ha:jL x=some m) (k v:Arg) (r:List Operand):Only (x::r) (wsA c m k v):=by
 intro L s w s' h b hbn hb
 have hne:=fun c hc=>VK (c:=c) ha hb hc
 unfold wsA at h
 split at h
 ·generalize m.ev L=p at h hne
  unfold YdA at h
  split at h
  ·split at h
   ·split at h
    ·cases h
    ·split at h
     ·split at h
      ·cases h;exact wz (hne _ rfl)
      ·cases h
     ·cases h;exact wz (hne _ rfl)
     ·cases h
   ·cases h
  ·cases h
 ·cases h
theorem JxJ (c:Cmp) {x:Operand} {m:Arg} (ha:jL x=some m) (k:Arg) (r:List Operand):Only (x::r) (YXJ c m k):=by
 intro L s w s' h b hbn hb
 have h:ARes.fail=.val w s':=h
 cases h
theorem juA {size bytes tg n:Nat} {new:List AV} {s s':St} {x v:AV} (h:wD size bytes tg n new s x=.val v s') {b:Nat} (hbn:b<s.n) (hne:∀ c,jN x=some c→b≠c):s'.h.get b=s.h.get b:=by
 have hnew:∀ (u:St) (o:AObj),u.n=s.n→(u.new o).h.get b=u.h.get b:=fun u o e=>by rw [St.new_h,jH _ _ _ _ (by omega)]
 unfold wD at h
 split at h
 ·split at h
  ·cases h;rfl
  ·split at h
   ·cases h
   ·cases h;exact hnew _ _ rfl
 ·split at h
  ·split at h
   ·split at h
    ·cases h;exact wz (hne _ rfl)
    ·cases h
   ·split at h
    ·cases h
    ·split at h
     ·split at h
      ·cases h
       exact (hnew (s.kill _) _ rfl).trans (by rw [St.kill_h,jH _ _ _ _ (hne _ rfl)])
      ·cases h
     ·split at h
      ·cases h;exact hnew _ _ rfl
      ·cases h
  ·cases h
 ·split at h
  ·cases h;rfl
  ·split at h
   ·cases h
   ·split at h
    ·split at h
     ·cases h
      exact (hnew (s.kill _) _ rfl).trans (by rw [St.kill_h,jH _ _ _ _ (hne _ rfl)])
     ·cases h
    ·cases h
 ·cases h
theorem yeJ {size bytes tg n:Nat} {new:List AV} {s s':St} {x v:AV} (h:jLA size bytes tg n new s x=.val v s') {b:Nat} (hbn:b<s.n) (hne:∀ c,jN x=some c→b≠c):s'.h.get b=s.h.get b:=by
 rcases JyA h with ⟨c,y,o,hb,_,rfl⟩ | h
 ·exact wz (hne _ hb)
 ·exact juA h hbn hne
theorem zJJ (fm:Bool) (size bytes tg:Nat) {x:Operand} {a:Arg} (ha:jL x=some a) (y:Arg) (r:List Operand):Only (x::r) (jJ (jT fm size bytes tg) a y):=by
 intro L s v s' h b hbn hb
 have hne:=fun c hc=>VK (c:=c) ha hb hc
 unfold jJ at h
 generalize a.ev L=p at h hne
 generalize y.ev L=q at h
 unfold jT at h
 repeat' (split at h)
 all_goals first | (cases h;done) | exact juA h hbn hne | exact yeJ h hbn hne
theorem VAA (z:List AV) (size bytes tg:Nat) {x:Operand} {a:Arg} (ha:jL x=some a) (y:Arg) (r:List Operand):Only (x::r) (jJ (JX z size bytes tg) a y):=by
 intro L s v s' h b hbn hb
 have hne:=fun c hc=>VK (c:=c) ha hb hc
 unfold jJ at h
 generalize a.ev L=p at h hne
 generalize y.ev L=q at h
 unfold JX at h
 repeat' (split at h)
 all_goals first | (cases h;done) | exact juA h hbn hne
theorem yfJ (z:List AV) {x:Operand} {a:Arg} (ha:jL x=some a) (r:List Operand):Only (x::r) (kUn (VfA z) a):=by
 intro L s w s' h b hbn hb
 have h:ARes.fail=.val w s':=h
 cases h
theorem gxJ (size:Nat) {x:Operand} {a:Arg} (ha:jL x=some a) (y:Arg) (r:List Operand):Only (x::r) (jJ (wdJ size) a y):=by
 intro L s w s' h b hbn hb
 have h:ARes.fail=.val w s':=h
 cases h
theorem jTA {l:List Operand} {a b:Arg} (h:jz l=some [a,b]):∃ x y,l=[x,y]∧jL x=some a∧jL y=some b:=by
 obtain ⟨x,q,rfl,hx⟩:=VnA h
 unfold jz at h
 split at h
 ·rename_i h1 h2
  cases h
  obtain ⟨y,q',rfl,hy⟩:=VnA h2
  unfold jz at h2
  split at h2
  ·rename_i h3 h4
   cases h2
   cases q' with
   | nil=>exact ⟨x,y,rfl,hx,hy⟩
   | cons z w =>
    unfold jz at h4
    split at h4
    ·cases h4
    ·cases h4
  ·cases h2
 ·cases h
theorem YzA {b:Builtin} {args:Array Operand} {ts:Array TypeId} {m:List Arg} (ha:jz args.toList=some m) {f:OpF} (hf:vn P b ts m=some f)
  (hc:yD (.call ⟨.builtin b,args,ts⟩)=3):Only (Op.call ⟨.builtin b,args,ts⟩).operands.toList f:=by
 have hop:(Op.call ⟨.builtin b,args,ts⟩).operands.toList=args.toList:=by simp [Op.operands,Call.operands]
 rw [hop]
 unfold vn at hf
 split at hf
 all_goals first | (cases hf;done) | (cases hc;done) | skip
 ·obtain ⟨x,y,e,hx,hy⟩:=jTA ha
  rw [e]
  unfold jUA at hf
  repeat' (split at hf)
  all_goals first | (cases hf;done) | (cases hf;exact zJJ _ _ _ _ hx _ _) | (cases hf;exact VAA _ _ _ _ hx _ _)
 ·obtain ⟨x,y,e,hx,hy⟩:=jTA ha
  rw [e]
  unfold jIJ at hf
  repeat' (split at hf)
  all_goals first | (cases hf;done) | (cases hf;exact gxJ _ hx _ _)
 ·obtain ⟨x,q,e,hx⟩:=VnA ha
  rw [e]
  unfold gZA at hf
  repeat' (split at hf)
  all_goals first | (cases hf;done) | (cases hf;exact yfJ _ hx _)
 ·obtain ⟨x,y,e,hx,hy⟩:=jTA ha
  rw [e]
  unfold Zb at hf
  repeat' (split at hf)
  all_goals first | (cases hf;done) | skip
  cases hf
  intro L s v s' h b hb hne
  rcases Yw h with e | ⟨c,hc',e⟩
  ·rw [e]
  ·rw [e,St.kill_h,jH _ _ _ _ (VK hx hne hc')]
 ·obtain ⟨x,y,e,hx,hy⟩:=jTA ha
  rw [e]
  repeat' (split at hf)
  all_goals first | (cases hf;done) | (cases hf;exact JxJ _ hx _ _)
theorem JwJ {op:Op} {f:OpF} (h:opK P op=some f) (hc:yD op=3):Only op.operands.toList f:=by
 unfold opK at h
 split at h
 all_goals first | (cases hc;done) | skip
 ·split at h
  ·obtain ⟨a,b,ha,hb,h⟩:=yB h;cases h;exact ydJ _ ha _ _
  ·cases h
 ·obtain ⟨a,ha,h⟩:=jS h
  obtain ⟨_,h⟩:=wyA hc h
  intro L s v s' hg b _ _
  rw [gUA h hg]
 ·split at h
  ·obtain ⟨a,b,c,ha,hb,hd,h⟩:=yl h;cases h;exact zIJ _ ha _ _ _
  ·cases h
 ·split at h
  ·obtain ⟨a,b,c,ha,hb,hd,h⟩:=yl h;cases h;exact zIJ _ ha _ _ _
  ·cases h
 ·split at h
  ·rename_i hl;exact YzA hl h hc
  ·cases h
 ·intro L s v s' hg b hb _
  rcases vKA h hg with e | ⟨o,e⟩
  ·rw [e]
  ·rw [e,St.new_h,jH _ _ _ _ (by omega)]
 ·cases h
def FrCall (cl:zR):Prop:=∀ t l s v s',cl t l s=.val v s'→Fr s s'
theorem FrCall.val {cl:zR} (hc:FrCall cl) {l:List AV} {s s':St} {f v:AV} (h:wh cl l s f=.val v s'):Fr s s':=by
 unfold wh at h
 split at h
 ·exact hc _ _ _ _ _ h
 ·exact hc _ _ _ _ _ h
 ·cases h
def vM (f:zF):Prop:=∀ cl,FrCall cl→∀ L s M s',f cl L s=.ok M s'→Fr s s'
theorem YmJ:vM zJ:=fun _ _ L s M s' h=>by cases h;exact .refl _
theorem vZQ {d:Dst} {f:OpF} {rest:zF} (hf:FrF f) (hr:vM rest):vM (zC d f rest):=by
 intro cl hc L s M s' h
 unfold zC at h
 generalize hx:f L s=x at h
 cases x with
 | fail=>cases h
 | val v s₁=>exact (hf _ _ _ _ hx).trans (hr cl hc _ _ _ _ h)
theorem zCQ {d:Dst} {f:Arg} {l:List Arg} {rest:zF} (hr:vM rest):vM (zo d f l rest):=by
 intro cl hc L s M s' h
 unfold zo at h
 generalize hx:wh cl (evs l L) s (f.ev L)=x at h
 cases x with
 | fail=>cases h
 | val v s₁=>exact (hc.val hx).trans (hr cl hc _ _ _ _ h)
theorem Fr.tame {s s₁:St} (a:Fr ⟨s.h,s.n,far⟩ s₁):Fr s ⟨s₁.h,s₁.n,yA s.m s₁.m⟩ :=
 a.mark _ (jW _ _) (fun _ h _=>Nat.lt_of_lt_of_le h (jY _ _))
theorem JoA {a b:IntKind} (h:Nat.beq (vi a) (vi b)=true):a=b:=by
 cases a<;>cases b<;>first | rfl | (exact absurd h (by decide))
theorem VB:∀ {l m:List UInt8},ZR l m=true→l=m
 | [],[],_=>rfl
 | [],_::_,h=>by cases h
 | _::_,[],h=>by cases h
 | a::l,b::m,h=>by
  unfold ZR at h
  split at h
  ·rename_i hb
   have e:a.toNat=b.toNat:=Nat.eq_of_beq_eq_true hb
   rw [UInt8.toNat_inj.mp e,VB h]
  ·cases h
theorem VmA {x y:ByteArray} (h:Yl x y=true):x=y:=by
 have e:=VB h
 cases x with | mk x=>cases y with | mk y=>cases x with | mk x=>cases y with | mk y=>exact congrArg (fun l=>ByteArray.mk (Array.mk l)) e
theorem jQJ {a b:Bool} (h:((a && b) || (!a && !b))=true):a=b:=by cases a<;>cases b<;>first | rfl | cases h
theorem Vi {a b:Bool} (h:(a && b)=true):a=true∧b=true:=by simpa using h
theorem YF {a b:Nat} (h:Nat.beq a b=true):a=b:=Nat.eq_of_beq_eq_true h
theorem zyJ {a b:Int} (h:eqI a b=true):a=b:=by rw [ZD] at h;exact eq_of_beq h
mutual
theorem YwJ:∀ {a b:AV},eqV a b=true→a=b
 | .bad,b,h=>by cases b<;>first | rfl | cases h
 | .int k n,b,h=>by
  cases b<;>first | cases h | skip
  obtain ⟨h1,h2⟩:=Vi h
  rw [JoA h1,zyJ h2]
 | .bool a,b,h=>by
  cases b<;>first | cases h | skip
  rw [jQJ h]
 | .str a,b,h=>by
  cases b<;>first | cases h | skip
  rw [VmA h]
 | .ptr a o,b,h=>by
  cases b<;>first | cases h | skip
  obtain ⟨h1,h2⟩:=Vi h
  rw [YF h1,YF h2]
 | .nilptr,b,h=>by cases b<;>first | rfl | cases h
 | .slice a o l c e,b,h=>by
  cases b<;>first | cases h | skip
  obtain ⟨h1,h⟩:=Vi h
  obtain ⟨h2,h⟩:=Vi h
  obtain ⟨h3,h⟩:=Vi h
  obtain ⟨h4,h⟩:=Vi h
  rw [YF h1,YF h2,YF h3,YF h4,jQJ h]
 | .nilslice,b,h=>by cases b<;>first | rfl | cases h
 | .map a,b,h=>by
  cases b<;>first | cases h | skip
  rw [YF h]
 | .nilmap,b,h=>by cases b<;>first | rfl | cases h
 | .func f x y,b,h=>by
  cases b<;>first | cases h | skip
  obtain ⟨h1,h⟩:=Vi h
  obtain ⟨h2,h3⟩:=Vi h
  rw [show f=_ from YF h1,ZV h2,ZV h3]
 | .yield a,b,h=>by
  cases b<;>first | cases h | skip
  rw [YF h]
 | .nilfunc,b,h=>by cases b<;>first | rfl | cases h
 | .nilif,b,h=>by cases b<;>first | rfl | cases h
 | .agg l,b,h=>by
  cases b<;>first | cases h | skip
  rw [ZV h]
 | .tup l,b,h=>by
  cases b<;>first | cases h | skip
  rw [ZV h]
 | .ge k n,b,h=>by
  cases b<;>first | cases h | skip
  obtain ⟨h1,h2⟩:=Vi h
  rw [JoA h1,zyJ h2]
 | .tail a o,b,h=>by
  cases b<;>first | cases h | skip
  obtain ⟨h1,h2⟩:=Vi h
  rw [YF h1,YF h2]
 | .gptr a o,b,h=>by
  cases b<;>first | cases h | skip
  obtain ⟨h1,h2⟩:=Vi h
  rw [YF h1,YF h2]
 | .vs a o l,b,h=>by
  cases b<;>first | cases h | skip
  obtain ⟨h1,h⟩:=Vi h
  obtain ⟨h2,h3⟩:=Vi h
  rw [YF h1,YF h2,YF h3]
 | .vp a o l,b,h=>by
  cases b<;>first | cases h | skip
  obtain ⟨h1,h⟩:=Vi h
  obtain ⟨h2,h3⟩:=Vi h
  rw [YF h1,YF h2,YF h3]
theorem ZV:∀ {l m:List AV},VaA l m=true→l=m
 | [],m,h=>by cases m<;>first | rfl | cases h
 | a::l,m,h=>by
  cases m<;>first | cases h | skip
  obtain ⟨h1,h2⟩:=Vi h
  rw [YwJ h1,ZV h2]
end
theorem JZJ {x y:Option AObj} (h:ynA x y=true):x=y:=by
 unfold ynA at h
 split at h
 ·obtain ⟨h1,h2⟩:=Vi h
  rw [ZV h1,YF h2]
 ·cases h
theorem WK {w:Option (List Nat)} {s s₁ s':St} {r:ORes} {M:Env} (h:ZwA w s s₁ r=.ok M s'):VIA w M s s₁=true∧r=.ok M s':=by
 unfold ZwA at h
 split at h
 ·split at h
  ·rename_i hm;cases h;exact ⟨hm,rfl⟩
  ·cases h
 ·cases h
theorem WzJ {w:Option (List Nat)} {d:Dst} {f:OpF} {rest:zF} (hf:FrF f) (hr:vM rest):vM (wLJ w d f rest):=by
 intro cl hc L s M s' h
 unfold wLJ at h
 generalize hx:f L ⟨s.h,s.n,far⟩=x at h
 cases x with
 | fail=>cases h
 | val v s₁ =>
  exact ((hf _ _ _ _ hx).tame).trans (hr cl hc _ _ _ _ (WK h).2)
theorem YpJ {w:Option (List Nat)} {d:Dst} {f:Arg} {l:List Arg} {rest:zF} (hr:vM rest):vM (jf w d f l rest):=by
 intro cl hc L s M s' h
 unfold jf at h
 generalize hx:wh cl (evs l L) ⟨s.h,s.n,far⟩ (f.ev L)=x at h
 cases x with
 | fail=>cases h
 | val v s₁ =>
  exact ((hc.val hx).tame).trans (hr cl hc _ _ _ _ (WK h).2)
theorem vgA:vM zKJ:=fun _ _ L s M s' h=>by cases h
theorem ZaJ {d:Dst} {op:Op} {rest k:zF} (h:geA d rest op=some k) (hr:vM rest):vM k:=by
 unfold geA at h
 split at h
 ·split at h
  ·cases h;exact zCQ hr
  ·cases h;exact vgA
 ·cases h;exact vgA
theorem vIJ {w:Option (List Nat)} {d:Dst} {op:Op} {rest k:zF} (h:viA w d rest op=some k) (hr:vM rest):vM k:=by
 unfold viA at h
 split at h
 ·split at h
  ·cases h;exact YpJ hr
  ·cases h;exact vgA
 ·cases h;exact vgA
theorem YlJ {d:Dst} {op:Op} {rest k:zF} (h:zHJ P d op rest=some k) (hr:vM rest):vM k:=by
 unfold zHJ at h
 split at h
 ·rename_i hk;cases h;exact vZQ (ybJ hk) hr
 ·exact ZaJ h hr
theorem zAQ {w:Option (List Nat)} {d:Dst} {op:Op} {rest k:zF} (h:zGJ P w d op rest=some k) (hr:vM rest):vM k:=by
 unfold zGJ at h
 split at h
 ·rename_i hk;cases h;exact WzJ (ybJ hk) hr
 ·exact vIJ h hr
theorem gAA {ops:Array Oper} {d:Dst} {k rest g:zF} {q:Option (Nat × Bool)} (h:VU ops d k rest q=some g) (hk:vM k) (hr:vM rest):vM g:=by
 unfold VU at h
 split at h
 ·cases h;exact hk
 ·split at h
  ·rename_i j want _ t _
   cases h
   intro cl hc L s M s' h
   unfold oIf at h
   generalize L.find t=v at h
   cases v with
   | tup l=>cases l with
    | nil=>exact hr cl hc _ _ _ _ h
    | cons _ _=>cases h
   | bool b =>
    have h:(Bool.casesOn (motive:=fun _=>ORes) (b == want) (jE d rest cl L s) (k cl L s):ORes)=.ok M s':=h
    cases e:(b == want) with
    | false=>rw [e] at h;exact hr cl hc _ _ _ _ h
    | true=>rw [e] at h;exact hk cl hc _ _ _ _ h
   | _=>cases h
  ·cases h
theorem YyA {nt:Nat} {ops:Array Oper}:∀ {l:List Oper} {f:zF},yZJ P nt ops l=some f→vM f
 | [],f,h=>by cases h;exact YmJ
 | o::r,f,h=>by
  unfold yZJ at h
  split at h
  ·cases h
  rename_i rest hrest
  split at h
  ·cases h
  split at h
  ·cases h
  rename_i k hk
  exact gAA h (YlJ hk (YyA hrest)) (YyA hrest)
theorem zqA {nt:Nat} {ops:Array Oper} {ds:List DOp}:∀ {l:List Oper} {i:Nat} {f:zF},gvJ P nt ops ds i l=some f→vM f
 | [],i,f,h=>by cases h;exact YmJ
 | o::r,i,f,h=>by
  unfold gvJ at h
  split at h
  ·cases h
  rename_i rest hrest
  split at h
  ·cases h
  split at h
  ·split at h
   ·cases h
   rename_i k hk
   exact gAA h (zAQ hk (zqA hrest)) (zqA hrest)
  ·split at h
   ·cases h
   rename_i k hk
   exact gAA h (YlJ hk (zqA hrest)) (zqA hrest)
theorem jCJ {nt:Nat} {ops:Array Oper} {ds:List DOp} {f:zF} (hk:YLA P nt ops ds=some f):vM f:=by
 unfold YLA at hk
 split at hk
 ·rename_i l f h1 h2 h4
  cases hk
  intro cl hc L s M s' h
  unfold yQ at h
  split at h
  ·rename_i h'
   split at h
   ·cases h;exact zqA h4 cl hc _ _ _ _ h'
   ·cases h
  ·cases h
 ·cases hk
theorem VDJ {nt:Nat} {ops:Array Oper} {f:zF} (hk:wZJ P nt ops=some f):vM f:=by
 unfold wZJ at hk
 split at hk
 ·cases hk
 ·exact jCJ hk
theorem VEJ {nt:Nat} {ops:Array Oper} {f:zF} (hk:YKA P nt ops=some f):vM f:=by
 unfold YKA at hk
 split at hk
 ·split at hk
  ·rename_i h;cases hk;exact jCJ h
  ·split at hk
   ·exact VDJ hk
   ·cases hk
 ·cases hk
def FrK (f:K):Prop:=∀ cl,FrCall cl→∀ c L d s e L' d' s',f cl c L d s=.done e L' d' s'→Fr s s'
theorem YjJ {f g:K} (hf:FrK f) (hg:FrK g):FrK (zG f g):=by
 intro cl hc c L d s e L' d' s' h
 unfold zG at h
 generalize hr:f cl c L d s=r at h
 cases r with
 | fail=>cases h
 | done e₁ L₁ d₁ s₁ =>
  have h1:=hf cl hc _ _ _ _ _ _ _ _ hr
  cases e₁ with
  | norm=>exact h1.trans (hg cl hc _ _ _ _ _ _ _ _ h)
  | exit id=>cases h;exact h1
  | ret=>cases h;exact h1
theorem wTJ {f:K} (hf:FrK f):∀ n,FrK (jK f n)
 | 0=>fun cl _ c L d s e L' d' s' h=>by cases h
 | n+1=>fun cl hc c L d s e L' d' s' h=>YjJ hf (wTJ hf n) cl hc c L d s e L' d' s' h
theorem YZJ {L L':Env} {d d':List Nat} {s s':St} {j:Option Code} {e:Ex} (h:JuA L d s j=.done e L' d' s'):s'=s:=by
 unfold JuA at h
 split at h<;>first | (cases h;rfl) | (cases h;done)
theorem zEA {s:St} {l:Nat} {r:ALoop} (h:yv s l=some r):s.h.get l=some (.loop r):=by
 unfold yv at h
 split at h
 ·rename_i h';cases h;exact h'
 ·cases h
theorem YkJ (f:Arg) (ps:List Tmp) (x y:Code):FrK (wx f ps x y):=by
 intro cl hc c L d s e L' d' s' h
 unfold wx at h
 split at h
 ·cases h
 rename_i d₁ s₁ hent
 have h1:Fr s s₁:=by
  unfold gD at hent
  split at hent
  ·split at hent
   ·cases hent;exact .new _ _
   ·cases hent
  ·cases hent;exact (Fr.new _ _).trans (.new _ _)
 split at h
 ·cases h
 rename_i v s₂ hcall
 split at h
 case h_2=>cases h
 rename_i r hr
 split at h
 ·cases h
 have:=YZJ h
 subst this
 exact h1.trans ((hc.val hcall).trans (.put _ (zEA hr)))
theorem Jz:FrK wtA:=fun _ _ _ _ _ _ _ _ _ _ h=>by cases h
theorem vk {X:List Nat} {nt:Nat}:∀ (x:Code) {f:K},jh P X nt x=some f→FrK f
 | .skip,f,h=>by cases h;intro cl _ c L d s e L' d' s' h;cases h;exact .refl _
 | .label _,f,h=>by cases h;intro cl _ c L d s e L' d' s' h;cases h;exact .refl _
 | .exit _,f,h=>by cases h;intro cl _ c L d s e L' d' s' h;cases h;exact .refl _
 | .ret,f,h=>by cases h;intro cl _ c L d s e L' d' s' h;cases h;exact .refl _
 | .region id ops false,f,h=>by
  unfold jh at h
  split at h
  ·rename_i k hk
   cases h
   intro cl hc c L d s e L' d' s' h
   unfold zD at h
   split at h
   ·rename_i h';cases h;exact YyA hk cl hc _ _ _ _ h'
   ·cases h
  ·cases h;exact Jz
 | .region id ops true,f,h=>by
  unfold jh at h
  split at h
  ·rename_i k hk
   cases h
   intro cl hc c L d s e L' d' s' h
   unfold zv at h
   split at h
   ·rename_i h'
    split at h
    ·cases h
     exact VEJ hk cl hc _ _ _ _ h'
    ·cases h
   ·cases h
  ·cases h;exact Jz
 | .seq x y,f,h=>by
  unfold jh at h
  split at h
  ·rename_i a b ha hb
   cases h
   exact YjJ (vk x ha) (vk y hb)
  ·cases h
 | .cond q x y,f,h=>by
  unfold jh at h
  split at h
  ·rename_i z a b hz ha hb
   cases h
   intro cl hc c L d s e L' d' s' h
   unfold ze at h
   generalize z.ev L=v at h
   cases v with
   | bool t =>
    have h:(Bool.casesOn (motive:=fun _=>R) t (b cl c L d s) (a cl c L d s):R)=.done e L' d' s':=h
    cases t with
    | false=>exact vk y hb cl hc _ _ _ _ _ _ _ _ h
    | true=>exact vk x ha cl hc _ _ _ _ _ _ _ _ h
   | _=>cases h
  ·cases h
 | .block id x,f,h=>by
  unfold jh at h
  split at h
  ·rename_i a ha
   cases h
   intro cl hc c L d s e L' d' s' h
   unfold zU at h
   generalize hr:a cl c L d s=r at h
   cases r with
   | fail=>cases h
   | done e₁ L₁ d₁ s₁ =>
    have h1:=vk x ha cl hc _ _ _ _ _ _ _ _ hr
    cases e₁ with
    | norm=>cases h;exact h1
    | ret=>cases h;exact h1
    | exit i =>
     simp only at h
     split at h<;>(cases h;exact h1)
  ·cases h
 | .loop x,f,h=>by
  unfold jh at h
  split at h
  ·rename_i a ha
   cases h
   exact wTJ (vk x ha) _
  ·cases h
 | .scope x,f,h=>by
  unfold jh at h
  exact vk x h
 | .rangeFunc g ps x y,f,h=>by
  unfold jh at h
  split at h
  ·split at h
   ·cases h;exact YkJ _ _ _ _
   ·cases h;exact Jz
  ·cases h;exact Jz
 | .goto _,f,h=>by cases h;exact Jz
 | .refuse _,f,h=>by cases h;exact Jz
theorem vwA:∀ {d:List Nat} {s s':St},gL s d=some s'→Fr s s'
 | [],s,s',h=>by cases h;exact .refl _
 | b::r,s,s',h=>by
  unfold gL at h
  split at h
  ·exact (Fr.kill _ _).trans (vwA h)
  ·cases h
theorem JnA {rs:List ResultVar} {L:Env} {d:List Nat} {s s':St} {v:AV} (h:yL P rs L d s=.val v s'):Fr s s':=by
 unfold yL at h
 split at h
 ·cases h
 ·rename_i h1
  split at h
  ·cases h;exact vwA h1
  ·cases h
theorem ZfJ {X:FuncId→List Nat} {cl:zR} (hc:FrCall cl) {f:FuncId} {l:List AV} {s s':St} {fn:Func} {v:AV} (h:zZ P X cl f l s fn=.val v s'):Fr s s':=by
 unfold zZ at h
 split at h
 ·cases h
 split at h
 ·cases h
 split at h
 case h_2=>cases h
 split at h
 ·cases h
 rename_i k hk
 split at h
 ·rename_i hr;exact (vk _ hk cl hc _ _ _ _ _ _ _ _ hr).trans (JnA h)
 ·rename_i hr;exact (vk _ hk cl hc _ _ _ _ _ _ _ _ hr).trans (JnA h)
 ·cases h
theorem goJ {cl:zR} (hc:FrCall cl) {b:Nat} {l:List AV} {s s':St} {r:ALoop} {v:AV} (h:jkA P cl b l s r=.val v s'):Fr s s':=by
 unfold jkA at h
 split at h
 ·cases h
 split at h
 case h_2=>cases h
 rename_i fa fb h1 h2
 split at h
 case h_2=>cases h
 rename_i L₁ d₁ s₁ he₁
 split at h
 case h_2=>cases h
 rename_i r₁ hr₁
 split at h
 case h_2=>cases h
 split at h
 case h_2=>cases h
 rename_i q L₂ d₂ s₂ he₂
 unfold YB at h
 split at h
 ·rename_i r₃ hr₃
  cases h
  exact (vk _ h1 cl hc _ _ _ _ _ _ _ _ he₁).trans ((Fr.put _ (zEA hr₁)).trans ((vk _ h2 cl hc _ _ _ _ _ _ _ _ he₂).trans (.put _ (zEA hr₃))))
 ·cases h
theorem wQJ (k:Bool) (a r:Heap):kept k a r=a∨kept k a r=r:=by cases k<;>first | exact .inl rfl | exact .inr rfl
theorem gdJ {s s₁ s':St} {v w:AV} (a:Fr ⟨s.h,s.n,far⟩ s₁) (h:settle s (.val v s₁)=.val w s'):Fr s s':=by
 unfold settle at h
 simp only at h
 split at h
 ·rename_i hm
  split at h
  ·cases h;exact .refl _
  ·have hm:=Nat.le_of_ble_eq_true hm
   cases h
   rcases wQJ JP s₁.h (reach s.n s₁.h 4000 [v] s.h) with e | e
   ·rw [e];exact ⟨a.n,Nat.le_refl _,fun b _ hb=>a.same b (Nat.lt_of_lt_of_le hb hm) hb,fun hwf b hb=>a.wf hwf b hb⟩
   rw [e]
   have h0:∀ b,b<s.n→s.h.get b=s₁.h.get b:=fun b hb=>(a.same b (Nat.lt_of_lt_of_le hb hm) hb).symm
   have hl:=JVA (n0:=s.n) 4000 [v] h0
   refine ⟨a.n,Nat.le_refl _,fun b _ hb=>(hl b hb).trans (h0 b hb).symm,fun hwf b hb=>?_⟩
   have hin:=WuA (n0:=s.n) (all:=s₁.h) 4000 [v] (h:=s.h) (fun b o hbo=>by
    by_cases hlt:b<s.n
    ·rw [← h0 b hlt];exact hbo
    ·rw [hwf b (by omega)] at hbo;cases hbo)
   cases hg:(reach s.n s₁.h 4000 [v] s.h).get b with
   | none=>rfl
   | some o=>have:=hin b o hg;rw [a.wf hwf b hb] at this;cases this
 ·cases h
  exact a.mark _ (jW _ _) (fun b hb _=>by have:=jY s.m s₁.m;omega)
theorem WsJ {s s':St} {b sz:Nat} {r r':ARes} {v:AV} (h:ziJ s b sz r r'=.val v s'):Fr s s':=by
 unfold ziJ at h
 split at h
 ·split at h
  ·split at h
   ·cases h;exact (Fr.kill _ _).trans (.new _ _)
   ·cases h
  ·cases h
 ·cases h
theorem zDQ {X:FuncId→List Nat} {cl:zR} {f:FuncId} {l:List AV} {s s':St} {fn:Func} {v:AV} (h:zsJ P X cl f s fn l=.val v s'):Fr s s':=by
 unfold zsJ at h
 split at h
 ·split at h
  ·split at h
   ·exact WsJ h
   ·cases h
  ·cases h
 ·cases h
theorem wYA {r k:ARes} {v:AV} {s:St} (h:JrJ r k=.val v s):r=.val v s∨(r=.fail∧k=.val v s):=by
 cases r with
 | fail=>exact .inr ⟨rfl,h⟩
 | val w t=>exact .inl h
theorem vRA {X:FuncId→List Nat} {cl:zR} (hc:FrCall cl):FrCall (jP P X cl):=by
 intro t l s v s' h
 unfold jP at h
 split at h
 ·split at h
  ·cases h
  ·rename_i fn _
   rcases wYA h with h | ⟨_,h⟩
   ·generalize hr:zZ P X cl _ l ⟨s.h,s.n,far⟩ fn=r at h
    cases r with
    | fail=>cases h
    | val w s₁=>exact gdJ (ZfJ hc hr) h
   ·exact zDQ h
 ·split at h
  ·exact goJ hc h
  ·cases h
theorem whJ {X:FuncId→List Nat}:∀ n,FrCall (call P X n)
 | 0=>fun _ _ _ _ _ h=>by cases h
 | n+1=>vRA (whJ n)
end Go.Abs
end
