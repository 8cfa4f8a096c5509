/- What operations, pieces of code and calls leave as it was, told of the abstract states alone. -/
import Derived.Test.YtoklbkgcclkejaaAbsLight2
noncomputable section
namespace Go.Abs
variable {P:Program}
def FrF (f:OpF):Prop:=∀ L s v s',f L s=.val v s'→Fr s s'
theorem Light.fr {l:List Operand} {c:Nat} {f:OpF} (h:Light l c f):FrF f:=by
 intro L s v s' hf
 obtain ⟨_,new,_,_,e,_⟩:=h L s v s' hf
 rw [e]
 exact .add s new
theorem fr_store (k:Nat) (a x:Arg):FrF (jD k a x):=by
 intro L s v s' h
 unfold jD at h
 generalize a.ev L=p at h
 unfold jN at h
 split at h
 ·split at h
  ·rename_i hg
   split at h
   ·cases h
   ·split at h
    ·cases h
    ·split at h
     ·cases h;exact .put _ hg
     ·cases h
  ·cases h
 ·cases h
theorem fr_upd (c:Cmp) (m k v:Arg):FrF (kUpd c m k v):=by
 intro L s w s' h
 unfold kUpd at h
 split at h<;>cases h
theorem fr_del (c:Cmp) (m k:Arg):FrF (kDel c m k):=by
 intro L s w s' h
 have h:ARes.fail=.val w s':=h
 cases h
theorem fr_grow {size bytes tg n:Nat} {new:List AV} {s s':St} {x v:AV} (h:wE size bytes tg n new s x=.val v s'):Fr s s':=by
 unfold wE at h
 split at h
 ·split at h
  ·cases h;exact .refl _
  ·split at h
   ·cases h
   ·cases h;exact .new _ _
 ·split at h
  ·rename_i hg
   split at h
   ·split at h
    ·cases h;exact .put _ hg
    ·cases h
   ·split at h
    ·cases h
    ·split at h
     ·split at h
      ·cases h;exact (Fr.kill _ _).trans (.new _ _)
      ·cases h
     ·split at h
      ·cases h;exact .new _ _
      ·cases h
  ·cases h
 ·split at h
  ·cases h;exact .refl _
  ·split at h
   ·cases h
   ·split at h
    ·split at h
     ·cases h;exact (Fr.kill _ _).trans (.new _ _)
     ·cases h
    ·cases h
 ·cases h
theorem Fr.bump (s:St):Fr s s.bump :=
 ⟨Nat.le_succ _,Nat.le_refl _,fun _ _ _=>rfl,fun h b hb=>h b (Nat.le_of_succ_le hb)⟩
theorem famA_val {size b k0 k len n:Nat} {c new:List AV} {rest:List (Nat × Nat)} {s s':St} {v:AV} (h:famA size b k0 k len n c new rest s=.val v s'):∃ o,s'=(s.put b o).bump:=by
 unfold famA at h
 split at h
 ·cases h;exact ⟨_,rfl⟩
 ·cases h
theorem growF_val {size bytes tg n:Nat} {new:List AV} {s s':St} {x v:AV} (h:growF size bytes tg n new s x=.val v s') :
  (∃ b y o,jO x=some b∧s.h.get b=some y∧s'=(s.put b o).bump)∨wE size bytes tg n new s x=.val v s':=by
 unfold growF at h
 split at h
 ·split at h
  ·split at h
   ·rename_i hg
    split at h
    ·obtain ⟨o,e⟩:=famA_val h;exact .inl ⟨_,_,o,rfl,hg,e⟩
    ·cases h
   ·rename_i hg
    split at h
    ·obtain ⟨o,e⟩:=famA_val h;exact .inl ⟨_,_,o,rfl,hg,e⟩
    ·cases h
   ·cases h
  ·cases h
 ·split at h
  ·split at h
   ·rename_i hg
    split at h
    ·split at h
     ·obtain ⟨o,e⟩:=famA_val h;exact .inl ⟨_,_,o,rfl,hg,e⟩
     ·cases h
    ·cases h
   ·cases h
  ·cases h
 ·exact .inr h
theorem fr_growF {size bytes tg n:Nat} {new:List AV} {s s':St} {x v:AV} (h:growF size bytes tg n new s x=.val v s'):Fr s s':=by
 rcases growF_val h with ⟨b,y,o,_,hg,rfl⟩ | h
 ·exact (Fr.put o hg).trans (.bump _)
 ·exact fr_grow h
theorem fr_append (fm:Bool) (size bytes tg:Nat) (a b:Arg):FrF (jJ (jT fm size bytes tg) a b):=by
 intro L s v s' h
 unfold jJ at h
 generalize a.ev L=x at h
 generalize b.ev L=y at h
 unfold jT at h
 repeat' (split at h)
 all_goals first | (cases h;done) | exact fr_grow h | exact fr_growF h
theorem fr_appendZ (z:List AV) (size bytes tg:Nat) (a b:Arg):FrF (jJ (JV z size bytes tg) a b):=by
 intro L s v s' h
 unfold jJ at h
 generalize a.ev L=x at h
 generalize b.ev L=y at h
 unfold JV at h
 repeat' (split at h)
 all_goals first | (cases h;done) | exact fr_grow h
theorem fr_clear (z:List AV) (a:Arg):FrF (kUn (clearA z) a):=by
 intro L s v s' h
 unfold kUn at h
 generalize a.ev L=x at h
 unfold clearA at h
 split at h
 ·cases h;exact .refl _
 ·split at h
  ·cases h;exact .refl _
  ·split at h
   ·cases h
   ·split at h
    ·rename_i hg
     split at h
     ·cases h;exact .put _ hg
     ·cases h
    ·cases h
 ·cases h
theorem overlaps_same {size:Nat} {s s':St} {x y v:AV} (h:ZR size s x y=.val v s'):s'=s:=by
 unfold ZR at h
 repeat' (split at h)
 all_goals first | (cases h;done) | (cases h;rfl)
theorem noZero_new {z:Nat} {s s':St} {x v:AV} (h:noZeroA z s x=.val v s'):∃ o,s'=s.new o:=by
 unfold noZeroA at h
 split at h
 ·split at h
  ·cases h;exact ⟨_,rfl⟩
  ·cases h
 ·cases h
theorem extern_same {f:FuncId} {args:List Operand} {g:OpF} (h:externK P f args=some g) {L:Env} {s s':St} {v:AV} (hg:g L s=.val v s'):s'=s∨∃ o,s'=s.new o:=by
 unfold externK at h
 repeat' (split at h)
 all_goals first | (cases h;done) | (cases h;exact .inl (overlaps_same hg)) | (cases h;cases hg;exact .inl rfl) | (cases h;exact .inr (noZero_new hg))
theorem fr_copy (size:Nat) (a b:Arg):FrF (jJ (copyA size) a b):=by
 intro L s v s' h
 unfold jJ at h
 generalize a.ev L=x at h
 generalize b.ev L=y at h
 unfold copyA at h
 split at h
 ·split at h
  ·cases h
  ·split at h
   ·cases h
   ·split at h
    ·cases h;exact .refl _
    ·split at h
     ·rename_i hg
      split at h
      ·cases h;exact .put _ hg
      ·cases h
     ·cases h
    ·cases h
 ·cases h
theorem convH_same {a b:TypeId} {y:Arg} {f:OpF} (h:convH P a b y=some f) {L:Env} {s s':St} {v:AV} (hg:f L s=.val v s'):s'=s:=by
 unfold convH at h
 repeat' (split at h)
 all_goals first | (cases h;done) | (cases h;have hg:ARes.fail=.val v s':=hg;cases hg)
theorem unsafeStr_kill {t:Nat} {s s':St} {x n v:AV} (h:Zb t s x n=.val v s'):s'=s∨∃ b,jO x=some b∧s'=s.kill b:=by
 unfold Zb at h
 cases h
theorem fr_unsafeStr (t:Nat) (a b:Arg):FrF (jJ (Zb t) a b):=by
 intro L s v s' h
 rcases unsafeStr_kill h with e | ⟨b,_,e⟩
 ·rw [e];exact .refl _
 ·rw [e];exact .kill _ _
theorem fr_builtin {b:Builtin} {args:Array Operand} {ts:Array TypeId} {m:List Arg} (ha:jz args.toList=some m) {f:OpF} (hf:vm P b ts m=some f):FrF f:=by
 by_cases hc:yD (.call ⟨.builtin b,args,ts⟩)=3
 ·unfold vm at hf
  split at hf
  all_goals first | (cases hf;done) | (cases hc;done) | skip
  ·unfold appendK at hf
   repeat' (split at hf)
   all_goals first | (cases hf;done) | (cases hf;exact fr_append _ _ _ _ _ _) | (cases hf;exact fr_appendZ _ _ _ _ _ _)
  ·unfold copyK at hf
   repeat' (split at hf)
   all_goals first | (cases hf;done) | (cases hf;exact fr_copy _ _ _)
  ·unfold clearK at hf
   repeat' (split at hf)
   all_goals first | (cases hf;done) | (cases hf;exact fr_clear _ _)
  ·unfold Za at hf
   repeat' (split at hf)
   all_goals first | (cases hf;done) | (cases hf;exact fr_unsafeStr _ _ _)
  ·repeat' (split at hf)
   all_goals first | (cases hf;done) | (cases hf;exact fr_del _ _ _)
 ·exact (light_builtin ha hf hc).fr
theorem heavy_conv {p q:TypeId} {x:Operand} {a:Arg} {f:OpF} (hc:yD (.convert p q x)=3) (h:convK P p q a=some f):JP p q=true∧convH P p q a=some f:=by
 have hc:(match JP p q with | true=>3 | false=>0)=3:=hc
 unfold convK at h
 cases e:JP p q with
 | true=>rw [e] at h;exact ⟨rfl,h⟩
 | false=>rw [e] at hc;cases hc
theorem opK_fr {op:Op} {f:OpF} (h:opK P op=some f):FrF f:=by
 by_cases hc:yD op=3
 ·unfold opK at h
  split at h
  all_goals first | (cases hc;done) | skip
  ·split at h
   ·obtain ⟨a,b,ha,hb,h⟩:=yB h;cases h;exact fr_store _ _ _
   ·cases h
  ·obtain ⟨a,ha,h⟩:=jS h
   obtain ⟨_,h⟩:=heavy_conv hc h
   intro L s v s' hg
   rw [convH_same h hg];exact .refl _
  ·split at h
   ·obtain ⟨a,b,c,ha,hb,hd,h⟩:=yl h;cases h;exact fr_upd _ _ _ _
   ·cases h
  ·split at h
   ·obtain ⟨a,b,c,ha,hb,hd,h⟩:=yl h;cases h;exact fr_upd _ _ _ _
   ·cases h
  ·split at h
   ·rename_i hl;exact fr_builtin hl h
   ·cases h
  ·intro L s v s' hg
   rcases extern_same h hg with e | ⟨o,e⟩
   ·rw [e];exact .refl _
   ·rw [e];exact .new _ _
  ·cases h
 ·exact (opK_light h hc).fr
theorem argA_block {x:Operand} {a:Arg} (h:jM x=some a) (L:Env):(∃ t,x=.tmp t∧a.ev L=L.find t)∨jO (a.ev L)=none:=by
 unfold jM at h
 split at h
 ·rename_i t;cases h;exact .inl ⟨t,rfl,rfl⟩
 ·rename_i v
  split at h
  ·rename_i w hw
   cases h
   right
   show jO w=none
   unfold ofConst at hw
   split at hw
   ·split at hw
    ·cases hw;rfl
    ·cases hw
   ·unfold ofConst1 at hw
    split at hw
    all_goals first
     | (cases hw;rfl)
     | (cases hw;done)
     | (split at hw<;>first | (cases hw;rfl) | (cases hw;done))
  ·cases h
 ·cases h;exact .inr rfl
 ·cases h;exact .inr rfl
def Only (l:List Operand) (f:OpF):Prop:=∀ L s v s',f L s=.val v s'→∀ b,b<s.n→(∀ t r,l=.tmp t::r→jO (L.find t)≠some b)→s'.h.get b=s.h.get b
theorem Js {x:Operand} {a:Arg} (ha:jM x=some a) {r:List Operand} {L:Env} {b c:Nat} (hb:∀ t q,x::r=.tmp t::q→jO (L.find t)≠some b) (hc:jO (a.ev L)=some c):b≠c:=by
 rcases argA_block ha L with ⟨t,rfl,e⟩ | e
 ·intro z
  subst z
  rw [e] at hc
  exact hb t r rfl hc
 ·rw [e] at hc;cases hc
theorem gC {s:St} {b c:Nat} {o:AObj} (h:b≠c):(s.put c o).h.get b=s.h.get b:=by rw [St.put_h,jH _ _ _ _ h]
theorem only_store (k:Nat) {x:Operand} {a:Arg} (ha:jM x=some a) (y:Arg) (r:List Operand):Only (x::r) (jD k a y):=by
 intro L s v s' h b hbn hb
 have hne:=fun c hc=>Js (c:=c) ha hb hc
 unfold jD at h
 generalize a.ev L=p at h hne
 unfold jN at h
 split at h
 ·split at h
  ·split at h
   ·cases h
   ·split at h
    ·cases h
    ·split at h
     ·cases h;exact gC (hne _ rfl)
     ·cases h
  ·cases h
 ·cases h
theorem only_upd (c:Cmp) {x:Operand} {m:Arg} (ha:jM x=some m) (k v:Arg) (r:List Operand):Only (x::r) (kUpd c m k v):=by
 intro L s w s' h b hbn hb
 unfold kUpd at h
 split at h<;>cases h
theorem only_del (c:Cmp) {x:Operand} {m:Arg} (ha:jM x=some m) (k:Arg) (r:List Operand):Only (x::r) (kDel c m k):=by
 intro L s w s' h b hbn hb
 have h:ARes.fail=.val w s':=h
 cases h
theorem only_grow {size bytes tg n:Nat} {new:List AV} {s s':St} {x v:AV} (h:wE size bytes tg n new s x=.val v s') {b:Nat} (hbn:b<s.n) (hne:∀ c,jO x=some c→b≠c):s'.h.get b=s.h.get b:=by
 have hnew:∀ (u:St) (o:AObj),u.n=s.n→(u.new o).h.get b=u.h.get b:=fun u o e=>by rw [St.new_h,jH _ _ _ _ (by omega)]
 unfold wE at h
 split at h
 ·split at h
  ·cases h;rfl
  ·split at h
   ·cases h
   ·cases h;exact hnew _ _ rfl
 ·split at h
  ·split at h
   ·split at h
    ·cases h;exact gC (hne _ rfl)
    ·cases h
   ·split at h
    ·cases h
    ·split at h
     ·split at h
      ·cases h
       exact (hnew (s.kill _) _ rfl).trans (by rw [St.kill_h,jH _ _ _ _ (hne _ rfl)])
      ·cases h
     ·split at h
      ·cases h;exact hnew _ _ rfl
      ·cases h
  ·cases h
 ·split at h
  ·cases h;rfl
  ·split at h
   ·cases h
   ·split at h
    ·split at h
     ·cases h
      exact (hnew (s.kill _) _ rfl).trans (by rw [St.kill_h,jH _ _ _ _ (hne _ rfl)])
     ·cases h
    ·cases h
 ·cases h
theorem only_growF {size bytes tg n:Nat} {new:List AV} {s s':St} {x v:AV} (h:growF size bytes tg n new s x=.val v s') {b:Nat} (hbn:b<s.n) (hne:∀ c,jO x=some c→b≠c):s'.h.get b=s.h.get b:=by
 rcases growF_val h with ⟨c,y,o,hb,_,rfl⟩ | h
 ·exact gC (hne _ hb)
 ·exact only_grow h hbn hne
theorem only_append (fm:Bool) (size bytes tg:Nat) {x:Operand} {a:Arg} (ha:jM x=some a) (y:Arg) (r:List Operand):Only (x::r) (jJ (jT fm size bytes tg) a y):=by
 intro L s v s' h b hbn hb
 have hne:=fun c hc=>Js (c:=c) ha hb hc
 unfold jJ at h
 generalize a.ev L=p at h hne
 generalize y.ev L=q at h
 unfold jT at h
 repeat' (split at h)
 all_goals first | (cases h;done) | exact only_grow h hbn hne | exact only_growF h hbn hne
theorem only_appendZ (z:List AV) (size bytes tg:Nat) {x:Operand} {a:Arg} (ha:jM x=some a) (y:Arg) (r:List Operand):Only (x::r) (jJ (JV z size bytes tg) a y):=by
 intro L s v s' h b hbn hb
 have hne:=fun c hc=>Js (c:=c) ha hb hc
 unfold jJ at h
 generalize a.ev L=p at h hne
 generalize y.ev L=q at h
 unfold JV at h
 repeat' (split at h)
 all_goals first | (cases h;done) | exact only_grow h hbn hne
theorem only_clear (z:List AV) {x:Operand} {a:Arg} (ha:jM x=some a) (r:List Operand):Only (x::r) (kUn (clearA z) a):=by
 intro L s v s' h b hbn hb
 have hne:=fun c hc=>Js (c:=c) ha hb hc
 unfold kUn at h
 generalize a.ev L=p at h hne
 unfold clearA at h
 split at h
 ·cases h;rfl
 ·split at h
  ·cases h;rfl
  ·split at h
   ·cases h
   ·split at h
    ·split at h
     ·cases h;exact gC (hne _ rfl)
     ·cases h
    ·cases h
 ·cases h
theorem only_copy (size:Nat) {x:Operand} {a:Arg} (ha:jM x=some a) (y:Arg) (r:List Operand):Only (x::r) (jJ (copyA size) a y):=by
 intro L s v s' h b hbn hb
 have hne:=fun c hc=>Js (c:=c) ha hb hc
 unfold jJ at h
 generalize a.ev L=p at h hne
 generalize y.ev L=q at h
 unfold copyA at h
 split at h
 ·split at h
  ·cases h
  ·split at h
   ·cases h
   ·split at h
    ·cases h;rfl
    ·split at h
     ·split at h
      ·cases h;exact gC (hne _ rfl)
      ·cases h
     ·cases h
    ·cases h
 ·cases h
theorem args_two {l:List Operand} {a b:Arg} (h:jz l=some [a,b]):∃ x y,l=[x,y]∧jM x=some a∧jM y=some b:=by
 obtain ⟨x,q,rfl,hx⟩:=arg_of h
 unfold jz at h
 split at h
 ·rename_i h1 h2
  cases h
  obtain ⟨y,q',rfl,hy⟩:=arg_of h2
  unfold jz at h2
  split at h2
  ·rename_i h3 h4
   cases h2
   cases q' with
   | nil=>exact ⟨x,y,rfl,hx,hy⟩
   | cons z w =>
    unfold jz at h4
    split at h4
    ·cases h4
    ·cases h4
  ·cases h2
 ·cases h
theorem only_builtin {b:Builtin} {args:Array Operand} {ts:Array TypeId} {m:List Arg} (ha:jz args.toList=some m) {f:OpF} (hf:vm P b ts m=some f)
  (hc:yD (.call ⟨.builtin b,args,ts⟩)=3):Only (Op.call ⟨.builtin b,args,ts⟩).operands.toList f:=by
 have hop:(Op.call ⟨.builtin b,args,ts⟩).operands.toList=args.toList:=by simp [Op.operands,Call.operands]
 rw [hop]
 unfold vm at hf
 split at hf
 all_goals first | (cases hf;done) | (cases hc;done) | skip
 ·obtain ⟨x,y,e,hx,hy⟩:=args_two ha
  rw [e]
  unfold appendK at hf
  repeat' (split at hf)
  all_goals first | (cases hf;done) | (cases hf;exact only_append _ _ _ _ hx _ _) | (cases hf;exact only_appendZ _ _ _ _ hx _ _)
 ·obtain ⟨x,y,e,hx,hy⟩:=args_two ha
  rw [e]
  unfold copyK at hf
  repeat' (split at hf)
  all_goals first | (cases hf;done) | (cases hf;exact only_copy _ hx _ _)
 ·obtain ⟨x,q,e,hx⟩:=arg_of ha
  rw [e]
  unfold clearK at hf
  repeat' (split at hf)
  all_goals first | (cases hf;done) | (cases hf;exact only_clear _ hx _)
 ·obtain ⟨x,y,e,hx,hy⟩:=args_two ha
  rw [e]
  unfold Za at hf
  repeat' (split at hf)
  all_goals first | (cases hf;done) | skip
  cases hf
  intro L s v s' h b hb hne
  rcases unsafeStr_kill h with e | ⟨c,hc',e⟩
  ·rw [e]
  ·rw [e,St.kill_h,jH _ _ _ _ (Js hx hne hc')]
 ·obtain ⟨x,y,e,hx,hy⟩:=args_two ha
  rw [e]
  repeat' (split at hf)
  all_goals first | (cases hf;done) | (cases hf;exact only_del _ hx _ _)
theorem opK_only {op:Op} {f:OpF} (h:opK P op=some f) (hc:yD op=3):Only op.operands.toList f:=by
 unfold opK at h
 split at h
 all_goals first | (cases hc;done) | skip
 ·split at h
  ·obtain ⟨a,b,ha,hb,h⟩:=yB h;cases h;exact only_store _ ha _ _
  ·cases h
 ·obtain ⟨a,ha,h⟩:=jS h
  obtain ⟨_,h⟩:=heavy_conv hc h
  intro L s v s' hg b _ _
  rw [convH_same h hg]
 ·split at h
  ·obtain ⟨a,b,c,ha,hb,hd,h⟩:=yl h;cases h;exact only_upd _ ha _ _ _
  ·cases h
 ·split at h
  ·obtain ⟨a,b,c,ha,hb,hd,h⟩:=yl h;cases h;exact only_upd _ ha _ _ _
  ·cases h
 ·split at h
  ·rename_i hl;exact only_builtin hl h hc
  ·cases h
 ·intro L s v s' hg b hb _
  rcases extern_same h hg with e | ⟨o,e⟩
  ·rw [e]
  ·rw [e,St.new_h,jH _ _ _ _ (by omega)]
 ·cases h
def FrCall (cl:zR):Prop:=∀ t l s v s',cl t l s=.val v s'→Fr s s'
theorem FrCall.val {cl:zR} (hc:FrCall cl) {l:List AV} {s s':St} {f v:AV} (h:wi cl l s f=.val v s'):Fr s s':=by
 unfold wi at h
 split at h
 ·exact hc _ _ _ _ _ h
 ·exact hc _ _ _ _ _ h
 ·cases h
def vN (f:zF):Prop:=∀ cl,FrCall cl→∀ L s M s',f cl L s=.ok M s'→Fr s s'
theorem fr_nil:vN zJ:=fun _ _ L s M s' h=>by cases h;exact .refl _
theorem fr_val {d:Dst} {f:OpF} {rest:zF} (hf:FrF f) (hr:vN rest):vN (zC d f rest):=by
 intro cl hc L s M s' h
 unfold zC at h
 generalize hx:f L s=x at h
 cases x with
 | fail=>cases h
 | val v s₁=>exact (hf _ _ _ _ hx).trans (hr cl hc _ _ _ _ h)
theorem fr_call {d:Dst} {f:Arg} {l:List Arg} {rest:zF} (hr:vN rest):vN (zo d f l rest):=by
 intro cl hc L s M s' h
 unfold zo at h
 generalize hx:wi cl (evs l L) s (f.ev L)=x at h
 cases x with
 | fail=>cases h
 | val v s₁=>exact (hc.val hx).trans (hr cl hc _ _ _ _ h)
theorem Fr.tame {s s₁:St} (a:Fr ⟨s.h,s.n,far⟩ s₁):Fr s ⟨s₁.h,s₁.n,yA s.m s₁.m⟩ :=
 a.mark _ (jW _ _) (fun _ h _=>Nat.lt_of_lt_of_le h (jY _ _))
theorem kindNo_eq {a b:IntKind} (h:Nat.beq (vi a) (vi b)=true):a=b:=by
 cases a<;>cases b<;>first | rfl | (exact absurd h (by decide))
theorem sameBytes_same:∀ {l m:List UInt8},ZO l m=true→l=m
 | [],[],_=>rfl
 | [],_::_,h=>by cases h
 | _::_,[],h=>by cases h
 | a::l,b::m,h=>by
  unfold ZO at h
  split at h
  ·rename_i hb
   have e:a.toNat=b.toNat:=Nat.eq_of_beq_eq_true hb
   rw [UInt8.toNat_inj.mp e,sameBytes_same h]
  ·cases h
theorem bytesEq_same {x y:ByteArray} (h:Yh x y=true):x=y:=by
 have e:=sameBytes_same h
 cases x with | mk x=>cases y with | mk y=>cases x with | mk x=>cases y with | mk y=>exact congrArg (fun l=>ByteArray.mk (Array.mk l)) e
theorem bools_eq {a b:Bool} (h:((a && b) || (!a && !b))=true):a=b:=by cases a<;>cases b<;>first | rfl | cases h
theorem and2 {a b:Bool} (h:(a && b)=true):a=true∧b=true:=by simpa using h
theorem YE {a b:Nat} (h:Nat.beq a b=true):a=b:=Nat.eq_of_beq_eq_true h
theorem eqI_same {a b:Int} (h:eqI a b=true):a=b:=by rw [Jn] at h;exact eq_of_beq h
mutual
theorem eqV_same:∀ {a b:AV},eqV a b=true→a=b
 | .bad,b,h=>by cases b<;>first | rfl | cases h
 | .int k n,b,h=>by
  cases b<;>first | cases h | skip
  obtain ⟨h1,h2⟩:=and2 h
  rw [kindNo_eq h1,eqI_same h2]
 | .bool a,b,h=>by
  cases b<;>first | cases h | skip
  rw [bools_eq h]
 | .str a,b,h=>by
  cases b<;>first | cases h | skip
  rw [bytesEq_same h]
 | .ptr a o,b,h=>by
  cases b<;>first | cases h | skip
  obtain ⟨h1,h2⟩:=and2 h
  rw [YE h1,YE h2]
 | .nilptr,b,h=>by cases b<;>first | rfl | cases h
 | .slice a o l c e,b,h=>by
  cases b<;>first | cases h | skip
  obtain ⟨h1,h⟩:=and2 h
  obtain ⟨h2,h⟩:=and2 h
  obtain ⟨h3,h⟩:=and2 h
  obtain ⟨h4,h⟩:=and2 h
  rw [YE h1,YE h2,YE h3,YE h4,bools_eq h]
 | .nilslice,b,h=>by cases b<;>first | rfl | cases h
 | .map a,b,h=>by
  cases b<;>first | cases h | skip
  rw [YE h]
 | .nilmap,b,h=>by cases b<;>first | rfl | cases h
 | .func f x y,b,h=>by
  cases b<;>first | cases h | skip
  obtain ⟨h1,h⟩:=and2 h
  obtain ⟨h2,h3⟩:=and2 h
  rw [show f=_ from YE h1,ZU h2,ZU h3]
 | .yield a,b,h=>by
  cases b<;>first | cases h | skip
  rw [YE h]
 | .nilfunc,b,h=>by cases b<;>first | rfl | cases h
 | .nilif,b,h=>by cases b<;>first | rfl | cases h
 | .agg l,b,h=>by
  cases b<;>first | cases h | skip
  rw [ZU h]
 | .tup l,b,h=>by
  cases b<;>first | cases h | skip
  rw [ZU h]
 | .ge k n,b,h=>by
  cases b<;>first | cases h | skip
  obtain ⟨h1,h2⟩:=and2 h
  rw [kindNo_eq h1,eqI_same h2]
 | .tail a o,b,h=>by
  cases b<;>first | cases h | skip
  obtain ⟨h1,h2⟩:=and2 h
  rw [YE h1,YE h2]
 | .gptr a o,b,h=>by
  cases b<;>first | cases h | skip
  obtain ⟨h1,h2⟩:=and2 h
  rw [YE h1,YE h2]
 | .vs a o l,b,h=>by
  cases b<;>first | cases h | skip
  obtain ⟨h1,h⟩:=and2 h
  obtain ⟨h2,h3⟩:=and2 h
  rw [YE h1,YE h2,YE h3]
 | .vp a o l,b,h=>by
  cases b<;>first | cases h | skip
  obtain ⟨h1,h⟩:=and2 h
  obtain ⟨h2,h3⟩:=and2 h
  rw [YE h1,YE h2,YE h3]
theorem ZU:∀ {l m:List AV},eqVs l m=true→l=m
 | [],m,h=>by cases m<;>first | rfl | cases h
 | a::l,m,h=>by
  cases m<;>first | cases h | skip
  obtain ⟨h1,h2⟩:=and2 h
  rw [eqV_same h1,ZU h2]
end
theorem sameO_eq {x y:Option AObj} (h:sameO x y=true):x=y:=by
 unfold sameO at h
 split at h
 ·obtain ⟨h1,h2⟩:=and2 h
  rw [ZU h1,YE h2]
 ·cases h
theorem endT_ok {w:Option (List Nat)} {s s₁ s':St} {r:ORes} {M:Env} (h:endT w s s₁ r=.ok M s'):mayA w M s s₁=true∧r=.ok M s':=by
 unfold endT at h
 split at h
 ·split at h
  ·rename_i hm;cases h;exact ⟨hm,rfl⟩
  ·cases h
 ·cases h
theorem fr_valT {w:Option (List Nat)} {d:Dst} {f:OpF} {rest:zF} (hf:FrF f) (hr:vN rest):vN (oValT w d f rest):=by
 intro cl hc L s M s' h
 unfold oValT at h
 generalize hx:f L ⟨s.h,s.n,far⟩=x at h
 cases x with
 | fail=>cases h
 | val v s₁ =>
  exact ((hf _ _ _ _ hx).tame).trans (hr cl hc _ _ _ _ (endT_ok h).2)
theorem fr_callT {w:Option (List Nat)} {d:Dst} {f:Arg} {l:List Arg} {rest:zF} (hr:vN rest):vN (jf w d f l rest):=by
 intro cl hc L s M s' h
 unfold jf at h
 generalize hx:wi cl (evs l L) ⟨s.h,s.n,far⟩ (f.ev L)=x at h
 cases x with
 | fail=>cases h
 | val v s₁ =>
  exact ((hc.val hx).tame).trans (hr cl hc _ _ _ _ (endT_ok h).2)
theorem fr_fail:vN oFail:=fun _ _ L s M s' h=>by cases h
theorem fr_callK1 {d:Dst} {op:Op} {rest k:zF} (h:callK1 d rest op=some k) (hr:vN rest):vN k:=by
 unfold callK1 at h
 split at h
 ·split at h
  ·cases h;exact fr_call hr
  ·cases h;exact fr_fail
 ·cases h;exact fr_fail
theorem fr_callK1T {w:Option (List Nat)} {d:Dst} {op:Op} {rest k:zF} (h:callK1T w d rest op=some k) (hr:vN rest):vN k:=by
 unfold callK1T at h
 split at h
 ·split at h
  ·cases h;exact fr_callT hr
  ·cases h;exact fr_fail
 ·cases h;exact fr_fail
theorem fr_op1 {d:Dst} {op:Op} {rest k:zF} (h:opK1 P d op rest=some k) (hr:vN rest):vN k:=by
 unfold opK1 at h
 split at h
 ·rename_i hk;cases h;exact fr_val (opK_fr hk) hr
 ·exact fr_callK1 h hr
theorem fr_op1T {w:Option (List Nat)} {d:Dst} {op:Op} {rest k:zF} (h:opK1T P w d op rest=some k) (hr:vN rest):vN k:=by
 unfold opK1T at h
 split at h
 ·rename_i hk;cases h;exact fr_valT (opK_fr hk) hr
 ·exact fr_callK1T h hr
theorem fr_guard {ops:Array Oper} {d:Dst} {k rest g:zF} {q:Option (Nat × Bool)} (h:guardK ops d k rest q=some g) (hk:vN k) (hr:vN rest):vN g:=by
 unfold guardK at h
 split at h
 ·cases h;exact hk
 ·split at h
  ·rename_i j want _ t _
   cases h
   intro cl hc L s M s' h
   unfold oIf at h
   generalize L.find t=v at h
   cases v with
   | tup l=>cases l with
    | nil=>exact hr cl hc _ _ _ _ h
    | cons _ _=>cases h
   | bool b =>
    have h:(Bool.casesOn (motive:=fun _=>ORes) (b == want) (jE d rest cl L s) (k cl L s):ORes)=.ok M s':=h
    cases e:(b == want) with
    | false=>rw [e] at h;exact hr cl hc _ _ _ _ h
    | true=>rw [e] at h;exact hk cl hc _ _ _ _ h
   | _=>cases h
  ·cases h
theorem opsK_fr {nt:Nat} {ops:Array Oper}:∀ {l:List Oper} {f:zF},opsK P nt ops l=some f→vN f
 | [],f,h=>by cases h;exact fr_nil
 | o::r,f,h=>by
  unfold opsK at h
  split at h
  ·cases h
  rename_i rest hrest
  split at h
  ·cases h
  split at h
  ·cases h
  rename_i k hk
  exact fr_guard h (fr_op1 hk (opsK_fr hrest)) (opsK_fr hrest)
theorem opsT_fr {nt:Nat} {ops:Array Oper} {ds:List DOp}:∀ {l:List Oper} {i:Nat} {f:zF},opsT P nt ops ds i l=some f→vN f
 | [],i,f,h=>by cases h;exact fr_nil
 | o::r,i,f,h=>by
  unfold opsT at h
  split at h
  ·cases h
  rename_i rest hrest
  split at h
  ·cases h
  split at h
  ·split at h
   ·cases h
   rename_i k hk
   exact fr_guard h (fr_op1T hk (opsT_fr hrest)) (opsT_fr hrest)
  ·split at h
   ·cases h
   rename_i k hk
   exact fr_guard h (fr_op1 hk (opsT_fr hrest)) (opsT_fr hrest)
theorem drawC_fr {nt:Nat} {ops:Array Oper} {ds:List DOp} {f:zF} (hk:drawC P nt ops ds=some f):vN f:=by
 unfold drawC at hk
 split at hk
 ·rename_i l f h1 h2 h4
  cases hk
  intro cl hc L s M s' h
  unfold yR at h
  split at h
  ·rename_i h'
   split at h
   ·cases h;exact opsT_fr h4 cl hc _ _ _ _ h'
   ·cases h
  ·cases h
 ·cases hk
theorem drawP_fr {nt:Nat} {ops:Array Oper} {f:zF} (hk:drawP P nt ops=some f):vN f:=by
 unfold drawP at hk
 split at hk
 ·cases hk
 ·exact drawC_fr hk
theorem drawK_fr {nt:Nat} {ops:Array Oper} {f:zF} (hk:drawK P nt ops=some f):vN f:=by
 unfold drawK at hk
 split at hk
 ·split at hk
  ·rename_i h;cases hk;exact drawC_fr h
  ·split at hk
   ·exact drawP_fr hk
   ·cases hk
 ·cases hk
def FrK (f:K):Prop:=∀ cl,FrCall cl→∀ c L d s e L' d' s',f cl c L d s=.done e L' d' s'→Fr s s'
theorem fr_seq {f g:K} (hf:FrK f) (hg:FrK g):FrK (zG f g):=by
 intro cl hc c L d s e L' d' s' h
 unfold zG at h
 generalize hr:f cl c L d s=r at h
 cases r with
 | fail=>cases h
 | done e₁ L₁ d₁ s₁ =>
  have h1:=hf cl hc _ _ _ _ _ _ _ _ hr
  cases e₁ with
  | norm=>exact h1.trans (hg cl hc _ _ _ _ _ _ _ _ h)
  | exit id=>cases h;exact h1
  | ret=>cases h;exact h1
theorem fr_loop {f:K} (hf:FrK f):∀ n,FrK (jL f n)
 | 0=>fun cl _ c L d s e L' d' s' h=>by cases h
 | n+1=>fun cl hc c L d s e L' d' s' h=>fr_seq hf (fr_loop hf n) cl hc c L d s e L' d' s' h
theorem jumpA_st {L L':Env} {d d':List Nat} {s s':St} {j:Option Code} {e:Ex} (h:jumpA L d s j=.done e L' d' s'):s'=s:=by
 unfold jumpA at h
 split at h<;>first | (cases h;rfl) | (cases h;done)
theorem loopAt_get {s:St} {l:Nat} {r:ALoop} (h:yv s l=some r):s.h.get l=some (.loop r):=by
 unfold yv at h
 split at h
 ·rename_i h';cases h;exact h'
 ·cases h
theorem fr_range (f:Arg) (ps:List Tmp) (x y:Code):FrK (wy f ps x y):=by
 intro cl hc c L d s e L' d' s' h
 unfold wy at h
 split at h
 ·cases h
 rename_i d₁ s₁ hent
 have h1:Fr s s₁:=by
  unfold gD at hent
  split at hent
  ·split at hent
   ·cases hent;exact .new _ _
   ·cases hent
  ·cases hent;exact (Fr.new _ _).trans (.new _ _)
 split at h
 ·cases h
 rename_i v s₂ hcall
 split at h
 case h_2=>cases h
 rename_i r hr
 split at h
 ·cases h
 have:=jumpA_st h
 subst this
 exact h1.trans ((hc.val hcall).trans (.put _ (loopAt_get hr)))
theorem Jy:FrK kFail:=fun _ _ _ _ _ _ _ _ _ _ h=>by cases h
theorem vk {X:List Nat} {nt:Nat}:∀ (x:Code) {f:K},jh P X nt x=some f→FrK f
 | .skip,f,h=>by cases h;intro cl _ c L d s e L' d' s' h;cases h;exact .refl _
 | .label _,f,h=>by cases h;intro cl _ c L d s e L' d' s' h;cases h;exact .refl _
 | .exit _,f,h=>by cases h;intro cl _ c L d s e L' d' s' h;cases h;exact .refl _
 | .ret,f,h=>by cases h;intro cl _ c L d s e L' d' s' h;cases h;exact .refl _
 | .region id ops false,f,h=>by
  unfold jh at h
  split at h
  ·rename_i k hk
   cases h
   intro cl hc c L d s e L' d' s' h
   unfold zD at h
   split at h
   ·rename_i h';cases h;exact opsK_fr hk cl hc _ _ _ _ h'
   ·cases h
  ·cases h;exact Jy
 | .region id ops true,f,h=>by
  unfold jh at h
  split at h
  ·rename_i k hk
   cases h
   intro cl hc c L d s e L' d' s' h
   unfold zv at h
   split at h
   ·rename_i h'
    split at h
    ·cases h
     exact drawK_fr hk cl hc _ _ _ _ h'
    ·cases h
   ·cases h
  ·cases h;exact Jy
 | .seq x y,f,h=>by
  unfold jh at h
  split at h
  ·rename_i a b ha hb
   cases h
   exact fr_seq (vk x ha) (vk y hb)
  ·cases h
 | .cond q x y,f,h=>by
  unfold jh at h
  split at h
  ·rename_i z a b hz ha hb
   cases h
   intro cl hc c L d s e L' d' s' h
   unfold ze at h
   generalize z.ev L=v at h
   cases v with
   | bool t =>
    have h:(Bool.casesOn (motive:=fun _=>R) t (b cl c L d s) (a cl c L d s):R)=.done e L' d' s':=h
    cases t with
    | false=>exact vk y hb cl hc _ _ _ _ _ _ _ _ h
    | true=>exact vk x ha cl hc _ _ _ _ _ _ _ _ h
   | _=>cases h
  ·cases h
 | .block id x,f,h=>by
  unfold jh at h
  split at h
  ·rename_i a ha
   cases h
   intro cl hc c L d s e L' d' s' h
   unfold zU at h
   generalize hr:a cl c L d s=r at h
   cases r with
   | fail=>cases h
   | done e₁ L₁ d₁ s₁ =>
    have h1:=vk x ha cl hc _ _ _ _ _ _ _ _ hr
    cases e₁ with
    | norm=>cases h;exact h1
    | ret=>cases h;exact h1
    | exit i =>
     simp only at h
     split at h<;>(cases h;exact h1)
  ·cases h
 | .loop x,f,h=>by
  unfold jh at h
  split at h
  ·rename_i a ha
   cases h
   exact fr_loop (vk x ha) _
  ·cases h
 | .scope x,f,h=>by
  unfold jh at h
  exact vk x h
 | .rangeFunc g ps x y,f,h=>by
  unfold jh at h
  split at h
  ·split at h
   ·cases h;exact fr_range _ _ _ _
   ·cases h;exact Jy
  ·cases h;exact Jy
 | .goto _,f,h=>by cases h;exact Jy
 | .refuse _,f,h=>by cases h;exact Jy
theorem takeDfs_fr:∀ {d:List Nat} {s s':St},gK s d=some s'→Fr s s'
 | [],s,s',h=>by cases h;exact .refl _
 | b::r,s,s',h=>by
  unfold gK at h
  split at h
  ·exact (Fr.kill _ _).trans (takeDfs_fr h)
  ·cases h
theorem leaveA_fr {rs:List ResultVar} {L:Env} {d:List Nat} {s s':St} {v:AV} (h:yL P rs L d s=.val v s'):Fr s s':=by
 unfold yL at h
 split at h
 ·cases h
 ·rename_i h1
  split at h
  ·cases h;exact takeDfs_fr h1
  ·cases h
theorem enterA_fr {X:FuncId→List Nat} {cl:zR} (hc:FrCall cl) {f:FuncId} {l:List AV} {s s':St} {fn:Func} {v:AV} (h:zZ P X cl f l s fn=.val v s'):Fr s s':=by
 unfold zZ at h
 split at h
 ·cases h
 split at h
 ·cases h
 split at h
 case h_2=>cases h
 split at h
 ·cases h
 rename_i k hk
 split at h
 ·rename_i hr;exact (vk _ hk cl hc _ _ _ _ _ _ _ _ hr).trans (leaveA_fr h)
 ·rename_i hr;exact (vk _ hk cl hc _ _ _ _ _ _ _ _ hr).trans (leaveA_fr h)
 ·cases h
theorem roundA_fr {cl:zR} (hc:FrCall cl) {b:Nat} {l:List AV} {s s':St} {r:ALoop} {v:AV} (h:roundA P cl b l s r=.val v s'):Fr s s':=by
 unfold roundA at h
 split at h
 ·cases h
 split at h
 case h_2=>cases h
 rename_i fa fb h1 h2
 split at h
 case h_2=>cases h
 rename_i L₁ d₁ s₁ he₁
 split at h
 case h_2=>cases h
 rename_i r₁ hr₁
 split at h
 case h_2=>cases h
 split at h
 case h_2=>cases h
 rename_i q L₂ d₂ s₂ he₂
 unfold YA at h
 split at h
 ·rename_i r₃ hr₃
  cases h
  exact (vk _ h1 cl hc _ _ _ _ _ _ _ _ he₁).trans ((Fr.put _ (loopAt_get hr₁)).trans ((vk _ h2 cl hc _ _ _ _ _ _ _ _ he₂).trans (.put _ (loopAt_get hr₃))))
 ·cases h
theorem kept_or (k:Bool) (a r:Heap):kept k a r=a∨kept k a r=r:=by cases k<;>first | exact .inl rfl | exact .inr rfl
theorem settle_fr {s s₁ s':St} {v w:AV} (a:Fr ⟨s.h,s.n,far⟩ s₁) (h:settle s (.val v s₁)=.val w s'):Fr s s':=by
 unfold settle at h
 simp only at h
 split at h
 ·rename_i hm
  split at h
  ·cases h;exact .refl _
  ·have hm:=Nat.le_of_ble_eq_true hm
   cases h
   rcases kept_or JN s₁.h (reach s.n s₁.h 4000 [v] s.h) with e | e
   ·rw [e];exact ⟨a.n,Nat.le_refl _,fun b _ hb=>a.same b (Nat.lt_of_lt_of_le hb hm) hb,fun hwf b hb=>a.wf hwf b hb⟩
   rw [e]
   have h0:∀ b,b<s.n→s.h.get b=s₁.h.get b:=fun b hb=>(a.same b (Nat.lt_of_lt_of_le hb hm) hb).symm
   have hl:=reach_low (n0:=s.n) 4000 [v] h0
   refine ⟨a.n,Nat.le_refl _,fun b _ hb=>(hl b hb).trans (h0 b hb).symm,fun hwf b hb=>?_⟩
   have hin:=reach_in (n0:=s.n) (all:=s₁.h) 4000 [v] (h:=s.h) (fun b o hbo=>by
    by_cases hlt:b<s.n
    ·rw [← h0 b hlt];exact hbo
    ·rw [hwf b (by omega)] at hbo;cases hbo)
   cases hg:(reach s.n s₁.h 4000 [v] s.h).get b with
   | none=>rfl
   | some o=>have:=hin b o hg;rw [a.wf hwf b hb] at this;cases this
 ·cases h
  exact a.mark _ (jW _ _) (fun b hb _=>by have:=jY s.m s₁.m;omega)
theorem join_fr {s s':St} {b sz:Nat} {r r':ARes} {v:AV} (h:joinA s b sz r r'=.val v s'):Fr s s':=by
 unfold joinA at h
 split at h
 ·split at h
  ·split at h
   ·cases h;exact (Fr.kill _ _).trans (.new _ _)
   ·cases h
  ·cases h
 ·cases h
theorem fork_fr {X:FuncId→List Nat} {cl:zR} {f:FuncId} {l:List AV} {s s':St} {fn:Func} {v:AV} (h:forkA P X cl f s fn l=.val v s'):Fr s s':=by
 unfold forkA at h
 split at h
 ·split at h
  ·split at h
   ·exact join_fr h
   ·cases h
  ·cases h
 ·cases h
theorem orFork_val {r k:ARes} {v:AV} {s:St} (h:orFork r k=.val v s):r=.val v s∨(r=.fail∧k=.val v s):=by
 cases r with
 | fail=>exact .inr ⟨rfl,h⟩
 | val w t=>exact .inl h
theorem callStep_fr {X:FuncId→List Nat} {cl:zR} (hc:FrCall cl):FrCall (jQ P X cl):=by
 intro t l s v s' h
 unfold jQ at h
 split at h
 ·split at h
  ·cases h
  ·rename_i fn _
   rcases orFork_val h with h | ⟨_,h⟩
   ·generalize hr:zZ P X cl _ l ⟨s.h,s.n,far⟩ fn=r at h
    cases r with
    | fail=>cases h
    | val w s₁=>exact settle_fr (enterA_fr hc hr) h
   ·exact fork_fr h
 ·split at h
  ·exact roundA_fr hc h
  ·cases h
theorem call_fr {X:FuncId→List Nat}:∀ n,FrCall (call P X n)
 | 0=>fun _ _ _ _ _ h=>by cases h
 | n+1=>callStep_fr (call_fr n)
end Go.Abs
end
