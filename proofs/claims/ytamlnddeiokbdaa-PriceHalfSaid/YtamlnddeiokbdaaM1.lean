/- What the walks share: temporaries that are known, loops with an invariant, calls that make blocks or turn one. -/
import Derived.Test.YtamlnddeiokbdaaAbsWalk
import Derived.Test.YtamlnddeiokbdaaCodes
import Derived.Test.YtamlnddeiokbdaaAbsOps
import Derived.Test.YtamlnddeiokbdaaWalkAll
set_option linter.unusedSimpArgs false
set_option maxHeartbeats 16000000
namespace Go.Abs
variable {P:Program}
def At (L:Env):List (Nat × AV)→Prop
 | []=>True
 | (t,v)::r=>L.find t=v∧At L r
theorem loop_inv {body:K} {cl:CallF} {cx:Ctx} (I:Nat→Env→St→Prop) (Q:Ex→Env→St→Prop) (k:Nat)
  (step:∀ i L s,i≤k→I i L s→(i<k∧∃ L1 s1,body cl cx L [] s=.done .norm L1 [] s1∧I (i+1) L1 s1)∨(∃ e L1 s1,e≠.norm∧body cl cx L [] s=.done e L1 [] s1∧Q e L1 s1)) :
  ∀ (m i fuel:Nat) (L:Env) (s:St),i+m=k→m<fuel→I i L s→∃ e L1 s1,loopN body fuel cl cx L [] s=.done e L1 [] s1∧Q e L1 s1
 | m,i,0,_,_,_,hf,_=>by omega
 | m,i,fuel+1,L,s,hm,hf,hI=>by
  rcases step i L s (by omega) hI with ⟨hi,L1,s1,h1,h2⟩ | ⟨e,L1,s1,he,h1,h2⟩
  ·obtain ⟨m',rfl⟩:∃ m',m=m'+1:=⟨m - 1,by omega⟩
   obtain ⟨e,L2,s2,h3,h4⟩:=loop_inv I Q k step m' (i+1) fuel L1 s1 (by omega) (by omega) h2
   exact ⟨e,L2,s2,by rw [loopN_succ,h1,thenK_norm,h3],h4⟩
  ·refine ⟨e,L1,s1,?_,h2⟩
   rw [loopN_succ,h1]
   cases e with
   | norm=>exact absurd rfl he
   | exit id=>rfl
   | ret=>rfl
theorem loop_of {body:K} {cl:CallF} {cx:Ctx} {L:Env} {s:St} {r:R} (hr:loopN body rounds cl cx L [] s=r) (I:Nat→Env→St→Prop) (Q:Ex→Env→St→Prop) (k:Nat) (hk:k<rounds) (h0:I 0 L s)
  (step:∀ i L s,i≤k→I i L s→(i<k∧∃ L1 s1,body cl cx L [] s=.done .norm L1 [] s1∧I (i+1) L1 s1)∨(∃ e L1 s1,e≠.norm∧body cl cx L [] s=.done e L1 [] s1∧Q e L1 s1)) :
  ∃ e L1 s1,r=.done e L1 [] s1∧Q e L1 s1:=by
 obtain ⟨e,L1,s1,h1,h2⟩:=loop_inv I Q k step k 0 rounds L s (by omega) hk h0
 exact ⟨e,L1,s1,hr.symm.trans h1,h2⟩
theorem minN_min (a b:Nat):minN a b=min a b:=by
 unfold minN
 cases h:Nat.ble a b
 ·have:¬ a≤b:=fun h'=>by rw [Nat.ble_eq_true_of_le h'] at h;cases h
  show b=_;omega
 ·have:=Nat.le_of_ble_eq_true h
  show a=_;omega
structure Stir (d:Nat) (u s:St) (k:Nat):Prop where
 same:∀ b,b<u.n→b≠d→s.h.get b=u.h.get b
 n:u.n≤s.n
 le:s.n≤u.n+k
 m:d≤u.m→d≤s.m
 mle:s.m≤u.m
theorem Stir.refl (d:Nat) (u:St):Stir d u u 0:=⟨fun _ _ _=>rfl,Nat.le_refl _,Nat.le_refl _,fun h=>h,Nat.le_refl _⟩
theorem Stir.new {d:Nat} {u s:St} {k:Nat} (h:Stir d u s k) (o:AObj):Stir d u (s.new o) (k+1) :=
 ⟨fun b hb hd=>by rw [get_new_ne _ _ _ (by have:=h.n;omega)];exact h.same b hb hd,Nat.le_trans h.n (Nat.le_succ _),by have:=h.le;show s.n+1≤_;omega,h.m,h.mle⟩
theorem Stir.put {d:Nat} {u s:St} {k b:Nat} (h:Stir d u s k) (hd:d<u.n) (o:AObj) (hb:b=d∨u.n≤b):Stir d u (s.put b o) k :=
 ⟨fun c hc hcd=>by rw [get_put_ne' _ _ _ _ (by omega)];exact h.same c hc hcd,h.n,h.le,fun hm=>by
  show d≤minN s.m b
  rw [minN_min]
  have:=h.m hm
  omega,Nat.le_trans (minN_le_left _ _) h.mle⟩
theorem Stir.trans {d:Nat} {u s t:St} {j k:Nat} (a:Stir d u s j) (b:Stir d s t k):Stir d u t (j+k) :=
 ⟨fun c hc hd=>(b.same c (by have:=a.n;omega) hd).trans (a.same c hc hd),Nat.le_trans a.n b.n,by have:=a.le;have:=b.le;omega,fun h=>b.m (a.m h),Nat.le_trans b.mle a.mle⟩
theorem Stir.mono {d:Nat} {u s:St} {j k:Nat} (a:Stir d u s j) (h:j≤k):Stir d u s k:=⟨a.same,a.n,by have:=a.le;omega,a.m,a.mle⟩
theorem Stir.draw {d:Nat} {s t:St} {k:Nat} (a:Stir d ⟨s.h,s.n,far⟩ t k) (hd:d≤far):Stir d s ⟨t.h,t.n,minN s.m t.m⟩ k :=
 ⟨a.same,a.n,a.le,fun h=>by
  show d≤minN s.m t.m
  rw [minN_min]
  have:d≤t.m:=a.m hd
  omega,minN_le_left _ _⟩
structure New (s t:St) (k:Nat):Prop where
 same:∀ b,b<s.n→t.h.get b=s.h.get b
 n:s.n≤t.n
 le:t.n≤s.n+k
 m:t.m=s.m
theorem New.refl (s:St):New s s 0:=⟨fun _ _=>rfl,Nat.le_refl _,Nat.le_refl _,rfl⟩
theorem New.draw {s t:St} {k:Nat} (a:New ⟨s.h,s.n,far⟩ t k) (h:s.m≤far):New s ⟨t.h,t.n,minN s.m t.m⟩ k :=
 ⟨a.same,a.n,a.le,by
  show minN s.m t.m=s.m
  have:t.m=far:=a.m
  rw [minN_min];omega⟩
theorem Stir.after {d:Nat} {u s t:St} {j k:Nat} (a:Stir d u s j) (b:New s t k):Stir d u t (j+k) :=
 ⟨fun c hc hd=>(b.same c (by have:=a.n;omega)).trans (a.same c hc hd),Nat.le_trans a.n b.n,by have:=a.le;have:=b.le;omega,fun h=>by rw [b.m];exact a.m h,by rw [b.m];exact a.mle⟩
theorem Beside.after {u s t:St} {j k:Nat} (a:Beside u s j) (b:New s t k):Beside u t (j+k) :=
 ⟨fun c hc=>(b.same c (by have:=a.n;omega)).trans (a.same c hc),Nat.le_trans a.n b.n,by have:=a.le;have:=b.le;omega,by rw [b.m];exact a.m,by rw [b.m];exact a.far⟩
theorem call_stir_plain {X:FuncId→List Nat} {n:Nat} {f:FuncId} {args:List AV} {s:St} {fn:Func} {d k:Nat} {Q:AV→Prop} {R:Heap→Prop} (hf:P.funcs[f]? = some fn) (h0:R s.h)
  (h:∀ u:St,u.h=s.h→u.n=s.n→u.m=far→∃ v s',enterA P X (call P X n) f args u fn=.val v s'∧Stir d u s' k∧plain v=true∧Q v∧R s'.h) (hd:d≤far) :
  ∃ v t,call P X (n+1) (.fn f) args s=.val v t∧Stir d s t k∧Q v∧R t.h:=by
 obtain ⟨v,s',h1,h2,h3,h4,h5⟩:=h ⟨s.h,s.n,far⟩ rfl rfl rfl
 cases hb:Nat.ble s.n s'.m with
 | true =>
  refine ⟨v,s,?_,(Stir.refl d s).mono (Nat.zero_le _),h4,h0⟩
  show callStep P X (call P X n) (.fn f) args s=_
  unfold callStep
  simp only [hf,h1]
  unfold Abs.settle
  simp only [hb,h3]
  rfl
 | false =>
  refine ⟨v,⟨s'.h,s'.n,minN s.m s'.m⟩,?_,Stir.draw (s:=s) h2 hd,h4,h5⟩
  show callStep P X (call P X n) (.fn f) args s=_
  unfold callStep
  simp only [hf,h1]
  unfold Abs.settle
  simp only [hb]
  rfl
theorem call_new {X:FuncId→List Nat} {n:Nat} {f:FuncId} {args:List AV} {s:St} {fn:Func} {k:Nat} {Q:AV→Heap→Nat→Prop} (hf:P.funcs[f]? = some fn) (hk:keepAll=true)
  (h:∀ u:St,u.h=s.h→u.n=s.n→u.m=far→∃ v s',enterA P X (call P X n) f args u fn=.val v s'∧Beside u s' k∧plain v=false∧Q v s'.h s'.n) :
  ∃ v t,call P X (n+1) (.fn f) args s=.val v t∧New s t k∧Q v t.h t.n:=by
 obtain ⟨v,s',h1,h2,h3,h4⟩:=h ⟨s.h,s.n,far⟩ rfl rfl rfl
 have hb:Nat.ble s.n s'.m=true:=Nat.ble_eq_true_of_le h2.m
 refine ⟨v,⟨s'.h,s'.n,s.m⟩,?_,⟨h2.same,h2.n,h2.le,rfl⟩,h4⟩
 show callStep P X (call P X n) (.fn f) args s=_
 unfold callStep
 simp only [hf,h1]
 unfold Abs.settle
 simp only [hb,h3,hk]
 rfl
theorem call_new' {X:FuncId→List Nat} {n:Nat} {f:FuncId} {args:List AV} {s:St} {fn:Func} {k:Nat} {Q:AV→Heap→Nat→Prop} (hf:P.funcs[f]? = some fn) (hk:keepAll=true)
  (h:∀ u:St,u.h=s.h→u.n=s.n→u.m=far→∃ v s',enterA P X (call P X n) f args u fn=.val v s'∧Beside u s' k∧Q v s'.h s'.n∧(plain v=true→Q v s.h s.n)) :
  ∃ v t,call P X (n+1) (.fn f) args s=.val v t∧New s t k∧Q v t.h t.n:=by
 obtain ⟨v,s',h1,h2,h3,h4⟩:=h ⟨s.h,s.n,far⟩ rfl rfl rfl
 have hb:Nat.ble s.n s'.m=true:=Nat.ble_eq_true_of_le h2.m
 cases hp:plain v with
 | true =>
  refine ⟨v,s,?_,⟨fun _ _=>rfl,Nat.le_refl _,Nat.le_add_right _ _,rfl⟩,h4 hp⟩
  show callStep P X (call P X n) (.fn f) args s=_
  unfold callStep
  simp only [hf,h1]
  unfold Abs.settle
  simp only [hb,hp]
  rfl
 | false =>
  refine ⟨v,⟨s'.h,s'.n,s.m⟩,?_,⟨h2.same,h2.n,h2.le,rfl⟩,h3⟩
  show callStep P X (call P X n) (.fn f) args s=_
  unfold callStep
  simp only [hf,h1]
  unfold Abs.settle
  simp only [hb,hp,hk]
  rfl
theorem call_any {X:FuncId→List Nat} {n:Nat} {f:FuncId} {args:List AV} {s:St} {fn:Func} {Q:AV→Heap→Nat→Nat→Prop} (hf:P.funcs[f]? = some fn) (hk:keepAll=true)
  (h:∀ u:St,u.h=s.h→u.n=s.n→u.m=far→∃ v s',enterA P X (call P X n) f args u fn=.val v s'∧Q v s'.h s'.n s'.m∧(plain v=true→s.n≤s'.m→Q v s.h s.n s'.m)) :
  ∃ v t m,call P X (n+1) (.fn f) args s=.val v t∧Q v t.h t.n m∧((s.n≤m∧t.m=s.m)∨(m<s.n∧t.m=min s.m m)):=by
 obtain ⟨v,s',h1,h2,h3⟩:=h ⟨s.h,s.n,far⟩ rfl rfl rfl
 cases hb:Nat.ble s.n s'.m with
 | true =>
  have hle:=Nat.le_of_ble_eq_true hb
  cases hp:plain v with
  | true =>
   refine ⟨v,s,s'.m,?_,h3 hp hle,.inl ⟨hle,rfl⟩⟩
   show callStep P X (call P X n) (.fn f) args s=_
   unfold callStep
   simp only [hf,h1]
   unfold Abs.settle
   simp only [hb,hp]
   rfl
  | false =>
   refine ⟨v,⟨s'.h,s'.n,s.m⟩,s'.m,?_,h2,.inl ⟨hle,rfl⟩⟩
   show callStep P X (call P X n) (.fn f) args s=_
   unfold callStep
   simp only [hf,h1]
   unfold Abs.settle
   simp only [hb,hp,hk]
   rfl
 | false =>
  have hlt:s'.m<s.n:=by
   rcases Nat.lt_or_ge s'.m s.n with h | h
   ·exact h
   ·rw [Nat.ble_eq_true_of_le h] at hb;cases hb
  refine ⟨v,⟨s'.h,s'.n,minN s.m s'.m⟩,s'.m,?_,h2,.inr ⟨hlt,minN_min _ _⟩⟩
  show callStep P X (call P X n) (.fn f) args s=_
  unfold callStep
  simp only [hf,h1]
  unfold Abs.settle
  simp only [hb]
  rfl
theorem call_some {X:FuncId→List Nat} {n:Nat} {f:FuncId} {args:List AV} {s:St} {fn:Func} {k:Nat} {Q:AV→Prop} (hf:P.funcs[f]? = some fn)
  (h:∀ u:St,u.h=s.h→u.n=s.n→u.m=far→∃ v s',enterA P X (call P X n) f args u fn=.val v s'∧Beside u s' k∧plain v=true∧Q v) :
  ∃ v,call P X (n+1) (.fn f) args s=.val v s∧Q v:=by
 obtain ⟨v,s',h1,h2,h3,h4⟩:=h ⟨s.h,s.n,far⟩ rfl rfl rfl
 exact ⟨v,call_plain hf h1 h3 h2.m,h4⟩
/-! ### Ends of what may be -/
theorem ixa2_0 (s:St) (b o:Nat):ixaA 2 1 s (.ptr b o) (.int .i64 0)=.val (.ptr b o) s:=Eq.trans (Eq.refl _) (Eq.refl _)
theorem ixa2_1 (s:St) (b o:Nat):ixaA 2 1 s (.ptr b o) (.int .i64 1)=.val (.ptr b (o+1)) s:=Eq.trans (Eq.refl _) (Eq.refl _)
theorem kFold_def (f:AV→AV→AV) (x:Arg) (r:List Arg) (L:Env) (s:St):kFold f x r L s=okA (.val (foldA f (x.ev L) (evs r L)) s):=Eq.trans (Eq.refl _) (Eq.refl _)
theorem foldA_nil (f:AV→AV→AV) (x:AV):foldA f x []=x:=Eq.trans (Eq.refl _) (Eq.refl _)
theorem foldA_cons (f:AV→AV→AV) (x y:AV) (r:List AV):foldA f x (y::r)=foldA f (f x y) r:=Eq.trans (Eq.refl _) (Eq.refl _)
theorem minN_eq (a b:Nat):minN a b=min a b:=minN_min a b
theorem minA_i64 (x y:Int):minA (.int .i64 x) (.int .i64 y)=.int .i64 (min x y):=by
 show AV.int .i64 (match leI x y with | true=>x | false=>y)=_
 rw [leI_eq]
 by_cases h:x≤y
 ·rw [decide_eq_true h,Int.min_eq_left h]
 ·rw [decide_eq_false h,Int.min_eq_right (by omega)]
/-! ### Numbers -/
theorem kShr_def (x y:Arg) (L:Env) (s:St):kShr x y L s=shrA s (x.ev L) (y.ev L):=Eq.trans (Eq.refl _) (Eq.refl _)
def shrI (a b:Int):Int:=a.fdiv (2 ^ (min b.toNat 64))
theorem shrA_u64 (s:St) (a:Int) (k:IntKind) (b:Int) (hb:0≤b):shrA s (.int .u64 a) (.int k b)=.val (.int .u64 (shrI a b)) s:=by
 cases b with
 | ofNat b=>rfl
 | negSucc b=>omega
theorem shrI_nonneg (a b:Int) (h:0≤a):0≤shrI a b:=Int.fdiv_nonneg h (Int.pow_nonneg (by decide))
theorem cviA_int (k k':IntKind) (s:St) (n:Int):cviA k s (.int k' n)=.val (.int k (wrapA k n)) s:=Eq.trans (Eq.refl _) (Eq.refl _)
theorem wrap_u64 (n:Int) (h:0≤n∧n≤18446744073709551615):wrapA .u64 n=n:=by rw [wrapA_eq];exact IntWalk.u64_in n h
theorem wrap_u64_range (n:Int):0≤IntKind.u64.wrap n∧IntKind.u64.wrap n≤18446744073709551615:=by
 simp [IntKind.wrap,IntKind.bits,IntKind.signed];omega
theorem aMul_def (s:St) (k:IntKind) (a b:Int):aMul s k a b=.val (.int k (wrapA k (Int.mul a b))) s:=Eq.trans (Eq.refl _) (Eq.refl _)
theorem aAdd_def (s:St) (k:IntKind) (a b:Int):aAdd s k a b=.val (.int k (wrapA k (Int.add a b))) s:=Eq.trans (Eq.refl _) (Eq.refl _)
def xorI (k:IntKind) (a b:Int):Int:=k.wrap (BitVec.ofInt k.bits a ^^^ BitVec.ofInt k.bits b).toNat
theorem xorI_range (a b:Int):0≤xorI .u64 a b∧xorI .u64 a b≤18446744073709551615:=wrap_u64_range _
theorem aXor_def (s:St) (k:IntKind) (a b:Int):aXor s k a b=.val (.int k (xorI k a b)) s:=Eq.trans (Eq.refl _) (Eq.refl _)
theorem aRem_ne (s:St) (k:IntKind) (a b:Int) (h:b≠0):aRem s k a b=.val (.int k (a.tmod b)) s:=by unfold aRem;rw [if_neg h]
end Go.Abs
namespace Go.Abs
variable {P:Program}
structure Rows (h:Heap) (lo n w tg:Nat) (rows:List (List AV)) (v:AV):Prop where
 wide:∀ r ∈ rows,r.length=w
 is:(rows=[]∧v=.nilslice)∨(∃ b,lo≤b∧b<n∧v=.slice b 0 rows.length rows.length true∧h.get b=some (.cells rows.flatten (w+tg)))
theorem Rows.nil (h:Heap) (lo n w tg:Nat):Rows h lo n w tg [] .nilslice:=⟨fun r hr=>by (cases hr),.inl ⟨rfl,rfl⟩⟩
theorem Rows.mono {h h':Heap} {lo n n' w tg:Nat} {rows:List (List AV)} {v:AV} (r:Rows h lo n w tg rows v) (hh:∀ b,lo≤b→b<n→h'.get b=h.get b) (hn:n≤n'):Rows h' lo n' w tg rows v :=
 ⟨r.wide,r.is.imp id fun ⟨b,h0,h1,h2,h3⟩=>⟨b,h0,by omega,h2,by rw [hh b h0 h1];exact h3⟩⟩
theorem flatten_cut:∀ {rows:List (List AV)} {w i:Nat},(∀ r ∈ rows,r.length=w)→(hi:i<rows.length)→cut (i * w) w rows.flatten=some rows[i]
 | [],w,i,_,hi=>by simp at hi
 | r::rs,w,i,hw,hi=>by
  have hr:r.length=w:=hw r (List.mem_cons_self ..)
  have cut1_app:∀ (r l:List AV),cut1 r.length (r++l)=some r:=by
   intro r l
   induction r with
   | nil=>exact cut1_zero l
   | cons a r ih=>rw [List.length_cons,List.cons_append,cut1_cons,ih];rfl
  have cut_0:∀ (k:Nat) (l:List AV),cut 0 k l=cut1 k l:=by
   intro k l
   cases l with
   | nil=>rfl
   | cons a l=>rfl
  cases i with
  | zero =>
   rw [Nat.zero_mul,List.flatten_cons,cut_0,← hr,cut1_app]
   rfl
  | succ i =>
   have ih:=flatten_cut (rows:=rs) (w:=w) (i:=i) (fun x hx=>hw x (List.mem_cons_of_mem _ hx)) (by simpa using hi)
   have drop:∀ (r l:List AV) (o k:Nat),cut (o+r.length) k (r++l)=cut o k l:=by
    intro r l o k
    induction r with
    | nil=>rfl
    | cons a r ih=>rw [List.length_cons,List.cons_append,← Nat.add_assoc,cut_cons,if_neg (by omega)];exact ih
   rw [List.flatten_cons,show (i+1) * w=i * w+r.length by rw [Nat.succ_mul,hr],drop,ih]
   rfl
theorem Rows.at_ {h:Heap} {lo n w tg:Nat} {rows:List (List AV)} {v:AV} (r:Rows h lo n w tg rows v):RowsAt h n w rows v:=by
 refine ⟨fun s=>?_,fun i hi=>?_⟩
 ·rcases r.is with ⟨h1,h2⟩ | ⟨b,_,_,h2,_⟩
  ·subst h1;subst h2;rfl
  ·subst h2;rfl
 ·rcases r.is with ⟨h1,_⟩ | ⟨b,_,hb,h2,h3⟩
  ·subst h1;simp at hi
  ·subst h2
   exact ⟨b,i * w,rows.flatten,w+tg,hb,fun s=>by rw [ixs_slice _ _ _ _ _ _ _ _ hi,Nat.zero_add],h3,flatten_cut r.wide hi⟩
theorem Rows.len {h:Heap} {lo n w tg:Nat} {rows:List (List AV)} {v:AV} (r:Rows h lo n w tg rows v) (s:St):lenSlA s v=.val (.int .i64 rows.length) s:=r.at_.len s
theorem Rows.scalar {h:Heap} {lo n w tg:Nat} {rows:List (List AV)} {v:AV} (r:Rows h lo n w tg rows v):(∀ t,okA (.val v t)=.val v t)∧cellsOf 1 v=some [v]∧(∀ l,scalars (v::l)=scalars l):=by
 rcases r.is with ⟨_,h2⟩ | ⟨b,_,_,h2,_⟩<;>subst h2<;>exact ⟨fun _=>rfl,rfl,fun _=>rfl⟩
theorem flatten_len:∀ {rows:List (List AV)} {w:Nat},(∀ r ∈ rows,r.length=w)→rows.flatten.length=rows.length * w
 | [],w,_=>by simp
 | r::rs,w,hw=>by
  have:=flatten_len (rows:=rs) (w:=w) (fun x hx=>hw x (List.mem_cons_of_mem _ hx))
  rw [List.flatten_cons,List.length_append,this,hw r (List.mem_cons_self ..),List.length_cons,Nat.succ_mul,Nat.add_comm]
theorem append_row {s:St} {lo w bytes tg:Nat} {rows:List (List AV)} {v:AV} (r:Rows s.h lo s.n w tg rows v) {p sz:Nat} {row:List AV} (hp:s.h.get p=some (.cells row sz)) (hw:row.length=w) (hsc:scalars row=true)
  (hb:(rows.length+1) * bytes≤1000000) (htg:szOf (w+tg)=w) (hs:s.n<549755813888) (hlo:lo≤s.n) :
  ∃ v' s',appendA false w bytes tg s v (.slice p 0 1 1 false)=.val v' s'∧Rows s'.h lo s'.n w tg (rows++[row]) v'∧s'.n=s.n+1∧(∀ b,b<lo→s'.h.get b=s.h.get b)∧(∀ b,b<s.n→v≠.slice b 0 rows.length rows.length true→s'.h.get b=s.h.get b)∧(∀ k,k≤lo→k≤s.m→k≤s'.m)∧s'.m≤s.m∧v'=.slice s.n 0 (rows.length+1) (rows.length+1) true:=by
 have h1:∀ x,appendA false w bytes tg s x (.slice p 0 1 1 false)=growA w bytes tg 1 row s x:=by
  intro x
  have e1:firstA w 1 s (.slice p 0 1 1 false)=some row:=by
   show (match s.h.get p with | some (.cells c _)=>cut 0 (1 * w) c | some (.fam c _ k _)=>cut 0 (1 * w) (c.take k) | _=>none)=some row
   rw [hp]
   simp only [Nat.one_mul]
   have cut_0:∀ (k:Nat) (l:List AV),cut 0 k l=cut1 k l:=by
    intro k l
    cases l with
    | nil=>rfl
    | cons a l=>rfl
   have all:∀ l:List AV,cut1 l.length l=some l:=by
    intro l
    induction l with
    | nil=>rfl
    | cons a l ih=>rw [List.length_cons,cut1_cons,ih];rfl
   rw [cut_0,← hw,all]
  show (match (some 1:Option Nat) with | none=>ARes.fail | some n=>match firstA w n s (.slice p 0 1 1 false) with | none=>.fail | some new=>match Nat.beq new.length (n * w) with | false=>.fail | true=>match scalars new with | true=>(growA w bytes tg n new s x) | false=>.fail)=_
  simp only [e1,hw,Nat.one_mul,Nat.beq_refl,hsc]
 rcases r.is with ⟨h2,h3⟩ | ⟨b,hlb,hbn,h3,h4⟩
 ·subst h2;subst h3
  refine ⟨.slice s.n 0 1 1 true,s.new (.cells row (w+tg)),?_,⟨fun x hx=>?_,.inr ⟨s.n,hlo,Nat.lt_succ_self _,rfl,?_⟩⟩,rfl,fun b hb=>?_,fun b hb _=>?_,fun _ _ h=>h,Nat.le_refl _,rfl⟩
  ·rw [h1]
   show (match Nat.beq 1 0 with | true=>ARes.val .nilslice s | false=>match Nat.ble (1 * bytes) limit with | false=>.fail | true=>.val (.slice s.n 0 1 1 true) (s.new (.cells row (w+tg))))=_
   have:Nat.ble (1 * bytes) limit=true:=Nat.ble_eq_true_of_le (by unfold limit;simp at hb;omega)
   rw [this]
  ·simp at hx;subst hx;exact hw
  ·simp only [List.nil_append,List.flatten_cons,List.flatten_nil,List.append_nil]
   exact get_new_eq _ _ _ rfl hs
  ·exact get_new_ne _ _ _ (by omega)
  ·exact get_new_ne _ _ _ (by omega)
 ·subst h3
  have hfl:=flatten_len r.wide
  refine ⟨.slice s.n 0 (rows.length+1) (rows.length+1) true,(s.kill b).new (.cells (rows.flatten++row) (w+tg)),?_,⟨fun x hx=>?_,.inr ⟨s.n,hlo,Nat.lt_succ_self _,by simp,?_⟩⟩,rfl,fun c hc=>?_,fun c hc hne=>?_,fun k hk hm=>?_,minN_le_left _ _,rfl⟩
  ·rw [h1]
   unfold growA
   simp only [h4]
   have e1:Nat.ble (rows.length+1) rows.length=false:=by
    cases h:Nat.ble (rows.length+1) rows.length with
    | false=>rfl
    | true=>have:=Nat.le_of_ble_eq_true h;omega
   have e2:Nat.ble ((rows.length+1) * bytes) limit=true:=Nat.ble_eq_true_of_le hb
   simp only [e1,e2,hfl,htg,Nat.zero_add,List.drop_zero,and_self,if_true]
  ·rcases List.mem_append.mp hx with hx | hx
   ·exact r.wide x hx
   ·simp at hx;subst hx;exact hw
  ·rw [List.flatten_append,List.flatten_cons,List.flatten_nil,List.append_nil]
   exact get_new_eq _ _ _ rfl hs
  ·rw [get_new_ne _ _ _ (by show c≠s.n;omega),St.kill_h,heap_set_ne _ _ _ _ (by omega)]
  ·rw [get_new_ne _ _ _ (by show c≠s.n;omega),St.kill_h,heap_set_ne _ _ _ _ (fun e=>hne (by rw [e]))]
  ·show k≤minN s.m b
   rw [minN_min];omega
/-! ### Slices as they come in, copies, parts -/
theorem cut_zero (k:Nat) (l:List AV):cut 0 k l=cut1 k l:=by cases l<;>rfl
theorem cut1_app:∀ (r l:List AV),cut1 r.length (r++l)=some r:=by
 intro r l
 induction r with
 | nil=>exact cut1_zero l
 | cons a r ih=>rw [List.length_cons,List.cons_append,cut1_cons,ih];rfl
theorem cut1_all (l:List AV):cut1 l.length l=some l:=by have:=cut1_app l [];rwa [List.append_nil] at this
theorem cut1_some:∀ {k:Nat} {l r:List AV},cut1 k l=some r→∃ t,l=r++t∧r.length=k
 | 0,l,r,h=>by rw [cut1_zero] at h;cases h;exact ⟨l,rfl,rfl⟩
 | k+1,[],r,h=>by cases h
 | k+1,a::l,r,h=>by
  rw [cut1_cons] at h
  generalize hq:cut1 k l=q at h
  cases q with
  | none=>cases h
  | some q =>
   cases h
   obtain ⟨t,h1,h2⟩:=cut1_some hq
   exact ⟨t,by rw [h1];rfl,by rw [List.length_cons,h2]⟩
theorem cut_some:∀ {o k:Nat} {l r:List AV},cut o k l=some r→∃ a t,l=a++r++t∧a.length=o∧r.length=k
 | 0,k,l,r,h=>by
  rw [cut_zero] at h
  obtain ⟨t,h1,h2⟩:=cut1_some h
  exact ⟨[],t,by rw [h1];rfl,rfl,h2⟩
 | o+1,k,[],r,h=>by cases h
 | o+1,k,a::l,r,h=>by
  rw [cut_cons,if_neg (by omega)] at h
  obtain ⟨x,t,h1,h2,h3⟩:=cut_some h
  exact ⟨a::x,t,by rw [h1];rfl,by rw [List.length_cons,h2];omega,h3⟩
theorem cut_skip:∀ (a l:List AV) (o k:Nat),cut (a.length+o) k (a++l)=cut o k l
 | [],l,o,k=>by rw [List.length_nil,Nat.zero_add,List.nil_append]
 | x::a,l,o,k=>by
  rw [List.length_cons,List.cons_append,show a.length+1+o=(a.length+o)+1 by omega,cut_cons,if_neg (by omega)]
  exact cut_skip a l o k
theorem cut_app:∀ {o k:Nat} {l r t:List AV},cut o k l=some r→cut o k (l++t)=some r:=by
 intro o k l r t h
 obtain ⟨a,u,h1,h2,h3⟩:=cut_some h
 rw [h1,← h2,List.append_assoc,List.append_assoc]
 have:=cut_skip a (r++(u++t)) 0 k
 rw [Nat.add_zero] at this
 rw [this,cut_zero,← h3,cut1_app]
theorem cut_cut {o k i w:Nat} {c F r:List AV} (h:cut o k c=some F) (h2:cut i w F=some r):cut (o+i) w c=some r:=by
 obtain ⟨a,t,h3,h4,h5⟩:=cut_some h
 rw [h3,← h4,List.append_assoc,cut_skip]
 exact cut_app h2
structure Seq (h:Heap) (n w:Nat) (rows:List (List AV)) (v:AV):Prop where
 wide:∀ r ∈ rows,r.length=w
 is:(rows=[]∧v=.nilslice)∨∃ b o cap e c sz,b<n∧v=.slice b o rows.length cap e∧h.get b=some (.cells c sz)∧cut o (rows.length * w) c=some rows.flatten
theorem Seq.at_ {h:Heap} {n w:Nat} {rows:List (List AV)} {v:AV} (r:Seq h n w rows v):RowsAt h n w rows v:=by
 refine ⟨fun s=>?_,fun i hi=>?_⟩
 ·rcases r.is with ⟨h1,h2⟩ | ⟨b,o,cap,e,c,sz,_,h2,_⟩
  ·subst h1;subst h2;rfl
  ·subst h2;rfl
 ·rcases r.is with ⟨h1,_⟩ | ⟨b,o,cap,e,c,sz,hb,h2,h3,h4⟩
  ·subst h1;simp at hi
  ·subst h2
   exact ⟨b,o+i * w,c,sz,hb,fun s=>ixs_slice _ _ _ _ _ _ _ _ hi,h3,cut_cut h4 (flatten_cut r.wide hi)⟩
theorem Seq.grow {h h':Heap} {n n' w:Nat} {rows:List (List AV)} {v:AV} (r:Seq h n w rows v) (hh:∀ b,b<n→h'.get b=h.get b) (hn:n≤n'):Seq h' n' w rows v :=
 ⟨r.wide,r.is.imp id fun ⟨b,o,cap,e,c,sz,h1,h2,h3,h4⟩=>⟨b,o,cap,e,c,sz,by omega,h2,by rw [hh b h1];exact h3,h4⟩⟩
theorem Rows.seq {h:Heap} {lo n w tg:Nat} {rows:List (List AV)} {v:AV} (r:Rows h lo n w tg rows v):Seq h n w rows v :=
 ⟨r.wide,r.is.imp id fun ⟨b,_,h1,h2,h3⟩=>⟨b,0,_,_,_,_,h1,h2,h3,by rw [cut_zero,← flatten_len r.wide,cut1_all]⟩⟩
theorem Seq.first {s:St} {n w:Nat} {rows:List (List AV)} {v:AV} (r:Seq s.h n w rows v):lenA v=some rows.length∧firstA w rows.length s v=some rows.flatten:=by
 rcases r.is with ⟨h1,h2⟩ | ⟨b,o,cap,e,c,sz,hb,h2,h3,h4⟩
 ·subst h1;subst h2;exact ⟨rfl,rfl⟩
 ·subst h2
  refine ⟨rfl,?_⟩
  show (match s.h.get b with | some (.cells c _)=>cut o (rows.length * w) c | some (.fam c _ k _)=>cut o (rows.length * w) (c.take k) | _=>none)=_
  rw [h3]
  exact h4
theorem Seq.scalar {h:Heap} {n w:Nat} {rows:List (List AV)} {v:AV} (r:Seq h n w rows v):(∀ t,okA (.val v t)=.val v t)∧cellsOf 1 v=some [v]∧(∀ l,scalars (v::l)=scalars l):=by
 rcases r.is with ⟨_,h2⟩ | ⟨b,o,cap,e,c,sz,_,h2,_⟩<;>subst h2<;>exact ⟨fun _=>rfl,rfl,fun _=>rfl⟩
structure Own (h:Heap) (lo n w tg:Nat) (rows:List (List AV)) (v:AV):Prop where
 wide:∀ r ∈ rows,r.length=w
 is:(rows=[]∧(v=.nilslice∨∃ b,lo≤b∧b<n∧v=.slice b 0 0 0 false∧h.get b=some (.cells [] 0)))∨(rows≠[]∧∃ b,lo≤b∧b<n∧v=.slice b 0 rows.length rows.length true∧h.get b=some (.cells rows.flatten (w+tg)))
theorem Own.seq {h:Heap} {lo n w tg:Nat} {rows:List (List AV)} {v:AV} (r:Own h lo n w tg rows v):Seq h n w rows v:=by
 refine ⟨r.wide,?_⟩
 rcases r.is with ⟨h1,h2 | ⟨b,_,h3,h4,h5⟩⟩ | ⟨_,b,_,h3,h4,h5⟩
 ·exact .inl ⟨h1,h2⟩
 ·subst h1;exact .inr ⟨b,0,0,false,[],0,h3,h4,h5,by rw [List.length_nil,Nat.zero_mul];rfl⟩
 ·exact .inr ⟨b,0,_,_,_,_,h3,h4,h5,by rw [cut_zero,← flatten_len r.wide,cut1_all]⟩
theorem Own.mono {h h':Heap} {lo n n' w tg:Nat} {rows:List (List AV)} {v:AV} (r:Own h lo n w tg rows v) (hh:∀ b,lo≤b→b<n→h'.get b=h.get b) (hn:n≤n'):Own h' lo n' w tg rows v:=by
 refine ⟨r.wide,?_⟩
 rcases r.is with ⟨h1,h2 | ⟨b,h0,h3,h4,h5⟩⟩ | ⟨h1,b,h0,h3,h4,h5⟩
 ·exact .inl ⟨h1,.inl h2⟩
 ·exact .inl ⟨h1,.inr ⟨b,h0,by omega,h4,by rw [hh b h0 h3];exact h5⟩⟩
 ·exact .inr ⟨h1,b,h0,by omega,h4,by rw [hh b h0 h3];exact h5⟩
end Go.Abs
namespace Go.Abs
variable {P:Program}
theorem zeros_len (z:List AV):∀ n,(zerosA z n).length=n * z.length
 | 0=>by simp [zerosA]
 | n+1=>by
  show (z++zerosA z n).length=_
  rw [List.length_append,zeros_len z n,Nat.succ_mul];omega
theorem kMake_def (z:List AV) (bytes:Nat) (l c:Arg) (L:Env) (s:St):kMake z bytes l c L s=makeA z bytes s (l.ev L) (c.ev L):=Eq.trans (Eq.refl _) (Eq.refl _)
theorem leave_nil {P:Program} (L:Env) (s:St):leaveA P [] L [] s=.val (.tup []) s:=rfl
theorem call_round {X:FuncId→List Nat} {n l:Nat} {args:List AV} {s s1 s2:St} {r r1 r2:ALoop} {a b:K} {L L2:Env} {d d2:List Nat} {e:Ex} (hl:s.h.get l=some (.loop r)) (hr:args.length=r.params.length)
  (ha:codeK P r.xs r.nt r.assign=some a) (hb:codeK P r.xs r.nt r.body=some b) (h1:a (call P X n) ⟨r.fn,some l,r.nt,r.xs⟩ (setParams r.tmps r.params args) [] s=.done .norm L d s1)
  (h2:s1.h.get l=some (.loop r1)) (h3:r1.state=.ready) (h4:b (call P X n) ⟨r.fn,some l,r.nt,r.xs⟩ L [] (s1.put l (.loop { r1 with state:=.busy }))=.done e L2 d2 s2) (h5:s2.h.get l=some (.loop r2)) :
  call P X (n+1) (.yield l) args s=.val (.bool (goesOn e)) (s2.put l (.loop { r2 with state:=if goesOn e then .ready else .done,pending:=jumpOf e })):=by
 have e1:loopAt s l=some r:=by unfold loopAt;rw [hl]
 have e2:loopAt s1 l=some r1:=by unfold loopAt;rw [h2]
 have e3:loopAt s2 l=some r2:=by unfold loopAt;rw [h5]
 show callStep P X (call P X n) (.yield l) args s=_
 unfold callStep
 simp only [e1]
 unfold roundA
 rw [if_neg (by simp [hr])]
 simp only [ha,hb,h1,e2,h3,h4]
 unfold endRoundA
 simp only [e3]
theorem range_eq {f:Arg} {ps:List Tmp} {a b:Code} {cl:CallF} {c:Ctx} {L:Env} {d:List Nat} {s s2:St} {v:AV} {r:ALoop} (hc:c.rnd=none)
  (h:callV cl [.yield (s.n+1)] ((s.new .dfr).new (.loop ⟨.ready,none,c.fn,L,ps,a,b,s.n,c.nt,c.xs⟩)) (f.ev L)=.val v s2) (hr:s2.h.get (s.n+1)=some (.loop r)) (hb:r.state≠.busy) :
  kRange f ps a b cl c L d s=jumpA L (s.n::d) (s2.put (s.n+1) (.loop { r with state:=.exhausted })) r.pending:=by
 have e1:enterLoopA c L d ps a b s=some (s.n::d,(s.new .dfr).new (.loop ⟨.ready,none,c.fn,L,ps,a,b,s.n,c.nt,c.xs⟩)):=by unfold enterLoopA;rw [hc]
 have e2:Nat.sub ((s.new .dfr).new (.loop ⟨.ready,none,c.fn,L,ps,a,b,s.n,c.nt,c.xs⟩)).n 1=s.n+1:=rfl
 have e3:loopAt s2 (s.n+1)=some r:=by unfold loopAt;rw [hr]
 unfold kRange
 simp only [e1]
 rw [e2,h]
 simp only
 rw [e3]
 cases hst:r.state with
 | busy=>exact absurd hst hb
 | _=>simp only [hst]
theorem setParams1 (L:Env) (t:Tmp) (a:AV):setParams L [t] [a]=L.set t a:=rfl
theorem leave_dfr (P:Program) (rs:List ResultVar) (x:Nat) (L:Env) (s:St) (h:s.h.get x=some .dfr):leaveA P rs L [x] s=leaveA P rs L [] (s.kill x):=by
 unfold leaveA
 have:takeDfs s [x]=some (s.kill x):=by
  show (match s.h.get x with | some .dfr=>takeDfs (s.kill x) [] | _=>none)=_
  rw [h];rfl
 rw [this]
 rfl
theorem boxA_func (sz:Nat) (s:St) (f:FuncId) (x y:List AV):boxA sz s (.func f x y)=.val (.ptr s.n 0) (s.new (.cells [.func f x y] sz)):=Eq.trans (Eq.refl _) (Eq.refl _)
theorem get_kill_ne (s:St) (b c:Nat) (h:b≠c):(s.kill c).h.get b=s.h.get b:=by rw [St.kill_h,heap_set_ne _ _ _ _ h]
theorem range_to_end {f:Arg} {ps:List Tmp} {a b:Code} {cl:CallF} {c:Ctx} {L:Env} {s s2:St} {v:AV} {r:ALoop} (hc:c.rnd=none)
  (h:callV cl [.yield (s.n+1)] ((s.new .dfr).new (.loop ⟨.ready,none,c.fn,L,ps,a,b,s.n,c.nt,c.xs⟩)) (f.ev L)=.val v s2) (hr:s2.h.get (s.n+1)=some (.loop r)) (hb:r.state=.ready) (hp:r.pending=none) :
  kRange f ps a b cl c L [] s=.done .norm L [s.n] (s2.put (s.n+1) (.loop { r with state:=.exhausted })):=by
 rw [range_eq hc h hr (by rw [hb];simp),hp]
 rfl
structure Turn (d:Nat) (u t:St) (k:Nat):Prop where
 same:∀ b,b<u.n→b≠d→t.h.get b=u.h.get b
 n:u.n≤t.n
 le:t.n≤u.n+k
end Go.Abs
set_option maxRecDepth 10000
namespace Go.Abs
structure Takes {α:Type} (P:Program) (X:FuncId→List Nat) (N l k0 w rm:Nat) (own:Nat→Prop) (ev:α→AV) (T:List α) (μ:List α→Nat→Prop) (J:List α→Heap→Nat→Prop):Prop where
 mono:∀ p m m',m'≤m→μ p m→μ p m'
 nil:∀ m,μ [] m
 few:k0≤1000000000
 keep:∀ p h h' n n',(∀ b,b≤l→h'.get b=h.get b)→n≤n'→J p h n→J p h' n'
 take:∀ p x rest (s:St),p++x::rest=T→J p s.h s.n→l<s.n→s.n+rm≤far→w≤s.m→s.m≤far→μ p s.m→∃ s',Abs.call P X N (.yield l) [ev x] s=.val (.bool true) s'∧J (p++[x]) s'.h s'.n ∧
  (∀ y,y<s.n→y≠l→¬ own y→s'.h.get y=s.h.get y)∧s.n≤s'.n∧s'.n≤s.n+k0∧w≤s'.m∧s'.m≤s.m∧s'.m≤l∧μ (p++[x]) s'.m
def Hands {α:Type} (P:Program) (X:FuncId→List Nat) (N Z nb cb:Nat) (H:Heap) (g:FuncId) (cap:List AV) (ev:α→AV) (T:List α):Prop :=
 ∀ (l k0 w rm:Nat) (own:Nat→Prop) (μ:List α→Nat→Prop) (J:List α→Heap→Nat→Prop) (s:St),Takes P X N l k0 w rm own ev T μ J→(∀ y,own y→nb≤y∧y≤l)→(∀ y,y<nb→s.h.get y=H.get y)→nb≤l→l<s.n→w≤l→s.n+60 * (k0+cb)+rm+1000≤far→J [] s.h s.n→w≤s.m→s.m≤far →
  ∃ s',Abs.call P X Z (.fn g) (.yield l::cap) s=.val (.tup []) s'∧J T s'.h s'.n∧(∀ y,y<s.n→y≠l→¬ own y→s'.h.get y=s.h.get y)∧s.n≤s'.n∧s'.n≤s.n+60 * (k0+cb)∧w≤s'.m∧s'.m≤s.m∧μ T s'.m
def loopO (c:Ctx) (L:Env) (ps:List Tmp) (a b:Code) (s:St):ALoop:=⟨.ready,none,c.fn,L,ps,a,b,s.n,c.nt,c.xs⟩
theorem jump_norm:jumpOf .norm=none:=rfl
theorem goes_norm:goesOn .norm=true:=rfl
theorem hands_range {α:Type} {P:Program} {X:FuncId→List Nat} {M Z nb cb:Nat} {H:Heap} {g:FuncId} {cap:List AV} {ev:α→AV} {T:List α} (hh:Hands P X (M+1) Z nb cb H g cap ev T) {f:Arg} {ps:List Tmp} {a b:Code} {ka kb:K} {c:Ctx} {L:Env} {s:St} (hc:c.rnd=none) (hf:f.ev L=.func g [] cap) (hps:ps.length=1) (ha:codeK P c.xs c.nt a=some ka) (hb:codeK P c.xs c.nt b=some kb)
  (k0 w rm:Nat) (own:Nat→Prop) (μ:List α→Nat→Prop) (μm:∀ p m m',m'≤m→μ p m→μ p m') (μ0:∀ m,μ [] m) (I:List α→Heap→Nat→Prop) (hk0:k0≤1000000000) (hH:∀ y,y<nb→s.h.get y=H.get y) (hnb:nb≤s.n) (ho:∀ y,own y→nb≤y∧y<s.n) (hw:w≤s.n) (hwm:w≤s.m) (hm:s.m≤far) (hs:s.n+60 * (k0+cb)+rm+10000≤far)
  (hI0:I [] s.h s.n) (keep:∀ p h h' n n',(∀ y,y<s.n→h'.get y=h.get y)→n≤n'→I p h n→I p h' n')
  (round:∀ p x rest (t:St),p++x::rest=T→I p t.h t.n→(∀ y,y<s.n→¬ own y→t.h.get y=s.h.get y)→s.n+2≤t.n→t.n+rm≤far→w≤t.m→t.m≤far→μ p t.m→∃ L1 t1 L2 t2,ka (Abs.call P X M) ⟨c.fn,some (s.n+1),c.nt,c.xs⟩ (setParams L ps [ev x]) [] t=.done .norm L1 [] t1∧t1.h.get (s.n+1)=t.h.get (s.n+1)∧kb (Abs.call P X M) ⟨c.fn,some (s.n+1),c.nt,c.xs⟩ L1 [] (t1.put (s.n+1) (.loop { loopO c L ps a b s with state:=.busy }))=.done .norm L2 [] t2∧I (p++[x]) t2.h t2.n∧t2.h.get (s.n+1)=some (.loop { loopO c L ps a b s with state:=.busy })∧(∀ y,y<t.n→y≠s.n+1→¬ own y→t2.h.get y=t.h.get y)∧t.n≤t2.n∧t2.n≤t.n+k0∧w≤t2.m∧t2.m≤t.m∧μ (p++[x]) t2.m) :
  ∃ s',kRange f ps a b (Abs.call P X Z) c L [] s=.done .norm L [s.n] s'∧I T s'.h s'.n∧(∀ y,y<s.n→¬ own y→s'.h.get y=s.h.get y)∧s'.h.get s.n=some .dfr∧s.n+2≤s'.n∧s'.n≤s.n+2+60 * (k0+cb)∧w≤s'.m∧s'.m≤s.m∧μ T s'.m:=by
 have hff:far=1000000000:=rfl
 obtain ⟨S0,hS0⟩:∃ S0:St,S0=(s.new .dfr).new (.loop (loopO c L ps a b s)):=⟨_,rfl⟩
 have n0:S0.n=s.n+2:=by rw [hS0];rfl
 have m0:S0.m=s.m:=by rw [hS0];rfl
 have g0:∀ y,y<s.n→S0.h.get y=s.h.get y:=fun y hy=>by rw [hS0,get_new_ne _ _ _ (by rw [new_n];omega),get_new_ne _ _ _ (by omega)]
 have gd:S0.h.get s.n=some .dfr:=by rw [hS0,get_new_ne _ _ _ (by rw [new_n];omega)];exact get_new_eq _ _ _ rfl (by omega)
 have gl:S0.h.get (s.n+1)=some (.loop (loopO c L ps a b s)):=by rw [hS0];exact get_new_eq _ _ _ rfl (by rw [new_n];omega)
 obtain ⟨s2,e2,⟨j1,j2,j3,j4,j5⟩,k2,k3,k4,k5,k6,k7⟩:=hh (s.n+1) k0 w rm own μ (fun p h n=>h.get (s.n+1)=some (.loop (loopO c L ps a b s))∧I p h n∧(∀ y,y<s.n→¬ own y→h.get y=s.h.get y)∧h.get s.n=some .dfr∧s.n+1<n) S0
  ⟨μm,μ0,hk0,fun p h h' n n' hb hn ⟨j1,j2,j3,j4,j5⟩=>⟨(hb _ (Nat.le_refl _)).trans j1,keep p h h' n n' (fun y hy=>hb y (by omega)) hn j2,fun y hy ho'=>(hb y (by omega)).trans (j3 y hy ho'),(hb _ (by omega)).trans j4,by omega⟩,fun p x rest t ht ⟨j1,j2,j3,j4,j5⟩ hl hfar hwt hmt hμ=>by
   obtain ⟨L1,t1,L2,t2,r1,r2,r3,r4,r5,r6,r7,r8,r9,r10,r11⟩:=round p x rest t ht j2 j3 (by omega) (by omega) hwt hmt hμ
   have hcr:=call_round (P:=P) (X:=X) (n:=M) (l:=s.n+1) (args:=[ev x]) (r:=loopO c L ps a b s) (r1:=loopO c L ps a b s) j1 hps.symm ha hb r1 (r2.trans j1) rfl r3 r5
   rw [goes_norm,jump_norm] at hcr
   refine ⟨_,hcr,⟨get_put_eq _ _ _ _ rfl (by omega),keep _ _ _ _ _ (fun y hy=>get_put_ne' _ _ _ _ (by omega)) (Nat.le_refl _) r4,fun y hy ho'=>?_,?_,by rw [put_n];omega⟩,fun y hy hyl hyo=>?_,by rw [put_n];omega,by rw [put_n];omega,?_,?_,?_,?_⟩
   ·rw [get_put_ne' _ _ _ _ (by omega),r6 y (by omega) (by omega) ho'];exact j3 y hy ho'
   ·rw [get_put_ne' _ _ _ _ (by omega),r6 s.n (by omega) (by omega) (fun h=>by have:=ho _ h;omega)];exact j4
   ·rw [get_put_ne' _ _ _ _ hyl];exact r6 y hy hyl hyo
   ·simp only [St.put,minN_eq];omega
   ·simp only [St.put,minN_eq];omega
   ·simp only [St.put,minN_eq];omega
   ·exact μm _ _ _ (by simp only [St.put,minN_eq];omega) r11⟩
  (fun y hy=>by have:=ho y hy;omega) (fun y hy=>(g0 y (by omega)).trans (hH y hy)) (by omega) (by omega) (by omega) (by omega) ⟨gl,keep [] s.h S0.h s.n S0.n g0 (by omega) hI0,fun y hy _=>g0 y hy,gd,by omega⟩ (by omega) (by omega)
 have hr:=range_to_end (f:=f) (ps:=ps) (a:=a) (b:=b) (cl:=Abs.call P X Z) (c:=c) (L:=L) (s:=s) (s2:=s2) (v:=.tup []) (r:=loopO c L ps a b s) hc (by rw [hf,callV_func];rw [hS0] at e2;exact e2) j1 rfl rfl
 refine ⟨_,hr,keep _ _ _ _ _ (fun y hy=>get_put_ne' _ _ _ _ (by omega)) (Nat.le_refl _) j2,fun y hy ho'=>?_,?_,by rw [put_n];omega,by rw [put_n];omega,?_,?_,μm _ _ _ (by simp only [St.put,minN_eq];omega) k7⟩
 ·rw [get_put_ne' _ _ _ _ (by omega)];exact j3 y hy ho'
 ·rw [get_put_ne' _ _ _ _ (by omega)];exact j4
 ·simp only [St.put,minN_eq];omega
 ·simp only [St.put,minN_eq];omega
end Go.Abs
set_option maxRecDepth 10000
namespace Go.Proofs.Ytamlnddeiokbdaa.walk
open Go.Abs Go.Proofs.Ytamlnddeiokbdaa.code
theorem within_ok (N:Nat) (hN:1≤N) (x lo hi:Int) (s:St) (h0:lo≤x) (h1:x≤hi) (hs:s.n≤far):call Try.prog X N (.fn 56) [.int .i64 x,.int .i64 lo,.int .i64 hi] s=.val (.int .i64 0) s:=by
 obtain ⟨n,rfl⟩:∃ n,N=n+1:=⟨N - 1,by omega⟩
 refine call_plain (s':=⟨s.h,s.n,far⟩) Try.func56 ?_ rfl hs
 have e0:decide (x<lo)=false:=by simp;omega
 have e1:decide (hi<x)=false:=by simp;omega
 rw [enter56]
 simp only [res56,K56r0,K56r1s7,K56r1s6,K56r1s5,K56r1,K56r2,K56r3,K56,Abs.W,reduceIte,Nat.reduceEqDiff,Nat.reduceAdd,decide_true,decide_false,kLoop_def,Nat.reduceSub,List.cons_append,List.nil_append,List.append_nil,List.length_cons,List.length_nil,e0,e1]
theorem counted_ok (N:Nat) (hN:1≤N) (x lo hi:Int) (s:St) (h0:lo≤x) (h1:x≤hi) (hs:s.n≤far):call Try.prog X N (.fn 58) [.int .i64 x,.int .i64 lo,.int .i64 hi] s=.val (.int .i64 0) s:=by
 obtain ⟨n,rfl⟩:∃ n,N=n+1:=⟨N - 1,by omega⟩
 refine call_plain (s':=⟨s.h,s.n,far⟩) Try.func58 ?_ rfl hs
 have e0:decide (x<lo)=false:=by simp;omega
 have e1:decide (hi<x)=false:=by simp;omega
 rw [enter58]
 simp only [res58,K58r0,K58r1,K58r2,K58r3,K58r4,K58r5,K58,Abs.W,reduceIte,Nat.reduceEqDiff,Nat.reduceAdd,decide_true,decide_false,kLoop_def,Nat.reduceSub,List.cons_append,List.nil_append,List.append_nil,List.length_cons,List.length_nil,e0,e1]
theorem named_ok (N:Nat) (hN:1≤N) (x hi:Int) (s:St) (h0:0≤x) (h1:x<hi) (hs:s.n≤far):call Try.prog X N (.fn 43) [.int .i64 x,.int .i64 hi] s=.val (.int .i64 0) s:=by
 obtain ⟨n,rfl⟩:∃ n,N=n+1:=⟨N - 1,by omega⟩
 refine call_plain (s':=⟨s.h,s.n,far⟩) Try.func43 ?_ rfl hs
 have e0:decide (x<0)=false:=by simp;omega
 have e1:decide (hi≤x)=false:=by simp;omega
 rw [enter43]
 simp only [res43,K43r0,K43r1s6,K43r1s5,K43r1s4,K43r1,K43r2,K43r3,K43,Abs.W,reduceIte,Nat.reduceEqDiff,Nat.reduceAdd,decide_true,decide_false,kLoop_def,Nat.reduceSub,List.cons_append,List.nil_append,List.append_nil,List.length_cons,List.length_nil,e0,e1]
theorem or_loop (cl:CallF) (cx:Ctx) (k b o cap:Nat) (e:Bool) (c:List AV) (sz:Nat) (s:St) (hb:s.h.get b=some (.cells c sz)) (hc:∀ j,j<k→nth c (o+j)=.int .i64 0) (hk:k≤1000) :
  ∀ (m i fuel:Nat) (L:Env),i+m=k→m<fuel→L.find 6=.slice b o k cap e→L.find 7=.int .i64 k→L.find 8=.int .i64 i→L.find 3=.int .i64 0 →
  ∃ L',loopN K35l0 fuel cl cx L [] s=.done (.exit 0) L' [] s∧L'.find 3=.int .i64 0
 | m,i,0,L,hm,hf,h6,h7,h8,h3=>by omega
 | m,i,fuel+1,L,hm,hf,h6,h7,h8,h3=>by
  by_cases hlt:i<k
  ·obtain ⟨m',rfl⟩:∃ m',m=m'+1:=⟨m - 1,by omega⟩
   have e0:decide ((i:Int)<(k:Int))=true:=by simp;omega
   have e1:=hc i hlt
   have e2:decide ((0:Int)=0)=true:=rfl
   obtain ⟨L',hL,h3'⟩:=or_loop cl cx k b o cap e c sz s hb hc hk m' (i+1) fuel ((((L.set 9 (.bool true)).set 5 (.int .i64 0)).set 14 (.bool false)).set 8 (.int .i64 ((i:Int)+1))) (by omega) (by omega)
    (by simp only [Env.find_set,h6,reduceIte,Nat.reduceEqDiff]) (by simp only [Env.find_set,h7,reduceIte,Nat.reduceEqDiff]) (by simp only [Env.find_set,reduceIte];rfl) (by simp only [Env.find_set,h3,reduceIte,Nat.reduceEqDiff])
   refine ⟨L',?_,h3'⟩
   rw [← hL,loopN_succ]
   simp only [res35,K35r0,K35r1,K35r2,K35r3,K35r4,K35r5,K35r6,K35r7,K35l0,K35r8,K35,Abs.W,reduceIte,Nat.reduceEqDiff,Nat.reduceAdd,decide_true,decide_false,kLoop_def,Nat.reduceSub,List.cons_append,List.nil_append,List.append_nil,List.length_cons,List.length_nil,Env.find_set,h6,h7,h8,h3,e0,ixs_slice _ _ _ _ _ _ _ _ hlt,Nat.mul_one,hb,e1,e2,aAdd_i64 _ (i:Int) 1 (by omega)]
  ·have e0:decide ((i:Int)<(k:Int))=false:=by simp;omega
   refine ⟨L.set 9 (.bool false),?_,by simp only [Env.find_set,h3,reduceIte,Nat.reduceEqDiff]⟩
   rw [loopN_succ]
   simp only [res35,K35r0,K35r1,K35r2,K35r3,K35r4,K35r5,K35r6,K35r7,K35l0,K35r8,K35,Abs.W,reduceIte,Nat.reduceEqDiff,Nat.reduceAdd,decide_true,decide_false,kLoop_def,Nat.reduceSub,List.cons_append,List.nil_append,List.append_nil,List.length_cons,List.length_nil,Env.find_set,h6,h7,h8,h3,e0]
theorem or_ok (N:Nat) (hN:1≤N) (k b o cap:Nat) (e:Bool) (c:List AV) (sz:Nat) (s:St) (hb:s.h.get b=some (.cells c sz)) (hc:∀ j,j<k→nth c (o+j)=.int .i64 0) (hk:k≤1000) (hs:s.n≤far) :
  call Try.prog X N (.fn 35) [.slice b o k cap e] s=.val (.int .i64 0) s:=by
 obtain ⟨n,rfl⟩:∃ n,N=n+1:=⟨N - 1,by omega⟩
 refine call_plain' Try.func35 (fun u uh un um=>?_) rfl
 obtain ⟨L',hL,h3⟩:=or_loop (call Try.prog X n) ⟨35,none,Try.f35.ntmps,X 35⟩ k b o cap e c sz u (by rw [uh];exact hb) hc hk k 0 rounds
  (.cons 0 (.slice b o k cap e) (.cons 2 (.int .i64 0) (.cons 3 (.int .i64 0) (.cons 6 (.slice b o k cap e) (.cons 7 (.int .i64 k) (.cons 8 (.int .i64 0) .nil)))))) (by omega) (by unfold rounds;omega) rfl rfl rfl rfl
 rw [enter35]
 simp only [res35,K35r0,K35r1,K35r2,K35r3,K35r4,K35r5,K35r6,K35r7,K35r8,K35,Abs.W,reduceIte,Nat.reduceEqDiff,Nat.reduceAdd,decide_true,decide_false,kLoop_def,Nat.reduceSub,List.cons_append,List.nil_append,List.append_nil,List.length_cons,List.length_nil,hL,h3,Env.find_set]
 exact ⟨_,rfl,by rw [um,un];exact hs⟩
def allZ:List AV→Bool
 | []=>true
 | .int .i64 0::r=>allZ r
 | _=>false
theorem allZ_nth:∀ {c:List AV},allZ c=true→∀ j,j<c.length→nth c j=.int .i64 0
 | [],_,j,hj=>by simp at hj
 | a::r,h,j,hj=>by
  unfold allZ at h
  split at h
  ·rename_i heq;cases heq
  ·rename_i heq
   cases heq
   rw [nth_cons]
   cases j with
   | zero=>rfl
   | succ j=>rw [if_neg (by omega)];exact allZ_nth h j (by simpa using hj)
  ·cases h
theorem or_new (N:Nat) (hN:1≤N) (k:Nat) (c:List AV) (t:St) (hz:allZ c=true) (hl:c.length=k) (hk:k≤1000) (ht:t.n+1≤far) :
  call Try.prog X N (.fn 35) [.slice t.n 0 k k false] (t.new (.cells c 0))=.val (.int .i64 0) (t.new (.cells c 0)):=by
 obtain ⟨n,rfl⟩:∃ n,N=n+1:=⟨N - 1,by omega⟩
 have hf:far=1000000000:=rfl
 refine or_ok (n+1) (by omega) k t.n 0 k false c 0 _ (get_new_eq _ _ _ rfl (by omega)) (fun j hj=>?_) hk (by rw [new_n];omega)
 rw [Nat.zero_add]
 exact allZ_nth hz j (by omega)
theorem or_new2 (N:Nat) (hN:1≤N) (t:St) (ht:t.n+1≤far):call Try.prog X N (.fn 35) [.slice t.n 0 2 2 false] (t.new (.cells [.int .i64 0,.int .i64 0] 0))=.val (.int .i64 0) (t.new (.cells [.int .i64 0,.int .i64 0] 0)) :=
 or_new N hN 2 _ t rfl rfl (by omega) ht
theorem or_new3 (N:Nat) (hN:1≤N) (t:St) (ht:t.n+1≤far):call Try.prog X N (.fn 35) [.slice t.n 0 3 3 false] (t.new (.cells [.int .i64 0,.int .i64 0,.int .i64 0] 0))=.val (.int .i64 0) (t.new (.cells [.int .i64 0,.int .i64 0,.int .i64 0] 0)) :=
 or_new N hN 3 _ t rfl rfl (by omega) ht
theorem or_new4 (N:Nat) (hN:1≤N) (t:St) (ht:t.n+1≤far):call Try.prog X N (.fn 35) [.slice t.n 0 4 4 false] (t.new (.cells [.int .i64 0,.int .i64 0,.int .i64 0,.int .i64 0] 0))=.val (.int .i64 0) (t.new (.cells [.int .i64 0,.int .i64 0,.int .i64 0,.int .i64 0] 0)) :=
 or_new N hN 4 _ t rfl rfl (by omega) ht
theorem span_ok (N:Nat) (hN:2≤N) (x y lo hi:Int) (s:St) (h0:lo≤x) (h1:x≤y) (h2:y≤hi) (hs:s.n+100≤far) :
  call Try.prog X N (.fn 71) [.agg [.int .i64 x,.int .i64 y],.int .i64 lo,.int .i64 hi] s=.val (.int .i64 0) s:=by
 obtain ⟨n,rfl⟩:∃ n,N=n+2:=⟨N - 2,by omega⟩
 refine call_plain' Try.func71 (fun u uh un um=>?_) rfl
 have hf:far=1000000000:=rfl
 rw [enter71]
 have e0:decide (y<x)=false:=by simp;omega
 simp (disch:=first|omega|(with_unfolding_all exact rfl)|(simp only[new_n,put_n,new_m];omega)|(refine put_m_le ?_;simp only[new_m];omega)) only [res71,K71r0,K71r1,K71r2,K71r3,K71r4,K71r5,K71r6,K71,Abs.W,reduceIte,Nat.reduceEqDiff,Nat.reduceAdd,decide_true,decide_false,kLoop_def,Nat.reduceSub,List.cons_append,List.nil_append,List.append_nil,List.length_cons,List.length_nil,e0,within_ok,or_new2,um]
 exact ⟨_,rfl,by simp only [new_n,new_m];omega⟩
end Go.Proofs.Ytamlnddeiokbdaa.walk
set_option maxRecDepth 10000
namespace Go.Proofs.Ytamlnddeiokbdaa.walk
open Go.Abs Go.Proofs.Ytamlnddeiokbdaa.code
structure Sale where
 (st gd gl gh cl ch:Int)
def Sale.cells (s:Sale):List AV:=[.int .i64 s.st,.int .i64 s.gd,.int .i64 s.gl,.int .i64 s.gh,.int .i64 s.cl,.int .i64 s.ch]
structure Sale.Ok (k g:Nat) (s:Sale):Prop where
 s0:0≤s.st
 s1:s.st<k
 d0:0≤s.gd
 d1:s.gd<g
 g0:0≤s.gl
 g1:s.gl≤s.gh
 g2:s.gh≤5000
 c0:0≤s.cl
 c1:s.cl≤s.ch
 c2:s.ch≤2000
structure Book where
 (stalls goods:Nat)
 sales:List Sale
structure Book.Ok (b:Book):Prop where
 k0:1≤b.stalls
 k1:b.stalls≤8
 g0:1≤b.goods
 g1:b.goods≤8
 l:b.sales.length≤40
 ok:∀ s ∈ b.sales,s.Ok b.stalls b.goods
abbrev bookV (b:Book) (v:AV):List AV:=[.int .i64 b.stalls,.int .i64 b.goods,v]
theorem sales_ok (N:Nat) (hN:5≤N) (b:Book) (ok:b.Ok) (v:AV) (s:St) (hB:RowsAt s.h s.n 6 (b.sales.map Sale.cells) v) (hs:s.n+3000≤far) :
  call Try.prog X N (.fn 57) [.agg (bookV b v)] s=.val (.int .i64 0) s:=by
 obtain ⟨n,rfl⟩:∃ n,N=n+1:=⟨N - 1,by omega⟩
 refine call_plain' Try.func57 (fun u uh un um=>?_) rfl
 have hff:far=1000000000:=rfl
 rw [← uh,← un] at hB
 have k2:∀ t,okA (.val v t)=.val v t:=fun t=>okA_ne hB.ne
 have l2:=hB.len
 rw [List.length_map] at l2
 obtain ⟨w,hw⟩:∃ w:St,w=u.new (.cells (bookV b v) (tag 27)):=⟨_,rfl⟩
 have wn:w.n=u.n+1:=by rw [hw];rfl
 have wm:w.m=far:=by rw [hw];exact um
 have wg:∀ c,c<u.n→w.h.get c=u.h.get c:=fun c hc=>by rw [hw,get_new_ne _ _ _ (by omega)]
 have w0:w.h.get u.n=some (.cells (bookV b v) (tag 27)):=by rw [hw];exact get_new_eq _ _ _ rfl (by omega)
 have hR:=hB.grow wg (by omega:u.n≤w.n)
 have z0:decide ((0:Int)=0)=true:=rfl
 have c1:=ok.l
 unfold bookV at w0 hw ⊢
 rw [enter57]
 simp (disch:=first|omega|(with_unfolding_all exact rfl)|(simp only[new_n,put_n,new_m];omega)|(refine put_m_le ?_;simp only[new_m];omega)) only [res57,K57,K57r0,Abs.W,reduceIte,Nat.reduceEqDiff,Nat.reduceAdd,decide_true,decide_false,kLoop_def,Nat.reduceSub,List.cons_append,List.nil_append,List.append_nil,List.length_cons,List.length_nil]
 rw [← hw]
 simp (disch:=first|omega|(with_unfolding_all exact rfl)|(simp only[new_n,put_n,new_m];omega)|(refine put_m_le ?_;simp only[new_m];omega)) only [K57r1,K57r2,K57r4,Abs.W,reduceIte,Nat.reduceEqDiff,Nat.reduceAdd,decide_true,decide_false,kLoop_def,Nat.reduceSub,List.cons_append,List.nil_append,List.append_nil,List.length_cons,List.length_nil,Env.find_set,w0,k2,l2,z0,counted_ok,Nat.zero_add]
 generalize hl1:loopN _ rounds _ _ _ _ _=q1
 obtain ⟨e,L1,s1,rfl,rfl,hE⟩:=loop_of hl1
  (fun i L' t=>L'.find 1=.ptr u.n 0∧L'.find 15=v∧L'.find 16=.int .i64 b.sales.length∧L'.find 17=.int .i64 i∧Beside w t (10 * i))
  (fun e L1 s1=>e=.exit 0∧Beside w s1 (10 * b.sales.length))
  b.sales.length (by unfold rounds;omega) ⟨by simp only [find_cons,Env.find_set,reduceIte,Nat.reduceEqDiff],by simp only [find_cons,Env.find_set,reduceIte,Nat.reduceEqDiff],by simp only [find_cons,Env.find_set,reduceIte,Nat.reduceEqDiff],by simp only [find_cons,Env.find_set,reduceIte,Nat.reduceEqDiff];rfl,Beside.refl w (by omega) wm⟩
  (fun i L' t hi ⟨q1,q15,q16,q17,hE⟩=>by
   have tn:=hE.n
   have tl:=hE.le
   have tm:=hE.m
   have tf:=hE.far
   by_cases hlt:i<b.sales.length
   ·have e0:decide ((i:Int)<(b.sales.length:Int))=true:=decide_eq_true (by omega)
    obtain ⟨p,o,cs,sz,r1,r2,r3,r4⟩:=(hR.grow hE.same tn).at_ i (by simpa using hlt)
    rw [List.getElem_map] at r4
    obtain ⟨s0,s1,d0,d1,g0,g1,g2,c0,c1,c2⟩:=ok.ok _ (List.getElem_mem hlt)
    generalize b.sales[i]=M at *
    unfold Sale.cells at r4
    have gg:=(hE.same u.n (by omega)).trans w0
    have ad:∀ s,aAdd s .i64 (i:Int) 1=.val (.int .i64 ((i:Int)+1)) s:=fun s=>aAdd_i64 s _ _ (by omega)
    refine .inl ⟨hlt,_,_,by
     simp (disch:=first|omega|(with_unfolding_all exact rfl)|(simp only[new_n,put_n,new_m];omega)|(refine put_m_le ?_;simp only[new_m];omega)) only [res57,K57r0,K57r1,K57r2,K57r3,K57r4,K57r5,K57r6,K57r7,K57r8,K57r9,K57r10,K57l0,K57r11,K57,Abs.W,reduceIte,Nat.reduceEqDiff,Nat.reduceAdd,decide_true,decide_false,kLoop_def,Nat.reduceSub,List.cons_append,List.nil_append,List.append_nil,List.length_cons,List.length_nil,Env.find_set,q1,q15,q16,q17,e0,r2,r3,r4,gg,named_ok,span_ok,or_new4,z0,ad,endO_nil,regD_ok,Nat.zero_add]
     rfl,?_,?_,?_,?_,(((hE.new _).put _ tn).new _).mono (by omega)⟩
    ·simp only [Env.find_set,q1,reduceIte,Nat.reduceEqDiff]
    ·simp only [Env.find_set,q15,reduceIte,Nat.reduceEqDiff]
    ·simp only [Env.find_set,q16,reduceIte,Nat.reduceEqDiff]
    ·simp only [Env.find_set,reduceIte,Nat.reduceEqDiff];rfl
   ·obtain rfl:i=b.sales.length:=by omega
    have e0:decide ((b.sales.length:Int)<(b.sales.length:Int))=false:=by simp
    refine .inr ⟨.exit 0,L'.set 18 (.bool false),t,by simp,?_,rfl,hE⟩
    simp (disch:=first|omega|(with_unfolding_all exact rfl)|(simp only[new_n,put_n,new_m];omega)|(refine put_m_le ?_;simp only[new_m];omega)) only [K57l0,K57r5,Abs.W,reduceIte,Nat.reduceEqDiff,Nat.reduceAdd,decide_true,decide_false,kLoop_def,Nat.reduceSub,List.cons_append,List.nil_append,List.append_nil,List.length_cons,List.length_nil,Env.find_set,q16,q17,e0])
 simp (disch:=first|omega|(with_unfolding_all exact rfl)|(simp only[new_n,put_n,new_m];omega)|(refine put_m_le ?_;simp only[new_m];omega)) only [K57r11,res57,Abs.W,reduceIte,Nat.reduceEqDiff,Nat.reduceAdd,decide_true,decide_false,kLoop_def,Nat.reduceSub,List.cons_append,List.nil_append,List.append_nil,List.length_cons,List.length_nil,Env.find_set]
 refine ⟨s1,rfl,?_⟩
 have:=hE.m
 omega
theorem check_ok (N:Nat) (hN:6≤N) (b:Book) (ok:b.Ok) (v:AV) (s:St) (hB:RowsAt s.h s.n 6 (b.sales.map Sale.cells) v) (hs:s.n+4000≤far) :
  call Try.prog X N (.fn 36) [.agg (bookV b v)] s=.val (.int .i64 0) s:=by
 obtain ⟨n,rfl⟩:∃ n,N=n+1:=⟨N - 1,by omega⟩
 refine call_plain' Try.func36 (fun u uh un um=>?_) rfl
 have hff:far=1000000000:=rfl
 rw [← uh,← un] at hB
 obtain ⟨k0,k1,g0,g1,l,o⟩:=ok
 have ok:b.Ok:=⟨k0,k1,g0,g1,l,o⟩
 have scB:scalars (bookV b v)=true:=by
  have hv:v.scalar=true:=by
   have h:=hB.len u
   cases v<;>first | rfl | cases h
  show (match (true:Bool) with | true=>scalars [.int .i64 b.goods,v] | false=>false)=true
  show scalars [v]=true
  unfold scalars
  rw [hv]
  rfl
 obtain ⟨w,hw⟩:∃ w:St,w=u.new (.cells (bookV b v) (tag 27)):=⟨_,rfl⟩
 have wn:w.n=u.n+1:=by rw [hw];rfl
 have wm:w.m=far:=by rw [hw];exact um
 have wg:∀ c,c<u.n→w.h.get c=u.h.get c:=fun c hc=>by rw [hw,get_new_ne _ _ _ (by omega)]
 have w0:w.h.get u.n=some (.cells (bookV b v) (tag 27)):=by rw [hw];exact get_new_eq _ _ _ rfl (by omega)
 have hR:=hB.grow wg (by omega:u.n≤w.n)
 have cs:=fun t:St=>sales_ok n (by omega) b ok v
 have kv:∀ t,okA (.val v t)=.val v t:=fun t=>okA_ne hB.ne
 unfold bookV at w0 hw
 rw [enter36]
 simp (disch:=first|omega|(with_unfolding_all exact rfl)|(simp only[new_n,put_n,new_m];omega)|(refine put_m_le ?_;simp only[new_m];omega)) only [res36,K36,K36r0,Abs.W,reduceIte,Nat.reduceEqDiff,Nat.reduceAdd,decide_true,decide_false,kLoop_def,Nat.reduceSub,List.cons_append,List.nil_append,List.append_nil,List.length_cons,List.length_nil,scB]
 rw [← hw]
 have hc:=sales_ok n (by omega) b ok v w hR (by omega)
 simp (disch:=first|omega|(with_unfolding_all exact rfl)|(simp only[new_n,put_n,new_m];omega)|(refine put_m_le ?_;simp only[new_m];omega)) only [K36r1,Abs.W,reduceIte,Nat.reduceEqDiff,Nat.reduceAdd,decide_true,decide_false,kLoop_def,Nat.reduceSub,List.cons_append,List.nil_append,List.append_nil,List.length_cons,List.length_nil,Env.find_set,w0,kv,within_ok,hc,or_new3,endO_nil,regD_ok,Nat.zero_add]
 exact ⟨_,rfl,by simp only [new_m];omega⟩
end Go.Proofs.Ytamlnddeiokbdaa.walk
namespace Go.Abs
end Go.Abs
