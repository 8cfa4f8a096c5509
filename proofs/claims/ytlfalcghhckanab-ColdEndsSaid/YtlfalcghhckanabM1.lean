/- What the walks share: temporaries that are known, loops with an invariant, calls that make blocks or turn one. -/
import Derived.Test.YtlfalcghhckanabAbsWalk
import Derived.Test.YtlfalcghhckanabCodes
import Derived.Test.YtlfalcghhckanabWalkAll
set_option linter.unusedSimpArgs false
set_option maxHeartbeats 16000000
namespace Go.Abs
variable {P:Program}
def At (L:Env):List (Nat × AV)→Prop
 | []=>True
 | (t,v)::r=>L.find t=v∧At L r
theorem loop_inv {body:K} {cl:CallF} {cx:Ctx} (I:Nat→Env→St→Prop) (Q:Ex→Env→St→Prop) (k:Nat)
  (step:∀ i L s,i≤k→I i L s→(i<k∧∃ L1 s1,body cl cx L [] s=.done .norm L1 [] s1∧I (i+1) L1 s1)∨(∃ e L1 s1,e≠.norm∧body cl cx L [] s=.done e L1 [] s1∧Q e L1 s1)) :
  ∀ (m i fuel:Nat) (L:Env) (s:St),i+m=k→m<fuel→I i L s→∃ e L1 s1,loopN body fuel cl cx L [] s=.done e L1 [] s1∧Q e L1 s1
 | m,i,0,_,_,_,hf,_=>by omega
 | m,i,fuel+1,L,s,hm,hf,hI=>by
  rcases step i L s (by omega) hI with ⟨hi,L1,s1,h1,h2⟩ | ⟨e,L1,s1,he,h1,h2⟩
  ·obtain ⟨m',rfl⟩:∃ m',m=m'+1:=⟨m - 1,by omega⟩
   obtain ⟨e,L2,s2,h3,h4⟩:=loop_inv I Q k step m' (i+1) fuel L1 s1 (by omega) (by omega) h2
   exact ⟨e,L2,s2,by rw [loopN_succ,h1,thenK_norm,h3],h4⟩
  ·refine ⟨e,L1,s1,?_,h2⟩
   rw [loopN_succ,h1]
   cases e with
   | norm=>exact absurd rfl he
   | exit id=>rfl
   | ret=>rfl
theorem loop_of {body:K} {cl:CallF} {cx:Ctx} {L:Env} {s:St} {r:R} (hr:loopN body rounds cl cx L [] s=r) (I:Nat→Env→St→Prop) (Q:Ex→Env→St→Prop) (k:Nat) (hk:k<rounds) (h0:I 0 L s)
  (step:∀ i L s,i≤k→I i L s→(i<k∧∃ L1 s1,body cl cx L [] s=.done .norm L1 [] s1∧I (i+1) L1 s1)∨(∃ e L1 s1,e≠.norm∧body cl cx L [] s=.done e L1 [] s1∧Q e L1 s1)) :
  ∃ e L1 s1,r=.done e L1 [] s1∧Q e L1 s1:=by
 obtain ⟨e,L1,s1,h1,h2⟩:=loop_inv I Q k step k 0 rounds L s (by omega) hk h0
 exact ⟨e,L1,s1,hr.symm.trans h1,h2⟩
theorem loop_from {body:K} {cl:CallF} {cx:Ctx} {L:Env} {s:St} {r:R} (hr:loopN body rounds cl cx L [] s=r) (I:Nat→Env→St→Prop) (Q:Ex→Env→St→Prop) (k i:Nat) (hi:i≤k) (hk:k<rounds) (h0:I i L s)
  (step:∀ i L s,i≤k→I i L s→(i<k∧∃ L1 s1,body cl cx L [] s=.done .norm L1 [] s1∧I (i+1) L1 s1)∨(∃ e L1 s1,e≠.norm∧body cl cx L [] s=.done e L1 [] s1∧Q e L1 s1)) :
  ∃ e L1 s1,r=.done e L1 [] s1∧Q e L1 s1:=by
 obtain ⟨e,L1,s1,h1,h2⟩:=loop_inv I Q k step (k - i) i rounds L s (by omega) (by omega) h0
 exact ⟨e,L1,s1,hr.symm.trans h1,h2⟩
theorem minN_min (a b:Nat):minN a b=min a b:=by
 unfold minN
 cases h:Nat.ble a b
 ·have:¬ a≤b:=fun h'=>by rw [Nat.ble_eq_true_of_le h'] at h;cases h
  show b=_;omega
 ·have:=Nat.le_of_ble_eq_true h
  show a=_;omega
structure Stir (d:Nat) (u s:St) (k:Nat):Prop where
 same:∀ b,b<u.n→b≠d→s.h.get b=u.h.get b
 n:u.n≤s.n
 le:s.n≤u.n+k
 m:d≤u.m→d≤s.m
 mle:s.m≤u.m
theorem Stir.refl (d:Nat) (u:St):Stir d u u 0:=⟨fun _ _ _=>rfl,Nat.le_refl _,Nat.le_refl _,fun h=>h,Nat.le_refl _⟩
theorem Stir.new {d:Nat} {u s:St} {k:Nat} (h:Stir d u s k) (o:AObj):Stir d u (s.new o) (k+1) :=
 ⟨fun b hb hd=>by rw [get_new_ne _ _ _ (by have:=h.n;omega)];exact h.same b hb hd,Nat.le_trans h.n (Nat.le_succ _),by have:=h.le;show s.n+1≤_;omega,h.m,h.mle⟩
theorem Stir.put {d:Nat} {u s:St} {k b:Nat} (h:Stir d u s k) (hd:d<u.n) (o:AObj) (hb:b=d∨u.n≤b):Stir d u (s.put b o) k :=
 ⟨fun c hc hcd=>by rw [get_put_ne' _ _ _ _ (by omega)];exact h.same c hc hcd,h.n,h.le,fun hm=>by
  show d≤minN s.m b
  rw [minN_min]
  have:=h.m hm
  omega,Nat.le_trans (minN_le_left _ _) h.mle⟩
theorem Stir.trans {d:Nat} {u s t:St} {j k:Nat} (a:Stir d u s j) (b:Stir d s t k):Stir d u t (j+k) :=
 ⟨fun c hc hd=>(b.same c (by have:=a.n;omega) hd).trans (a.same c hc hd),Nat.le_trans a.n b.n,by have:=a.le;have:=b.le;omega,fun h=>b.m (a.m h),Nat.le_trans b.mle a.mle⟩
theorem Stir.mono {d:Nat} {u s:St} {j k:Nat} (a:Stir d u s j) (h:j≤k):Stir d u s k:=⟨a.same,a.n,by have:=a.le;omega,a.m,a.mle⟩
theorem Stir.draw {d:Nat} {s t:St} {k:Nat} (a:Stir d ⟨s.h,s.n,far⟩ t k) (hd:d≤far):Stir d s ⟨t.h,t.n,minN s.m t.m⟩ k :=
 ⟨a.same,a.n,a.le,fun h=>by
  show d≤minN s.m t.m
  rw [minN_min]
  have:d≤t.m:=a.m hd
  omega,minN_le_left _ _⟩
structure New (s t:St) (k:Nat):Prop where
 same:∀ b,b<s.n→t.h.get b=s.h.get b
 n:s.n≤t.n
 le:t.n≤s.n+k
 m:t.m=s.m
theorem New.refl (s:St):New s s 0:=⟨fun _ _=>rfl,Nat.le_refl _,Nat.le_refl _,rfl⟩
theorem New.draw {s t:St} {k:Nat} (a:New ⟨s.h,s.n,far⟩ t k) (h:s.m≤far):New s ⟨t.h,t.n,minN s.m t.m⟩ k :=
 ⟨a.same,a.n,a.le,by
  show minN s.m t.m=s.m
  have:t.m=far:=a.m
  rw [minN_min];omega⟩
theorem Stir.after {d:Nat} {u s t:St} {j k:Nat} (a:Stir d u s j) (b:New s t k):Stir d u t (j+k) :=
 ⟨fun c hc hd=>(b.same c (by have:=a.n;omega)).trans (a.same c hc hd),Nat.le_trans a.n b.n,by have:=a.le;have:=b.le;omega,fun h=>by rw [b.m];exact a.m h,by rw [b.m];exact a.mle⟩
theorem Beside.after {u s t:St} {j k:Nat} (a:Beside u s j) (b:New s t k):Beside u t (j+k) :=
 ⟨fun c hc=>(b.same c (by have:=a.n;omega)).trans (a.same c hc),Nat.le_trans a.n b.n,by have:=a.le;have:=b.le;omega,by rw [b.m];exact a.m,by rw [b.m];exact a.far⟩
theorem call_stir_plain {X:FuncId→List Nat} {n:Nat} {f:FuncId} {args:List AV} {s:St} {fn:Func} {d k:Nat} {Q:AV→Prop} {R:Heap→Prop} (hf:P.funcs[f]? = some fn) (h0:R s.h)
  (h:∀ u:St,u.h=s.h→u.n=s.n→u.m=far→∃ v s',enterA P X (call P X n) f args u fn=.val v s'∧Stir d u s' k∧plain v=true∧Q v∧R s'.h) (hd:d≤far) :
  ∃ v t,call P X (n+1) (.fn f) args s=.val v t∧Stir d s t k∧Q v∧R t.h:=by
 obtain ⟨v,s',h1,h2,h3,h4,h5⟩:=h ⟨s.h,s.n,far⟩ rfl rfl rfl
 cases hb:Nat.ble s.n s'.m with
 | true =>
  refine ⟨v,s,?_,(Stir.refl d s).mono (Nat.zero_le _),h4,h0⟩
  show callStep P X (call P X n) (.fn f) args s=_
  unfold callStep
  simp only [hf,h1]
  unfold Abs.settle
  simp only [hb,h3]
  rfl
 | false =>
  refine ⟨v,⟨s'.h,s'.n,minN s.m s'.m⟩,?_,Stir.draw (s:=s) h2 hd,h4,h5⟩
  show callStep P X (call P X n) (.fn f) args s=_
  unfold callStep
  simp only [hf,h1]
  unfold Abs.settle
  simp only [hb]
  rfl
theorem call_stir {X:FuncId→List Nat} {n:Nat} {f:FuncId} {args:List AV} {s:St} {fn:Func} {d k:Nat} {Q:AV→Heap→Nat→Prop} (hf:P.funcs[f]? = some fn) (hk:keepAll=true)
  (h:∀ u:St,u.h=s.h→u.n=s.n→u.m=far→∃ v s',enterA P X (call P X n) f args u fn=.val v s'∧Stir d u s' k∧plain v=false∧Q v s'.h s'.n) (hd:d≤far) :
  ∃ v t,call P X (n+1) (.fn f) args s=.val v t∧Stir d s t k∧Q v t.h t.n:=by
 obtain ⟨v,s',h1,h2,h3,h4⟩:=h ⟨s.h,s.n,far⟩ rfl rfl rfl
 cases hb:Nat.ble s.n s'.m with
 | true =>
  refine ⟨v,⟨s'.h,s'.n,s.m⟩,?_,⟨h2.same,h2.n,h2.le,fun h=>h,Nat.le_refl _⟩,h4⟩
  show callStep P X (call P X n) (.fn f) args s=_
  unfold callStep
  simp only [hf,h1]
  unfold Abs.settle
  simp only [hb,h3,hk]
  rfl
 | false =>
  refine ⟨v,⟨s'.h,s'.n,minN s.m s'.m⟩,?_,Stir.draw (s:=s) h2 hd,h4⟩
  show callStep P X (call P X n) (.fn f) args s=_
  unfold callStep
  simp only [hf,h1]
  unfold Abs.settle
  simp only [hb]
  rfl
theorem call_new {X:FuncId→List Nat} {n:Nat} {f:FuncId} {args:List AV} {s:St} {fn:Func} {k:Nat} {Q:AV→Heap→Nat→Prop} (hf:P.funcs[f]? = some fn) (hk:keepAll=true)
  (h:∀ u:St,u.h=s.h→u.n=s.n→u.m=far→∃ v s',enterA P X (call P X n) f args u fn=.val v s'∧Beside u s' k∧plain v=false∧Q v s'.h s'.n) :
  ∃ v t,call P X (n+1) (.fn f) args s=.val v t∧New s t k∧Q v t.h t.n:=by
 obtain ⟨v,s',h1,h2,h3,h4⟩:=h ⟨s.h,s.n,far⟩ rfl rfl rfl
 have hb:Nat.ble s.n s'.m=true:=Nat.ble_eq_true_of_le h2.m
 refine ⟨v,⟨s'.h,s'.n,s.m⟩,?_,⟨h2.same,h2.n,h2.le,rfl⟩,h4⟩
 show callStep P X (call P X n) (.fn f) args s=_
 unfold callStep
 simp only [hf,h1]
 unfold Abs.settle
 simp only [hb,h3,hk]
 rfl
theorem call_new' {X:FuncId→List Nat} {n:Nat} {f:FuncId} {args:List AV} {s:St} {fn:Func} {k:Nat} {Q:AV→Heap→Nat→Prop} (hf:P.funcs[f]? = some fn) (hk:keepAll=true)
  (h:∀ u:St,u.h=s.h→u.n=s.n→u.m=far→∃ v s',enterA P X (call P X n) f args u fn=.val v s'∧Beside u s' k∧Q v s'.h s'.n∧(plain v=true→Q v s.h s.n)) :
  ∃ v t,call P X (n+1) (.fn f) args s=.val v t∧New s t k∧Q v t.h t.n:=by
 obtain ⟨v,s',h1,h2,h3,h4⟩:=h ⟨s.h,s.n,far⟩ rfl rfl rfl
 have hb:Nat.ble s.n s'.m=true:=Nat.ble_eq_true_of_le h2.m
 cases hp:plain v with
 | true =>
  refine ⟨v,s,?_,⟨fun _ _=>rfl,Nat.le_refl _,Nat.le_add_right _ _,rfl⟩,h4 hp⟩
  show callStep P X (call P X n) (.fn f) args s=_
  unfold callStep
  simp only [hf,h1]
  unfold Abs.settle
  simp only [hb,hp]
  rfl
 | false =>
  refine ⟨v,⟨s'.h,s'.n,s.m⟩,?_,⟨h2.same,h2.n,h2.le,rfl⟩,h3⟩
  show callStep P X (call P X n) (.fn f) args s=_
  unfold callStep
  simp only [hf,h1]
  unfold Abs.settle
  simp only [hb,hp,hk]
  rfl
theorem call_any {X:FuncId→List Nat} {n:Nat} {f:FuncId} {args:List AV} {s:St} {fn:Func} {Q:AV→Heap→Nat→Nat→Prop} (hf:P.funcs[f]? = some fn) (hk:keepAll=true)
  (h:∀ u:St,u.h=s.h→u.n=s.n→u.m=far→∃ v s',enterA P X (call P X n) f args u fn=.val v s'∧Q v s'.h s'.n s'.m∧(plain v=true→s.n≤s'.m→Q v s.h s.n s'.m)) :
  ∃ v t m,call P X (n+1) (.fn f) args s=.val v t∧Q v t.h t.n m∧((s.n≤m∧t.m=s.m)∨(m<s.n∧t.m=min s.m m)):=by
 obtain ⟨v,s',h1,h2,h3⟩:=h ⟨s.h,s.n,far⟩ rfl rfl rfl
 cases hb:Nat.ble s.n s'.m with
 | true =>
  have hle:=Nat.le_of_ble_eq_true hb
  cases hp:plain v with
  | true =>
   refine ⟨v,s,s'.m,?_,h3 hp hle,.inl ⟨hle,rfl⟩⟩
   show callStep P X (call P X n) (.fn f) args s=_
   unfold callStep
   simp only [hf,h1]
   unfold Abs.settle
   simp only [hb,hp]
   rfl
  | false =>
   refine ⟨v,⟨s'.h,s'.n,s.m⟩,s'.m,?_,h2,.inl ⟨hle,rfl⟩⟩
   show callStep P X (call P X n) (.fn f) args s=_
   unfold callStep
   simp only [hf,h1]
   unfold Abs.settle
   simp only [hb,hp,hk]
   rfl
 | false =>
  have hlt:s'.m<s.n:=by
   rcases Nat.lt_or_ge s'.m s.n with h | h
   ·exact h
   ·rw [Nat.ble_eq_true_of_le h] at hb;cases hb
  refine ⟨v,⟨s'.h,s'.n,minN s.m s'.m⟩,s'.m,?_,h2,.inr ⟨hlt,minN_min _ _⟩⟩
  show callStep P X (call P X n) (.fn f) args s=_
  unfold callStep
  simp only [hf,h1]
  unfold Abs.settle
  simp only [hb]
  rfl
/-! ### Ends of what may be -/
theorem ixa2_0 (s:St) (b o:Nat):ixaA 2 1 s (.ptr b o) (.int .i64 0)=.val (.ptr b o) s:=Eq.trans (Eq.refl _) (Eq.refl _)
theorem ixa2_1 (s:St) (b o:Nat):ixaA 2 1 s (.ptr b o) (.int .i64 1)=.val (.ptr b (o+1)) s:=Eq.trans (Eq.refl _) (Eq.refl _)
theorem kFold_def (f:AV→AV→AV) (x:Arg) (r:List Arg) (L:Env) (s:St):kFold f x r L s=okA (.val (foldA f (x.ev L) (evs r L)) s):=Eq.trans (Eq.refl _) (Eq.refl _)
theorem foldA_nil (f:AV→AV→AV) (x:AV):foldA f x []=x:=Eq.trans (Eq.refl _) (Eq.refl _)
theorem foldA_cons (f:AV→AV→AV) (x y:AV) (r:List AV):foldA f x (y::r)=foldA f (f x y) r:=Eq.trans (Eq.refl _) (Eq.refl _)
theorem minN_eq (a b:Nat):minN a b=min a b:=minN_min a b
theorem maxA_i64 (x y:Int):maxA (.int .i64 x) (.int .i64 y)=.int .i64 (max x y):=by
 show AV.int .i64 (match leI y x with | true=>x | false=>y)=_
 rw [leI_eq]
 by_cases h:y≤x
 ·rw [decide_eq_true h,Int.max_eq_left h]
 ·rw [decide_eq_false h,Int.max_eq_right (by omega)]
theorem minA_i64 (x y:Int):minA (.int .i64 x) (.int .i64 y)=.int .i64 (min x y):=by
 show AV.int .i64 (match leI x y with | true=>x | false=>y)=_
 rw [leI_eq]
 by_cases h:x≤y
 ·rw [decide_eq_true h,Int.min_eq_left h]
 ·rw [decide_eq_false h,Int.min_eq_right (by omega)]
/-! ### Numbers -/
theorem kShr_def (x y:Arg) (L:Env) (s:St):kShr x y L s=shrA s (x.ev L) (y.ev L):=Eq.trans (Eq.refl _) (Eq.refl _)
def shrI (a b:Int):Int:=a.fdiv (2 ^ (min b.toNat 64))
theorem shrA_u64 (s:St) (a:Int) (k:IntKind) (b:Int) (hb:0≤b):shrA s (.int .u64 a) (.int k b)=.val (.int .u64 (shrI a b)) s:=by
 cases b with
 | ofNat b=>rfl
 | negSucc b=>omega
theorem shrI_nonneg (a b:Int) (h:0≤a):0≤shrI a b:=Int.fdiv_nonneg h (Int.pow_nonneg (by decide))
theorem cviA_int (k k':IntKind) (s:St) (n:Int):cviA k s (.int k' n)=.val (.int k (wrapA k n)) s:=Eq.trans (Eq.refl _) (Eq.refl _)
theorem wrap_u64 (n:Int) (h:0≤n∧n≤18446744073709551615):wrapA .u64 n=n:=by rw [wrapA_eq];exact IntWalk.u64_in n h
theorem wrap_u64_range (n:Int):0≤IntKind.u64.wrap n∧IntKind.u64.wrap n≤18446744073709551615:=by
 simp [IntKind.wrap,IntKind.bits,IntKind.signed];omega
theorem aMul_def (s:St) (k:IntKind) (a b:Int):aMul s k a b=.val (.int k (wrapA k (Int.mul a b))) s:=Eq.trans (Eq.refl _) (Eq.refl _)
theorem aAdd_def (s:St) (k:IntKind) (a b:Int):aAdd s k a b=.val (.int k (wrapA k (Int.add a b))) s:=Eq.trans (Eq.refl _) (Eq.refl _)
def xorI (k:IntKind) (a b:Int):Int:=k.wrap (BitVec.ofInt k.bits a ^^^ BitVec.ofInt k.bits b).toNat
theorem xorI_range (a b:Int):0≤xorI .u64 a b∧xorI .u64 a b≤18446744073709551615:=wrap_u64_range _
theorem aXor_def (s:St) (k:IntKind) (a b:Int):aXor s k a b=.val (.int k (xorI k a b)) s:=Eq.trans (Eq.refl _) (Eq.refl _)
theorem aRem_ne (s:St) (k:IntKind) (a b:Int) (h:b≠0):aRem s k a b=.val (.int k (a.tmod b)) s:=by unfold aRem;rw [if_neg h]
end Go.Abs
namespace Go.Abs
variable {P:Program}
structure Rows (h:Heap) (lo n w tg:Nat) (rows:List (List AV)) (v:AV):Prop where
 wide:∀ r ∈ rows,r.length=w
 is:(rows=[]∧v=.nilslice)∨(∃ b,lo≤b∧b<n∧v=.slice b 0 rows.length rows.length true∧h.get b=some (.cells rows.flatten (w+tg)))
theorem Rows.nil (h:Heap) (lo n w tg:Nat):Rows h lo n w tg [] .nilslice:=⟨fun r hr=>by (cases hr),.inl ⟨rfl,rfl⟩⟩
theorem Rows.mono {h h':Heap} {lo n n' w tg:Nat} {rows:List (List AV)} {v:AV} (r:Rows h lo n w tg rows v) (hh:∀ b,lo≤b→b<n→h'.get b=h.get b) (hn:n≤n'):Rows h' lo n' w tg rows v :=
 ⟨r.wide,r.is.imp id fun ⟨b,h0,h1,h2,h3⟩=>⟨b,h0,by omega,h2,by rw [hh b h0 h1];exact h3⟩⟩
theorem flatten_cut:∀ {rows:List (List AV)} {w i:Nat},(∀ r ∈ rows,r.length=w)→(hi:i<rows.length)→cut (i * w) w rows.flatten=some rows[i]
 | [],w,i,_,hi=>by simp at hi
 | r::rs,w,i,hw,hi=>by
  have hr:r.length=w:=hw r (List.mem_cons_self ..)
  have cut1_app:∀ (r l:List AV),cut1 r.length (r++l)=some r:=by
   intro r l
   induction r with
   | nil=>exact cut1_zero l
   | cons a r ih=>rw [List.length_cons,List.cons_append,cut1_cons,ih];rfl
  have cut_0:∀ (k:Nat) (l:List AV),cut 0 k l=cut1 k l:=by
   intro k l
   cases l with
   | nil=>rfl
   | cons a l=>rfl
  cases i with
  | zero =>
   rw [Nat.zero_mul,List.flatten_cons,cut_0,← hr,cut1_app]
   rfl
  | succ i =>
   have ih:=flatten_cut (rows:=rs) (w:=w) (i:=i) (fun x hx=>hw x (List.mem_cons_of_mem _ hx)) (by simpa using hi)
   have drop:∀ (r l:List AV) (o k:Nat),cut (o+r.length) k (r++l)=cut o k l:=by
    intro r l o k
    induction r with
    | nil=>rfl
    | cons a r ih=>rw [List.length_cons,List.cons_append,← Nat.add_assoc,cut_cons,if_neg (by omega)];exact ih
   rw [List.flatten_cons,show (i+1) * w=i * w+r.length by rw [Nat.succ_mul,hr],drop,ih]
   rfl
theorem Rows.at_ {h:Heap} {lo n w tg:Nat} {rows:List (List AV)} {v:AV} (r:Rows h lo n w tg rows v):RowsAt h n w rows v:=by
 refine ⟨fun s=>?_,fun i hi=>?_⟩
 ·rcases r.is with ⟨h1,h2⟩ | ⟨b,_,_,h2,_⟩
  ·subst h1;subst h2;rfl
  ·subst h2;rfl
 ·rcases r.is with ⟨h1,_⟩ | ⟨b,_,hb,h2,h3⟩
  ·subst h1;simp at hi
  ·subst h2
   exact ⟨b,i * w,rows.flatten,w+tg,hb,fun s=>by rw [ixs_slice _ _ _ _ _ _ _ _ hi,Nat.zero_add],h3,flatten_cut r.wide hi⟩
theorem Rows.len {h:Heap} {lo n w tg:Nat} {rows:List (List AV)} {v:AV} (r:Rows h lo n w tg rows v) (s:St):lenSlA s v=.val (.int .i64 rows.length) s:=r.at_.len s
theorem Rows.scalar {h:Heap} {lo n w tg:Nat} {rows:List (List AV)} {v:AV} (r:Rows h lo n w tg rows v):(∀ t,okA (.val v t)=.val v t)∧cellsOf 1 v=some [v]∧(∀ l,scalars (v::l)=scalars l):=by
 rcases r.is with ⟨_,h2⟩ | ⟨b,_,_,h2,_⟩<;>subst h2<;>exact ⟨fun _=>rfl,rfl,fun _=>rfl⟩
theorem flatten_len:∀ {rows:List (List AV)} {w:Nat},(∀ r ∈ rows,r.length=w)→rows.flatten.length=rows.length * w
 | [],w,_=>by simp
 | r::rs,w,hw=>by
  have:=flatten_len (rows:=rs) (w:=w) (fun x hx=>hw x (List.mem_cons_of_mem _ hx))
  rw [List.flatten_cons,List.length_append,this,hw r (List.mem_cons_self ..),List.length_cons,Nat.succ_mul,Nat.add_comm]
theorem append_row {s:St} {lo w bytes tg:Nat} {rows:List (List AV)} {v:AV} (r:Rows s.h lo s.n w tg rows v) {p sz:Nat} {row:List AV} (hp:s.h.get p=some (.cells row sz)) (hw:row.length=w) (hsc:scalars row=true)
  (hb:(rows.length+1) * bytes≤1000000) (htg:szOf (w+tg)=w) (hs:s.n<549755813888) (hlo:lo≤s.n) :
  ∃ v' s',appendA false w bytes tg s v (.slice p 0 1 1 false)=.val v' s'∧Rows s'.h lo s'.n w tg (rows++[row]) v'∧s'.n=s.n+1∧(∀ b,b<lo→s'.h.get b=s.h.get b)∧(∀ b,b<s.n→v≠.slice b 0 rows.length rows.length true→s'.h.get b=s.h.get b)∧(∀ k,k≤lo→k≤s.m→k≤s'.m)∧s'.m≤s.m∧v'=.slice s.n 0 (rows.length+1) (rows.length+1) true:=by
 have h1:∀ x,appendA false w bytes tg s x (.slice p 0 1 1 false)=growA w bytes tg 1 row s x:=by
  intro x
  have e1:firstA w 1 s (.slice p 0 1 1 false)=some row:=by
   show (match s.h.get p with | some (.cells c _)=>cut 0 (1 * w) c | some (.fam c _ k _)=>cut 0 (1 * w) (c.take k) | _=>none)=some row
   rw [hp]
   simp only [Nat.one_mul]
   have cut_0:∀ (k:Nat) (l:List AV),cut 0 k l=cut1 k l:=by
    intro k l
    cases l with
    | nil=>rfl
    | cons a l=>rfl
   have all:∀ l:List AV,cut1 l.length l=some l:=by
    intro l
    induction l with
    | nil=>rfl
    | cons a l ih=>rw [List.length_cons,cut1_cons,ih];rfl
   rw [cut_0,← hw,all]
  show (match (some 1:Option Nat) with | none=>ARes.fail | some n=>match firstA w n s (.slice p 0 1 1 false) with | none=>.fail | some new=>match Nat.beq new.length (n * w) with | false=>.fail | true=>match scalars new with | true=>(growA w bytes tg n new s x) | false=>.fail)=_
  simp only [e1,hw,Nat.one_mul,Nat.beq_refl,hsc]
 rcases r.is with ⟨h2,h3⟩ | ⟨b,hlb,hbn,h3,h4⟩
 ·subst h2;subst h3
  refine ⟨.slice s.n 0 1 1 true,s.new (.cells row (w+tg)),?_,⟨fun x hx=>?_,.inr ⟨s.n,hlo,Nat.lt_succ_self _,rfl,?_⟩⟩,rfl,fun b hb=>?_,fun b hb _=>?_,fun _ _ h=>h,Nat.le_refl _,rfl⟩
  ·rw [h1]
   show (match Nat.beq 1 0 with | true=>ARes.val .nilslice s | false=>match Nat.ble (1 * bytes) limit with | false=>.fail | true=>.val (.slice s.n 0 1 1 true) (s.new (.cells row (w+tg))))=_
   have:Nat.ble (1 * bytes) limit=true:=Nat.ble_eq_true_of_le (by unfold limit;simp at hb;omega)
   rw [this]
  ·simp at hx;subst hx;exact hw
  ·simp only [List.nil_append,List.flatten_cons,List.flatten_nil,List.append_nil]
   exact get_new_eq _ _ _ rfl hs
  ·exact get_new_ne _ _ _ (by omega)
  ·exact get_new_ne _ _ _ (by omega)
 ·subst h3
  have hfl:=flatten_len r.wide
  refine ⟨.slice s.n 0 (rows.length+1) (rows.length+1) true,(s.kill b).new (.cells (rows.flatten++row) (w+tg)),?_,⟨fun x hx=>?_,.inr ⟨s.n,hlo,Nat.lt_succ_self _,by simp,?_⟩⟩,rfl,fun c hc=>?_,fun c hc hne=>?_,fun k hk hm=>?_,minN_le_left _ _,rfl⟩
  ·rw [h1]
   unfold growA
   simp only [h4]
   have e1:Nat.ble (rows.length+1) rows.length=false:=by
    cases h:Nat.ble (rows.length+1) rows.length with
    | false=>rfl
    | true=>have:=Nat.le_of_ble_eq_true h;omega
   have e2:Nat.ble ((rows.length+1) * bytes) limit=true:=Nat.ble_eq_true_of_le hb
   simp only [e1,e2,hfl,htg,Nat.zero_add,List.drop_zero,and_self,if_true]
  ·rcases List.mem_append.mp hx with hx | hx
   ·exact r.wide x hx
   ·simp at hx;subst hx;exact hw
  ·rw [List.flatten_append,List.flatten_cons,List.flatten_nil,List.append_nil]
   exact get_new_eq _ _ _ rfl hs
  ·rw [get_new_ne _ _ _ (by show c≠s.n;omega),St.kill_h,heap_set_ne _ _ _ _ (by omega)]
  ·rw [get_new_ne _ _ _ (by show c≠s.n;omega),St.kill_h,heap_set_ne _ _ _ _ (fun e=>hne (by rw [e]))]
  ·show k≤minN s.m b
   rw [minN_min];omega
/-! ### Slices as they come in, copies, parts -/
theorem cut_zero (k:Nat) (l:List AV):cut 0 k l=cut1 k l:=by cases l<;>rfl
theorem cut1_app:∀ (r l:List AV),cut1 r.length (r++l)=some r:=by
 intro r l
 induction r with
 | nil=>exact cut1_zero l
 | cons a r ih=>rw [List.length_cons,List.cons_append,cut1_cons,ih];rfl
theorem cut1_all (l:List AV):cut1 l.length l=some l:=by have:=cut1_app l [];rwa [List.append_nil] at this
theorem cut1_some:∀ {k:Nat} {l r:List AV},cut1 k l=some r→∃ t,l=r++t∧r.length=k
 | 0,l,r,h=>by rw [cut1_zero] at h;cases h;exact ⟨l,rfl,rfl⟩
 | k+1,[],r,h=>by cases h
 | k+1,a::l,r,h=>by
  rw [cut1_cons] at h
  generalize hq:cut1 k l=q at h
  cases q with
  | none=>cases h
  | some q =>
   cases h
   obtain ⟨t,h1,h2⟩:=cut1_some hq
   exact ⟨t,by rw [h1];rfl,by rw [List.length_cons,h2]⟩
theorem cut_some:∀ {o k:Nat} {l r:List AV},cut o k l=some r→∃ a t,l=a++r++t∧a.length=o∧r.length=k
 | 0,k,l,r,h=>by
  rw [cut_zero] at h
  obtain ⟨t,h1,h2⟩:=cut1_some h
  exact ⟨[],t,by rw [h1];rfl,rfl,h2⟩
 | o+1,k,[],r,h=>by cases h
 | o+1,k,a::l,r,h=>by
  rw [cut_cons,if_neg (by omega)] at h
  obtain ⟨x,t,h1,h2,h3⟩:=cut_some h
  exact ⟨a::x,t,by rw [h1];rfl,by rw [List.length_cons,h2];omega,h3⟩
theorem cut_skip:∀ (a l:List AV) (o k:Nat),cut (a.length+o) k (a++l)=cut o k l
 | [],l,o,k=>by rw [List.length_nil,Nat.zero_add,List.nil_append]
 | x::a,l,o,k=>by
  rw [List.length_cons,List.cons_append,show a.length+1+o=(a.length+o)+1 by omega,cut_cons,if_neg (by omega)]
  exact cut_skip a l o k
theorem cut_app:∀ {o k:Nat} {l r t:List AV},cut o k l=some r→cut o k (l++t)=some r:=by
 intro o k l r t h
 obtain ⟨a,u,h1,h2,h3⟩:=cut_some h
 rw [h1,← h2,List.append_assoc,List.append_assoc]
 have:=cut_skip a (r++(u++t)) 0 k
 rw [Nat.add_zero] at this
 rw [this,cut_zero,← h3,cut1_app]
theorem cut_cut {o k i w:Nat} {c F r:List AV} (h:cut o k c=some F) (h2:cut i w F=some r):cut (o+i) w c=some r:=by
 obtain ⟨a,t,h3,h4,h5⟩:=cut_some h
 rw [h3,← h4,List.append_assoc,cut_skip]
 exact cut_app h2
structure Seq (h:Heap) (n w:Nat) (rows:List (List AV)) (v:AV):Prop where
 wide:∀ r ∈ rows,r.length=w
 is:(rows=[]∧v=.nilslice)∨∃ b o cap e c sz,b<n∧v=.slice b o rows.length cap e∧h.get b=some (.cells c sz)∧cut o (rows.length * w) c=some rows.flatten
theorem Seq.at_ {h:Heap} {n w:Nat} {rows:List (List AV)} {v:AV} (r:Seq h n w rows v):RowsAt h n w rows v:=by
 refine ⟨fun s=>?_,fun i hi=>?_⟩
 ·rcases r.is with ⟨h1,h2⟩ | ⟨b,o,cap,e,c,sz,_,h2,_⟩
  ·subst h1;subst h2;rfl
  ·subst h2;rfl
 ·rcases r.is with ⟨h1,_⟩ | ⟨b,o,cap,e,c,sz,hb,h2,h3,h4⟩
  ·subst h1;simp at hi
  ·subst h2
   exact ⟨b,o+i * w,c,sz,hb,fun s=>ixs_slice _ _ _ _ _ _ _ _ hi,h3,cut_cut h4 (flatten_cut r.wide hi)⟩
theorem Seq.grow {h h':Heap} {n n' w:Nat} {rows:List (List AV)} {v:AV} (r:Seq h n w rows v) (hh:∀ b,b<n→h'.get b=h.get b) (hn:n≤n'):Seq h' n' w rows v :=
 ⟨r.wide,r.is.imp id fun ⟨b,o,cap,e,c,sz,h1,h2,h3,h4⟩=>⟨b,o,cap,e,c,sz,by omega,h2,by rw [hh b h1];exact h3,h4⟩⟩
theorem Rows.seq {h:Heap} {lo n w tg:Nat} {rows:List (List AV)} {v:AV} (r:Rows h lo n w tg rows v):Seq h n w rows v :=
 ⟨r.wide,r.is.imp id fun ⟨b,_,h1,h2,h3⟩=>⟨b,0,_,_,_,_,h1,h2,h3,by rw [cut_zero,← flatten_len r.wide,cut1_all]⟩⟩
theorem Seq.first {s:St} {n w:Nat} {rows:List (List AV)} {v:AV} (r:Seq s.h n w rows v):lenA v=some rows.length∧firstA w rows.length s v=some rows.flatten:=by
 rcases r.is with ⟨h1,h2⟩ | ⟨b,o,cap,e,c,sz,hb,h2,h3,h4⟩
 ·subst h1;subst h2;exact ⟨rfl,rfl⟩
 ·subst h2
  refine ⟨rfl,?_⟩
  show (match s.h.get b with | some (.cells c _)=>cut o (rows.length * w) c | some (.fam c _ k _)=>cut o (rows.length * w) (c.take k) | _=>none)=_
  rw [h3]
  exact h4
theorem Seq.scalar {h:Heap} {n w:Nat} {rows:List (List AV)} {v:AV} (r:Seq h n w rows v):(∀ t,okA (.val v t)=.val v t)∧cellsOf 1 v=some [v]∧(∀ l,scalars (v::l)=scalars l):=by
 rcases r.is with ⟨_,h2⟩ | ⟨b,o,cap,e,c,sz,_,h2,_⟩<;>subst h2<;>exact ⟨fun _=>rfl,rfl,fun _=>rfl⟩
theorem scalars_append:∀ {a b:List AV},scalars a=true→scalars b=true→scalars (a++b)=true
 | [],b,_,h=>h
 | x::a,b,h1,h2=>by
  have e:∀ (x:AV) (l:List AV),scalars (x::l)=(match x.scalar with | true=>scalars l | false=>false):=fun _ _=>rfl
  rw [e] at h1
  rw [List.cons_append,e]
  split at h1
  ·exact scalars_append h1 h2
  ·cases h1
theorem scalars_flatten:∀ {rows:List (List AV)},(∀ r ∈ rows,scalars r=true)→scalars rows.flatten=true
 | [],_=>rfl
 | r::rs,h=>by rw [List.flatten_cons];exact scalars_append (h r (List.mem_cons_self ..)) (scalars_flatten fun x hx=>h x (List.mem_cons_of_mem _ hx))
structure Own (h:Heap) (lo n w tg:Nat) (rows:List (List AV)) (v:AV):Prop where
 wide:∀ r ∈ rows,r.length=w
 is:(rows=[]∧(v=.nilslice∨∃ b,lo≤b∧b<n∧v=.slice b 0 0 0 false∧h.get b=some (.cells [] 0)))∨(rows≠[]∧∃ b,lo≤b∧b<n∧v=.slice b 0 rows.length rows.length true∧h.get b=some (.cells rows.flatten (w+tg)))
theorem Own.seq {h:Heap} {lo n w tg:Nat} {rows:List (List AV)} {v:AV} (r:Own h lo n w tg rows v):Seq h n w rows v:=by
 refine ⟨r.wide,?_⟩
 rcases r.is with ⟨h1,h2 | ⟨b,_,h3,h4,h5⟩⟩ | ⟨_,b,_,h3,h4,h5⟩
 ·exact .inl ⟨h1,h2⟩
 ·subst h1;exact .inr ⟨b,0,0,false,[],0,h3,h4,h5,by rw [List.length_nil,Nat.zero_mul];rfl⟩
 ·exact .inr ⟨b,0,_,_,_,_,h3,h4,h5,by rw [cut_zero,← flatten_len r.wide,cut1_all]⟩
theorem Own.mono {h h':Heap} {lo n n' w tg:Nat} {rows:List (List AV)} {v:AV} (r:Own h lo n w tg rows v) (hh:∀ b,lo≤b→b<n→h'.get b=h.get b) (hn:n≤n'):Own h' lo n' w tg rows v:=by
 refine ⟨r.wide,?_⟩
 rcases r.is with ⟨h1,h2 | ⟨b,h0,h3,h4,h5⟩⟩ | ⟨h1,b,h0,h3,h4,h5⟩
 ·exact .inl ⟨h1,.inl h2⟩
 ·exact .inl ⟨h1,.inr ⟨b,h0,by omega,h4,by rw [hh b h0 h3];exact h5⟩⟩
 ·exact .inr ⟨h1,b,h0,by omega,h4,by rw [hh b h0 h3];exact h5⟩
theorem append_copy {s:St} {n w bytes tg p:Nat} {rows:List (List AV)} {v:AV} (r:Seq s.h n w rows v) (hp:s.h.get p=some (.cells [] 0)) (hpn:p<s.n) (hsc:∀ r ∈ rows,scalars r=true) (hb:rows.length * bytes≤1000000) (hs:s.n<549755813888) :
  ∃ v' s',appendA false w bytes tg s (.slice p 0 0 0 false) v=.val v' s'∧Own s'.h p s'.n w tg rows v'∧s.n≤s'.n∧s'.n≤s.n+1∧(∀ b,b<s.n→s'.h.get b=s.h.get b)∧(∀ k,k≤p→k≤s.m→k≤s'.m)∧s'.m≤s.m:=by
 obtain ⟨e1,e2⟩:=r.first
 have e3:Nat.beq rows.flatten.length (rows.length * w)=true:=by rw [flatten_len r.wide];exact Nat.beq_refl _
 have h1:appendA false w bytes tg s (.slice p 0 0 0 false) v=growA w bytes tg rows.length rows.flatten s (.slice p 0 0 0 false):=by
  unfold appendA
  simp only [e1,e2,e3,scalars_flatten hsc]
 rw [h1]
 unfold growA
 simp only [hp,Nat.zero_add,Nat.zero_mul]
 by_cases h0:rows=[]
 ·subst h0
  refine ⟨.slice p 0 0 0 false,s.put p (.cells [] 0),rfl,⟨fun x hx=>(by cases hx),.inl ⟨rfl,.inr ⟨p,Nat.le_refl _,hpn,rfl,get_put_eq _ _ _ _ rfl (by omega)⟩⟩⟩,Nat.le_refl _,Nat.le_succ _,fun b hb=>?_,fun k hk hm=>?_,minN_le_left _ _⟩
  ·by_cases hbp:b=p
   ·subst hbp;rw [get_put_eq _ _ _ _ rfl (by omega),hp]
   ·exact get_put_ne' _ _ _ _ hbp
  ·show k≤minN s.m p
   rw [minN_min];omega
 ·have hpos:0<rows.length:=List.length_pos_iff.mpr h0
  have e4:Nat.ble rows.length 0=false:=by
   cases h:Nat.ble rows.length 0 with
   | false=>rfl
   | true=>have:=Nat.le_of_ble_eq_true h;omega
  have e5:Nat.ble (rows.length * bytes) limit=true:=Nat.ble_eq_true_of_le hb
  have e6:cut 0 0 ([]:List AV)=some []:=rfl
  simp only [e4,e5,e6,List.nil_append]
  exact ⟨_,_,rfl,⟨r.wide,.inr ⟨h0,s.n,by omega,Nat.lt_succ_self _,rfl,get_new_eq _ _ _ rfl hs⟩⟩,Nat.le_succ _,Nat.le_refl _,fun b hb=>get_new_ne _ _ _ (by omega),fun _ _ h=>h,Nat.le_refl _⟩
end Go.Abs
set_option maxRecDepth 10000
namespace Go.Abs
theorem keptV_of_rows {h h':Heap} {lo n w tg:Nat} {rows:List (List AV)} {v:AV} (r:Rows h lo n w tg rows v) (hh:∀ b,lo≤b→b<n→h'.get b=h.get b):keptV h h' v=true:=by
 rcases r.is with ⟨_,h2⟩ | ⟨b,h0,h1,h2,h3⟩
 ·subst h2;exact keptV_nils h h'
 ·subst h2;rw [keptV_slice,hh b h0 h1,h3,sameO_cells]
end Go.Abs
namespace Go.Proofs.Ytlfalcghhckanab.walk
open Go.Abs Go.Proofs.Ytlfalcghhckanab.code
theorem spanE_ok (N:Nat) (hN:1≤N) (a b:Int) (s:St) (hs:s.n+10≤far):call Try.prog X N (.fn 12) [.int .i64 a,.int .i64 b] s=.val (.agg [.int .i64 a,.int .i64 b]) s:=by
 obtain ⟨n,rfl⟩:∃ n,N=n+1:=⟨N - 1,by omega⟩
 refine call_plain' Try.func12 (fun u uh un um=>?_) rfl
 have hff:far=1000000000:=rfl
 have sh:shapeT Try.prog 26=some (some 2):=by kernel_rfl
 rw [enter12]
 simp (disch:=first|omega|(with_unfolding_all exact rfl)|(simp only[new_n,put_n,new_m];omega)|(refine put_m_le ?_;simp only[new_m];omega)) only [res12,K12r0,K12r1,K12,Abs.W,reduceIte,Nat.reduceEqDiff,Nat.reduceAdd,decide_true,decide_false,kLoop_def,Nat.reduceSub,List.cons_append,List.nil_append,List.append_nil,List.length_cons,List.length_nil]
 refine ⟨_,leave_cell _ _ _ _ sh ?_,?_⟩
 ·simp (disch:=first|omega|(with_unfolding_all exact rfl)|(simp only[new_n,put_n,new_m];omega)|(refine put_m_le ?_;simp only[new_m];omega)) only [Abs.W,reduceIte,Nat.reduceEqDiff,Nat.reduceAdd,decide_true,decide_false,kLoop_def,Nat.reduceSub,List.cons_append,List.nil_append,List.append_nil,List.length_cons,List.length_nil,okA_agg,find_cons]
 ·simp only [St.put,minN_eq,um,new_m];omega
theorem eqlRow (q:Bool) (a b:Int) (s:St):eqlA (.row [(0,none,.int),(1,none,.int)]) q s (.agg [.int .i64 a,.int .i64 b]) (.agg [.int .i64 a,.int .i64 b])=.val (.bool (!q)) s:=by
 cases q<;>simp [eqlA,Cmp.eq,Cmp.eqs,partS_one,nth_cons,eqI_eq]
theorem told_ok (N:Nat) (hN:1≤N) (a b:Bool) (s:St) (hs:s.n+10≤far):call Try.prog X N (.fn 14) [.bool a,.bool b] s=.val (.int .i64 (if a then 1 else if b then 3 else 2)) s:=by
 obtain ⟨n,rfl⟩:∃ n,N=n+1:=⟨N - 1,by omega⟩
 refine call_plain' Try.func14 (fun u uh un um=>?_) rfl
 have hff:far=1000000000:=rfl
 rw [enter14]
 cases a<;>cases b
 all_goals
  simp (disch:=first|omega|(with_unfolding_all exact rfl)|(simp only[new_n,put_n,new_m];omega)|(refine put_m_le ?_;simp only[new_m];omega)) only [res14,K14r0,K14r1,K14r2,K14r3,K14r4,K14r5,K14,Abs.W,reduceIte,Nat.reduceEqDiff,Nat.reduceAdd,decide_true,decide_false,kLoop_def,Nat.reduceSub,List.cons_append,List.nil_append,List.append_nil,List.length_cons,List.length_nil,Env.find_set,Nat.zero_add,Nat.add_zero]
  exact ⟨_,rfl,by simp only [um];omega⟩
end Go.Proofs.Ytlfalcghhckanab.walk
set_option maxRecDepth 10000
namespace Go.Proofs.Ytlfalcghhckanab.walk
open Go.Abs Go.Proofs.Ytlfalcghhckanab.code
theorem within_ok (N:Nat) (hN:1≤N) (x lo hi:Int) (s:St) (h0:lo≤x) (h1:x≤hi) (hs:s.n≤far):call Try.prog X N (.fn 26) [.int .i64 x,.int .i64 lo,.int .i64 hi] s=.val (.int .i64 0) s:=by
 obtain ⟨n,rfl⟩:∃ n,N=n+1:=⟨N - 1,by omega⟩
 refine call_plain (s':=⟨s.h,s.n,far⟩) Try.func26 ?_ rfl hs
 have e0:decide (x<lo)=false:=by simp;omega
 have e1:decide (hi<x)=false:=by simp;omega
 rw [enter26]
 simp only [res26,K26r0,K26r1s7,K26r1s6,K26r1s5,K26r1,K26r2,K26r3,K26,Abs.W,reduceIte,Nat.reduceEqDiff,Nat.reduceAdd,decide_true,decide_false,kLoop_def,Nat.reduceSub,List.cons_append,List.nil_append,List.append_nil,List.length_cons,List.length_nil,e0,e1]
theorem counted_ok (N:Nat) (hN:1≤N) (x lo hi:Int) (s:St) (h0:lo≤x) (h1:x≤hi) (hs:s.n≤far):call Try.prog X N (.fn 67) [.int .i64 x,.int .i64 lo,.int .i64 hi] s=.val (.int .i64 0) s:=by
 obtain ⟨n,rfl⟩:∃ n,N=n+1:=⟨N - 1,by omega⟩
 refine call_plain (s':=⟨s.h,s.n,far⟩) Try.func67 ?_ rfl hs
 have e0:decide (x<lo)=false:=by simp;omega
 have e1:decide (hi<x)=false:=by simp;omega
 rw [enter67]
 simp only [res67,K67r0,K67r1,K67r2,K67r3,K67r4,K67r5,K67,Abs.W,reduceIte,Nat.reduceEqDiff,Nat.reduceAdd,decide_true,decide_false,kLoop_def,Nat.reduceSub,List.cons_append,List.nil_append,List.append_nil,List.length_cons,List.length_nil,e0,e1]
theorem named_ok (N:Nat) (hN:1≤N) (x hi:Int) (s:St) (h0:0≤x) (h1:x<hi) (hs:s.n≤far):call Try.prog X N (.fn 59) [.int .i64 x,.int .i64 hi] s=.val (.int .i64 0) s:=by
 obtain ⟨n,rfl⟩:∃ n,N=n+1:=⟨N - 1,by omega⟩
 refine call_plain (s':=⟨s.h,s.n,far⟩) Try.func59 ?_ rfl hs
 have e0:decide (x<0)=false:=by simp;omega
 have e1:decide (hi≤x)=false:=by simp;omega
 rw [enter59]
 simp only [res59,K59r0,K59r1s6,K59r1s5,K59r1s4,K59r1,K59r2,K59r3,K59,Abs.W,reduceIte,Nat.reduceEqDiff,Nat.reduceAdd,decide_true,decide_false,kLoop_def,Nat.reduceSub,List.cons_append,List.nil_append,List.append_nil,List.length_cons,List.length_nil,e0,e1]
theorem or_loop (cl:CallF) (cx:Ctx) (k b o cap:Nat) (e:Bool) (c:List AV) (sz:Nat) (s:St) (hb:s.h.get b=some (.cells c sz)) (hc:∀ j,j<k→nth c (o+j)=.int .i64 0) (hk:k≤1000) :
  ∀ (m i fuel:Nat) (L:Env),i+m=k→m<fuel→L.find 6=.slice b o k cap e→L.find 7=.int .i64 k→L.find 8=.int .i64 i→L.find 3=.int .i64 0 →
  ∃ L',loopN K24l0 fuel cl cx L [] s=.done (.exit 0) L' [] s∧L'.find 3=.int .i64 0
 | m,i,0,L,hm,hf,h6,h7,h8,h3=>by omega
 | m,i,fuel+1,L,hm,hf,h6,h7,h8,h3=>by
  by_cases hlt:i<k
  ·obtain ⟨m',rfl⟩:∃ m',m=m'+1:=⟨m - 1,by omega⟩
   have e0:decide ((i:Int)<(k:Int))=true:=by simp;omega
   have e1:=hc i hlt
   have e2:decide ((0:Int)=0)=true:=rfl
   obtain ⟨L',hL,h3'⟩:=or_loop cl cx k b o cap e c sz s hb hc hk m' (i+1) fuel ((((L.set 9 (.bool true)).set 5 (.int .i64 0)).set 14 (.bool false)).set 8 (.int .i64 ((i:Int)+1))) (by omega) (by omega)
    (by simp only [Env.find_set,h6,reduceIte,Nat.reduceEqDiff]) (by simp only [Env.find_set,h7,reduceIte,Nat.reduceEqDiff]) (by simp only [Env.find_set,reduceIte];rfl) (by simp only [Env.find_set,h3,reduceIte,Nat.reduceEqDiff])
   refine ⟨L',?_,h3'⟩
   rw [← hL,loopN_succ]
   simp only [res24,K24r0,K24r1,K24r2,K24r3,K24r4,K24r5,K24r6,K24r7,K24l0,K24r8,K24,Abs.W,reduceIte,Nat.reduceEqDiff,Nat.reduceAdd,decide_true,decide_false,kLoop_def,Nat.reduceSub,List.cons_append,List.nil_append,List.append_nil,List.length_cons,List.length_nil,Env.find_set,h6,h7,h8,h3,e0,ixs_slice _ _ _ _ _ _ _ _ hlt,Nat.mul_one,hb,e1,e2,aAdd_i64 _ (i:Int) 1 (by omega)]
  ·have e0:decide ((i:Int)<(k:Int))=false:=by simp;omega
   refine ⟨L.set 9 (.bool false),?_,by simp only [Env.find_set,h3,reduceIte,Nat.reduceEqDiff]⟩
   rw [loopN_succ]
   simp only [res24,K24r0,K24r1,K24r2,K24r3,K24r4,K24r5,K24r6,K24r7,K24l0,K24r8,K24,Abs.W,reduceIte,Nat.reduceEqDiff,Nat.reduceAdd,decide_true,decide_false,kLoop_def,Nat.reduceSub,List.cons_append,List.nil_append,List.append_nil,List.length_cons,List.length_nil,Env.find_set,h6,h7,h8,h3,e0]
theorem or_ok (N:Nat) (hN:1≤N) (k b o cap:Nat) (e:Bool) (c:List AV) (sz:Nat) (s:St) (hb:s.h.get b=some (.cells c sz)) (hc:∀ j,j<k→nth c (o+j)=.int .i64 0) (hk:k≤1000) (hs:s.n≤far) :
  call Try.prog X N (.fn 24) [.slice b o k cap e] s=.val (.int .i64 0) s:=by
 obtain ⟨n,rfl⟩:∃ n,N=n+1:=⟨N - 1,by omega⟩
 refine call_plain' Try.func24 (fun u uh un um=>?_) rfl
 obtain ⟨L',hL,h3⟩:=or_loop (call Try.prog X n) ⟨24,none,Try.f24.ntmps,X 24⟩ k b o cap e c sz u (by rw [uh];exact hb) hc hk k 0 rounds
  (.cons 0 (.slice b o k cap e) (.cons 2 (.int .i64 0) (.cons 3 (.int .i64 0) (.cons 6 (.slice b o k cap e) (.cons 7 (.int .i64 k) (.cons 8 (.int .i64 0) .nil)))))) (by omega) (by unfold rounds;omega) rfl rfl rfl rfl
 rw [enter24]
 simp only [res24,K24r0,K24r1,K24r2,K24r3,K24r4,K24r5,K24r6,K24r7,K24r8,K24,Abs.W,reduceIte,Nat.reduceEqDiff,Nat.reduceAdd,decide_true,decide_false,kLoop_def,Nat.reduceSub,List.cons_append,List.nil_append,List.append_nil,List.length_cons,List.length_nil,hL,h3,Env.find_set]
 exact ⟨_,rfl,by rw [um,un];exact hs⟩
def allZ:List AV→Bool
 | []=>true
 | .int .i64 0::r=>allZ r
 | _=>false
theorem allZ_nth:∀ {c:List AV},allZ c=true→∀ j,j<c.length→nth c j=.int .i64 0
 | [],_,j,hj=>by simp at hj
 | a::r,h,j,hj=>by
  unfold allZ at h
  split at h
  ·rename_i heq;cases heq
  ·rename_i heq
   cases heq
   rw [nth_cons]
   cases j with
   | zero=>rfl
   | succ j=>rw [if_neg (by omega)];exact allZ_nth h j (by simpa using hj)
  ·cases h
theorem or_new (N:Nat) (hN:1≤N) (k:Nat) (c:List AV) (t:St) (hz:allZ c=true) (hl:c.length=k) (hk:k≤1000) (ht:t.n+1≤far) :
  call Try.prog X N (.fn 24) [.slice t.n 0 k k false] (t.new (.cells c 0))=.val (.int .i64 0) (t.new (.cells c 0)):=by
 obtain ⟨n,rfl⟩:∃ n,N=n+1:=⟨N - 1,by omega⟩
 have hf:far=1000000000:=rfl
 refine or_ok (n+1) (by omega) k t.n 0 k false c 0 _ (get_new_eq _ _ _ rfl (by omega)) (fun j hj=>?_) hk (by rw [new_n];omega)
 rw [Nat.zero_add]
 exact allZ_nth hz j (by omega)
theorem or_new2 (N:Nat) (hN:1≤N) (t:St) (ht:t.n+1≤far):call Try.prog X N (.fn 24) [.slice t.n 0 2 2 false] (t.new (.cells [.int .i64 0,.int .i64 0] 0))=.val (.int .i64 0) (t.new (.cells [.int .i64 0,.int .i64 0] 0)) :=
 or_new N hN 2 _ t rfl rfl (by omega) ht
theorem or_new3 (N:Nat) (hN:1≤N) (t:St) (ht:t.n+1≤far):call Try.prog X N (.fn 24) [.slice t.n 0 3 3 false] (t.new (.cells [.int .i64 0,.int .i64 0,.int .i64 0] 0))=.val (.int .i64 0) (t.new (.cells [.int .i64 0,.int .i64 0,.int .i64 0] 0)) :=
 or_new N hN 3 _ t rfl rfl (by omega) ht
theorem or_new4 (N:Nat) (hN:1≤N) (t:St) (ht:t.n+1≤far):call Try.prog X N (.fn 24) [.slice t.n 0 4 4 false] (t.new (.cells [.int .i64 0,.int .i64 0,.int .i64 0,.int .i64 0] 0))=.val (.int .i64 0) (t.new (.cells [.int .i64 0,.int .i64 0,.int .i64 0,.int .i64 0] 0)) :=
 or_new N hN 4 _ t rfl rfl (by omega) ht
theorem or_new6 (N:Nat) (hN:1≤N) (t:St) (ht:t.n+1≤far):call Try.prog X N (.fn 24) [.slice t.n 0 6 6 false] (t.new (.cells [.int .i64 0,.int .i64 0,.int .i64 0,.int .i64 0,.int .i64 0,.int .i64 0] 0))=.val (.int .i64 0) (t.new (.cells [.int .i64 0,.int .i64 0,.int .i64 0,.int .i64 0,.int .i64 0,.int .i64 0] 0)) :=
 or_new N hN 6 _ t rfl rfl (by omega) ht
theorem span_ok (N:Nat) (hN:2≤N) (x y lo hi:Int) (s:St) (h0:lo≤x) (h1:x≤y) (h2:y≤hi) (hs:s.n+100≤far) :
  call Try.prog X N (.fn 73) [.agg [.int .i64 x,.int .i64 y],.int .i64 lo,.int .i64 hi] s=.val (.int .i64 0) s:=by
 obtain ⟨n,rfl⟩:∃ n,N=n+2:=⟨N - 2,by omega⟩
 refine call_plain' Try.func73 (fun u uh un um=>?_) rfl
 have hf:far=1000000000:=rfl
 rw [enter73]
 have e0:decide (y<x)=false:=by simp;omega
 simp (disch:=first|omega|(with_unfolding_all exact rfl)|(simp only[new_n,put_n,new_m];omega)|(refine put_m_le ?_;simp only[new_m];omega)) only [res73,K73r0,K73r1,K73r2,K73r3,K73r4,K73r5,K73r6,K73,Abs.W,reduceIte,Nat.reduceEqDiff,Nat.reduceAdd,decide_true,decide_false,kLoop_def,Nat.reduceSub,List.cons_append,List.nil_append,List.append_nil,List.length_cons,List.length_nil,e0,within_ok,or_new2,um]
 exact ⟨_,rfl,by simp only [new_n,new_m];omega⟩
end Go.Proofs.Ytlfalcghhckanab.walk
set_option maxRecDepth 10000
namespace Go.Proofs.Ytlfalcghhckanab.walk
open Go.Abs Go.Proofs.Ytlfalcghhckanab.code
theorem unless_ok (N:Nat) (hN:1≤N) (e:Int) (s:St) (hs:s.n≤far):call Try.prog X N (.fn 27) [.bool true,.int .i64 e] s=.val (.int .i64 0) s:=by
 obtain ⟨n,rfl⟩:∃ n,N=n+1:=⟨N - 1,by omega⟩
 refine call_plain (s':=⟨s.h,s.n,far⟩) Try.func27 ?_ rfl hs
 rw [enter27]
 simp only [res27,K27r0,K27r1,K27r2,K27r3,K27,Abs.W,reduceIte,Nat.reduceEqDiff,Nat.reduceAdd,decide_true,decide_false,kLoop_def,Nat.reduceSub,List.cons_append,List.nil_append,List.append_nil,List.length_cons,List.length_nil]
theorem warm_ok (N:Nat) (hN:3≤N) (x y:Int) (s:St) (h0 : -300≤x) (h1:x≤y) (h2:y≤400) (hs:s.n+200≤far) :
  call Try.prog X N (.fn 55) [.agg [.int .i64 x,.int .i64 y]] s=.val (.int .i64 0) s:=by
 obtain ⟨n,rfl⟩:∃ n,N=n+3:=⟨N - 3,by omega⟩
 refine call_plain' Try.func55 (fun u uh un um=>?_) rfl
 have hf:far=1000000000:=rfl
 rw [enter55]
 simp (disch:=first|omega|(with_unfolding_all exact rfl)|(simp only[new_n,put_n,new_m];omega)|(refine put_m_le ?_;simp only[new_m];omega)) only [res55,K55r0,K55r1,K55,Abs.W,reduceIte,Nat.reduceEqDiff,Nat.reduceAdd,decide_true,decide_false,kLoop_def,Nat.reduceSub,List.cons_append,List.nil_append,List.append_nil,List.length_cons,List.length_nil,span_ok,um]
 exact ⟨_,rfl,by simp only [new_n,new_m];omega⟩
structure Box where
 (room il ih ml mh cl ch wl wh:Int)
def Box.cells (b:Box):List AV:=[.int .i64 b.room,.int .i64 b.il,.int .i64 b.ih,.int .i64 b.ml,.int .i64 b.mh,.int .i64 b.cl,.int .i64 b.ch,.int .i64 b.wl,.int .i64 b.wh]
structure Box.Ok (b:Box):Prop where
 r0:0≤b.room
 r1:b.room≤100000
 i0:0≤b.il
 i1:b.il≤b.ih
 i2:b.ih≤b.room
 m0:0≤b.ml
 m1:b.ml≤b.mh
 m2:b.mh≤100000
 c0 : -300≤b.cl
 c1:b.cl≤b.ch
 c2:b.ch≤b.wl
 w1:b.wl≤b.wh
 w2:b.wh≤400
theorem boxes_round (N:Nat) (hN:3≤N) (cx:Ctx) (bs:List Box) (v:AV) (u:St) (hR:RowsAt u.h u.n 9 (bs.map Box.cells) v) (hk:bs.length≤6) (hs:u.n+1000≤far) (i:Nat) (L:Env) (s:St) (hi:i<bs.length) (hb:(bs[i]).Ok)
  (h13:L.find 13=v) (h14:L.find 14=.int .i64 bs.length) (h15:L.find 15=.int .i64 i) (hE:Beside u s (2 * i)) :
  ∃ L1 s1,K56l0 (call Try.prog X N) cx L [] s=.done .norm L1 [] s1∧L1.find 13=v∧L1.find 14=.int .i64 bs.length∧L1.find 15=.int .i64 ((i:Int)+1)∧Beside u s1 (2 * i+2):=by
 have hf:far=1000000000:=rfl
 obtain ⟨b,p,c,sz,hbn,hix,hg,hcut⟩:=hR.at_ i (by simpa using hi)
 rw [List.getElem_map] at hcut
 generalize bs[i]=B at hb hcut
 obtain ⟨r0,r1,i0,i1,i2,m0,m1,m2,c0,c1,c2,w1,w2⟩:=hb
 unfold Box.cells at hcut
 have e0:decide ((i:Int)<(bs.length:Int))=true:=by simp;omega
 have e1:decide (B.ch≤B.wl)=true:=by simp;omega
 have hg':s.h.get b=some (.cells c sz):=by rw [hE.same b hbn];exact hg
 have q1:=hE.n
 have q2:=hE.le
 have q3:=hE.m
 have q4:=hE.far
 have a1:=aAdd_i64 s (i:Int) 1
 simp (disch:=first|omega|(with_unfolding_all exact rfl)|(simp only[new_n,put_n,new_m];omega)|(refine put_m_le ?_;simp only[new_m];omega)) only [res56,K56r0,K56r1,K56r2,K56r3,K56r4,K56r5,K56r6,K56r7,K56r8,K56r9,K56r10,K56l0,K56r11,K56,Abs.W,reduceIte,Nat.reduceEqDiff,Nat.reduceAdd,decide_true,decide_false,kLoop_def,Nat.reduceSub,List.cons_append,List.nil_append,List.append_nil,List.length_cons,List.length_nil,Env.find_set,h13,h14,h15,e0,hix,hg',hcut,within_ok,span_ok,warm_ok,e1,unless_ok,or_new6,aAdd_i64]
 exact ⟨_,_,rfl,by simp only [Env.find_set,h13,reduceIte,Nat.reduceEqDiff],by simp only [Env.find_set,h14,reduceIte,Nat.reduceEqDiff],by simp only [Env.find_set,reduceIte],(((hE.new _).put _ q1).new _).mono (by omega)⟩
theorem boxes_ok (N:Nat) (hN:4≤N) (bs:List Box) (v:AV) (s:St) (hR:RowsAt s.h s.n 9 (bs.map Box.cells) v) (hk:bs.length≤6) (hb:∀ b ∈ bs,b.Ok) (hs:s.n+2000≤far) :
  call Try.prog X N (.fn 56) [v] s=.val (.int .i64 0) s:=by
 obtain ⟨n,rfl⟩:∃ n,N=n+1:=⟨N - 1,by omega⟩
 refine call_plain' Try.func56 (fun u uh un um=>?_) rfl
 have hf:far=1000000000:=rfl
 rw [← uh,← un] at hR
 have hlen:=hR.len
 rw [List.length_map] at hlen
 obtain ⟨e,L1,s1,hL,⟨id,he⟩,hE⟩:=loop_run (body:=K56l0) (cl:=call Try.prog X n) (cx:=⟨56,none,Try.f56.ntmps,X 56⟩)
  (fun i L t=>L.find 13=v∧L.find 14=.int .i64 bs.length∧L.find 15=.int .i64 i∧Beside u t (2 * i)) (fun e _ t=>e=.exit 0∧Beside u t (2 * bs.length)) bs.length
  (fun i L t hi ⟨h1,h2,h3,h4⟩=>by
   obtain ⟨L1,s1,q1,q2,q3,q4,q5⟩:=boxes_round n (by omega) _ bs v u hR hk (by omega) i L t hi (hb _ (List.getElem_mem hi)) h1 h2 h3 h4
   exact ⟨L1,s1,q1,q2,q3,by rw [q4];rfl,q5⟩)
  (fun L t ⟨h1,h2,h3,h4⟩=>by
   have e0:decide ((bs.length:Int)<(bs.length:Int))=false:=by simp
   refine ⟨0,L.set 16 (.bool false),t,?_,rfl,h4⟩
   simp (disch:=first|omega|(with_unfolding_all exact rfl)|(simp only[new_n,put_n,new_m];omega)|(refine put_m_le ?_;simp only[new_m];omega)) only [res56,K56r0,K56r1,K56r2,K56r3,K56r4,K56r5,K56r6,K56r7,K56r8,K56r9,K56r10,K56l0,K56r11,K56,Abs.W,reduceIte,Nat.reduceEqDiff,Nat.reduceAdd,decide_true,decide_false,kLoop_def,Nat.reduceSub,List.cons_append,List.nil_append,List.append_nil,List.length_cons,List.length_nil,Env.find_set,h2,h3,e0])
  bs.length 0 rounds (.cons 0 v (.cons 2 (.int .i64 0) (.cons 3 (.int .i64 0) (.cons 11 (.bool false) (.cons 13 v (.cons 14 (.int .i64 bs.length) (.cons 15 (.int .i64 0) .nil))))))) u (by omega) (by unfold rounds;omega)
  ⟨rfl,rfl,rfl,Beside.refl u (by omega) um⟩
 rw [enter56]
 simp (disch:=first|omega|(with_unfolding_all exact rfl)|(simp only[new_n,put_n,new_m];omega)|(refine put_m_le ?_;simp only[new_m];omega)) only [res56,K56r0,K56r1,K56r2,K56r3,K56r4,K56r5,K56r6,K56r7,K56r8,K56r9,K56r10,K56r11,K56,Abs.W,reduceIte,Nat.reduceEqDiff,Nat.reduceAdd,decide_true,decide_false,kLoop_def,Nat.reduceSub,List.cons_append,List.nil_append,List.append_nil,List.length_cons,List.length_nil,hlen,counted_ok,hL,Env.find_set]
 exact ⟨_,rfl,hE.m⟩
end Go.Proofs.Ytlfalcghhckanab.walk
set_option maxRecDepth 10000
namespace Go.Proofs.Ytlfalcghhckanab.walk
open Go.Abs Go.Proofs.Ytlfalcghhckanab.code
theorem hour_ok (N:Nat) (hN:2≤N) (x:Int) (s:St) (h0:0≤x) (h1:x≤239) (hs:s.n+100≤far):call Try.prog X N (.fn 40) [.int .i64 x] s=.val (.int .i64 0) s:=by
 obtain ⟨n,rfl⟩:∃ n,N=n+1:=⟨N - 1,by omega⟩
 refine call_plain' Try.func40 (fun u uh un um=>?_) rfl
 have hf:far=1000000000:=rfl
 rw [enter40]
 simp (disch:=first|omega|(with_unfolding_all exact rfl)|(simp only[new_n,put_n,new_m];omega)|(refine put_m_le ?_;simp only[new_m];omega)) only [res40,K40r0,K40r1,K40,Abs.W,reduceIte,Nat.reduceEqDiff,Nat.reduceAdd,decide_true,decide_false,kLoop_def,Nat.reduceSub,List.cons_append,List.nil_append,List.append_nil,List.length_cons,List.length_nil,within_ok]
 exact ⟨_,rfl,by omega⟩
theorem box_ok (N:Nat) (hN:2≤N) (hl hh x:Int) (k:Nat) (v1 v2 v3:AV) (s:St) (n1:v1≠.bad) (l1:∀ s,lenSlA s v1=.val (.int .i64 k) s) (h0:0≤x) (h1:x<k) (hs:s.n+100≤far) :
  call Try.prog X N (.fn 39) [.agg [.int .i64 hl,.int .i64 hh,v1,v2,v3],.int .i64 x] s=.val (.int .i64 0) s:=by
 obtain ⟨n,rfl⟩:∃ n,N=n+1:=⟨N - 1,by omega⟩
 refine call_plain' Try.func39 (fun u uh un um=>?_) rfl
 have hf:far=1000000000:=rfl
 have k1:∀ t,okA (.val v1 t)=.val v1 t:=fun t=>okA_ne n1
 rw [enter39]
 simp (disch:=first|omega|(with_unfolding_all exact rfl)|(simp only[new_n,put_n,new_m];omega)|(refine put_m_le ?_;simp only[new_m];omega)) only [res39,K39r0,K39r1,K39,Abs.W,reduceIte,Nat.reduceEqDiff,Nat.reduceAdd,decide_true,decide_false,kLoop_def,Nat.reduceSub,List.cons_append,List.nil_append,List.append_nil,List.length_cons,List.length_nil,k1,l1,named_ok]
 exact ⟨_,rfl,by simp only [new_m];omega⟩
structure Fill where
 (box hour grams:Int)
def Fill.cells (f:Fill):List AV:=[.int .i64 f.box,.int .i64 f.hour,.int .i64 f.grams]
structure Fill.Ok (k:Nat) (f:Fill):Prop where
 b0:0≤f.box
 b1:f.box<k
 h0:0≤f.hour
 h1:f.hour≤239
 g0:0≤f.grams
 g1:f.grams≤100000
def before (fs:List Fill):Nat→Int
 | 0=>0
 | i+1=>match fs[i]? with
  | some f=>f.hour
  | none=>0
theorem fillings_round (N:Nat) (hN:3≤N) (cx:Ctx) (fs:List Fill) (hl hh:Int) (k:Nat) (v1 v2 v3:AV) (n1:v1≠.bad) (l1:∀ s,lenSlA s v1=.val (.int .i64 k) s) (p0:Nat) (u:St)
  (hR:RowsAt u.h u.n 3 (fs.map Fill.cells) v2) (hk:fs.length≤20) (hs:u.n+1000≤far) (hp:p0<u.n) (hg0:u.h.get p0=some (.cells [.int .i64 hl,.int .i64 hh,v1,v2,v3] (tag 31)))
  (i:Nat) (L:Env) (s:St) (hi:i<fs.length) (hb:(fs[i]).Ok k) (ho:before fs i≤(fs[i]).hour)
  (h1:L.find 1=.ptr p0 0) (h16:L.find 16=v2) (h17:L.find 17=.int .i64 fs.length) (h18:L.find 18=.int .i64 i) (h4:L.find 4=.int .i64 (before fs i)) (hE:Beside u s (2 * i)) :
  ∃ L1 s1,K57l0 (call Try.prog X N) cx L [] s=.done .norm L1 [] s1∧L1.find 1=.ptr p0 0∧L1.find 16=v2∧L1.find 17=.int .i64 fs.length∧L1.find 18=.int .i64 ((i:Int)+1) ∧
   L1.find 4=.int .i64 (before fs (i+1))∧Beside u s1 (2 * i+2):=by
 have hf:far=1000000000:=rfl
 obtain ⟨b,p,c,sz,hbn,hix,hg,hcut⟩:=hR.at_ i (by simpa using hi)
 rw [List.getElem_map] at hcut
 have hbf:before fs (i+1)=(fs[i]).hour:=by simp only [before,List.getElem?_eq_getElem hi]
 rw [hbf]
 generalize before fs i=pr at ho h4
 generalize fs[i]=F at hb hcut ho
 obtain ⟨b0,b1,c0,c1,g0,g1⟩:=hb
 unfold Fill.cells at hcut
 have e0:decide ((i:Int)<(fs.length:Int))=true:=by simp;omega
 have e1:decide (pr≤F.hour)=true:=by simp;omega
 have hg':s.h.get b=some (.cells c sz):=by rw [hE.same b hbn];exact hg
 have hg0':s.h.get p0=some (.cells [.int .i64 hl,.int .i64 hh,v1,v2,v3] (tag 31)):=by rw [hE.same p0 hp];exact hg0
 have q1:=hE.n
 have q2:=hE.le
 have q3:=hE.m
 have q4:=hE.far
 simp (disch:=first|omega|(with_unfolding_all exact rfl)|(simp only[new_n,put_n,new_m];omega)|(refine put_m_le ?_;simp only[new_m];omega)) only [res57,K57r0,K57r1,K57r2,K57r3,K57r4,K57r5,K57r6,K57r7,K57r8,K57r9,K57r10,K57r11,K57r12,K57l0,K57r13,K57,Abs.W,reduceIte,Nat.reduceEqDiff,Nat.reduceAdd,decide_true,decide_false,kLoop_def,Nat.reduceSub,List.cons_append,List.nil_append,List.append_nil,List.length_cons,List.length_nil,Env.find_set,h1,h4,h16,h17,h18,e0,hix,hg',hg0',hcut,within_ok,hour_ok,box_ok _ _ _ _ _ _ _ _ _ _ n1 l1,e1,unless_ok,or_new4,aAdd_i64]
 exact ⟨_,_,rfl,by simp only [Env.find_set,h1,reduceIte,Nat.reduceEqDiff],by simp only [Env.find_set,h16,reduceIte,Nat.reduceEqDiff],by simp only [Env.find_set,h17,reduceIte,Nat.reduceEqDiff],by simp only [Env.find_set,reduceIte],
  by simp only [Env.find_set,reduceIte,Nat.reduceEqDiff],(((hE.new _).put _ q1).new _).mono (by omega)⟩
end Go.Proofs.Ytlfalcghhckanab.walk
set_option maxRecDepth 10000
namespace Go.Proofs.Ytlfalcghhckanab.walk
open Go.Abs Go.Proofs.Ytlfalcghhckanab.code
theorem fillings_ok (N:Nat) (hN:4≤N) (fs:List Fill) (hl hh:Int) (k:Nat) (v1 v2 v3:AV) (n1:v1≠.bad) (l1:∀ s,lenSlA s v1=.val (.int .i64 k) s) (s:St)
  (hR:RowsAt s.h s.n 3 (fs.map Fill.cells) v2) (hk:fs.length≤20) (hb:∀ f ∈ fs,f.Ok k) (ho:∀ i (h:i<fs.length),before fs i≤(fs[i]).hour) (hs:s.n+2000≤far) :
  call Try.prog X N (.fn 57) [.agg [.int .i64 hl,.int .i64 hh,v1,v2,v3]] s=.val (.int .i64 0) s:=by
 obtain ⟨n,rfl⟩:∃ n,N=n+1:=⟨N - 1,by omega⟩
 refine call_plain' Try.func57 (fun u uh un um=>?_) rfl
 have hf:far=1000000000:=rfl
 rw [← uh,← un] at hR
 have n2:=hR.ne
 have k2:∀ t,okA (.val v2 t)=.val v2 t:=fun t=>okA_ne n2
 have hlen:=hR.len
 rw [List.length_map] at hlen
 have hw:(u.new (.cells [.int .i64 hl,.int .i64 hh,v1,v2,v3] (tag 31))).h.get u.n=some (.cells [.int .i64 hl,.int .i64 hh,v1,v2,v3] (tag 31)):=get_new_eq _ _ _ rfl (by omega)
 have hRw:RowsAt (u.new (.cells [.int .i64 hl,.int .i64 hh,v1,v2,v3] (tag 31))).h (u.n+1) 3 (fs.map Fill.cells) v2:=hR.grow (fun b hb=>get_new_ne _ _ _ (by omega)) (by omega)
 have wn:(u.new (.cells [.int .i64 hl,.int .i64 hh,v1,v2,v3] (tag 31))).n=u.n+1:=rfl
 have wm:(u.new (.cells [.int .i64 hl,.int .i64 hh,v1,v2,v3] (tag 31))).m=far:=um
 rw [enter57]
 generalize hw0:u.new (.cells [.int .i64 hl,.int .i64 hh,v1,v2,v3] (tag 31))=w at hw hRw wn wm
 rw [← wn] at hRw
 obtain ⟨e,L1,s1,hL,⟨id,he⟩,hE⟩:=loop_run (body:=K57l0) (cl:=call Try.prog X n) (cx:=⟨57,none,Try.f57.ntmps,X 57⟩)
  (fun i L t=>L.find 1=.ptr u.n 0∧L.find 16=v2∧L.find 17=.int .i64 fs.length∧L.find 18=.int .i64 i∧L.find 4=.int .i64 (before fs i)∧Beside w t (2 * i)) (fun e _ t=>e=.exit 0∧Beside w t (2 * fs.length)) fs.length
  (fun i L t hi ⟨h1,h2,h3,h4,h5,h6⟩=>by
   obtain ⟨L1,s1,q1,q2,q3,q4,q5,q6,q7⟩:=fillings_round n (by omega) _ fs hl hh k v1 v2 v3 n1 l1 u.n w hRw hk (by omega) (by omega) hw i L t hi (hb _ (List.getElem_mem hi)) (ho i hi) h1 h2 h3 h4 h5 h6
   exact ⟨L1,s1,q1,q2,q3,q4,by rw [q5];rfl,q6,q7⟩)
  (fun L t ⟨h1,h2,h3,h4,h5,h6⟩=>by
   have e0:decide ((fs.length:Int)<(fs.length:Int))=false:=by simp
   refine ⟨0,L.set 19 (.bool false),t,?_,rfl,h6⟩
   simp (disch:=first|omega|(with_unfolding_all exact rfl)|(simp only[new_n,put_n,new_m];omega)|(refine put_m_le ?_;simp only[new_m];omega)) only [res57,K57r0,K57r1,K57r2,K57r3,K57r4,K57r5,K57r6,K57r7,K57r8,K57r9,K57r10,K57r11,K57r12,K57l0,K57r13,K57,Abs.W,reduceIte,Nat.reduceEqDiff,Nat.reduceAdd,decide_true,decide_false,kLoop_def,Nat.reduceSub,List.cons_append,List.nil_append,List.append_nil,List.length_cons,List.length_nil,Env.find_set,h3,h4,e0])
  fs.length 0 rounds (.cons 0 (.agg [.int .i64 hl,.int .i64 hh,v1,v2,v3]) (.cons 1 (.ptr u.n 0) (.cons 2 (.int .i64 0) (.cons 3 (.int .i64 0) (.cons 13 (.bool false) (.cons 4 (.int .i64 0) (.cons 16 v2 (.cons 17 (.int .i64 fs.length) (.cons 18 (.int .i64 0) .nil))))))))) w (by omega) (by unfold rounds;omega)
  ⟨rfl,rfl,rfl,rfl,rfl,Beside.refl w (by omega) wm⟩
 simp (disch:=first|omega|(with_unfolding_all exact rfl)|(simp only[new_n,put_n,new_m];omega)|(refine put_m_le ?_;simp only[new_m];omega)) only [res57,K57r0,K57r1,K57r2,K57r3,K57r4,K57r5,K57r6,K57r7,K57r8,K57r9,K57r10,K57r11,K57r12,K57r13,K57,Abs.W,reduceIte,Nat.reduceEqDiff,Nat.reduceAdd,decide_true,decide_false,kLoop_def,Nat.reduceSub,List.cons_append,List.nil_append,List.append_nil,List.length_cons,List.length_nil,hw0,hw,k2,hlen,counted_ok,hL,Env.find_set]
 exact ⟨_,rfl,by have:=hE.m;omega⟩
structure Rate where
 (above loss:Int)
def Rate.cells (r:Rate):List AV:=[.int .i64 r.above,.int .i64 r.loss]
structure Rate.Ok (r:Rate):Prop where
 a0 : -300≤r.above
 a1:r.above≤400
 l0:0≤r.loss
 l1:r.loss≤1000
def rateBefore (rs:List Rate):Nat→Rate
 | 0=>⟨-301,0⟩
 | i+1=>match rs[i]? with
  | some r=>r
  | none=>⟨-301,0⟩
theorem rates_round (N:Nat) (hN:3≤N) (cx:Ctx) (rs:List Rate) (v:AV) (u:St) (hR:RowsAt u.h u.n 2 (rs.map Rate.cells) v) (hk:rs.length≤6) (hs:u.n+1000≤far)
  (i:Nat) (L:Env) (s:St) (hi:i<rs.length) (hb:(rs[i]).Ok) (ho:(rateBefore rs i).above<(rs[i]).above∧(rateBefore rs i).loss≤(rs[i]).loss)
  (h15:L.find 15=v) (h16:L.find 16=.int .i64 rs.length) (h17:L.find 17=.int .i64 i) (h4:L.find 4=.ptr u.n 0) (hc:s.h.get u.n=some (.cells (rateBefore rs i).cells (tag 67))) (hE:Beside u s (2 * i+1)) (hn:u.n+1≤s.n) :
  ∃ L1 s1,K58l0 (call Try.prog X N) cx L [] s=.done .norm L1 [] s1∧L1.find 15=v∧L1.find 16=.int .i64 rs.length∧L1.find 17=.int .i64 ((i:Int)+1)∧L1.find 4=.ptr u.n 0 ∧
   s1.h.get u.n=some (.cells (rateBefore rs (i+1)).cells (tag 67))∧Beside u s1 (2 * i+3)∧u.n+1≤s1.n:=by
 have hf:far=1000000000:=rfl
 obtain ⟨b,p,c,sz,hbn,hix,hg,hcut⟩:=hR.at_ i (by simpa using hi)
 rw [List.getElem_map] at hcut
 have hbf:rateBefore rs (i+1)=rs[i]:=by simp only [rateBefore,List.getElem?_eq_getElem hi]
 rw [hbf]
 generalize rateBefore rs i=pr at ho hc
 generalize rs[i]=F at hb hcut ho
 obtain ⟨a0,a1,l0,l1⟩:=hb
 obtain ⟨o1,o2⟩:=ho
 unfold Rate.cells at hcut hc ⊢
 have e0:decide ((i:Int)<(rs.length:Int))=true:=by simp;omega
 have e1:decide (pr.above<F.above)=true:=by simp;omega
 have e2:decide (pr.loss≤F.loss)=true:=by simp;omega
 have hg':s.h.get b=some (.cells c sz):=by rw [hE.same b hbn];exact hg
 have q1:=hE.n
 have q2:=hE.le
 have q3:=hE.m
 have q4:=hE.far
 simp (disch:=first|omega|(with_unfolding_all exact rfl)|(simp only[new_n,put_n,new_m];omega)|(refine put_m_le ?_;simp only[new_m];omega)) only [res58,K58r0,K58r1,K58r2,K58r3,K58r4,K58r5,K58r6,K58r7,K58r8s17,K58r8s16,K58r8s15,K58r8s14,K58r8s13,K58r8,K58r9,K58r10,K58r11,K58r12,K58l0,K58r13,K58,Abs.W,reduceIte,Nat.reduceEqDiff,Nat.reduceAdd,decide_true,decide_false,kLoop_def,Nat.reduceSub,List.cons_append,List.nil_append,List.append_nil,List.length_cons,List.length_nil,Env.find_set,h4,h15,h16,h17,e0,hix,hg',hc,hcut,within_ok,e1,e2,unless_ok,or_new3,aAdd_i64]
 exact ⟨_,_,rfl,by simp only [Env.find_set,h15,reduceIte,Nat.reduceEqDiff],by simp only [Env.find_set,h16,reduceIte,Nat.reduceEqDiff],by simp only [Env.find_set,reduceIte],by simp only [Env.find_set,h4,reduceIte,Nat.reduceEqDiff],
  get_put_eq _ _ _ _ rfl (by omega),((((hE.new _).put _ q1).new _).put _ (Nat.le_refl _)).mono (by omega),by simp only [put_n,new_n];omega⟩
theorem rates_ok (N:Nat) (hN:4≤N) (rs:List Rate) (v:AV) (s:St) (hR:RowsAt s.h s.n 2 (rs.map Rate.cells) v) (hk:rs.length≤6) (hk0:1≤rs.length) (hb:∀ r ∈ rs,r.Ok)
  (ho:∀ i (h:i<rs.length),(rateBefore rs i).above<(rs[i]).above∧(rateBefore rs i).loss≤(rs[i]).loss) (hs:s.n+2000≤far) :
  call Try.prog X N (.fn 58) [v] s=.val (.int .i64 0) s:=by
 obtain ⟨n,rfl⟩:∃ n,N=n+1:=⟨N - 1,by omega⟩
 refine call_plain' Try.func58 (fun u uh un um=>?_) rfl
 have hf:far=1000000000:=rfl
 rw [← uh,← un] at hR
 have hlen:=hR.len
 rw [List.length_map] at hlen
 have hlast:=fun L t=>(fun (h16:Env.find 16 L=.int .i64 rs.length) (h17:L.find 17=.int .i64 rs.length)=>(by
   have e0:decide ((rs.length:Int)<(rs.length:Int))=false:=by simp
   simp (disch:=first|omega|(with_unfolding_all exact rfl)|(simp only[new_n,put_n,new_m];omega)|(refine put_m_le ?_;simp only[new_m];omega)) only [res58,K58r0,K58r1,K58r2,K58r3,K58r4,K58r5,K58r6,K58r7,K58r8s17,K58r8s16,K58r8s15,K58r8s14,K58r8s13,K58r8,K58r9,K58r10,K58r11,K58r12,K58l0,K58r13,K58,Abs.W,reduceIte,Nat.reduceEqDiff,Nat.reduceAdd,decide_true,decide_false,kLoop_def,Nat.reduceSub,List.cons_append,List.nil_append,List.append_nil,List.length_cons,List.length_nil,Env.find_set,h16,h17,e0] :
   K58l0 (call Try.prog X n) ⟨58,none,Try.f58.ntmps,X 58⟩ L [] t=.done (.exit 0) (L.set 18 (.bool false)) [] t))
 have hE0:Beside u ((u.new (.cells [.int .i64 0,.int .i64 0] (tag 67))).put u.n (.cells [.int .i64 (-301),.int .i64 0] (tag 67))) 1:=((Beside.refl u (by omega) um).new _).put _ (Nat.le_refl _)
 obtain ⟨e,L1,s1,hL,⟨id,he⟩,hE⟩:=loop_run (body:=K58l0) (cl:=call Try.prog X n) (cx:=⟨58,none,Try.f58.ntmps,X 58⟩)
  (fun i L t=>L.find 15=v∧L.find 16=.int .i64 rs.length∧L.find 17=.int .i64 i∧L.find 4=.ptr u.n 0∧t.h.get u.n=some (.cells (rateBefore rs i).cells (tag 67))∧Beside u t (2 * i+1)∧u.n+1≤t.n)
  (fun e _ t=>e=.exit 0∧Beside u t (2 * rs.length+1)) rs.length
  (fun i L t hi ⟨h1,h2,h3,h4,h5,h6,h7⟩=>by
   obtain ⟨L1,s1,q1,q2,q3,q4,q5,q6,q7,q8⟩:=rates_round n (by omega) _ rs v u hR hk (by omega) i L t hi (hb _ (List.getElem_mem hi)) (ho i hi) h1 h2 h3 h4 h5 h6 h7
   exact ⟨L1,s1,q1,q2,q3,by rw [q4];rfl,q5,q6,q7.mono (by omega),q8⟩)
  (fun L t ⟨h1,h2,h3,h4,h5,h6,h7⟩=>⟨0,_,t,hlast L t h2 h3,rfl,h6⟩)
  rs.length 0 rounds (.cons 0 v (.cons 2 (.int .i64 0) (.cons 3 (.int .i64 0) (.cons 12 (.bool false) (.cons 4 (.ptr u.n 0) (.cons 15 v (.cons 16 (.int .i64 rs.length) (.cons 17 (.int .i64 0) .nil))))))))
  ((u.new (.cells [.int .i64 0,.int .i64 0] (tag 67))).put u.n (.cells [.int .i64 (-301),.int .i64 0] (tag 67))) (by omega) (by unfold rounds;omega)
  ⟨rfl,rfl,rfl,rfl,get_put_eq _ _ _ _ rfl (by omega),hE0,by simp only [put_n,new_n];omega⟩
 rw [enter58]
 simp (disch:=first|omega|(with_unfolding_all exact rfl)|(simp only[new_n,put_n,new_m];omega)|(refine put_m_le ?_;simp only[new_m];omega)) only [res58,K58r0,K58r1,K58r2,K58r3,K58r4,K58r5,K58r6,K58r7,K58r8s17,K58r8s16,K58r8s15,K58r8s14,K58r8s13,K58r8,K58r9,K58r10,K58r11,K58r12,K58r13,K58,Abs.W,reduceIte,Nat.reduceEqDiff,Nat.reduceAdd,decide_true,decide_false,kLoop_def,Nat.reduceSub,List.cons_append,List.nil_append,List.append_nil,List.length_cons,List.length_nil,hlen,counted_ok,hL,Env.find_set]
 exact ⟨_,rfl,hE.m⟩
structure Cellar where
 (hl hh:Int) (boxes:List Box) (fills:List Fill) (rates:List Rate)
structure Cellar.Ok (c:Cellar):Prop where
 h0 : -300≤c.hl
 h1:c.hl≤c.hh
 h2:c.hh≤400
 b:c.boxes.length≤6
 bok:∀ b ∈ c.boxes,b.Ok
 f:c.fills.length≤20
 fok:∀ f ∈ c.fills,f.Ok c.boxes.length
 fo:∀ i (h:i<c.fills.length),before c.fills i≤(c.fills[i]).hour
 r0:1≤c.rates.length
 r:c.rates.length≤6
 rok:∀ r ∈ c.rates,r.Ok
 ro:∀ i (h:i<c.rates.length),(rateBefore c.rates i).above<(c.rates[i]).above∧(rateBefore c.rates i).loss≤(c.rates[i]).loss
structure CellarAt (h:Heap) (n:Nat) (c:Cellar) (v1 v2 v3:AV):Prop where
 b:RowsAt h n 9 (c.boxes.map Box.cells) v1
 f:RowsAt h n 3 (c.fills.map Fill.cells) v2
 r:RowsAt h n 2 (c.rates.map Rate.cells) v3
theorem CellarAt.grow {h h':Heap} {n n':Nat} {c:Cellar} {v1 v2 v3:AV} (a:CellarAt h n c v1 v2 v3) (hh:∀ b,b<n→h'.get b=h.get b) (hn:n≤n'):CellarAt h' n' c v1 v2 v3:=⟨a.b.grow hh hn,a.f.grow hh hn,a.r.grow hh hn⟩
theorem check_ok (N:Nat) (hN:5≤N) (c:Cellar) (ok:c.Ok) (v1 v2 v3:AV) (s:St) (hC:CellarAt s.h s.n c v1 v2 v3) (hs:s.n+3000≤far) :
  call Try.prog X N (.fn 38) [.agg [.int .i64 c.hl,.int .i64 c.hh,v1,v2,v3]] s=.val (.int .i64 0) s:=by
 obtain ⟨n,rfl⟩:∃ n,N=n+1:=⟨N - 1,by omega⟩
 refine call_plain' Try.func38 (fun u uh un um=>?_) rfl
 have hf:far=1000000000:=rfl
 rw [← uh,← un] at hC
 have n1:=hC.b.ne
 have k1:∀ t,okA (.val v1 t)=.val v1 t:=fun t=>okA_ne n1
 have k3:∀ t,okA (.val v3 t)=.val v3 t:=fun t=>okA_ne hC.r.ne
 have l1:=hC.b.len
 rw [List.length_map] at l1
 obtain ⟨h0,h1,h2,b,bok,f,fok,fo,r0,r,rok,ro⟩:=ok
 have wn:(u.new (.cells [.int .i64 c.hl,.int .i64 c.hh,v1,v2,v3] (tag 31))).n=u.n+1:=rfl
 have wm:(u.new (.cells [.int .i64 c.hl,.int .i64 c.hh,v1,v2,v3] (tag 31))).m=far:=um
 have hw:(u.new (.cells [.int .i64 c.hl,.int .i64 c.hh,v1,v2,v3] (tag 31))).h.get u.n=some (.cells [.int .i64 c.hl,.int .i64 c.hh,v1,v2,v3] (tag 31)):=get_new_eq _ _ _ rfl (by omega)
 have hCw:=hC.grow (h':=(u.new (.cells [.int .i64 c.hl,.int .i64 c.hh,v1,v2,v3] (tag 31))).h) (n':=u.n+1) (fun b hb=>get_new_ne _ _ _ (by omega)) (by omega)
 rw [enter38]
 generalize hw0:u.new (.cells [.int .i64 c.hl,.int .i64 c.hh,v1,v2,v3] (tag 31))=w at hw wn wm hCw
 rw [← wn] at hCw
 have c1:=fun t:St=>fun ht:t.h=w.h=>fun hn:t.n=w.n=>boxes_ok n (by omega) c.boxes v1 t (by rw [ht,hn];exact hCw.b) b bok (by omega)
 have c2:=fun t:St=>fun ht:t.h=w.h=>fun hn:t.n=w.n=>fillings_ok n (by omega) c.fills c.hl c.hh c.boxes.length v1 v2 v3 n1 l1 t (by rw [ht,hn];exact hCw.f) f fok fo (by omega)
 have c3:=fun t:St=>fun ht:t.h=w.h=>fun hn:t.n=w.n=>rates_ok n (by omega) c.rates v3 t (by rw [ht,hn];exact hCw.r) r r0 rok ro (by omega)
 simp (disch:=first|omega|(with_unfolding_all exact rfl)|(simp only[new_n,put_n,new_m];omega)|(refine put_m_le ?_;simp only[new_m];omega)) only [res38,K38r0,K38r1,K38,Abs.W,reduceIte,Nat.reduceEqDiff,Nat.reduceAdd,decide_true,decide_false,kLoop_def,Nat.reduceSub,List.cons_append,List.nil_append,List.append_nil,List.length_cons,List.length_nil,hw0,hw,k1,k3,warm_ok,c1,c2,c3,or_new4]
 exact ⟨_,rfl,by simp only [new_m];omega⟩
end Go.Proofs.Ytlfalcghhckanab.walk
