/- What the walks share: temporaries that are known, loops with an invariant, calls that make blocks or turn one. -/
import Derived.Test.YtoklbkgcclkejaaAbsWalk
import Derived.Test.YtoklbkgcclkejaaCodes
import Derived.Test.YtoklbkgcclkejaaAbsOps
import Derived.Test.YtoklbkgcclkejaaWalkAll
set_option linter.unusedSimpArgs false
set_option linter.unusedVariables false
set_option maxHeartbeats 16000000
namespace Go.Abs
variable {P:Program}
def At (L:Env):List (Nat × AV)→Prop
 | []=>True
 | (t,v)::r=>L.find t=v∧At L r
theorem zVJ {body:K} {cl:zR} {cx:Ctx} (I:Nat→Env→St→Prop) (Q:Ex→Env→St→Prop) (k:Nat)
  (step:∀ i L s,i≤k→I i L s→(i<k∧∃ L1 s1,body cl cx L [] s=.done .norm L1 [] s1∧I (i+1) L1 s1)∨(∃ e L1 s1,e≠.norm∧body cl cx L [] s=.done e L1 [] s1∧Q e L1 s1)) :
  ∀ (m i fuel:Nat) (L:Env) (s:St),i+m=k→m<fuel→I i L s→∃ e L1 s1,jK body fuel cl cx L [] s=.done e L1 [] s1∧Q e L1 s1
 | m,i,0,_,_,_,hf,_=>by omega
 | m,i,fuel+1,L,s,hm,hf,hI=>by
  rcases step i L s (by omega) hI with ⟨hi,L1,s1,h1,h2⟩ | ⟨e,L1,s1,he,h1,h2⟩
  ·obtain ⟨m',rfl⟩:∃ m',m=m'+1:=⟨m - 1,by omega⟩
   obtain ⟨e,L2,s2,h3,h4⟩:=zVJ I Q k step m' (i+1) fuel L1 s1 (by omega) (by omega) h2
   exact ⟨e,L2,s2,by rw [ww,h1,vN,h3],h4⟩
  ·refine ⟨e,L1,s1,?_,h2⟩
   rw [ww,h1]
   cases e with
   | norm=>exact absurd rfl he
   | exit id=>rfl
   | ret=>rfl
theorem jO {body:K} {cl:zR} {cx:Ctx} {L:Env} {s:St} {r:R} (hr:jK body rounds cl cx L [] s=r) (I:Nat→Env→St→Prop) (Q:Ex→Env→St→Prop) (k:Nat) (hk:k<rounds) (h0:I 0 L s)
  (step:∀ i L s,i≤k→I i L s→(i<k∧∃ L1 s1,body cl cx L [] s=.done .norm L1 [] s1∧I (i+1) L1 s1)∨(∃ e L1 s1,e≠.norm∧body cl cx L [] s=.done e L1 [] s1∧Q e L1 s1)) :
  ∃ e L1 s1,r=.done e L1 [] s1∧Q e L1 s1:=by
 obtain ⟨e,L1,s1,h1,h2⟩:=zVJ I Q k step k 0 rounds L s (by omega) hk h0
 exact ⟨e,L1,s1,hr.symm.trans h1,h2⟩
theorem gV (a b:Nat):yA a b=min a b:=by
 unfold yA
 cases h:Nat.ble a b
 ·have:¬ a≤b:=fun h'=>by rw [Nat.ble_eq_true_of_le h'] at h;cases h
  show b=_;omega
 ·have:=Nat.le_of_ble_eq_true h
  show a=_;omega
structure Stir (d:Nat) (u s:St) (k:Nat):Prop where
 same:∀ b,b<u.n→b≠d→s.h.get b=u.h.get b
 n:u.n≤s.n
 le:s.n≤u.n+k
 m:d≤u.m→d≤s.m
 mle:s.m≤u.m
theorem Stir.refl (d:Nat) (u:St):Stir d u u 0:=⟨fun _ _ _=>rfl,Nat.le_refl _,Nat.le_refl _,fun h=>h,Nat.le_refl _⟩
theorem Stir.new {d:Nat} {u s:St} {k:Nat} (h:Stir d u s k) (o:AObj):Stir d u (s.new o) (k+1) :=
 ⟨fun b hb hd=>by rw [zH _ _ _ (by have:=h.n;omega)];exact h.same b hb hd,Nat.le_trans h.n (Nat.le_succ _),by have:=h.le;show s.n+1≤_;omega,h.m,h.mle⟩
theorem Stir.put {d:Nat} {u s:St} {k b:Nat} (h:Stir d u s k) (hd:d<u.n) (o:AObj) (hb:b=d∨u.n≤b):Stir d u (s.put b o) k :=
 ⟨fun c hc hcd=>by rw [zL _ _ _ _ (by omega)];exact h.same c hc hcd,h.n,h.le,fun hm=>by
  show d≤yA s.m b
  rw [gV]
  have:=h.m hm
  omega,Nat.le_trans (jW _ _) h.mle⟩
theorem Stir.trans {d:Nat} {u s t:St} {j k:Nat} (a:Stir d u s j) (b:Stir d s t k):Stir d u t (j+k) :=
 ⟨fun c hc hd=>(b.same c (by have:=a.n;omega) hd).trans (a.same c hc hd),Nat.le_trans a.n b.n,by have:=a.le;have:=b.le;omega,fun h=>b.m (a.m h),Nat.le_trans b.mle a.mle⟩
theorem Stir.mono {d:Nat} {u s:St} {j k:Nat} (a:Stir d u s j) (h:j≤k):Stir d u s k:=⟨a.same,a.n,by have:=a.le;omega,a.m,a.mle⟩
theorem Stir.draw {d:Nat} {s t:St} {k:Nat} (a:Stir d ⟨s.h,s.n,far⟩ t k) (hd:d≤far):Stir d s ⟨t.h,t.n,yA s.m t.m⟩ k :=
 ⟨a.same,a.n,a.le,fun h=>by
  show d≤yA s.m t.m
  rw [gV]
  have:d≤t.m:=a.m hd
  omega,jW _ _⟩
structure New (s t:St) (k:Nat):Prop where
 same:∀ b,b<s.n→t.h.get b=s.h.get b
 n:s.n≤t.n
 le:t.n≤s.n+k
 m:t.m=s.m
theorem New.refl (s:St):New s s 0:=⟨fun _ _=>rfl,Nat.le_refl _,Nat.le_refl _,rfl⟩
theorem New.draw {s t:St} {k:Nat} (a:New ⟨s.h,s.n,far⟩ t k) (h:s.m≤far):New s ⟨t.h,t.n,yA s.m t.m⟩ k :=
 ⟨a.same,a.n,a.le,by
  show yA s.m t.m=s.m
  have:t.m=far:=a.m
  rw [gV];omega⟩
theorem Stir.after {d:Nat} {u s t:St} {j k:Nat} (a:Stir d u s j) (b:New s t k):Stir d u t (j+k) :=
 ⟨fun c hc hd=>(b.same c (by have:=a.n;omega)).trans (a.same c hc hd),Nat.le_trans a.n b.n,by have:=a.le;have:=b.le;omega,fun h=>by rw [b.m];exact a.m h,by rw [b.m];exact a.mle⟩
theorem Beside.after {u s t:St} {j k:Nat} (a:Beside u s j) (b:New s t k):Beside u t (j+k) :=
 ⟨fun c hc=>(b.same c (by have:=a.n;omega)).trans (a.same c hc),Nat.le_trans a.n b.n,by have:=a.le;have:=b.le;omega,by rw [b.m];exact a.m,by rw [b.m];exact a.far⟩
theorem yw {X:FuncId→List Nat} {n:Nat} {f:FuncId} {args:List AV} {s:St} {fn:Func} {d k:Nat} {Q:AV→Prop} {R:Heap→Prop} (hf:P.funcs[f]? = some fn) (h0:R s.h)
  (h:∀ u:St,u.h=s.h→u.n=s.n→u.m=far→∃ v s',zZ P X (call P X n) f args u fn=.val v s'∧Stir d u s' k∧plain v=true∧Q v∧R s'.h) (hd:d≤far) :
  ∃ v t,call P X (n+1) (.fn f) args s=.val v t∧Stir d s t k∧Q v∧R t.h:=by
 obtain ⟨v,s',h1,h2,h3,h4,h5⟩:=h ⟨s.h,s.n,far⟩ rfl rfl rfl
 cases hb:Nat.ble s.n s'.m with
 | true =>
  refine ⟨v,s,?_,(Stir.refl d s).mono (Nat.zero_le _),h4,h0⟩
  show jP P X (call P X n) (.fn f) args s=_
  unfold jP
  simp only [hf,h1]
  unfold Abs.settle
  simp only [hb,h3]
  rfl
 | false =>
  refine ⟨v,⟨s'.h,s'.n,yA s.m s'.m⟩,?_,Stir.draw (s:=s) h2 hd,h4,h5⟩
  show jP P X (call P X n) (.fn f) args s=_
  unfold jP
  simp only [hf,h1]
  unfold Abs.settle
  simp only [hb]
  rfl
theorem YUA {X:FuncId→List Nat} {n:Nat} {f:FuncId} {args:List AV} {s:St} {fn:Func} {d k:Nat} {Q:AV→Heap→Nat→Prop} (hf:P.funcs[f]? = some fn) (hk:JP=true)
  (h:∀ u:St,u.h=s.h→u.n=s.n→u.m=far→∃ v s',zZ P X (call P X n) f args u fn=.val v s'∧Stir d u s' k∧plain v=false∧Q v s'.h s'.n) (hd:d≤far) :
  ∃ v t,call P X (n+1) (.fn f) args s=.val v t∧Stir d s t k∧Q v t.h t.n:=by
 obtain ⟨v,s',h1,h2,h3,h4⟩:=h ⟨s.h,s.n,far⟩ rfl rfl rfl
 cases hb:Nat.ble s.n s'.m with
 | true =>
  refine ⟨v,⟨s'.h,s'.n,s.m⟩,?_,⟨h2.same,h2.n,h2.le,fun h=>h,Nat.le_refl _⟩,h4⟩
  show jP P X (call P X n) (.fn f) args s=_
  unfold jP
  simp only [hf,h1]
  unfold Abs.settle
  simp only [hb,h3,hk]
  rfl
 | false =>
  refine ⟨v,⟨s'.h,s'.n,yA s.m s'.m⟩,?_,Stir.draw (s:=s) h2 hd,h4⟩
  show jP P X (call P X n) (.fn f) args s=_
  unfold jP
  simp only [hf,h1]
  unfold Abs.settle
  simp only [hb]
  rfl
theorem vm {X:FuncId→List Nat} {n:Nat} {f:FuncId} {args:List AV} {s:St} {fn:Func} {k:Nat} {Q:AV→Heap→Nat→Prop} (hf:P.funcs[f]? = some fn) (hk:JP=true)
  (h:∀ u:St,u.h=s.h→u.n=s.n→u.m=far→∃ v s',zZ P X (call P X n) f args u fn=.val v s'∧Beside u s' k∧plain v=false∧Q v s'.h s'.n) :
  ∃ v t,call P X (n+1) (.fn f) args s=.val v t∧New s t k∧Q v t.h t.n:=by
 obtain ⟨v,s',h1,h2,h3,h4⟩:=h ⟨s.h,s.n,far⟩ rfl rfl rfl
 have hb:Nat.ble s.n s'.m=true:=Nat.ble_eq_true_of_le h2.m
 refine ⟨v,⟨s'.h,s'.n,s.m⟩,?_,⟨h2.same,h2.n,h2.le,rfl⟩,h4⟩
 show jP P X (call P X n) (.fn f) args s=_
 unfold jP
 simp only [hf,h1]
 unfold Abs.settle
 simp only [hb,h3,hk]
 rfl
theorem WO {X:FuncId→List Nat} {n:Nat} {f:FuncId} {args:List AV} {s:St} {fn:Func} {k:Nat} {Q:AV→Heap→Nat→Prop} (hf:P.funcs[f]? = some fn) (hk:JP=true)
  (h:∀ u:St,u.h=s.h→u.n=s.n→u.m=far→∃ v s',zZ P X (call P X n) f args u fn=.val v s'∧Beside u s' k∧Q v s'.h s'.n∧(plain v=true→Q v s.h s.n)) :
  ∃ v t,call P X (n+1) (.fn f) args s=.val v t∧New s t k∧Q v t.h t.n:=by
 obtain ⟨v,s',h1,h2,h3,h4⟩:=h ⟨s.h,s.n,far⟩ rfl rfl rfl
 have hb:Nat.ble s.n s'.m=true:=Nat.ble_eq_true_of_le h2.m
 cases hp:plain v with
 | true =>
  refine ⟨v,s,?_,⟨fun _ _=>rfl,Nat.le_refl _,Nat.le_add_right _ _,rfl⟩,h4 hp⟩
  show jP P X (call P X n) (.fn f) args s=_
  unfold jP
  simp only [hf,h1]
  unfold Abs.settle
  simp only [hb,hp]
  rfl
 | false =>
  refine ⟨v,⟨s'.h,s'.n,s.m⟩,?_,⟨h2.same,h2.n,h2.le,rfl⟩,h3⟩
  show jP P X (call P X n) (.fn f) args s=_
  unfold jP
  simp only [hf,h1]
  unfold Abs.settle
  simp only [hb,hp,hk]
  rfl
theorem gcA {X:FuncId→List Nat} {n:Nat} {f:FuncId} {args:List AV} {s:St} {fn:Func} {Q:AV→Heap→Nat→Nat→Prop} (hf:P.funcs[f]? = some fn) (hk:JP=true)
  (h:∀ u:St,u.h=s.h→u.n=s.n→u.m=far→∃ v s',zZ P X (call P X n) f args u fn=.val v s'∧Q v s'.h s'.n s'.m∧(plain v=true→s.n≤s'.m→Q v s.h s.n s'.m)) :
  ∃ v t m,call P X (n+1) (.fn f) args s=.val v t∧Q v t.h t.n m∧((s.n≤m∧t.m=s.m)∨(m<s.n∧t.m=min s.m m)):=by
 obtain ⟨v,s',h1,h2,h3⟩:=h ⟨s.h,s.n,far⟩ rfl rfl rfl
 cases hb:Nat.ble s.n s'.m with
 | true =>
  have hle:=Nat.le_of_ble_eq_true hb
  cases hp:plain v with
  | true =>
   refine ⟨v,s,s'.m,?_,h3 hp hle,.inl ⟨hle,rfl⟩⟩
   show jP P X (call P X n) (.fn f) args s=_
   unfold jP
   simp only [hf,h1]
   unfold Abs.settle
   simp only [hb,hp]
   rfl
  | false =>
   refine ⟨v,⟨s'.h,s'.n,s.m⟩,s'.m,?_,h2,.inl ⟨hle,rfl⟩⟩
   show jP P X (call P X n) (.fn f) args s=_
   unfold jP
   simp only [hf,h1]
   unfold Abs.settle
   simp only [hb,hp,hk]
   rfl
 | false =>
  have hlt:s'.m<s.n:=by
   rcases Nat.lt_or_ge s'.m s.n with h | h
   ·exact h
   ·rw [Nat.ble_eq_true_of_le h] at hb;cases hb
  refine ⟨v,⟨s'.h,s'.n,yA s.m s'.m⟩,s'.m,?_,h2,.inr ⟨hlt,gV _ _⟩⟩
  show jP P X (call P X n) (.fn f) args s=_
  unfold jP
  simp only [hf,h1]
  unfold Abs.settle
  simp only [hb]
  rfl
theorem WN {X:FuncId→List Nat} {n:Nat} {f:FuncId} {args:List AV} {s:St} {fn:Func} {k:Nat} {Q:AV→Prop} (hf:P.funcs[f]? = some fn)
  (h:∀ u:St,u.h=s.h→u.n=s.n→u.m=far→∃ v s',zZ P X (call P X n) f args u fn=.val v s'∧Beside u s' k∧plain v=true∧Q v) :
  ∃ v,call P X (n+1) (.fn f) args s=.val v s∧Q v:=by
 obtain ⟨v,s',h1,h2,h3,h4⟩:=h ⟨s.h,s.n,far⟩ rfl rfl rfl
 exact ⟨v,gI hf h1 h3 h2.m,h4⟩
/-! ### Ends of what may be -/
theorem wC (f:AV→AV→AV) (x:Arg) (r:List Arg) (L:Env) (s:St):gY f x r L s=okA (.val (VX f (x.ev L) (evs r L)) s):=Eq.trans (Eq.refl _) (Eq.refl _)
theorem wF (f:AV→AV→AV) (x:AV):VX f x []=x:=Eq.trans (Eq.refl _) (Eq.refl _)
theorem vj (f:AV→AV→AV) (x y:AV) (r:List AV):VX f x (y::r)=VX f (f x y) r:=Eq.trans (Eq.refl _) (Eq.refl _)
theorem zQ (a b:Nat):yA a b=min a b:=gV a b
theorem Zx (x y:Int):jvA (.int .i64 x) (.int .i64 y)=.int .i64 (max x y):=by
 show AV.int .i64 (match leI y x with | true=>x | false=>y)=_
 rw [wT]
 by_cases h:y≤x
 ·rw [decide_eq_true h,Int.max_eq_left h]
 ·rw [decide_eq_false h,Int.max_eq_right (by omega)]
theorem YJJ (x y:Int):yjJ (.int .i64 x) (.int .i64 y)=.int .i64 (min x y):=by
 show AV.int .i64 (match leI x y with | true=>x | false=>y)=_
 rw [wT]
 by_cases h:x≤y
 ·rw [decide_eq_true h,Int.min_eq_left h]
 ·rw [decide_eq_false h,Int.min_eq_right (by omega)]
/-! ### Numbers -/
theorem zgJ (x y:Arg) (L:Env) (s:St):ZsA x y L s=gcJ s (x.ev L) (y.ev L):=Eq.trans (Eq.refl _) (Eq.refl _)
def YpA (a b:Int):Int:=a.fdiv (2 ^ (min b.toNat 64))
theorem WjA (s:St) (a:Int) (k:IntKind) (b:Int) (hb:0≤b):gcJ s (.int .u64 a) (.int k b)=.val (.int .u64 (YpA a b)) s:=by
 cases b with
 | ofNat b=>rfl
 | negSucc b=>omega
theorem WiA (a b:Int) (h:0≤a):0≤YpA a b:=Int.fdiv_nonneg h (Int.pow_nonneg (by decide))
theorem VHJ (k k':IntKind) (s:St) (n:Int):jFJ k s (.int k' n)=.val (.int k (gR k n)) s:=Eq.trans (Eq.refl _) (Eq.refl _)
theorem ZrJ (n:Int) (h:0≤n∧n≤18446744073709551615):gR .u64 n=n:=by rw [gQ];exact IntWalk.u64_in n h
theorem vsA (n:Int):0≤IntKind.u64.wrap n∧IntKind.u64.wrap n≤18446744073709551615:=by
 simp [IntKind.wrap,IntKind.bits,IntKind.signed];omega
theorem jbJ (s:St) (k:IntKind) (a b:Int):yOA s k a b=.val (.int k (gR k (Int.mul a b))) s:=Eq.trans (Eq.refl _) (Eq.refl _)
theorem VpJ (s:St) (k:IntKind) (a b:Int):jI s k a b=.val (.int k (gR k (Int.add a b))) s:=Eq.trans (Eq.refl _) (Eq.refl _)
def ywQ (k:IntKind) (a b:Int):Int:=k.wrap (BitVec.ofInt k.bits a ^^^ BitVec.ofInt k.bits b).toNat
theorem jmJ (a b:Int):0≤ywQ .u64 a b∧ywQ .u64 a b≤18446744073709551615:=vsA _
theorem VgJ (s:St) (k:IntKind) (a b:Int):VhJ s k a b=.val (.int k (ywQ k a b)) s:=Eq.trans (Eq.refl _) (Eq.refl _)
theorem wlJ (s:St) (k:IntKind) (a b:Int) (h:b≠0):vZA s k a b=.val (.int k (a.tmod b)) s:=by unfold vZA;rw [if_neg h]
variable {P:Program}
structure Rows (h:Heap) (lo n w tg:Nat) (rows:List (List AV)) (v:AV):Prop where
 wide:∀ r ∈ rows,r.length=w
 is:(rows=[]∧v=.nilslice)∨(∃ b,lo≤b∧b<n∧v=.slice b 0 rows.length rows.length true∧h.get b=some (.cells rows.flatten (w+tg)))
theorem Rows.nil (h:Heap) (lo n w tg:Nat):Rows h lo n w tg [] .nilslice:=⟨fun r hr=>by (cases hr),.inl ⟨rfl,rfl⟩⟩
theorem Rows.mono {h h':Heap} {lo n n' w tg:Nat} {rows:List (List AV)} {v:AV} (r:Rows h lo n w tg rows v) (hh:∀ b,lo≤b→b<n→h'.get b=h.get b) (hn:n≤n'):Rows h' lo n' w tg rows v :=
 ⟨r.wide,r.is.imp id fun ⟨b,h0,h1,h2,h3⟩=>⟨b,h0,by omega,h2,by rw [hh b h0 h1];exact h3⟩⟩
theorem yU:∀ {rows:List (List AV)} {w i:Nat},(∀ r ∈ rows,r.length=w)→(hi:i<rows.length)→cut (i * w) w rows.flatten=some rows[i]
 | [],w,i,_,hi=>by simp at hi
 | r::rs,w,i,hw,hi=>by
  have hr:r.length=w:=hw r (List.mem_cons_self ..)
  have YD:∀ (r l:List AV),YE r.length (r++l)=some r:=by
   intro r l
   induction r with
   | nil=>exact ZX l
   | cons a r ih=>rw [List.length_cons,List.cons_append,vq,ih];rfl
  have cut_0:∀ (k:Nat) (l:List AV),cut 0 k l=YE k l:=by
   intro k l
   cases l with
   | nil=>rfl
   | cons a l=>rfl
  cases i with
  | zero =>
   rw [Nat.zero_mul,List.flatten_cons,cut_0,← hr,YD]
   rfl
  | succ i =>
   have ih:=yU (rows:=rs) (w:=w) (i:=i) (fun x hx=>hw x (List.mem_cons_of_mem _ hx)) (by simpa using hi)
   have drop:∀ (r l:List AV) (o k:Nat),cut (o+r.length) k (r++l)=cut o k l:=by
    intro r l o k
    induction r with
    | nil=>rfl
    | cons a r ih=>rw [List.length_cons,List.cons_append,← Nat.add_assoc,JE,if_neg (by omega)];exact ih
   rw [List.flatten_cons,show (i+1) * w=i * w+r.length by rw [Nat.succ_mul,hr],drop,ih]
   rfl
theorem Rows.at_ {h:Heap} {lo n w tg:Nat} {rows:List (List AV)} {v:AV} (r:Rows h lo n w tg rows v):RowsAt h n w rows v:=by
 refine ⟨fun s=>?_,fun i hi=>?_⟩
 ·rcases r.is with ⟨h1,h2⟩ | ⟨b,_,_,h2,_⟩
  ·subst h1;subst h2;rfl
  ·subst h2;rfl
 ·rcases r.is with ⟨h1,_⟩ | ⟨b,_,hb,h2,h3⟩
  ·subst h1;simp at hi
  ·subst h2
   exact ⟨b,i * w,rows.flatten,w+tg,hb,fun s=>by rw [jq _ _ _ _ _ _ _ _ hi,Nat.zero_add],h3,yU r.wide hi⟩
theorem Rows.len {h:Heap} {lo n w tg:Nat} {rows:List (List AV)} {v:AV} (r:Rows h lo n w tg rows v) (s:St):zq s v=.val (.int .i64 rows.length) s:=r.at_.len s
theorem Rows.scalar {h:Heap} {lo n w tg:Nat} {rows:List (List AV)} {v:AV} (r:Rows h lo n w tg rows v):(∀ t,okA (.val v t)=.val v t)∧cellsOf 1 v=some [v]∧(∀ l,scalars (v::l)=scalars l):=by
 rcases r.is with ⟨_,h2⟩ | ⟨b,_,_,h2,_⟩<;>subst h2<;>exact ⟨fun _=>rfl,rfl,fun _=>rfl⟩
theorem jx:∀ {rows:List (List AV)} {w:Nat},(∀ r ∈ rows,r.length=w)→rows.flatten.length=rows.length * w
 | [],w,_=>by simp
 | r::rs,w,hw=>by
  have:=jx (rows:=rs) (w:=w) (fun x hx=>hw x (List.mem_cons_of_mem _ hx))
  rw [List.flatten_cons,List.length_append,this,hw r (List.mem_cons_self ..),List.length_cons,Nat.succ_mul,Nat.add_comm]
theorem gpA {s:St} {lo w bytes tg:Nat} {rows:List (List AV)} {v:AV} (r:Rows s.h lo s.n w tg rows v) {p sz:Nat} {row:List AV} (hp:s.h.get p=some (.cells row sz)) (hw:row.length=w) (hsc:scalars row=true)
  (hb:(rows.length+1) * bytes≤1000000) (htg:vD (w+tg)=w) (hs:s.n<549755813888) (hlo:lo≤s.n) :
  ∃ v' s',jT false w bytes tg s v (.slice p 0 1 1 false)=.val v' s'∧Rows s'.h lo s'.n w tg (rows++[row]) v'∧s'.n=s.n+1∧(∀ b,b<lo→s'.h.get b=s.h.get b)∧(∀ b,b<s.n→v≠.slice b 0 rows.length rows.length true→s'.h.get b=s.h.get b)∧(∀ k,k≤lo→k≤s.m→k≤s'.m)∧s'.m≤s.m∧v'=.slice s.n 0 (rows.length+1) (rows.length+1) true:=by
 have h1:∀ x,jT false w bytes tg s x (.slice p 0 1 1 false)=wD w bytes tg 1 row s x:=by
  intro x
  have e1:JC w 1 s (.slice p 0 1 1 false)=some row:=by
   show (match s.h.get p with | some (.cells c _)=>cut 0 (1 * w) c | some (.fam c _ k _)=>cut 0 (1 * w) (c.take k) | _=>none)=some row
   rw [hp]
   simp only [Nat.one_mul]
   have cut_0:∀ (k:Nat) (l:List AV),cut 0 k l=YE k l:=by
    intro k l
    cases l with
    | nil=>rfl
    | cons a l=>rfl
   have all:∀ l:List AV,YE l.length l=some l:=by
    intro l
    induction l with
    | nil=>rfl
    | cons a l ih=>rw [List.length_cons,vq,ih];rfl
   rw [cut_0,← hw,all]
  show (match (some 1:Option Nat) with | none=>ARes.fail | some n=>match JC w n s (.slice p 0 1 1 false) with | none=>.fail | some new=>match Nat.beq new.length (n * w) with | false=>.fail | true=>match scalars new with | true=>(wD w bytes tg n new s x) | false=>.fail)=_
  simp only [e1,hw,Nat.one_mul,Nat.beq_refl,hsc]
 rcases r.is with ⟨h2,h3⟩ | ⟨b,hlb,hbn,h3,h4⟩
 ·subst h2;subst h3
  refine ⟨.slice s.n 0 1 1 true,s.new (.cells row (w+tg)),?_,⟨fun x hx=>?_,.inr ⟨s.n,hlo,Nat.lt_succ_self _,rfl,?_⟩⟩,rfl,fun b hb=>?_,fun b hb _=>?_,fun _ _ h=>h,Nat.le_refl _,rfl⟩
  ·rw [h1]
   show (match Nat.beq 1 0 with | true=>ARes.val .nilslice s | false=>match Nat.ble (1 * bytes) limit with | false=>.fail | true=>.val (.slice s.n 0 1 1 true) (s.new (.cells row (w+tg))))=_
   have:Nat.ble (1 * bytes) limit=true:=Nat.ble_eq_true_of_le (by unfold limit;simp at hb;omega)
   rw [this]
  ·simp at hx;subst hx;exact hw
  ·simp only [List.nil_append,List.flatten_cons,List.flatten_nil,List.append_nil]
   exact zM _ _ _ rfl hs
  ·exact zH _ _ _ (by omega)
  ·exact zH _ _ _ (by omega)
 ·subst h3
  have hfl:=jx r.wide
  refine ⟨.slice s.n 0 (rows.length+1) (rows.length+1) true,(s.kill b).new (.cells (rows.flatten++row) (w+tg)),?_,⟨fun x hx=>?_,.inr ⟨s.n,hlo,Nat.lt_succ_self _,by simp,?_⟩⟩,rfl,fun c hc=>?_,fun c hc hne=>?_,fun k hk hm=>?_,jW _ _,rfl⟩
  ·rw [h1]
   unfold wD
   simp only [h4]
   have e1:Nat.ble (rows.length+1) rows.length=false:=by
    cases h:Nat.ble (rows.length+1) rows.length with
    | false=>rfl
    | true=>have:=Nat.le_of_ble_eq_true h;omega
   have e2:Nat.ble ((rows.length+1) * bytes) limit=true:=Nat.ble_eq_true_of_le hb
   simp only [e1,e2,hfl,htg,Nat.zero_add,List.drop_zero,and_self,if_true]
  ·rcases List.mem_append.mp hx with hx | hx
   ·exact r.wide x hx
   ·simp at hx;subst hx;exact hw
  ·rw [List.flatten_append,List.flatten_cons,List.flatten_nil,List.append_nil]
   exact zM _ _ _ rfl hs
  ·rw [zH _ _ _ (by show c≠s.n;omega),St.kill_h,jH _ _ _ _ (by omega)]
  ·rw [zH _ _ _ (by show c≠s.n;omega),St.kill_h,jH _ _ _ _ (fun e=>hne (by rw [e]))]
  ·show k≤yA s.m b
   rw [gV];omega
/-! ### Slices as they come in, copies, parts -/
theorem yJ (k:Nat) (l:List AV):cut 0 k l=YE k l:=by cases l<;>rfl
theorem YD:∀ (r l:List AV),YE r.length (r++l)=some r:=by
 intro r l
 induction r with
 | nil=>exact ZX l
 | cons a r ih=>rw [List.length_cons,List.cons_append,vq,ih];rfl
theorem yr (l:List AV):YE l.length l=some l:=by have:=YD l [];rwa [List.append_nil] at this
theorem YOA:∀ {k:Nat} {l r:List AV},YE k l=some r→∃ t,l=r++t∧r.length=k
 | 0,l,r,h=>by rw [ZX] at h;cases h;exact ⟨l,rfl,rfl⟩
 | k+1,[],r,h=>by cases h
 | k+1,a::l,r,h=>by
  rw [vq] at h
  generalize hq:YE k l=q at h
  cases q with
  | none=>cases h
  | some q =>
   cases h
   obtain ⟨t,h1,h2⟩:=YOA hq
   exact ⟨t,by rw [h1];rfl,by rw [List.length_cons,h2]⟩
theorem cut_some:∀ {o k:Nat} {l r:List AV},cut o k l=some r→∃ a t,l=a++r++t∧a.length=o∧r.length=k
 | 0,k,l,r,h=>by
  rw [yJ] at h
  obtain ⟨t,h1,h2⟩:=YOA h
  exact ⟨[],t,by rw [h1];rfl,rfl,h2⟩
 | o+1,k,[],r,h=>by cases h
 | o+1,k,a::l,r,h=>by
  rw [JE,if_neg (by omega)] at h
  obtain ⟨x,t,h1,h2,h3⟩:=cut_some h
  exact ⟨a::x,t,by rw [h1];rfl,by rw [List.length_cons,h2];omega,h3⟩
theorem Vb:∀ (a l:List AV) (o k:Nat),cut (a.length+o) k (a++l)=cut o k l
 | [],l,o,k=>by rw [List.length_nil,Nat.zero_add,List.nil_append]
 | x::a,l,o,k=>by
  rw [List.length_cons,List.cons_append,show a.length+1+o=(a.length+o)+1 by omega,JE,if_neg (by omega)]
  exact Vb a l o k
theorem wcJ:∀ {o k:Nat} {l r t:List AV},cut o k l=some r→cut o k (l++t)=some r:=by
 intro o k l r t h
 obtain ⟨a,u,h1,h2,h3⟩:=cut_some h
 rw [h1,← h2,List.append_assoc,List.append_assoc]
 have:=Vb a (r++(u++t)) 0 k
 rw [Nat.add_zero] at this
 rw [this,yJ,← h3,YD]
theorem wbJ {o k i w:Nat} {c F r:List AV} (h:cut o k c=some F) (h2:cut i w F=some r):cut (o+i) w c=some r:=by
 obtain ⟨a,t,h3,h4,h5⟩:=cut_some h
 rw [h3,← h4,List.append_assoc,Vb]
 exact wcJ h2
structure Seq (h:Heap) (n w:Nat) (rows:List (List AV)) (v:AV):Prop where
 wide:∀ r ∈ rows,r.length=w
 is:(rows=[]∧v=.nilslice)∨∃ b o cap e c sz,b<n∧v=.slice b o rows.length cap e∧h.get b=some (.cells c sz)∧cut o (rows.length * w) c=some rows.flatten
theorem Seq.at_ {h:Heap} {n w:Nat} {rows:List (List AV)} {v:AV} (r:Seq h n w rows v):RowsAt h n w rows v:=by
 refine ⟨fun s=>?_,fun i hi=>?_⟩
 ·rcases r.is with ⟨h1,h2⟩ | ⟨b,o,cap,e,c,sz,_,h2,_⟩
  ·subst h1;subst h2;rfl
  ·subst h2;rfl
 ·rcases r.is with ⟨h1,_⟩ | ⟨b,o,cap,e,c,sz,hb,h2,h3,h4⟩
  ·subst h1;simp at hi
  ·subst h2
   exact ⟨b,o+i * w,c,sz,hb,fun s=>jq _ _ _ _ _ _ _ _ hi,h3,wbJ h4 (yU r.wide hi)⟩
theorem Seq.grow {h h':Heap} {n n' w:Nat} {rows:List (List AV)} {v:AV} (r:Seq h n w rows v) (hh:∀ b,b<n→h'.get b=h.get b) (hn:n≤n'):Seq h' n' w rows v :=
 ⟨r.wide,r.is.imp id fun ⟨b,o,cap,e,c,sz,h1,h2,h3,h4⟩=>⟨b,o,cap,e,c,sz,by omega,h2,by rw [hh b h1];exact h3,h4⟩⟩
theorem Rows.seq {h:Heap} {lo n w tg:Nat} {rows:List (List AV)} {v:AV} (r:Rows h lo n w tg rows v):Seq h n w rows v :=
 ⟨r.wide,r.is.imp id fun ⟨b,_,h1,h2,h3⟩=>⟨b,0,_,_,_,_,h1,h2,h3,by rw [yJ,← jx r.wide,yr]⟩⟩
theorem Seq.first {s:St} {n w:Nat} {rows:List (List AV)} {v:AV} (r:Seq s.h n w rows v):YPJ v=some rows.length∧JC w rows.length s v=some rows.flatten:=by
 rcases r.is with ⟨h1,h2⟩ | ⟨b,o,cap,e,c,sz,hb,h2,h3,h4⟩
 ·subst h1;subst h2;exact ⟨rfl,rfl⟩
 ·subst h2
  refine ⟨rfl,?_⟩
  show (match s.h.get b with | some (.cells c _)=>cut o (rows.length * w) c | some (.fam c _ k _)=>cut o (rows.length * w) (c.take k) | _=>none)=_
  rw [h3]
  exact h4
theorem Seq.scalar {h:Heap} {n w:Nat} {rows:List (List AV)} {v:AV} (r:Seq h n w rows v):(∀ t,okA (.val v t)=.val v t)∧cellsOf 1 v=some [v]∧(∀ l,scalars (v::l)=scalars l):=by
 rcases r.is with ⟨_,h2⟩ | ⟨b,o,cap,e,c,sz,_,h2,_⟩<;>subst h2<;>exact ⟨fun _=>rfl,rfl,fun _=>rfl⟩
theorem VA:∀ {a b:List AV},scalars a=true→scalars b=true→scalars (a++b)=true
 | [],b,_,h=>h
 | x::a,b,h1,h2=>by
  have e:∀ (x:AV) (l:List AV),scalars (x::l)=(match x.scalar with | true=>scalars l | false=>false):=fun _ _=>rfl
  rw [e] at h1
  rw [List.cons_append,e]
  split at h1
  ·exact VA h1 h2
  ·cases h1
theorem ZA:∀ {rows:List (List AV)},(∀ r ∈ rows,scalars r=true)→scalars rows.flatten=true
 | [],_=>rfl
 | r::rs,h=>by rw [List.flatten_cons];exact VA (h r (List.mem_cons_self ..)) (ZA fun x hx=>h x (List.mem_cons_of_mem _ hx))
structure Own (h:Heap) (lo n w tg:Nat) (rows:List (List AV)) (v:AV):Prop where
 wide:∀ r ∈ rows,r.length=w
 is:(rows=[]∧(v=.nilslice∨∃ b,lo≤b∧b<n∧v=.slice b 0 0 0 false∧h.get b=some (.cells [] 0)))∨(rows≠[]∧∃ b,lo≤b∧b<n∧v=.slice b 0 rows.length rows.length true∧h.get b=some (.cells rows.flatten (w+tg)))
theorem Own.seq {h:Heap} {lo n w tg:Nat} {rows:List (List AV)} {v:AV} (r:Own h lo n w tg rows v):Seq h n w rows v:=by
 refine ⟨r.wide,?_⟩
 rcases r.is with ⟨h1,h2 | ⟨b,_,h3,h4,h5⟩⟩ | ⟨_,b,_,h3,h4,h5⟩
 ·exact .inl ⟨h1,h2⟩
 ·subst h1;exact .inr ⟨b,0,0,false,[],0,h3,h4,h5,by rw [List.length_nil,Nat.zero_mul];rfl⟩
 ·exact .inr ⟨b,0,_,_,_,_,h3,h4,h5,by rw [yJ,← jx r.wide,yr]⟩
theorem Own.mono {h h':Heap} {lo n n' w tg:Nat} {rows:List (List AV)} {v:AV} (r:Own h lo n w tg rows v) (hh:∀ b,lo≤b→b<n→h'.get b=h.get b) (hn:n≤n'):Own h' lo n' w tg rows v:=by
 refine ⟨r.wide,?_⟩
 rcases r.is with ⟨h1,h2 | ⟨b,h0,h3,h4,h5⟩⟩ | ⟨h1,b,h0,h3,h4,h5⟩
 ·exact .inl ⟨h1,.inl h2⟩
 ·exact .inl ⟨h1,.inr ⟨b,h0,by omega,h4,by rw [hh b h0 h3];exact h5⟩⟩
 ·exact .inr ⟨h1,b,h0,by omega,h4,by rw [hh b h0 h3];exact h5⟩
theorem JW {s:St} {n w bytes tg p:Nat} {rows:List (List AV)} {v:AV} (r:Seq s.h n w rows v) (hp:s.h.get p=some (.cells [] 0)) (hpn:p<s.n) (hsc:∀ r ∈ rows,scalars r=true) (hb:rows.length * bytes≤1000000) (hs:s.n<549755813888) :
  ∃ v' s',jT false w bytes tg s (.slice p 0 0 0 false) v=.val v' s'∧Own s'.h p s'.n w tg rows v'∧s.n≤s'.n∧s'.n≤s.n+1∧(∀ b,b<s.n→s'.h.get b=s.h.get b)∧(∀ k,k≤p→k≤s.m→k≤s'.m)∧s'.m≤s.m:=by
 obtain ⟨e1,e2⟩:=r.first
 have e3:Nat.beq rows.flatten.length (rows.length * w)=true:=by rw [jx r.wide];exact Nat.beq_refl _
 have h1:jT false w bytes tg s (.slice p 0 0 0 false) v=wD w bytes tg rows.length rows.flatten s (.slice p 0 0 0 false):=by
  unfold jT
  simp only [e1,e2,e3,ZA hsc]
 rw [h1]
 unfold wD
 simp only [hp,Nat.zero_add,Nat.zero_mul]
 by_cases h0:rows=[]
 ·subst h0
  refine ⟨.slice p 0 0 0 false,s.put p (.cells [] 0),rfl,⟨fun x hx=>(by cases hx),.inl ⟨rfl,.inr ⟨p,Nat.le_refl _,hpn,rfl,zN _ _ _ _ rfl (by omega)⟩⟩⟩,Nat.le_refl _,Nat.le_succ _,fun b hb=>?_,fun k hk hm=>?_,jW _ _⟩
  ·by_cases hbp:b=p
   ·subst hbp;rw [zN _ _ _ _ rfl (by omega),hp]
   ·exact zL _ _ _ _ hbp
  ·show k≤yA s.m p
   rw [gV];omega
 ·have hpos:0<rows.length:=List.length_pos_iff.mpr h0
  have e4:Nat.ble rows.length 0=false:=by
   cases h:Nat.ble rows.length 0 with
   | false=>rfl
   | true=>have:=Nat.le_of_ble_eq_true h;omega
  have e5:Nat.ble (rows.length * bytes) limit=true:=Nat.ble_eq_true_of_le hb
  have e6:cut 0 0 ([]:List AV)=some []:=rfl
  simp only [e4,e5,e6,List.nil_append]
  exact ⟨_,_,rfl,⟨r.wide,.inr ⟨h0,s.n,by omega,Nat.lt_succ_self _,rfl,zM _ _ _ rfl hs⟩⟩,Nat.le_succ _,Nat.le_refl _,fun b hb=>zH _ _ _ (by omega),fun _ _ h=>h,Nat.le_refl _⟩
variable {P:Program}
theorem JZA:∀ (a l vs:List AV) (o:Nat),over (a.length+o) vs (a++l)=(over o vs l).map (a++·)
 | [],l,vs,o=>by
  rw [List.length_nil,Nat.zero_add,List.nil_append]
  cases over o vs l<;>rfl
 | x::a,l,vs,o=>by
  rw [List.length_cons,List.cons_append,show a.length+1+o=(a.length+o)+1 by omega,Js,if_neg (by omega),show a.length+o+1 - 1=a.length+o by omega,JZA a l vs o]
  cases over o vs l<;>rfl
theorem guJ:∀ (vs r l:List AV),vs.length=r.length→over 0 vs (r++l)=some (vs++l):=by
 have h1:∀ (vs r l:List AV),vs.length=r.length→wP vs (r++l)=some (vs++l):=by
  intro vs
  induction vs with
  | nil=>intro r l h;cases r with
   | nil=>exact Vz _
   | cons _ _=>simp at h
  | cons v vs ih=>intro r l h;cases r with
   | nil=>simp at h
   | cons a r=>rw [List.cons_append,YQ,ih r l (by simpa using h)];rfl
 intro vs r l h
 have:over 0 vs (r++l)=wP vs (r++l):=by
  cases hq:r++l with
  | nil=>rfl
  | cons a c=>rw [Js,if_pos rfl]
 rw [this,h1 vs r l h]
theorem zpA {rows:List (List AV)} {w j:Nat} {row:List AV} (hw:∀ r ∈ rows,r.length=w) (hj:j<rows.length) (hr:row.length=w):over (j * w) row rows.flatten=some (rows.set j row).flatten:=by
 have e:rows=rows.take j++rows[j]::rows.drop (j+1):=by rw [List.getElem_cons_drop];exact (List.take_append_drop j rows).symm
 have l1:(rows.take j).flatten.length=j * w:=by
  rw [jx (w:=w) (fun r hr=>hw r (List.mem_of_mem_take hr)),List.length_take,Nat.min_eq_left (by omega)]
 rw [List.set_eq_take_append_cons_drop,if_pos hj]
 conv=>lhs;rw [e]
 rw [List.flatten_append,List.flatten_cons,List.flatten_append,List.flatten_cons]
 have:=JZA (rows.take j).flatten (rows[j]++(rows.drop (j+1)).flatten) row 0
 rw [Nat.add_zero,l1] at this
 rw [this,guJ row rows[j] _ (by rw [hr,hw _ (List.getElem_mem hj)])]
 rfl
theorem WT (z:List AV):∀ n,vV z n=(List.replicate n z).flatten
 | 0=>rfl
 | n+1=>by
  show z++vV z n=_
  rw [WT z n,List.replicate_succ,List.flatten_cons]
theorem WE (z:List AV) (bytes n:Nat) (s:St) (h1:n * bytes≤1000000) (h2:n≤1000000):VO z bytes s (.int .i64 (n:Int)) (.int .i64 (n:Int))=.val (.slice s.n 0 n n false) (s.new (.cells (List.replicate n z).flatten 0)):=by
 show (match Nat.ble n n with | false=>ARes.fail | true=>match Nat.ble (n * bytes) limit with | false=>.fail | true=>match Nat.ble n limit with | false=>.fail | true=>.val (.slice s.n 0 n n false) (s.new (.cells (vV z n) 0)))=_
 rw [Nat.ble_eq_true_of_le (Nat.le_refl n),Nat.ble_eq_true_of_le (by unfold limit;omega:n * bytes≤limit),Nat.ble_eq_true_of_le (by unfold limit;omega:n≤limit),WT]
theorem WG (z:List AV) (bytes:Nat) (l c:Arg) (L:Env) (s:St):Wi z bytes l c L s=VO z bytes s (l.ev L) (c.ev L):=Eq.trans (Eq.refl _) (Eq.refl _)
theorem Vd:∀ {p:Nat} {c:List AV} {v:AV},cut p 1 c=some [v]→nth c p=v
 | p,[],v,h=>by cases p<;>cases h
 | 0,a::c,v,h=>by
  rw [yJ,vq,ZX] at h
  cases h
  rfl
 | p+1,a::c,v,h=>by
  rw [JE,if_neg (by omega),Nat.add_sub_cancel] at h
  rw [wR,if_neg (by omega),Nat.add_sub_cancel]
  exact Vd h
theorem WF {P:Program} (L:Env) (s:St):yL P [] L [] s=.val (.tup []) s:=rfl
theorem gbA {X:FuncId→List Nat} {n l:Nat} {args:List AV} {s s1 s2:St} {r r1 r2:ALoop} {a b:K} {L L2:Env} {d d2:List Nat} {e:Ex} (hl:s.h.get l=some (.loop r)) (hr:args.length=r.params.length)
  (ha:jh P r.xs r.nt r.assign=some a) (hb:jh P r.xs r.nt r.body=some b) (h1:a (call P X n) ⟨r.fn,some l,r.nt,r.xs⟩ (vE r.tmps r.params args) [] s=.done .norm L d s1)
  (h2:s1.h.get l=some (.loop r1)) (h3:r1.state=.ready) (h4:b (call P X n) ⟨r.fn,some l,r.nt,r.xs⟩ L [] (s1.put l (.loop { r1 with state:=.busy }))=.done e L2 d2 s2) (h5:s2.h.get l=some (.loop r2)) :
  call P X (n+1) (.yield l) args s=.val (.bool (VW e)) (s2.put l (.loop { r2 with state:=if VW e then .ready else .done,pending:=YZ e })):=by
 have e1:yv s l=some r:=by unfold yv;rw [hl]
 have e2:yv s1 l=some r1:=by unfold yv;rw [h2]
 have e3:yv s2 l=some r2:=by unfold yv;rw [h5]
 show jP P X (call P X n) (.yield l) args s=_
 unfold jP
 simp only [e1]
 unfold jkA
 rw [if_neg (by simp [hr])]
 simp only [ha,hb,h1,e2,h3,h4]
 unfold YB
 simp only [e3]
theorem JkJ {f:Arg} {ps:List Tmp} {a b:Code} {cl:zR} {c:Ctx} {L:Env} {d:List Nat} {s s2:St} {v:AV} {r:ALoop} (hc:c.rnd=none)
  (h:wh cl [.yield (s.n+1)] ((s.new .dfr).new (.loop ⟨.ready,none,c.fn,L,ps,a,b,s.n,c.nt,c.xs⟩)) (f.ev L)=.val v s2) (hr:s2.h.get (s.n+1)=some (.loop r)) (hb:r.state≠.busy) :
  wx f ps a b cl c L d s=JuA L (s.n::d) (s2.put (s.n+1) (.loop { r with state:=.exhausted })) r.pending:=by
 have e1:gD c L d ps a b s=some (s.n::d,(s.new .dfr).new (.loop ⟨.ready,none,c.fn,L,ps,a,b,s.n,c.nt,c.xs⟩)):=by unfold gD;rw [hc]
 have e2:Nat.sub ((s.new .dfr).new (.loop ⟨.ready,none,c.fn,L,ps,a,b,s.n,c.nt,c.xs⟩)).n 1=s.n+1:=rfl
 have e3:yv s2 (s.n+1)=some r:=by unfold yv;rw [hr]
 unfold wx
 simp only [e1]
 rw [e2,h]
 simp only
 rw [e3]
 cases hst:r.state with
 | busy=>exact absurd hst hb
 | _=>simp only [hst]
theorem wKA (L:Env) (t:Tmp) (a:AV):vE L [t] [a]=L.set t a:=rfl
theorem jyA (P:Program) (rs:List ResultVar) (x:Nat) (L:Env) (s:St) (h:s.h.get x=some .dfr):yL P rs L [x] s=yL P rs L [] (s.kill x):=by
 unfold yL
 have:gL s [x]=some (s.kill x):=by
  show (match s.h.get x with | some .dfr=>gL (s.kill x) [] | _=>none)=_
  rw [h];rfl
 rw [this]
 rfl
theorem wQ (f:FuncId) (x y:List AV) (s:St):okA (.val (.func f x y) s)=.val (.func f x y) s:=Eq.trans (Eq.refl _) (Eq.refl _)
theorem wE (s:St) (b c:Nat) (h:b≠c):(s.kill c).h.get b=s.h.get b:=by rw [St.kill_h,jH _ _ _ _ h]
theorem ziA {f:Arg} {ps:List Tmp} {a b:Code} {cl:zR} {c:Ctx} {L:Env} {s s2:St} {v:AV} {r:ALoop} (hc:c.rnd=none)
  (h:wh cl [.yield (s.n+1)] ((s.new .dfr).new (.loop ⟨.ready,none,c.fn,L,ps,a,b,s.n,c.nt,c.xs⟩)) (f.ev L)=.val v s2) (hr:s2.h.get (s.n+1)=some (.loop r)) (hb:r.state=.ready) (hp:r.pending=none) :
  wx f ps a b cl c L [] s=.done .norm L [s.n] (s2.put (s.n+1) (.loop { r with state:=.exhausted })):=by
 rw [JkJ hc h hr (by rw [hb];simp),hp]
 rfl
structure Turn (d:Nat) (u t:St) (k:Nat):Prop where
 same:∀ b,b<u.n→b≠d→t.h.get b=u.h.get b
 n:u.n≤t.n
 le:t.n≤u.n+k
structure Takes {α:Type} (P:Program) (X:FuncId→List Nat) (N l k0 w rm:Nat) (own:Nat→Prop) (ev:α→AV) (T:List α) (μ:List α→Nat→Prop) (J:List α→Heap→Nat→Prop):Prop where
 mono:∀ p m m',m'≤m→μ p m→μ p m'
 nil:∀ m,μ [] m
 few:k0≤1000000000
 keep:∀ p h h' n n',(∀ b,b<n→h'.get b=h.get b)→n≤n'→J p h n→J p h' n'
 take:∀ p x rest (s:St),p++x::rest=T→J p s.h s.n→l<s.n→s.n+rm≤far→w≤s.m→s.m≤far→μ p s.m→∃ s',Abs.call P X N (.yield l) [ev x] s=.val (.bool true) s'∧J (p++[x]) s'.h s'.n ∧
  (∀ y,y<s.n→y≠l→¬ own y→s'.h.get y=s.h.get y)∧s.n≤s'.n∧s'.n≤s.n+k0∧w≤s'.m∧s'.m≤s.m∧s'.m≤l∧μ (p++[x]) s'.m
def Hands {α:Type} (P:Program) (X:FuncId→List Nat) (N Z cb:Nat) (H:Heap) (rd:Nat→Prop) (g:FuncId) (cap:List AV) (ev:α→AV) (T:List α):Prop :=
 ∀ (l k0 w rm:Nat) (own:Nat→Prop) (μ:List α→Nat→Prop) (J:List α→Heap→Nat→Prop) (s:St),Takes P X N l k0 w rm own ev T μ J→(∀ y,own y→¬ rd y)→¬ rd l→(∀ y,rd y→y<s.n∧s.h.get y=H.get y)→l<s.n→w≤l→s.n+60 * (k0+cb)+rm+1000≤far→J [] s.h s.n→w≤s.m→s.m≤far →
  ∃ s',Abs.call P X Z (.fn g) (.yield l::cap) s=.val (.tup []) s'∧J T s'.h s'.n∧(∀ y,y<s.n→y≠l→¬ own y→s'.h.get y=s.h.get y)∧s.n≤s'.n∧s'.n≤s.n+60 * (k0+cb)∧w≤s'.m∧s'.m≤s.m∧μ T s'.m
def vy (c:Ctx) (L:Env) (ps:List Tmp) (a b:Code) (s:St):ALoop:=⟨.ready,none,c.fn,L,ps,a,b,s.n,c.nt,c.xs⟩
theorem JtA:YZ .norm=none:=rfl
theorem YAA:VW .norm=true:=rfl
theorem vEA {α:Type} {P:Program} {X:FuncId→List Nat} {M Z cb:Nat} {H:Heap} {rd:Nat→Prop} {g:FuncId} {cap:List AV} {ev:α→AV} {T:List α} (hh:Hands P X (M+1) Z cb H rd g cap ev T) {f:Arg} {ps:List Tmp} {a b:Code} {ka kb:K} {c:Ctx} {L:Env} {s:St} (hc:c.rnd=none) (hf:f.ev L=.func g [] cap) (hps:ps.length=1) (ha:jh P c.xs c.nt a=some ka) (hb:jh P c.xs c.nt b=some kb)
  (k0 w rm:Nat) (own:Nat→Prop) (μ:List α→Nat→Prop) (μm:∀ p m m',m'≤m→μ p m→μ p m') (μ0:∀ m,μ [] m) (I:List α→Heap→Nat→Prop) (hk0:k0≤1000000000) (hH:∀ y,rd y→y<s.n∧s.h.get y=H.get y) (ho:∀ y,own y→¬ rd y∧y≠s.n∧y≠s.n+1) (hw:w≤s.n) (hwm:w≤s.m) (hm:s.m≤far) (hs:s.n+60 * (k0+cb)+rm+10000≤far)
  (hI0:I [] s.h s.n) (keep:∀ p h h' n n',(∀ y,y<n→y≠s.n+1→h'.get y=h.get y)→s.n≤n→n≤n'→I p h n→I p h' n')
  (round:∀ p x rest (t:St),p++x::rest=T→I p t.h t.n→(∀ y,y<s.n→¬ own y→t.h.get y=s.h.get y)→s.n+2≤t.n→t.n+rm≤far→w≤t.m→t.m≤far→μ p t.m→∃ L1 t1 L2 t2,ka (Abs.call P X M) ⟨c.fn,some (s.n+1),c.nt,c.xs⟩ (vE L ps [ev x]) [] t=.done .norm L1 [] t1∧t1.h.get (s.n+1)=t.h.get (s.n+1)∧kb (Abs.call P X M) ⟨c.fn,some (s.n+1),c.nt,c.xs⟩ L1 [] (t1.put (s.n+1) (.loop { vy c L ps a b s with state:=.busy }))=.done .norm L2 [] t2∧I (p++[x]) t2.h t2.n∧t2.h.get (s.n+1)=some (.loop { vy c L ps a b s with state:=.busy })∧(∀ y,y<t.n→y≠s.n+1→¬ own y→t2.h.get y=t.h.get y)∧t.n≤t2.n∧t2.n≤t.n+k0∧w≤t2.m∧t2.m≤t.m∧μ (p++[x]) t2.m) :
  ∃ s',wx f ps a b (Abs.call P X Z) c L [] s=.done .norm L [s.n] s'∧I T s'.h s'.n∧(∀ y,y<s.n→¬ own y→s'.h.get y=s.h.get y)∧s'.h.get s.n=some .dfr∧s.n+2≤s'.n∧s'.n≤s.n+2+60 * (k0+cb)∧w≤s'.m∧s'.m≤s.m∧μ T s'.m:=by
 have hff:far=1000000000:=rfl
 obtain ⟨S0,hS0⟩:∃ S0:St,S0=(s.new .dfr).new (.loop (vy c L ps a b s)):=⟨_,rfl⟩
 have n0:S0.n=s.n+2:=by rw [hS0];rfl
 have m0:S0.m=s.m:=by rw [hS0];rfl
 have g0:∀ y,y<s.n→S0.h.get y=s.h.get y:=fun y hy=>by rw [hS0,zH _ _ _ (by rw [zW];omega),zH _ _ _ (by omega)]
 have gd:S0.h.get s.n=some .dfr:=by rw [hS0,zH _ _ _ (by rw [zW];omega)];exact zM _ _ _ rfl (by omega)
 have gl:S0.h.get (s.n+1)=some (.loop (vy c L ps a b s)):=by rw [hS0];exact zM _ _ _ rfl (by rw [zW];omega)
 obtain ⟨s2,e2,⟨j1,j2,j3,j4,j5⟩,k2,k3,k4,k5,k6,k7⟩:=hh (s.n+1) k0 w rm own μ (fun p h n=>h.get (s.n+1)=some (.loop (vy c L ps a b s))∧I p h n∧(∀ y,y<s.n→¬ own y→h.get y=s.h.get y)∧h.get s.n=some .dfr∧s.n+1<n) S0
  ⟨μm,μ0,hk0,fun p h h' n n' hb hn ⟨j1,j2,j3,j4,j5⟩=>⟨(hb _ (by omega)).trans j1,keep p h h' n n' (fun y hy _=>hb y hy) (by omega) hn j2,fun y hy ho'=>(hb y (by omega)).trans (j3 y hy ho'),(hb _ (by omega)).trans j4,by omega⟩,fun p x rest t ht ⟨j1,j2,j3,j4,j5⟩ hl hfar hwt hmt hμ=>by
   obtain ⟨L1,t1,L2,t2,r1,r2,r3,r4,r5,r6,r7,r8,r9,r10,r11⟩:=round p x rest t ht j2 j3 (by omega) (by omega) hwt hmt hμ
   have hcr:=gbA (P:=P) (X:=X) (n:=M) (l:=s.n+1) (args:=[ev x]) (r:=vy c L ps a b s) (r1:=vy c L ps a b s) j1 hps.symm ha hb r1 (r2.trans j1) rfl r3 r5
   rw [YAA,JtA] at hcr
   refine ⟨_,hcr,⟨zN _ _ _ _ rfl (by omega),keep (p++[x]) t2.h _ t2.n _ (fun y _ hy=>zL _ _ _ _ hy) (by omega) (Nat.le_refl _) r4,fun y hy ho'=>?_,?_,by rw [jB];omega⟩,fun y hy hyl hyo=>?_,by rw [jB];omega,by rw [jB];omega,?_,?_,?_,?_⟩
   ·rw [zL _ _ _ _ (by omega),r6 y (by omega) (by omega) ho'];exact j3 y hy ho'
   ·rw [zL _ _ _ _ (by omega),r6 s.n (by omega) (by omega) (fun h=>(ho _ h).2.1 rfl)];exact j4
   ·rw [zL _ _ _ _ hyl];exact r6 y hy hyl hyo
   ·simp only [St.put,zQ];omega
   ·simp only [St.put,zQ];omega
   ·simp only [St.put,zQ];omega
   ·exact μm _ _ _ (by simp only [St.put,zQ];omega) r11⟩
  (fun y hy=>(ho y hy).1) (fun h=>by have:=(hH _ h).1;omega) (fun y hy=>⟨by have:=(hH y hy).1;omega,(g0 y (hH y hy).1).trans (hH y hy).2⟩) (by omega) (by omega) (by omega) ⟨gl,keep [] s.h S0.h s.n S0.n (fun y hy _=>g0 y hy) (Nat.le_refl _) (by omega) hI0,fun y hy _=>g0 y hy,gd,by omega⟩ (by omega) (by omega)
 have hr:=ziA (f:=f) (ps:=ps) (a:=a) (b:=b) (cl:=Abs.call P X Z) (c:=c) (L:=L) (s:=s) (s2:=s2) (v:=.tup []) (r:=vy c L ps a b s) hc (by rw [hf,zQA];rw [hS0] at e2;exact e2) j1 rfl rfl
 refine ⟨_,hr,keep T s2.h _ s2.n _ (fun y _ hy=>zL _ _ _ _ hy) (by omega) (Nat.le_refl _) j2,fun y hy ho'=>?_,?_,by rw [jB];omega,by rw [jB];omega,?_,?_,μm _ _ _ (by simp only [St.put,zQ];omega) k7⟩
 ·rw [zL _ _ _ _ (by omega)];exact j3 y hy ho'
 ·rw [zL _ _ _ _ (by omega)];exact j4
 ·simp only [St.put,zQ];omega
 ·simp only [St.put,zQ];omega
end Go.Abs
set_option maxRecDepth 10000
namespace Go.Proofs.Ytoklbkgcclkejaa.walk
open Go.Abs Go.Proofs.Ytoklbkgcclkejaa.code
theorem ZO (N:Nat) (hN:1≤N) (x lo hi:Int) (s:St) (h0:lo≤x) (h1:x≤hi) (hs:s.n≤far):call Try.prog X N (.fn 77) [.int .i64 x,.int .i64 lo,.int .i64 hi] s=.val (.int .i64 0) s:=by
 obtain ⟨n,rfl⟩:∃ n,N=n+1:=⟨N - 1,by omega⟩
 refine gI (s':=⟨s.h,s.n,far⟩) Try.func77 ?_ rfl hs
 have e0:decide (x<lo)=false:=by simp;omega
 have e1:decide (hi<x)=false:=by simp;omega
 rw [zcQ]
 simp only [res77,K77r0,K77r1s7,K77r1s6,K77r1s5,K77r1,K77r2,K77r3,K77,Abs.W,reduceIte,Nat.reduceEqDiff,Nat.reduceAdd,Nat.reduceSub,e0,e1]
theorem zPA (N:Nat) (hN:1≤N) (x lo hi:Int) (s:St) (h0:lo≤x) (h1:x≤hi) (hs:s.n≤far):call Try.prog X N (.fn 62) [.int .i64 x,.int .i64 lo,.int .i64 hi] s=.val (.int .i64 0) s:=by
 obtain ⟨n,rfl⟩:∃ n,N=n+1:=⟨N - 1,by omega⟩
 refine gI (s':=⟨s.h,s.n,far⟩) Try.func62 ?_ rfl hs
 have e0:decide (x<lo)=false:=by simp;omega
 have e1:decide (hi<x)=false:=by simp;omega
 rw [zrQ]
 simp only [res62,K62r0,K62r1,K62r2,K62r3,K62r4,K62r5,K62,Abs.W,reduceIte,Nat.reduceEqDiff,Nat.reduceAdd,Nat.reduceSub,e0,e1]
theorem wFJ (cl:zR) (cx:Ctx) (k b o cap:Nat) (e:Bool) (c:List AV) (sz:Nat) (s:St) (hb:s.h.get b=some (.cells c sz)) (hc:∀ j,j<k→nth c (o+j)=.int .i64 0) (hk:k≤1000) :
  ∀ (m i fuel:Nat) (L:Env),i+m=k→m<fuel→L.find 6=.slice b o k cap e→L.find 7=.int .i64 k→L.find 8=.int .i64 i→L.find 3=.int .i64 0 →
  ∃ L',jK K51l0 fuel cl cx L [] s=.done (.exit 0) L' [] s∧L'.find 3=.int .i64 0
 | m,i,0,L,hm,hf,h6,h7,h8,h3=>by omega
 | m,i,fuel+1,L,hm,hf,h6,h7,h8,h3=>by
  by_cases hlt:i<k
  ·obtain ⟨m',rfl⟩:∃ m',m=m'+1:=⟨m - 1,by omega⟩
   have e0:decide ((i:Int)<(k:Int))=true:=by simp;omega
   have e1:=hc i hlt
   have e2:decide ((0:Int)=0)=true:=rfl
   obtain ⟨L',hL,h3'⟩:=wFJ cl cx k b o cap e c sz s hb hc hk m' (i+1) fuel ((((L.set 9 (.bool true)).set 5 (.int .i64 0)).set 14 (.bool false)).set 8 (.int .i64 ((i:Int)+1))) (by omega) (by omega)
    (by simp only [efs,h6,reduceIte,Nat.reduceEqDiff]) (by simp only [efs,h7,reduceIte,Nat.reduceEqDiff]) (by simp only [efs,reduceIte];rfl) (by simp only [efs,h3,reduceIte,Nat.reduceEqDiff])
   refine ⟨L',?_,h3'⟩
   rw [← hL,ww]
   simp only [wQA,K51r0,K51r1,K51r2,K51r3,K51r4,K51r5,K51r6,K51r7,K51l0,K51r8,K51,Abs.W,reduceIte,Nat.reduceEqDiff,Nat.reduceAdd,Nat.reduceSub,h6,h7,h8,h3,e0,jq _ _ _ _ _ _ _ _ hlt,Nat.mul_one,hb,e1,e2,za _ (i:Int) 1 (by omega)]
  ·have e0:decide ((i:Int)<(k:Int))=false:=by simp;omega
   refine ⟨L.set 9 (.bool false),?_,by simp only [efs,h3,reduceIte,Nat.reduceEqDiff]⟩
   rw [ww]
   simp only [wQA,K51r0,K51r1,K51r2,K51r3,K51r4,K51r5,K51r6,K51r7,K51l0,K51r8,K51,Abs.W,reduceIte,Nat.reduceEqDiff,Nat.reduceAdd,Nat.reduceSub,h6,h7,h8,h3,e0]
theorem or_ok (N:Nat) (hN:1≤N) (k b o cap:Nat) (e:Bool) (c:List AV) (sz:Nat) (s:St) (hb:s.h.get b=some (.cells c sz)) (hc:∀ j,j<k→nth c (o+j)=.int .i64 0) (hk:k≤1000) (hs:s.n≤far) :
  call Try.prog X N (.fn 51) [.slice b o k cap e] s=.val (.int .i64 0) s:=by
 obtain ⟨n,rfl⟩:∃ n,N=n+1:=⟨N - 1,by omega⟩
 refine zj Try.func51 (fun u uh un um=>?_) rfl
 obtain ⟨L',hL,h3⟩:=wFJ (call Try.prog X n) ⟨51,none,Try.f51.ntmps,X 51⟩ k b o cap e c sz u (by rw [uh];exact hb) hc hk k 0 rounds
  (.cons 0 (.slice b o k cap e) (.cons 2 (.int .i64 0) (.cons 3 (.int .i64 0) (.cons 6 (.slice b o k cap e) (.cons 7 (.int .i64 k) (.cons 8 (.int .i64 0) .nil)))))) (by omega) (by unfold rounds;omega) rfl rfl rfl rfl
 rw [wYJ]
 simp only [wQA,K51r0,K51r1,K51r2,K51r3,K51r4,K51r5,K51r6,K51r7,K51r8,K51,Abs.W,reduceIte,Nat.reduceEqDiff,Nat.reduceAdd,Nat.reduceSub,hL,h3]
 exact ⟨_,rfl,by rw [um,un];exact hs⟩
def jhQ:List AV→Bool
 | []=>true
 | .int .i64 0::r=>jhQ r
 | _=>false
theorem jZJ:∀ {c:List AV},jhQ c=true→∀ j,j<c.length→nth c j=.int .i64 0
 | [],_,j,hj=>by simp at hj
 | a::r,h,j,hj=>by
  unfold jhQ at h
  split at h
  ·rename_i heq;cases heq
  ·rename_i heq
   cases heq
   rw [wR]
   cases j with
   | zero=>rfl
   | succ j=>rw [if_neg (by omega)];exact jZJ h j (by simpa using hj)
  ·cases h
theorem yXJ (N:Nat) (hN:1≤N) (k:Nat) (c:List AV) (t:St) (hz:jhQ c=true) (hl:c.length=k) (hk:k≤1000) (ht:t.n+1≤far) :
  call Try.prog X N (.fn 51) [.slice t.n 0 k k false] (t.new (.cells c 0))=.val (.int .i64 0) (t.new (.cells c 0)):=by
 obtain ⟨n,rfl⟩:∃ n,N=n+1:=⟨N - 1,by omega⟩
 have hf:=hfar
 refine or_ok (n+1) (by omega) k t.n 0 k false c 0 _ (zM _ _ _ rfl (by omega)) (fun j hj=>?_) hk (by rw [zW];omega)
 rw [Nat.zero_add]
 exact jZJ hz j (by omega)
theorem veA (N:Nat) (hN:1≤N) (t:St) (ht:t.n+1≤far):call Try.prog X N (.fn 51) [.slice t.n 0 2 2 false] (t.new (.cells [.int .i64 0,.int .i64 0] 0))=.val (.int .i64 0) (t.new (.cells [.int .i64 0,.int .i64 0] 0)) :=
 yXJ N hN 2 _ t rfl rfl (by omega) ht
theorem WfJ (N:Nat) (hN:1≤N) (t:St) (ht:t.n+1≤far):call Try.prog X N (.fn 51) [.slice t.n 0 4 4 false] (t.new (.cells [.int .i64 0,.int .i64 0,.int .i64 0,.int .i64 0] 0))=.val (.int .i64 0) (t.new (.cells [.int .i64 0,.int .i64 0,.int .i64 0,.int .i64 0] 0)) :=
 yXJ N hN 4 _ t rfl rfl (by omega) ht
theorem WeJ (N:Nat) (hN:1≤N) (t:St) (ht:t.n+1≤far):call Try.prog X N (.fn 51) [.slice t.n 0 6 6 false] (t.new (.cells [.int .i64 0,.int .i64 0,.int .i64 0,.int .i64 0,.int .i64 0,.int .i64 0] 0))=.val (.int .i64 0) (t.new (.cells [.int .i64 0,.int .i64 0,.int .i64 0,.int .i64 0,.int .i64 0,.int .i64 0] 0)) :=
 yXJ N hN 6 _ t rfl rfl (by omega) ht
theorem WVJ (N:Nat) (hN:2≤N) (x y lo hi:Int) (s:St) (h0:lo≤x) (h1:x≤y) (h2:y≤hi) (hs:s.n+100≤far) :
  call Try.prog X N (.fn 95) [.agg [.int .i64 x,.int .i64 y],.int .i64 lo,.int .i64 hi] s=.val (.int .i64 0) s:=by
 obtain ⟨n,rfl⟩:∃ n,N=n+2:=⟨N - 2,by omega⟩
 refine zj Try.func95 (fun u uh un um=>?_) rfl
 have hf:=hfar
 rw [zMQ]
 have e0:decide (y<x)=false:=by simp;omega
 simp (disch:=first|omega|(with_unfolding_all exact rfl)|(simp only[zW,jB,jF];omega)|(refine jU ?_;simp only[jF];omega)) only [res95,K95r0,K95r1,K95r2,K95r3,K95r4,K95r5,K95r6,K95,Abs.W,reduceIte,Nat.reduceEqDiff,Nat.reduceAdd,Nat.reduceSub,e0,ZO,veA,um]
 exact ⟨_,rfl,by simp only [zW,jF];omega⟩
end Go.Proofs.Ytoklbkgcclkejaa.walk
namespace Go.Abs
variable {P:Program}
structure Blk (h:Heap) (n b w tg:Nat) (rows:List (List AV)) (v:AV):Prop where
 wide:∀ r ∈ rows,r.length=w
 is:∃ e sz,v=.slice b 0 rows.length rows.length e∧b<n∧h.get b=some (.cells rows.flatten sz)∧(e=true→sz=w+tg)
theorem Blk.mono {h h':Heap} {n n' b w tg:Nat} {rows:List (List AV)} {v:AV} (r:Blk h n b w tg rows v) (hh:h'.get b=h.get b) (hn:n≤n'):Blk h' n' b w tg rows v :=
 ⟨r.wide,by obtain ⟨e,sz,h1,h2,h3,h4⟩:=r.is;exact ⟨e,sz,h1,by omega,by rw [hh];exact h3,h4⟩⟩
theorem Blk.lt {h:Heap} {n b w tg:Nat} {rows:List (List AV)} {v:AV} (r:Blk h n b w tg rows v):b<n:=by obtain ⟨e,sz,h1,h2,h3,h4⟩:=r.is;exact h2
theorem Blk.okA {h:Heap} {n b w tg:Nat} {rows:List (List AV)} {v:AV} (r:Blk h n b w tg rows v) (t:St):Abs.okA (.val v t)=.val v t:=by obtain ⟨e,sz,h1,h2,h3,h4⟩:=r.is;subst h1;rfl
theorem Blk.scal {h:Heap} {n b w tg:Nat} {rows:List (List AV)} {v:AV} (r:Blk h n b w tg rows v):v.scalar=true:=by obtain ⟨e,sz,h1,h2,h3,h4⟩:=r.is;subst h1;rfl
theorem Blk.cells {h:Heap} {n b w tg:Nat} {rows:List (List AV)} {v:AV} (r:Blk h n b w tg rows v):cellsOf 1 v=some [v]:=by obtain ⟨e,sz,h1,h2,h3,h4⟩:=r.is;subst h1;rfl
theorem Blk.len {h:Heap} {n b w tg:Nat} {rows:List (List AV)} {v:AV} (r:Blk h n b w tg rows v) (s:St):zq s v=.val (.int .i64 rows.length) s:=by obtain ⟨e,sz,h1,h2,h3,h4⟩:=r.is;subst h1;rfl
theorem Blk.get {h:Heap} {n b w tg:Nat} {rows:List (List AV)} {v:AV} (r:Blk h n b w tg rows v):∃ sz,h.get b=some (.cells rows.flatten sz):=by obtain ⟨e,sz,h1,h2,h3,h4⟩:=r.is;exact ⟨sz,h3⟩
theorem Blk.ixs {h:Heap} {n b w tg:Nat} {rows:List (List AV)} {v:AV} (r:Blk h n b w tg rows v) {i:Nat} (hi:i<rows.length) (s:St):jX w s v (.int .i64 i)=.val (.ptr b (i * w)) s:=by
 obtain ⟨e,sz,h1,h2,h3,h4⟩:=r.is
 subst h1
 rw [jq _ _ _ _ _ _ _ _ hi,Nat.zero_add]
theorem Blk.cut {h:Heap} {n b w tg:Nat} {rows:List (List AV)} {v:AV} (r:Blk h n b w tg rows v) {i:Nat} (hi:i<rows.length):Abs.cut (i * w) w rows.flatten=some rows[i]:=yU r.wide hi
theorem Blk.at_ {h:Heap} {n b w tg:Nat} {rows:List (List AV)} {v:AV} (r:Blk h n b w tg rows v):RowsAt h n w rows v :=
 ⟨r.len,fun i hi=>by
  obtain ⟨sz,hg⟩:=r.get
  exact ⟨b,i * w,_,sz,r.lt,fun s=>r.ixs hi s,hg,r.cut hi⟩⟩
theorem gqA {s:St} {b w bytes tg:Nat} {rows:List (List AV)} {v:AV} (r:Blk s.h s.n b w tg rows v) {p sz:Nat} {row:List AV} (hp:s.h.get p=some (.cells row sz)) (hw:row.length=w) (hsc:scalars row=true)
  (hb:(rows.length+1) * bytes≤1000000) (htg:vD (w+tg)=w) (hs:s.n<549755813888) :
  ∃ s',jT false w bytes tg s v (.slice p 0 1 1 false)=.val (.slice s.n 0 (rows.length+1) (rows.length+1) true) s'∧Blk s'.h s'.n s.n w tg (rows++[row]) (.slice s.n 0 (rows.length+1) (rows.length+1) true)∧s'.n=s.n+1∧(∀ c,c<s.n→c≠b→s'.h.get c=s.h.get c)∧(∀ k,k≤b→k≤s.m→k≤s'.m)∧s'.m≤s.m:=by
 have e1:JC w 1 s (.slice p 0 1 1 false)=some row:=by
  show (match s.h.get p with | some (.cells c _)=>Abs.cut 0 (1 * w) c | some (.fam c _ k _)=>Abs.cut 0 (1 * w) (c.take k) | _=>none)=some row
  rw [hp]
  simp only [Nat.one_mul]
  rw [yJ,← hw,yr]
 have h1:jT false w bytes tg s v (.slice p 0 1 1 false)=wD w bytes tg 1 row s v:=by
  show (match (some 1:Option Nat) with | none=>ARes.fail | some n=>match JC w n s (.slice p 0 1 1 false) with | none=>.fail | some new=>match Nat.beq new.length (n * w) with | false=>.fail | true=>match scalars new with | true=>(wD w bytes tg n new s v) | false=>.fail)=_
  simp only [e1,hw,Nat.one_mul,Nat.beq_refl,hsc]
 obtain ⟨e,sz',h2,h3,h4,h5⟩:=r.is
 have hfl:=jx r.wide
 have g1:Nat.ble (rows.length+1) rows.length=false:=by
  cases h:Nat.ble (rows.length+1) rows.length with
  | false=>rfl
  | true=>have:=Nat.le_of_ble_eq_true h;omega
 have g2:Nat.ble ((rows.length+1) * bytes) limit=true:=Nat.ble_eq_true_of_le hb
 have wd:∀ x ∈ rows++[row],x.length=w:=fun x hx=>by
  rcases List.mem_append.mp hx with hx | hx
  ·exact r.wide x hx
  ·simp at hx;subst hx;exact hw
 have fl:(rows++[row]).flatten=rows.flatten++row:=by rw [List.flatten_append,List.flatten_cons,List.flatten_nil,List.append_nil]
 have ln:(rows++[row]).length=rows.length+1:=by rw [List.length_append];rfl
 subst h2
 cases e with
 | true =>
  have h5:=h5 rfl
  subst h5
  refine ⟨(s.kill b).new (.cells (rows.flatten++row) (w+tg)),?_,⟨wd,true,_,by rw [ln],Nat.lt_succ_self _,by rw [fl];exact zM _ _ _ rfl hs,fun _=>rfl⟩,rfl,fun c hc hcb=>?_,fun k hk hm=>?_,jW _ _⟩
  ·rw [h1]
   unfold wD
   simp only [h4]
   simp only [g1,g2,hfl,htg,Nat.zero_add,List.drop_zero,and_self,if_true]
  ·rw [zH _ _ _ (by show c≠s.n;omega),St.kill_h,jH _ _ _ _ hcb]
  ·show k≤yA s.m b
   rw [gV];omega
 | false =>
  refine ⟨s.new (.cells (rows.flatten++row) (w+tg)),?_,⟨wd,true,_,by rw [ln],Nat.lt_succ_self _,by rw [fl];exact zM _ _ _ rfl hs,fun _=>rfl⟩,rfl,fun c hc hcb=>?_,fun k hk hm=>hm,Nat.le_refl _⟩
  ·rw [h1]
   unfold wD
   simp only [h4]
   have g3:Abs.cut 0 (rows.length * w) rows.flatten=some rows.flatten:=by rw [yJ,← hfl,yr]
   simp only [g1,g2,g3]
  ·exact zH _ _ _ (by omega)
theorem wY {M:Env} {l:List (Nat × Nat)} (s:St) (h:Ys M l=true):veQ l (.ok M s)=.ok M s:=by
 show (match Ys M l with | true=>ORes.ok M s | false=>.fail)=_
 rw [h]
theorem vH (M:Env):Ys M []=true:=rfl
theorem gF {M:Env} {t u:Nat} {r:List (Nat × Nat)} (h:vX (M.find t) (M.find u)=true):Ys M ((t,u)::r)=Ys M r:=by
 show (match vX (M.find t) (M.find u) with | true=>Ys M r | false=>false)=_
 rw [h]
theorem gv {b c o n k p:Nat} {e:Bool} (h:b≠c):vX (.slice b o n k e) (.ptr c p)=true:=by
 unfold vX
 simp [jN,vf h]
theorem Blk.apart {h:Heap} {n b w tg c o:Nat} {rows:List (List AV)} {v:AV} (r:Blk h n b w tg rows v) (hc:b≠c):vX v (.ptr c o)=true:=by
 obtain ⟨e,sz,h1,h2,h3,h4⟩:=r.is
 subst h1;exact gv hc
structure IsAt (h:Heap) (n b w tg:Nat) (rows:List (List AV)) (v:AV):Prop where
 wide:∀ r ∈ rows,r.length=w
 is:(rows=[]∧v=.nilslice)∨(rows≠[]∧b<n∧v=.slice b 0 rows.length rows.length true∧h.get b=some (.cells rows.flatten (w+tg)))
theorem IsAt.nil (h:Heap) (n b w tg:Nat):IsAt h n b w tg [] .nilslice:=⟨fun _ hr=>(by cases hr),.inl ⟨rfl,rfl⟩⟩
theorem IsAt.mono {h h':Heap} {n n' b w tg:Nat} {rows:List (List AV)} {v:AV} (r:IsAt h n b w tg rows v) (hh:b<n→h'.get b=h.get b) (hn:n≤n'):IsAt h' n' b w tg rows v :=
 ⟨r.wide,r.is.imp id fun ⟨h1,h2,h3,h4⟩=>⟨h1,by omega,h3,by rw [hh h2];exact h4⟩⟩
theorem IsAt.rows {h:Heap} {n b w tg:Nat} {rows:List (List AV)} {v:AV} (r:IsAt h n b w tg rows v):Rows h 0 n w tg rows v :=
 ⟨r.wide,r.is.imp id fun ⟨_,h2,h3,h4⟩=>⟨b,Nat.zero_le _,h2,h3,h4⟩⟩
theorem IsAt.okA {h:Heap} {n b w tg:Nat} {rows:List (List AV)} {v:AV} (r:IsAt h n b w tg rows v) (t:St):Abs.okA (.val v t)=.val v t:=ZB r.rows.at_.ne
theorem IsAt.scal {h:Heap} {n b w tg:Nat} {rows:List (List AV)} {v:AV} (r:IsAt h n b w tg rows v):scalars [v]=true∧cellsOf 1 v=some [v]:=by
 rcases r.is with ⟨_,h2⟩ | ⟨_,_,h3,_⟩
 ·subst h2;exact ⟨rfl,rfl⟩
 ·subst h3;exact ⟨rfl,rfl⟩
theorem vI {s:St} {b w bytes tg:Nat} {rows:List (List AV)} {v:AV} (r:IsAt s.h s.n b w tg rows v) {p sz:Nat} {row:List AV} (hp:s.h.get p=some (.cells row sz)) (hw:row.length=w) (hsc:scalars row=true)
  (hb:(rows.length+1) * bytes≤1000000) (htg:vD (w+tg)=w) (hs:s.n<549755813888) :
  ∃ s',jT false w bytes tg s v (.slice p 0 1 1 false)=.val (.slice s.n 0 (rows.length+1) (rows.length+1) true) s'∧IsAt s'.h s'.n s.n w tg (rows++[row]) (.slice s.n 0 (rows.length+1) (rows.length+1) true)∧s'.n=s.n+1∧(∀ c,c<s.n→c≠b→s'.h.get c=s.h.get c)∧(∀ k,k≤b→k≤s.n→k≤s.m→k≤s'.m)∧s'.m≤s.m:=by
 rcases r.is with ⟨h1,h2⟩ | ⟨h1,h2,h3,h4⟩
 ·obtain ⟨v',s',e1,e2,e3,e4,e5,e6,e7,e8⟩:=gpA (lo:=s.n) (bytes:=bytes) (⟨r.wide,.inl ⟨h1,h2⟩⟩:Rows s.h s.n s.n w tg rows v) hp hw hsc hb htg hs (Nat.le_refl _)
  subst e8
  refine ⟨s',e1,⟨e2.wide,.inr ⟨by simp,by omega,by simp,?_⟩⟩,e3,fun c hc _=>e4 c hc,fun k _ hk hm=>e6 k hk hm,e7⟩
  rcases e2.is with ⟨z,_⟩ | ⟨b',_,_,z2,z3⟩
  ·simp at z
  ·injection z2 with z2
   rw [z2];exact z3
 ·obtain ⟨v',s',e1,e2,e3,e4,e5,e6,e7,e8⟩:=gpA (lo:=b) (bytes:=bytes) (⟨r.wide,.inr ⟨b,Nat.le_refl _,h2,h3,h4⟩⟩:Rows s.h b s.n w tg rows v) hp hw hsc hb htg hs (by omega)
  subst e8
  refine ⟨s',e1,⟨e2.wide,.inr ⟨by simp,by omega,by simp,?_⟩⟩,e3,fun c hc hcb=>e5 c hc (by rw [h3];intro z;injection z with z;exact hcb z.symm),fun k hk _ hm=>e6 k hk hm,e7⟩
  rcases e2.is with ⟨z,_⟩ | ⟨b',_,_,z2,z3⟩
  ·simp at z
  ·injection z2 with z2
   rw [z2];exact z3
theorem JA (f:Option AV→Option AV→St→AV→ARes) (x:Arg) (lo hi:Option Arg) (L:Env) (s:St):ZC f x lo hi L s=f (vx lo L) (vx hi L) s (x.ev L):=rfl
theorem Zq (a:Arg) (L:Env):vx (some a) L=some (a.ev L):=rfl
theorem Zr (L:Env):vx none L=none:=rfl
theorem vdJ (y i:Nat) (k:IntKind) (h:i≤y):Yo y (.int k (i:Int))=some i:=by
 show (match Nat.ble i y with | true=>some i | false=>none)=_
 rw [Nat.ble_eq_true_of_le h]
theorem ztA:∀ (a l:List AV) (k:Nat),nth (a++l) (a.length+k)=nth l k
 | [],l,k=>by rw [List.length_nil,Nat.zero_add,List.nil_append]
 | x::a,l,k=>by rw [List.length_cons,List.cons_append,show a.length+1+k=(a.length+k)+1 by omega,wR,if_neg (by omega)];exact ztA a l k
theorem JhA:∀ (R l:List AV) (k:Nat),k<R.length→nth (R++l) k=nth R k
 | [],l,k,h=>by simp at h
 | x::R,l,0,h=>rfl
 | x::R,l,k+1,h=>by rw [List.cons_append,wR,wR,if_neg (by omega),if_neg (by omega),Nat.add_sub_cancel];exact JhA R l k (by simpa using h)
theorem WL {o k i:Nat} {c r:List AV} (h:cut o k c=some r) (hi:i<k):nth c (o+i)=nth r i:=by
 obtain ⟨a,t,q1,q2,q3⟩:=cut_some h
 rw [q1,← q2,List.append_assoc,ztA,JhA _ _ _ (by omega)]
end Go.Abs
namespace Go.Proofs.Ytoklbkgcclkejaa.walk
open Go.Abs
def jA (l:List Int):List (List AV):=l.map fun x=>[.int .i64 x]
theorem jc (l:List Int):(jA l).length=l.length:=List.length_map ..
theorem Ya (l:List Int) (x:Int):jA (l++[x])=jA l++[[.int .i64 x]]:=by unfold jA;rw [List.map_append];rfl
theorem ZWJ {h:Heap} {n:Nat} {l:List Int} {v:AV} (r:RowsAt h n 1 (jA l) v) {i:Nat} (hi:i<l.length):∃ b p c sz,b<n∧(∀ s,jX 1 s v (.int .i64 i)=.val (.ptr b p) s)∧h.get b=some (.cells c sz)∧nth c p=.int .i64 (l.getD i 0):=by
 obtain ⟨b,p,c,sz,h1,h2,h3,h4⟩:=r.at_ i (by rw [jc];exact hi)
 have e:(jA l)[i]'(by rw [jc];exact hi)=[.int .i64 (l.getD i 0)]:=by simp [jA,List.getD,hi]
 rw [e] at h4
 exact ⟨b,p,c,sz,h1,h2,h3,Vd h4⟩
def LAt (h:Heap) (n bl:Nat) (l:List Int) (v:AV):Prop:=∃ x,x≠bl∧IsAt h n x 1 (tag 3) (jA l) v
theorem LAt.nil (h:Heap) (n bl:Nat):LAt h n bl [] .nilslice:=⟨bl+1,by omega,IsAt.nil _ _ _ _ _⟩
theorem LAt.move {h h':Heap} {n n' bl bl':Nat} {l:List Int} {v:AV} (a:LAt h n bl l v) (hh:∀ c,c<n→c≠bl→h'.get c=h.get c) (hn:n≤n') (hb:bl'=bl∨n≤bl'):LAt h' n' bl' l v:=by
 obtain ⟨x,h1,h2⟩:=a
 rcases h2.is with ⟨h3,h4⟩ | ⟨_,h3,_⟩
 ·exact ⟨bl'+1,by omega,h2.wide,.inl ⟨h3,h4⟩⟩
 ·exact ⟨x,by omega,h2.mono (fun _=>hh x h3 h1) hn⟩
theorem LAt.rows {h:Heap} {n bl:Nat} {l:List Int} {v:AV} (a:LAt h n bl l v):RowsAt h n 1 (jA l) v:=by obtain ⟨x,_,h⟩:=a;exact h.rows.at_
end Go.Proofs.Ytoklbkgcclkejaa.walk
set_option maxRecDepth 10000
namespace Go.Abs
structure Sl (no:Nat→Prop) (h:Heap) (n w:Nat) (rows:List (List AV)) (v:AV):Prop where
 wide:∀ r ∈ rows,r.length=w
 is:(rows=[]∧v=.nilslice)∨∃ b o cap e c sz,b<n∧no b∧(rows.length≤cap∧(e=true→0<cap))∧v=.slice b o rows.length cap e∧h.get b=some (.cells c sz)∧cut o (rows.length * w) c=some rows.flatten
theorem Sl.nil (no:Nat→Prop) (h:Heap) (n w:Nat):Sl no h n w [] .nilslice:=⟨fun _ hr=>(by cases hr),.inl ⟨rfl,rfl⟩⟩
theorem Sl.seq {no:Nat→Prop} {h:Heap} {n w:Nat} {rows:List (List AV)} {v:AV} (r:Sl no h n w rows v):Seq h n w rows v :=
 ⟨r.wide,r.is.imp id fun ⟨b,o,cap,e,c,sz,h1,_,_,h4,h5,h6⟩=>⟨b,o,cap,e,c,sz,h1,h4,h5,h6⟩⟩
theorem Sl.at_ {no:Nat→Prop} {h:Heap} {n w:Nat} {rows:List (List AV)} {v:AV} (r:Sl no h n w rows v):RowsAt h n w rows v:=r.seq.at_
theorem Sl.okA {no:Nat→Prop} {h:Heap} {n w:Nat} {rows:List (List AV)} {v:AV} (r:Sl no h n w rows v) (t:St):Abs.okA (.val v t)=.val v t:=ZB r.at_.ne
theorem Sl.len {no:Nat→Prop} {h:Heap} {n w:Nat} {rows:List (List AV)} {v:AV} (r:Sl no h n w rows v) (s:St):zq s v=.val (.int .i64 rows.length) s:=r.at_.len s
theorem Sl.move {no no':Nat→Prop} {h h':Heap} {n n' w:Nat} {rows:List (List AV)} {v:AV} (r:Sl no h n w rows v) (hh:∀ b,b<n→no b→h'.get b=h.get b∧no' b) (hn:n≤n'):Sl no' h' n' w rows v :=
 ⟨r.wide,r.is.imp id fun ⟨b,o,cap,e,c,sz,h1,h2,h3,h4,h5,h6⟩=>⟨b,o,cap,e,c,sz,by omega,(hh b h1 h2).2,h3,h4,by rw [(hh b h1 h2).1];exact h5,h6⟩⟩
theorem Sl.grow {no:Nat→Prop} {h h':Heap} {n n' w:Nat} {rows:List (List AV)} {v:AV} (r:Sl no h n w rows v) (hh:∀ b,b<n→h'.get b=h.get b) (hn:n≤n'):Sl no h' n' w rows v:=r.move (fun b h1 h2=>⟨hh b h1,h2⟩) hn
theorem Sl.scal {no:Nat→Prop} {h:Heap} {n w:Nat} {rows:List (List AV)} {v:AV} (r:Sl no h n w rows v):scalars [v]=true∧cellsOf 1 v=some [v]∧∀ l,scalars (v::l)=scalars l:=by
 rcases r.is with ⟨_,h2⟩ | ⟨b,o,cap,e,c,sz,_,_,_,h2,_⟩<;>subst h2<;>exact ⟨rfl,rfl,fun _=>rfl⟩
theorem Sl.kept {no:Nat→Prop} {h h':Heap} {n w:Nat} {rows:List (List AV)} {v:AV} (r:Sl no h n w rows v) (hh:∀ b,b<n→no b→h'.get b=h.get b):JqA h h' v=true:=by
 rcases r.is with ⟨_,h2⟩ | ⟨b,o,cap,e,c,sz,h1,h3,_,h2,h4,_⟩
 ·subst h2;rfl
 ·subst h2;rw [zeJ,hh b h1 h3,h4,yx]
theorem Sl.apart {no:Nat→Prop} {h:Heap} {n w c p:Nat} {rows:List (List AV)} {v:AV} (r:Sl no h n w rows v) (hc:¬ no c):vX v (.ptr c p)=true:=by
 rcases r.is with ⟨_,h2⟩ | ⟨b,o,cap,e,q,sz,h1,h3,_,h2,h4,_⟩
 ·subst h2;rfl
 ·subst h2;exact gv (fun e=>hc (e▸h3))
theorem yE {α:Type} {l:List α} {i:Nat} (h:i<l.length):l.take (i+1)=l.take i++[l[i]]:=by rw [List.take_add_one];simp [h]
theorem Sl.get {no:Nat→Prop} {h:Heap} {n w:Nat} {rows:List (List AV)} {v:AV} (r:Sl no h n w rows v) {i:Nat} (hi:i<rows.length):∃ b p c sz,b<n∧no b∧(∀ s,jX w s v (.int .i64 (i:Int))=.val (.ptr b p) s)∧h.get b=some (.cells c sz)∧Abs.cut p w c=some rows[i]:=by
 rcases r.is with ⟨h1,_⟩ | ⟨b,o,cap,e,c,sz,h1,h2,h3,h4,h5,h6⟩
 ·subst h1;simp at hi
 ·subst h4
  exact ⟨b,o+i * w,c,sz,h1,h2,fun s=>jq _ _ _ _ _ _ _ _ hi,h5,wbJ h6 (yU r.wide hi)⟩
theorem jPA {w:Nat}:∀ {rows:List (List AV)} {i:Nat},(∀ r ∈ rows,r.length=w)→i≤rows.length→(rows.take i).flatten=rows.flatten.take (i * w)
 | [],i,_,h=>by simp at h;subst h;simp
 | r::rs,0,_,_=>by simp
 | r::rs,i+1,hw,h=>by
  have h1:=hw r (List.mem_cons_self ..)
  rw [List.take_succ_cons,List.flatten_cons,List.flatten_cons,jPA (fun x hx=>hw x (List.mem_cons_of_mem _ hx)) (by simpa using h),show (i+1) * w=r.length+i * w by rw [h1,Nat.succ_mul];omega,List.take_length_add_append]
theorem jHJ {o k j:Nat} {c F:List AV} (h:cut o k c=some F) (hj:j≤k):cut o j c=some (F.take j):=by
 obtain ⟨a,t,h3,h4,h5⟩:=cut_some h
 have e:F=F.take j++F.drop j:=(List.take_append_drop j F).symm
 have l:(F.take j).length=j:=by rw [List.length_take];omega
 rw [h3,← h4,List.append_assoc]
 have:=Vb a (F++t) 0 j
 rw [Nat.add_zero] at this
 rw [this,yJ]
 conv=>lhs;rw [e,List.append_assoc]
 have h6:=YD (F.take j) (F.drop j++t)
 rw [l] at h6
 exact h6
theorem Sl.to {no:Nat→Prop} {h:Heap} {n w i:Nat} {rows:List (List AV)} {v:AV} (r:Sl no h n w rows v) (hi:i≤rows.length):∃ v',(∀ s,yT w none (some (.int .i64 (i:Int))) s v=.val v' s)∧Sl no h n w (rows.take i) v':=by
 have wd:∀ x ∈ rows.take i,x.length=w:=fun x hx=>r.wide x (List.mem_of_mem_take hx)
 rcases r.is with ⟨h1,h2⟩ | ⟨b,o,cap,e,c,sz,q1,q2,q3,q4,q5,q6⟩
 ·subst h1;subst h2
  have:i=0:=by simpa using hi
  subst this
  exact ⟨.nilslice,fun s=>rfl,wd,.inl ⟨rfl,rfl⟩⟩
 ·subst q4
  have ln:(rows.take i).length=i:=by rw [List.length_take];omega
  have e1:ZN rows.length cap none (some (.int .i64 (i:Int)))=some (0,i):=by
   unfold ZN hiA loA
   simp only [vdJ _ _ _ (by have:=q3.1;omega:i≤cap)]
  have q7:cut o (i * w) c=some (rows.take i).flatten:=by
   rw [jPA r.wide hi]
   exact jHJ q6 (Nat.mul_le_mul_right _ hi)
  by_cases hc:cap=0
  ·subst hc
   have hr:rows=[]:=List.length_eq_zero_iff.mp (by have:=q3.1;omega)
   subst hr
   have:i=0:=by simpa using hi
   subst this
   cases e with
   | false =>
    refine ⟨.slice b o (0 - 0) 0 false,fun s=>?_,wd,.inr ⟨b,o,0,false,c,sz,q1,q2,⟨by simp,fun h=>(by cases h)⟩,by simp,q5,q6⟩⟩
    unfold yT
    simp only [Nat.ble_eq_true_of_le q3.1,e1,Nat.zero_mul,Nat.add_zero]
    rfl
   | true=>exact absurd (q3.2 rfl) (Nat.lt_irrefl 0)
  ·refine ⟨.slice b o i cap e,fun s=>?_,wd,.inr ⟨b,o,cap,e,c,sz,q1,q2,⟨by have:=q3.1;omega,q3.2⟩,by rw [ln],q5,by rw [ln];exact q7⟩⟩
   unfold yT
   simp only [Nat.ble_eq_true_of_le q3.1,e1,vf hc,Nat.zero_mul,Nat.add_zero,Nat.sub_zero]
theorem Sl.of_at {no:Nat→Prop} {h:Heap} {n b w tg:Nat} {rows:List (List AV)} {v:AV} (r:IsAt h n b w tg rows v) (hb:b<n→no b):Sl no h n w rows v:=by
 rcases r.is with ⟨h1,h2⟩ | ⟨h1,h2,h3,h4⟩
 ·exact ⟨r.wide,.inl ⟨h1,h2⟩⟩
 ·exact ⟨r.wide,.inr ⟨b,0,rows.length,true,_,_,h2,hb h2,⟨Nat.le_refl _,fun _=>List.length_pos_iff.mpr h1⟩,h3,h4,by rw [yJ,← jx r.wide,yr]⟩⟩
end Go.Abs
namespace Go.Proofs.Ytoklbkgcclkejaa.walk
open Go.Abs
structure KindR where
 (lo hi:Int)
 water:Bool
 away:List Int
 (rent most:Int)
structure HallR where
 (wide deep:Nat)
 (water shut:List (Int × Int))
 (bx bz:Nat)
 bears:List Int
 kinds:List KindR
structure PutR where
 (x y:Int)
 kind:Nat
def HallR.cols (h:HallR):Nat:=(h.wide+h.bx - 1) / h.bx
def HallR.bays (h:HallR):Nat:=h.cols * ((h.deep+h.bz - 1) / h.bz)
def HallR.bayAt (h:HallR) (x y:Nat):Nat:=y / h.bz * h.cols+x / h.bx
def HallR.In (h:HallR) (c:Int × Int):Prop:=(0≤c.1∧c.1<h.wide)∧0≤c.2∧c.2<h.deep
instance (h:HallR) (c:Int × Int):Decidable (h.In c):=by unfold HallR.In;exact inferInstance
structure KindR.Ok (m:Nat) (k:KindR):Prop where
 l0:0≤k.lo
 l1:k.lo≤k.hi
 l2:k.hi≤1000000
 al:k.away.length=m
 a:∀ x ∈ k.away,0≤x∧x≤9
 r0:0≤k.rent
 r1:k.rent≤1000000
 m0:0≤k.most
 m1:k.most≤24
structure HallR.Size (h:HallR):Prop where
 w0:1≤h.wide
 w1:h.wide≤6
 d0:1≤h.deep
 d1:h.deep≤4
 x0:1≤h.bx
 x1:h.bx≤h.wide
 z0:1≤h.bz
 z1:h.bz≤h.deep
structure HallR.Ok (h:HallR):Prop extends HallR.Size h where
 wa:∀ c ∈ h.water,h.In c
 wn:h.water.Nodup
 wl:h.water.length≤24
 sa:∀ c ∈ h.shut,h.In c
 sn:h.shut.Nodup
 sl:h.shut.length≤24
 bl:h.bears.length=h.bays
 b:∀ x ∈ h.bears,0≤x∧x≤10000000
 k0:1≤h.kinds.length
 k1:h.kinds.length≤6
 k:∀ x ∈ h.kinds,x.Ok h.kinds.length
abbrev PutR.c (p:PutR):Int × Int:=(p.x,p.y)
structure PutR.In (h:HallR) (p:PutR):Prop where
 k:p.kind<h.kinds.length
 x0 : -100≤p.x
 x1:p.x≤100
 y0 : -100≤p.y
 y1:p.y≤100
def vMQ:KindR:=⟨0,0,false,[],0,0⟩
def HallR.kind (h:HallR) (k:Nat):KindR:=h.kinds.getD k vMQ
def dist (p q:PutR):Int:=max (p.x - q.x) (q.x - p.x)+max (p.y - q.y) (q.y - p.y)
def HallR.away (h:HallR) (p q:PutR):Int:=(h.kind p.kind).away.getD q.kind 0
def HallR.clash (h:HallR) (p q:PutR):Prop:=dist p q<max (h.away p q) (h.away q p)
instance (h:HallR) (p q:PutR):Decidable (h.clash p q):=by unfold HallR.clash;exact inferInstance
theorem YMA (p q:PutR):dist p q=dist q p:=by unfold dist;omega
theorem vYJ (h:HallR) (p q:PutR):h.clash p q↔h.clash q p:=by unfold HallR.clash;rw [YMA p q,Int.max_comm]
structure HallR.May (h:HallR) (p:PutR):Prop where
 i:h.In p.c
 s:p.c ∉ h.shut
 w:(h.kind p.kind).water=true→p.c ∈ h.water
def HallR.putE (h:HallR) (before:List PutR) (p:PutR):Int :=
 if ¬ h.In p.c then 3 else if p.c ∈ h.shut then 11 else if (∃ q ∈ before,q.c=p.c) then 4 else if (h.kind p.kind).water=true∧p.c ∉ h.water then 7 else if (∃ q ∈ before,h.clash p q) then 9 else 0
theorem wO {h:HallR} {before:List PutR} {p:PutR}:h.putE before p=0↔h.May p∧∀ q ∈ before,q.c≠p.c∧¬ h.clash p q:=by
 unfold HallR.putE
 constructor
 ·intro e
  split at e
  ·cases e
  ·rename_i h1
   split at e
   ·cases e
   ·rename_i h2
    split at e
    ·cases e
    ·rename_i h3
     split at e
     ·cases e
     ·rename_i h4
      split at e
      ·cases e
      ·rename_i h5
       refine ⟨⟨by simpa using h1,h2,fun hw=>?_⟩,fun q hq=>⟨fun hc=>h3 ⟨q,hq,hc⟩,fun hc=>h5 ⟨q,hq,hc⟩⟩⟩
       by_cases hm:p.c ∈ h.water
       ·exact hm
       ·exact absurd ⟨hw,hm⟩ h4
 ·intro ⟨⟨h1,h2,h3⟩,h4⟩
  rw [if_neg (by simpa using h1),if_neg h2,if_neg (by rintro ⟨q,hq,hc⟩;exact (h4 q hq).1 hc),if_neg (fun ⟨a,b⟩=>b (h3 a)),if_neg (by rintro ⟨q,hq,hc⟩;exact (h4 q hq).2 hc)]
def many (l:List PutR) (k:Nat):Nat:=(l.filter fun p=>p.kind=k).length
structure HallR.Valid (h:HallR) (l:List PutR):Prop where
 m:∀ p ∈ l,h.May p
 p:l.Pairwise fun a b=>a.c≠b.c∧¬ h.clash b a
 o:∀ k,k<h.kinds.length→(many l k:Int)≤(h.kind k).most
def HallR.Upto (h:HallR) (l:List PutR) (i:Nat):Prop:=∀ j (hj:j<l.length),j<i→h.putE (l.take j) l[j]=0
theorem JFA (h:HallR) (l:List PutR):h.Upto l 0:=fun _ _ hj=>absurd hj (Nat.not_lt_zero _)
theorem JGA {h:HallR} {l:List PutR} {i:Nat} (hi:i<l.length) (a:h.Upto l i) (b:h.putE (l.take i) l[i]=0):h.Upto l (i+1):=fun j hj hji=>by
 by_cases e:j=i
 ·subst e;exact b
 ·exact a j hj (by omega)
theorem Wk {h:HallR} {l:List PutR}:h.Upto l l.length↔(∀ p ∈ l,h.May p)∧l.Pairwise fun a b=>a.c≠b.c∧¬ h.clash b a:=by
 constructor
 ·intro u
  refine ⟨fun p hp=>?_,List.pairwise_iff_getElem.mpr fun i j hi hj hij=>?_⟩
  ·obtain ⟨i,hi,rfl⟩:=List.getElem_of_mem hp
   exact (wO.mp (u i hi hi)).1
  ·exact (wO.mp (u j hj hj)).2 l[i] (List.mem_take_iff_getElem.mpr ⟨i,by omega,rfl⟩)
 ·intro ⟨a,b⟩ j hj _
  refine wO.mpr ⟨a _ (List.getElem_mem hj),fun q hq=>?_⟩
  obtain ⟨i,hi,rfl⟩:=List.mem_take_iff_getElem.mp hq
  exact List.pairwise_iff_getElem.mp b i j (by omega) hj (by omega)
theorem ZP {h:HallR} {l:List PutR}:h.Valid l↔h.Upto l l.length∧∀ k,k<h.kinds.length→(many l k:Int)≤(h.kind k).most :=
 ⟨fun v=>⟨Wk.mpr ⟨v.m,v.p⟩,v.o⟩,fun ⟨a,b⟩=>⟨(Wk.mp a).1,(Wk.mp a).2,b⟩⟩
/-! ### Bays -/
theorem gYA {h:HallR} (s:h.Size):1≤h.cols:=by
 have:=s.x0;have:=s.w0
 exact Nat.div_pos (by omega) (by omega)
theorem VIJ {h:HallR} (s:h.Size) {x:Nat} (hx:x<h.wide):x / h.bx<h.cols:=by
 have:=s.x0
 unfold HallR.cols
 rw [Nat.div_lt_iff_lt_mul (by omega)]
 have h1:=Nat.div_add_mod (h.wide+h.bx - 1) h.bx
 have h2:=Nat.mod_lt (h.wide+h.bx - 1) (show 0<h.bx by omega)
 rw [Nat.mul_comm]
 omega
theorem vCQ {h:HallR} (s:h.Size) {y:Nat} (hy:y<h.deep):y / h.bz<(h.deep+h.bz - 1) / h.bz:=by
 have:=s.z0
 rw [Nat.div_lt_iff_lt_mul (by omega)]
 have h1:=Nat.div_add_mod (h.deep+h.bz - 1) h.bz
 have h2:=Nat.mod_lt (h.deep+h.bz - 1) (show 0<h.bz by omega)
 rw [Nat.mul_comm]
 omega
theorem gjA {h:HallR} (s:h.Size) {x y:Nat} (hx:x<h.wide) (hy:y<h.deep):h.bayAt x y<h.bays:=by
 have a:=VIJ s hx
 have b:=vCQ s hy
 unfold HallR.bayAt HallR.bays
 have:y / h.bz * h.cols+h.cols≤(h.deep+h.bz - 1) / h.bz * h.cols:=by
  rw [← Nat.succ_mul]
  exact Nat.mul_le_mul_right _ b
 rw [Nat.mul_comm h.cols]
 omega
theorem jEA {n b:Nat} (hb:1≤b) (hn:1≤n):(n - 1) / b+1=(n+b - 1) / b:=by
 rw [show n+b - 1=n - 1+b by omega,Nat.add_div_right _ (by omega)]
theorem jUJ {h:HallR} (s:h.Size):h.bayAt (h.wide - 1) (h.deep - 1)+1=h.bays:=by
 unfold HallR.bayAt HallR.bays
 have a:=jEA s.x0 s.w0
 have b:=jEA s.z0 s.d0
 rw [← b,Nat.mul_comm h.cols,Nat.succ_mul]
 show _+(h.wide - 1) / h.bx+1=_+h.cols
 unfold HallR.cols
 omega
theorem vY {h:HallR} (s:h.Size):h.bays≤24:=by
 have h1:h.cols≤6:=by
  unfold HallR.cols
  rw [← jEA s.x0 s.w0]
  have:=Nat.div_le_self (h.wide - 1) h.bx
  have:=s.w1;have:=s.w0;omega
 have h2:(h.deep+h.bz - 1) / h.bz≤4:=by
  rw [← jEA s.z0 s.d0]
  have:=Nat.div_le_self (h.deep - 1) h.bz
  have:=s.d1;have:=s.d0;omega
 exact Nat.mul_le_mul h1 h2
theorem jVJ {h:HallR} (s:h.Size):1≤h.bays:=by have:=jUJ s;omega
/-! ### What bays carry -/
def tot:List (Nat × Int)→Nat→Int
 | [],_=>0
 | x::r,b=>(if x.1=b then x.2 else 0)+tot r b
theorem vqJ:∀ (l m:List (Nat × Int)) (b:Nat),tot (l++m) b=tot l b+tot m b
 | [],m,b=>by show tot m b=0+tot m b;omega
 | x::l,m,b=>by
  have:=vqJ l m b
  show _+tot (l++m) b=_+tot l b+tot m b
  omega
theorem Zd (l:List (Nat × Int)) (x:Nat × Int) (b:Nat):tot (l++[x]) b=tot l b+if x.1=b then x.2 else 0:=by
 rw [vqJ];show tot l b+((if x.1=b then x.2 else 0)+0)=_;omega
theorem ZQ:∀ (l:List (Nat × Int)) (b:Nat) (m:Int),0≤m→(∀ x ∈ l,0≤x.2∧x.2≤m)→0≤tot l b∧tot l b≤m * l.length
 | [],b,m,_,_=>⟨Int.le_refl _,by show (0:Int)≤_;simp⟩
 | x::l,b,m,hm,h=>by
  have h1:=h x (List.mem_cons_self ..)
  have h2:=ZQ l b m hm fun y hy=>h y (List.mem_cons_of_mem _ hy)
  have e:m * ((x::l).length:Int)=m * l.length+m:=by rw [List.length_cons];push_cast;rw [Int.mul_add,Int.mul_one]
  rw [e]
  show 0≤(if x.1=b then x.2 else 0)+tot l b∧(if x.1=b then x.2 else 0)+tot l b≤_
  split<;>omega
def HallR.bay (h:HallR) (p:PutR):Nat:=h.bayAt p.x.toNat p.y.toNat
def HallR.lows (h:HallR) (l:List PutR):List (Nat × Int):=l.map fun p=>(h.bay p,(h.kind p.kind).lo)
def HallR.highs (h:HallR) (l:List PutR):List (Nat × Int):=l.map fun p=>(h.bay p,(h.kind p.kind).hi)
def HallR.trues (h:HallR) (l:List PutR) (t:List Int):List (Nat × Int):=List.zipWith (fun p x=>(h.bay p,x)) l t
theorem zWA {h:HallR}:∀ (l:List PutR) (t:List Int) (b:Nat),t.length=l.length→(∀ i (h1:i<l.length) (h2:i<t.length),(h.kind l[i].kind).lo≤t[i]∧t[i]≤(h.kind l[i].kind).hi)→tot (h.lows l) b≤tot (h.trues l t) b∧tot (h.trues l t) b≤tot (h.highs l) b
 | [],[],b,_,_=>⟨Int.le_refl _,Int.le_refl _⟩
 | [],_::_,_,e,_=>by cases e
 | _::_,[],_,e,_=>by cases e
 | p::l,x::t,b,e,hb=>by
  have h0:=hb 0 (Nat.zero_lt_succ _) (Nat.zero_lt_succ _)
  have ih:=zWA l t b (by simpa using e) fun i h1 h2=>hb (i+1) (by simpa using h1) (by simpa using h2)
  simp only [List.getElem_cons_zero] at h0
  show (if h.bay p=b then (h.kind p.kind).lo else 0)+tot (h.lows l) b≤(if h.bay p=b then x else 0)+tot (h.trues l t) b∧(if h.bay p=b then x else 0)+tot (h.trues l t) b≤(if h.bay p=b then (h.kind p.kind).hi else 0)+tot (h.highs l) b
  split<;>omega
def HallR.verdict (h:HallR) (l:List PutR):Int :=
 if (∃ b,b<h.bays∧h.bears.getD b 0<tot (h.lows l) b) then 2 else if (∃ b,b<h.bays∧h.bears.getD b 0<tot (h.highs l) b) then 3 else 1
end Go.Proofs.Ytoklbkgcclkejaa.walk
namespace Go.Abs
def mapV (ps:List (Int × Int)):List (AV × AV):=ps.map fun p=>(.int .i64 p.1,.int .i64 p.2)
theorem wWJ (a b:Int):Cmp.eq .int (.int .i64 a) (.int .i64 b)=some (decide (a=b)):=by
 show (if IntKind.i64=IntKind.i64 then some (eqI a b) else none)=_
 rw [if_pos rfl,ZD]
 congr 1
theorem vQQ (c:Cmp) (z:AV) (ok:Bool) (m k:Arg) (L:Env) (s:St):jGA c z ok m k L s=jBA c z ok s (k.ev L) (m.ev L):=Eq.trans (Eq.refl _) (Eq.refl _)
noncomputable def updK (c:Cmp) (s:St) (k v m:AV):ARes:=match known v with
 | true=>YdA c s k v m
 | false=>.fail
theorem kUpdE (c:Cmp) (m k v:Arg) (L:Env) (s:St):wsA c m k v L s=updK c s (k.ev L) (v.ev L) (m.ev L):=Eq.trans (Eq.refl _) (Eq.refl _)
theorem kMapE (L:Env) (s:St):ZRJ L s=.val (.map s.n) (s.new (.map (mapV []))):=rfl
end Go.Abs
