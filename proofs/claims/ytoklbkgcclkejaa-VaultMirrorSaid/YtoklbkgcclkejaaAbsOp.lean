/- The operations that are no calls: what the interpreter says of each is what the model does. -/
import Derived.Test.YtoklbkgcclkejaaAbsRel
import Derived.Laws.Sem
import Derived.Laws.Entries
import Derived.IntWalk
noncomputable section
namespace Go.Abs
def evT (T:Array Value):Operand→Value
 | .tmp t=>T.getD t undef
 | .const v=>v
 | .global g=>.pointer (some ⟨g,0,none⟩)
 | .func f=>.func (.func f) #[] #[]
theorem zrA (ρ:Rho) {v:Value} {a:AV} (h:VI v=some a):VRel ρ a v:=by
 unfold VI at h
 split at h
 ·cases h;exact .int _ _
 ·cases h;exact .bool _
 ·cases h;exact .str _
 ·cases h;exact .nilptr
 ·split at h
  ·rename_i h0;obtain ⟨rfl,rfl⟩:=h0;cases h;exact .nilslice
  ·cases h
 ·cases h;exact .nilmap
 ·cases h;exact .nilfunc
 ·cases h;exact .nilif
 ·split at h
  ·rename_i h1 h2;cases h;exact .func (by rw [h1];exact .nil) (by rw [h2];exact .nil)
  ·cases h
 ·cases h
theorem vu (ρ:Rho):∀ {l:List Value} {m:List AV},ZY l=some m→VRels ρ m l
 | [],m,h=>by cases h;exact .nil
 | v::r,m,h=>by
  unfold ZY at h
  split at h
  ·rename_i a l h1 h2
   cases h
   exact .cons (zrA ρ h1) (vu ρ h2)
  ·cases h
theorem yxA (ρ:Rho) {v:Value} {a:AV} (h:zsA v=some a):VRel ρ a v:=by
 unfold zsA at h
 split at h
 ·split at h
  ·rename_i h1
   cases h
   exact .agg (vu ρ h1)
  ·cases h
 ·exact zrA ρ h
theorem zX {ρ:Rho} {L:Env} {T:Array Value} (hL:EnvRel ρ L T) {x:Operand} {a:Arg} (h:jL x=some a):VRel ρ (a.ev L) (evT T x):=by
 unfold jL at h
 split at h
 ·cases h;exact hL _
 ·split at h
  ·rename_i h1;cases h;exact yxA ρ h1
  ·cases h
 ·cases h;exact .gptr _ _
 ·cases h;exact .func .nil .nil
theorem gJ {ρ:Rho} {L:Env} {T:Array Value} (hL:EnvRel ρ L T):∀ {l:List Operand} {m:List Arg},jz l=some m→VRels ρ (evs m L) (l.map (evT T))
 | [],m,h=>by cases h;exact .nil
 | x::r,m,h=>by
  unfold jz at h
  split at h
  ·rename_i a l h1 h2
   cases h
   exact .cons (zX hL h1) (gJ hL h2)
  ·cases h
section types
variable {P:Program} {t:TypeId} (W:World)
theorem zY {d:TypeDesc} (h:P.underlying t=some d):(underlying t).run P W=.ok d W:=run_underlying h W
theorem zfA {i:TypeInfo} (h:P.info? t=some i):(typeInfo t).run P W=.ok i W:=by
 simp [typeInfo,h]
theorem jR {k:Nat} (h:jv P t=some k):(sizeOf t).run P W=.ok k W:=by
 unfold jv at h
 split at h
 ·rename_i i hi;cases h;simp [sizeOf,zfA W hi]
 ·cases h
theorem glJ {k:Nat} (h:Yk P t=some k):∃ i,(typeInfo t).run P W=.ok i W∧i.bytes=k:=by
 unfold Yk at h
 split at h
 ·rename_i i hi;cases h;exact ⟨i,zfA W hi,rfl⟩
 ·cases h
theorem Jq (ρ:Rho) {l:List AV} (h:Za P t=some l):∃ z,(zeroValue t).run P W=.ok z W∧VRels ρ l z.cells.toList:=by
 unfold Za at h
 split at h
 ·rename_i i hi
  split at h
  ·rename_i z hz
   exact ⟨z,by simp [zeroValue,zfA W hi,hz],vu ρ h⟩
  ·cases h
 ·cases h
theorem gkJ (ρ:Rho) {a:AV} (h:WOA P t=some a):∃ z,(zeroValue t).run P W=.ok z W∧VRel ρ a z:=by
 unfold WOA at h
 split at h
 ·rename_i i hi
  split at h
  ·rename_i z hz
   exact ⟨z,by simp [zeroValue,zfA W hi,hz],yxA ρ h⟩
  ·cases h
 ·cases h
theorem vbA {b:Bool} (h:VfJ P t=some b):(isAgg t).run P W=.ok b W:=by
 unfold VfJ at h
 split at h
 ·rename_i hd;cases h;simp [isAgg,zY W hd]
 ·rename_i hd;cases h;simp [isAgg,zY W hd]
 ·rename_i d h1 h2 hd
  cases h
  simp only [isAgg,Sem.run_bind,zY W hd,Result.andThen_ok]
  cases d<;>first | rfl | (exact absurd rfl (h1 _)) | (exact absurd rfl (h2 _ _))
 ·cases h
theorem yjA {sh:Option Nat} (h:yH P t=some sh) :
  (∃ k,sh=some k∧VfJ P t=some true∧jv P t=some k)∨(sh=none∧VfJ P t=some false):=by
 unfold yH at h
 split at h
 ·rename_i k h1 h2;cases h;exact .inl ⟨k,rfl,h1,h2⟩
 ·rename_i h1;cases h;exact .inr ⟨rfl,h1⟩
 ·cases h
end types
theorem YX {k k':IntKind} (h:vi k=vi k'):k=k':=by cases k<;>cases k'<;>first | rfl | (simp [vi] at h)
theorem gQ (k:IntKind) (n:Int):gR k n=k.wrap n:=by
 unfold gR
 cases h:Nat.beq (vi k) 3 with
 | false=>rfl
 | true =>
  have:k=.i64:=YX (Nat.eq_of_beq_eq_true h)
  subst this
  cases hs:small n with
  | false=>rfl
  | true =>
   show n=IntKind.i64.wrap n
   have hb : -9223372036854775808≤n∧n≤9223372036854775807:=by
    cases n with
    | ofNat m =>
     have:m≤9223372036854775807:=Nat.le_of_ble_eq_true hs
     constructor
     ·have:(0:Int)≤Int.ofNat m:=Int.natCast_nonneg m
      omega
     ·have:(Int.ofNat m)=(m:Int):=rfl
      omega
    | negSucc m =>
     have:m≤9223372036854775807:=Nat.le_of_ble_eq_true hs
     have e:Int.negSucc m = -((m:Int)+1):=Int.negSucc_eq m
     omega
   exact (IntWalk.i64_in n hb).symm
theorem wT (a b:Int):leI a b=decide (a≤b):=by
 cases a with
 | ofNat m=>cases b with
  | ofNat n =>
   show Nat.ble m n=_
   rw [Bool.eq_iff_iff];simp
  | negSucc n =>
   show false=_
   symm;simp only [decide_eq_false_iff_not]
   have:Int.negSucc n<0:=Int.negSucc_lt_zero n
   have:(0:Int)≤Int.ofNat m:=Int.natCast_nonneg m
   omega
 | negSucc m=>cases b with
  | ofNat n =>
   show true=_
   symm;simp only [decide_eq_true_eq]
   have:Int.negSucc m<0:=Int.negSucc_lt_zero m
   have:(0:Int)≤Int.ofNat n:=Int.natCast_nonneg n
   omega
  | negSucc n =>
   show Nat.ble n m=_
   rw [Bool.eq_iff_iff];simp [Int.negSucc_eq]
theorem ZD (a b:Int):eqI a b=(a == b):=by
 cases a with
 | ofNat m=>cases b with
  | ofNat n =>
   show Nat.beq m n=_
   rw [Bool.eq_iff_iff,beq_iff_eq,Nat.beq_eq]
   exact ⟨(fun h=>by rw [h]),(fun h=>by injection h)⟩
  | negSucc n =>
   show false=_
   rw [Bool.eq_iff_iff,beq_iff_eq]
   exact ⟨(fun h=>by cases h),(fun h=>by injection h)⟩
 | negSucc m=>cases b with
  | ofNat n =>
   show false=_
   rw [Bool.eq_iff_iff,beq_iff_eq]
   exact ⟨(fun h=>by cases h),(fun h=>by injection h)⟩
  | negSucc n =>
   show Nat.beq m n=_
   rw [Bool.eq_iff_iff,beq_iff_eq,Nat.beq_eq]
   exact ⟨(fun h=>by rw [h]),(fun h=>by injection h)⟩
def Res (r:Result Next) (ρ:Rho) (s:St) (W:World) (v:AV) (s':St):Prop :=
 ∃ ρ' W' V,(r=.ok (.value V) W'∨(r=.ok .skip W'∧V=undef))∧After ρ s W ρ' s' W'∧VRel ρ' v V
theorem Res.same {r:Result Next} {ρ:Rho} {s:St} {W:World} {v:AV} {V:Value} (hs:SRel ρ s W) (h:r=.ok (.value V) W) (hv:VRel ρ v V):Res r ρ s W v s :=
 ⟨ρ,W,V,.inl h,.refl hs,hv⟩
theorem Jt {f:IntKind→Int→ARes} {v:AV} {r:AV} {s:St} (h:wZA f v=.val r s):∃ k n,v=.int k n∧f k n=.val r s:=by
 cases v<;>first | exact ⟨_,_,rfl,h⟩ | (cases h)
theorem YR {f:Bool→ARes} {v:AV} {r:AV} {s:St} (h:ygJ f v=.val r s):∃ b,v=.bool b∧f b=.val r s:=by
 cases v<;>first | exact ⟨_,rfl,h⟩ | (cases h)
theorem wt {f g:Nat→Nat→ARes} {u:Nat→Nat→Nat→ARes} {v:AV} {r:AV} {s:St} (h:wJJ f g u v=.val r s) :
  (∃ b o,v=.ptr b o∧f b o=.val r s)∨(∃ b o,v=.gptr b o∧g b o=.val r s)∨∃ b w o,v=.vp b w o∧u b w o=.val r s:=by
 cases v<;>first | exact .inl ⟨_,_,rfl,h⟩ | exact .inr (.inl ⟨_,_,rfl,h⟩) | exact .inr (.inr ⟨_,_,_,rfl,h⟩) | (cases h)
theorem ywA {f u:Nat→Nat→Nat→ARes} {v:AV} {r:AV} {s:St} (h:wIJ f u v=.val r s):(∃ b o n c e,v=.slice b o n c e∧f b o n=.val r s)∨∃ b w n,v=.vs b w n∧u b w n=.val r s:=by
 cases v<;>first | exact .inl ⟨_,_,_,_,_,rfl,h⟩ | exact .inr ⟨_,_,_,rfl,h⟩ | (cases h)
theorem JgA {f:List AV→ARes} {v:AV} {r:AV} {s:St} (h:jsQ f v=.val r s):∃ l,v=.agg l∧f l=.val r s:=by
 cases v<;>first | exact ⟨_,rfl,h⟩ | (cases h)
theorem WC {f:Nat→ARes} {v:AV} {r:AV} {s:St} (h:JyJ f v=.val r s):∃ k n,v=.int k (.ofNat n)∧f n=.val r s:=by
 obtain ⟨k,n,rfl,h⟩:=Jt h
 cases n with
 | ofNat n=>exact ⟨k,n,rfl,h⟩
 | negSucc n=>cases h
theorem wM {k k':IntKind} {x:ARes} {r:AV} {s:St} (h:yo k k' x=.val r s):k=k'∧x=.val r s:=by
 unfold yo at h
 cases e:Nat.beq (vi k) (vi k') with
 | false=>rw [e] at h;cases h
 | true=>rw [e] at h;exact ⟨YX (Nat.eq_of_beq_eq_true e),h⟩
theorem zjJ {f:IntKind→Int→Int→ARes} {x y r:AV} {s:St} (h:ints f x y=.val r s):∃ k a b,x=.int k a∧y=.int k b∧f k a b=.val r s:=by
 obtain ⟨k,a,e1,h1⟩:=Jt h
 obtain ⟨k',b,e2,h2⟩:=Jt h1
 obtain ⟨e3,h3⟩:=wM h2
 subst e3
 exact ⟨k,a,b,e1,e2,h3⟩
theorem gN {r:ARes} {v:AV} {s:St} (h:okA r=.val v s):r=.val v s∧v≠.bad:=by
 cases r with
 | fail=>cases h
 | val w t =>
  have h':YDJ w (.val w t)=.val v s:=h
  cases w<;>first | (cases h';done) | (exact ⟨h',by cases h';intro e;cases e⟩)
theorem VRel.int_inv {ρ:Rho} {k:IntKind} {n:Int} {V:Value} (h:VRel ρ (.int k n) V):V=.int k n:=by cases h;rfl
theorem VRel.bool_inv {ρ:Rho} {b:Bool} {V:Value} (h:VRel ρ (.bool b) V):V=.bool b:=by cases h;rfl
theorem VRel.str_inv {ρ:Rho} {b:ByteArray} {V:Value} (h:VRel ρ (.str b) V):V=.string b:=by cases h;rfl
theorem VRel.ptr_inv {ρ:Rho} {b o:Nat} {V:Value} (h:VRel ρ (.ptr b o) V):∃ c e,ρ b=some (c,e)∧V=.pointer (some ⟨c,e.2+o,none⟩):=by cases h with | ptr e=>exact ⟨_,_,e,rfl⟩
theorem VRel.slice_inv {ρ:Rho} {b o n c:Nat} {x:Bool} {V:Value} (h:VRel ρ (.slice b o n c x) V):∃ d e,ρ b=some (d,e)∧V=.slice (some ⟨d,e.2+o,none⟩) n (if x then c+e.1 else c):=by
 cases h with | slice e=>exact ⟨_,_,e,rfl⟩
theorem VRel.vs_inv {ρ:Rho} {b v n:Nat} {V:Value} (h:VRel ρ (.vs b v n) V):∃ y d e,ρ b=some y∧ρ v=some (d,e)∧V=.slice (some ⟨d,e.2,none⟩) n (n+e.1):=by
 cases h with | vs e q=>exact ⟨_,_,_,e,q,rfl⟩
theorem VRel.vp_inv {ρ:Rho} {b v o:Nat} {V:Value} (h:VRel ρ (.vp b v o) V):∃ y d e,ρ b=some y∧ρ v=some (d,e)∧V=.pointer (some ⟨d,e.2+o,none⟩):=by
 cases h with | vp e q=>exact ⟨_,_,_,e,q,rfl⟩
theorem VRel.gptr_inv {ρ:Rho} {g o:Nat} {V:Value} (h:VRel ρ (.gptr g o) V):V=.pointer (some ⟨g,o,none⟩):=by cases h;rfl
theorem VRel.tail_inv {ρ:Rho} {b o:Nat} {V:Value} (h:VRel ρ (.tail b o) V):∃ d e p,ρ b=some (d,e)∧(e.1=0∨p=e.2+o)∧V=.slice (some ⟨d,p,none⟩) 0 e.1:=by
 cases h with | tail e q=>exact ⟨_,_,_,e,q,rfl⟩
theorem VRel.agg_inv {ρ:Rho} {l:List AV} {V:Value} (h:VRel ρ (.agg l) V):∃ L,V=.agg L∧VRels ρ l L.toList:=by cases h with | agg a=>exact ⟨_,rfl,a⟩
theorem VRel.tup_inv {ρ:Rho} {l:List AV} {V:Value} (h:VRel ρ (.tup l) V):∃ L,V=.tuple L∧VRels ρ l L.toList:=by cases h with | tup a=>exact ⟨_,rfl,a⟩
theorem vAJ {op:BinOp} {f:St→IntKind→Int→Int→ARes} (h:JvA op=some f) {s s':St} {k:IntKind} {a b:Int} {r:AV} (hf:f s k a b=.val r s') (ρ:Rho) (P:Program) (t:TypeId) (W:World) :
  s'=s∧∃ V,(binOp op t (.int k a) (.int k b)).run P W=.ok V W∧VRel ρ r V:=by
 cases op<;>simp only [JvA,Option.some.injEq,reduceCtorEq] at h<;>subst h
 case add=>cases hf;exact ⟨rfl,.int k (k.wrap (a+b)),by simp [binOp,Op.intArith],by rw [gQ];exact .int _ _⟩
 case sub=>cases hf;exact ⟨rfl,.int k (k.wrap (a - b)),by simp [binOp,Op.intArith],by rw [gQ];exact .int _ _⟩
 case mul=>cases hf;exact ⟨rfl,.int k (k.wrap (a * b)),by simp [binOp,Op.intArith],by rw [gQ];exact .int _ _⟩
 case quo =>
  unfold JI at hf
  split at hf
  ·cases hf
  ·rename_i h0;cases hf;exact ⟨rfl,.int k (k.wrap (a.tdiv b)),by simp [binOp,Op.intDiv,h0],by rw [gQ];exact .int _ _⟩
 case rem =>
  unfold vZA at hf
  split at hf
  ·cases hf
  ·rename_i h0;cases hf;exact ⟨rfl,.int k (a.tmod b),by simp [binOp,Op.intDiv,h0],.int _ _⟩
 case and=>cases hf;exact ⟨rfl,.int k (k.wrap (BitVec.ofInt k.bits a &&& BitVec.ofInt k.bits b).toNat),by simp [binOp,Op.intBits],.int _ _⟩
 case or=>cases hf;exact ⟨rfl,.int k (k.wrap (BitVec.ofInt k.bits a ||| BitVec.ofInt k.bits b).toNat),by simp [binOp,Op.intBits],.int _ _⟩
 case xor=>cases hf;exact ⟨rfl,.int k (k.wrap (BitVec.ofInt k.bits a ^^^ BitVec.ofInt k.bits b).toNat),by simp [binOp,Op.intBits],.int _ _⟩
 case andNot=>cases hf;exact ⟨rfl,.int k (k.wrap (BitVec.ofInt k.bits a &&& ~~~ BitVec.ofInt k.bits b).toNat),by simp [binOp,Op.intBits],.int _ _⟩
 case eql=>cases hf;exact ⟨rfl,.bool (a == b),by simp [binOp,Op.intCmp],by rw [ZD];exact .bool _⟩
 case neq=>cases hf;exact ⟨rfl,.bool (!(a == b)),by simp [binOp,Op.intCmp,bne],by rw [ZD];exact .bool _⟩
 case lss =>
  cases hf
  refine ⟨rfl,.bool (decide (a<b)),by simp [binOp,Op.intCmp],?_⟩
  have:(!leI b a)=decide (a<b):=by rw [wT,← decide_not,decide_eq_decide];omega
  rw [this];exact .bool _
 case leq=>cases hf;exact ⟨rfl,.bool (decide (a≤b)),by simp [binOp,Op.intCmp],by rw [wT];exact .bool _⟩
 case gtr =>
  cases hf
  refine ⟨rfl,.bool (decide (b<a)),by simp [binOp,Op.intCmp],?_⟩
  have:(!leI a b)=decide (b<a):=by rw [wT,← decide_not,decide_eq_decide];omega
  rw [this];exact .bool _
 case geq=>cases hf;exact ⟨rfl,.bool (decide (b≤a)),by simp [binOp,Op.intCmp],by rw [wT];exact .bool _⟩
end Go.Abs
end
