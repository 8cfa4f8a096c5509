/- What operations leave: those that do not write, all but a new block; all others, what they do not name. -/
import Derived.Test.YtoklbkgcclkejaaAbsLight
noncomputable section
namespace Go.Abs
variable {P:Program}
structure Fr (s s':St):Prop where
 n:s.n≤s'.n
 m:s'.m≤s.m
 same:∀ b,b<s'.m→b<s.n→s'.h.get b=s.h.get b
 wf:(∀ b,s.n≤b→s.h.get b=none)→∀ b,s'.n≤b→s'.h.get b=none
theorem Fr.refl (s:St):Fr s s:=⟨Nat.le_refl _,Nat.le_refl _,fun _ _ _=>rfl,fun h=>h⟩
theorem Fr.trans {s t u:St} (a:Fr s t) (b:Fr t u):Fr s u :=
 ⟨Nat.le_trans a.n b.n,Nat.le_trans b.m a.m,fun x h1 h2=>(b.same x h1 (Nat.lt_of_lt_of_le h2 a.n)).trans (a.same x (Nat.lt_of_lt_of_le h1 b.m) h2),fun h=>b.wf (a.wf h)⟩
theorem Fr.new (s:St) (o:AObj):Fr s (s.new o) :=
 ⟨Nat.le_succ _,Nat.le_refl _,fun b _ h=>by rw [St.new_h,jH _ _ _ _ (by omega)],
  fun h b hb=>by have hb:s.n+1≤b:=hb;rw [St.new_h,jH _ _ _ _ (by omega)];exact h b (by omega)⟩
theorem Fr.put {s:St} {b:Nat} {x:AObj} (o:AObj) (hb:s.h.get b=some x):Fr s (s.put b o) :=
 ⟨Nat.le_refl _,jW _ _,
  fun i hi _=>by have:=jY s.m b;have hi':i<yA s.m b:=hi;rw [St.put_h,jH _ _ _ _ (by omega)],
  fun h i hi=>by rw [St.put_h,jH _ _ _ _ (fun e=>by rw [e] at hi;rw [h b hi] at hb;cases hb)];exact h i hi⟩
theorem Fr.kill (s:St) (b:Nat):Fr s (s.kill b) :=
 ⟨Nat.le_refl _,jW _ _,
  fun i hi _=>by have:=jY s.m b;have hi':i<yA s.m b:=hi;rw [St.kill_h,jH _ _ _ _ (by omega)],
  fun h i hi=>by
   rw [St.kill_h]
   cases e:(Heap.set none depth s.h b).get i with
   | none=>rfl
   | some y =>
    rcases jj e with ⟨_,_,z⟩ | ⟨z,_⟩
    ·cases z
    ·rw [h i hi] at z;cases z⟩
theorem Fr.mark {s s':St} (a:Fr ⟨s.h,s.n,far⟩ s') (m:Nat) (hm:m≤s.m) (hle:∀ b,b<m→b<s.n→b<s'.m):Fr s ⟨s'.h,s'.n,m⟩ :=
 ⟨a.n,hm,fun b h1 h2=>a.same b (hle b h1 h2) h2,a.wf⟩
def St.add (s:St):Option AObj→St
 | none=>s
 | some o=>s.new o
theorem Fr.add (s:St):∀ o,Fr s (s.add o)
 | none=>.refl s
 | some o=>.new s o
structure Mk (c:Nat) (new:Option AObj):Prop where
 make:c≠1→new=none
 lone:∀ o,new=some o→o.lone
theorem Mk.none (c:Nat):Mk c .none:=⟨fun _=>rfl,fun _ e=>by cases e⟩
def Light (l:List Operand) (c:Nat) (f:OpF):Prop:=∀ L s v s',f L s=.val v s'→∃ (need:Option Nat) (new:Option AObj),
 Mk c new∧(c≠2→need=none)∧s'=s.add new ∧
 (∀ b,need=some b→(∃ x,s.h.get b=some x)∧∃ x r a,l=x::r∧jM x=some a∧((∃ o,a.ev L=.ptr b o)∨a.ev L=.map b∨∃ w o,a.ev L=.vp b w o)) ∧
 ∀ s2,(new≠none→s2.n=s.n)→(∀ b,need=some b→s2.h.get b=s.h.get b)→f L s2=.val v (s2.add new)
def Same (f:OpF):Prop:=∀ L s v s',f L s=.val v s'→s'=s∧∀ s2,f L s2=.val v s2
theorem Same.light {f:OpF} (h:Same f) {l:List Operand} (c:Nat):Light l c f:=by
 intro L s v s' hf
 obtain ⟨h1,h2⟩:=h L s v s' hf
 exact ⟨none,none,Mk.none _,fun _=>rfl,h1,(fun b e=>by cases e),fun s2 _ _=>h2 s2⟩
def Same1 (g:St→AV→ARes):Prop:=∀ s x v s',g s x=.val v s'→s'=s∧∀ s2,g s2 x=.val v s2
def Same2 (g:St→AV→AV→ARes):Prop:=∀ s x y v s',g s x y=.val v s'→s'=s∧∀ s2,g s2 x y=.val v s2
theorem Same1.un {g:St→AV→ARes} (h:Same1 g) (a:Arg):Same (kUn g a):=fun L s v s' hf=>h s (a.ev L) v s' hf
theorem Same2.two {g:St→AV→AV→ARes} (h:Same2 g) (a b:Arg):Same (jJ g a b):=fun L s v s' hf=>h s (a.ev L) (b.ev L) v s' hf
theorem ZA {v:AV} {s:St} (h:v≠.bad):okA (.val v s)=.val v s:=by cases v<;>first | rfl | (exact absurd rfl h)
theorem same_move (a:Arg):Same (zE a):=fun L s v s' h=>by cases h;exact ⟨rfl,fun _=>rfl⟩
theorem same_pick (c a b:Arg):Same (yY c a b):=by
 intro L s v s' h
 unfold yY pickA at h
 obtain ⟨t,e,h⟩:=YP h
 cases h
 refine ⟨rfl,fun s2=>?_⟩
 unfold yY pickA
 rw [e];rfl
theorem same_build (z:List AV) (ps:List (Nat × Nat × Arg)):Same (ye z ps):=by
 intro L s v s' h
 unfold ye at h
 split at h
 ·rename_i c hc
  cases h
  exact ⟨rfl,fun s2=>by unfold ye;rw [hc]⟩
 ·cases h
theorem same_func (f:FuncId) (l r:List Arg):Same (JO f l r):=fun L s v s' h=>by cases h;exact ⟨rfl,fun _=>rfl⟩
theorem same_nil:Same1 Zs:=by
 intro s x v s' h
 cases x<;>first | (cases h;done) | (cases h;exact ⟨rfl,fun _=>rfl⟩)
theorem same_not:Same1 Zq:=by
 intro s x v s' h
 obtain ⟨b,rfl,h⟩:=YP h
 cases h
 exact ⟨rfl,fun _=>rfl⟩
theorem same_neg:Same1 negA:=by
 intro s x v s' h
 cases x<;>first | (cases h;done) | (cases h;exact ⟨rfl,fun _=>rfl⟩)
theorem same_xor:Same1 xorA:=by
 intro s x v s' h
 cases x<;>first | (cases h;done) | (cases h;exact ⟨rfl,fun _=>rfl⟩)
theorem same_cvi (k:IntKind):Same1 (cviA k):=by
 intro s x v s' h
 cases x<;>first | (cases h;done) | (cases h;exact ⟨rfl,fun _=>rfl⟩)
theorem same_cvs:Same1 cvsA:=by
 intro s x v s' h
 cases x<;>first | (cases h;done) | (cases h;exact ⟨rfl,fun _=>rfl⟩)
theorem same_fad (off:Nat):Same1 (zS off):=by
 intro s x v s' h
 rcases ww h with ⟨b,o,rfl,h⟩ | ⟨b,o,rfl,h⟩ | ⟨b,w,o,rfl,h⟩
 ·cases h
  exact ⟨rfl,fun _=>rfl⟩
 ·cases h
  exact ⟨rfl,fun _=>rfl⟩
 ·cases h
  exact ⟨rfl,fun _=>rfl⟩
theorem same_fld (sh:Option Nat) (off:Nat):Same1 (fldA sh off):=by
 intro s x v s' h
 obtain ⟨l,rfl,h⟩:=onAgg_val h
 have h:okA (.val (yW sh l off) s)=.val v s':=h
 obtain ⟨h,hb⟩:=gM h
 cases h
 refine ⟨rfl,fun s2=>?_⟩
 show okA (.val (yW sh l off) s2)=_
 exact ZA hb
theorem same_ext (i:Nat):Same1 (Jm i):=by
 intro s x v s' h
 unfold Jm at h
 split at h
 ·split at h
  ·rename_i hv;cases h;exact ⟨rfl,fun s2=>by unfold Jm;simp only [hv]⟩
  ·cases h
 ·cases h
theorem same_lenSl:Same1 zq:=by
 intro s x v s' h
 cases x<;>first | (cases h;done) | (cases h;exact ⟨rfl,fun _=>rfl⟩)
theorem same_lenStr:Same1 lenStrA:=by
 intro s x v s' h
 cases x<;>first | (cases h;done) | (cases h;exact ⟨rfl,fun _=>rfl⟩)
theorem same_caps:Same1 capsA:=by
 intro s x v s' h
 unfold capsA at h
 split at h
 ·cases h;exact ⟨rfl,fun _=>rfl⟩
 ·cases h;exact ⟨rfl,fun _=>rfl⟩
 ·cases h;exact ⟨rfl,fun _=>rfl⟩
 ·cases h;exact ⟨rfl,fun _=>rfl⟩
 ·cases h
theorem placeA_same {s s':St} {b o len size i:Nat} {v:AV} (h:Zk s b o len size i=.val v s'):s'=s∧∀ s2,Zk s2 b o len size i=.val v s2:=by
 unfold Zk at h ⊢
 cases e:Nat.ble (Nat.succ i) len with
 | false=>rw [e] at h;cases h
 | true=>rw [e] at h;cases h;exact ⟨rfl,fun _=>rfl⟩
theorem placeV_same {s s':St} {b w len size i:Nat} {v:AV} (h:placeV s b w len size i=.val v s'):s'=s∧∀ s2,placeV s2 b w len size i=.val v s2:=by
 unfold placeV at h ⊢
 cases e:Nat.ble (Nat.succ i) len with
 | false=>rw [e] at h;cases h
 | true=>rw [e] at h;cases h;exact ⟨rfl,fun _=>rfl⟩
theorem same_ixs (size:Nat):Same2 (jX size):=by
 intro s x y v s' h
 obtain ⟨k,n,rfl,h⟩:=onNat_val h
 rcases onSlice_val h with ⟨b,o,m,c,e,rfl,h⟩ | ⟨b,w,m,rfl,h⟩
 ·exact placeA_same h
 ·exact placeV_same h
theorem placeG_same {s s':St} {b o len size i:Nat} {v:AV} (h:placeG s b o len size i=.val v s'):s'=s∧∀ s2,placeG s2 b o len size i=.val v s2:=by
 unfold placeG at h ⊢
 cases e:Nat.ble (Nat.succ i) len with
 | false=>rw [e] at h;cases h
 | true=>rw [e] at h;cases h;exact ⟨rfl,fun _=>rfl⟩
theorem same_ixa (n size:Nat):Same2 (ixaA n size):=by
 intro s x y v s' h
 obtain ⟨k,n,rfl,h⟩:=onNat_val h
 rcases ww h with ⟨b,o,rfl,h⟩ | ⟨b,o,rfl,h⟩ | ⟨_,_,_,_,h⟩
 ·exact placeA_same h
 ·exact placeG_same h
 ·cases h
theorem same_ind (n size:Nat) (sh:Option Nat):Same2 (indA n size sh):=by
 intro s x y v s' h
 unfold indA at h
 split at h
 ·split at h
  ·split at h
   ·rename_i hb
    obtain ⟨h,hne⟩:=gM h
    cases h
    exact ⟨rfl,fun s2=>by unfold indA;simp only [hb];exact ZA hne⟩
   ·cases h
  ·cases h
 ·cases h
theorem same_ins:Same2 insA:=by
 intro s x y v s' h
 unfold insA at h
 split at h
 ·split at h
  ·split at h
   ·rename_i hb;cases h;exact ⟨rfl,fun s2=>by unfold insA;simp only [hb]⟩
   ·cases h
  ·cases h
 ·cases h
theorem same_int {op:BinOp} {g:St→IntKind→Int→Int→ARes} (hop:intOp op=some g) (a b:Arg):Same (zV g a b):=by
 intro L s v s' h
 unfold zV at h ⊢
 obtain ⟨k,x,y,e1,e2,h⟩:=ints_val h
 have key:s'=s∧∀ s2,g s2 k x y=.val v s2:=by
  cases op<;>simp only [intOp,Option.some.injEq,reduceCtorEq] at hop<;>subst hop
  all_goals first
   | (cases h;exact ⟨rfl,fun _=>rfl⟩)
   | skip
  ·unfold JG at h ⊢
   split at h
   ·cases h
   ·rename_i h0;cases h;exact ⟨rfl,fun _=>by rw [if_neg h0]⟩
  ·unfold aRem at h ⊢
   split at h
   ·cases h
   ·rename_i h0;cases h;exact ⟨rfl,fun _=>by rw [if_neg h0]⟩
 refine ⟨key.1,fun s2=>?_⟩
 rw [e1,e2]
 show yo k k (g s2 k x y)=_
 unfold yo
 rw [Nat.beq_refl]
 exact key.2 s2
theorem same_gtr (a b:Arg):Same (Zz a b):=by
 intro L s v s' h
 unfold Zz at h ⊢
 obtain ⟨k,m,e1,h⟩:=Jr h
 generalize b.ev L=y at *
 have key:s'=s∧∀ s2,gtrA s2 k m y=.val v s2:=by
  cases y with
  | int k' n =>
   obtain ⟨hk,h2⟩:=wN (show yo k k' (aGtr s k m n)=.val v s' from h)
   subst hk
   cases h2
   refine ⟨rfl,fun s2=>?_⟩
   show yo k k (aGtr s2 k m n)=_
   unfold yo
   rw [Nat.beq_refl];rfl
  | ge k' n =>
   obtain ⟨hk,h2⟩:=wN (show yo k k' (Bool.casesOn (motive:=fun _=>ARes) (leI m n) ARes.fail (.val (.bool false) s))=.val v s' from h)
   subst hk
   cases hle:leI m n with
   | false=>rw [hle] at h2;cases h2
   | true =>
    rw [hle] at h2
    cases h2
    refine ⟨rfl,fun s2=>?_⟩
    show yo k k (Bool.casesOn (motive:=fun _=>ARes) (leI m n) ARes.fail (.val (.bool false) s2))=_
    unfold yo
    rw [Nat.beq_refl,hle]
  | _=>cases h
 refine ⟨key.1,fun s2=>?_⟩
 rw [e1]
 exact key.2 s2
theorem same_shl (a b:Arg):Same (kShl a b):=by
 intro L s v s' h
 unfold kShl at h ⊢
 generalize a.ev L=x at *
 generalize b.ev L=y at *
 unfold shlA at h
 split at h
 ·cases h;exact ⟨rfl,fun _=>rfl⟩
 ·cases h
theorem same_shr (a b:Arg):Same (kShr a b):=by
 intro L s v s' h
 unfold kShr at h ⊢
 generalize a.ev L=x at *
 generalize b.ev L=y at *
 unfold shrA at h
 split at h
 ·cases h;exact ⟨rfl,fun _=>rfl⟩
 ·cases h
theorem same_str (op:BinOp) (a b:Arg):Same (kStr op a b):=by
 intro L s v s' h
 unfold kStr at h ⊢
 generalize a.ev L=x at *
 generalize b.ev L=y at *
 unfold strA at h
 split at h
 ·split at h
  ·split at h
   ·cases h
   ·rename_i h0;cases h;exact ⟨rfl,fun _=>by unfold strA;simp only [h0,if_false]⟩
  all_goals first | (cases h;exact ⟨rfl,fun _=>rfl⟩) | (cases h;done)
 ·cases h
theorem same_eql (c:Cmp) (neg:Bool) (a b:Arg):Same (kEql c neg a b):=by
 intro L s v s' h
 unfold kEql eqlA at h ⊢
 split at h
 ·cases h;exact ⟨rfl,fun _=>rfl⟩
 ·cases h
theorem same_bin {op:BinOp} {t:TypeId} {a b:Arg} {f:OpF} (h:binK P op t a b=some f):Same f:=by
 unfold binK at h
 repeat' (split at h)
 all_goals first
  | (cases h;done)
  | (cases h;exact same_shl _ _)
  | (cases h;exact same_shr _ _)
  | (cases h;exact same_gtr _ _)
  | (rename_i hop;cases h;exact same_int hop _ _)
  | (cases h;exact same_str _ _ _)
  | (cases h;exact same_eql _ _ _ _)
theorem same_sliceStr (lo hi:Option AV):Same1 (Zd lo hi):=by
 intro s x v s' h
 unfold Zd at h
 split at h
 ·split at h
  ·rename_i hb;cases h;exact ⟨rfl,fun _=>by unfold Zd;simp only [hb]⟩
  ·cases h
 ·cases h
theorem same_sliceVal (size:Nat) (lo hi:Option AV):Same1 (yT size lo hi):=by
 intro s x v s' h
 unfold yT at h
 split at h
 ·split at h
  ·cases h
  ·rename_i h0
   split at h
   ·rename_i h1
    split at h
    ·rename_i h2
     split at h
     ·rename_i h3;cases h;exact ⟨rfl,fun _=>by unfold yT;simp only [h0,h1,h2,if_pos h3]⟩
     ·rename_i h3;cases h;exact ⟨rfl,fun _=>by unfold yT;simp only [h0,h1,h2,if_neg h3]⟩
    ·rename_i h2;cases h;exact ⟨rfl,fun _=>by unfold yT;simp only [h0,h1,h2]⟩
   ·cases h
 ·split at h
  ·rename_i h0;cases h;exact ⟨rfl,fun _=>by unfold yT;simp only [h0]⟩
  ·cases h
 ·split at h
  ·rename_i h0;cases h;exact ⟨rfl,fun _=>by unfold yT;simp only [h0]⟩
  ·cases h
 ·cases h
theorem same_sliceArr (n size:Nat) (lo hi:Option AV):Same1 (Ze n size lo hi):=by
 intro s x v s' h
 unfold Ze at h
 split at h
 ·split at h
  ·rename_i hb;cases h;exact ⟨rfl,fun _=>by unfold Ze;simp only [hb]⟩
  ·cases h
 ·cases h
theorem same_slice3 (x:Arg) (lo:Option Arg) (hi mx:Arg):Same (kSlice3 x lo hi mx):=by
 intro L s v s' h
 have h:YJ (vy lo L) (hi.ev L) (mx.ev L) s (x.ev L)=.val v s':=h
 show s'=s∧∀ s2,YJ (vy lo L) (hi.ev L) (mx.ev L) s2 (x.ev L)=.val v s2
 unfold YJ at h
 split at h
 ·rename_i h0
  split at h
  ·cases h
  ·rename_i h1
   split at h
   ·cases h
   ·rename_i h2
    split at h
    ·cases h
    ·rename_i h3
     split at h
     ·cases h
     ·rename_i h4
      cases h
      exact ⟨rfl,fun s2=>by rw [h0];simp only [YJ,h1,h2,h3,h4]⟩
 ·cases h
theorem same_slice {g:Option AV→Option AV→St→AV→ARes} (hg:∀ lo hi,Same1 (g lo hi)) (x:Arg) (lo hi:Option Arg):Same (ZB g x lo hi) :=
 fun _ s v s' h=>hg _ _ s _ v s' h
theorem same_fold (g:AV→AV→AV) (x:Arg) (r:List Arg):Same (gX g x r):=by
 intro L s v s' h
 unfold gX at h ⊢
 obtain ⟨h,hb⟩:=gM h
 cases h
 exact ⟨rfl,fun s2=>ZA hb⟩
def Makes (f:OpF):Prop:=∀ L s v s',f L s=.val v s'→∃ o,o.lone∧s'=s.new o∧∀ s2,s2.n=s.n→f L s2=.val v (s2.new o)
theorem Makes.light {f:OpF} (h:Makes f) {l:List Operand}:Light l 1 f:=by
 intro L s v s' hf
 obtain ⟨o,h0,h1,h2⟩:=h L s v s' hf
 exact ⟨none,some o,⟨(fun e=>absurd rfl e),fun _ e=>by cases e;exact h0⟩,fun _=>rfl,h1,(fun b e=>by cases e),fun s2 hn _=>h2 s2 (hn (fun e=>by cases e))⟩
theorem makes_alloc (z:List AV) (sz:Nat):Makes (jR z sz):=by
 intro _ s v s' h
 unfold jR newA at h
 cases h
 exact ⟨_,(by exact trivial),rfl,fun s2 hn=>by unfold jR newA;rw [hn]⟩
theorem makes_box (sz:Nat) (a:Arg):Makes (yF sz a):=by
 intro L s v s' h
 unfold yF at h ⊢
 generalize a.ev L=x at *
 cases x<;>first | (cases h;done) | (cases h;exact ⟨_,(by exact trivial),rfl,fun s2 hn=>by unfold boxA newA;rw [hn]⟩)
theorem makes_buildSlice (z:List AV) (len:Nat) (ps:List (Nat × Nat × Arg)):Makes (zz z len ps):=by
 intro L s v s' h
 unfold zz at h
 split at h
 ·rename_i c hc
  cases h
  exact ⟨_,(by exact trivial),rfl,fun s2 hn=>by unfold zz;rw [hc,hn]⟩
 ·cases h
theorem makes_map:Makes kMap:=by
 intro _ s v s' h
 cases h
 exact ⟨_,(by exact trivial),rfl,fun s2 hn=>by unfold kMap;rw [hn]⟩
theorem makes_mapHint (a:Arg):Makes (kUn Ju a):=by
 intro L s v s' h
 unfold kUn at h ⊢
 generalize a.ev L=x at *
 cases x<;>first | (cases h;done) | (cases h;exact ⟨_,(by exact trivial),rfl,fun s2 hn=>by unfold Ju;rw [hn]⟩)
theorem makes_make (z:List AV) (bytes:Nat) (a b:Arg):Makes (kMake z bytes a b):=by
 intro L s v s' h
 unfold kMake at h ⊢
 generalize a.ev L=x at *
 generalize b.ev L=y at *
 unfold makeA at h
 split at h
 ·split at h
  ·cases h
  ·rename_i h0
   split at h
   ·cases h
   ·rename_i h1
    split at h
    ·cases h
    ·rename_i h2
     cases h
     exact ⟨_,(by exact trivial),rfl,fun s2 hn=>by unfold makeA;simp only [h0,h1,h2,hn]⟩
 ·cases h
theorem light_load {sh:Option Nat} {x:Operand} {a:Arg} (ha:jM x=some a) {l r:List Operand} (hx:l=x::r):Light l 2 (zI sh a):=by
 intro L s v s' h
 unfold zI at h
 obtain ⟨h,hb⟩:=gM h
 unfold Jw at h
 rcases ww h with ⟨b,o,e,h⟩ | ⟨g,o,e,h⟩ | ⟨b,w,o,e,h⟩
 case inr.inr =>
  unfold loadV at h
  split at h
  ·rename_i c hg
   cases h
   obtain ⟨_,y,hy,_⟩:=ZF hg
   refine ⟨some b,none,Mk.none _,(fun e=>absurd rfl e),rfl,?_,?_⟩
   ·intro b' e'
    cases e'
    exact ⟨⟨_,hy⟩,x,r,a,hx,ha,.inr (.inr ⟨w,o,e⟩)⟩
   ·intro s2 _ hs
    have hs:=hs b rfl
    unfold zI Jw
    rw [e]
    show okA (loadV sh s2 b w o)=_
    have hv:gR s2 b w=gR s b w:=by unfold gR;rw [hs]
    unfold loadV
    rw [hv,hg]
    exact ZA hb
  ·cases h
 case inr.inl =>
  unfold loadG at h
  split at h
  ·rename_i c hg
   cases h
   refine ⟨none,none,Mk.none _,fun _=>rfl,rfl,(fun b e=>by cases e),fun s2 _ _=>?_⟩
   unfold zI Jw
   rw [e]
   show okA (loadG sh s2 g o)=_
   unfold loadG
   rw [hg]
   exact ZA hb
  ·cases h
 unfold gL at h
 split at h
 ·rename_i c sz hg
  cases h
  refine ⟨some b,none,Mk.none _,(fun e=>absurd rfl e),rfl,?_,?_⟩
  ·intro b' e'
   cases e'
   exact ⟨⟨_,hg⟩,x,r,a,hx,ha,.inl ⟨o,e⟩⟩
  ·intro s2 _ hs
   have hs:=hs b rfl
   unfold zI Jw
   rw [e]
   show okA (gL s2 b fun c _=>.val (yW sh c o) s2)=_
   unfold gL
   rw [hs,hg]
   exact ZA hb
 ·rename_i c sz k vs hg
  cases h
  refine ⟨some b,none,Mk.none _,(fun e=>absurd rfl e),rfl,?_,?_⟩
  ·intro b' e'
   cases e'
   exact ⟨⟨_,hg⟩,x,r,a,hx,ha,.inl ⟨o,e⟩⟩
  ·intro s2 _ hs
   have hs:=hs b rfl
   unfold zI Jw
   rw [e]
   show okA (gL s2 b fun c _=>.val (yW sh c o) s2)=_
   unfold gL
   rw [hs,hg]
   exact ZA hb
 ·cases h
theorem light_look {c:Cmp} {z:AV} {ok:Bool} {x:Operand} {a b:Arg} (ha:jM x=some a) {l r:List Operand} (hx:l=x::r):Light l 2 (kLook c z ok a b):=by
 intro L s v s' h
 have h:ARes.fail=.val v s':=h
 cases h
theorem light_lenMap {x:Operand} {a:Arg} (ha:jM x=some a) {l r:List Operand} (hx:l=x::r):Light l 2 (kUn YU a):=by
 intro L s v s' h
 unfold kUn at h
 generalize e:a.ev L=m at h
 unfold YU at h
 split at h
 ·cases h
  refine ⟨none,none,Mk.none _,fun _=>rfl,rfl,(fun b e=>by cases e),fun s2 _ _=>?_⟩
  unfold kUn
  rw [e];rfl
 ·rename_i d
  split at h
  ·rename_i es hg
   cases h
   refine ⟨some d,none,Mk.none _,(fun e=>absurd rfl e),rfl,?_,?_⟩
   ·intro b' e'
    cases e'
    exact ⟨⟨_,hg⟩,x,r,a,hx,ha,.inr (.inl e)⟩
   ·intro s2 _ hs
    have hs:=hs d rfl
    unfold kUn
    rw [e]
    unfold YU
    simp only [hs,hg]
    rfl
  ·cases h
 ·cases h
theorem arg_of {l:List Operand} {x:Arg} {r:List Arg} (ha:jz l=some (x::r)):∃ y q,l=y::q∧jM y=some x:=by
 cases l with
 | nil=>cases ha
 | cons y q =>
  unfold jz at ha
  split at ha
  ·rename_i h1 h2;cases ha;exact ⟨y,q,rfl,h1⟩
  ·cases ha
theorem same_sliceData:Same1 sliceDataA:=by
 intro s x v s' h
 have h:ARes.fail=.val v s':=h
 cases h
theorem light_builtin {b:Builtin} {args:Array Operand} {ts:Array TypeId} {m:List Arg} (ha:jz args.toList=some m) {f:OpF} (hf:vm P b ts m=some f)
  (hc:yD (.call ⟨.builtin b,args,ts⟩)≠3):Light (Op.call ⟨.builtin b,args,ts⟩).operands.toList (yD (.call ⟨.builtin b,args,ts⟩)) f:=by
 unfold vm at hf
 split at hf
 all_goals first | (cases hf;done) | skip
 ·split at hf
  ·unfold lenK at hf
   split at hf
   ·cases hf;exact (same_lenStr.un _).light _
   ·cases hf;exact (same_lenSl.un _).light _
   ·cases hf
    obtain ⟨y,q,hm,hy⟩:=arg_of ha
    exact light_lenMap hy (r:=q) (by simp [Op.operands,Call.operands,hm])
   ·cases hf;exact (same_move _).light _
   ·cases hf
  ·cases hf
 ·split at hf
  ·unfold capK at hf
   split at hf
   ·cases hf;exact (same_caps.un _).light _
   ·cases hf;exact (same_move _).light _
   ·cases hf
  ·cases hf
 ·exact absurd rfl hc
 ·exact absurd rfl hc
 ·exact absurd rfl hc
 ·cases hf;exact (same_sliceData.un _).light _
 ·exact absurd rfl hc
 ·cases hf;exact (same_fold _ _ _).light _
 ·cases hf;exact (same_fold _ _ _).light _
 ·exact absurd rfl hc
theorem opK_light {op:Op} {f:OpF} (h:opK P op=some f) (hc:yD op≠3):Light op.operands.toList (yD op) f:=by
 unfold opK at h
 split at h
 case h_1=>obtain ⟨a,ha,h⟩:=jS h;cases h;exact (same_move _).light _
 case h_2=>obtain ⟨a,ha,h⟩:=jS h;cases h;exact (same_move _).light _
 case h_3=>obtain ⟨a,b,c,ha,hb,hc,h⟩:=yl h;cases h;exact (same_pick _ _ _).light _
 case h_4 =>
  split at h
  ·cases h;exact (makes_alloc _ _).light
  ·cases h
 case h_5=>obtain ⟨a,ha,h⟩:=jS h;cases h;exact (makes_box _ _).light
 case h_6 =>
  unfold buildK at h
  repeat' (split at h)
  all_goals first | (cases h;done) | (cases h;exact (same_build _ _).light _)
 case h_7 =>
  unfold gi at h
  repeat' (split at h)
  all_goals first | (cases h;done) | (cases h;exact (makes_buildSlice _ _ _).light)
 case h_8 =>
  split at h
  ·obtain ⟨a,ha,h⟩:=jS h;cases h;exact light_load ha (r:=[]) (by simp [Op.operands])
  ·cases h
 case h_9=>exact absurd rfl hc
 case h_10=>obtain ⟨a,ha,h⟩:=jS h;cases h;exact (same_nil.un _).light _
 case h_11=>obtain ⟨a,b,ha,hb,h⟩:=yB h;exact (same_bin h).light _
 case h_12 =>
  obtain ⟨a,ha,h⟩:=jS h
  unfold unK at h
  split at h<;>first | (cases h;exact (same_neg.un _).light _) | (cases h;exact (same_xor.un _).light _) | (cases h;exact (same_not.un _).light _) | (cases h;done)
 case h_13 =>
  obtain ⟨a,ha,h⟩:=jS h
  have hcv:∀ {p q:Nat} {y:Operand},yD (.convert p q y)≠3→JP p q=false:=fun {p q y} hn=>by
   cases e:JP p q with
   | false=>rfl
   | true=>exact absurd (by show (match JP p q with | true=>3 | false=>0)=3;rw [e]) hn
  have hc':=hcv hc
  unfold convK at h
  rw [hc'] at h
  simp only [convL] at h
  split at h<;>first | (cases h;exact ((same_cvi _).un _).light _) | (cases h;exact (same_cvs.un _).light _) | (cases h;done)
 case h_14 =>
  split at h
  ·cases h;exact (same_func _ _ _).light _
  ·cases h
 case h_15=>cases h;exact makes_map.light
 case h_16 =>
  split at h
  ·obtain ⟨a,ha,h⟩:=jS h;cases h;exact (makes_mapHint _).light
  ·cases h
 case h_17 =>
  repeat' (split at h)
  all_goals first
   | (cases h;done)
   | (obtain ⟨a,b,ha,hb,h⟩:=yB h;cases h;exact (makes_make _ _ _ _).light)
 case h_18 =>
  split at h
  ·split at h
   ·unfold sliceK at h
    repeat' (split at h)
    all_goals first
     | (cases h;done)
     | (cases h;exact (same_slice same_sliceStr _ _ _).light _)
     | (cases h;exact (same_slice (same_sliceVal _) _ _ _).light _)
     | (cases h;exact (same_slice (same_sliceArr _ _) _ _ _).light _)
   ·cases h
  ·split at h
   ·unfold slice3K at h
    repeat' (split at h)
    all_goals first
     | (cases h;done)
     | (cases h;exact (same_slice3 _ _ _ _).light _)
   ·cases h
 case h_19 =>
  repeat' (split at h)
  all_goals first
   | (cases h;done)
   | (obtain ⟨a,ha,h⟩:=jS h;cases h;exact ((same_fad _).un _).light _)
 case h_20 =>
  repeat' (split at h)
  all_goals first
   | (cases h;done)
   | (obtain ⟨a,ha,h⟩:=jS h;cases h;exact ((same_fld _ _).un _).light _)
 case h_21 =>
  repeat' (split at h)
  all_goals first
   | (cases h;done)
   | (obtain ⟨a,b,ha,hb,h⟩:=yB h;cases h;exact ((same_ixs _).two _ _).light _)
   | (obtain ⟨a,b,ha,hb,h⟩:=yB h;cases h;exact ((same_ixa _ _).two _ _).light _)
 case h_22 =>
  repeat' (split at h)
  all_goals first
   | (cases h;done)
   | (obtain ⟨a,b,ha,hb,h⟩:=yB h;cases h;exact (same_ins.two _ _).light _)
   | (obtain ⟨a,b,ha,hb,h⟩:=yB h;cases h;exact ((same_ind _ _ _).two _ _).light _)
 case h_23 =>
  split at h
  ·obtain ⟨a,b,ha,hb,h⟩:=yB h;cases h;exact light_look ha rfl
  ·cases h
 case h_24=>exact absurd rfl hc
 case h_25=>exact absurd rfl hc
 case h_26=>obtain ⟨a,ha,h⟩:=jS h;cases h;exact ((same_ext _).un _).light _
 case h_27 =>
  split at h
  ·rename_i hl;exact light_builtin hl h hc
  ·cases h
 case h_28=>exact absurd rfl hc
 case h_29=>cases h
end Go.Abs
end
