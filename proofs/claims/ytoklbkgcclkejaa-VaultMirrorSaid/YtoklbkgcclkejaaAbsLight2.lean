/- What operations leave: those that do not write, all but a new block; all others, what they do not name. -/
import Derived.Test.YtoklbkgcclkejaaAbsLight
set_option linter.unusedVariables false
noncomputable section
namespace Go.Abs
variable {P:Program}
structure Fr (s s':St):Prop where
 n:s.n≤s'.n
 m:s'.m≤s.m
 same:∀ b,b<s'.m→b<s.n→s'.h.get b=s.h.get b
 wf:(∀ b,s.n≤b→s.h.get b=none)→∀ b,s'.n≤b→s'.h.get b=none
theorem Fr.refl (s:St):Fr s s:=⟨Nat.le_refl _,Nat.le_refl _,fun _ _ _=>rfl,fun h=>h⟩
theorem Fr.trans {s t u:St} (a:Fr s t) (b:Fr t u):Fr s u :=
 ⟨Nat.le_trans a.n b.n,Nat.le_trans b.m a.m,fun x h1 h2=>(b.same x h1 (Nat.lt_of_lt_of_le h2 a.n)).trans (a.same x (Nat.lt_of_lt_of_le h1 b.m) h2),fun h=>b.wf (a.wf h)⟩
theorem Fr.new (s:St) (o:AObj):Fr s (s.new o) :=
 ⟨Nat.le_succ _,Nat.le_refl _,fun b _ h=>by rw [St.new_h,jH _ _ _ _ (by omega)],
  fun h b hb=>by have hb:s.n+1≤b:=hb;rw [St.new_h,jH _ _ _ _ (by omega)];exact h b (by omega)⟩
theorem Fr.put {s:St} {b:Nat} {x:AObj} (o:AObj) (hb:s.h.get b=some x):Fr s (s.put b o) :=
 ⟨Nat.le_refl _,jW _ _,
  fun i hi _=>by have:=jY s.m b;have hi':i<yA s.m b:=hi;rw [St.put_h,jH _ _ _ _ (by omega)],
  fun h i hi=>by rw [St.put_h,jH _ _ _ _ (fun e=>by rw [e] at hi;rw [h b hi] at hb;cases hb)];exact h i hi⟩
theorem Fr.kill (s:St) (b:Nat):Fr s (s.kill b) :=
 ⟨Nat.le_refl _,jW _ _,
  fun i hi _=>by have:=jY s.m b;have hi':i<yA s.m b:=hi;rw [St.kill_h,jH _ _ _ _ (by omega)],
  fun h i hi=>by
   rw [St.kill_h]
   cases e:(Heap.set none depth s.h b).get i with
   | none=>rfl
   | some y =>
    rcases jj e with ⟨_,_,z⟩ | ⟨z,_⟩
    ·cases z
    ·rw [h i hi] at z;cases z⟩
theorem Fr.mark {s s':St} (a:Fr ⟨s.h,s.n,far⟩ s') (m:Nat) (hm:m≤s.m) (hle:∀ b,b<m→b<s.n→b<s'.m):Fr s ⟨s'.h,s'.n,m⟩ :=
 ⟨a.n,hm,fun b h1 h2=>a.same b (hle b h1 h2) h2,a.wf⟩
def St.add (s:St):Option AObj→St
 | none=>s
 | some o=>s.new o
theorem Fr.add (s:St):∀ o,Fr s (s.add o)
 | none=>.refl s
 | some o=>.new s o
structure Mk (c:Nat) (new:Option AObj):Prop where
 make:c≠1→new=none
 lone:∀ o,new=some o→o.lone
theorem Mk.none (c:Nat):Mk c .none:=⟨fun _=>rfl,fun _ e=>by cases e⟩
def Light (l:List Operand) (c:Nat) (f:OpF):Prop:=∀ L s v s',f L s=.val v s'→∃ (need:Option Nat) (new:Option AObj),
 Mk c new∧(c≠2→need=none)∧s'=s.add new ∧
 (∀ b,need=some b→(∃ x,s.h.get b=some x)∧∃ x r a,l=x::r∧jL x=some a∧((∃ o,a.ev L=.ptr b o)∨a.ev L=.map b∨∃ w o,a.ev L=.vp b w o)) ∧
 ∀ s2,(new≠none→s2.n=s.n)→(∀ b,need=some b→s2.h.get b=s.h.get b)→f L s2=.val v (s2.add new)
def Same (f:OpF):Prop:=∀ L s v s',f L s=.val v s'→s'=s∧∀ s2,f L s2=.val v s2
theorem Same.light {f:OpF} (h:Same f) {l:List Operand} (c:Nat):Light l c f:=by
 intro L s v s' hf
 obtain ⟨h1,h2⟩:=h L s v s' hf
 exact ⟨none,none,Mk.none _,fun _=>rfl,h1,(fun b e=>by cases e),fun s2 _ _=>h2 s2⟩
def Same1 (g:St→AV→ARes):Prop:=∀ s x v s',g s x=.val v s'→s'=s∧∀ s2,g s2 x=.val v s2
def Same2 (g:St→AV→AV→ARes):Prop:=∀ s x y v s',g s x y=.val v s'→s'=s∧∀ s2,g s2 x y=.val v s2
theorem Same1.un {g:St→AV→ARes} (h:Same1 g) (a:Arg):Same (kUn g a):=fun L s v s' hf=>h s (a.ev L) v s' hf
theorem Same2.two {g:St→AV→AV→ARes} (h:Same2 g) (a b:Arg):Same (jJ g a b):=fun L s v s' hf=>h s (a.ev L) (b.ev L) v s' hf
theorem ZB {v:AV} {s:St} (h:v≠.bad):okA (.val v s)=.val v s:=by cases v<;>first | rfl | (exact absurd rfl h)
theorem Vx (a:Arg):Same (zE a):=fun L s v s' h=>by cases h;exact ⟨rfl,fun _=>rfl⟩
theorem ggJ (c a b:Arg):Same (yY c a b):=by
 intro L s v s' h
 unfold yY JYA at h
 obtain ⟨t,e,h⟩:=YR h
 cases h
 refine ⟨rfl,fun s2=>?_⟩
 unfold yY JYA
 rw [e];rfl
theorem yHJ (z:List AV) (ps:List (Nat × Nat × Arg)):Same (yd z ps):=by
 intro L s v s' h
 unfold yd at h
 split at h
 ·rename_i c hc
  cases h
  exact ⟨rfl,fun s2=>by unfold yd;rw [hc]⟩
 ·cases h
theorem ghJ (f:FuncId) (l r:List Arg):Same (JQ f l r):=fun L s v s' h=>by cases h;exact ⟨rfl,fun _=>rfl⟩
theorem JJJ:Same1 Zw:=by
 intro s x v s' h
 cases x<;>first | (cases h;done) | (cases h;exact ⟨rfl,fun _=>rfl⟩)
theorem JIJ:Same1 Zs:=by
 intro s x v s' h
 obtain ⟨b,rfl,h⟩:=YR h
 cases h
 exact ⟨rfl,fun _=>rfl⟩
theorem JKJ:Same1 YFJ:=by
 intro s x v s' h
 cases x<;>first | (cases h;done) | (cases h;exact ⟨rfl,fun _=>rfl⟩)
theorem JEJ:Same1 ZqJ:=by
 intro s x v s' h
 cases x<;>first | (cases h;done) | (cases h;exact ⟨rfl,fun _=>rfl⟩)
theorem JWJ (k:IntKind):Same1 (jFJ k):=by
 intro s x v s' h
 cases x<;>first | (cases h;done) | (cases h;exact ⟨rfl,fun _=>rfl⟩)
theorem JVJ:Same1 VGJ:=by
 intro s x v s' h
 cases x<;>first | (cases h;done) | (cases h;exact ⟨rfl,fun _=>rfl⟩)
theorem JSJ (off:Nat):Same1 (zS off):=by
 intro s x v s' h
 rcases wt h with ⟨b,o,rfl,h⟩ | ⟨b,o,rfl,h⟩ | ⟨b,w,o,rfl,h⟩
 ·cases h
  exact ⟨rfl,fun _=>rfl⟩
 ·cases h
  exact ⟨rfl,fun _=>rfl⟩
 ·cases h
  exact ⟨rfl,fun _=>rfl⟩
theorem JRJ (sh:Option Nat) (off:Nat):Same1 (WS sh off):=by
 intro s x v s' h
 obtain ⟨l,rfl,h⟩:=JgA h
 have h:okA (.val (yW sh l off) s)=.val v s':=h
 obtain ⟨h,hb⟩:=gN h
 cases h
 refine ⟨rfl,fun s2=>?_⟩
 show okA (.val (yW sh l off) s2)=_
 exact ZB hb
theorem JTJ (i:Nat):Same1 (Jo i):=by
 intro s x v s' h
 unfold Jo at h
 split at h
 ·split at h
  ·rename_i hv;cases h;exact ⟨rfl,fun s2=>by unfold Jo;simp only [hv]⟩
  ·cases h
 ·cases h
theorem yGJ:Same1 zq:=by
 intro s x v s' h
 cases x<;>first | (cases h;done) | (cases h;exact ⟨rfl,fun _=>rfl⟩)
theorem WnA:Same1 jCA:=by
 intro s x v s' h
 cases x<;>first | (cases h;done) | (cases h;exact ⟨rfl,fun _=>rfl⟩)
theorem giJ:Same1 YTA:=by
 intro s x v s' h
 unfold YTA at h
 split at h
 ·cases h;exact ⟨rfl,fun _=>rfl⟩
 ·cases h;exact ⟨rfl,fun _=>rfl⟩
 ·cases h;exact ⟨rfl,fun _=>rfl⟩
 ·cases h;exact ⟨rfl,fun _=>rfl⟩
 ·cases h
theorem ytA {s s':St} {b o len size i:Nat} {v:AV} (h:Zo s b o len size i=.val v s'):s'=s∧∀ s2,Zo s2 b o len size i=.val v s2:=by
 unfold Zo at h ⊢
 cases e:Nat.ble (Nat.succ i) len with
 | false=>rw [e] at h;cases h
 | true=>rw [e] at h;cases h;exact ⟨rfl,fun _=>rfl⟩
theorem zAJ {s s':St} {b w len size i:Nat} {v:AV} (h:jpA s b w len size i=.val v s'):s'=s∧∀ s2,jpA s2 b w len size i=.val v s2:=by
 unfold jpA at h ⊢
 cases e:Nat.ble (Nat.succ i) len with
 | false=>rw [e] at h;cases h
 | true=>rw [e] at h;cases h;exact ⟨rfl,fun _=>rfl⟩
theorem JLJ (size:Nat):Same2 (jX size):=by
 intro s x y v s' h
 obtain ⟨k,n,rfl,h⟩:=WC h
 rcases ywA h with ⟨b,o,m,c,e,rfl,h⟩ | ⟨b,w,m,rfl,h⟩
 ·exact ytA h
 ·exact zAJ h
theorem zBJ {s s':St} {b o len size i:Nat} {v:AV} (h:jqA s b o len size i=.val v s'):s'=s∧∀ s2,jqA s2 b o len size i=.val v s2:=by
 unfold jqA at h ⊢
 cases e:Nat.ble (Nat.succ i) len with
 | false=>rw [e] at h;cases h
 | true=>rw [e] at h;cases h;exact ⟨rfl,fun _=>rfl⟩
theorem JMJ (n size:Nat):Same2 (jHA n size):=by
 intro s x y v s' h
 obtain ⟨k,n,rfl,h⟩:=WC h
 rcases wt h with ⟨b,o,rfl,h⟩ | ⟨b,o,rfl,h⟩ | ⟨_,_,_,_,h⟩
 ·exact ytA h
 ·exact zBJ h
 ·cases h
theorem JPJ (n size:Nat) (sh:Option Nat):Same2 (vCJ n size sh):=by
 intro s x y v s' h
 unfold vCJ at h
 split at h
 ·split at h
  ·split at h
   ·rename_i hb
    obtain ⟨h,hne⟩:=gN h
    cases h
    exact ⟨rfl,fun s2=>by unfold vCJ;simp only [hb];exact ZB hne⟩
   ·cases h
  ·cases h
 ·cases h
theorem JOJ:Same2 vBJ:=by
 intro s x y v s' h
 unfold vBJ at h
 split at h
 ·split at h
  ·split at h
   ·rename_i hb;cases h;exact ⟨rfl,fun s2=>by unfold vBJ;simp only [hb]⟩
   ·cases h
  ·cases h
 ·cases h
theorem JNJ {op:BinOp} {g:St→IntKind→Int→Int→ARes} (hop:JvA op=some g) (a b:Arg):Same (zV g a b):=by
 intro L s v s' h
 unfold zV at h ⊢
 obtain ⟨k,x,y,e1,e2,h⟩:=zjJ h
 have key:s'=s∧∀ s2,g s2 k x y=.val v s2:=by
  cases op<;>simp only [JvA,Option.some.injEq,reduceCtorEq] at hop<;>subst hop
  all_goals first
   | (cases h;exact ⟨rfl,fun _=>rfl⟩)
   | skip
  ·unfold JI at h ⊢
   split at h
   ·cases h
   ·rename_i h0;cases h;exact ⟨rfl,fun _=>by rw [if_neg h0]⟩
  ·unfold vZA at h ⊢
   split at h
   ·cases h
   ·rename_i h0;cases h;exact ⟨rfl,fun _=>by rw [if_neg h0]⟩
 refine ⟨key.1,fun s2=>?_⟩
 rw [e1,e2]
 show yo k k (g s2 k x y)=_
 unfold yo
 rw [Nat.beq_refl]
 exact key.2 s2
theorem JQJ (a b:Arg):Same (JB a b):=by
 intro L s v s' h
 unfold JB at h ⊢
 obtain ⟨k,m,e1,h⟩:=Jt h
 generalize b.ev L=y at *
 have key:s'=s∧∀ s2,WvJ s2 k m y=.val v s2:=by
  cases y with
  | int k' n =>
   obtain ⟨hk,h2⟩:=wM (show yo k k' (VmJ s k m n)=.val v s' from h)
   subst hk
   cases h2
   refine ⟨rfl,fun s2=>?_⟩
   show yo k k (VmJ s2 k m n)=_
   unfold yo
   rw [Nat.beq_refl];rfl
  | ge k' n =>
   obtain ⟨hk,h2⟩:=wM (show yo k k' (Bool.casesOn (motive:=fun _=>ARes) (leI m n) ARes.fail (.val (.bool false) s))=.val v s' from h)
   subst hk
   cases hle:leI m n with
   | false=>rw [hle] at h2;cases h2
   | true =>
    rw [hle] at h2
    cases h2
    refine ⟨rfl,fun s2=>?_⟩
    show yo k k (Bool.casesOn (motive:=fun _=>ARes) (leI m n) ARes.fail (.val (.bool false) s2))=_
    unfold yo
    rw [Nat.beq_refl,hle]
  | _=>cases h
 refine ⟨key.1,fun s2=>?_⟩
 rw [e1]
 exact key.2 s2
theorem JHJ (a b:Arg):Same (YUJ a b):=by
 intro L s v s' h
 unfold YUJ at h ⊢
 generalize a.ev L=x at *
 generalize b.ev L=y at *
 unfold WYJ at h
 split at h
 ·cases h;exact ⟨rfl,fun _=>rfl⟩
 ·cases h
theorem JGJ (a b:Arg):Same (ZsA a b):=by
 intro L s v s' h
 unfold ZsA at h ⊢
 generalize a.ev L=x at *
 generalize b.ev L=y at *
 unfold gcJ at h
 split at h
 ·cases h;exact ⟨rfl,fun _=>rfl⟩
 ·cases h
theorem JFJ (op:BinOp) (a b:Arg):Same (YTJ op a b):=by
 intro L s v s' h
 unfold YTJ at h ⊢
 generalize a.ev L=x at *
 generalize b.ev L=y at *
 unfold ZyJ at h
 split at h
 ·split at h
  ·split at h
   ·cases h
   ·rename_i h0;cases h;exact ⟨rfl,fun _=>by unfold ZyJ;simp only [h0,if_false]⟩
  all_goals first | (cases h;exact ⟨rfl,fun _=>rfl⟩) | (cases h;done)
 ·cases h
theorem JUJ (c:Cmp) (neg:Bool) (a b:Arg):Same (wuA c neg a b):=by
 intro L s v s' h
 unfold wuA vVA at h ⊢
 split at h
 ·cases h;exact ⟨rfl,fun _=>rfl⟩
 ·cases h
theorem JXJ {op:BinOp} {t:TypeId} {a b:Arg} {f:OpF} (h:veJ P op t a b=some f):Same f:=by
 unfold veJ at h
 repeat' (split at h)
 all_goals first
  | (cases h;done)
  | (cases h;exact JHJ _ _)
  | (cases h;exact JGJ _ _)
  | (cases h;exact JQJ _ _)
  | (rename_i hop;cases h;exact JNJ hop _ _)
  | (cases h;exact JFJ _ _ _)
  | (cases h;exact JUJ _ _ _ _)
theorem ZmA (lo hi:Option AV):Same1 (Ze lo hi):=by
 intro s x v s' h
 unfold Ze at h
 split at h
 ·split at h
  ·rename_i hb;cases h;exact ⟨rfl,fun _=>by unfold Ze;simp only [hb]⟩
  ·cases h
 ·cases h
theorem ZlA (size:Nat) (lo hi:Option AV):Same1 (yT size lo hi):=by
 intro s x v s' h
 unfold yT at h
 split at h
 ·split at h
  ·cases h
  ·rename_i h0
   split at h
   ·rename_i h1
    split at h
    ·rename_i h2
     split at h
     ·rename_i h3;cases h;exact ⟨rfl,fun _=>by unfold yT;simp only [h0,h1,h2,if_pos h3]⟩
     ·rename_i h3;cases h;exact ⟨rfl,fun _=>by unfold yT;simp only [h0,h1,h2,if_neg h3]⟩
    ·rename_i h2;cases h;exact ⟨rfl,fun _=>by unfold yT;simp only [h0,h1,h2]⟩
   ·cases h
 ·split at h
  ·rename_i h0;cases h;exact ⟨rfl,fun _=>by unfold yT;simp only [h0]⟩
  ·cases h
 ·split at h
  ·rename_i h0;cases h;exact ⟨rfl,fun _=>by unfold yT;simp only [h0]⟩
  ·cases h
 ·cases h
theorem ZnA (n size:Nat) (lo hi:Option AV):Same1 (Zf n size lo hi):=by
 intro s x v s' h
 unfold Zf at h
 split at h
 ·split at h
  ·rename_i hb;cases h;exact ⟨rfl,fun _=>by unfold Zf;simp only [hb]⟩
  ·cases h
 ·cases h
theorem WlA (x:Arg) (lo:Option Arg) (hi mx:Arg):Same (VOA x lo hi mx):=by
 intro L s v s' h
 have h:YL (vx lo L) (hi.ev L) (mx.ev L) s (x.ev L)=.val v s':=h
 show s'=s∧∀ s2,YL (vx lo L) (hi.ev L) (mx.ev L) s2 (x.ev L)=.val v s2
 unfold YL at h
 split at h
 ·rename_i h0
  split at h
  ·cases h
  ·rename_i h1
   split at h
   ·cases h
   ·rename_i h2
    split at h
    ·cases h
    ·rename_i h3
     split at h
     ·cases h
     ·rename_i h4
      cases h
      exact ⟨rfl,fun s2=>by rw [h0];simp only [YL,h1,h2,h3,h4]⟩
 ·cases h
theorem Wp {g:Option AV→Option AV→St→AV→ARes} (hg:∀ lo hi,Same1 (g lo hi)) (x:Arg) (lo hi:Option Arg):Same (ZC g x lo hi) :=
 fun _ s v s' h=>hg _ _ s _ v s' h
theorem JPA (g:AV→AV→AV) (x:Arg) (r:List Arg):Same (gY g x r):=by
 intro L s v s' h
 unfold gY at h ⊢
 obtain ⟨h,hb⟩:=gN h
 cases h
 exact ⟨rfl,fun s2=>ZB hb⟩
def Makes (f:OpF):Prop:=∀ L s v s',f L s=.val v s'→∃ o,o.lone∧s'=s.new o∧∀ s2,s2.n=s.n→f L s2=.val v (s2.new o)
theorem Makes.light {f:OpF} (h:Makes f) {l:List Operand}:Light l 1 f:=by
 intro L s v s' hf
 obtain ⟨o,h0,h1,h2⟩:=h L s v s' hf
 exact ⟨none,some o,⟨(fun e=>absurd rfl e),fun _ e=>by cases e;exact h0⟩,fun _=>rfl,h1,(fun b e=>by cases e),fun s2 hn _=>h2 s2 (hn (fun e=>by cases e))⟩
theorem zSJ (z:List AV) (sz:Nat):Makes (jQ z sz):=by
 intro _ s v s' h
 unfold jQ ZCJ at h
 cases h
 exact ⟨_,(by exact trivial),rfl,fun s2 hn=>by unfold jQ ZCJ;rw [hn]⟩
theorem ZIJ (sz:Nat) (a:Arg):Makes (yF sz a):=by
 intro L s v s' h
 unfold yF at h ⊢
 generalize a.ev L=x at *
 cases x<;>first | (cases h;done) | (cases h;exact ⟨_,(by exact trivial),rfl,fun s2 hn=>by unfold vXA ZCJ;rw [hn]⟩)
theorem jwA (z:List AV) (len:Nat) (ps:List (Nat × Nat × Arg)):Makes (zz z len ps):=by
 intro L s v s' h
 unfold zz at h
 split at h
 ·rename_i c hc
  cases h
  exact ⟨_,(by exact trivial),rfl,fun s2 hn=>by unfold zz;rw [hc,hn]⟩
 ·cases h
theorem ZHJ:Makes ZRJ:=by
 intro _ s v s' h
 cases h
 exact ⟨_,(by exact trivial),rfl,fun s2 hn=>by unfold ZRJ;rw [hn]⟩
theorem ZrA (a:Arg):Makes (kUn Jv a):=by
 intro L s v s' h
 unfold kUn at h ⊢
 generalize a.ev L=x at *
 cases x<;>first | (cases h;done) | (cases h;exact ⟨_,(by exact trivial),rfl,fun s2 hn=>by unfold Jv;rw [hn]⟩)
theorem ynJ (z:List AV) (bytes:Nat) (a b:Arg):Makes (Wi z bytes a b):=by
 intro L s v s' h
 unfold Wi at h ⊢
 generalize a.ev L=x at *
 generalize b.ev L=y at *
 unfold VO at h
 split at h
 ·split at h
  ·cases h
  ·rename_i h0
   split at h
   ·cases h
   ·rename_i h1
    split at h
    ·cases h
    ·rename_i h2
     cases h
     exact ⟨_,(by exact trivial),rfl,fun s2 hn=>by unfold VO;simp only [h0,h1,h2,hn]⟩
 ·cases h
theorem ypJ {sh:Option Nat} {x:Operand} {a:Arg} (ha:jL x=some a) {l r:List Operand} (hx:l=x::r):Light l 2 (zI sh a):=by
 intro L s v s' h
 unfold zI at h
 obtain ⟨h,hb⟩:=gN h
 unfold Jx at h
 rcases wt h with ⟨b,o,e,h⟩ | ⟨g,o,e,h⟩ | ⟨b,w,o,e,h⟩
 case inr.inr =>
  unfold vAA at h
  split at h
  ·rename_i c hg
   cases h
   obtain ⟨_,y,hy,_⟩:=ZI hg
   refine ⟨some b,none,Mk.none _,(fun e=>absurd rfl e),rfl,?_,?_⟩
   ·intro b' e'
    cases e'
    exact ⟨⟨_,hy⟩,x,r,a,hx,ha,.inr (.inr ⟨w,o,e⟩)⟩
   ·intro s2 _ hs
    have hs:=hs b rfl
    unfold zI Jx
    rw [e]
    show okA (vAA sh s2 b w o)=_
    have hv:gS s2 b w=gS s b w:=by unfold gS;rw [hs]
    unfold vAA
    rw [hv,hg]
    exact ZB hb
  ·cases h
 case inr.inl =>
  unfold JmA at h
  split at h
  ·rename_i c hg
   cases h
   refine ⟨none,none,Mk.none _,fun _=>rfl,rfl,(fun b e=>by cases e),fun s2 _ _=>?_⟩
   unfold zI Jx
   rw [e]
   show okA (JmA sh s2 g o)=_
   unfold JmA
   rw [hg]
   exact ZB hb
  ·cases h
 unfold gM at h
 split at h
 ·rename_i c sz hg
  cases h
  refine ⟨some b,none,Mk.none _,(fun e=>absurd rfl e),rfl,?_,?_⟩
  ·intro b' e'
   cases e'
   exact ⟨⟨_,hg⟩,x,r,a,hx,ha,.inl ⟨o,e⟩⟩
  ·intro s2 _ hs
   have hs:=hs b rfl
   unfold zI Jx
   rw [e]
   show okA (gM s2 b fun c _=>.val (yW sh c o) s2)=_
   unfold gM
   rw [hs,hg]
   exact ZB hb
 ·rename_i c sz k vs hg
  cases h
  refine ⟨some b,none,Mk.none _,(fun e=>absurd rfl e),rfl,?_,?_⟩
  ·intro b' e'
   cases e'
   exact ⟨⟨_,hg⟩,x,r,a,hx,ha,.inl ⟨o,e⟩⟩
  ·intro s2 _ hs
   have hs:=hs b rfl
   unfold zI Jx
   rw [e]
   show okA (gM s2 b fun c _=>.val (yW sh c o) s2)=_
   unfold gM
   rw [hs,hg]
   exact ZB hb
 ·cases h
theorem vGA {ok:Bool} {z:AV} {s s':St} {r:Option (Option (Nat × AV))} {v:AV} (h:Ye ok z s r=.val v s'):s'=s∧∀ s2,Ye ok z s2 r=.val v s2:=by
 unfold Ye at h
 split at h
 ·cases h
 ·cases h;exact ⟨rfl,fun _=>rfl⟩
 ·cases h;exact ⟨rfl,fun _=>rfl⟩
theorem yoJ {c:Cmp} {z:AV} {ok:Bool} {x:Operand} {a b:Arg} (ha:jL x=some a) {l r:List Operand} (hx:l=x::r):Light l 2 (jGA c z ok a b):=by
 intro L s v s' h
 unfold jGA at h
 generalize e:a.ev L=m at h
 unfold jBA at h
 split at h
 ·split at h
  ·rename_i hk
   obtain ⟨rfl,h2⟩:=vGA h
   refine ⟨none,none,Mk.none _,fun _=>rfl,rfl,(fun b e=>by cases e),fun s2 _ _=>?_⟩
   unfold jGA
   rw [e]
   unfold jBA
   simp only [hk]
   exact h2 s2
  ·cases h
 ·rename_i d
  split at h
  ·rename_i es hg
   split at h
   ·rename_i hk
    obtain ⟨rfl,h2⟩:=vGA h
    refine ⟨some d,none,Mk.none _,(fun e=>absurd rfl e),rfl,?_,?_⟩
    ·intro b' e'
     cases e'
     exact ⟨⟨_,hg⟩,x,r,a,hx,ha,.inr (.inl e)⟩
    ·intro s2 _ hs
     have hs:=hs d rfl
     unfold jGA
     rw [e]
     unfold jBA
     simp only [hs,hg,hk]
     exact h2 s2
   ·cases h
  ·cases h
 ·cases h
theorem VKA {x:Operand} {a:Arg} (ha:jL x=some a) {l r:List Operand} (hx:l=x::r):Light l 2 (kUn YW a):=by
 intro L s v s' h
 unfold kUn at h
 generalize e:a.ev L=m at h
 unfold YW at h
 split at h
 ·cases h
  refine ⟨none,none,Mk.none _,fun _=>rfl,rfl,(fun b e=>by cases e),fun s2 _ _=>?_⟩
  unfold kUn
  rw [e];rfl
 ·rename_i d
  split at h
  ·rename_i es hg
   cases h
   refine ⟨some d,none,Mk.none _,(fun e=>absurd rfl e),rfl,?_,?_⟩
   ·intro b' e'
    cases e'
    exact ⟨⟨_,hg⟩,x,r,a,hx,ha,.inr (.inl e)⟩
   ·intro s2 _ hs
    have hs:=hs d rfl
    unfold kUn
    rw [e]
    unfold YW
    simp only [hs,hg]
    rfl
  ·cases h
 ·cases h
theorem VnA {l:List Operand} {x:Arg} {r:List Arg} (ha:jz l=some (x::r)):∃ y q,l=y::q∧jL y=some x:=by
 cases l with
 | nil=>cases ha
 | cons y q =>
  unfold jz at ha
  split at ha
  ·rename_i h1 h2;cases ha;exact ⟨y,q,rfl,h1⟩
  ·cases ha
theorem wLA:Same1 Wo:=by
 intro s x v s' h
 have h:ARes.fail=.val v s':=h
 cases h
theorem Wc {b:Builtin} {args:Array Operand} {ts:Array TypeId} {m:List Arg} (ha:jz args.toList=some m) {f:OpF} (hf:vn P b ts m=some f)
  (hc:yD (.call ⟨.builtin b,args,ts⟩)≠3):Light (Op.call ⟨.builtin b,args,ts⟩).operands.toList (yD (.call ⟨.builtin b,args,ts⟩)) f:=by
 unfold vn at hf
 split at hf
 all_goals first | (cases hf;done) | skip
 ·split at hf
  ·unfold WpJ at hf
   split at hf
   ·cases hf;exact (WnA.un _).light _
   ·cases hf;exact (yGJ.un _).light _
   ·cases hf
    obtain ⟨y,q,hm,hy⟩:=VnA ha
    exact VKA hy (r:=q) (by simp [Op.operands,Call.operands,hm])
   ·cases hf;exact (Vx _).light _
   ·cases hf
  ·cases hf
 ·split at hf
  ·unfold jcQ at hf
   split at hf
   ·cases hf;exact (giJ.un _).light _
   ·cases hf;exact (Vx _).light _
   ·cases hf
  ·cases hf
 ·exact absurd rfl hc
 ·exact absurd rfl hc
 ·exact absurd rfl hc
 ·cases hf;exact (wLA.un _).light _
 ·exact absurd rfl hc
 ·cases hf;exact (JPA _ _ _).light _
 ·cases hf;exact (JPA _ _ _).light _
 ·exact absurd rfl hc
theorem JdA {op:Op} {f:OpF} (h:opK P op=some f) (hc:yD op≠3):Light op.operands.toList (yD op) f:=by
 unfold opK at h
 split at h
 case h_1=>obtain ⟨a,ha,h⟩:=jS h;cases h;exact (Vx _).light _
 case h_2=>obtain ⟨a,ha,h⟩:=jS h;cases h;exact (Vx _).light _
 case h_3=>obtain ⟨a,b,c,ha,hb,hc,h⟩:=yl h;cases h;exact (ggJ _ _ _).light _
 case h_4 =>
  split at h
  ·cases h;exact (zSJ _ _).light
  ·cases h
 case h_5=>obtain ⟨a,ha,h⟩:=jS h;cases h;exact (ZIJ _ _).light
 case h_6 =>
  unfold gfA at h
  repeat' (split at h)
  all_goals first | (cases h;done) | (cases h;exact (yHJ _ _).light _)
 case h_7 =>
  unfold gm at h
  repeat' (split at h)
  all_goals first | (cases h;done) | (cases h;exact (jwA _ _ _).light)
 case h_8 =>
  split at h
  ·obtain ⟨a,ha,h⟩:=jS h;cases h;exact ypJ ha (r:=[]) (by simp [Op.operands])
  ·cases h
 case h_9=>exact absurd rfl hc
 case h_10=>obtain ⟨a,ha,h⟩:=jS h;cases h;exact (JJJ.un _).light _
 case h_11=>obtain ⟨a,b,ha,hb,h⟩:=yB h;exact (JXJ h).light _
 case h_12 =>
  obtain ⟨a,ha,h⟩:=jS h
  unfold unK at h
  split at h<;>first | (cases h;exact (JKJ.un _).light _) | (cases h;exact (JEJ.un _).light _) | (cases h;exact (JIJ.un _).light _) | (cases h;done)
 case h_13 =>
  obtain ⟨a,ha,h⟩:=jS h
  have hcv:∀ {p q:Nat} {y:Operand},yD (.convert p q y)≠3→JR p q=false:=fun {p q y} hn=>by
   cases e:JR p q with
   | false=>rfl
   | true=>exact absurd (by show (match JR p q with | true=>3 | false=>0)=3;rw [e]) hn
  have hc':=hcv hc
  unfold gTA at h
  rw [hc'] at h
  simp only [weJ] at h
  split at h<;>first | (cases h;exact ((JWJ _).un _).light _) | (cases h;exact (JVJ.un _).light _) | (cases h;done)
 case h_14 =>
  split at h
  ·cases h;exact (ghJ _ _ _).light _
  ·cases h
 case h_15=>cases h;exact ZHJ.light
 case h_16 =>
  split at h
  ·obtain ⟨a,ha,h⟩:=jS h;cases h;exact (ZrA _).light
  ·cases h
 case h_17 =>
  repeat' (split at h)
  all_goals first
   | (cases h;done)
   | (obtain ⟨a,b,ha,hb,h⟩:=yB h;cases h;exact (ynJ _ _ _ _).light)
 case h_18 =>
  split at h
  ·split at h
   ·unfold wIA at h
    repeat' (split at h)
    all_goals first
     | (cases h;done)
     | (cases h;exact (Wp ZmA _ _ _).light _)
     | (cases h;exact (Wp (ZlA _) _ _ _).light _)
     | (cases h;exact (Wp (ZnA _ _) _ _ _).light _)
   ·cases h
  ·split at h
   ·unfold zcA at h
    repeat' (split at h)
    all_goals first
     | (cases h;done)
     | (cases h;exact (WlA _ _ _ _).light _)
   ·cases h
 case h_19 =>
  repeat' (split at h)
  all_goals first
   | (cases h;done)
   | (obtain ⟨a,ha,h⟩:=jS h;cases h;exact ((JSJ _).un _).light _)
 case h_20 =>
  repeat' (split at h)
  all_goals first
   | (cases h;done)
   | (obtain ⟨a,ha,h⟩:=jS h;cases h;exact ((JRJ _ _).un _).light _)
 case h_21 =>
  repeat' (split at h)
  all_goals first
   | (cases h;done)
   | (obtain ⟨a,b,ha,hb,h⟩:=yB h;cases h;exact ((JLJ _).two _ _).light _)
   | (obtain ⟨a,b,ha,hb,h⟩:=yB h;cases h;exact ((JMJ _ _).two _ _).light _)
 case h_22 =>
  repeat' (split at h)
  all_goals first
   | (cases h;done)
   | (obtain ⟨a,b,ha,hb,h⟩:=yB h;cases h;exact (JOJ.two _ _).light _)
   | (obtain ⟨a,b,ha,hb,h⟩:=yB h;cases h;exact ((JPJ _ _ _).two _ _).light _)
 case h_23 =>
  split at h
  ·obtain ⟨a,b,ha,hb,h⟩:=yB h;cases h;exact yoJ ha rfl
  ·cases h
 case h_24=>exact absurd rfl hc
 case h_25=>exact absurd rfl hc
 case h_26=>obtain ⟨a,ha,h⟩:=jS h;cases h;exact ((JTJ _).un _).light _
 case h_27 =>
  split at h
  ·rename_i hl;exact Wc hl h hc
  ·cases h
 case h_28=>exact absurd rfl hc
 case h_29=>cases h
end Go.Abs
end
