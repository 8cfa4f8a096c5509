/- A long run, piece by piece. -/
import Derived.Test.YtoklbkgcclkejaaAbsTop
noncomputable section
namespace Go.Abs
open Go.RowKit
variable {P:Program}
def wOA (P:Program) (cl:zR) (c:Ctx) (x:Code) (L:Env) (s:St):R:=match jh P c.xs c.nt x with
 | some k=>k cl c L [] s
 | none=>.fail
def flat:Code→List Code
 | .seq a b=>flat a++flat b
 | c=>[c]
def vuA (r:R) (k:Env→St→R):R:=R.casesOn (motive:=fun _=>R) r .fail (fun e L d s=>match d with
 | []=>Ex.casesOn (motive:=fun _=>R) e (k L s) (fun id=>.done (.exit id) L [] s) (.done .ret L [] s)
 | _::_=>.fail)
def YO (P:Program) (cl:zR) (c:Ctx) (l:List Code):Env→St→R:=List.rec (motive:=fun _=>Env→St→R) (fun L s=>.done .norm L [] s) (fun x _ ih L s=>vuA (wOA P cl c x L s) ih) l
theorem Jr {cl:zR} {c:Ctx} {x:Code} {r:List Code} {L:Env} {s:St}:YO P cl c (x::r) L s=vuA (wOA P cl c x L s) (YO P cl c r):=rfl
theorem WVA (r:R) (k m:Env→St→R):vuA (vuA r k) m=vuA r (fun L s=>vuA (k L s) m):=by
 cases r with
 | fail=>rfl
 | done e L d s =>
  cases d with
  | cons x y=>rfl
  | nil=>cases e<;>rfl
theorem VD {cl:zR} {c:Ctx}:∀ {l m:List Code} {L:Env} {s:St},YO P cl c (l++m) L s=vuA (YO P cl c l L s) (YO P cl c m)
 | [],m,L,s=>rfl
 | x::l,m,L,s=>by
  rw [List.cons_append,Jr,Jr,WVA]
  congr 1
  funext L s
  exact VD
theorem vR {cl:zR} {c:Ctx} {x:Code} {L:Env} {s:St} {e:Ex} {L':Env} {s':St} (h:YO P cl c [x] L s=.done e L' [] s'):wOA P cl c x L s=.done e L' [] s':=by
 rw [Jr] at h
 generalize hr:wOA P cl c x L s=r at h
 cases r with
 | fail=>cases h
 | done e₁ L₁ d₁ s₁ =>
  cases d₁ with
  | cons x y=>cases h
  | nil=>cases e₁<;>(cases h;rfl)
theorem jjA {cl:zR} {c:Ctx}:∀ (x:Code) {L:Env} {s:St} {e:Ex} {L':Env} {s':St},(∃ k,jh P c.xs c.nt x=some k)→YO P cl c (flat x) L s=.done e L' [] s'→wOA P cl c x L s=.done e L' [] s'
 | .seq a b,L,s,e,L',s',hk,h=>by
  have h:YO P cl c (flat a++flat b) L s=.done e L' [] s':=h
  rw [VD] at h
  obtain ⟨k,hk⟩:=hk
  unfold jh at hk
  split at hk
  case h_2=>cases hk
  rename_i ka kb hka hkb
  generalize hr:YO P cl c (flat a) L s=r at h
  cases r with
  | fail=>cases h
  | done e₁ L₁ d₁ s₁ =>
   cases d₁ with
   | cons x y=>cases h
   | nil =>
    have ha:=jjA a ⟨ka,hka⟩ hr
    unfold wOA at ha ⊢
    rw [hka] at ha
    unfold jh
    rw [hka,hkb]
    show zG ka kb cl c L [] s=_
    unfold zG
    have ha:ka cl c L [] s=.done e₁ L₁ [] s₁:=ha
    rw [ha]
    cases e₁ with
    | norm =>
     have hb:=jjA b ⟨kb,hkb⟩ (show YO P cl c (flat b) L₁ s₁=.done e L' [] s' from h)
     unfold wOA at hb
     rw [hkb] at hb
     exact hb
    | exit id=>cases h;rfl
    | ret=>cases h;rfl
 | .skip,_,_,_,_,_,_,h=>vR h
 | .label _,_,_,_,_,_,_,h=>vR h
 | .region _ _ _,_,_,_,_,_,_,h=>vR h
 | .cond _ _ _,_,_,_,_,_,_,h=>vR h
 | .block _ _,_,_,_,_,_,_,h=>vR h
 | .loop _,_,_,_,_,_,_,h=>vR h
 | .rangeFunc _ _ _ _,_,_,_,_,_,_,h=>vR h
 | .exit _,_,_,_,_,_,_,h=>vR h
 | .scope _,_,_,_,_,_,_,h=>vR h
 | .goto _,_,_,_,_,_,_,h=>vR h
 | .ret,_,_,_,_,_,_,h=>vR h
 | .refuse _,_,_,_,_,_,_,h=>vR h
def wI (X:FuncId→List Nat) (f:FuncId) (fn:Func):Ctx:=⟨f,none,fn.ntmps,X f⟩
def ggA (fn:Func):List Code:=match fn.body with
 | some b=>flat b
 | none=>[]
def vdQ (P:Program) (fn:Func) (r:R):ARes:=R.casesOn (motive:=fun _=>ARes) r .fail (fun e L d s=>Ex.casesOn (motive:=fun _=>ARes) e (yL P fn.results.toList L d s) (fun _=>.fail) (yL P fn.results.toList L d s))
def Good (P:Program) (X:FuncId→List Nat) (cl:zR) (f:FuncId) (fn:Func) (l:List Code) (L:Env) (s:St):Prop:=∃ s',vdQ P fn (YO P cl (wI X f fn) l L s)=.val (.bool true) s'
theorem Good.last {X:FuncId→List Nat} {cl:zR} {f:FuncId} {fn:Func} {l:List Code} {L:Env} {s:St} (h:yyJ (vdQ P fn (YO P cl (wI X f fn) l L s))=true):Good P X cl f fn l L s:=by
 unfold yyJ at h
 split at h
 ·rename_i s' h';exact ⟨s',h'⟩
 ·cases h
theorem Good.step {X:FuncId→List Nat} {cl:zR} {f:FuncId} {fn:Func} (k:Nat) {l:List Code} {L L':Env} {s s':St} (h:YO P cl (wI X f fn) (l.take k) L s=.done .norm L' [] s')
  (hg:Good P X cl f fn (l.drop k) L' s'):Good P X cl f fn l L s:=by
 obtain ⟨s'',hg⟩:=hg
 refine ⟨s'',?_⟩
 have e:YO P cl (wI X f fn) l L s=YO P cl (wI X f fn) (l.drop k) L' s':=by
  conv=>lhs;rw [← List.take_append_drop k l]
  rw [VD,h];rfl
 rw [e];exact hg
theorem JSA {X:FuncId→List Nat} {cl:zR} {f:FuncId} {fn:Func}:∀ (l:List Code) (L:Env) (s:St) {e:Ex} {L':Env} {x:Nat} {y:List Nat} {s':St},YO P cl (wI X f fn) l L s=.done e L' (x::y) s'→False
  | [],L,s,e,L',x,y,s',h=>by cases h
  | c::l,L,s,e,L',x,y,s',h=>by
   rw [Jr] at h
   generalize hr:wOA P cl (wI X f fn) c L s=r at h
   cases r with
   | fail=>cases h
   | done e₁ L₁ d₁ s₁ =>
    cases d₁ with
    | cons x y=>cases h
    | nil =>
     cases e₁ with
     | norm=>exact JSA l L₁ s₁ h
     | exit id=>cases h
     | ret=>cases h
def vcA (k:K):Nat→K
 | 0=>zd
 | m+1=>zG k (vcA k m)
def vPQ:List Code→Nat
 | .block id (.loop _)::_=>id
 | _=>0
def zWJ:List Code→Code
 | .block _ (.loop b)::_=>b
 | _=>.skip
def YaJ:List Code→Bool
 | .block _ (.loop _)::_=>true
 | _=>false
def JRA (P:Program) (cl:zR) (c:Ctx) (m:Nat) (l:List Code) (L:Env) (s:St):R:=match jh P c.xs c.nt (zWJ l) with
 | some k=>vcA k m cl c L [] s
 | none=>.fail
def vvJ (P:Program) (cl:zR) (c:Ctx) (n:Nat) (l:List Code) (L:Env) (s:St):R:=match jh P c.xs c.nt (zWJ l) with
 | some k=>zU (vPQ l) (jK k n) cl c L [] s
 | none=>.fail
theorem ytJ {a b b':K} {cl:zR} {c:Ctx} (h:∀ L q s e L' q' s',b cl c L q s=.done e L' q' s'→b' cl c L q s=.done e L' q' s') {L:Env} {q:List Nat} {s:St} {e:Ex} {L':Env} {q':List Nat} {s':St}
  (hr:zG a b cl c L q s=.done e L' q' s'):zG a b' cl c L q s=.done e L' q' s':=by
 unfold zG at hr ⊢
 generalize a cl c L q s=r at hr ⊢
 cases r with
 | fail=>cases hr
 | done e1 L1 d1 s1 =>
  cases e1 with
  | norm=>exact h _ _ _ _ _ _ _ hr
  | exit id=>exact hr
  | ret=>exact hr
theorem wlA {k:K} {cl:zR} {c:Ctx}:∀ {n:Nat} (j:Nat) {L:Env} {q:List Nat} {s:St} {e:Ex} {L':Env} {q':List Nat} {s':St},jK k n cl c L q s=.done e L' q' s'→jK k (n+j) cl c L q s=.done e L' q' s'
 | 0,_,_,_,_,_,_,_,_,h=>by cases h
 | n+1,j,L,q,s,e,L',q',s',h=>by
  rw [show n+1+j=(n+j)+1 from by omega]
  exact ytJ (fun _ _ _ _ _ _ _ h=>wlA j h) (show zG k (jK k n) cl c L q s=.done e L' q' s' from h)
theorem jAA {k:K} {cl:zR} {c:Ctx} {n:Nat}:∀ (m:Nat) {L L1:Env} {q q1:List Nat} {s s1:St},vcA k m cl c L q s=.done .norm L1 q1 s1→jK k (m+n) cl c L q s=jK k n cl c L1 q1 s1
 | 0,_,_,_,_,_,_,h=>by cases h;rw [Nat.zero_add]
 | m+1,L,L1,q,q1,s,s1,h=>by
  rw [show m+1+n=(m+n)+1 from by omega]
  show zG k (jK k (m+n)) cl c L q s=_
  have h:zG k (vcA k m) cl c L q s=.done .norm L1 q1 s1:=h
  unfold zG at h ⊢
  generalize k cl c L q s=r at h ⊢
  cases r with
  | fail=>cases h
  | done e2 L2 d2 s2 =>
   cases e2 with
   | norm=>exact jAA m h
   | exit id=>cases h
   | ret=>cases h
theorem VVJ {id:Nat} {a a':K} {cl:zR} {c:Ctx} {L La:Env} {q qa:List Nat} {s sa:St} (h:∀ e L' q' s',a cl c L q s=.done e L' q' s'→a' cl c La qa sa=.done e L' q' s') {e:Ex} {L':Env} {q':List Nat} {s':St}
  (hr:zU id a cl c L q s=.done e L' q' s'):zU id a' cl c La qa sa=.done e L' q' s':=by
 unfold zU at hr ⊢
 generalize hx:a cl c L q s=r at hr
 cases r with
 | fail=>cases hr
 | done e1 L1 d1 s1 =>
  rw [h _ _ _ _ hx]
  exact hr
theorem Good.loop {X:FuncId→List Nat} {cl:zR} {f:FuncId} {fn:Func} (m n:Nat) {l:List Code} {L L1 L':Env} {s s1 s':St} (hi:YaJ l=true) (hmn:Nat.ble (m+n) rounds=true)
  (h1:JRA P cl (wI X f fn) m l L s=.done .norm L1 [] s1) (h2:vvJ P cl (wI X f fn) n l L1 s1=.done .norm L' [] s')
  (hg:Good P X cl f fn (l.drop 1) L' s'):Good P X cl f fn l L s:=by
 cases l with
 | nil=>cases hi
 | cons x r =>
  unfold YaJ at hi
  split at hi
  case h_2=>cases hi
  rename_i id b _ heq
  cases heq
  refine Good.step 1 ?_ hg
  show YO P cl (wI X f fn) [.block id (.loop b)] L s=_
  rw [Jr]
  have hb:wOA P cl (wI X f fn) (.block id (.loop b)) L s=.done .norm L' [] s':=by
   unfold JRA at h1
   unfold vvJ at h2
   split at h1
   case h_2=>cases h1
   rename_i k hk
   rw [hk] at h2
   have hk:jh P (wI X f fn).xs (wI X f fn).nt b=some k:=hk
   unfold wOA
   have hc:jh P (wI X f fn).xs (wI X f fn).nt (.block id (.loop b))=some (zU id (ju k)):=by
    unfold jh;unfold jh;rw [hk]
   rw [hc]
   refine VVJ (a:=jK k n) (fun e L2 q2 s2 h=>?_) (show zU id (jK k n) cl (wI X f fn) L1 [] s1=.done .norm L' [] s' from h2)
   have hmn:=Nat.le_of_ble_eq_true hmn
   have h3:=wlA (rounds - (m+n)) h
   have h4:=jAA (n:=n+(rounds - (m+n))) m h1
   rw [show m+(n+(rounds - (m+n)))=rounds from by omega] at h4
   exact h4.trans h3
  rw [hb]
  rfl
theorem Good.enter {X:FuncId→List Nat} {cl:zR} {f:FuncId} {fn:Func} (hn:(fn.name == "runtime.NumGoroutine")=false) {b:Code} (hb:fn.body=some b) {k:K} (hk:jh P (X f) fn.ntmps b=some k) (h:Good P X cl f fn (ggA fn) .nil Zv) :
  ∃ s',zZ P X cl f [] Zv fn=.val (.bool true) s':=by
 obtain ⟨s',h⟩:=h
 refine ⟨s',?_⟩
 unfold zZ
 unfold ggA at h
 rw [hb] at h ⊢
 simp only [hn,Bool.false_eq_true,if_false] at h ⊢
 generalize hq:YO P cl (wI X f fn) (flat b) .nil Zv=q at h
 cases q with
 | fail=>cases h
 | done e L d s₁ =>
  cases d with
  | cons x y=>exact absurd hq (fun z=>JSA _ _ _ z)
  | nil =>
   have hc:=jjA b ⟨k,hk⟩ hq
   unfold wOA at hc
   have hk':jh P (wI X f fn).xs (wI X f fn).nt b=some k:=hk
   rw [hk'] at hc
   have hc:k cl ⟨f,none,fn.ntmps,X f⟩ .nil [] Zv=.done e L [] s₁:=hc
   have b1:Nat.ble ([]:List AV).length fn.ntmps=true:=by simp
   have b2:Nat.ble ([]:List AV).length (lead (X f) 100 0)=true:=by simp
   simp only [b1,b2,hk]
   show (match k cl ⟨f,none,fn.ntmps,X f⟩ .nil [] Zv with
    | .done .norm L d s=>yL P fn.results.toList L d s
    | .done .ret L d s=>yL P fn.results.toList L d s
    | _=>ARes.fail)=_
   rw [hc]
   cases e with
   | exit id=>cases h
   | norm=>exact h
   | ret=>exact h
def Laid (W:World):Prop:=∀ g cs,Yd g=some cs→GlobOk W g cs
theorem gMA {X:FuncId→List Nat} {cl:zR} (hc:CallSound P cl) {f:FuncId} {fn:Func} (hf:P.funcs[f]? = some fn) {s':St} (h:zZ P X cl f [] Zv fn=.val (.bool true) s') (W:World) (hW:Laid W) :
  Calls P f #[] W fun e w=>e=.returned (.bool true)∧Below W.heap.size W w:=by
 obtain ⟨ρ',V,W',af,hv,hcl⟩:=VbA hc hf h (JiA W hW) (A:=#[]) .nil
 cases hv
 exact hcl.mono fun e w ⟨h1,h2⟩=>⟨h1,by rw [h2];exact af.below⟩
def knows (f0:Nat) (cl:zR):zR
 | .fn g,args,s=>match Nat.beq g f0 with
  | true=>match args with
   | []=>.val (.bool true) s
   | a::r=>cl (.fn g) (a::r) s
  | false=>cl (.fn g) args s
 | .yield l,args,s=>cl (.yield l) args s
theorem zbJ {X:FuncId→List Nat} {cl0 cl:zR} (hc0:CallSound P cl0) {f0:FuncId} {fn:Func} (hf:P.funcs[f0]? = some fn) (h0:∃ s',zZ P X cl0 f0 [] Zv fn=.val (.bool true) s') (hc:CallSound P cl) :
  CallSound P (knows f0 cl) where
 fr:=by
  intro t l s v s' h
  unfold knows at h
  split at h
  ·split at h
   ·split at h
    ·cases h;exact .refl _
    ·exact hc.fr _ _ _ _ _ h
   ·exact hc.fr _ _ _ _ _ h
  ·exact hc.fr _ _ _ _ _ h
 fn:=by
  intro f l s v s' ρ W A h hs hl
  unfold knows at h
  simp only at h
  split at h
  ·rename_i hb
   have hb:=Nat.eq_of_beq_eq_true hb
   subst hb
   split at h
   ·cases h
    obtain ⟨s0,h0⟩:=h0
    have hA:A=#[]:=by
     have:=hl.length
     apply Array.ext'
     cases hA:A.toList with
     | nil=>rfl
     | cons a r=>rw [hA] at this;simp at this
    subst hA
    obtain ⟨h1,ρ',V,W',af,hv,st⟩:=ZM hc0 hf h0 (JiA W hs.heap.tab) (A:=#[]) .nil
    refine ⟨h1,ρ,V,W',(After.refl hs).grew ⟨af.os,af.tape,af.output,af.size,fun c hcl=>af.frame c hcl fun _ _ _ _ hb _=>(ZT hb).elim⟩,hv.plain rfl,st⟩
   ·exact hc.fn _ _ _ _ _ _ _ _ h hs hl
  ·exact hc.fn _ _ _ _ _ _ _ _ h hs hl
 yield:=by
  intro b c e l s v s' ρ W A h hb hs hl
  exact hc.yield b c e l s v s' ρ W A h hb hs hl
theorem Good.calls {X:FuncId→List Nat} {cl:zR} (hc:CallSound P cl) {f:FuncId} {fn:Func} (hf:P.funcs[f]? = some fn) (hn:(fn.name == "runtime.NumGoroutine")=false) {b:Code} (hb:fn.body=some b) {k:K} (hk:jh P (X f) fn.ntmps b=some k) (h:Good P X cl f fn (ggA fn) .nil Zv) (W:World) (hW:Laid W) :
  Calls P f #[] W fun e w=>e=.returned (.bool true)∧Below W.heap.size W w:=by
 obtain ⟨s',h⟩:=h.enter hn hb hk
 exact gMA hc hf h W hW
end Go.Abs
end
