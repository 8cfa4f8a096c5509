/- The interpreter as a language of its own: equations by which code is run over values that are known in part. -/
import Derived.Test.YtoklbkgcclkejaaAbsPiece
noncomputable section
namespace Go.Abs
variable {P:Program}
def JKA (r:R) (f:Env→List Nat→St→R):R:=R.casesOn (motive:=fun _=>R) r .fail (fun e L d s=>Ex.casesOn (motive:=fun _=>R) e (f L d s) (fun id=>.done (.exit id) L d s) (.done .ret L d s))
theorem wU (a b:K) (cl:zR) (c:Ctx) (L:Env) (d:List Nat) (s:St):zG a b cl c L d s=JKA (a cl c L d s) (b cl c):=by
 unfold zG
 generalize a cl c L d s=r
 cases r<;>rfl
theorem vN (L:Env) (d:List Nat) (s:St) (f:Env→List Nat→St→R):JKA (.done .norm L d s) f=f L d s:=Eq.trans (Eq.refl _) (Eq.refl _)
theorem JJA (L:Env) (d:List Nat) (s:St) (f:Env→List Nat→St→R):JKA (.done .ret L d s) f=.done .ret L d s:=Eq.trans (Eq.refl _) (Eq.refl _)
theorem vvA (id:Nat) (L:Env) (d:List Nat) (s:St) (f:Env→List Nat→St→R):JKA (.done (.exit id) L d s) f=.done (.exit id) L d s:=Eq.trans (Eq.refl _) (Eq.refl _)
def vFQ (ks:List Nat) (L:Env) (d:List Nat) (r:ORes):R:=ORes.casesOn (motive:=fun _=>R) r .fail (fun M s=>.done .norm (Zz ks M L) d s)
theorem VQ (o:zF) (ks:List Nat) (cl:zR) (c:Ctx) (L:Env) (d:List Nat) (s:St):zD o ks cl c L d s=vFQ ks L d (o cl L s):=by
 unfold zD
 generalize o cl L s=r
 cases r<;>rfl
theorem YsA (ks:List Nat) (L M:Env) (d:List Nat) (s:St):vFQ ks L d (.ok M s)=.done .norm (Zz ks M L) d s:=Eq.trans (Eq.refl _) (Eq.refl _)
def regD (ks:List Nat) (L:Env) (d:List Nat) (r:ORes):R:=ORes.casesOn (motive:=fun _=>R) r .fail (fun M s=>match Nat.ble s.n 549755813888 with | true=>.done .norm (Zz ks M L) d s | false=>.fail)
theorem VPA (o:zF) (ks:List Nat) (cl:zR) (c:Ctx) (L:Env) (d:List Nat) (s:St):zv o ks cl c L d s=regD ks L d (o cl L s):=by
 unfold zv
 generalize o cl L s=r
 cases r<;>rfl
theorem WdJ (ks:List Nat) (L M:Env) (d:List Nat) (s:St) (h:s.n≤549755813888):regD ks L d (.ok M s)=.done .norm (Zz ks M L) d s:=by
 show (match Nat.ble s.n 549755813888 with | true=>R.done .norm (Zz ks M L) d s | false=>.fail)=_
 rw [Nat.ble_eq_true_of_le h]
def jLJ (v:AV) (a b:K) (cl:zR) (c:Ctx) (L:Env) (d:List Nat) (s:St):R:=VFA (fun t=>Bool.casesOn (motive:=fun _=>R) t (b cl c L d s) (a cl c L d s)) v
theorem ZUJ (x:Arg) (a b:K) (cl:zR) (c:Ctx) (L:Env) (d:List Nat) (s:St):ze x a b cl c L d s=jLJ (x.ev L) a b cl c L d s:=Eq.trans (Eq.refl _) (Eq.refl _)
theorem vSJ (a b:K) (cl:zR) (c:Ctx) (L:Env) (d:List Nat) (s:St):jLJ (.bool true) a b cl c L d s=a cl c L d s:=Eq.trans (Eq.refl _) (Eq.refl _)
theorem jKJ (a b:K) (cl:zR) (c:Ctx) (L:Env) (d:List Nat) (s:St):jLJ (.bool false) a b cl c L d s=b cl c L d s:=Eq.trans (Eq.refl _) (Eq.refl _)
def VWJ (id:Nat) (r:R):R:=R.casesOn (motive:=fun _=>R) r .fail (fun e L d s=>Ex.casesOn (motive:=fun _=>R) e (.done .norm L d s) (fun i=>match Nat.beq i id with | true=>.done .norm L d s | false=>.done (.exit i) L d s) (.done .ret L d s))
theorem yvJ (id:Nat) (b:K) (cl:zR) (c:Ctx) (L:Env) (d:List Nat) (s:St):zU id b cl c L d s=VWJ id (b cl c L d s):=by
 unfold zU
 generalize b cl c L d s=r
 cases r with
 | fail=>rfl
 | done e L1 d1 s1=>cases e<;>rfl
theorem YWA (id:Nat) (L:Env) (d:List Nat) (s:St):VWJ id (.done .norm L d s)=.done .norm L d s:=Eq.trans (Eq.refl _) (Eq.refl _)
theorem jRJ (id:Nat) (L:Env) (d:List Nat) (s:St):VWJ id (.done .ret L d s)=.done .ret L d s:=Eq.trans (Eq.refl _) (Eq.refl _)
theorem YXA (id:Nat) (L:Env) (d:List Nat) (s:St):VWJ id (.done (.exit id) L d s)=.done .norm L d s:=by
 show (match Nat.beq id id with | true=>R.done .norm L d s | false=>R.done (.exit id) L d s)=_
 rw [Nat.beq_refl]
theorem ww (b:K) (n:Nat) (cl:zR) (c:Ctx) (L:Env) (d:List Nat) (s:St):jK b (n+1) cl c L d s=JKA (b cl c L d s) (jK b n cl c):=wU b (jK b n) cl c L d s
theorem ZTJ (id:Nat) (cl:zR) (c:Ctx) (L:Env) (d:List Nat) (s:St):jy id cl c L d s=.done (.exit id) L d s:=Eq.trans (Eq.refl _) (Eq.refl _)
theorem zhJ (cl:zR) (c:Ctx) (L:Env) (d:List Nat) (s:St):jG cl c L d s=.done .ret L d s:=Eq.trans (Eq.refl _) (Eq.refl _)
theorem ZPJ (cl:zR) (c:Ctx) (L:Env) (d:List Nat) (s:St):zd cl c L d s=.done .norm L d s:=Eq.trans (Eq.refl _) (Eq.refl _)
def ZxJ (r:ARes) (d:Dst) (rest:zF) (cl:zR) (L:Env):ORes:=ARes.casesOn (motive:=fun _=>ORes) r ORes.fail (fun v s=>rest cl (d.put v L) s)
theorem wcA (cl:zR) (L:Env) (s:St):zJ cl L s=.ok L s:=Eq.trans (Eq.refl _) (Eq.refl _)
theorem wbA (d:Dst) (f:OpF) (rest:zF) (cl:zR) (L:Env) (s:St):zC d f rest cl L s=ZxJ (f L s) d rest cl L:=Eq.trans (Eq.refl _) (Eq.refl _)
theorem ZBJ (d:Dst) (f:Arg) (l:List Arg) (rest:zF) (cl:zR) (L:Env) (s:St):zo d f l rest cl L s=ZxJ (wh cl (evs l L) s (f.ev L)) d rest cl L:=Eq.trans (Eq.refl _) (Eq.refl _)
theorem jbA (v:AV) (s:St) (d:Dst) (rest:zF) (cl:zR) (L:Env):ZxJ (.val v s) d rest cl L=rest cl (d.put v L) s:=Eq.trans (Eq.refl _) (Eq.refl _)
def WV (w:Option (List Nat)) (r:ARes) (d:Dst) (rest:zF) (cl:zR) (L:Env) (s:St):ORes:=ARes.casesOn (motive:=fun _=>ORes) r ORes.fail (fun v s'=>ZwA w s s' (rest cl (d.put v L) ⟨s'.h,s'.n,yA s.m s'.m⟩))
theorem yhJ (w:Option (List Nat)) (d:Dst) (f:Arg) (l:List Arg) (rest:zF) (cl:zR) (L:Env) (s:St):jf w d f l rest cl L s=WV w (wh cl (evs l L) ⟨s.h,s.n,far⟩ (f.ev L)) d rest cl L s:=Eq.trans (Eq.refl _) (Eq.refl _)
theorem jYQ (w:Option (List Nat)) (s s':St) (r:ORes) (h:s.n≤s'.m):ZwA w s s' r=r:=by
 unfold ZwA
 cases r with
 | fail=>rfl
 | ok M s2 =>
  have e:VIA w M s s'=true:=by unfold VIA;rw [Nat.ble_eq_true_of_le h]
  simp only [e]
theorem wk (w:Option (List Nat)) (v:AV) (s s':St) (d:Dst) (rest:zF) (cl:zR) (L:Env) (h:s.n≤s'.m):WV w (.val v s') d rest cl L s=rest cl (d.put v L) ⟨s'.h,s'.n,yA s.m s'.m⟩:=jYQ _ _ _ _ h
theorem vZ (w:Option (List Nat)) (v:AV) (s s':St) (d:Dst) (rest:zF) (cl:zR) (L:Env):WV w (.val v s') d rest cl L s=ZwA w s s' (rest cl (d.put v L) ⟨s'.h,s'.n,yA s.m s'.m⟩):=Eq.trans (Eq.refl _) (Eq.refl _)
def JqA (h h':Heap) (v:AV):Bool:=match jN v with
 | some b=>ynA (h.get b) (h'.get b)
 | none=>true
def YY (h h':Heap) (M:Env):List Nat→Bool
 | []=>true
 | u::r=>JqA h h' (M.find u) && YY h h' M r
theorem vL (h h':Heap) (M:Env):YY h h' M []=true:=Eq.trans (Eq.refl _) (Eq.refl _)
theorem vA (h h':Heap) (M:Env) (u:Nat) (r:List Nat):YY h h' M (u::r)=(JqA h h' (M.find u) && YY h h' M r):=Eq.trans (Eq.refl _) (Eq.refl _)
theorem wA (h h':Heap) (b o:Nat):JqA h h' (.ptr b o)=ynA (h.get b) (h'.get b):=Eq.trans (Eq.refl _) (Eq.refl _)
theorem zeJ (h h':Heap) (b o n c:Nat) (e:Bool):JqA h h' (.slice b o n c e)=ynA (h.get b) (h'.get b):=Eq.trans (Eq.refl _) (Eq.refl _)
mutual
theorem YxJ:∀ a:AV,eqV a a=true
 | .bad | .nilptr | .nilslice | .nilmap | .nilfunc | .nilif=>rfl
 | .int k n=>by simp [eqV,ZD]
 | .bool a=>by cases a<;>rfl
 | .str a=>by show Yl a a=true;rw [zRA];simp
 | .ptr b o=>by simp [eqV]
 | .slice b o l c e=>by cases e<;>simp [eqV]
 | .map b=>by simp [eqV]
 | .func f x y=>by simp [eqV,ZW x,ZW y]
 | .yield b=>by simp [eqV]
 | .agg l=>by simp [eqV,ZW l]
 | .tup l=>by simp [eqV,ZW l]
 | .ge k n=>by simp [eqV,ZD]
 | .tail b o=>by simp [eqV]
 | .gptr b o=>by simp [eqV]
 | .vs b o l=>by simp [eqV]
 | .vp b o l=>by simp [eqV]
theorem ZW:∀ l:List AV,VaA l l=true
 | []=>rfl
 | a::l=>by simp [VaA,YxJ a,ZW l]
end
theorem yx (c:List AV) (sz:Nat):ynA (some (.cells c sz)) (some (.cells c sz))=true:=by simp [ynA,ZW]
theorem Wj {M:Env} {m:Nat} {h h':Heap}:∀ {l:List Nat},YY h h' M l=true→gn M m h h' l=true
 | [],_=>rfl
 | u::r,e=>by
  unfold YY at e
  rw [Bool.and_eq_true] at e
  have ih:=Wj (m:=m) e.2
  have e1:=e.1
  unfold JqA at e1
  unfold gn
  split
  ·rename_i b hb
   rw [hb] at e1
   simp only at e1
   split
   ·exact ih
   ·rw [e1];exact ih
  ·exact ih
theorem wG {l:List Nat} {s s' s2:St} {M:Env} (h:YY s.h s'.h M l=true):ZwA (some l) s s' (.ok M s2)=.ok M s2:=by
 have e:VIA (some l) M s s'=true:=by
  unfold VIA
  split
  ·rfl
  ·simp only;exact Wj h
 unfold ZwA
 simp only [e]
theorem yG (w:Option (List Nat)) (v:AV) (s:St) (d:Dst) (rest:zF) (cl:zR) (L:Env) (h:s.n≤far) (hm:s.m≤far):WV w (.val v ⟨s.h,s.n,far⟩) d rest cl L s=rest cl (d.put v L) s:=by
 rw [wk _ _ _ _ _ _ _ _ h]
 have:yA s.m far=s.m:=by unfold yA;rw [Nat.ble_eq_true_of_le hm]
 rw [this]
def ifO (v:AV) (w:Bool) (o skip:zF) (cl:zR) (L:Env) (s:St):ORes:=VDA (fun _=>skip cl L s) (fun b=>Bool.casesOn (motive:=fun _=>ORes) (b == w) (skip cl L s) (o cl L s)) v
theorem WjJ (t:Nat) (w:Bool) (o skip:zF) (cl:zR) (L:Env) (s:St):oIf t w o skip cl L s=ifO (L.find t) w o skip cl L s:=Eq.trans (Eq.refl _) (Eq.refl _)
theorem vUQ (o skip:zF) (cl:zR) (L:Env) (s:St):ifO (.bool true) true o skip cl L s=o cl L s:=Eq.trans (Eq.refl _) (Eq.refl _)
theorem vXQ (o skip:zF) (cl:zR) (L:Env) (s:St):ifO (.bool false) false o skip cl L s=o cl L s:=Eq.trans (Eq.refl _) (Eq.refl _)
theorem vVQ (o skip:zF) (cl:zR) (L:Env) (s:St):ifO (.bool true) false o skip cl L s=skip cl L s:=Eq.trans (Eq.refl _) (Eq.refl _)
theorem vWQ (o skip:zF) (cl:zR) (L:Env) (s:St):ifO (.bool false) true o skip cl L s=skip cl L s:=Eq.trans (Eq.refl _) (Eq.refl _)
theorem YcJ (w:Bool) (o skip:zF) (cl:zR) (L:Env) (s:St):ifO .undef w o skip cl L s=skip cl L s:=Eq.trans (Eq.refl _) (Eq.refl _)
theorem ZAJ (d:Dst) (rest:zF) (cl:zR) (L:Env) (s:St):jE d rest cl L s=rest cl (d.put .undef L) s:=Eq.trans (Eq.refl _) (Eq.refl _)
def veQ (l:List (Nat × Nat)) (r:ORes):ORes:=ORes.casesOn (motive:=fun _=>ORes) r .fail (fun M s=>match Ys M l with | true=>.ok M s | false=>.fail)
theorem YBJ (l:List (Nat × Nat)) (f:zF) (cl:zR) (L:Env) (s:St):yQ l f cl L s=veQ l (f cl L s):=by
 unfold yQ
 generalize f cl L s=r
 cases r<;>rfl
theorem VCJ (M:Env) (s:St):veQ [] (.ok M s)=.ok M s:=Eq.trans (Eq.refl _) (Eq.refl _)
theorem zQA (cl:zR) (l:List AV) (s:St) (f:FuncId) (a b:List AV):wh cl l s (.func f a b)=cl (.fn f) (a++l++b) s:=Eq.trans (Eq.refl _) (Eq.refl _)
theorem jOJ (cl:zR) (l:List AV) (s:St) (b:Nat):wh cl l s (.yield b)=cl (.yield b) l s:=Eq.trans (Eq.refl _) (Eq.refl _)
theorem yJA (t:Nat) (L:Env):(Arg.tmp t).ev L=L.find t:=Eq.trans (Eq.refl _) (Eq.refl _)
theorem vcQ (v:AV) (L:Env):(Arg.con v).ev L=v:=Eq.trans (Eq.refl _) (Eq.refl _)
theorem JT (L:Env):evs [] L=[]:=Eq.trans (Eq.refl _) (Eq.refl _)
theorem gg (a:Arg) (r:List Arg) (L:Env):evs (a::r) L=a.ev L::evs r L:=Eq.trans (Eq.refl _) (Eq.refl _)
theorem YuA (t:Nat) (v:AV) (L:Env):(Dst.tmp t).put v L=.cons t v L:=Eq.trans (Eq.refl _) (Eq.refl _)
theorem wTA (v:AV) (L:Env):Dst.none.put v L=L:=Eq.trans (Eq.refl _) (Eq.refl _)
theorem zK (t u:Nat) (v:AV) (L:Env):(Env.cons u v L).find t=if u=t then v else L.find t:=by
 by_cases h:u=t
 ·subst h;rw [if_pos rfl];exact yM _ _ _
 ·rw [if_neg h];exact yN _ _ h
theorem WkA (t u:Nat) (v w:AV) (L:Env):(Env.cons u w L).set t v=if u=t then .cons u v L else .cons u w (L.set t v):=by
 show Bool.rec (motive:=fun _=>Env) (Env.cons u w (L.set t v)) (Env.cons u v L) (Nat.beq u t)=_
 by_cases h:u=t
 ·rw [YS h,if_pos h]
 ·rw [vf h,if_neg h]
theorem vuJ (t:Nat) (v:AV):Env.nil.set t v=.cons t v .nil:=Eq.trans (Eq.refl _) (Eq.refl _)
theorem yBA (M L:Env):Zz [] M L=L:=Eq.trans (Eq.refl _) (Eq.refl _)
theorem wrA (t:Nat) (r:List Nat) (M L:Env):Zz (t::r) M L=Zz r M (L.set t (M.find t)):=Eq.trans (Eq.refl _) (Eq.refl _)
theorem wXA (i:Nat) (L:Env):zO i [] L=L:=Eq.trans (Eq.refl _) (Eq.refl _)
theorem yuA (i:Nat) (a:AV) (l:List AV) (L:Env):zO i (a::l) L=.cons i a (zO (i+1) l L):=Eq.trans (Eq.refl _) (Eq.refl _)
theorem JrA (x:Arg) (L:Env) (s:St):zE x L s=.val (x.ev L) s:=Eq.trans (Eq.refl _) (Eq.refl _)
theorem wRJ (f:St→AV→ARes) (x:Arg) (L:Env) (s:St):kUn f x L s=f s (x.ev L):=Eq.trans (Eq.refl _) (Eq.refl _)
theorem YSJ (f:St→AV→AV→ARes) (x y:Arg) (L:Env) (s:St):jJ f x y L s=f s (x.ev L) (y.ev L):=Eq.trans (Eq.refl _) (Eq.refl _)
theorem ZQJ (c a b:Arg) (L:Env) (s:St):yY c a b L s=JYA s (a.ev L) (b.ev L) (c.ev L):=Eq.trans (Eq.refl _) (Eq.refl _)
theorem yVJ (s:St) (a b:AV):JYA s a b (.bool true)=.val a s:=Eq.trans (Eq.refl _) (Eq.refl _)
theorem zCJ (s:St) (a b:AV):JYA s a b (.bool false)=.val b s:=Eq.trans (Eq.refl _) (Eq.refl _)
theorem YVJ (f:St→IntKind→Int→Int→ARes) (x y:Arg) (L:Env) (s:St):zV f x y L s=ints (f s) (x.ev L) (y.ev L):=Eq.trans (Eq.refl _) (Eq.refl _)
theorem YbJ (f:IntKind→Int→Int→ARes) (a b:Int):ints f (.int .i64 a) (.int .i64 b)=f .i64 a b:=Eq.trans (Eq.refl _) (Eq.refl _)
theorem wwA (f:IntKind→Int→Int→ARes) (a b:Int):ints f (.int .u64 a) (.int .u64 b)=f .u64 a b:=Eq.trans (Eq.refl _) (Eq.refl _)
theorem YWJ (x y:Arg) (L:Env) (s:St):JB x y L s=wZA (fun k a=>WvJ s k a (y.ev L)) (x.ev L):=Eq.trans (Eq.refl _) (Eq.refl _)
theorem gyJ (f:IntKind→Int→ARes) (k:IntKind) (a:Int):wZA f (.int k a)=f k a:=Eq.trans (Eq.refl _) (Eq.refl _)
theorem YfJ (s:St) (a b:Int):WvJ s .i64 a (.int .i64 b)=.val (.bool (decide (b<a))) s:=by
 show ARes.val (.bool (!leI a b)) s=_
 rw [wT]
 by_cases h:b<a
 ·have h':¬ a≤b:=by omega
  simp [h,h']
 ·have h':a≤b:=by omega
  simp [h,h']
theorem VjJ (s:St) (k:IntKind) (a b:Int):yR s k a b=.val (.bool (decide (a<b))) s:=by
 unfold yR;rw [wT]
 by_cases h:a<b
 ·have h':¬ b≤a:=by omega
  simp [h,h']
 ·have h':b≤a:=by omega
  simp [h,h']
theorem VkJ (s:St) (k:IntKind) (a b:Int):VlJ s k a b=.val (.bool (decide (a≤b))) s:=by unfold VlJ;rw [wT]
theorem VnJ (s:St) (k:IntKind) (a b:Int):viJ s k a b=.val (.bool (decide (b≤a))) s:=by unfold viJ;rw [wT]
theorem VoJ (s:St) (k:IntKind) (a b:Int):YH s k a b=.val (.bool (decide (a=b))) s:=by
 unfold YH;rw [ZD];rfl
theorem ViJ (s:St) (k:IntKind) (a b:Int):wj s k a b=.val (.bool (!decide (a=b))) s:=by
 unfold wj;rw [ZD];rfl
theorem zTA (n:Int) (h : -9223372036854775808≤n∧n≤9223372036854775807):gR .i64 n=n:=by rw [gQ];exact IntWalk.i64_in n h
theorem za (s:St) (a b:Int) (h : -9223372036854775808≤a+b∧a+b≤9223372036854775807):jI s .i64 a b=.val (.int .i64 (a+b)) s:=by
 show ARes.val (.int .i64 (gR .i64 (a+b))) s=_
 rw [zTA _ h]
theorem je (s:St) (a b:Int) (h : -9223372036854775808≤a - b∧a - b≤9223372036854775807):yK s .i64 a b=.val (.int .i64 (a - b)) s:=by
 show ARes.val (.int .i64 (gR .i64 (a - b))) s=_
 rw [zTA _ h]
theorem zYJ (s:St) (b o n c:Nat) (e:Bool):zq s (.slice b o n c e)=.val (.int .i64 n) s:=Eq.trans (Eq.refl _) (Eq.refl _)
theorem ZLJ (s:St):zq s .nilslice=.val (.int .i64 0) s:=Eq.trans (Eq.refl _) (Eq.refl _)
theorem YEJ (s:St) (b:Bool):Zs s (.bool b)=.val (.bool !b) s:=Eq.trans (Eq.refl _) (Eq.refl _)
theorem zMJ (s:St) (b o:Nat):Zw s (.ptr b o)=.val (.ptr b o) s:=Eq.trans (Eq.refl _) (Eq.refl _)
theorem zvJ (off:Nat) (s:St) (b o:Nat):zS off s (.ptr b o)=.val (.ptr b (o+off)) s:=Eq.trans (Eq.refl _) (Eq.refl _)
theorem jq (size:Nat) (s:St) (b o n c:Nat) (e:Bool) (i:Nat) (h:i<n):jX size s (.slice b o n c e) (.int .i64 i)=.val (.ptr b (o+i * size)) s:=by
 show Zo s b o n size i=_
 unfold Zo
 rw [Nat.ble_eq_true_of_le (show Nat.succ i≤n from h)]
 rfl
theorem JsA (sh:Option Nat) (x:Arg) (L:Env) (s:St):zI sh x L s=okA (Jx sh s (x.ev L)):=Eq.trans (Eq.refl _) (Eq.refl _)
def YOJ (sh:Option Nat) (s:St) (o:Nat):Option AObj→ARes
 | some (.cells c _)=>.val (yW sh c o) s
 | some (.fam c _ k _)=>.val (yW sh (c.take k) o) s
 | _=>.fail
theorem vt (sh:Option Nat) (s:St) (b o:Nat):Jx sh s (.ptr b o)=YOJ sh s o (s.h.get b):=by
 show gM s b (fun c _=>.val (yW sh c o) s)=_
 unfold gM YOJ
 generalize s.h.get b=r
 cases r with
 | none=>rfl
 | some x=>cases x<;>rfl
theorem vg (sh:Option Nat) (s:St) (o:Nat) (c:List AV) (sz:Nat):YOJ sh s o (some (.cells c sz))=.val (yW sh c o) s:=Eq.trans (Eq.refl _) (Eq.refl _)
theorem gsJ (c:List AV) (o:Nat):yW none c o=nth c o:=Eq.trans (Eq.refl _) (Eq.refl _)
theorem wR (a:AV) (l:List AV) (n:Nat):nth (a::l) n=if n=0 then a else nth l (n - 1):=by
 cases n with
 | zero=>rfl
 | succ n=>rfl
def vhQ:Option (List AV)→AV
 | some l=>.agg l
 | none=>.bad
theorem ve (k:Nat) (c:List AV) (o:Nat):yW (some k) c o=vhQ (cut o k c):=by
 show (match cut o k c with | some l=>AV.agg l | none=>.bad)=vhQ (cut o k c)
 generalize cut o k c=r
 cases r<;>rfl
theorem ZoJ (l:List AV):vhQ (some l)=.agg l:=Eq.trans (Eq.refl _) (Eq.refl _)
def jJJ (a:AV):Option (List AV)→Option (List AV)
 | some l=>some (a::l)
 | none=>none
theorem gWA (a:AV) (l:List AV):jJJ a (some l)=some (a::l):=Eq.trans (Eq.refl _) (Eq.refl _)
theorem ZX (l:List AV):YE 0 l=some []:=by cases l<;>rfl
theorem vq (k:Nat) (a:AV) (l:List AV):YE (k+1) (a::l)=jJJ a (YE k l):=by
 show (match YE k l with | some r=>some (a::r) | none=>none)=_
 cases YE k l<;>rfl
theorem JE (o k:Nat) (a:AV) (l:List AV):cut o k (a::l)=if o=0 then YE k (a::l) else cut (o - 1) k l:=by
 cases o with
 | zero=>rfl
 | succ o=>rfl
theorem gtJ (l c:List AV) (h:l.length=c.length):over 0 l c=some l:=by
 have h1:∀ (l c:List AV),l.length=c.length→wP l c=some l:=by
  intro l
  induction l with
  | nil=>intro c h;cases c with
   | nil=>rfl
   | cons _ _=>simp at h
  | cons a l ih=>intro c h;cases c with
   | nil=>simp at h
   | cons b c =>
    show (match wP l c with | some r=>some (a::r) | none=>none)=_
    rw [ih c (by simpa using h)]
 cases c with
 | nil=>exact h1 l [] h
 | cons b c=>exact h1 l (b::c) h
theorem zHA (k:Nat) (a x:Arg) (L:Env) (s:St):jD k a x L s=jM k s (x.ev L) (a.ev L):=Eq.trans (Eq.refl _) (Eq.refl _)
theorem jk (s:St) (k b:Nat) (l:List AV) (c:List AV) (sz:Nat) (h:s.h.get b=some (.cells c sz)) (hk:l.length=k) (hc:c.length=k) (hs:scalars l=true):jM k s (.agg l) (.ptr b 0)=.val .undef (s.put b (.cells l sz)):=by
 subst hk
 have h0:jM l.length s (.agg l) (.ptr b 0)=(match s.h.get b with
  | some (.cells c sz)=>match cellsOf l.length (.agg l) with
   | none=>.fail
   | some vs=>match scalars vs with
    | false=>.fail
    | true=>match over 0 vs c with
     | some c=>.val .undef (s.put b (.cells c sz))
     | none=>.fail
  | _=>.fail):=rfl
 rw [h0,h]
 have h1:cellsOf l.length (.agg l)=some l:=by unfold cellsOf;simp only [Nat.beq_refl]
 simp only [h1,hs,gtJ l c hc.symm]
def vzA (s:St) (b sz:Nat):Option (List AV)→ARes
 | some c=>.val .undef (s.put b (.cells c sz))
 | none=>.fail
def vyA (k:Nat) (s:St) (v:AV) (b o:Nat):Option AObj→ARes
 | some (.cells c sz)=>match cellsOf k v with
  | none=>.fail
  | some vs=>match scalars vs with
   | false=>.fail
   | true=>vzA s b sz (over o vs c)
 | _=>.fail
theorem Vw (k:Nat) (s:St) (v:AV) (b o:Nat):jM k s v (.ptr b o)=vyA k s v b o (s.h.get b):=by
 have h0:jM k s v (.ptr b o)=(match s.h.get b with
  | some (.cells c sz)=>match cellsOf k v with
   | none=>.fail
   | some vs=>match scalars vs with
    | false=>.fail
    | true=>match over o vs c with
     | some c=>.val .undef (s.put b (.cells c sz))
     | none=>.fail
  | _=>.fail):=rfl
 rw [h0]
 unfold vyA
 generalize s.h.get b=r
 cases r with
 | none=>rfl
 | some x =>
  cases x<;>rfl
def jrJ (s:St) (b o sz:Nat) (c:List AV):Option (List AV)→ARes
 | some vs=>Bool.casesOn (motive:=fun _=>ARes) (scalars vs) .fail (vzA s b sz (over o vs c))
 | none=>.fail
theorem YK (k:Nat) (s:St) (v:AV) (b o:Nat) (c:List AV) (sz:Nat):vyA k s v b o (some (.cells c sz))=jrJ s b o sz c (cellsOf k v):=by
 unfold vyA jrJ
 generalize cellsOf k v=r
 cases r with
 | none=>rfl
 | some vs=>simp only;cases scalars vs<;>rfl
def ZzJ (t:Bool) (s:St) (b o sz:Nat) (c vs:List AV):ARes:=Bool.casesOn (motive:=fun _=>ARes) t .fail (vzA s b sz (over o vs c))
theorem Yx (s:St) (b o sz:Nat) (c vs:List AV):jrJ s b o sz c (some vs)=ZzJ (scalars vs) s b o sz c vs:=Eq.trans (Eq.refl _) (Eq.refl _)
theorem Yy (s:St) (b o sz:Nat) (c vs:List AV):ZzJ true s b o sz c vs=vzA s b sz (over o vs c):=Eq.trans (Eq.refl _) (Eq.refl _)
theorem JCJ:scalars []=true:=Eq.trans (Eq.refl _) (Eq.refl _)
theorem JDJ (k:IntKind) (n:Int) (r:List AV):scalars (.int k n::r)=scalars r:=Eq.trans (Eq.refl _) (Eq.refl _)
theorem JNA (n:Bool) (r:List AV):scalars (.bool n::r)=scalars r:=Eq.trans (Eq.refl _) (Eq.refl _)
theorem JBJ (b o:Nat) (r:List AV):scalars (.ptr b o::r)=scalars r:=Eq.trans (Eq.refl _) (Eq.refl _)
theorem yFJ (b o n c:Nat) (e:Bool) (r:List AV):scalars (.slice b o n c e::r)=scalars r:=Eq.trans (Eq.refl _) (Eq.refl _)
theorem geJ (r:List AV):scalars (.nilslice::r)=scalars r:=Eq.trans (Eq.refl _) (Eq.refl _)
theorem gfJ (f:FuncId) (x y:List AV) (r:List AV):scalars (.func f x y::r)=scalars r:=Eq.trans (Eq.refl _) (Eq.refl _)
theorem vQA (k:Nat) (l:List AV):cellsOf k (.agg l)=if l.length=k then some l else none:=by
 show (match Nat.beq l.length k with | true=>some l | false=>none)=_
 by_cases h:l.length=k
 ·rw [YS h,if_pos h]
 ·rw [vf h,if_neg h]
theorem WXA (s:St) (b sz:Nat) (c:List AV):vzA s b sz (some c)=.val .undef (s.put b (.cells c sz)):=Eq.trans (Eq.refl _) (Eq.refl _)
theorem ywJ (z:List AV) (sz:Nat) (L:Env) (s:St):jQ z sz L s=.val (.ptr s.n 0) (s.new (.cells z sz)):=Eq.trans (Eq.refl _) (Eq.refl _)
theorem YYJ (sz:Nat) (x:Arg) (L:Env) (s:St):yF sz x L s=vXA sz s (x.ev L):=Eq.trans (Eq.refl _) (Eq.refl _)
theorem VUJ (sz:Nat) (s:St) (l:List AV):vXA sz s (.agg l)=.val (.ptr s.n 0) (s.new (.cells l sz)):=Eq.trans (Eq.refl _) (Eq.refl _)
theorem vcJ (sz:Nat) (s:St) (b o n c:Nat) (e:Bool):vXA sz s (.slice b o n c e)=.val (.ptr s.n 0) (s.new (.cells [.slice b o n c e] sz)):=Eq.trans (Eq.refl _) (Eq.refl _)
def yBJ (n:Nat) (s:St):Option (List AV)→ARes
 | some c=>.val (.slice s.n 0 n n false) (s.new (.cells c 0))
 | none=>.fail
theorem Yr (z:List AV) (n:Nat) (ps:List (Nat × Nat × Arg)) (L:Env) (s:St):zz z n ps L s=yBJ n s (ga ps L z):=by
 unfold zz yBJ
 generalize ga ps L z=r
 cases r<;>rfl
theorem yiA (n:Nat) (s:St) (c:List AV):yBJ n s (some c)=.val (.slice s.n 0 n n false) (s.new (.cells c 0)):=Eq.trans (Eq.refl _) (Eq.refl _)
def vgQ (s:St):Option (List AV)→ARes
 | some c=>.val (.agg c) s
 | none=>.fail
theorem yuJ (z:List AV) (ps:List (Nat × Nat × Arg)) (L:Env) (s:St):yd z ps L s=vgQ s (ga ps L z):=by
 unfold yd vgQ
 generalize ga ps L z=r
 cases r<;>rfl
theorem ZnJ (s:St) (c:List AV):vgQ s (some c)=.val (.agg c) s:=Eq.trans (Eq.refl _) (Eq.refl _)
def wVJ (r:List (Nat × Nat × Arg)) (L:Env):Option (List AV)→Option (List AV)
 | some c=>ga r L c
 | none=>none
theorem gGA (r:List (Nat × Nat × Arg)) (L:Env) (c:List AV):wVJ r L (some c)=ga r L c:=Eq.trans (Eq.refl _) (Eq.refl _)
def YtJ (r:List (Nat × Nat × Arg)) (L:Env) (c:List AV) (o:Nat):Option (List AV)→Option (List AV)
 | some vs=>wVJ r L (over o vs c)
 | none=>none
theorem gHA (r:List (Nat × Nat × Arg)) (L:Env) (c:List AV) (o:Nat) (vs:List AV):YtJ r L c o (some vs)=wVJ r L (over o vs c):=Eq.trans (Eq.refl _) (Eq.refl _)
theorem YFA (L:Env) (c:List AV):ga [] L c=some c:=Eq.trans (Eq.refl _) (Eq.refl _)
theorem gIA (o k:Nat) (x:Arg) (r:List (Nat × Nat × Arg)) (L:Env) (c:List AV):ga ((o,k,x)::r) L c=YtJ r L c o (cellsOf k (x.ev L)):=by
 conv=>lhs;unfold ga
 unfold YtJ wVJ
 generalize cellsOf k (x.ev L)=q
 cases q with
 | none=>rfl
 | some vs =>
  generalize over o vs c=w
  cases w<;>rfl
theorem jNJ (k:IntKind) (n:Int):cellsOf 1 (.int k n)=some [.int k n]:=Eq.trans (Eq.refl _) (Eq.refl _)
theorem ZyA (b o n c:Nat) (e:Bool):cellsOf 1 (.slice b o n c e)=some [.slice b o n c e]:=Eq.trans (Eq.refl _) (Eq.refl _)
theorem ViA:cellsOf 1 .nilslice=some [.nilslice]:=Eq.trans (Eq.refl _) (Eq.refl _)
theorem Js (o:Nat) (vs:List AV) (a:AV) (c:List AV):over o vs (a::c)=if o=0 then wP vs (a::c) else jJJ a (over (o - 1) vs c):=by
 cases o with
 | zero=>rfl
 | succ o =>
  show (match over o vs c with | some r=>some (a::r) | none=>none)=_
  rw [if_neg (by omega)]
  show _=jJJ a (over o vs c)
  generalize over o vs c=r
  cases r<;>rfl
theorem Vz (c:List AV):wP [] c=some c:=by cases c<;>rfl
theorem YQ (v a:AV) (vs c:List AV):wP (v::vs) (a::c)=jJJ v (wP vs c):=by
 show (match wP vs c with | some r=>some (v::r) | none=>none)=_
 generalize wP vs c=r
 cases r<;>rfl
theorem ZSJ (b:K) (cl:zR) (c:Ctx) (L:Env) (d:List Nat) (s:St):ju b cl c L d s=jK b rounds cl c L d s:=Eq.trans (Eq.refl _) (Eq.refl _)
theorem WhJ (k:IntKind) (n:Int) (s:St):okA (.val (.int k n) s)=.val (.int k n) s:=Eq.trans (Eq.refl _) (Eq.refl _)
theorem YAJ (b:Bool) (s:St):okA (.val (.bool b) s)=.val (.bool b) s:=Eq.trans (Eq.refl _) (Eq.refl _)
theorem wKJ (b o:Nat) (s:St):okA (.val (.ptr b o) s)=.val (.ptr b o) s:=Eq.trans (Eq.refl _) (Eq.refl _)
theorem gzJ (b o n c:Nat) (e:Bool) (s:St):okA (.val (.slice b o n c e) s)=.val (.slice b o n c e) s:=Eq.trans (Eq.refl _) (Eq.refl _)
theorem JzJ (s:St):okA (.val .nilslice s)=.val .nilslice s:=Eq.trans (Eq.refl _) (Eq.refl _)
theorem WiJ (l:List AV) (s:St):okA (.val (.agg l) s)=.val (.agg l) s:=Eq.trans (Eq.refl _) (Eq.refl _)
theorem zM (s:St) (o:AObj) (b:Nat) (h:b=s.n) (hb:s.n<549755813888):(s.new o).h.get b=some o:=by subst h;rw [St.new_h];exact vU _ _ _ hb
theorem zH (s:St) (o:AObj) (b:Nat) (h:b≠s.n):(s.new o).h.get b=s.h.get b:=by rw [St.new_h];exact jH _ _ _ _ h
theorem zN (s:St) (o:AObj) (b c:Nat) (h:b=c) (hb:b<549755813888):(s.put c o).h.get b=some o:=by subst h;rw [St.put_h];exact vU _ _ _ hb
theorem zL (s:St) (o:AObj) (b c:Nat) (h:b≠c):(s.put c o).h.get b=s.h.get b:=wz h
theorem zW (s:St) (o:AObj):(s.new o).n=s.n+1:=Eq.trans (Eq.refl _) (Eq.refl _)
theorem jF (s:St) (o:AObj):(s.new o).m=s.m:=Eq.trans (Eq.refl _) (Eq.refl _)
theorem jB (s:St) (b:Nat) (o:AObj):(s.put b o).n=s.n:=Eq.trans (Eq.refl _) (Eq.refl _)
def jr (P:Program) (fn:Func) (r:R):ARes:=R.casesOn (motive:=fun _=>ARes) r .fail (fun e L d s=>Ex.casesOn (motive:=fun _=>ARes) e (yL P fn.results.toList L d s) (fun _=>.fail) (yL P fn.results.toList L d s))
theorem gFA (fn:Func) (L:Env) (d:List Nat) (s:St):jr P fn (.done .ret L d s)=yL P fn.results.toList L d s:=Eq.trans (Eq.refl _) (Eq.refl _)
theorem yHA (fn:Func) (L:Env) (d:List Nat) (s:St):jr P fn (.done .norm L d s)=yL P fn.results.toList L d s:=Eq.trans (Eq.refl _) (Eq.refl _)
theorem zT {X:FuncId→List Nat} {cl:zR} {f:FuncId} {args:List AV} {s:St} {fn:Func} {b:Code} {k:K} (hb:fn.body=some b) (hn:(fn.name == "runtime.NumGoroutine")=false)
  (h1:Nat.ble args.length fn.ntmps=true) (h2:Nat.ble args.length (lead (X f) 100 0)=true) (hk:jh P (X f) fn.ntmps b=some k) :
  zZ P X cl f args s fn=jr P fn (k cl ⟨f,none,fn.ntmps,X f⟩ (zO 0 args .nil) [] s):=by
 unfold zZ
 rw [hb]
 simp only [hn,Bool.false_eq_true,if_false,h1,h2,hk]
 generalize k cl ⟨f,none,fn.ntmps,X f⟩ (zO 0 args .nil) [] s=r
 cases r with
 | fail=>rfl
 | done e L d s=>cases e<;>rfl
theorem ZMJ (t:Nat) (L:Env) (s:St):yL P [.tmp t] L [] s=.val (L.find t) s:=Eq.trans (Eq.refl _) (Eq.refl _)
theorem yqJ (a:Nat) (t:TypeId) (L:Env) (s:St) {sh:Option Nat} (hs:yH P t=some sh) {v:AV} (h:okA (Jx sh s (L.find a))=.val v s):yL P [.cell a t] L [] s=.val v s:=by
 unfold yL
 simp only [gL,wN,hs,h]
 rfl
theorem gI {X:FuncId→List Nat} {n:Nat} {f:FuncId} {args:List AV} {s s':St} {fn:Func} {v:AV} (hf:P.funcs[f]? = some fn) (h:zZ P X (call P X n) f args ⟨s.h,s.n,far⟩ fn=.val v s')
  (hp:plain v=true) (hm:s.n≤s'.m):call P X (n+1) (.fn f) args s=.val v s:=by
 show jP P X (call P X n) (.fn f) args s=_
 unfold jP
 simp only [hf,h]
 unfold settle
 simp only [Nat.ble_eq_true_of_le hm,hp]
 rfl
theorem zj {X:FuncId→List Nat} {n:Nat} {f:FuncId} {args:List AV} {s:St} {fn:Func} {v:AV} (hf:P.funcs[f]? = some fn)
  (h:∀ u:St,u.h=s.h→u.n=s.n→u.m=far→∃ s',zZ P X (call P X n) f args u fn=.val v s'∧u.n≤s'.m) (hp:plain v=true):call P X (n+1) (.fn f) args s=.val v s:=by
 obtain ⟨s',h1,h2⟩:=h ⟨s.h,s.n,far⟩ rfl rfl rfl
 exact gI hf h1 hp h2
structure Beside (u s:St) (k:Nat):Prop where
 same:∀ b,b<u.n→s.h.get b=u.h.get b
 n:u.n≤s.n
 le:s.n≤u.n+k
 m:u.n≤s.m
 far:s.m≤far
theorem Beside.refl (u:St) (h:u.n≤Abs.far) (hm:u.m=Abs.far):Beside u u 0:=⟨fun _ _=>rfl,Nat.le_refl _,Nat.le_refl _,by rw [hm];exact h,by rw [hm];exact Nat.le_refl _⟩
theorem Beside.new {u s:St} {k:Nat} (h:Beside u s k) (o:AObj):Beside u (s.new o) (k+1) :=
 ⟨fun b hb=>by rw [zH _ _ _ (by have:=h.n;omega)];exact h.same b hb,Nat.le_trans h.n (Nat.le_succ _),by have:=h.le;show s.n+1≤_;omega,h.m,h.far⟩
theorem Beside.put {u s:St} {k b:Nat} (h:Beside u s k) (o:AObj) (hb:u.n≤b):Beside u (s.put b o) k :=
 ⟨fun c hc=>by rw [zL _ _ _ _ (by omega)];exact h.same c hc,h.n,h.le,by
  show u.n≤yA s.m b
  unfold yA
  have:=h.m
  cases Nat.ble s.m b<;>assumption,Nat.le_trans (jW _ _) h.far⟩
theorem Beside.mono {u s:St} {k j:Nat} (h:Beside u s k) (hj:k≤j):Beside u s j:=⟨h.same,h.n,Nat.le_trans h.le (by omega),h.m,h.far⟩
theorem jU {s:St} {b k:Nat} {o:AObj} (h:s.m≤k):(s.put b o).m≤k:=Nat.le_trans (jW _ _) h
structure RowsAt (h:Heap) (n w:Nat) (rows:List (List AV)) (v:AV):Prop where
 len:∀ s,zq s v=.val (.int .i64 rows.length) s
 at_:∀ i (hi:i<rows.length),∃ b p c sz,b<n∧(∀ s,jX w s v (.int .i64 i)=.val (.ptr b p) s)∧h.get b=some (.cells c sz)∧cut p w c=some rows[i]
theorem RowsAt.grow {h h':Heap} {n n' w:Nat} {rows:List (List AV)} {v:AV} (r:RowsAt h n w rows v) (hh:∀ b,b<n→h'.get b=h.get b) (hn:n≤n'):RowsAt h' n' w rows v :=
 ⟨r.len,fun i hi=>by
  obtain ⟨b,p,c,sz,h1,h2,h3,h4⟩:=r.at_ i hi
  exact ⟨b,p,c,sz,by omega,h2,by rw [hh b h1];exact h3,h4⟩⟩
theorem RowsAt.ne {h:Heap} {n w:Nat} {rows:List (List AV)} {v:AV} (r:RowsAt h n w rows v):v≠.bad:=fun e=>by
 subst e
 have:=r.len Zv
 cases this
def JL:Code→List (Code × Code)
 | .seq a b=>JL a++JL b
 | .cond _ a b=>JL a++JL b
 | .block _ b=>JL b
 | .loop b=>JL b
 | .scope b=>JL b
 | .rangeFunc _ _ a b=>[(a,b)]
 | _=>[]
def nthR:List (Code × Code)→Nat→Code × Code
 | [],_=>(.skip,.skip)
 | a::_,0=>a
 | _::l,n+1=>nthR l n
def yV (f:Func) (i:Nat):Code × Code:=nthR (JL (f.body.getD .skip)) i
end Go.Abs
end
