/- The interpreter as a language of its own: equations by which code is run over values that are known in part. -/
import Derived.Test.YtoklbkgcclkejaaAbsPiece
noncomputable section
namespace Go.Abs
variable {P:Program}
def thenK (r:R) (f:Env→List Nat→St→R):R:=R.casesOn (motive:=fun _=>R) r .fail (fun e L d s=>Ex.casesOn (motive:=fun _=>R) e (f L d s) (fun id=>.done (.exit id) L d s) (.done .ret L d s))
theorem wV (a b:K) (cl:zR) (c:Ctx) (L:Env) (d:List Nat) (s:St):zG a b cl c L d s=thenK (a cl c L d s) (b cl c):=by
 unfold zG
 generalize a cl c L d s=r
 cases r<;>rfl
theorem vO (L:Env) (d:List Nat) (s:St) (f:Env→List Nat→St→R):thenK (.done .norm L d s) f=f L d s:=Eq.trans (Eq.refl _) (Eq.refl _)
theorem thenK_ret (L:Env) (d:List Nat) (s:St) (f:Env→List Nat→St→R):thenK (.done .ret L d s) f=.done .ret L d s:=Eq.trans (Eq.refl _) (Eq.refl _)
theorem thenK_exit (id:Nat) (L:Env) (d:List Nat) (s:St) (f:Env→List Nat→St→R):thenK (.done (.exit id) L d s) f=.done (.exit id) L d s:=Eq.trans (Eq.refl _) (Eq.refl _)
def regR (ks:List Nat) (L:Env) (d:List Nat) (r:ORes):R:=ORes.casesOn (motive:=fun _=>R) r .fail (fun M s=>.done .norm (Zx ks M L) d s)
theorem kRegion_def (o:zF) (ks:List Nat) (cl:zR) (c:Ctx) (L:Env) (d:List Nat) (s:St):zD o ks cl c L d s=regR ks L d (o cl L s):=by
 unfold zD
 generalize o cl L s=r
 cases r<;>rfl
theorem regR_ok (ks:List Nat) (L M:Env) (d:List Nat) (s:St):regR ks L d (.ok M s)=.done .norm (Zx ks M L) d s:=Eq.trans (Eq.refl _) (Eq.refl _)
def regD (ks:List Nat) (L:Env) (d:List Nat) (r:ORes):R:=ORes.casesOn (motive:=fun _=>R) r .fail (fun M s=>match Nat.ble s.n 549755813888 with | true=>.done .norm (Zx ks M L) d s | false=>.fail)
theorem kRegionD_def (o:zF) (ks:List Nat) (cl:zR) (c:Ctx) (L:Env) (d:List Nat) (s:St):zv o ks cl c L d s=regD ks L d (o cl L s):=by
 unfold zv
 generalize o cl L s=r
 cases r<;>rfl
theorem regD_ok (ks:List Nat) (L M:Env) (d:List Nat) (s:St) (h:s.n≤549755813888):regD ks L d (.ok M s)=.done .norm (Zx ks M L) d s:=by
 show (match Nat.ble s.n 549755813888 with | true=>R.done .norm (Zx ks M L) d s | false=>.fail)=_
 rw [Nat.ble_eq_true_of_le h]
def condK (v:AV) (a b:K) (cl:zR) (c:Ctx) (L:Env) (d:List Nat) (s:St):R:=onBoolR (fun t=>Bool.casesOn (motive:=fun _=>R) t (b cl c L d s) (a cl c L d s)) v
theorem kCond_def (x:Arg) (a b:K) (cl:zR) (c:Ctx) (L:Env) (d:List Nat) (s:St):ze x a b cl c L d s=condK (x.ev L) a b cl c L d s:=Eq.trans (Eq.refl _) (Eq.refl _)
theorem condK_true (a b:K) (cl:zR) (c:Ctx) (L:Env) (d:List Nat) (s:St):condK (.bool true) a b cl c L d s=a cl c L d s:=Eq.trans (Eq.refl _) (Eq.refl _)
theorem condK_false (a b:K) (cl:zR) (c:Ctx) (L:Env) (d:List Nat) (s:St):condK (.bool false) a b cl c L d s=b cl c L d s:=Eq.trans (Eq.refl _) (Eq.refl _)
def blkR (id:Nat) (r:R):R:=R.casesOn (motive:=fun _=>R) r .fail (fun e L d s=>Ex.casesOn (motive:=fun _=>R) e (.done .norm L d s) (fun i=>match Nat.beq i id with | true=>.done .norm L d s | false=>.done (.exit i) L d s) (.done .ret L d s))
theorem kBlock_def (id:Nat) (b:K) (cl:zR) (c:Ctx) (L:Env) (d:List Nat) (s:St):zU id b cl c L d s=blkR id (b cl c L d s):=by
 unfold zU
 generalize b cl c L d s=r
 cases r with
 | fail=>rfl
 | done e L1 d1 s1=>cases e<;>rfl
theorem blkR_norm (id:Nat) (L:Env) (d:List Nat) (s:St):blkR id (.done .norm L d s)=.done .norm L d s:=Eq.trans (Eq.refl _) (Eq.refl _)
theorem blkR_ret (id:Nat) (L:Env) (d:List Nat) (s:St):blkR id (.done .ret L d s)=.done .ret L d s:=Eq.trans (Eq.refl _) (Eq.refl _)
theorem blkR_exit (id:Nat) (L:Env) (d:List Nat) (s:St):blkR id (.done (.exit id) L d s)=.done .norm L d s:=by
 show (match Nat.beq id id with | true=>R.done .norm L d s | false=>R.done (.exit id) L d s)=_
 rw [Nat.beq_refl]
theorem wx (b:K) (n:Nat) (cl:zR) (c:Ctx) (L:Env) (d:List Nat) (s:St):jL b (n+1) cl c L d s=thenK (b cl c L d s) (jL b n cl c):=wV b (jL b n) cl c L d s
theorem kExit_def (id:Nat) (cl:zR) (c:Ctx) (L:Env) (d:List Nat) (s:St):jy id cl c L d s=.done (.exit id) L d s:=Eq.trans (Eq.refl _) (Eq.refl _)
theorem kRet_def (cl:zR) (c:Ctx) (L:Env) (d:List Nat) (s:St):jG cl c L d s=.done .ret L d s:=Eq.trans (Eq.refl _) (Eq.refl _)
theorem kSkip_def (cl:zR) (c:Ctx) (L:Env) (d:List Nat) (s:St):zd cl c L d s=.done .norm L d s:=Eq.trans (Eq.refl _) (Eq.refl _)
def thenO (r:ARes) (d:Dst) (rest:zF) (cl:zR) (L:Env):ORes:=ARes.casesOn (motive:=fun _=>ORes) r ORes.fail (fun v s=>rest cl (d.put v L) s)
theorem oNil_def (cl:zR) (L:Env) (s:St):zJ cl L s=.ok L s:=Eq.trans (Eq.refl _) (Eq.refl _)
theorem oVal_def (d:Dst) (f:OpF) (rest:zF) (cl:zR) (L:Env) (s:St):zC d f rest cl L s=thenO (f L s) d rest cl L:=Eq.trans (Eq.refl _) (Eq.refl _)
theorem oCall_def (d:Dst) (f:Arg) (l:List Arg) (rest:zF) (cl:zR) (L:Env) (s:St):zo d f l rest cl L s=thenO (wi cl (evs l L) s (f.ev L)) d rest cl L:=Eq.trans (Eq.refl _) (Eq.refl _)
theorem thenO_val (v:AV) (s:St) (d:Dst) (rest:zF) (cl:zR) (L:Env):thenO (.val v s) d rest cl L=rest cl (d.put v L) s:=Eq.trans (Eq.refl _) (Eq.refl _)
def thenT (w:Option (List Nat)) (r:ARes) (d:Dst) (rest:zF) (cl:zR) (L:Env) (s:St):ORes:=ARes.casesOn (motive:=fun _=>ORes) r ORes.fail (fun v s'=>endT w s s' (rest cl (d.put v L) ⟨s'.h,s'.n,yA s.m s'.m⟩))
theorem oCallT_def (w:Option (List Nat)) (d:Dst) (f:Arg) (l:List Arg) (rest:zF) (cl:zR) (L:Env) (s:St):jf w d f l rest cl L s=thenT w (wi cl (evs l L) ⟨s.h,s.n,far⟩ (f.ev L)) d rest cl L s:=Eq.trans (Eq.refl _) (Eq.refl _)
theorem endT_le (w:Option (List Nat)) (s s':St) (r:ORes) (h:s.n≤s'.m):endT w s s' r=r:=by
 unfold endT
 cases r with
 | fail=>rfl
 | ok M s2 =>
  have e:mayA w M s s'=true:=by unfold mayA;rw [Nat.ble_eq_true_of_le h]
  simp only [e]
theorem wo (w:Option (List Nat)) (v:AV) (s s':St) (d:Dst) (rest:zF) (cl:zR) (L:Env) (h:s.n≤s'.m):thenT w (.val v s') d rest cl L s=rest cl (d.put v L) ⟨s'.h,s'.n,yA s.m s'.m⟩:=endT_le _ _ _ _ h
theorem vZ (w:Option (List Nat)) (v:AV) (s s':St) (d:Dst) (rest:zF) (cl:zR) (L:Env):thenT w (.val v s') d rest cl L s=endT w s s' (rest cl (d.put v L) ⟨s'.h,s'.n,yA s.m s'.m⟩):=Eq.trans (Eq.refl _) (Eq.refl _)
def keptV (h h':Heap) (v:AV):Bool:=match jO v with
 | some b=>sameO (h.get b) (h'.get b)
 | none=>true
def YV (h h':Heap) (M:Env):List Nat→Bool
 | []=>true
 | u::r=>keptV h h' (M.find u) && YV h h' M r
theorem vM (h h':Heap) (M:Env):YV h h' M []=true:=Eq.trans (Eq.refl _) (Eq.refl _)
theorem vA (h h':Heap) (M:Env) (u:Nat) (r:List Nat):YV h h' M (u::r)=(keptV h h' (M.find u) && YV h h' M r):=Eq.trans (Eq.refl _) (Eq.refl _)
theorem wC (h h':Heap) (b o:Nat):keptV h h' (.ptr b o)=sameO (h.get b) (h'.get b):=Eq.trans (Eq.refl _) (Eq.refl _)
theorem keptV_slice (h h':Heap) (b o n c:Nat) (e:Bool):keptV h h' (.slice b o n c e)=sameO (h.get b) (h'.get b):=Eq.trans (Eq.refl _) (Eq.refl _)
mutual
theorem eqV_refl:∀ a:AV,eqV a a=true
 | .bad | .nilptr | .nilslice | .nilmap | .nilfunc | .nilif=>rfl
 | .int k n=>by simp [eqV,Jn]
 | .bool a=>by cases a<;>rfl
 | .str a=>by show Yh a a=true;rw [bytesEq_eq];simp
 | .ptr b o=>by simp [eqV]
 | .slice b o l c e=>by cases e<;>simp [eqV]
 | .map b=>by simp [eqV]
 | .func f x y=>by simp [eqV,ZV x,ZV y]
 | .yield b=>by simp [eqV]
 | .agg l=>by simp [eqV,ZV l]
 | .tup l=>by simp [eqV,ZV l]
 | .ge k n=>by simp [eqV,Jn]
 | .tail b o=>by simp [eqV]
 | .gptr b o=>by simp [eqV]
 | .vs b o l=>by simp [eqV]
 | .vp b o l=>by simp [eqV]
theorem ZV:∀ l:List AV,eqVs l l=true
 | []=>rfl
 | a::l=>by simp [eqVs,eqV_refl a,ZV l]
end
theorem yx (c:List AV) (sz:Nat):sameO (some (.cells c sz)) (some (.cells c sz))=true:=by simp [sameO,ZV]
theorem belowAll_kept {M:Env} {m:Nat} {h h':Heap}:∀ {l:List Nat},YV h h' M l=true→gj M m h h' l=true
 | [],_=>rfl
 | u::r,e=>by
  unfold YV at e
  rw [Bool.and_eq_true] at e
  have ih:=belowAll_kept (m:=m) e.2
  have e1:=e.1
  unfold keptV at e1
  unfold gj
  split
  ·rename_i b hb
   rw [hb] at e1
   simp only at e1
   split
   ·exact ih
   ·rw [e1];exact ih
  ·exact ih
theorem wH {l:List Nat} {s s' s2:St} {M:Env} (h:YV s.h s'.h M l=true):endT (some l) s s' (.ok M s2)=.ok M s2:=by
 have e:mayA (some l) M s s'=true:=by
  unfold mayA
  split
  ·rfl
  ·simp only;exact belowAll_kept h
 unfold endT
 simp only [e]
theorem yG (w:Option (List Nat)) (v:AV) (s:St) (d:Dst) (rest:zF) (cl:zR) (L:Env) (h:s.n≤far) (hm:s.m≤far):thenT w (.val v ⟨s.h,s.n,far⟩) d rest cl L s=rest cl (d.put v L) s:=by
 rw [wo _ _ _ _ _ _ _ _ h]
 have:yA s.m far=s.m:=by unfold yA;rw [Nat.ble_eq_true_of_le hm]
 rw [this]
def ifO (v:AV) (w:Bool) (o skip:zF) (cl:zR) (L:Env) (s:St):ORes:=onGuard (fun _=>skip cl L s) (fun b=>Bool.casesOn (motive:=fun _=>ORes) (b == w) (skip cl L s) (o cl L s)) v
theorem oIf_def (t:Nat) (w:Bool) (o skip:zF) (cl:zR) (L:Env) (s:St):oIf t w o skip cl L s=ifO (L.find t) w o skip cl L s:=Eq.trans (Eq.refl _) (Eq.refl _)
theorem ifO_tt (o skip:zF) (cl:zR) (L:Env) (s:St):ifO (.bool true) true o skip cl L s=o cl L s:=Eq.trans (Eq.refl _) (Eq.refl _)
theorem ifO_ff (o skip:zF) (cl:zR) (L:Env) (s:St):ifO (.bool false) false o skip cl L s=o cl L s:=Eq.trans (Eq.refl _) (Eq.refl _)
theorem ifO_tf (o skip:zF) (cl:zR) (L:Env) (s:St):ifO (.bool true) false o skip cl L s=skip cl L s:=Eq.trans (Eq.refl _) (Eq.refl _)
theorem ifO_ft (o skip:zF) (cl:zR) (L:Env) (s:St):ifO (.bool false) true o skip cl L s=skip cl L s:=Eq.trans (Eq.refl _) (Eq.refl _)
theorem ifO_none (w:Bool) (o skip:zF) (cl:zR) (L:Env) (s:St):ifO .undef w o skip cl L s=skip cl L s:=Eq.trans (Eq.refl _) (Eq.refl _)
theorem oSkip_def (d:Dst) (rest:zF) (cl:zR) (L:Env) (s:St):jE d rest cl L s=rest cl (d.put .undef L) s:=Eq.trans (Eq.refl _) (Eq.refl _)
def endO (l:List (Nat × Nat)) (r:ORes):ORes:=ORes.casesOn (motive:=fun _=>ORes) r .fail (fun M s=>match endOk M l with | true=>.ok M s | false=>.fail)
theorem oEnd_def (l:List (Nat × Nat)) (f:zF) (cl:zR) (L:Env) (s:St):yR l f cl L s=endO l (f cl L s):=by
 unfold yR
 generalize f cl L s=r
 cases r<;>rfl
theorem endO_nil (M:Env) (s:St):endO [] (.ok M s)=.ok M s:=Eq.trans (Eq.refl _) (Eq.refl _)
theorem callV_func (cl:zR) (l:List AV) (s:St) (f:FuncId) (a b:List AV):wi cl l s (.func f a b)=cl (.fn f) (a++l++b) s:=Eq.trans (Eq.refl _) (Eq.refl _)
theorem callV_yield (cl:zR) (l:List AV) (s:St) (b:Nat):wi cl l s (.yield b)=cl (.yield b) l s:=Eq.trans (Eq.refl _) (Eq.refl _)
theorem ev_tmp (t:Nat) (L:Env):(Arg.tmp t).ev L=L.find t:=Eq.trans (Eq.refl _) (Eq.refl _)
theorem ev_con (v:AV) (L:Env):(Arg.con v).ev L=v:=Eq.trans (Eq.refl _) (Eq.refl _)
theorem JR (L:Env):evs [] L=[]:=Eq.trans (Eq.refl _) (Eq.refl _)
theorem ga (a:Arg) (r:List Arg) (L:Env):evs (a::r) L=a.ev L::evs r L:=Eq.trans (Eq.refl _) (Eq.refl _)
theorem put_tmp (t:Nat) (v:AV) (L:Env):(Dst.tmp t).put v L=.cons t v L:=Eq.trans (Eq.refl _) (Eq.refl _)
theorem put_none (v:AV) (L:Env):Dst.none.put v L=L:=Eq.trans (Eq.refl _) (Eq.refl _)
theorem zK (t u:Nat) (v:AV) (L:Env):(Env.cons u v L).find t=if u=t then v else L.find t:=by
 by_cases h:u=t
 ·subst h;rw [if_pos rfl];exact yM _ _ _
 ·rw [if_neg h];exact yN _ _ h
theorem set_cons (t u:Nat) (v w:AV) (L:Env):(Env.cons u w L).set t v=if u=t then .cons u v L else .cons u w (L.set t v):=by
 show Bool.rec (motive:=fun _=>Env) (Env.cons u w (L.set t v)) (Env.cons u v L) (Nat.beq u t)=_
 by_cases h:u=t
 ·rw [YQ h,if_pos h]
 ·rw [vf h,if_neg h]
theorem set_nil (t:Nat) (v:AV):Env.nil.set t v=.cons t v .nil:=Eq.trans (Eq.refl _) (Eq.refl _)
theorem keepK_nil (M L:Env):Zx [] M L=L:=Eq.trans (Eq.refl _) (Eq.refl _)
theorem keepK_cons (t:Nat) (r:List Nat) (M L:Env):Zx (t::r) M L=Zx r M (L.set t (M.find t)):=Eq.trans (Eq.refl _) (Eq.refl _)
theorem params_nil (i:Nat) (L:Env):zO i [] L=L:=Eq.trans (Eq.refl _) (Eq.refl _)
theorem params_cons (i:Nat) (a:AV) (l:List AV) (L:Env):zO i (a::l) L=.cons i a (zO (i+1) l L):=Eq.trans (Eq.refl _) (Eq.refl _)
theorem kMove_def (x:Arg) (L:Env) (s:St):zE x L s=.val (x.ev L) s:=Eq.trans (Eq.refl _) (Eq.refl _)
theorem kUn_def (f:St→AV→ARes) (x:Arg) (L:Env) (s:St):kUn f x L s=f s (x.ev L):=Eq.trans (Eq.refl _) (Eq.refl _)
theorem kTwo_def (f:St→AV→AV→ARes) (x y:Arg) (L:Env) (s:St):jJ f x y L s=f s (x.ev L) (y.ev L):=Eq.trans (Eq.refl _) (Eq.refl _)
theorem kPick_def (c a b:Arg) (L:Env) (s:St):yY c a b L s=pickA s (a.ev L) (b.ev L) (c.ev L):=Eq.trans (Eq.refl _) (Eq.refl _)
theorem pickA_true (s:St) (a b:AV):pickA s a b (.bool true)=.val a s:=Eq.trans (Eq.refl _) (Eq.refl _)
theorem pickA_false (s:St) (a b:AV):pickA s a b (.bool false)=.val b s:=Eq.trans (Eq.refl _) (Eq.refl _)
theorem kInt_def (f:St→IntKind→Int→Int→ARes) (x y:Arg) (L:Env) (s:St):zV f x y L s=ints (f s) (x.ev L) (y.ev L):=Eq.trans (Eq.refl _) (Eq.refl _)
theorem ints_i64 (f:IntKind→Int→Int→ARes) (a b:Int):ints f (.int .i64 a) (.int .i64 b)=f .i64 a b:=Eq.trans (Eq.refl _) (Eq.refl _)
theorem ints_u64 (f:IntKind→Int→Int→ARes) (a b:Int):ints f (.int .u64 a) (.int .u64 b)=f .u64 a b:=Eq.trans (Eq.refl _) (Eq.refl _)
theorem kGtr_def (x y:Arg) (L:Env) (s:St):Zz x y L s=onInt (fun k a=>gtrA s k a (y.ev L)) (x.ev L):=Eq.trans (Eq.refl _) (Eq.refl _)
theorem onInt_int (f:IntKind→Int→ARes) (k:IntKind) (a:Int):onInt f (.int k a)=f k a:=Eq.trans (Eq.refl _) (Eq.refl _)
theorem gtrA_i64 (s:St) (a b:Int):gtrA s .i64 a (.int .i64 b)=.val (.bool (decide (b<a))) s:=by
 show ARes.val (.bool (!leI a b)) s=_
 rw [wU]
 by_cases h:b<a
 ·have h':¬ a≤b:=by omega
  simp [h,h']
 ·have h':a≤b:=by omega
  simp [h,h']
theorem aLss_def (s:St) (k:IntKind) (a b:Int):yS s k a b=.val (.bool (decide (a<b))) s:=by
 unfold yS;rw [wU]
 by_cases h:a<b
 ·have h':¬ b≤a:=by omega
  simp [h,h']
 ·have h':b≤a:=by omega
  simp [h,h']
theorem aLeq_def (s:St) (k:IntKind) (a b:Int):aLeq s k a b=.val (.bool (decide (a≤b))) s:=by unfold aLeq;rw [wU]
theorem aGeq_def (s:St) (k:IntKind) (a b:Int):aGeq s k a b=.val (.bool (decide (b≤a))) s:=by unfold aGeq;rw [wU]
theorem aEql_def (s:St) (k:IntKind) (a b:Int):YF s k a b=.val (.bool (decide (a=b))) s:=by
 unfold YF;rw [Jn];rfl
theorem aNeq_def (s:St) (k:IntKind) (a b:Int):wk s k a b=.val (.bool (!decide (a=b))) s:=by
 unfold wk;rw [Jn];rfl
theorem wrap_in (n:Int) (h : -9223372036854775808≤n∧n≤9223372036854775807):gQ .i64 n=n:=by rw [gO];exact IntWalk.i64_in n h
theorem za (s:St) (a b:Int) (h : -9223372036854775808≤a+b∧a+b≤9223372036854775807):jI s .i64 a b=.val (.int .i64 (a+b)) s:=by
 show ARes.val (.int .i64 (gQ .i64 (a+b))) s=_
 rw [wrap_in _ h]
theorem je (s:St) (a b:Int) (h : -9223372036854775808≤a - b∧a - b≤9223372036854775807):yK s .i64 a b=.val (.int .i64 (a - b)) s:=by
 show ARes.val (.int .i64 (gQ .i64 (a - b))) s=_
 rw [wrap_in _ h]
theorem lenSl_slice (s:St) (b o n c:Nat) (e:Bool):zq s (.slice b o n c e)=.val (.int .i64 n) s:=Eq.trans (Eq.refl _) (Eq.refl _)
theorem lenSl_nil (s:St):zq s .nilslice=.val (.int .i64 0) s:=Eq.trans (Eq.refl _) (Eq.refl _)
theorem notA_def (s:St) (b:Bool):Zq s (.bool b)=.val (.bool !b) s:=Eq.trans (Eq.refl _) (Eq.refl _)
theorem nilA_ptr (s:St) (b o:Nat):Zs s (.ptr b o)=.val (.ptr b o) s:=Eq.trans (Eq.refl _) (Eq.refl _)
theorem fadA_ptr (off:Nat) (s:St) (b o:Nat):zS off s (.ptr b o)=.val (.ptr b (o+off)) s:=Eq.trans (Eq.refl _) (Eq.refl _)
theorem jq (size:Nat) (s:St) (b o n c:Nat) (e:Bool) (i:Nat) (h:i<n):jX size s (.slice b o n c e) (.int .i64 i)=.val (.ptr b (o+i * size)) s:=by
 show Zk s b o n size i=_
 unfold Zk
 rw [Nat.ble_eq_true_of_le (show Nat.succ i≤n from h)]
 rfl
theorem kLoad_def (sh:Option Nat) (x:Arg) (L:Env) (s:St):zI sh x L s=okA (Jw sh s (x.ev L)):=Eq.trans (Eq.refl _) (Eq.refl _)
def loadO (sh:Option Nat) (s:St) (o:Nat):Option AObj→ARes
 | some (.cells c _)=>.val (yW sh c o) s
 | some (.fam c _ k _)=>.val (yW sh (c.take k) o) s
 | _=>.fail
theorem vt (sh:Option Nat) (s:St) (b o:Nat):Jw sh s (.ptr b o)=loadO sh s o (s.h.get b):=by
 show gL s b (fun c _=>.val (yW sh c o) s)=_
 unfold gL loadO
 generalize s.h.get b=r
 cases r with
 | none=>rfl
 | some x=>cases x<;>rfl
theorem vg (sh:Option Nat) (s:St) (o:Nat) (c:List AV) (sz:Nat):loadO sh s o (some (.cells c sz))=.val (yW sh c o) s:=Eq.trans (Eq.refl _) (Eq.refl _)
theorem partS_one (c:List AV) (o:Nat):yW none c o=nth c o:=Eq.trans (Eq.refl _) (Eq.refl _)
theorem wT (a:AV) (l:List AV) (n:Nat):nth (a::l) n=if n=0 then a else nth l (n - 1):=by
 cases n with
 | zero=>rfl
 | succ n=>rfl
def aggO:Option (List AV)→AV
 | some l=>.agg l
 | none=>.bad
theorem ve (k:Nat) (c:List AV) (o:Nat):yW (some k) c o=aggO (cut o k c):=by
 show (match cut o k c with | some l=>AV.agg l | none=>.bad)=aggO (cut o k c)
 generalize cut o k c=r
 cases r<;>rfl
theorem aggO_some (l:List AV):aggO (some l)=.agg l:=Eq.trans (Eq.refl _) (Eq.refl _)
def consO (a:AV):Option (List AV)→Option (List AV)
 | some l=>some (a::l)
 | none=>none
theorem consO_some (a:AV) (l:List AV):consO a (some l)=some (a::l):=Eq.trans (Eq.refl _) (Eq.refl _)
theorem ZW (l:List AV):YD 0 l=some []:=by cases l<;>rfl
theorem vn (k:Nat) (a:AV) (l:List AV):YD (k+1) (a::l)=consO a (YD k l):=by
 show (match YD k l with | some r=>some (a::r) | none=>none)=_
 cases YD k l<;>rfl
theorem JB (o k:Nat) (a:AV) (l:List AV):cut o k (a::l)=if o=0 then YD k (a::l) else cut (o - 1) k l:=by
 cases o with
 | zero=>rfl
 | succ o=>rfl
theorem over_zero (l c:List AV) (h:l.length=c.length):over 0 l c=some l:=by
 have h1:∀ (l c:List AV),l.length=c.length→wQ l c=some l:=by
  intro l
  induction l with
  | nil=>intro c h;cases c with
   | nil=>rfl
   | cons _ _=>simp at h
  | cons a l ih=>intro c h;cases c with
   | nil=>simp at h
   | cons b c =>
    show (match wQ l c with | some r=>some (a::r) | none=>none)=_
    rw [ih c (by simpa using h)]
 cases c with
 | nil=>exact h1 l [] h
 | cons b c=>exact h1 l (b::c) h
theorem kStore_def (k:Nat) (a x:Arg) (L:Env) (s:St):jD k a x L s=jN k s (x.ev L) (a.ev L):=Eq.trans (Eq.refl _) (Eq.refl _)
theorem jk (s:St) (k b:Nat) (l:List AV) (c:List AV) (sz:Nat) (h:s.h.get b=some (.cells c sz)) (hk:l.length=k) (hc:c.length=k) (hs:scalars l=true):jN k s (.agg l) (.ptr b 0)=.val .undef (s.put b (.cells l sz)):=by
 subst hk
 have h0:jN l.length s (.agg l) (.ptr b 0)=(match s.h.get b with
  | some (.cells c sz)=>match cellsOf l.length (.agg l) with
   | none=>.fail
   | some vs=>match scalars vs with
    | false=>.fail
    | true=>match over 0 vs c with
     | some c=>.val .undef (s.put b (.cells c sz))
     | none=>.fail
  | _=>.fail):=rfl
 rw [h0,h]
 have h1:cellsOf l.length (.agg l)=some l:=by unfold cellsOf;simp only [Nat.beq_refl]
 simp only [h1,hs,over_zero l c hc.symm]
def storeO (s:St) (b sz:Nat):Option (List AV)→ARes
 | some c=>.val .undef (s.put b (.cells c sz))
 | none=>.fail
def storeV (k:Nat) (s:St) (v:AV) (b o:Nat):Option AObj→ARes
 | some (.cells c sz)=>match cellsOf k v with
  | none=>.fail
  | some vs=>match scalars vs with
   | false=>.fail
   | true=>storeO s b sz (over o vs c)
 | _=>.fail
theorem store_ptr (k:Nat) (s:St) (v:AV) (b o:Nat):jN k s v (.ptr b o)=storeV k s v b o (s.h.get b):=by
 have h0:jN k s v (.ptr b o)=(match s.h.get b with
  | some (.cells c sz)=>match cellsOf k v with
   | none=>.fail
   | some vs=>match scalars vs with
    | false=>.fail
    | true=>match over o vs c with
     | some c=>.val .undef (s.put b (.cells c sz))
     | none=>.fail
  | _=>.fail):=rfl
 rw [h0]
 unfold storeV
 generalize s.h.get b=r
 cases r with
 | none=>rfl
 | some x =>
  cases x<;>rfl
def storeC (s:St) (b o sz:Nat) (c:List AV):Option (List AV)→ARes
 | some vs=>Bool.casesOn (motive:=fun _=>ARes) (scalars vs) .fail (storeO s b sz (over o vs c))
 | none=>.fail
theorem YI (k:Nat) (s:St) (v:AV) (b o:Nat) (c:List AV) (sz:Nat):storeV k s v b o (some (.cells c sz))=storeC s b o sz c (cellsOf k v):=by
 unfold storeV storeC
 generalize cellsOf k v=r
 cases r with
 | none=>rfl
 | some vs=>simp only;cases scalars vs<;>rfl
def storeB (t:Bool) (s:St) (b o sz:Nat) (c vs:List AV):ARes:=Bool.casesOn (motive:=fun _=>ARes) t .fail (storeO s b sz (over o vs c))
theorem storeC_some (s:St) (b o sz:Nat) (c vs:List AV):storeC s b o sz c (some vs)=storeB (scalars vs) s b o sz c vs:=Eq.trans (Eq.refl _) (Eq.refl _)
theorem storeB_true (s:St) (b o sz:Nat) (c vs:List AV):storeB true s b o sz c vs=storeO s b sz (over o vs c):=Eq.trans (Eq.refl _) (Eq.refl _)
theorem scal_nil:scalars []=true:=Eq.trans (Eq.refl _) (Eq.refl _)
theorem scal_int (k:IntKind) (n:Int) (r:List AV):scalars (.int k n::r)=scalars r:=Eq.trans (Eq.refl _) (Eq.refl _)
theorem scal_bool (n:Bool) (r:List AV):scalars (.bool n::r)=scalars r:=Eq.trans (Eq.refl _) (Eq.refl _)
theorem scal_ptr (b o:Nat) (r:List AV):scalars (.ptr b o::r)=scalars r:=Eq.trans (Eq.refl _) (Eq.refl _)
theorem scal_slice (b o n c:Nat) (e:Bool) (r:List AV):scalars (.slice b o n c e::r)=scalars r:=Eq.trans (Eq.refl _) (Eq.refl _)
theorem scal_nils (r:List AV):scalars (.nilslice::r)=scalars r:=Eq.trans (Eq.refl _) (Eq.refl _)
theorem scal_func (f:FuncId) (x y:List AV) (r:List AV):scalars (.func f x y::r)=scalars r:=Eq.trans (Eq.refl _) (Eq.refl _)
theorem cellsOf_agg (k:Nat) (l:List AV):cellsOf k (.agg l)=if l.length=k then some l else none:=by
 show (match Nat.beq l.length k with | true=>some l | false=>none)=_
 by_cases h:l.length=k
 ·rw [YQ h,if_pos h]
 ·rw [vf h,if_neg h]
theorem storeO_some (s:St) (b sz:Nat) (c:List AV):storeO s b sz (some c)=.val .undef (s.put b (.cells c sz)):=Eq.trans (Eq.refl _) (Eq.refl _)
theorem kAlloc_def (z:List AV) (sz:Nat) (L:Env) (s:St):jR z sz L s=.val (.ptr s.n 0) (s.new (.cells z sz)):=Eq.trans (Eq.refl _) (Eq.refl _)
theorem kBox_def (sz:Nat) (x:Arg) (L:Env) (s:St):yF sz x L s=boxA sz s (x.ev L):=Eq.trans (Eq.refl _) (Eq.refl _)
theorem boxA_agg (sz:Nat) (s:St) (l:List AV):boxA sz s (.agg l)=.val (.ptr s.n 0) (s.new (.cells l sz)):=Eq.trans (Eq.refl _) (Eq.refl _)
theorem boxA_slice (sz:Nat) (s:St) (b o n c:Nat) (e:Bool):boxA sz s (.slice b o n c e)=.val (.ptr s.n 0) (s.new (.cells [.slice b o n c e] sz)):=Eq.trans (Eq.refl _) (Eq.refl _)
def sliceO (n:Nat) (s:St):Option (List AV)→ARes
 | some c=>.val (.slice s.n 0 n n false) (s.new (.cells c 0))
 | none=>.fail
theorem kBuildSlice_def (z:List AV) (n:Nat) (ps:List (Nat × Nat × Arg)) (L:Env) (s:St):zz z n ps L s=sliceO n s (gZ ps L z):=by
 unfold zz sliceO
 generalize gZ ps L z=r
 cases r<;>rfl
theorem sliceO_some (n:Nat) (s:St) (c:List AV):sliceO n s (some c)=.val (.slice s.n 0 n n false) (s.new (.cells c 0)):=Eq.trans (Eq.refl _) (Eq.refl _)
def aggR (s:St):Option (List AV)→ARes
 | some c=>.val (.agg c) s
 | none=>.fail
theorem kBuild_def (z:List AV) (ps:List (Nat × Nat × Arg)) (L:Env) (s:St):ye z ps L s=aggR s (gZ ps L z):=by
 unfold ye aggR
 generalize gZ ps L z=r
 cases r<;>rfl
theorem aggR_some (s:St) (c:List AV):aggR s (some c)=.val (.agg c) s:=Eq.trans (Eq.refl _) (Eq.refl _)
def fillD (r:List (Nat × Nat × Arg)) (L:Env):Option (List AV)→Option (List AV)
 | some c=>gZ r L c
 | none=>none
theorem fillD_some (r:List (Nat × Nat × Arg)) (L:Env) (c:List AV):fillD r L (some c)=gZ r L c:=Eq.trans (Eq.refl _) (Eq.refl _)
def fillC (r:List (Nat × Nat × Arg)) (L:Env) (c:List AV) (o:Nat):Option (List AV)→Option (List AV)
 | some vs=>fillD r L (over o vs c)
 | none=>none
theorem fillC_some (r:List (Nat × Nat × Arg)) (L:Env) (c:List AV) (o:Nat) (vs:List AV):fillC r L c o (some vs)=fillD r L (over o vs c):=Eq.trans (Eq.refl _) (Eq.refl _)
theorem fillA_nil (L:Env) (c:List AV):gZ [] L c=some c:=Eq.trans (Eq.refl _) (Eq.refl _)
theorem fillA_cons (o k:Nat) (x:Arg) (r:List (Nat × Nat × Arg)) (L:Env) (c:List AV):gZ ((o,k,x)::r) L c=fillC r L c o (cellsOf k (x.ev L)):=by
 conv=>lhs;unfold gZ
 unfold fillC fillD
 generalize cellsOf k (x.ev L)=q
 cases q with
 | none=>rfl
 | some vs =>
  generalize over o vs c=w
  cases w<;>rfl
theorem cellsOf_int (k:IntKind) (n:Int):cellsOf 1 (.int k n)=some [.int k n]:=Eq.trans (Eq.refl _) (Eq.refl _)
theorem cellsOf_slice (b o n c:Nat) (e:Bool):cellsOf 1 (.slice b o n c e)=some [.slice b o n c e]:=Eq.trans (Eq.refl _) (Eq.refl _)
theorem cellsOf_nils:cellsOf 1 .nilslice=some [.nilslice]:=Eq.trans (Eq.refl _) (Eq.refl _)
theorem Jq (o:Nat) (vs:List AV) (a:AV) (c:List AV):over o vs (a::c)=if o=0 then wQ vs (a::c) else consO a (over (o - 1) vs c):=by
 cases o with
 | zero=>rfl
 | succ o =>
  show (match over o vs c with | some r=>some (a::r) | none=>none)=_
  rw [if_neg (by omega)]
  show _=consO a (over o vs c)
  generalize over o vs c=r
  cases r<;>rfl
theorem over1_nil (c:List AV):wQ [] c=some c:=by cases c<;>rfl
theorem YO (v a:AV) (vs c:List AV):wQ (v::vs) (a::c)=consO v (wQ vs c):=by
 show (match wQ vs c with | some r=>some (v::r) | none=>none)=_
 generalize wQ vs c=r
 cases r<;>rfl
theorem kLoop_def (b:K) (cl:zR) (c:Ctx) (L:Env) (d:List Nat) (s:St):ju b cl c L d s=jL b rounds cl c L d s:=Eq.trans (Eq.refl _) (Eq.refl _)
theorem okA_int (k:IntKind) (n:Int) (s:St):okA (.val (.int k n) s)=.val (.int k n) s:=Eq.trans (Eq.refl _) (Eq.refl _)
theorem okA_bool (b:Bool) (s:St):okA (.val (.bool b) s)=.val (.bool b) s:=Eq.trans (Eq.refl _) (Eq.refl _)
theorem okA_ptr (b o:Nat) (s:St):okA (.val (.ptr b o) s)=.val (.ptr b o) s:=Eq.trans (Eq.refl _) (Eq.refl _)
theorem okA_slice (b o n c:Nat) (e:Bool) (s:St):okA (.val (.slice b o n c e) s)=.val (.slice b o n c e) s:=Eq.trans (Eq.refl _) (Eq.refl _)
theorem okA_nils (s:St):okA (.val .nilslice s)=.val .nilslice s:=Eq.trans (Eq.refl _) (Eq.refl _)
theorem okA_agg (l:List AV) (s:St):okA (.val (.agg l) s)=.val (.agg l) s:=Eq.trans (Eq.refl _) (Eq.refl _)
theorem zM (s:St) (o:AObj) (b:Nat) (h:b=s.n) (hb:s.n<549755813888):(s.new o).h.get b=some o:=by subst h;rw [St.new_h];exact vV _ _ _ hb
theorem zH (s:St) (o:AObj) (b:Nat) (h:b≠s.n):(s.new o).h.get b=s.h.get b:=by rw [St.new_h];exact jH _ _ _ _ h
theorem zN (s:St) (o:AObj) (b c:Nat) (h:b=c) (hb:b<549755813888):(s.put c o).h.get b=some o:=by subst h;rw [St.put_h];exact vV _ _ _ hb
theorem zL (s:St) (o:AObj) (b c:Nat) (h:b≠c):(s.put c o).h.get b=s.h.get b:=gC h
theorem zW (s:St) (o:AObj):(s.new o).n=s.n+1:=Eq.trans (Eq.refl _) (Eq.refl _)
theorem jF (s:St) (o:AObj):(s.new o).m=s.m:=Eq.trans (Eq.refl _) (Eq.refl _)
theorem jB (s:St) (b:Nat) (o:AObj):(s.put b o).n=s.n:=Eq.trans (Eq.refl _) (Eq.refl _)
def jr (P:Program) (fn:Func) (r:R):ARes:=R.casesOn (motive:=fun _=>ARes) r .fail (fun e L d s=>Ex.casesOn (motive:=fun _=>ARes) e (yL P fn.results.toList L d s) (fun _=>.fail) (yL P fn.results.toList L d s))
theorem finA_ret (fn:Func) (L:Env) (d:List Nat) (s:St):jr P fn (.done .ret L d s)=yL P fn.results.toList L d s:=Eq.trans (Eq.refl _) (Eq.refl _)
theorem finA_norm (fn:Func) (L:Env) (d:List Nat) (s:St):jr P fn (.done .norm L d s)=yL P fn.results.toList L d s:=Eq.trans (Eq.refl _) (Eq.refl _)
theorem zT {X:FuncId→List Nat} {cl:zR} {f:FuncId} {args:List AV} {s:St} {fn:Func} {b:Code} {k:K} (hb:fn.body=some b) (hn:(fn.name == "runtime.NumGoroutine")=false)
  (h1:Nat.ble args.length fn.ntmps=true) (h2:Nat.ble args.length (lead (X f) 100 0)=true) (hk:jh P (X f) fn.ntmps b=some k) :
  zZ P X cl f args s fn=jr P fn (k cl ⟨f,none,fn.ntmps,X f⟩ (zO 0 args .nil) [] s):=by
 unfold zZ
 rw [hb]
 simp only [hn,Bool.false_eq_true,if_false,h1,h2,hk]
 generalize k cl ⟨f,none,fn.ntmps,X f⟩ (zO 0 args .nil) [] s=r
 cases r with
 | fail=>rfl
 | done e L d s=>cases e<;>rfl
theorem leave_tmp (t:Nat) (L:Env) (s:St):yL P [.tmp t] L [] s=.val (L.find t) s:=Eq.trans (Eq.refl _) (Eq.refl _)
theorem leave_cell (a:Nat) (t:TypeId) (L:Env) (s:St) {sh:Option Nat} (hs:yJ P t=some sh) {v:AV} (h:okA (Jw sh s (L.find a))=.val v s):yL P [.cell a t] L [] s=.val v s:=by
 unfold yL
 simp only [gK,wO,hs,h]
 rfl
theorem gI {X:FuncId→List Nat} {n:Nat} {f:FuncId} {args:List AV} {s s':St} {fn:Func} {v:AV} (hf:P.funcs[f]? = some fn) (h:zZ P X (call P X n) f args ⟨s.h,s.n,far⟩ fn=.val v s')
  (hp:plain v=true) (hm:s.n≤s'.m):call P X (n+1) (.fn f) args s=.val v s:=by
 show jQ P X (call P X n) (.fn f) args s=_
 unfold jQ
 simp only [hf,h]
 unfold settle
 simp only [Nat.ble_eq_true_of_le hm,hp]
 rfl
theorem zj {X:FuncId→List Nat} {n:Nat} {f:FuncId} {args:List AV} {s:St} {fn:Func} {v:AV} (hf:P.funcs[f]? = some fn)
  (h:∀ u:St,u.h=s.h→u.n=s.n→u.m=far→∃ s',zZ P X (call P X n) f args u fn=.val v s'∧u.n≤s'.m) (hp:plain v=true):call P X (n+1) (.fn f) args s=.val v s:=by
 obtain ⟨s',h1,h2⟩:=h ⟨s.h,s.n,far⟩ rfl rfl rfl
 exact gI hf h1 hp h2
structure Beside (u s:St) (k:Nat):Prop where
 same:∀ b,b<u.n→s.h.get b=u.h.get b
 n:u.n≤s.n
 le:s.n≤u.n+k
 m:u.n≤s.m
 far:s.m≤far
theorem Beside.refl (u:St) (h:u.n≤Abs.far) (hm:u.m=Abs.far):Beside u u 0:=⟨fun _ _=>rfl,Nat.le_refl _,Nat.le_refl _,by rw [hm];exact h,by rw [hm];exact Nat.le_refl _⟩
theorem Beside.new {u s:St} {k:Nat} (h:Beside u s k) (o:AObj):Beside u (s.new o) (k+1) :=
 ⟨fun b hb=>by rw [zH _ _ _ (by have:=h.n;omega)];exact h.same b hb,Nat.le_trans h.n (Nat.le_succ _),by have:=h.le;show s.n+1≤_;omega,h.m,h.far⟩
theorem Beside.put {u s:St} {k b:Nat} (h:Beside u s k) (o:AObj) (hb:u.n≤b):Beside u (s.put b o) k :=
 ⟨fun c hc=>by rw [zL _ _ _ _ (by omega)];exact h.same c hc,h.n,h.le,by
  show u.n≤yA s.m b
  unfold yA
  have:=h.m
  cases Nat.ble s.m b<;>assumption,Nat.le_trans (jW _ _) h.far⟩
theorem Beside.mono {u s:St} {k j:Nat} (h:Beside u s k) (hj:k≤j):Beside u s j:=⟨h.same,h.n,Nat.le_trans h.le (by omega),h.m,h.far⟩
theorem jU {s:St} {b k:Nat} {o:AObj} (h:s.m≤k):(s.put b o).m≤k:=Nat.le_trans (jW _ _) h
structure RowsAt (h:Heap) (n w:Nat) (rows:List (List AV)) (v:AV):Prop where
 len:∀ s,zq s v=.val (.int .i64 rows.length) s
 at_:∀ i (hi:i<rows.length),∃ b p c sz,b<n∧(∀ s,jX w s v (.int .i64 i)=.val (.ptr b p) s)∧h.get b=some (.cells c sz)∧cut p w c=some rows[i]
theorem RowsAt.grow {h h':Heap} {n n' w:Nat} {rows:List (List AV)} {v:AV} (r:RowsAt h n w rows v) (hh:∀ b,b<n→h'.get b=h.get b) (hn:n≤n'):RowsAt h' n' w rows v :=
 ⟨r.len,fun i hi=>by
  obtain ⟨b,p,c,sz,h1,h2,h3,h4⟩:=r.at_ i hi
  exact ⟨b,p,c,sz,by omega,h2,by rw [hh b h1];exact h3,h4⟩⟩
theorem RowsAt.ne {h:Heap} {n w:Nat} {rows:List (List AV)} {v:AV} (r:RowsAt h n w rows v):v≠.bad:=fun e=>by
 subst e
 have:=r.len Zr
 cases this
def JK:Code→List (Code × Code)
 | .seq a b=>JK a++JK b
 | .cond _ a b=>JK a++JK b
 | .block _ b=>JK b
 | .loop b=>JK b
 | .scope b=>JK b
 | .rangeFunc _ _ a b=>[(a,b)]
 | _=>[]
def nthR:List (Code × Code)→Nat→Code × Code
 | [],_=>(.skip,.skip)
 | a::_,0=>a
 | _::l,n+1=>nthR l n
def yV (f:Func) (i:Nat):Code × Code:=nthR (JK (f.body.getD .skip)) i
end Go.Abs
end
