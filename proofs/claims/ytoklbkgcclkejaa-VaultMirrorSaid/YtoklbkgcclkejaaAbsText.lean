/- Operations that texts are made with: conversions that look into memory, unsafe.SliceData and unsafe.String. -/
import Derived.Test.YtoklbkgcclkejaaAbsSound7
import Derived.Lib.Builder
import Derived.Lib.UnsafeStr
import Derived.Laws.BytesString
set_option linter.unusedVariables false
noncomputable section
namespace Go.Abs
variable {P:Program}
theorem After.gone {ρ:Rho} {s:St} {W W':World} {b c:Nat} {e:Ext} {x:AObj} (h:SRel ρ s W) (hb:s.h.get b=some x) (hr:ρ b=some (c,e))
  (hsz:W'.heap.size=W.heap.size) (hot:∀ i,i≠c→W'.heap[i]? = W.heap[i]?) (hos:W'.os=W.os) (htape:W'.tape=W.tape) (hout:W'.output=W.output) :
  After ρ s W ρ (s.kill b) W':=by
 have d:∀ i y,(s.kill b).h.get i=some y→i≠b∧s.h.get i=some y:=by
  intro i y hy
  have hbig:=h.heap.low b x hb
  rw [St.kill_h] at hy
  rcases jj hy with ⟨_,_,hy⟩ | ⟨hy,h1 | h1⟩
  ·cases hy
  ·exact ⟨h1,hy⟩
  ·exact absurd hbig h1
 have a:=After.kill b h
 refine ⟨h,⟨⟨a.rel.heap.low,?_,a.rel.heap.inj,fun g cs hg=>(h.heap.tab g cs hg).of (hot g (h.heap.ne hb hr hg)),a.rel.heap.off,a.rel.heap.zed⟩,h.fresh⟩,a.le,a.n,a.m,a.same,hos,htape,hout,by rw [hsz];exact Nat.le_refl _,?_,a.from_,fun _ _=>rfl⟩
 ·rintro i p y ⟨u,hu,hm⟩
  obtain ⟨hne,hu'⟩:=d i u hu
  have hy':Has s.h i p y:=⟨u,hu',hm⟩
  obtain ⟨c1,e1,O,h1,h2,h3⟩:=h.heap.obj i p y hy'
  refine ⟨c1,e1,O,h1,?_,h3⟩
  rw [hot c1 ?_]
  ·exact h2
  ·intro z
   subst z
   exact hne (h.heap.inj _ _ _ _ _ _ _ _ _ hy' (.base hb) h1 hr)
 ·intro i hi hq
  refine hot i (fun z=>?_)
  subst z
  have h1:b<yA s.m b:=hq b b _ e (.base hb) hr
  have:=jY s.m b
  omega
theorem jyJ {x:Operand} {a:Arg} {src dst t:TypeId} {k:Nat} (h1:P.underlying src=some (.pointer t)) (h2:P.underlying dst=some .unsafePointer) (h3:jv P t=some (k+1)) (ha:jL x=some a) :
  Sound P (.convert src dst x) (kUn juQ a):=by
 intro o ho ρ L T s W v s' hL hs h
 have h:ARes.fail=.val v s':=h
 cases h
theorem YmA {x:Operand} {a:Arg} {src dst u:TypeId} {k:Nat} (h1:P.underlying src=some .unsafePointer) (h2:P.underlying dst=some (.pointer u)) (h3:jv P u=some k)
  (h4:liesAt P P.depth u (k / P.cellsOf u) 0 u 1=true) (ha:jL x=some a):Sound P (.convert src dst x) (kUn (waJ k (tag u)) a):=by
 intro o ho ρ L T s W v s' hL hs h
 have h:ARes.fail=.val v s':=h
 cases h
theorem ZiA {x:Operand} {a:Arg} {src dst e0:TypeId} (h1:P.underlying src=some (.slice e0)) (h2:P.underlying dst=some .string) (h3:P.underlying e0=some (.int .u8)) (ha:jL x=some a) :
  Sound P (.convert src dst x) (kUn jGJ a):=by
 intro o ho ρ L T s W v s' hL hs h
 have h:ARes.fail=.val v s':=h
 cases h
theorem WeA {x:Operand} {a:Arg} {src dst:TypeId} {f:OpF} (ha:jL x=some a) (h:gVA P src dst a=some f):Sound P (.convert src dst x) f:=by
 unfold gVA at h
 split at h
 ·rename_i h1 h2
  split at h
  ·rename_i h3;cases h;exact jyJ h1 h2 h3 ha
  ·cases h
 ·rename_i h1 h2
  split at h
  ·rename_i h3
   split at h
   ·rename_i h4;cases h;exact YmA h1 h2 h3 h4 ha
   ·cases h
  ·cases h
 ·rename_i h1 h2
  split at h
  ·rename_i h3;cases h;exact ZiA h1 h2 h3 ha
  ·cases h
 ·cases h
theorem vTA {args:Array Operand} {ts:Array TypeId} {a:Arg} (ha:jz args.toList=some [a]):Sound P (JF .unsafeSliceData args ts) (kUn Wo a):=by
 intro o ho ρ L T s W v s' hL hs h
 have h:ARes.fail=.val v s':=h
 cases h
theorem vSA {pt it u:TypeId} (hp:P.underlying pt=some (.pointer u)) (hc:P.cellsOf u=1) {args:Array Operand} {ts:Array TypeId} (ht:ts.toList=[pt,it]) {a b:Arg} (ha:jz args.toList=some [a,b]) :
  Sound P (JF .unsafeString args ts) (jJ (Zc (1+tag u)) a b):=by
 intro o ho ρ L T s W v s' hL hs h
 have h:ARes.fail=.val v s':=h
 cases h
end Go.Abs
end
