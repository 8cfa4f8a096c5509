/- Maps. -/
import Derived.Test.YtoklbkgcclkejaaAbsText
noncomputable section
namespace Go.Abs
variable {P:Program}
theorem sound_look {t key elem:TypeId} (hu:P.underlying t=some (.map key elem)) {c:Cmp} (hc:keyK P key=some c) {z:AV} (hz:zeroV P elem=some z) {ok:Bool} {x y:Operand} {a b:Arg}
  (ha:jM x=some a) (hb:jM y=some b):Sound P (.lookup t x y ok) (kLook c z ok a b):=by
 intro o ho ρ L T s W v s' hL hs h
 have h:ARes.fail=.val v s':=h
 cases h
theorem EntRels.key {ρ:Rho}:∀ {l L},EntRels ρ l L→∀ {i:Nat} {x:MapEntry},L[i]? = some x→VRel ρ (keyAt l i) x.key
 | _,_,.nil,i,x,h=>by simp at h
 | _,_,.cons a _ _,0,x,h=>by simp at h;subst h;exact a
 | _,_,.cons _ _ c,i+1,x,h=>by simpa [keyAt] using EntRels.key c (by simpa using h)
theorem EntRels.append {ρ:Rho}:∀ {l L m M},EntRels ρ l L→EntRels ρ m M→EntRels ρ (l++m) (L++M)
 | _,_,_,_,.nil,h=>h
 | _,_,_,_,.cons a b c,h=>.cons a b (EntRels.append c h)
theorem sound_update {op:Op} {t key elem:TypeId} {x y w:Operand} (hop:op=.mapUpdate t x y w∨op=.insert t x y w) (hu:P.underlying t=some (.map key elem)) {c:Cmp} (hc:keyK P key=some c) {a b d:Arg}
  (ha:jM x=some a) (hb:jM y=some b) (hd:jM w=some d):Sound P op (kUpd c a b d):=by
 intro o ho ρ L T s W v s' hL hs h
 unfold kUpd at h
 split at h<;>cases h
theorem sound_delete {t key elem:TypeId} (hu:P.underlying t=some (.map key elem)) {c:Cmp} (hc:keyK P key=some c) {args:Array Operand} {ts:Array TypeId} (ht:ts[0]? = some t) {a b:Arg} (ha:jz args.toList=some [a,b]) :
  Sound P (JD .delete args ts) (kDel c a b):=by
 intro o ho ρ L T s W v s' hL hs h
 have h:ARes.fail=.val v s':=h
 cases h
end Go.Abs
end
