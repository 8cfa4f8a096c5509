/- The equations of the walks, bundled. -/
import Derived.Test.YtoklbkgcclkejaaAbsWalk
set_option maxRecDepth 100000
set_option linter.defProp false
namespace Go.Abs
def walk0:=And.intro @wU (And.intro @vN (And.intro @JJA (And.intro @vvA (And.intro @VQ (And.intro @YsA (And.intro @VPA (And.intro @ZUJ (And.intro @vSJ (And.intro @jKJ (And.intro @yvJ (And.intro @YWA (And.intro @jRJ (And.intro @YXA (And.intro @ZTJ @zhJ))))))))))))))
def walk1:=And.intro @ZPJ (And.intro @wcA (And.intro @wbA (And.intro @ZBJ (And.intro @jbA (And.intro @yhJ (And.intro @WjJ (And.intro @vUQ (And.intro @vXQ (And.intro @vVQ (And.intro @vWQ (And.intro @YcJ (And.intro @ZAJ (And.intro @YBJ (And.intro @VCJ @zQA))))))))))))))
def walk2:=And.intro @jOJ (And.intro @yJA (And.intro @vcQ (And.intro @JT (And.intro @gg (And.intro @YuA (And.intro @wTA (And.intro @zK (And.intro @WkA (And.intro @vuJ (And.intro @yBA (And.intro @wrA (And.intro @wXA (And.intro @yuA (And.intro @JrA @wRJ))))))))))))))
def walk3:=And.intro @YSJ (And.intro @ZQJ (And.intro @yVJ (And.intro @zCJ (And.intro @YVJ (And.intro @YbJ (And.intro @wwA (And.intro @YWJ (And.intro @gyJ (And.intro @YfJ (And.intro @VjJ (And.intro @VkJ (And.intro @VnJ (And.intro @VoJ (And.intro @ViJ @zYJ))))))))))))))
def walk4:=And.intro @ZLJ (And.intro @YEJ (And.intro @zMJ (And.intro @zvJ (And.intro @JsA (And.intro @gsJ (And.intro @WhJ (And.intro @YAJ (And.intro @wKJ (And.intro @gzJ (And.intro @JzJ (And.intro @WiJ (And.intro @gFA (And.intro @yHA (And.intro @ZMJ @zHA))))))))))))))
def walk5:=And.intro @ywJ (And.intro @YYJ (And.intro @VUJ (And.intro @vcJ (And.intro @Yr (And.intro @yiA (And.intro @yuJ (And.intro @ZnJ (And.intro @gGA (And.intro @gHA (And.intro @YFA (And.intro @gIA (And.intro @jNJ (And.intro @ZyA (And.intro @ViA @vQA))))))))))))))
def walk6:=And.intro @Js (And.intro @Vz (And.intro @YQ (And.intro @gWA (And.intro @wR (And.intro @ve (And.intro @ZoJ (And.intro @ZX (And.intro @vq (And.intro @JE (And.intro @vt (And.intro @vg (And.intro @zM (And.intro @zH (And.intro @zN @zL))))))))))))))
def walk7:=And.intro @Vw (And.intro @YK (And.intro @Yx (And.intro @WXA (And.intro @WdJ (And.intro @yG (And.intro @Yy (And.intro @JCJ (And.intro @JDJ (And.intro @JNA (And.intro @JBJ (And.intro @yFJ (And.intro @geJ @gfJ))))))))))))
def walk8:=And.intro @ZSJ (And.intro @decide_true (And.intro @decide_false (And.intro @efs (And.intro @List.nil_append.{0} (And.intro @List.append_nil.{0} (And.intro @List.cons_append.{0} (And.intro @Bool.not_true (And.intro @Bool.not_false (And.intro @List.length_cons.{0} @List.length_nil.{0})))))))))
def W:=And.intro walk0 (And.intro walk1 (And.intro walk2 (And.intro walk3 (And.intro walk4 (And.intro walk5 (And.intro walk6 (And.intro walk7 walk8)))))))
theorem eq3 {f g:zR → Env → St → ORes} (h:f=g) (cl:zR) (L:Env) (s:St):f cl L s=g cl L s:=by rw [h]
theorem hfar:far=1000000000:=rfl
end Go.Abs
