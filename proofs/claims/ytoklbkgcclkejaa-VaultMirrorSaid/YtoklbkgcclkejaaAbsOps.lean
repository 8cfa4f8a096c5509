/- All operations that are no calls of functions. -/
import Derived.Test.YtoklbkgcclkejaaAbsMaps
noncomputable section
namespace Go.Abs
variable {P:Program}
theorem jS {f:Arg→Option OpF} {x:Operand} {k:OpF} (h:one f x=some k):∃ a,jL x=some a∧f a=some k:=by
 unfold one at h
 split at h
 ·rename_i a ha;exact ⟨a,ha,h⟩
 ·cases h
theorem yB {f:Arg→Arg→Option OpF} {x y:Operand} {k:OpF} (h:two f x y=some k):∃ a b,jL x=some a∧jL y=some b∧f a b=some k:=by
 unfold two at h
 split at h
 ·rename_i a b ha hb;exact ⟨a,b,ha,hb,h⟩
 ·cases h
theorem yl {f:Arg→Arg→Arg→Option OpF} {x y z:Operand} {k:OpF} (h:three f x y z=some k):∃ a b c,jL x=some a∧jL y=some b∧jL z=some c∧f a b c=some k:=by
 unfold three at h
 split at h
 ·rename_i a b c ha hb hc;exact ⟨a,b,c,ha,hb,hc,h⟩
 ·cases h
theorem gbJ {op:BinOp} {t yt:TypeId} {x y:Operand} {a b:Arg} (ha:jL x=some a) (hb:jL y=some b) {f:OpF} (h:veJ P op t a b=some f):Sound P (.binOp op t x y yt) f:=by
 unfold veJ at h
 split at h
 ·cases h;exact gOJ ha hb
 ·cases h;exact gNJ ha hb
 ·cases h;exact gWJ ha hb
 ·split at h
  ·rename_i g hg;cases h;exact gVJ hg ha hb
  ·cases h
 ·rename_i h1 h2 _
  cases h;exact gMJ ⟨h1,h2⟩ ha hb
 ·rename_i D hni hns hu
  split at h
  ·cases h
  ·rename_i hg
   split at h
   ·rename_i c hc
    cases h
    exact JMA (neg:=false) hu (by simpa using hg) hc (fun k e=>hni k e) (fun e=>hns e) ha hb
   ·cases h
 ·rename_i D hni hns hu
  split at h
  ·cases h
  ·rename_i hg
   split at h
   ·rename_i c hc
    cases h
    exact JMA (neg:=true) hu (by simpa using hg) hc (fun k e=>hni k e) (fun e=>hns e) ha hb
   ·cases h
 ·cases h
theorem WaA {t:TypeId} {x:Operand} {lo hi:Option Operand} {a:Arg} {l h:Option Arg} (ha:jL x=some a) (hl:vr lo=some l) (hh:vr hi=some h) {f:OpF} (hf:wIA P t a l h=some f) :
  Sound P (.slice t x lo hi none) f:=by
 unfold wIA at hf
 split at hf
 ·rename_i hu;cases hf;exact wCA hu ha hl hh
 ·rename_i hu
  split at hf
  ·rename_i hk;cases hf;exact wBA hu hk ha hl hh
  ·cases hf
 ·rename_i hu
  split at hf
  ·rename_i hk;cases hf;exact wDA hu hk ha hl hh
  ·cases hf
 ·cases hf
theorem yAJ {a b:TypeId} {x:Operand} {y:Arg} (hx:jL x=some y) {f:OpF} (hf:gTA P a b y=some f):Sound P (.convert a b x) f:=by
 unfold gTA at hf
 split at hf
 ·exact WeA hx hf
 ·unfold weJ at hf
  split at hf
  ·rename_i h1 h2;cases hf;exact gYJ h1 h2 hx
  ·rename_i h1 h2;cases hf;exact gXJ h1 h2 hx
  ·cases hf
theorem JAJ {op:UnOp} {t:TypeId} {x:Operand} {y:Arg} (hx:jL x=some y) {f:OpF} (hf:unK op y=some f):Sound P (.unOp op t x) f:=by
 unfold unK at hf
 split at hf
 ·cases hf;exact gRJ hx
 ·cases hf;exact gLJ hx
 ·cases hf;exact gPJ hx
 ·cases hf
theorem ZjA {b:Builtin} {args:Array Operand} {ts:Array TypeId} {l:List Arg} (ha:jz args.toList=some l) {f:OpF} (hf:vn P b ts l=some f):Sound P (JF b args ts) f:=by
 unfold vn at hf
 split at hf
 ·split at hf
  ·rename_i t ht
   unfold WpJ at hf
   split at hf
   ·rename_i hu;cases hf;exact YiA hu ht ha
   ·rename_i hu;cases hf;exact WbA hu ht ha
   ·rename_i hu;cases hf;exact YjA hu ht ha
   ·rename_i hu;cases hf;exact zbA (.inl rfl) hu ht ha
   ·cases hf
  ·cases hf
 ·split at hf
  ·rename_i t ht
   unfold jcQ at hf
   split at hf
   ·rename_i hu;cases hf;exact gZJ hu ht ha
   ·rename_i hu;cases hf;exact zbA (.inr rfl) hu ht ha
   ·cases hf
  ·cases hf
 ·unfold jUA at hf
  split at hf
  ·cases hf
  ·rename_i t ht
   split at hf
   ·rename_i elem hu
    split at hf
    ·rename_i size bytes zero hk hbt hz
     split at hf
     ·cases hf
     ·rename_i hcond
      split at hf
      ·rename_i h2
       cases hf
       simp only [not_or,Classical.not_not,Nat.not_le] at hcond
       obtain ⟨hs0,hb0,hzl,hsb⟩:=hcond
       exact YoA hu hk hbt hz hzl hb0 hsb hs0 ht h2 ha _
      ·rename_i h2
       cases hf
       simp only [not_or,Classical.not_not,Nat.not_le] at hcond
       obtain ⟨hs0,hb0,hzl,hsb⟩:=hcond
       exact ZkA hu hk hbt hz hzl hb0 hsb hs0 ht h2 ha
      ·cases hf
    ·cases hf
   ·cases hf
 ·unfold jIJ at hf
  split at hf
  ·cases hf
  ·rename_i t ht
   split at hf
   ·rename_i elem hu
    split at hf
    ·rename_i size hk
     cases hf
     exact jzJ hu hk ht ha
    ·cases hf
   ·cases hf
 ·unfold gZA at hf
  split at hf
  ·cases hf
  ·rename_i t ht
   split at hf
   ·rename_i elem hu
    split at hf
    ·rename_i z hz;cases hf;exact WfA hu hz ht ha
    ·cases hf
   ·cases hf
 ·cases hf;exact vTA ha
 ·unfold Zb at hf
  split at hf
  ·rename_i ht
   split at hf
   ·rename_i hu
    split at hf
    ·rename_i hc;cases hf;exact vSA hu (Nat.eq_of_beq_eq_true hc) ht ha
    ·cases hf
   ·cases hf
  ·cases hf
 ·cases hf;exact gSJ ha
 ·cases hf;exact gTJ ha
 ·split at hf
  ·rename_i t ht
   split at hf
   ·rename_i hu
    split at hf
    ·rename_i c hc
     cases hf
     exact YlA hu hc ht ha
    ·cases hf
   ·cases hf
  ·cases hf
 ·cases hf
theorem Jh {t:TypeId} {c:Cmp} {z:Option AV} (h:zyA P t=some (c,z)):∃ key elem,P.underlying t=some (.map key elem)∧wqA P key=some c∧z=WOA P elem:=by
 unfold zyA at h
 split at h
 ·rename_i key elem hu
  split at h
  ·rename_i c' hc;cases h;exact ⟨key,elem,hu,hc,rfl⟩
  ·cases h
 ·cases h
theorem JcA {op:Op} {f:OpF} (h:opK P op=some f):Sound P op f:=by
 unfold opK at h
 split at h
 case h_1=>obtain ⟨a,ha,h⟩:=jS h;cases h;exact jtJ ha
 case h_2=>obtain ⟨a,ha,h⟩:=jS h;cases h;exact YnA ha
 case h_3=>obtain ⟨a,b,c,ha,hb,hc,h⟩:=yl h;cases h;exact jsJ ha hb hc
 case h_4 =>
  split at h
  ·rename_i hz;cases h;exact WhA hz
  ·cases h
 case h_5=>obtain ⟨a,ha,h⟩:=jS h;cases h;exact gaJ ha
 case h_6=>exact WgA h
 case h_7=>exact jeA h
 case h_8 =>
  split at h
  ·rename_i hs;obtain ⟨a,ha,h⟩:=jS h;cases h;exact jwJ hs ha
  ·cases h
 case h_9 =>
  split at h
  ·rename_i hs;obtain ⟨a,b,ha,hb,h⟩:=yB h;cases h;exact WZA hs ha hb
  ·cases h
 case h_10=>obtain ⟨a,ha,h⟩:=jS h;cases h;exact gQJ ha
 case h_11=>obtain ⟨a,b,ha,hb,h⟩:=yB h;exact gbJ ha hb h
 case h_12=>obtain ⟨a,ha,h⟩:=jS h;exact JAJ ha h
 case h_13=>obtain ⟨a,ha,h⟩:=jS h;exact yAJ ha h
 case h_14 =>
  split at h
  ·rename_i h1 h2;cases h;exact jxJ h1 h2
  ·cases h
 case h_15=>cases h;exact gUJ
 case h_16 =>
  split at h
  ·rename_i hu;obtain ⟨a,ha,h⟩:=jS h;cases h;exact ZgA hu ha
  ·cases h
 case h_17 =>
  split at h
  ·rename_i hu
   split at h
   ·rename_i hk hbt hz
    split at h
    ·cases h
    ·rename_i hzl
     obtain ⟨a,b,ha,hb,h⟩:=yB h
     cases h
     exact juJ hu hk hbt hz (by simpa using hzl) ha hb
   ·cases h
  ·cases h
 case h_18 =>
  split at h
  ·split at h
   ·rename_i h1 h2 h3;exact WaA h1 h2 h3 h
   ·cases h
  ·split at h
   ·rename_i h1 h2 h3 h4;exact YgA h1 h2 h3 h4 h
   ·cases h
 case h_19 =>
  split at h
  ·rename_i hu
   split at h
   ·rename_i hp;obtain ⟨a,ha,h⟩:=jS h;cases h;exact vUA hu hp ha
   ·cases h
  ·cases h
 case h_20 =>
  split at h
  ·rename_i hu
   split at h
   ·rename_i hf
    split at h
    ·rename_i hs;obtain ⟨a,ha,h⟩:=jS h;cases h;exact WdA hu hf hs ha
    ·cases h
   ·cases h
  ·cases h
 case h_21 =>
  split at h
  ·rename_i hu
   split at h
   ·rename_i hk;obtain ⟨a,b,ha,hb,h⟩:=yB h;cases h;exact jdA hu hk ha hb
   ·cases h
  ·rename_i hu
   split at h
   ·rename_i hk;obtain ⟨a,b,ha,hb,h⟩:=yB h;cases h;exact wHA hu hk ha hb
   ·cases h
  ·cases h
 case h_22 =>
  split at h
  ·rename_i hu;obtain ⟨a,b,ha,hb,h⟩:=yB h;cases h;exact wGA hu ha hb
  ·rename_i hu
   split at h
   ·rename_i hk hs;obtain ⟨a,b,ha,hb,h⟩:=yB h;cases h;exact WcA hu hk hs ha hb
   ·cases h
  ·cases h
 case h_23 =>
  split at h
  ·rename_i hm
   obtain ⟨key,elem,hu,hc,hz⟩:=Jh hm
   obtain ⟨a,b,ha,hb,h⟩:=yB h
   cases h
   exact jvJ hu hc hz.symm ha hb
  ·cases h
 case h_24 =>
  split at h
  ·rename_i hm
   obtain ⟨key,elem,hu,hc,_⟩:=Jh hm
   obtain ⟨a,b,c,ha,hb,hd,h⟩:=yl h
   cases h
   exact zaA (.inl rfl) hu hc ha hb hd
  ·cases h
 case h_25 =>
  split at h
  ·rename_i hm
   obtain ⟨key,elem,hu,hc,_⟩:=Jh hm
   obtain ⟨a,b,c,ha,hb,hd,h⟩:=yl h
   cases h
   exact zaA (.inr rfl) hu hc ha hb hd
  ·cases h
 case h_26=>obtain ⟨a,ha,h⟩:=jS h;cases h;exact ZhA ha
 case h_27 =>
  split at h
  ·rename_i hl;exact ZjA hl h
  ·cases h
 case h_28=>exact YkA h
 case h_29=>cases h
end Go.Abs
end
