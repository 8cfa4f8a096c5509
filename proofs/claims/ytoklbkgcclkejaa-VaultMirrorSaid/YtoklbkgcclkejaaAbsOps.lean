/- All operations that are no calls of functions. -/
import Derived.Test.YtoklbkgcclkejaaAbsMaps
noncomputable section
namespace Go.Abs
variable {P:Program}
theorem jS {f:Arg→Option OpF} {x:Operand} {k:OpF} (h:one f x=some k):∃ a,jM x=some a∧f a=some k:=by
 unfold one at h
 split at h
 ·rename_i a ha;exact ⟨a,ha,h⟩
 ·cases h
theorem yB {f:Arg→Arg→Option OpF} {x y:Operand} {k:OpF} (h:two f x y=some k):∃ a b,jM x=some a∧jM y=some b∧f a b=some k:=by
 unfold two at h
 split at h
 ·rename_i a b ha hb;exact ⟨a,b,ha,hb,h⟩
 ·cases h
theorem yl {f:Arg→Arg→Arg→Option OpF} {x y z:Operand} {k:OpF} (h:three f x y z=some k):∃ a b c,jM x=some a∧jM y=some b∧jM z=some c∧f a b c=some k:=by
 unfold three at h
 split at h
 ·rename_i a b c ha hb hc;exact ⟨a,b,c,ha,hb,hc,h⟩
 ·cases h
theorem sound_bin {op:BinOp} {t yt:TypeId} {x y:Operand} {a b:Arg} (ha:jM x=some a) (hb:jM y=some b) {f:OpF} (h:binK P op t a b=some f):Sound P (.binOp op t x y yt) f:=by
 unfold binK at h
 split at h
 ·cases h;exact sound_shl ha hb
 ·cases h;exact sound_shr ha hb
 ·cases h;exact sound_gtr ha hb
 ·split at h
  ·rename_i g hg;cases h;exact sound_int hg ha hb
  ·cases h
 ·rename_i h1 h2 _
  cases h;exact sound_str ⟨h1,h2⟩ ha hb
 ·rename_i D hni hns hu
  split at h
  ·cases h
  ·rename_i hg
   split at h
   ·rename_i c hc
    cases h
    exact sound_eql (neg:=false) hu (by simpa using hg) hc (fun k e=>hni k e) (fun e=>hns e) ha hb
   ·cases h
 ·rename_i D hni hns hu
  split at h
  ·cases h
  ·rename_i hg
   split at h
   ·rename_i c hc
    cases h
    exact sound_eql (neg:=true) hu (by simpa using hg) hc (fun k e=>hni k e) (fun e=>hns e) ha hb
   ·cases h
 ·cases h
theorem sound_slice {t:TypeId} {x:Operand} {lo hi:Option Operand} {a:Arg} {l h:Option Arg} (ha:jM x=some a) (hl:vr lo=some l) (hh:vr hi=some h) {f:OpF} (hf:sliceK P t a l h=some f) :
  Sound P (.slice t x lo hi none) f:=by
 unfold sliceK at hf
 split at hf
 ·rename_i hu;cases hf;exact sound_sliceStr hu ha hl hh
 ·rename_i hu
  split at hf
  ·rename_i hk;cases hf;exact sound_sliceVal hu hk ha hl hh
  ·cases hf
 ·rename_i hu
  split at hf
  ·rename_i hk;cases hf;exact sound_sliceArr hu hk ha hl hh
  ·cases hf
 ·cases hf
theorem sound_conv {a b:TypeId} {x:Operand} {y:Arg} (hx:jM x=some y) {f:OpF} (hf:convK P a b y=some f):Sound P (.convert a b x) f:=by
 unfold convK at hf
 split at hf
 ·exact sound_convH hx hf
 ·unfold convL at hf
  split at hf
  ·rename_i h1 h2;cases hf;exact sound_cvi h1 h2 hx
  ·rename_i h1 h2;cases hf;exact sound_cvs h1 h2 hx
  ·cases hf
theorem sound_un {op:UnOp} {t:TypeId} {x:Operand} {y:Arg} (hx:jM x=some y) {f:OpF} (hf:unK op y=some f):Sound P (.unOp op t x) f:=by
 unfold unK at hf
 split at hf
 ·cases hf;exact sound_neg hx
 ·cases hf;exact sound_xor hx
 ·cases hf;exact sound_not hx
 ·cases hf
theorem sound_builtin {b:Builtin} {args:Array Operand} {ts:Array TypeId} {l:List Arg} (ha:jz args.toList=some l) {f:OpF} (hf:vm P b ts l=some f):Sound P (JD b args ts) f:=by
 unfold vm at hf
 split at hf
 ·split at hf
  ·rename_i t ht
   unfold lenK at hf
   split at hf
   ·rename_i hu;cases hf;exact sound_lenStr hu ht ha
   ·rename_i hu;cases hf;exact sound_lenSl hu ht ha
   ·rename_i hu;cases hf;exact sound_lenMap hu ht ha
   ·rename_i hu;cases hf;exact sound_lenArr (.inl rfl) hu ht ha
   ·cases hf
  ·cases hf
 ·split at hf
  ·rename_i t ht
   unfold capK at hf
   split at hf
   ·rename_i hu;cases hf;exact sound_cap hu ht ha
   ·rename_i hu;cases hf;exact sound_lenArr (.inr rfl) hu ht ha
   ·cases hf
  ·cases hf
 ·unfold appendK at hf
  split at hf
  ·cases hf
  ·rename_i t ht
   split at hf
   ·rename_i elem hu
    split at hf
    ·rename_i size bytes zero hk hbt hz
     split at hf
     ·cases hf
     ·rename_i hcond
      split at hf
      ·rename_i h2
       cases hf
       simp only [not_or,Classical.not_not,Nat.not_le] at hcond
       obtain ⟨hs0,hb0,hzl,hsb⟩:=hcond
       exact sound_append hu hk hbt hz hzl hb0 hsb hs0 ht h2 ha _
      ·rename_i h2
       cases hf
       simp only [not_or,Classical.not_not,Nat.not_le] at hcond
       obtain ⟨hs0,hb0,hzl,hsb⟩:=hcond
       exact sound_appendZ hu hk hbt hz hzl hb0 hsb hs0 ht h2 ha
      ·cases hf
    ·cases hf
   ·cases hf
 ·unfold copyK at hf
  split at hf
  ·cases hf
  ·rename_i t ht
   split at hf
   ·rename_i elem hu
    split at hf
    ·rename_i size hk
     cases hf
     exact sound_copy hu hk ht ha
    ·cases hf
   ·cases hf
 ·unfold clearK at hf
  split at hf
  ·cases hf
  ·rename_i t ht
   split at hf
   ·rename_i elem hu
    split at hf
    ·rename_i z hz;cases hf;exact sound_clear hu hz ht ha
    ·cases hf
   ·cases hf
 ·cases hf;exact sound_sliceData ha
 ·unfold Za at hf
  split at hf
  ·rename_i ht
   split at hf
   ·rename_i hu
    split at hf
    ·rename_i hc;cases hf;exact sound_unsafeStr hu (Nat.eq_of_beq_eq_true hc) ht ha
    ·cases hf
   ·cases hf
  ·cases hf
 ·cases hf;exact sound_min ha
 ·cases hf;exact sound_max ha
 ·split at hf
  ·rename_i t ht
   split at hf
   ·rename_i hu
    split at hf
    ·rename_i c hc
     cases hf
     exact sound_delete hu hc ht ha
    ·cases hf
   ·cases hf
  ·cases hf
 ·cases hf
theorem Jf {t:TypeId} {c:Cmp} {z:Option AV} (h:mapTypes P t=some (c,z)):∃ key elem,P.underlying t=some (.map key elem)∧keyK P key=some c∧z=zeroV P elem:=by
 unfold mapTypes at h
 split at h
 ·rename_i key elem hu
  split at h
  ·rename_i c' hc;cases h;exact ⟨key,elem,hu,hc,rfl⟩
  ·cases h
 ·cases h
theorem opK_sound {op:Op} {f:OpF} (h:opK P op=some f):Sound P op f:=by
 unfold opK at h
 split at h
 case h_1=>obtain ⟨a,ha,h⟩:=jS h;cases h;exact sound_move ha
 case h_2=>obtain ⟨a,ha,h⟩:=jS h;cases h;exact sound_assign ha
 case h_3=>obtain ⟨a,b,c,ha,hb,hc,h⟩:=yl h;cases h;exact sound_pick ha hb hc
 case h_4 =>
  split at h
  ·rename_i hz;cases h;exact sound_alloc hz
  ·cases h
 case h_5=>obtain ⟨a,ha,h⟩:=jS h;cases h;exact sound_box ha
 case h_6=>exact sound_build h
 case h_7=>exact sound_buildSlice h
 case h_8 =>
  split at h
  ·rename_i hs;obtain ⟨a,ha,h⟩:=jS h;cases h;exact sound_load hs ha
  ·cases h
 case h_9 =>
  split at h
  ·rename_i hs;obtain ⟨a,b,ha,hb,h⟩:=yB h;cases h;exact sound_store hs ha hb
  ·cases h
 case h_10=>obtain ⟨a,ha,h⟩:=jS h;cases h;exact sound_nil ha
 case h_11=>obtain ⟨a,b,ha,hb,h⟩:=yB h;exact sound_bin ha hb h
 case h_12=>obtain ⟨a,ha,h⟩:=jS h;exact sound_un ha h
 case h_13=>obtain ⟨a,ha,h⟩:=jS h;exact sound_conv ha h
 case h_14 =>
  split at h
  ·rename_i h1 h2;cases h;exact sound_func h1 h2
  ·cases h
 case h_15=>cases h;exact sound_map
 case h_16 =>
  split at h
  ·rename_i hu;obtain ⟨a,ha,h⟩:=jS h;cases h;exact sound_mapHint hu ha
  ·cases h
 case h_17 =>
  split at h
  ·rename_i hu
   split at h
   ·rename_i hk hbt hz
    split at h
    ·cases h
    ·rename_i hzl
     obtain ⟨a,b,ha,hb,h⟩:=yB h
     cases h
     exact sound_make hu hk hbt hz (by simpa using hzl) ha hb
   ·cases h
  ·cases h
 case h_18 =>
  split at h
  ·split at h
   ·rename_i h1 h2 h3;exact sound_slice h1 h2 h3 h
   ·cases h
  ·split at h
   ·rename_i h1 h2 h3 h4;exact sound_slice3 h1 h2 h3 h4 h
   ·cases h
 case h_19 =>
  split at h
  ·rename_i hu
   split at h
   ·rename_i hp;obtain ⟨a,ha,h⟩:=jS h;cases h;exact sound_fieldAddr hu hp ha
   ·cases h
  ·cases h
 case h_20 =>
  split at h
  ·rename_i hu
   split at h
   ·rename_i hf
    split at h
    ·rename_i hs;obtain ⟨a,ha,h⟩:=jS h;cases h;exact sound_field hu hf hs ha
    ·cases h
   ·cases h
  ·cases h
 case h_21 =>
  split at h
  ·rename_i hu
   split at h
   ·rename_i hk;obtain ⟨a,b,ha,hb,h⟩:=yB h;cases h;exact sound_indexSlice hu hk ha hb
   ·cases h
  ·rename_i hu
   split at h
   ·rename_i hk;obtain ⟨a,b,ha,hb,h⟩:=yB h;cases h;exact sound_indexArr hu hk ha hb
   ·cases h
  ·cases h
 case h_22 =>
  split at h
  ·rename_i hu;obtain ⟨a,b,ha,hb,h⟩:=yB h;cases h;exact sound_indexStr hu ha hb
  ·rename_i hu
   split at h
   ·rename_i hk hs;obtain ⟨a,b,ha,hb,h⟩:=yB h;cases h;exact sound_index hu hk hs ha hb
   ·cases h
  ·cases h
 case h_23 =>
  split at h
  ·rename_i hm
   obtain ⟨key,elem,hu,hc,hz⟩:=Jf hm
   obtain ⟨a,b,ha,hb,h⟩:=yB h
   cases h
   exact sound_look hu hc hz.symm ha hb
  ·cases h
 case h_24 =>
  split at h
  ·rename_i hm
   obtain ⟨key,elem,hu,hc,_⟩:=Jf hm
   obtain ⟨a,b,c,ha,hb,hd,h⟩:=yl h
   cases h
   exact sound_update (.inl rfl) hu hc ha hb hd
  ·cases h
 case h_25 =>
  split at h
  ·rename_i hm
   obtain ⟨key,elem,hu,hc,_⟩:=Jf hm
   obtain ⟨a,b,c,ha,hb,hd,h⟩:=yl h
   cases h
   exact sound_update (.inr rfl) hu hc ha hb hd
  ·cases h
 case h_26=>obtain ⟨a,ha,h⟩:=jS h;cases h;exact sound_extract ha
 case h_27 =>
  split at h
  ·rename_i hl;exact sound_builtin hl h
  ·cases h
 case h_28=>exact sound_extern h
 case h_29=>cases h
end Go.Abs
end
