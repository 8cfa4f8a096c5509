/- What operations hang on: on the temporaries that they look at; and, but for those that write, on little of the heap. -/
import Derived.Test.YtoklbkgcclkejaaAbsOps
noncomputable section
namespace Go.Abs
variable {P:Program}
theorem gW {t:Nat}:∀ {l:List Operand},t ∈ ye l↔Operand.tmp t ∈ l
 | []=>by simp [ye]
 | .tmp u::r=>by simp [ye,gW (l:=r)]
 | .const _::r=>by simp [ye,gW (l:=r)]
 | .global _::r=>by simp [ye,gW (l:=r)]
 | .func _::r=>by simp [ye,gW (l:=r)]
def Agree (ts:List Nat) (L L':Env):Prop:=∀ t ∈ ts,L.find t=L'.find t
theorem jV {x:Operand} {a:Arg} (h:jL x=some a) {l:List Operand} (hx:x ∈ l) {L L':Env} (hL:Agree (ye l) L L'):a.ev L=a.ev L':=by
 unfold jL at h
 split at h
 ·cases h;exact hL _ (gW.mpr hx)
 ·split at h
  ·cases h;rfl
  ·cases h
 ·cases h;rfl
 ·cases h;rfl
theorem wJ:∀ {xs:List Operand} {m:List Arg},jz xs=some m→∀ {l:List Operand},(∀ x ∈ xs,x ∈ l)→∀ {L L':Env},Agree (ye l) L L'→evs m L=evs m L'
 | [],m,h,l,_,L,L',_=>by cases h;rfl
 | x::r,m,h,l,hx,L,L',hL=>by
  unfold jz at h
  split at h
  ·rename_i a k h1 h2
   cases h
   show a.ev L::evs k L=a.ev L'::evs k L'
   rw [jV h1 (hx x (List.mem_cons_self ..)) hL,wJ h2 (fun y hy=>hx y (List.mem_cons_of_mem _ hy)) hL]
  ·cases h
theorem zAA {x:Option Operand} {a:Option Arg} (h:vr x=some a) {l:List Operand} (hx:∀ y,x=some y→y ∈ l) {L L':Env} (hL:Agree (ye l) L L'):vx a L=vx a L':=by
 unfold vr at h
 split at h
 ·cases h;rfl
 ·split at h
  ·rename_i x a h1
   cases h
   show some (a.ev L)=some (a.ev L')
   rw [jV h1 (hx _ rfl) hL]
  ·cases h
theorem Wx {place:Nat→Option (Nat × Nat)}:∀ {ps:List (Nat × Operand)} {m:List (Nat × Nat × Arg)},VG place ps=some m→∀ {l:List Operand},(∀ p ∈ ps,p.2 ∈ l) →
  ∀ {L L':Env},Agree (ye l) L L'→∀ c,ga m L c=ga m L' c
 | [],m,h,l,_,L,L',_,c=>by cases h;rfl
 | (i,x)::r,m,h,l,hx,L,L',hL,c=>by
  unfold VG at h
  split at h
  ·rename_i o k a q h1 h2 h3
   cases h
   unfold ga
   rw [jV h2 (hx (i,x) (List.mem_cons_self ..)) hL]
   split
   ·rfl
   ·split
    ·exact Wx h3 (fun p hp=>hx p (List.mem_cons_of_mem _ hp)) hL _
    ·rfl
  ·cases h
def Loc (l:List Operand) (f:OpF):Prop:=∀ L L' s,Agree (ye l) L L'→f L s=f L' s
theorem zFA {g:St→AV→ARes} {x:Operand} {a:Arg} (ha:jL x=some a) {l:List Operand} (hx:x ∈ l):Loc l (kUn g a):=by
 intro L L' s hL
 unfold kUn
 rw [jV ha hx hL]
theorem wPJ {g:St→AV→AV→ARes} {x y:Operand} {a b:Arg} (ha:jL x=some a) (hb:jL y=some b) {l:List Operand} (hx:x ∈ l) (hy:y ∈ l):Loc l (jJ g a b):=by
 intro L L' s hL
 unfold jJ
 rw [jV ha hx hL,jV hb hy hL]
theorem zXJ {b:Builtin} {args:Array Operand} {ts:Array TypeId} {m:List Arg} (ha:jz args.toList=some m) {f:OpF} (hf:vn P b ts m=some f) :
  Loc (Op.call ⟨.builtin b,args,ts⟩).operands.toList f:=by
 have hop:(Op.call ⟨.builtin b,args,ts⟩).operands.toList=args.toList:=by simp [Op.operands,Call.operands]
 rw [hop]
 intro L L' s hL
 have hev:=wJ ha (fun x hx=>hx) hL
 unfold vn at hf
 split at hf
 all_goals first | (cases hf;done) | skip
 ·have e:∀ x:Arg,evs [x] L=evs [x] L'→x.ev L=x.ev L':=fun x h=>by injection h
  have h1:=e _ hev
  split at hf
  ·unfold WpJ at hf
   split at hf<;>first | (cases hf;done) | (cases hf;unfold kUn;rw [h1]) | (cases hf;rfl)
  ·cases hf
 ·have e:∀ x:Arg,evs [x] L=evs [x] L'→x.ev L=x.ev L':=fun x h=>by injection h
  have h1:=e _ hev
  split at hf
  ·unfold jcQ at hf
   split at hf<;>first | (cases hf;done) | (cases hf;unfold kUn;rw [h1]) | (cases hf;rfl)
  ·cases hf
 ·have e:∀ x y:Arg,evs [x,y] L=evs [x,y] L'→x.ev L=x.ev L'∧y.ev L=y.ev L':=fun x y h=>by injection h with h1 h2;injection h2 with h2;exact ⟨h1,h2⟩
  obtain ⟨h1,h2⟩:=e _ _ hev
  unfold jUA at hf
  repeat' (split at hf)
  all_goals first | (cases hf;done) | (cases hf;unfold jJ;rw [h1,h2])
 ·have e:∀ x y:Arg,evs [x,y] L=evs [x,y] L'→x.ev L=x.ev L'∧y.ev L=y.ev L':=fun x y h=>by injection h with h1 h2;injection h2 with h2;exact ⟨h1,h2⟩
  obtain ⟨h1,h2⟩:=e _ _ hev
  unfold jIJ at hf
  repeat' (split at hf)
  all_goals first | (cases hf;done) | (cases hf;unfold jJ;rw [h1,h2])
 ·have e:∀ x:Arg,evs [x] L=evs [x] L'→x.ev L=x.ev L':=fun x h=>by injection h
  have h1:=e _ hev
  unfold gZA at hf
  repeat' (split at hf)
  all_goals first | (cases hf;done) | (cases hf;unfold kUn;rw [h1])
 ·have e:∀ x:Arg,evs [x] L=evs [x] L'→x.ev L=x.ev L':=fun x h=>by injection h
  have h1:=e _ hev
  cases hf;unfold kUn;rw [h1]
 ·have e:∀ x y:Arg,evs [x,y] L=evs [x,y] L'→x.ev L=x.ev L'∧y.ev L=y.ev L':=fun x y h=>by injection h with h1 h2;injection h2 with h2;exact ⟨h1,h2⟩
  obtain ⟨h1,h2⟩:=e _ _ hev
  unfold Zb at hf
  repeat' (split at hf)
  all_goals first | (cases hf;done) | (cases hf;unfold jJ;rw [h1,h2])
 ·rename_i x r
  cases hf
  have e:x.ev L=x.ev L'∧evs r L=evs r L':=by injection hev with h1 h2;exact ⟨h1,h2⟩
  unfold gY
  rw [e.1,e.2]
 ·rename_i x r
  cases hf
  have e:x.ev L=x.ev L'∧evs r L=evs r L':=by injection hev with h1 h2;exact ⟨h1,h2⟩
  unfold gY
  rw [e.1,e.2]
 ·have e:∀ x y:Arg,evs [x,y] L=evs [x,y] L'→x.ev L=x.ev L'∧y.ev L=y.ev L':=fun x y h=>by injection h with h1 h2;injection h2 with h2;exact ⟨h1,h2⟩
  obtain ⟨h1,h2⟩:=e _ _ hev
  repeat' (split at hf)
  all_goals first | (cases hf;done) | (cases hf;unfold YXJ;rw [h1,h2])
theorem WoJ {op:BinOp} {t:TypeId} {x y:Operand} {a b:Arg} (ha:jL x=some a) (hb:jL y=some b) {f:OpF} (h:veJ P op t a b=some f) {l:List Operand} (hx:x ∈ l) (hy:y ∈ l) :
  Loc l f:=by
 intro L L' s hL
 have h1:=jV ha hx hL
 have h2:=jV hb hy hL
 unfold veJ at h
 repeat' (split at h)
 all_goals first
  | (cases h;done)
  | (cases h;unfold YUJ;rw [h1,h2])
  | (cases h;unfold ZsA;rw [h1,h2])
  | (cases h;unfold JB;rw [h1,h2])
  | (cases h;unfold zV;rw [h1,h2])
  | (cases h;unfold YTJ;rw [h1,h2])
  | (cases h;unfold wuA;rw [h1,h2])
theorem wHJ {op:Op} {f:OpF} (h:opK P op=some f):Loc op.operands.toList f:=by
 unfold opK at h
 split at h
 case h_1=>obtain ⟨a,ha,h⟩:=jS h;cases h;intro L L' s hL;unfold zE;rw [jV ha (by simp [Op.operands]) hL]
 case h_2=>obtain ⟨a,ha,h⟩:=jS h;cases h;intro L L' s hL;unfold zE;rw [jV ha (by simp [Op.operands]) hL]
 case h_3 =>
  obtain ⟨a,b,c,ha,hb,hc,h⟩:=yl h;cases h;intro L L' s hL;unfold yY
  rw [jV ha (by simp [Op.operands]) hL,jV hb (by simp [Op.operands]) hL,jV hc (by simp [Op.operands]) hL]
 case h_4 =>
  split at h
  ·cases h;intro L L' s hL;rfl
  ·cases h
 case h_5=>obtain ⟨a,ha,h⟩:=jS h;cases h;intro L L' s hL;unfold yF;rw [jV ha (by simp [Op.operands]) hL]
 case h_6 =>
  rename_i t parts
  have hop:(Op.build t parts).operands.toList=parts.toList.map (·.2):=by simp [Op.operands]
  rw [hop]
  unfold gfA at h
  repeat' (split at h)
  all_goals first
   | (cases h;done)
   | (rename_i hp;cases h;intro L L' s hL;unfold yd;rw [Wx hp (fun p hp=>List.mem_map_of_mem hp) hL])
 case h_7 =>
  rename_i t len parts
  have hop:(Op.buildSlice t len parts).operands.toList=parts.toList.map (·.2):=by simp [Op.operands]
  rw [hop]
  unfold gm at h
  repeat' (split at h)
  all_goals first
   | (cases h;done)
   | (rename_i hp;cases h;intro L L' s hL;unfold zz;rw [Wx hp (fun p hp=>List.mem_map_of_mem hp) hL])
 case h_8 =>
  split at h
  ·obtain ⟨a,ha,h⟩:=jS h;cases h;intro L L' s hL;unfold zI;rw [jV ha (by simp [Op.operands]) hL]
  ·cases h
 case h_9 =>
  split at h
  ·obtain ⟨a,b,ha,hb,h⟩:=yB h;cases h;intro L L' s hL;unfold jD;rw [jV ha (by simp [Op.operands]) hL,jV hb (by simp [Op.operands]) hL]
  ·cases h
 case h_10=>obtain ⟨a,ha,h⟩:=jS h;cases h;exact zFA ha (by simp [Op.operands])
 case h_11=>obtain ⟨a,b,ha,hb,h⟩:=yB h;exact WoJ ha hb h (by simp [Op.operands]) (by simp [Op.operands])
 case h_12 =>
  obtain ⟨a,ha,h⟩:=jS h
  unfold unK at h
  split at h<;>first | (cases h;exact zFA ha (by simp [Op.operands])) | (cases h;done)
 case h_13 =>
  obtain ⟨a,ha,h⟩:=jS h
  unfold gTA gVA weJ at h
  repeat' (split at h)
  all_goals first | (cases h;done) | (cases h;exact zFA ha (by simp [Op.operands]))
 case h_14 =>
  split at h
  ·rename_i h1 h2;cases h;intro L L' s hL;unfold JQ
   rw [wJ h1 (fun x hx=>by simp [Op.operands,hx]) hL,wJ h2 (fun x hx=>by simp [Op.operands,hx]) hL]
  ·cases h
 case h_15=>cases h;intro L L' s hL;rfl
 case h_16 =>
  split at h
  ·obtain ⟨a,ha,h⟩:=jS h;cases h;exact zFA ha (by simp [Op.operands])
  ·cases h
 case h_17 =>
  repeat' (split at h)
  all_goals first
   | (cases h;done)
   | (obtain ⟨a,b,ha,hb,h⟩:=yB h;cases h;intro L L' s hL;unfold Wi;rw [jV ha (by simp [Op.operands]) hL,jV hb (by simp [Op.operands]) hL])
 case h_18 =>
  split at h
  ·split at h
   ·rename_i h1 h2 h3
    unfold wIA at h
    repeat' (split at h)
    all_goals first
     | (cases h;done)
     | (cases h;intro L L' s hL;unfold ZC;rw [jV h1 (by simp [Op.operands]) hL,zAA h2 (fun y e=>by subst e;simp [Op.operands]) hL,zAA h3 (fun y e=>by subst e;simp [Op.operands]) hL])
   ·cases h
  ·split at h
   ·rename_i h1 h2 h3 h4
    obtain ⟨y,rfl,h3⟩:=gmA h3
    unfold zcA at h
    repeat' (split at h)
    all_goals first
     | (cases h;done)
     | (cases h;intro L L' s hL;unfold VOA;rw [jV h1 (by simp [Op.operands]) hL,zAA h2 (fun y e=>by subst e;simp [Op.operands]) hL,jV h3 (by simp [Op.operands]) hL,jV h4 (by simp [Op.operands]) hL])
   ·cases h
 case h_19 =>
  repeat' (split at h)
  all_goals first
   | (cases h;done)
   | (obtain ⟨a,ha,h⟩:=jS h;cases h;exact zFA ha (by simp [Op.operands]))
 case h_20 =>
  repeat' (split at h)
  all_goals first
   | (cases h;done)
   | (obtain ⟨a,ha,h⟩:=jS h;cases h;exact zFA ha (by simp [Op.operands]))
 case h_21 =>
  repeat' (split at h)
  all_goals first
   | (cases h;done)
   | (obtain ⟨a,b,ha,hb,h⟩:=yB h;cases h;exact wPJ ha hb (by simp [Op.operands]) (by simp [Op.operands]))
 case h_22 =>
  repeat' (split at h)
  all_goals first
   | (cases h;done)
   | (obtain ⟨a,b,ha,hb,h⟩:=yB h;cases h;exact wPJ ha hb (by simp [Op.operands]) (by simp [Op.operands]))
 case h_23 =>
  split at h
  ·obtain ⟨a,b,ha,hb,h⟩:=yB h;cases h;intro L L' s hL;unfold jGA;rw [jV ha (by simp [Op.operands]) hL,jV hb (by simp [Op.operands]) hL]
  ·cases h
 case h_24 =>
  split at h
  ·obtain ⟨a,b,c,ha,hb,hc,h⟩:=yl h;cases h;intro L L' s hL;unfold wsA
   rw [jV ha (by simp [Op.operands]) hL,jV hb (by simp [Op.operands]) hL,jV hc (by simp [Op.operands]) hL]
  ·cases h
 case h_25 =>
  split at h
  ·obtain ⟨a,b,c,ha,hb,hc,h⟩:=yl h;cases h;intro L L' s hL;unfold wsA
   rw [jV ha (by simp [Op.operands]) hL,jV hb (by simp [Op.operands]) hL,jV hc (by simp [Op.operands]) hL]
  ·cases h
 case h_26=>obtain ⟨a,ha,h⟩:=jS h;cases h;exact zFA ha (by simp [Op.operands])
 case h_27 =>
  split at h
  ·rename_i hl;exact zXJ hl h
  ·cases h
 case h_28 =>
  rename_i f args ts
  have hop:(Op.call ⟨.value (.func f),args,ts⟩).operands.toList=.func f::args.toList:=by simp [Op.operands,Call.operands]
  rw [hop]
  unfold WJ at h
  repeat' (split at h)
  all_goals first | (cases h;done) | skip
  ·rename_i ha _ _ _ _ _ _
   cases h
   intro L L' s hL
   have hev:=wJ ha (fun x hx=>List.mem_cons_of_mem _ hx) hL
   injection hev with h1 h2
   injection h2 with h2
   unfold jJ
   rw [h1,h2]
  ·rename_i ha
   cases h
   intro L L' s hL
   have hev:=wJ ha (fun x hx=>List.mem_cons_of_mem _ hx) hL
   injection hev with h1 h2
   unfold zE
   rw [h1]
  ·rename_i ha _ _ _
   cases h
   intro L L' s hL
   have hev:=wJ ha (fun x hx=>List.mem_cons_of_mem _ hx) hL
   injection hev with h1 h2
   unfold kUn
   rw [h1]
 case h_29=>cases h
end Go.Abs
end
