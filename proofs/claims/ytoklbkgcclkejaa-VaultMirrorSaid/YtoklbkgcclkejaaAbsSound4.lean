/- Slices: built, cut, made; lengths; the least and the greatest. -/
import Derived.Test.YtoklbkgcclkejaaAbsSound3
noncomputable section
namespace Go.Abs
variable {P:Program}
theorem jeA {t:TypeId} {len:Nat} {parts:Array (Nat × Operand)} {f:OpF} (hf:gm P t len parts.toList=some f):Sound P (.buildSlice t len parts) f:=by
 intro o ho ρ L T s W v s' hL hs h
 unfold gm at hf
 split at hf
 ·rename_i elem hu
  split at hf
  ·rename_i size z hk hz
   split at hf
   ·cases hf
   ·rename_i hlim
    split at hf
    ·rename_i l hl
     cases hf
     unfold zz at h
     split at h
     ·rename_i c hc
      cases h
      obtain ⟨Z,h1,h2⟩:=Jq W ρ hz
      have hzs:Z.cells.size=size:=by
       have:=h2.length
       have h3:z.length=size:=by
        by_cases h3:z.length=size
        ·exact h3
        ·exact absurd (.inr h3) hlim
       rw [h3] at this;simpa using this.symm
      have hz0:=jaA h2 len
      rw [hzs] at hz0
      obtain ⟨C',e1,e2,_⟩:=jRA hL (pl':=fun i=>some (i * size,size)) (fun i x hx=>hx) parts.toList l hl hz0 hc
      have hle:¬ (len * size > 2 ^ 24):=by
       have:¬ (len * size > limit):=fun h=>hlim (.inl h)
       unfold limit at this;omega
      refine ⟨_,_,.slice (some ⟨W.heap.size,0,none⟩) len len,.inl ?_,JjA (el:=elem) hs e2,?_⟩
      ·by_cases h0:len * size=0
       ·have e3:((Array.range (len * size)).map (fun i=>Z.cells[i % size]!))=#[]:=by rw [h0];simp
        rw [e3] at e1
        simp only [execOp,ho,Instr.buildSlice,Sem.run_bind,zY W hu,Result.andThen_ok,jR W hk]
        rw [if_neg hle]
        have e4:Array.map (fun _=>(default:Value)) (Array.range 0)=#[]:=by simp
        simp [h0,newRow,e4,e1]
       ·simp only [execOp,ho,Instr.buildSlice,Sem.run_bind,zY W hu,Result.andThen_ok,jR W hk]
        rw [if_neg hle]
        simp [h0,h1,hzs,e1,newRow]
      ·have:=VRel.slice (ρ:=ρ.put s.n (W.heap.size,(0,0))) (b:=s.n) (o:=0) (len:=len) (cap:=len) (ext:=false) (Rho.put_same _ _ _)
       simpa using this
     ·cases h
    ·cases hf
  ·cases hf
 ·cases hf
theorem JH {y y':Nat} {v:AV} {i:Nat} (h:Yo y v=some i) (hy:y≤y') {ρ:Rho} {V:Value} (hv:VRel ρ v V) (code:BoundsCode) (W:World) :
  (Instr.sliceBound V y' code).run P W=.ok i W∧i≤y:=by
 unfold Yo at h
 split at h
 ·rename_i k n
  split at h
  ·rename_i hle
   cases h
   have hle:=Nat.le_of_ble_eq_true hle
   have hV:V=.int k (i:Int):=hv.int_inv
   subst hV
   refine ⟨?_,hle⟩
   have h1:i≤y':=by omega
   simp [Instr.sliceBound,asIntOf,h1]
  ·cases h
 ·cases h
theorem vF {ρ:Rho} {L:Env} {T:Array Value} (hL:EnvRel ρ L T) {x:Option Operand} {a:Option Arg} (h:vr x=some a) :
  (vx a L=none∧x.map (evT T)=none)∨∃ v V,vx a L=some v∧x.map (evT T)=some V∧VRel ρ v V:=by
 unfold vr at h
 split at h
 ·cases h;exact .inl ⟨rfl,rfl⟩
 ·split at h
  ·rename_i b hb;cases h;exact .inr ⟨_,_,rfl,rfl,zX hL hb⟩
  ·cases h
theorem JG {len cap cap':Nat} {lo hi:Option AV} {l h:Nat} (hb:ZN len cap lo hi=some (l,h)) (hcap:cap≤cap') (hlen:len≤cap) {ρ:Rho} {LO HI:Option Value}
  (hlo:(lo=none∧LO=none)∨∃ v V,lo=some v∧LO=some V∧VRel ρ v V) (hhi:(hi=none∧HI=none)∨∃ v V,hi=some v∧HI=some V∧VRel ρ v V) (isS:Bool) (W:World) :
  (Instr.sliceBounds isS len cap' LO HI none).run P W=.ok (l,h,cap') W∧l≤h∧h≤cap:=by
 unfold ZN at hb
 split at hb
 ·cases hb
 ·rename_i h' hh
  split at hb
  ·cases hb
  ·rename_i l' hl
   cases hb
   have H:(match HI,(none:Option Value) with | some v,some _=>Instr.sliceBound v cap' .slice3B | some v,none=>Instr.sliceBound v cap' (if isS then .sliceAcap else .sliceAlen) | none,none=>pure len | none,some _=>stuck "Slice: max without high":Sem Nat).run P W=.ok h W∧h≤cap:=by
    rcases hhi with ⟨rfl,rfl⟩ | ⟨v,V,rfl,rfl,hv⟩
    ·cases hh;exact ⟨by simp,hlen⟩
    ·exact JH hh hcap hv _ W
   have Lo:(match LO with | some v=>Instr.sliceBound v h .sliceB | none=>pure 0:Sem Nat).run P W=.ok l W∧l≤h:=by
    rcases hlo with ⟨rfl,rfl⟩ | ⟨v,V,rfl,rfl,hv⟩
    ·cases hl;exact ⟨by simp,Nat.zero_le _⟩
    ·exact JH hl (Nat.le_refl _) hv _ W
   refine ⟨?_,Lo.2,H.2⟩
   unfold Instr.sliceBounds
   simp only [Sem.run_bind,Sem.run_pure,Result.andThen_ok,Option.isSome_none,Bool.false_eq_true,if_false]
   rcases hhi with ⟨rfl,rfl⟩ | ⟨v,V,rfl,rfl,hv⟩<;>rcases hlo with ⟨rfl,rfl⟩ | ⟨v',V',rfl,rfl,hv'⟩<;>simp_all
theorem wCA {t:TypeId} (hu:P.underlying t=some .string) {x:Operand} {lo hi:Option Operand} {a:Arg} {l h:Option Arg} (ha:jL x=some a) (hl:vr lo=some l) (hh:vr hi=some h) :
  Sound P (.slice t x lo hi none) (ZC Ze a l h):=by
 intro o ho ρ L T s W v s' hL hs hf
 have hx:=zX hL ha
 have h':Ze (vx l L) (vx h L) s (a.ev L)=.val v s':=hf
 generalize a.ev L=av at hx h'
 unfold Ze at h'
 split at h'
 ·rename_i b
  split at h'
  ·rename_i i j hb
   cases h'
   have hx:=hx.str_inv
   obtain ⟨hr,_,_⟩:=JG (P:=P) hb (Nat.le_refl _) (Nat.le_refl _) (vF hL hl) (vF hL hh) false W
   exact Res.same hs (V:=.string (b.extract i j)) (by simp [execOp,ho,hx,Instr.sliceAt,Instr.slice,zY W hu,hr]) (.str _)
  ·cases h'
 ·cases h'
theorem wBA {t elem:TypeId} (hu:P.underlying t=some (.slice elem)) {size:Nat} (hk:jv P elem=some size) {x:Operand} {lo hi:Option Operand} {a:Arg} {l h:Option Arg}
  (ha:jL x=some a) (hl:vr lo=some l) (hh:vr hi=some h):Sound P (.slice t x lo hi none) (ZC (yT size) a l h):=by
 intro o ho ρ L T s W v s' hL hs hf
 have hx:=zX hL ha
 have h':yT size (vx l L) (vx h L) s (a.ev L)=.val v s':=hf
 generalize a.ev L=av at hx h'
 unfold yT at h'
 split at h'
 ·rename_i b p len cap ext
  split at h'
  ·cases h'
  ·rename_i hle
   have hle:=Nat.le_of_ble_eq_true hle
   split at h'
   ·rename_i i j hb
    obtain ⟨d,e,hρ,hx⟩:=hx.slice_inv
    obtain ⟨e,z⟩:=e
    simp only at hx
    obtain ⟨hr,hij,hjc⟩:=JG (P:=P) hb (cap':=if ext then cap+e else cap) (by split<;>omega) hle (vF hL hl) (vF hL hh) true W
    split at h'
    ·rename_i hcl
     have hcl:=Nat.eq_of_beq_eq_true hcl
     split at h'
     ·rename_i hext
      cases h'
      subst hext;subst hcl
      simp only [if_true] at hr hx
      have hj:j=cap:=by omega
      subst hj
      by_cases he:e=0
      ·subst he
       simp only [Nat.add_zero] at hr hx
       refine Res.same hs (V:=.slice (some ⟨d,z+p,none⟩) 0 0) ?_ (.tail hρ (.inl rfl))
       simp [execOp,ho,hx,Instr.sliceAt,Instr.slice,zY W hu,hr,jR W hk]
      ·refine Res.same hs (V:=.slice (some ⟨d,z+p+j * size,none⟩) 0 e) ?_ (.tail hρ (.inr (Nat.add_assoc _ _ _)))
       have hne:¬ (j+e=j):=by omega
       simp [execOp,ho,hx,Instr.sliceAt,Instr.slice,zY W hu,hr,jR W hk,he,yO]
     ·rename_i hext
      cases h'
      have hext:ext=false:=by simpa using hext
      subst hext;subst hcl
      simp only [Bool.false_eq_true,if_false] at hr hx
      refine Res.same hs (V:=.slice (some ⟨d,z+p,none⟩) (j - cap) 0) ?_ ?_
      ·simp [execOp,ho,hx,Instr.sliceAt,Instr.slice,zY W hu,hr,jR W hk]
      ·have:=VRel.slice (ρ:=ρ) (b:=b) (o:=p) (len:=j - cap) (cap:=0) (ext:=false) hρ
       simpa using this
    ·rename_i hcl
     have hcl:cap≠i:=fun e=>by rw [YS e] at hcl;cases hcl
     cases h'
     refine Res.same hs (V:=.slice (some ⟨d,z+(p+i * size),none⟩) (j - i) (if ext then cap - i+e else cap - i)) ?_ (.slice hρ)
     have hne:(if ext=true then cap+e else cap)≠i:=by split<;>omega
     have hsub:(if ext=true then cap+e else cap) - i=(if ext=true then cap - i+e else cap - i):=by split<;>omega
     simp only [execOp,ho,hx,Instr.sliceAt,Instr.slice,Sem.run_bind,zY W hu,Result.andThen_ok,Option.map_none,hr,jR W hk,Sem.run_pure,if_neg hne,Option.map_some,yO,hsub,Nat.add_assoc]
   ·cases h'
 ·split at h'
  ·rename_i x' hb
   cases h'
   obtain ⟨i,j⟩:=x'
   have hx:=hx.nilslice_inv
   obtain ⟨hr,hij,hjc⟩:=JG (P:=P) hb (Nat.le_refl _) (Nat.le_refl _) (vF hL hl) (vF hL hh) true W
   have:j=0:=by omega
   subst this
   have:i=0:=by omega
   subst this
   exact Res.same hs (V:=.slice none 0 0) (by simp [execOp,ho,hx,Instr.sliceAt,Instr.slice,zY W hu,hr,jR W hk]) .nilslice
  ·cases h'
 ·rename_i b p
  split at h'
  ·rename_i x' hb
   cases h'
   obtain ⟨i,j⟩:=x'
   obtain ⟨d,e,q,hρ,hq,hx⟩:=hx.tail_inv
   obtain ⟨hr,hij,hjc⟩:=JG (P:=P) hb (cap':=e.1) (Nat.zero_le _) (Nat.le_refl _) (vF hL hl) (vF hL hh) true W
   have:j=0:=by omega
   subst this
   have:i=0:=by omega
   subst this
   refine Res.same hs (V:=.slice (some ⟨d,q,none⟩) 0 e.1) ?_ (.tail hρ hq)
   by_cases he:e.1=0
   ·rw [he] at hr hx
    rw [he]
    simp [execOp,ho,hx,Instr.sliceAt,Instr.slice,zY W hu,hr,jR W hk]
   ·simp [execOp,ho,hx,Instr.sliceAt,Instr.slice,zY W hu,hr,jR W hk,he,yO]
  ·cases h'
 ·cases h'
theorem wDA {t elem:TypeId} {n:Nat} (hu:P.underlying t=some (.array n elem)) {size:Nat} (hk:jv P elem=some size) {x:Operand} {lo hi:Option Operand} {a:Arg} {l h:Option Arg}
  (ha:jL x=some a) (hl:vr lo=some l) (hh:vr hi=some h):Sound P (.slice t x lo hi none) (ZC (Zf n size) a l h):=by
 intro o ho ρ L T s W v s' hL hs hf
 have hx:=zX hL ha
 have h':Zf n size (vx l L) (vx h L) s (a.ev L)=.val v s':=hf
 generalize a.ev L=av at hx h'
 unfold Zf at h'
 split at h'
 ·rename_i b p
  split at h'
  ·rename_i i j hb
   cases h'
   obtain ⟨d,e,hρ,hx⟩:=hx.ptr_inv
   obtain ⟨hr,hij,hjc⟩:=JG (P:=P) hb (Nat.le_refl _) (Nat.le_refl _) (vF hL hl) (vF hL hh) false W
   refine Res.same hs (V:=.slice (some ⟨d,e.2+(if n=i then p else p+i * size),none⟩) (j - i) (n - i)) ?_ ?_
   ·by_cases hn:n=i
    ·subst hn
     simp [execOp,ho,hx,Instr.sliceAt,Instr.sureAddr,zY W hu,hr,jR W hk]
    ·simp [execOp,ho,hx,Instr.sliceAt,Instr.sureAddr,zY W hu,hr,jR W hk,hn,yO,Nat.add_assoc]
   ·have:=VRel.slice (ρ:=ρ) (b:=b) (o:=if n=i then p else p+i * size) (len:=j - i) (cap:=n - i) (ext:=false) hρ
    simpa using this
  ·cases h'
 ·cases h'
theorem juJ {t elem:TypeId} (hu:P.underlying t=some (.slice elem)) {size bytes:Nat} (hk:jv P elem=some size) (hbt:Yk P elem=some bytes) {z:List AV} (hz:Za P elem=some z)
  (hzl:z.length=size) {x y:Operand} {a b:Arg} (ha:jL x=some a) (hb:jL y=some b):Sound P (.makeSlice t x y) (Wi z bytes a b):=by
 intro o ho ρ L T s W v s' hL hs hf
 have hx:=zX hL ha
 have hy:=zX hL hb
 have h':VO z bytes s (a.ev L) (b.ev L)=.val v s':=hf
 generalize a.ev L=av at hx h'
 generalize b.ev L=bv at hy h'
 unfold VO at h'
 split at h'
 ·rename_i k l k' c
  split at h'
  ·cases h'
  ·rename_i h1
   split at h'
   ·cases h'
   ·rename_i h2
    split at h'
    ·cases h'
    ·rename_i h3
     cases h'
     have h1:l≤c:=Nat.le_of_ble_eq_true h1
     have h2:c * bytes≤limit:=Nat.le_of_ble_eq_true h2
     have h3:c≤limit:=Nat.le_of_ble_eq_true h3
     unfold limit at h2 h3
     have hx:evT T x=.int k (l:Int):=hx.int_inv
     have hy:evT T y=.int k' (c:Int):=hy.int_inv
     obtain ⟨Z,e1,e2⟩:=Jq W ρ hz
     obtain ⟨i,e3,e4⟩:=glJ W hbt
     have hzs:Z.cells.size=size:=by
      have:=e2.length;rw [hzl] at this;simpa using this.symm
     have e5:=jaA e2 c
     rw [hzs] at e5
     have w1:IntKind.i64.wrap (l:Int)=l:=IntWalk.i64_in _ (by omega)
     have w2:IntKind.i64.wrap (c:Int)=c:=IntWalk.i64_in _ (by omega)
     refine ⟨_,_,.slice (some ⟨W.heap.size,0,none⟩) l c,.inl ?_,JjA (el:=elem) hs e5,?_⟩
     ·have hm:(bytes:Int) * (c:Int)=((c * bytes:Nat):Int):=by rw [Nat.mul_comm];simp
      have hcond:(decide ((c:Int)<0) || decide ((bytes:Int) * (c:Int) > 2 ^ 48) || decide ((l:Int)<0) || decide ((l:Int) > (c:Int)))=false:=by
       rw [hm]
       simp only [Bool.or_eq_false_iff,decide_eq_false_iff_not]
       refine ⟨⟨⟨?_,?_⟩,?_⟩,?_⟩<;>omega
      simp only [execOp,ho,hx,hy,Instr.makeSlice,Sem.run_bind,zY W hu,Result.andThen_ok,asInt,asIntOf,Sem.run_pure,e3,e4,w1,w2]
      rw [if_neg (by rw [hcond];simp)]
      simp only [Int.toNat_natCast,Sem.run_bind,run_askRoom,Result.andThen_ok,jR W hk]
      by_cases h0:c * size=0
      ·rw [if_pos h0]
       have e6:∀ f:Nat→Value,Array.map f (Array.range 0)=#[]:=by intro f;simp
       simp [newRow,h0,e6]
      ·rw [if_neg h0]
       simp [newRow,e1,hzs]
     ·have:=VRel.slice (ρ:=ρ.put s.n (W.heap.size,(0,0))) (b:=s.n) (o:=0) (len:=l) (cap:=c) (ext:=false) (Rho.put_same _ _ _)
      simpa using this
 ·cases h'
theorem wMJ {ρ:Rho} {s:St} {W:World} (hs:SRel ρ s W):After ρ s W (ρ.put s.n (W.heap.size,(0,0))) (s.new (.map [])) { W with heap:=W.heap.push (.map #[] 0) } :=
 After.new hs rfl (.map .nil)
theorem gUJ {t:TypeId}:Sound P (.makeMap t none) ZRJ:=by
 intro o ho ρ L T s W v s' hL hs hf
 cases hf
 exact ⟨_,_,.map (some W.heap.size),.inl (by simp [execOp,ho,Instr.makeMap]),wMJ hs,.map (Rho.put_same _ _ _)⟩
theorem ZgA {t key elem:TypeId} (hu:P.underlying t=some (.map key elem)) {x:Operand} {a:Arg} (ha:jL x=some a):Sound P (.makeMap t (some x)) (kUn Jv a):=by
 intro o ho ρ L T s W v s' hL hs hf
 have hx:=zX hL ha
 have h':Jv s (a.ev L)=.val v s':=hf
 generalize a.ev L=av at hx h'
 unfold Jv at h'
 split at h'
 ·cases h'
  exact ⟨_,_,.map (some W.heap.size),.inl (by simp [execOp,ho,Instr.makeMap,zY W hu,hx.int_inv,asInt,asIntOf]),wMJ hs,.map (Rho.put_same _ _ _)⟩
 ·cases h'
theorem jPJ {len cap':Nat} {lo:Option AV} {hi mx:AV} {l h m:Nat} (hm:Yo len mx=some m) (hh:Yo m hi=some h) (hl:loA h lo=some l) (hcap:len≤cap') {ρ:Rho} {LO:Option Value} {HI MX:Value}
  (hlo:(lo=none∧LO=none)∨∃ v V,lo=some v∧LO=some V∧VRel ρ v V) (hhi:VRel ρ hi HI) (hmx:VRel ρ mx MX) (W:World) :
  (Instr.sliceBounds true len cap' LO (some HI) (some MX)).run P W=.ok (l,h,m) W:=by
 have M:=(JH (P:=P) hm hcap hmx .slice3Acap W).1
 have H:=(JH (P:=P) hh (Nat.le_refl _) hhi .slice3B W).1
 have Lo:(match LO with | some v=>Instr.sliceBound v h .slice3C | none=>pure 0:Sem Nat).run P W=.ok l W:=by
  rcases hlo with ⟨rfl,rfl⟩ | ⟨v,V,rfl,rfl,hv⟩
  ·cases hl;simp
  ·exact (JH hl (Nat.le_refl _) hv _ W).1
 unfold Instr.sliceBounds
 simp only [Sem.run_bind,Result.andThen_ok,M,H,Option.isSome_some,if_true]
 rcases hlo with ⟨rfl,rfl⟩ | ⟨v,V,rfl,rfl,hv⟩<;>simp_all
theorem gmA {x:Option Operand} {a:Arg} (h:VdJ x=some a):∃ y,x=some y∧jL y=some a:=by
 cases x with
 | none=>cases h
 | some y=>exact ⟨y,rfl,h⟩
theorem YgA {t:TypeId} {x m:Operand} {lo hi:Option Operand} {a c h:Arg} {l:Option Arg} (ha:jL x=some a) (hl:vr lo=some l) (hh:VdJ hi=some h) (hm:jL m=some c) {f:OpF} (hf:zcA P t a l h c=some f) :
  Sound P (.slice t x lo hi (some m)) f:=by
 obtain ⟨y,rfl,hy⟩:=gmA hh
 unfold zcA at hf
 split at hf
 ·rename_i elem hu
  split at hf
  ·rename_i size hk
   cases hf
   intro o ho ρ L T s W v s' hL hs hf
   have hx:=zX hL ha
   have hhv:=zX hL hy
   have hmv:=zX hL hm
   have h':YL (vx l L) (h.ev L) (c.ev L) s (a.ev L)=.val v s':=hf
   generalize a.ev L=av at hx h'
   unfold YL at h'
   split at h'
   ·rename_i b p len cap ext
    split at h'
    ·cases h'
    ·rename_i hle
     have hle:=Nat.le_of_ble_eq_true hle
     split at h'
     ·cases h'
     ·rename_i m' hm'
      split at h'
      ·cases h'
      ·rename_i h'' hh'
       split at h'
       ·cases h'
       ·rename_i l' hl'
        cases h'
        obtain ⟨d,e,hρ,hx⟩:=hx.slice_inv
        obtain ⟨e,z⟩:=e
        simp only at hx
        have hr:=jPJ (P:=P) hm' hh' hl' (cap':=if ext then cap+e else cap) (by split<;>omega) (vF hL hl) hhv hmv W
        exact Res.same hs (V:=.slice (if m'=l' then some ⟨d,z+p,none⟩ else (some (⟨d,z+p,none⟩:Addr)).map (·.add (l' * size))) (h'' - l') (m' - l')) (by simp [execOp,ho,hx,Instr.sliceAt,Instr.slice,zY W hu,hr,jR W hk]) (.bad _)
   ·cases h'
  ·cases hf
 ·cases hf
end Go.Abs
end
