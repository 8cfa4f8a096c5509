/- Operations that texts are made with: conversions that look into memory, unsafe.SliceData and unsafe.String. -/
import Derived.Test.YtoklbkgcclkejaaAbsSound7
import Derived.Lib.Builder
import Derived.Lib.UnsafeStr
import Derived.Laws.BytesString
noncomputable section
namespace Go.Abs
variable {P:Program}
theorem After.gone {ρ:Rho} {s:St} {W W':World} {b c:Nat} {e:Ext} {x:AObj} (h:SRel ρ s W) (hb:s.h.get b=some x) (hr:ρ b=some (c,e))
  (hsz:W'.heap.size=W.heap.size) (hot:∀ i,i≠c→W'.heap[i]? = W.heap[i]?) (hos:W'.os=W.os) (htape:W'.tape=W.tape) (hout:W'.output=W.output) :
  After ρ s W ρ (s.kill b) W':=by
 have d:∀ i y,(s.kill b).h.get i=some y→i≠b∧s.h.get i=some y:=by
  intro i y hy
  have hbig:=h.heap.low b x hb
  rw [St.kill_h] at hy
  rcases jY hy with ⟨_,_,hy⟩ | ⟨hy,h1 | h1⟩
  ·cases hy
  ·exact ⟨h1,hy⟩
  ·exact absurd hbig h1
 have a:=After.kill b h
 refine ⟨h,⟨⟨a.rel.heap.low,?_,a.rel.heap.inj,fun g cs hg=>(h.heap.tab g cs hg).of (hot g (h.heap.ne hb hr hg)),a.rel.heap.off,a.rel.heap.zed⟩,h.fresh⟩,a.le,a.n,a.m,a.same,hos,htape,hout,by rw [hsz];exact Nat.le_refl _,?_,a.from_,fun _ _=>rfl⟩
 ·rintro i p y ⟨u,hu,hm⟩
  obtain ⟨hne,hu'⟩:=d i u hu
  have hy':Has s.h i p y:=⟨u,hu',hm⟩
  obtain ⟨c1,e1,O,h1,h2,h3⟩:=h.heap.obj i p y hy'
  refine ⟨c1,e1,O,h1,?_,h3⟩
  rw [hot c1 ?_]
  ·exact h2
  ·intro z
   subst z
   exact hne (h.heap.inj _ _ _ _ _ _ _ _ _ hy' (.base hb) h1 hr)
 ·intro i hi hq
  refine hot i (fun z=>?_)
  subst z
  have h1:b<jt s.m b:=hq b b _ e (.base hb) hr
  have:=jQ s.m b
  omega
theorem YV:∀ {l:List AV} {bs:List UInt8},YW l=some bs→l=bs.map fun b=>.int .u8 (b.toNat:Int)
 | [],bs,h=>by cases h;rfl
 | v::r,bs,h=>by
  unfold YW at h
  split at h
  ·rename_i n l hl
   split at h
   ·rename_i hn
    cases h
    have hn:n≤255:=Nat.le_of_ble_eq_true hn
    have:=YV hl
    subst this
    have hb:(UInt8.ofNat n).toNat=n:=by rw [UInt8.toNat_ofNat'];exact Nat.mod_eq_of_lt (by omega)
    rw [List.map_cons,hb]
    rfl
   ·cases h
  ·cases h
theorem byte_vals {ρ:Rho}:∀ {bs:List UInt8} {L:List Value},VRels ρ (bs.map fun b=>.int .u8 (b.toNat:Int)) L→L=bs.map fun b=>.int .u8 (b.toNat:Int)
 | [],_,.nil=>rfl
 | b::bs,_,.cons x y=>by rw [x.int_inv,byte_vals y];rfl
theorem sound_cvTo {x:Operand} {a:Arg} {src dst t:TypeId} {k:Nat} (h1:P.underlying src=some (.pointer t)) (h2:P.underlying dst=some .unsafePointer) (h3:jc P t=some (k+1)) (ha:jI x=some a) :
  Sound P (.convert src dst x) (kUn cvToA a):=by
 intro o ho ρ L T s W v s' hL hs h
 have hx:=zV hL ha
 have h':cvToA s (a.ev L)=.val v s':=h
 generalize a.ev L=av at hx h'
 unfold cvToA at h'
 split at h'
 ·cases h'
  exact Res.same hs (V:=.pointer none) (by simp [execOp,ho,hx.nilptr_inv,convert,zS W h1,zS W h2,Conv.unsafePointer]) .nilptr
 ·rename_i b p
  obtain ⟨d,e,hρ,hx⟩:=hx.ptr_inv
  split at h'
  ·rename_i c sz hg
   split at h'
   ·rename_i hle
    cases h'
    have hle:p<c.length:=Nat.le_of_ble_eq_true hle
    obtain ⟨d',e',C,el,hρ',hW,hsz,hrel,_⟩:=yr hs hg
    rw [hρ] at hρ';cases hρ'
    have hsh:W.shape? d=some (el,C.size):=by simp [World.shape?,hW]
    unfold jc at h3
    split at h3
    ·rename_i j hj
     injection h3 with h3
     have hrun:=Lib.run_to_unsafe (P:=P) W (src:=src) (dst:=dst) ⟨d,e.2+p,none⟩ h1 h2 hj (by omega) hsh (by show e.2+p<C.size;omega)
     exact Res.same hs (V:=.pointer (some ⟨d,e.2+p,none⟩)) (by simp [execOp,ho,hx,hrun]) (.ptr hρ)
    ·cases h3
   ·cases h'
  ·cases h'
 ·cases h'
theorem sound_cvFrom {x:Operand} {a:Arg} {src dst u:TypeId} {k:Nat} (h1:P.underlying src=some .unsafePointer) (h2:P.underlying dst=some (.pointer u)) (h3:jc P u=some k)
  (h4:liesAt P P.depth u (k / P.cellsOf u) 0 u 1=true) (ha:jI x=some a):Sound P (.convert src dst x) (kUn (cvFromA k (tag u)) a):=by
 intro o ho ρ L T s W v s' hL hs h
 have hx:=zV hL ha
 have h':cvFromA k (tag u) s (a.ev L)=.val v s':=h
 generalize a.ev L=av at hx h'
 unfold cvFromA at h'
 split at h'
 ·cases h'
  exact Res.same hs (V:=.pointer none) (by simp [execOp,ho,hx.nilptr_inv,convert,zS W h1,zS W h2,Conv.unsafePointer]) .nilptr
 ·rename_i b p
  obtain ⟨d,e,hρ,hx⟩:=hx.ptr_inv
  split at h'
  ·cases h'
  ·rename_i hp
   have hp:=Nat.eq_of_beq_eq_true hp
   subst hp
   split at h'
   ·rename_i c sz hg
    split at h'
    ·cases h'
    ·rename_i hc
     have hc:=Nat.eq_of_beq_eq_true hc
     split at h'
     ·rename_i ht
      have ht:=Nat.eq_of_beq_eq_true ht
      subst ht
      cases h'
      obtain ⟨d',e',C,el,hρ',hW,hsz,hrel,htg⟩:=yr hs hg
      rw [hρ] at hρ';cases hρ'
      have t1:(0+tag u) / 1048576=u+1:=tag_div u 0 (by omega)
      have t2:(0+tag u) % 1048576=0:=tag_mod u 0 (by omega)
      rw [Nat.zero_add] at t1 t2
      obtain ⟨q1,q2,q3⟩:=htg u t1
      have q4:=q3 t2
      subst q1
      have hC:C.size=k:=by rw [hsz,q2,q4,hc];omega
      have hsh:W.shape? d=some (el,k):=by simp [World.shape?,hW,hC]
      unfold jc at h3
      split at h3
      ·rename_i j hj
       have hrun:=Lib.run_from_unsafe (P:=P) W (src:=src) (dst:=dst) ⟨d,e.2,none⟩ h1 h2 hj hsh (by rw [q2];exact h4)
       rw [Nat.add_zero] at hx
       exact Res.same hs (V:=.pointer (some ⟨d,e.2,none⟩)) (by simp [execOp,ho,hx,hrun]) (.ptr hρ)
      ·cases h3
     ·cases h'
   ·cases h'
 ·cases h'
theorem foldl_bytes:∀ (bs:List UInt8) (r:ByteArray),(bs.map fun b=>(b.toNat:Int)).foldl (fun r n=>r.push (UInt8.ofNat n.toNat)) r=⟨⟨r.data.toList++bs⟩⟩
 | [],r=>by cases r with | mk d=>cases d;simp
 | b::bs,r=>by
  rw [List.map_cons,List.foldl_cons,foldl_bytes bs]
  have:UInt8.ofNat ((b.toNat:Int).toNat)=b:=by simp
  rw [this]
  simp [ByteArray.push]
theorem sound_cvBytes {x:Operand} {a:Arg} {src dst e0:TypeId} (h1:P.underlying src=some (.slice e0)) (h2:P.underlying dst=some .string) (h3:P.underlying e0=some (.int .u8)) (ha:jI x=some a) :
  Sound P (.convert src dst x) (kUn Jp a):=by
 intro o ho ρ L T s W v s' hL hs h
 have hx:=zV hL ha
 have h':Jp s (a.ev L)=.val v s':=h
 generalize a.ev L=av at hx h'
 unfold Jp at h'
 split at h'
 ·cases h'
  refine Res.same hs (V:=.string .empty) ?_ ?_
  ·simp [execOp,ho,hx.nilslice_inv,convert,zS W h1,zS W h2,zS W h3,Conv.bytesToString]
  ·exact .str _
 ·rename_i b p n cap ext
  obtain ⟨d,e,hρ,hx⟩:=hx.slice_inv
  split at h'
  ·rename_i c sz hg
   split at h'
   ·rename_i l hcut
    cases hb:YW l with
    | none=>rw [hb] at h';cases h'
    | some bs =>
     rw [hb] at h'
     cases h'
     have hl:=YV hb
     obtain ⟨d',e',C,el,hρ',hW,hsz,hrel,_⟩:=yr hs hg
     rw [hρ] at hρ';cases hρ'
     obtain ⟨hl2,hlen⟩:=wP hcut
     have hr:VRels ρ ((c.drop p).take n) ((((C.toList.drop e.2).take c.length).drop p).take n):=(hrel.drop p).take n
     rw [← hl2,hl] at hr
     have hv:=byte_vals hr
     have hbl:bs.length=n:=by
      have:=congrArg List.length (hl2.symm.trans hl)
      rw [List.length_take,List.length_drop,List.length_map] at this
      omega
     have hload:=run_loadCells_list (P:=P) W ⟨d,e.2+p,none⟩ (bs.map fun b=>.int .u8 (b.toNat:Int)) (fun j v hj=>by
      rw [← hv] at hj
      have h2:=vP (vD (vP (vD hj)))
      rw [yD,JI hW,Nat.add_assoc]
      simpa using h2)
     rw [List.length_map,hbl] at hload
     have hmm:(bs.map fun b=>Value.int .u8 (b.toNat:Int))=(bs.map fun b=>(b.toNat:Int)).map (Value.int .u8):=by rw [List.map_map];rfl
     rw [hmm] at hload
     generalize (if ext then cap+e.1 else cap)=q at hx
     have hrun:=run_bytesToString (P:=P) W ⟨d,e.2+p,none⟩ n q _ hload
     rw [foldl_bytes] at hrun
     refine Res.same hs (V:=.string ⟨⟨bs⟩⟩) ?_ (.str _)
     have hcv:=run_convert_bytes_string (P:=P) W src dst e0 (some ⟨d,e.2+p,none⟩) n q h1 h3 h2
     rw [hrun] at hcv
     have hem:ByteArray.empty.data.toList++bs=bs:=rfl
     rw [hem] at hcv
     simp [execOp,ho,hx,hcv]
   ·cases h'
  ·cases h'
 ·cases h'
theorem sound_convH {x:Operand} {a:Arg} {src dst:TypeId} {f:OpF} (ha:jI x=some a) (h:convH P src dst a=some f):Sound P (.convert src dst x) f:=by
 unfold convH at h
 split at h
 ·rename_i h1 h2
  split at h
  ·rename_i h3;cases h;exact sound_cvTo h1 h2 h3 ha
  ·cases h
 ·rename_i h1 h2
  split at h
  ·rename_i h3
   split at h
   ·rename_i h4;cases h;exact sound_cvFrom h1 h2 h3 h4 ha
   ·cases h
  ·cases h
 ·rename_i h1 h2
  split at h
  ·rename_i h3;cases h;exact sound_cvBytes h1 h2 h3 ha
  ·cases h
 ·cases h
theorem sound_sliceData {args:Array Operand} {ts:Array TypeId} {a:Arg} (ha:jr args.toList=some [a]):Sound P (Zv .unsafeSliceData args ts) (kUn vt a):=by
 intro o ho ρ L T s W v s' hL hs hf
 obtain ⟨x,hl,ha⟩:=vU ha
 obtain ⟨cs,hrun⟩:=jk (P:=P) ho T W
 have hx:=zV hL ha
 have h':vt s (a.ev L)=.val v s':=hf
 generalize a.ev L=av at hx h'
 unfold vt at h'
 split at h'
 ·cases h'
  refine Res.same hs (V:=.pointer none) ?_ .nilptr
  rw [hrun,wV hl,hx.nilslice_inv]
  simp [builtin,Lib.run_unsafeSliceData_nil]
 ·rename_i b p n cap ext
  obtain ⟨d,e,hρ,hx⟩:=hx.slice_inv
  split at h'
  ·cases h'
  ·rename_i hc
   have hc:=Zf hc
   cases h'
   refine Res.same hs (V:=.pointer (some ⟨d,e.2+p,none⟩)) ?_ (.ptr hρ)
   rw [hrun,wV hl,hx]
   have:=Lib.run_unsafeSliceData_row (P:=P) W ts o.type ⟨d,e.2+p,none⟩ n (if ext then cap+e.1 else cap) (by split<;>omega)
   simp [builtin,this]
 ·cases h'
theorem sound_unsafeStr {pt it u:TypeId} (hp:P.underlying pt=some (.pointer u)) (hc:P.cellsOf u=1) {args:Array Operand} {ts:Array TypeId} (ht:ts.toList=[pt,it]) {a b:Arg} (ha:jr args.toList=some [a,b]) :
  Sound P (Zv .unsafeString args ts) (jO (vr (1+tag u)) a b):=by
 intro o ho ρ L T s W v s' hL hs hf
 have hts:ts=#[pt,it]:=by apply Array.ext';simpa using ht
 subst hts
 obtain ⟨x,y,hl,ha,hb⟩:=ZT ha
 obtain ⟨cs,hrun⟩:=jk (P:=P) ho T W
 have hx:=zV hL ha
 have hy:=zV hL hb
 have h':vr (1+tag u) s (a.ev L) (b.ev L)=.val v s':=hf
 generalize a.ev L=av at hx h'
 generalize b.ev L=bv at hy h'
 unfold vr at h'
 split at h'
 ·rename_i k
  have hy:evT T y=.int .i64 (k:Int):=hy.int_inv
  have none_case:∀ {q:Option Addr},evT T x=.pointer q→k=0→Res ((execOp (evT T) o).run P W) ρ s W (.str ⟨⟨[]⟩⟩) s:=by
   intro q hx h0
   subst h0
   refine Res.same hs (V:=.string .empty) ?_ (.str _)
   rw [hrun,args2 hl,hx,hy]
   have:=Lib.run_unsafeString_none (P:=P) W pt it o.type q
   simp [builtin,this]
  split at h'
  ·split at h'
   ·rename_i h0
    cases h'
    exact none_case hx.nilptr_inv (Nat.eq_of_beq_eq_true h0)
   ·cases h'
  ·rename_i bl p
   obtain ⟨d,e,hρ,hx⟩:=hx.ptr_inv
   split at h'
   ·rename_i h0
    cases h'
    exact none_case hx (Nat.eq_of_beq_eq_true h0)
   ·rename_i h0
    have h0:=Zf h0
    split at h'
    ·rename_i hp0 hkl
     have hp0:=Nat.eq_of_beq_eq_true hp0
     have hkl:k≤1000000:=Nat.le_of_ble_eq_true hkl
     subst hp0
     split at h'
     ·rename_i c sz hg
      split at h'
      ·rename_i hsz
       have hsz:=Nat.eq_of_beq_eq_true hsz
       subst hsz
       split at h'
       ·rename_i l hcut
        cases hb':YW l with
        | none=>rw [hb'] at h';cases h'
        | some bs =>
         rw [hb'] at h'
         cases h'
         have hll:=YV hb'
         obtain ⟨d',e',C,el,hρ',hW,hC,hrel,htg⟩:=yr hs hg
         rw [hρ] at hρ';cases hρ'
         obtain ⟨q1,q2,_⟩:=htg u (tag_div u 1 (by omega))
         subst q1
         obtain ⟨hl2,hlen⟩:=wP hcut
         rw [List.drop_zero] at hl2
         have hr:VRels ρ (c.take k) (((C.toList.drop e.2).take c.length).take k):=hrel.take k
         rw [← hl2,hll] at hr
         have hv:=byte_vals hr
         have hbl:bs.length=k:=by
          have:=congrArg List.length (hl2.symm.trans hll)
          rw [List.length_take,List.length_map] at this
          omega
         have hcell:∀ j x,bs[j]? = some x→W.cell? ((⟨d,0,none⟩:Addr).add j)=some (.int .u8 x.toNat):=by
          intro j x hj
          have hj':(bs.map fun b=>Value.int .u8 (b.toNat:Int))[j]? = some (.int .u8 (x.toNat:Int)):=by rw [List.getElem?_map,hj];rfl
          rw [← hv] at hj'
          have h2:=vP (vD (vD hj'))
          rw [q2] at h2
          rw [yD,JI hW]
          simpa using h2
         have hCs:k≤C.size:=by rw [hC];omega
         have hsh:W.shape? d=some (el,C.size):=by simp [World.shape?,hW]
         have hrow:=Lib.run_unsafeString_row (P:=P) W pt it o.type el hp hc d C.size hsh bs (by intro z;subst z;simp at hbl;omega) (by omega) (by omega) hcell
         have hfr:(W.freeze ⟨d,0,none⟩ bs.length).heap.size=W.heap.size:=by unfold World.freeze;split<;>simp
         have haf:=After.gone (W':=W.freeze ⟨d,0,none⟩ bs.length) hs hg hρ hfr (by
          intro i hi
          unfold World.freeze
          split
          ·rfl
          ·simp only [Array.getElem?_modify]
           rw [if_neg (by omega)]) (by unfold World.freeze;split<;>rfl) (by unfold World.freeze;split<;>rfl) (by unfold World.freeze;split<;>rfl)
         refine ⟨ρ,W.freeze ⟨d,0,none⟩ bs.length,.string ⟨⟨bs⟩⟩,.inl ?_,haf,.str _⟩
         have hx:evT T x=.pointer (some ⟨d,0,none⟩):=by rw [hx,q2]
         rw [hbl] at hrow ⊢
         rw [hrun,args2 hl,hx,hy]
         simp [builtin,hrow]
       ·cases h'
      ·cases h'
     ·cases h'
    ·cases h'
  ·cases h'
 ·cases h'
end Go.Abs
end
