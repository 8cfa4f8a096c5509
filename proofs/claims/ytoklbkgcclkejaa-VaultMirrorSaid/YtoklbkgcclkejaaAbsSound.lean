/- Each operation that is no call of a function: what the interpreter says of it is what the model does. -/
import Derived.Test.YtoklbkgcclkejaaAbsMem
noncomputable section
namespace Go.Abs
def Sound (P:Program) (op:Op) (f:OpF):Prop :=
 ∀ (o:Oper),o.op=op→∀ (ρ:Rho) (L:Env) (T:Array Value) (s:St) (W:World) (v:AV) (s':St),EnvRel ρ L T→SRel ρ s W→f L s=.val v s' →
  Res ((execOp (evT T) o).run P W) ρ s W v s'
theorem VRel.func_inv {ρ:Rho} {f:FuncId} {l r:List AV} {V:Value} (h:VRel ρ (.func f l r) V):∃ F C,V=.func (.func f) F C∧VRels ρ l F.toList∧VRels ρ r C.toList:=by
 cases h with | func x y=>exact ⟨_,_,rfl,x,y⟩
theorem VRel.yield_inv {ρ:Rho} {l:Nat} {V:Value} (h:VRel ρ (.yield l) V):∃ c e,ρ l=some (c,e)∧V=.func (.yield c) #[] #[]:=by
 cases h with | yield e=>exact ⟨_,_,e,rfl⟩
theorem VRel.map_inv {ρ:Rho} {l:Nat} {V:Value} (h:VRel ρ (.map l) V):∃ c e,ρ l=some (c,e)∧V=.map (some c):=by
 cases h with | map e=>exact ⟨_,_,e,rfl⟩
theorem VRel.nilmap_inv {ρ:Rho} {V:Value} (h:VRel ρ .nilmap V):V=.map none:=by cases h;rfl
theorem VRel.nilslice_inv {ρ:Rho} {V:Value} (h:VRel ρ .nilslice V):V=.slice none 0 0:=by cases h;rfl
variable {P:Program}
theorem jtJ {x:Operand} {a:Arg} (ha:jL x=some a):Sound P (.move x) (zE a):=by
 intro o ho ρ L T s W v s' hL hs h
 cases h
 exact Res.same hs (by simp [execOp,ho]) (zX hL ha)
theorem YnA {x:Operand} {a:Arg} (ha:jL x=some a):Sound P (.assign x) (zE a):=by
 intro o ho ρ L T s W v s' hL hs h
 cases h
 exact Res.same hs (by simp [execOp,ho]) (zX hL ha)
theorem jsJ {x y z:Operand} {c a b:Arg} (hc:jL x=some c) (ha:jL y=some a) (hb:jL z=some b):Sound P (.pick x y z) (yY c a b):=by
 intro o ho ρ L T s W v s' hL hs h
 obtain ⟨t,e,h⟩:=YR h
 have hx:=zX hL hc
 rw [e] at hx
 have hx:=hx.bool_inv
 cases t with
 | true=>cases h;exact Res.same hs (by simp [execOp,ho,hx,asBool]) (zX hL ha)
 | false=>cases h;exact Res.same hs (by simp [execOp,ho,hx,asBool]) (zX hL hb)
theorem VJ {ρ:Rho} {s:St} {W:World} (hs:SRel ρ s W) {l:List AV} {C:Array Value} {el:TypeId} (hl:VRels ρ l C.toList) {sz:Nat} (ht:Typed sz el (0,0)) :
  After ρ s W (ρ.put s.n (W.heap.size,(0,0))) (s.new (.cells l sz)) { W with heap:=W.heap.push (.cells C el) }:=by
 refine After.new hs rfl (.cells (by have:=hl.length;simpa using this.symm) ?_ ht)
 have:(C.toList.drop 0).take l.length=C.toList:=List.take_of_length_le (by rw [hl.length];exact Nat.le_refl _)
 rw [this]
 exact hl.mono (Rho.put_le _ (hs.fresh _ (Nat.le_refl _)))
theorem JjA {ρ:Rho} {s:St} {W:World} (hs:SRel ρ s W) {l:List AV} {C:Array Value} {el:TypeId} (hl:VRels ρ l C.toList) :
  After ρ s W (ρ.put s.n (W.heap.size,(0,0))) (s.new (.cells l 0)) { W with heap:=W.heap.push (.cells C el) }:=VJ hs hl (.none (by omega))
theorem WhA {t:TypeId} {z:List AV} (hz:Za P t=some z):Sound P (.alloc t) (jQ z (tag t)):=by
 intro o ho ρ L T s W v s' hL hs h
 cases h
 obtain ⟨Z,h1,h2⟩:=Jq W ρ hz
 refine ⟨_,_,.pointer (some ⟨W.heap.size,0,none⟩),.inl ?_,VJ (el:=t) hs h2 (.tag t),.ptr (Rho.put_same _ _ _)⟩
 simp [execOp,ho,Instr.alloc,h1,newVar,newRow]
theorem VTJ {sz:Nat} {s s':St} {a v:AV} (h:vXA sz s a=.val v s'):∃ l,v=.ptr s.n 0∧s'=s.new (.cells l sz)∧∀ {ρ:Rho} {V:Value},VRel ρ a V→VRels ρ l V.cells.toList:=by
 cases a<;>first
  | (cases h;exact ⟨_,rfl,rfl,fun hv=>by cases hv;assumption⟩)
  | (cases h;done)
  | (cases h;exact ⟨_,rfl,rfl,fun hv=>by cases hv<;>exact .cons (by constructor<;>assumption) .nil⟩)
theorem gaJ {t:TypeId} {x:Operand} {a:Arg} (ha:jL x=some a):Sound P (.box t x) (yF (tag t) a):=by
 intro o ho ρ L T s W v s' hL hs h
 obtain ⟨l,rfl,rfl,hl⟩:=VTJ h
 have hr:=hl (zX hL ha)
 refine ⟨_,_,.pointer (some ⟨W.heap.size,0,none⟩),.inl ?_,VJ (el:=t) hs hr (.tag t),.ptr (Rho.put_same _ _ _)⟩
 simp [execOp,ho,Instr.box,newVar,newRow]
theorem jwJ {t:TypeId} {sh:Option Nat} (ht:yH P t=some sh) {x:Operand} {a:Arg} (ha:jL x=some a):Sound P (.load t x) (zI sh a):=by
 intro o ho ρ L T s W v s' hL hs h
 obtain ⟨h,hb⟩:=gN h
 have hx:=zX hL ha
 rcases wt h with ⟨b,p,e,h⟩ | ⟨g,p,e,h⟩ | ⟨b,w,p,e,h⟩
 case inr.inr =>
  rw [e] at hx
  obtain ⟨_,d,k,_,hρ,hx⟩:=hx.vp_inv
  unfold vAA at h
  split at h
  ·rename_i c hg
   obtain ⟨sz,hg⟩:=ZI hg
   cases h
   obtain ⟨d',e',C,el,hρ',hW,hsz,hrel,_⟩:=ZK hs hg
   rw [hρ] at hρ';cases hρ'
   obtain ⟨V,hV,hr⟩:=wo ht hW hrel rfl hb
   exact Res.same hs (by simp [execOp,ho,Instr.loadAt,hx,Instr.sureAddr,hV]) hr
  ·cases h
 case inr.inl =>
  rw [e] at hx
  have hx:=hx.gptr_inv
  unfold JmA at h
  split at h
  ·rename_i c hg
   cases h
   obtain ⟨V,hV,hr⟩:=YBA (P:=P) ht hs hg rfl hb
   exact Res.same hs (by simp [execOp,ho,Instr.loadAt,hx,Instr.sureAddr,hV]) hr
  ·cases h
 rw [e] at hx
 obtain ⟨d,k,hρ,hx⟩:=hx.ptr_inv
 unfold gM at h
 split at h
 ·rename_i c sz hg
  cases h
  obtain ⟨d',e',C,el,hρ',hW,hsz,hrel,_⟩:=gj hs hg
  rw [hρ] at hρ';cases hρ'
  obtain ⟨V,hV,hr⟩:=wo ht hW hrel rfl hb
  exact Res.same hs (by simp [execOp,ho,Instr.loadAt,hx,Instr.sureAddr,hV]) hr
 ·rename_i c sz k' vs hg
  cases h
  obtain ⟨d',e',C,el,hρ',hW,hsz,hrel,_⟩:=ZK hs (Has.base hg)
  rw [hρ] at hρ';cases hρ'
  obtain ⟨V,hV,hr⟩:=wo ht hW hrel rfl hb
  exact Res.same hs (by simp [execOp,ho,Instr.loadAt,hx,Instr.sureAddr,hV]) hr
 ·cases h
theorem WZA {t:TypeId} {k:Nat} (ht:jv P t=some k) {x y:Operand} {a b:Arg} (ha:jL x=some a) (hb:jL y=some b):Sound P (.store t x y) (jD k a b):=by
 intro o ho ρ L T s W v s' hL hs h
 have hx:=zX hL ha
 have hy:=zX hL hb
 have h':jM k s (b.ev L) (a.ev L)=.val v s':=h
 generalize a.ev L=av at hx h'
 generalize b.ev L=bv at hy h'
 cases av<;>simp only [jM,reduceCtorEq] at h'
 rename_i bl p
 obtain ⟨d,e,hρ,hx⟩:=hx.ptr_inv
 split at h'
 ·rename_i c sz hg
  split at h'
  ·cases h'
  ·rename_i vs hvs
   split at h'
   ·cases h'
   ·rename_i hsc
    split at h'
    ·rename_i c' hov
     cases h'
     obtain ⟨hrel,hk⟩:=vPA hvs hy
     obtain ⟨W',hrun,haf⟩:=yaA (P:=P) hs hg hρ hrel hsc hov
     refine ⟨ρ,W',undef,.inr ⟨?_,rfl⟩,haf,.tup .nil⟩
     simp [execOp,ho,Instr.storeAt,hx,Instr.sureAddr,storeVar,jR W ht,hk,hrun]
    ·cases h'
 ·cases h'
theorem gQJ {x:Operand} {a:Arg} (ha:jL x=some a):Sound P (.nilCheck x) (kUn Zw a):=by
 intro o ho ρ L T s W v s' hL hs h
 have hx:=zX hL ha
 have h':Zw s (a.ev L)=.val v s':=h
 generalize a.ev L=av at hx h'
 cases av<;>simp only [Zw,reduceCtorEq,ARes.val.injEq] at h'
 case ptr b p =>
  obtain ⟨rfl,rfl⟩:=h'
  obtain ⟨d,e,hρ,hV⟩:=hx.ptr_inv
  exact Res.same hs (by simp [execOp,ho,hV]) (.ptr hρ)
 case func f l r =>
  obtain ⟨rfl,rfl⟩:=h'
  obtain ⟨F,C,hV,h1,h2⟩:=hx.func_inv
  exact Res.same hs (V:=.func (.func f) F C) (by simp [execOp,ho,hV]) (.func h1 h2)
 case gptr g p =>
  obtain ⟨rfl,rfl⟩:=h'
  exact Res.same hs (by simp [execOp,ho,hx.gptr_inv]) (.gptr g p)
 case vp b w p =>
  obtain ⟨rfl,rfl⟩:=h'
  obtain ⟨y,d,e,hy,hρ,hV⟩:=hx.vp_inv
  exact Res.same hs (by simp [execOp,ho,hV]) (.vp hy hρ)
 case yield l =>
  obtain ⟨rfl,rfl⟩:=h'
  obtain ⟨c,e,h1,hV⟩:=hx.yield_inv
  exact Res.same hs (V:=.func (.yield c) #[] #[]) (by simp [execOp,ho,hV]) (.yield h1)
theorem vUA {t:TypeId} {fs:Array Field} (ht:P.underlying t=some (.struct fs)) {i:Nat} {off k:Nat} (hp:fieldPlace P fs i=some (off,k+1)) {x:Operand} {a:Arg} (ha:jL x=some a) :
  Sound P (.fieldAddr t x i) (kUn (zS off) a):=by
 intro o ho ρ L T s W v s' hL hs h
 have hx:=zX hL ha
 rcases wt h with ⟨b,p,e,h⟩ | ⟨g,p,e,h⟩ | ⟨b,w,p,e,h⟩
 case inr.inr =>
  cases h
  rw [e] at hx
  obtain ⟨y,d,k',hy,hρ,hx⟩:=hx.vp_inv
  unfold fieldPlace at hp
  split at hp
  ·rename_i f hf
   split at hp
   ·rename_i n hn
    cases hp
    refine Res.same hs (V:=.pointer (some ⟨d,k'.2+(p+f.offset),none⟩)) ?_ (.vp hy hρ)
    simp [execOp,ho,Instr.fieldAt,zY W ht,hf,hx,Instr.sureAddr,Go.fieldPlace,jR W hn,yO,Nat.add_assoc]
   ·cases hp
  ·cases hp
 case inr.inl =>
  cases h
  rw [e] at hx
  have hx:=hx.gptr_inv
  unfold fieldPlace at hp
  split at hp
  ·rename_i f hf
   split at hp
   ·rename_i n hn
    cases hp
    refine Res.same hs (V:=.pointer (some ⟨g,p+f.offset,none⟩)) ?_ (.gptr _ _)
    simp [execOp,ho,Instr.fieldAt,zY W ht,hf,hx,Instr.sureAddr,Go.fieldPlace,jR W hn,yO]
   ·cases hp
  ·cases hp
 cases h
 rw [e] at hx
 obtain ⟨d,k',hρ,hx⟩:=hx.ptr_inv
 unfold fieldPlace at hp
 split at hp
 ·rename_i f hf
  split at hp
  ·rename_i n hn
   cases hp
   refine Res.same hs (V:=.pointer (some ⟨d,k'.2+(p+f.offset),none⟩)) ?_ (.ptr hρ)
   simp [execOp,ho,Instr.fieldAt,zY W ht,hf,hx,Instr.sureAddr,Go.fieldPlace,jR W hn,yO,Nat.add_assoc]
  ·cases hp
 ·cases hp
theorem WdA {t:TypeId} {fs:Array Field} (ht:P.underlying t=some (.struct fs)) {i:Nat} {f:Field} (hf:fs[i]? = some f) {sh:Option Nat} (hsh:yH P f.type=some sh)
  {x:Operand} {a:Arg} (ha:jL x=some a):Sound P (.field t x i) (kUn (WS sh f.offset) a):=by
 intro o ho ρ L T s W v s' hL hs h
 obtain ⟨l,e,h⟩:=JgA h
 obtain ⟨h,hb⟩:=gN h
 cases h
 have hx:=zX hL ha
 rw [e] at hx
 obtain ⟨C,hV,hl⟩:=hx.agg_inv
 obtain ⟨V,h1,h2⟩:=Wy hsh W hl rfl hb
 exact Res.same hs (V:=V) (by simp [execOp,ho,Instr.field,zY W ht,hf,hV,asAgg,h1]) h2
theorem wVA {s s':St} {b o len size i:Nat} {v:AV} (h:Zo s b o len size i=.val v s'):i<len∧v=.ptr b (o+i * size)∧s'=s:=by
 unfold Zo at h
 cases e:Nat.ble (Nat.succ i) len with
 | false=>rw [e] at h;cases h
 | true=>rw [e] at h;cases h;exact ⟨Nat.le_of_ble_eq_true e,rfl,rfl⟩
theorem yUJ {s s':St} {b o len size i:Nat} {v:AV} (h:jqA s b o len size i=.val v s'):i<len∧v=.gptr b (o+i * size)∧s'=s:=by
 unfold jqA at h
 cases e:Nat.ble (Nat.succ i) len with
 | false=>rw [e] at h;cases h
 | true=>rw [e] at h;cases h;exact ⟨Nat.le_of_ble_eq_true e,rfl,rfl⟩
theorem yTJ {s s':St} {b w len size i:Nat} {v:AV} (h:jpA s b w len size i=.val v s'):i<len∧v=.vp b w (i * size)∧s'=s:=by
 unfold jpA at h
 cases e:Nat.ble (Nat.succ i) len with
 | false=>rw [e] at h;cases h
 | true=>rw [e] at h;cases h;exact ⟨Nat.le_of_ble_eq_true e,rfl,rfl⟩
theorem jdA {t elem:TypeId} (ht:P.underlying t=some (.slice elem)) {size:Nat} (hk:jv P elem=some size) {x y:Operand} {a b:Arg} (ha:jL x=some a) (hb:jL y=some b) :
  Sound P (.indexAddr t x y) (jJ (jX size) a b):=by
 intro o ho ρ L T s W v s' hL hs h
 obtain ⟨k,i,e1,h⟩:=WC h
 rcases ywA h with ⟨bl,p,len,cap,ext,e2,h⟩ | ⟨bl,w,len,e2,h⟩
 case inr =>
  obtain ⟨hi,rfl,rfl⟩:=yTJ h
  have hx:=zX hL ha
  have hy:=zX hL hb
  rw [e2] at hx;rw [e1] at hy
  obtain ⟨q,d,e,hq,hρ,hx⟩:=hx.vs_inv
  have hy:=hy.int_inv
  refine Res.same hs (V:=.pointer (some ⟨d,e.2+i * size,none⟩)) ?_ (.vp hq hρ)
  simp [execOp,ho,Instr.indexAt,zY W ht,hx,hy,asIntOf,jR W hk,yO,hi]
 obtain ⟨hi,rfl,rfl⟩:=wVA h
 have hx:=zX hL ha
 have hy:=zX hL hb
 rw [e2] at hx;rw [e1] at hy
 obtain ⟨d,e,hρ,hx⟩:=hx.slice_inv
 have hy:=hy.int_inv
 refine Res.same hs (V:=.pointer (some ⟨d,e.2+(p+i * size),none⟩)) ?_ (.ptr hρ)
 simp [execOp,ho,Instr.indexAt,zY W ht,hx,hy,asIntOf,jR W hk,yO,hi,Nat.add_assoc]
theorem wHA {t elem:TypeId} {n:Nat} (ht:P.underlying t=some (.array n elem)) {size:Nat} (hk:jv P elem=some size) {x y:Operand} {a b:Arg} (ha:jL x=some a) (hb:jL y=some b) :
  Sound P (.indexAddr t x y) (jJ (jHA n size) a b):=by
 intro o ho ρ L T s W v s' hL hs h
 obtain ⟨k,i,e1,h⟩:=WC h
 have hx:=zX hL ha
 have hy:=zX hL hb
 rcases wt h with ⟨bl,p,e2,h⟩ | ⟨bl,p,e2,h⟩ | ⟨_,_,_,_,h⟩
 case inr.inr=>cases h
 case inr.inl =>
  obtain ⟨hi,rfl,rfl⟩:=yUJ h
  rw [e2] at hx;rw [e1] at hy
  have hx:=hx.gptr_inv
  have hy:=hy.int_inv
  refine Res.same hs (V:=.pointer (some ⟨bl,p+i * size,none⟩)) ?_ (.gptr _ _)
  simp [execOp,ho,Instr.indexAt,zY W ht,hx,hy,asIntOf,Instr.sureAddr,jR W hk,yO,hi]
 obtain ⟨hi,rfl,rfl⟩:=wVA h
 rw [e2] at hx;rw [e1] at hy
 obtain ⟨d,e,hρ,hx⟩:=hx.ptr_inv
 have hy:=hy.int_inv
 refine Res.same hs (V:=.pointer (some ⟨d,e.2+(p+i * size),none⟩)) ?_ (.ptr hρ)
 simp [execOp,ho,Instr.indexAt,zY W ht,hx,hy,asIntOf,Instr.sureAddr,jR W hk,yO,hi,Nat.add_assoc]
theorem WcA {t elem:TypeId} {n:Nat} (ht:P.underlying t=some (.array n elem)) {size:Nat} (hk:jv P elem=some size) {sh:Option Nat} (hsh:yH P elem=some sh)
  {x y:Operand} {a b:Arg} (ha:jL x=some a) (hb:jL y=some b):Sound P (.index t x y) (jJ (vCJ n size sh) a b):=by
 intro o ho ρ L T s W v s' hL hs h
 have hx:=zX hL ha
 have hy:=zX hL hb
 have h':vCJ n size sh s (a.ev L) (b.ev L)=.val v s':=h
 generalize a.ev L=av at hx h'
 generalize b.ev L=bv at hy h'
 unfold vCJ at h'
 split at h'
 ·rename_i k i
  split at h'
  ·rename_i cs
   split at h'
   ·rename_i hle
    obtain ⟨h1,hbad⟩:=gN h'
    cases h1
    have hi:i<n:=Nat.le_of_ble_eq_true hle
    have hy:=hy.int_inv
    obtain ⟨C,hV,hl⟩:=hx.agg_inv
    obtain ⟨V,h1,h2⟩:=Wy hsh W hl rfl hbad
    have h1':(part elem C (i * size)).run P W=.ok V W:=h1
    exact Res.same hs (V:=V) (by simp [execOp,ho,Instr.index,zY W ht,hV,hy,asIntOf,jR W hk,hi,h1']) h2
   ·cases h'
  ·cases h'
 ·cases h'
theorem wGA {t:TypeId} (ht:P.underlying t=some .string) {x y:Operand} {a b:Arg} (ha:jL x=some a) (hb:jL y=some b):Sound P (.index t x y) (jJ vBJ a b):=by
 intro o ho ρ L T s W v s' hL hs h
 have hx:=zX hL ha
 have hy:=zX hL hb
 have h':vBJ s (a.ev L) (b.ev L)=.val v s':=h
 generalize a.ev L=av at hx h'
 generalize b.ev L=bv at hy h'
 unfold vBJ at h'
 split at h'
 ·rename_i k i
  split at h'
  ·rename_i st
   split at h'
   ·rename_i c hc
    cases h'
    have hy:=hy.int_inv
    have hx:=hx.str_inv
    refine Res.same hs (V:=.int .u8 c.toNat) ?_ (.int _ _)
    simp [execOp,ho,Instr.index,zY W ht,hx,hy,asIntOf,hc]
   ·cases h'
  ·cases h'
 ·cases h'
theorem ZhA {i:Nat} {x:Operand} {a:Arg} (ha:jL x=some a):Sound P (.extract x i) (kUn (Jo i) a):=by
 have nthO_eq:∀ (l:List AV) (i:Nat),WkJ l i=l[i]? := by
  intro l
  induction l with
  | nil=>intro i;rfl
  | cons a l ih=>intro i;cases i with
   | zero=>rfl
   | succ i=>simpa [WkJ] using ih i
 intro o ho ρ L T s W v s' hL hs h
 have hx:=zX hL ha
 have h':Jo i s (a.ev L)=.val v s':=h
 generalize a.ev L=av at hx h'
 unfold Jo at h'
 split at h'
 ·split at h'
  ·rename_i vs w hw
   cases h'
   obtain ⟨C,hV,hl⟩:=hx.tup_inv
   obtain ⟨V,h1,h2⟩:=hl.get i _ (by rw [← nthO_eq];exact hw)
   have h1':C[i]? = some V:=by simpa using h1
   exact Res.same hs (V:=V) (by simp [execOp,ho,Instr.extract,hV,h1']) h2
  ·cases h'
 ·cases h'
theorem jxJ {f:FuncId} {xs ys:Array Operand} {l r:List Arg} (hl:jz xs.toList=some l) (hr:jz ys.toList=some r):Sound P (.makeFunc (.func f) xs ys) (JQ f l r):=by
 intro o ho ρ L T s W v s' hL hs h
 cases h
 refine Res.same hs (V:=.func (.func f) (xs.map (evT T)) (ys.map (evT T))) (by simp [execOp,ho,Instr.makeFunc]) (.func ?_ ?_)
 ·simpa using gJ hL hl
 ·simpa using gJ hL hr
theorem gPJ {x:Operand} {a:Arg} {t:TypeId} (ha:jL x=some a):Sound P (.unOp .not t x) (kUn Zs a):=by
 intro o ho ρ L T s W v s' hL hs h
 obtain ⟨b,e,h⟩:=YR h
 cases h
 have hx:=zX hL ha
 rw [e] at hx
 exact Res.same hs (V:=.bool (!b)) (by simp [execOp,ho,hx.bool_inv,Op.unary]) (.bool _)
theorem gRJ {x:Operand} {a:Arg} {t:TypeId} (ha:jL x=some a):Sound P (.unOp .neg t x) (kUn YFJ a):=by
 intro o ho ρ L T s W v s' hL hs h
 have hx:=zX hL ha
 have h':YFJ s (a.ev L)=.val v s':=h
 generalize a.ev L=av at hx h'
 unfold YFJ at h'
 split at h'
 ·rename_i k n
  cases h'
  refine Res.same hs (V:=.int k (k.wrap (0 - n))) (by simp [execOp,ho,hx.int_inv,Op.unary,Op.intArith]) ?_
  rw [gQ];exact .int _ _
 ·cases h'
theorem gLJ {x:Operand} {a:Arg} {t:TypeId} (ha:jL x=some a):Sound P (.unOp .xor t x) (kUn ZqJ a):=by
 intro o ho ρ L T s W v s' hL hs h
 have hx:=zX hL ha
 have h':ZqJ s (a.ev L)=.val v s':=h
 generalize a.ev L=av at hx h'
 unfold ZqJ at h'
 split at h'
 ·rename_i k n
  cases h'
  exact Res.same hs (by simp [execOp,ho,hx.int_inv,Op.unary,Op.intBits]) (.int _ _)
 ·cases h'
theorem gYJ {x:Operand} {a:Arg} {src dst:TypeId} {k0 k:IntKind} (h1:P.underlying src=some (.int k0)) (h2:P.underlying dst=some (.int k)) (ha:jL x=some a) :
  Sound P (.convert src dst x) (kUn (jFJ k) a):=by
 intro o ho ρ L T s W v s' hL hs h
 have hx:=zX hL ha
 have h':jFJ k s (a.ev L)=.val v s':=h
 generalize a.ev L=av at hx h'
 unfold jFJ at h'
 split at h'
 ·rename_i k' n
  cases h'
  refine Res.same hs (V:=.int k (k.wrap n)) (by simp [execOp,ho,hx.int_inv,convert,zY W h1,zY W h2,Conv.intToInt]) ?_
  rw [gQ];exact .int _ _
 ·cases h'
theorem gXJ {x:Operand} {a:Arg} {src dst:TypeId} (h1:P.underlying src=some .string) (h2:P.underlying dst=some .string) (ha:jL x=some a) :
  Sound P (.convert src dst x) (kUn VGJ a):=by
 intro o ho ρ L T s W v s' hL hs h
 have hx:=zX hL ha
 have h':VGJ s (a.ev L)=.val v s':=h
 generalize a.ev L=av at hx h'
 unfold VGJ at h'
 split at h'
 ·cases h'
  exact Res.same hs (by simp [execOp,ho,hx.str_inv,convert,zY W h1,zY W h2]) (.str _)
 ·cases h'
end Go.Abs
end
