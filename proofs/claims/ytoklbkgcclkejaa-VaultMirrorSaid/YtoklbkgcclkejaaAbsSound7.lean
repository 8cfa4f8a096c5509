/- append. -/
import Derived.Test.YtoklbkgcclkejaaAbsSound6
import Derived.Laws.AppendOwn
import Derived.KernelRfl
import Derived.Lib.MakeNoZero
set_option linter.unusedVariables false
noncomputable section
namespace Go.Abs
variable {P:Program}
theorem ZeA {ρ:Rho} {z:List AV} {Z:Array Value} (h:VRels ρ z Z.toList) (n:Nat):VRels ρ (vV z n) (Builtin.zeroCells Z n).toList:=jaA h n
theorem Yv (Z:Array Value) (n:Nat):(Builtin.zeroCells Z n).size=n * Z.size:=by simp [Builtin.zeroCells]
def drawnNew (W:World) (o:Obj):World:={ W with drawn:=W.drawn+1,heap:=W.heap.push o }
theorem After.drawnNew {ρ:Rho} {s:St} {W:World} {l:List AV} {C:Array Value} {el:TypeId} {size sz e:Nat} (hs:SRel ρ s W)
  (hl:VRels ρ l (C.toList.take l.length)) (hsz:C.size=l.length+e * size) (h0:vD sz=size) (ht:Typed sz el (e,0)) :
  After ρ s W (ρ.put s.n (W.heap.size,(e,0))) (s.new (.cells l sz)) (Abs.drawnNew W (.cells C el)):=by
 have h1:After ρ s W ρ s { W with drawn:=W.drawn+1 }:=After.drew hs rfl rfl rfl rfl
 have h2:=After.new (W:={ W with drawn:=W.drawn+1 }) (W':=Abs.drawnNew W (.cells C el)) (e:=(e,0)) (o:=.cells l sz) (O:=.cells C el) h1.rel rfl
  (.cells (by rw [hsz,h0];show _=0+l.length+e * size;omega) (hl.mono (Rho.put_le _ (hs.fresh _ (Nat.le_refl _)))) ht)
 exact h1.trans h2
inductive AppSrc (P:Program) (ts:Array TypeId) (size:Nat) (i:TypeInfo) (Z Y:Value) (n:Nat) (N:Array Value) (W:World):Prop
 | list:ZJ P ts[1]? = some false→(Builtin.lenOf Y).run P W=.ok n W→(∀ W':World,W'.heap=W.heap→(Builtin.firstCells size n Y).run P W'=.ok N W')→AppSrc P ts size i Z Y n N W
 | zeros {k:IntKind}:ZJ P ts[1]? = some true→Y=.int k n→n * i.bytes≤limit→n≤limit→N=(if n * size=0 then #[] else Builtin.zeroCells Z.cells n)→AppSrc P ts size i Z Y n N W
theorem Yu {n b:Nat} (hl:n * b≤limit) (hn:n≤limit):IntKind.i64.wrap (n:Int)=n∧¬ ((n:Int)<0)∧¬ ((281474976710656:Int)<(n:Int) * (b:Int)):=by
 unfold limit at hl hn
 refine ⟨IntWalk.i64_in _ (by omega),by omega,?_⟩
 have:((n * b:Nat):Int)=(n:Int) * (b:Int):=by simp
 omega
theorem zgA {ts:Array TypeId} {t e ty:TypeId} (ht:ts[0]? = some t) (hu:P.underlying t=some (.slice e)) {size:Nat} (hk:jv P e=some size)
  {W:World} {i:TypeInfo} (hi:P.info? e=some i) {Z:Value} (hz:i.zero=some Z) {S Y:Value} {base:Option Addr} {sLen sCap n:Nat} {O N:Array Value} (hS:S=.slice base sLen sCap)
  (src:AppSrc P ts size i Z Y n N W) (hO:(Builtin.firstCells size sLen S).run P W.drew=.ok O W.drew)
  (hg:sCap<sLen+n) (h63:sLen+n≤9223372036854775807) (hfit:Builtin.nextslicecap (sLen+n) sCap * i.bytes≤281474976710656) :
  (Builtin.append_ ts ty #[S,Y]).run P W=.ok (.slice (some ⟨W.heap.size,0,none⟩) (sLen+n) (grownCap W (sLen+n) sCap e))
   (W.drew.alloc (.cells (O++N++Builtin.zeroCells Z.cells (grownCap W (sLen+n) sCap e - (sLen+n))) e)):=by
 subst hS
 have hn:¬ (sLen+n≤sCap):=by omega
 have h63':¬ (9223372036854775807<((sLen:Int)+(n:Int))):=by omega
 have h48':¬ (281474976710656<Builtin.nextslicecap (sLen+n) sCap * i.bytes):=by omega
 have hk':i.size=size:=by simpa [jv,hi] using hk
 cases src with
 | list h2 hlen hN =>
  have hN:=hN W.drew rfl
  rcases YN h2 with h | ⟨q,k,h,hD⟩ | ⟨q,h,hD⟩
  ·simp [Builtin.append_,ht,h,run_underlying hu,sizeOf,typeInfo,zeroValue,hi,hz,hk',hlen,hn,h63',h48',Question.forced,hO,hN,newRow,grownCap]
  ·simp [Builtin.append_,ht,h,run_underlying hu,run_underlying hD,sizeOf,typeInfo,zeroValue,hi,hz,hk',hlen,hn,h63',h48',Question.forced,hO,hN,newRow,grownCap]
  ·simp [Builtin.append_,ht,h,run_underlying hu,run_underlying hD,sizeOf,typeInfo,zeroValue,hi,hz,hk',hlen,hn,h63',h48',Question.forced,hO,hN,newRow,grownCap]
 | zeros h2 hY hl hnl hN =>
  obtain ⟨q,k,h,hD⟩:=Yz h2
  obtain ⟨z1,z2,z3⟩:=Yu hl hnl
  subst hY
  by_cases h0:n * size=0
  ·rw [if_pos h0] at hN
   subst hN
   simp [Builtin.append_,ht,h,run_underlying hu,run_underlying hD,sizeOf,typeInfo,zeroValue,hi,hz,hk',asInt,asIntOf,z1,z2,z3,hn,h63',h48',Question.forced,hO,h0,newRow,grownCap]
  ·rw [if_neg h0] at hN
   subst hN
   simp [Builtin.append_,ht,h,run_underlying hu,run_underlying hD,sizeOf,typeInfo,zeroValue,hi,hz,hk',asInt,asIntOf,z1,z2,z3,hn,h63',h48',Question.forced,hO,h0,newRow,grownCap]
theorem zeA {ts:Array TypeId} {t e ty:TypeId} (ht:ts[0]? = some t) (hu:P.underlying t=some (.slice e)) {size:Nat} (hk:jv P e=some size)
  {W W':World} {i:TypeInfo} (hi:P.info? e=some i) {Z:Value} (hz:i.zero=some Z) {S Y:Value} {a:Addr} {sLen sCap n:Nat} {N:Array Value} (hS:S=.slice (some a) sLen sCap)
  (src:AppSrc P ts size i Z Y n N W) (hg:sLen+n≤sCap)
  (hst:(storeCells (a.add (sLen * size)) N.toList).run P W=.ok () W') :
  (Builtin.append_ ts ty #[S,Y]).run P W=.ok (.slice (some a) (sLen+n) sCap) W':=by
 subst hS
 have hk':i.size=size:=by simpa [jv,hi] using hk
 cases src with
 | list h2 hlen hN =>
  have hN:=hN W rfl
  rcases YN h2 with h | ⟨q,k,h,hD⟩ | ⟨q,h,hD⟩
  ·simp [Builtin.append_,ht,h,run_underlying hu,jR W hk,hlen,hg,hN,hst]
  ·simp [Builtin.append_,ht,h,run_underlying hu,run_underlying hD,jR W hk,hlen,hg,hN,hst]
  ·simp [Builtin.append_,ht,h,run_underlying hu,run_underlying hD,jR W hk,hlen,hg,hN,hst]
 | zeros h2 hY hl hnl hN =>
  obtain ⟨q,k,h,hD⟩:=Yz h2
  obtain ⟨z1,z2,z3⟩:=Yu hl hnl
  subst hY
  by_cases h0:n * size=0
  ·rw [if_pos h0] at hN
   subst hN
   simp at hst
   simp [Builtin.append_,ht,h,run_underlying hu,run_underlying hD,sizeOf,typeInfo,hi,hk',asInt,asIntOf,z1,z2,z3,hg,h0,hst]
  ·rw [if_neg h0] at hN
   subst hN
   simp [Builtin.append_,ht,h,run_underlying hu,run_underlying hD,sizeOf,typeInfo,zeroValue,hi,hz,hk',asInt,asIntOf,z1,z2,z3,hg,h0,hst]
theorem JbJ {ts:Array TypeId} {t e ty:TypeId} (ht:ts[0]? = some t) (hu:P.underlying t=some (.slice e)) {size:Nat} (hk:jv P e=some size)
  {W:World} {i:TypeInfo} (hi:P.info? e=some i) {Z:Value} {Y:Value} {N:Array Value} (src:AppSrc P ts size i Z Y 0 N W) :
  (Builtin.append_ ts ty #[.slice none 0 0,Y]).run P W=.ok (.slice none 0 0) W:=by
 have hk':i.size=size:=by simpa [jv,hi] using hk
 cases src with
 | list h2 hlen hN =>
  have hN:=hN W rfl
  rcases YN h2 with h | ⟨q,k,h,hD⟩ | ⟨q,h,hD⟩
  ·simp [Builtin.append_,ht,h,run_underlying hu,jR W hk,hlen,hN]
  ·simp [Builtin.append_,ht,h,run_underlying hu,run_underlying hD,jR W hk,hlen,hN]
  ·simp [Builtin.append_,ht,h,run_underlying hu,run_underlying hD,jR W hk,hlen,hN]
 | zeros h2 hY hl hnl hN =>
  obtain ⟨q,k,h,hD⟩:=Yz h2
  obtain ⟨z1,z2,z3⟩:=Yu hl hnl
  subst hY
  have z0:IntKind.i64.wrap 0=0:=by decide
  simp [Builtin.append_,ht,h,run_underlying hu,run_underlying hD,sizeOf,typeInfo,hi,asInt,asIntOf,z0]
theorem vqA {t:TypeId} {size bytes:Nat} (hk:jv P t=some size) (hb:Yk P t=some bytes) {z:List AV} (hz:Za P t=some z) :
  ∃ i Z,P.info? t=some i∧i.size=size∧i.bytes=bytes∧i.zero=some Z∧∀ ρ,VRels ρ z Z.cells.toList:=by
 unfold Za at hz
 split at hz
 ·rename_i i hi
  split at hz
  ·rename_i Z hZ
   exact ⟨i,Z,hi,by simpa [jv,hi] using hk,by simpa [Yk,hi] using hb,hZ,fun ρ=>vu ρ hz⟩
  ·cases hz
 ·cases hz
theorem fits {n c bytes:Nat} (h:c<n) (hl:n * bytes≤limit):Builtin.nextslicecap n c * bytes≤281474976710656 :=
 growslice_fits h (by unfold limit at hl;omega)
theorem JN {n bytes:Nat} (hb:bytes≠0) (hl:n * bytes≤limit):n≤9223372036854775807:=by
 have:n≤n * bytes:=Nat.le_mul_of_pos_right _ (by omega)
 unfold limit at hl;omega
theorem WH {ρ:Rho} {old new:List AV} {O N:Array Value} (hO:VRels ρ old O.toList) (hN:VRels ρ new N.toList) {Z:Array Value} {size k:Nat} (hZ:Z.size=size) :
  (O++N++Builtin.zeroCells Z k).size=(old++new).length+k * size∧VRels ρ (old++new) ((O++N++Builtin.zeroCells Z k).toList.take (old++new).length):=by
 have h:=hO.append hN
 have hl:=h.length
 constructor
 ·simp only [Array.size_append,Yv,hZ]
  simp at hl
  simp;omega
 ·have:(O++N++Builtin.zeroCells Z k).toList=(O.toList++N.toList)++(Builtin.zeroCells Z k).toList:=by simp
  rw [this,List.take_append_of_le_length (by rw [hl];exact Nat.le_refl _),List.take_of_length_le (by rw [hl];exact Nat.le_refl _)]
  exact h
theorem znJ {ts:Array TypeId} {t elem ty:TypeId} (hu:P.underlying t=some (.slice elem)) {size bytes:Nat} (hk:jv P elem=some size) (hb0:bytes≠0) (ht:ts[0]? = some t)
  {i:TypeInfo} {Z:Value} (hi:P.info? elem=some i) (hi2:i.bytes=bytes) (hiz:i.zero=some Z) (hZs:Z.cells.size=size)
  {ρ:Rho} {s:St} {W:World} (hs:SRel ρ s W) {SX SY:Value} {bl d e z p q len:Nat} (hx:SX=.slice (some ⟨d,q,none⟩) len (len+e)) {n:Nat} {new:List AV} {N:Array Value} (hN:VRels ρ new N.toList) (hnl:new.length=n * size) (hsc:scalars new=true)
  (src:AppSrc P ts size i Z SY n N W) {c:List AV} {sz sz':Nat} (hss:vD sz=size) (hst':sz'=size∨(sz'=sz∧sz=size+tag elem∧p=0)) (hsb:size<1048576) (hs0:size≠0) (hg:s.h.get bl=some (.cells c sz)) (hρ:ρ bl=some (d,(e,z))) (hcl:c.length=p+len * size) (hq:(len=0∧e=0)∨q=z+p)
  (hlim:(len+n) * bytes≤limit) (hn:0<n) :
  ∃ V W' ρ',(Builtin.append_ ts ty #[SX,SY]).run P W=.ok V W'∧After ρ s W ρ' ((s.kill bl).new (.cells (c.drop p++new) sz')) W'∧VRel ρ' (.slice s.n 0 (len+n) (len+n) true) V:=by
 have hNs:N.size=n * size:=by have:=hN.length;rw [hnl] at this;simpa using this.symm
 obtain ⟨d',e',C,el,hρ',hW,hsz,hrel,htg⟩:=gj hs hg
 rw [hρ] at hρ';cases hρ'
 rw [hss] at hsz
 have hsz:C.size=z+c.length+e * size:=hsz
 have hsz':vD sz'=size:=by
  rcases hst' with h | ⟨h,_⟩
  ·rw [h];exact Nat.mod_eq_of_lt hsb
  ·rw [h];exact hss
 have hrel:VRels ρ c ((C.toList.drop z).take c.length):=hrel
 have hdl:(c.drop p).length=len * size:=by rw [List.length_drop,hcl];omega
 have hold:VRels ρ (c.drop p) ((C.toList.drop (z+p)).take (len * size)):=by
  have:=hrel.drop p
  rw [List.drop_take,List.drop_drop,hcl] at this
  have e1:p+len * size - p=len * size:=by omega
  rw [e1] at this
  exact this
 have hCl:C.toList.length=z+p+len * size+e * size:=by rw [Array.length_toList,hsz,hcl];omega
 have t1:((C.toList.drop (z+p)).take (len * size)).length=len * size:=by rw [List.length_take,List.length_drop,hCl];omega
 by_cases hin:len+n≤len+e
 ·-- in place
  have hq:q=z+p:=by
   rcases hq with ⟨_,h0⟩ | h0
   ·omega
   ·exact h0
  subst hq
  have hne:n * size≤e * size:=Nat.mul_le_mul_right _ (by omega)
  have hst:=run_storeCells_at P d (z+p+len * size) el N.toList 0 C W hW (by rw [Array.length_toList,hNs,hsz,hcl];omega) (hN.one hsc)
  have hg1:=zeA (P:=P) (ty:=ty) ht hu hk hi hiz hx src hin (by rw [yO];exact hst)
  refine ⟨_,_,ρ.put s.n (d,(e - n,z+p)),hg1,?_,?_⟩
  ·refine After.renew (e':=(e - n,z+p)) (o:=.cells (c.drop p++new) sz') hs hg hρ (by simp [World.setRow]) (setRow_heap W d C _ el (0,0) hW)
    (by intro i hi;simp only [World.setRow,Array.getElem?_modify];rw [if_neg (by omega)]) rfl rfl rfl ?_
   have hle:=Rho.put_le (d,((e - n,z+p):Ext)) (hs.fresh s.n (Nat.le_refl _))
   have hl2:(c.drop p++new).length=len * size+n * size:=by rw [List.length_append,hdl,hnl]
   refine .cells ?_ ?_ ?_
   ·have e1:(e - n) * size+n * size=e * size:=by rw [← Nat.add_mul];congr 1;omega
    have e2:(C.toList.take (z+p+len * size+0)++N.toList++C.toList.drop (z+p+len * size+0+N.toList.length)).length=C.toList.length:=by
     simp only [List.length_append,List.length_take,List.length_drop,Array.length_toList] at hCl ⊢
     omega
    show (C.toList.take (z+p+len * size+0)++N.toList++C.toList.drop (z+p+len * size+0+N.toList.length)).length=z+p+(c.drop p++new).length+(e - n) * vD sz'
    rw [e2,hCl,hl2,hsz'];omega
   ·have e2:(((C.toList.take (z+p+len * size+0)++N.toList++C.toList.drop (z+p+len * size+0+N.toList.length)).toArray.toList).drop (z+p)).take (c.drop p++new).length=(C.toList.drop (z+p)).take (len * size)++N.toList:=by
     show ((C.toList.take (z+p+len * size+0)++N.toList++C.toList.drop (z+p+len * size+0+N.toList.length)).drop (z+p)).take (c.drop p++new).length=_
     have l3:C.toList.take (z+p+len * size)=C.toList.take (z+p)++(C.toList.drop (z+p)).take (len * size):=List.take_add
     have l4:(C.toList.take (z+p)).length=z+p:=by rw [List.length_take,hCl];omega
     have l6:((C.toList.drop (z+p)).take (len * size)++N.toList).length=(c.drop p++new).length:=by rw [List.length_append,t1,hl2,Array.length_toList,hNs]
     rw [Nat.add_zero,l3,List.append_assoc,List.append_assoc,List.drop_left' l4,← List.append_assoc,← l6,List.take_left']
     rfl
    show VRels _ _ ((((C.toList.take (z+p+len * size+0)++N.toList++C.toList.drop (z+p+len * size+0+N.toList.length)).toArray.toList).drop (z+p)).take (c.drop p++new).length)
    rw [e2]
    exact (hold.append hN).mono hle
   ·rcases hst' with h | ⟨h,h',h0⟩
    ·rw [h];exact .none hsb
    ·subst h;subst h0
     intro t ht
     obtain ⟨q1,q2,_⟩:=htg t ht
     have q2:z=0:=q2
     exact ⟨q1,by show z+0=0;omega,fun q3=>by rw [h'] at q3;rw [YeA _ _ hsb] at q3;exact absurd q3 hs0⟩
  ·have:=VRel.slice (ρ:=ρ.put s.n (d,(e - n,z+p))) (b:=s.n) (o:=0) (len:=len+n) (cap:=len+n) (ext:=true) (Rho.put_same _ _ _)
   have e1:len+n+(e - n)=len+e:=by omega
   simp only [if_true,e1,Nat.add_zero] at this
   exact this
 ·-- a new array
  have hO:(Builtin.firstCells size len (SX)).run P W.drew=.ok ((C.toList.drop (z+p)).take (len * size)).toArray W.drew:=by
   rw [hx]
   rcases hq with ⟨h0,_⟩ | h0
   ·subst h0
    simp [Builtin.firstCells,loadCells,loadCellsFrom]
   ·subst h0
    exact run_firstCells_some W.drew size len ⟨d,z+p,none⟩ _ _ ((C.toList.drop (z+p)).take (len * size)) t1 (fun j v hj=>by
     have h3:=wZ (wL hj)
     rw [yO]
     have:W.drew.cell? ⟨d,z+p+j,none⟩=C[z+p+j]? := WM (W:=W.drew) hW (z+p+j)
     rw [this];simpa using h3)
  have hgr:=zgA (P:=P) (ty:=ty) ht hu hk hi hiz hx src hO (by omega) (JN hb0 hlim) (by rw [hi2];exact fits (by omega) hlim)
  have haf:=After.kill bl hs
  obtain ⟨g1,g2⟩:=WH (ρ:=ρ) (old:=c.drop p) (O:=((C.toList.drop (z+p)).take (len * size)).toArray) (by simpa using hold) hN hZs (k:=grownCap W (len+n) (len+e) elem - (len+n))
  refine ⟨_,_,_,hgr,haf.trans (After.drawnNew (el:=elem) haf.rel g2 g1 hsz' (by
   rcases hst' with h | ⟨h,h',_⟩
   ·rw [h];exact .none hsb
   ·rw [h,h'];exact .grown _ _ _ hsb hs0)),?_⟩
  have hge:=grownCap_ge W (len+n) (len+e) elem
  have:=VRel.slice (ρ:=ρ.put s.n (W.heap.size,(grownCap W (len+n) (len+e) elem - (len+n),0))) (b:=s.n) (o:=0) (len:=len+n) (cap:=len+n) (ext:=true) (Rho.put_same _ _ _)
  have e1:len+n+(grownCap W (len+n) (len+e) elem - (len+n))=grownCap W (len+n) (len+e) elem:=by omega
  simp only [if_true,e1,Nat.add_zero] at this
  exact this
theorem zKA {ts:Array TypeId} {t elem ty:TypeId} (hu:P.underlying t=some (.slice elem)) {size bytes:Nat} (hk:jv P elem=some size) (hb0:bytes≠0) (ht:ts[0]? = some t)
  {i:TypeInfo} {Z:Value} (hi:P.info? elem=some i) (hi2:i.bytes=bytes) (hiz:i.zero=some Z) (hZs:Z.cells.size=size)
  {ρ:Rho} {s s':St} {W:World} (hs:SRel ρ s W) {av v:AV} {SX SY:Value} (hx:VRel ρ av SX) {n:Nat} {new:List AV} {N:Array Value} (hN:VRels ρ new N.toList) (hnl:new.length=n * size) (hsc:scalars new=true)
  (src:AppSrc P ts size i Z SY n N W) (hsb:size<1048576) (hs0:size≠0) (h:wD size bytes (tag elem) n new s av=.val v s') :
  ∃ V W' ρ',(Builtin.append_ ts ty #[SX,SY]).run P W=.ok V W'∧After ρ s W ρ' s' W'∧VRel ρ' v V:=by
 have hNs:N.size=n * size:=by have:=hN.length;rw [hnl] at this;simpa using this.symm
 have htm:vD (size+tag elem)=size:=YeA _ _ hsb
 have fin:∀ {V:Value} {W':World} {ρ':Rho},(Builtin.append_ ts ty #[SX,SY]).run P W=.ok V W'→After ρ s W ρ' s' W'→VRel ρ' v V →
   ∃ V W' ρ',(Builtin.append_ ts ty #[SX,SY]).run P W=.ok V W'∧After ρ s W ρ' s' W'∧VRel ρ' v V:=fun h1 h2 h3=>⟨_,_,_,h1,h2,h3⟩
 unfold wD at h
 split at h
 ·-- a nil slice
  have hx:=hx.nilslice_inv
  split at h
  ·rename_i h0
   have h0:=Nat.eq_of_beq_eq_true h0
   subst h0
   cases h
   refine fin (V:=.slice none 0 0) (W':=W) (ρ':=ρ) ?_ (.refl hs) .nilslice
   rw [hx]
   exact JbJ ht hu hk hi src
  ·rename_i h0
   split at h
   ·cases h
   ·rename_i hlim
    have hn0:0<n:=by
     rcases Nat.eq_zero_or_pos n with e | e
     ·rw [YS e] at h0;cases h0
     ·exact e
    have hlim:=Nat.le_of_ble_eq_true hlim
    cases h
    have hg:=zgA (P:=P) (ty:=ty) (base:=none) (O:=#[]) ht hu hk hi hiz hx src (by rw [hx];exact run_firstCells_none W.drew _ _ _ _) (by omega)
     (by have:=JN hb0 hlim;omega) (by rw [hi2,Nat.zero_add];exact fits hn0 hlim)
    obtain ⟨g1,g2⟩:=WH (ρ:=ρ) (old:=[]) .nil hN hZs (k:=grownCap W (0+n) 0 elem - (0+n))
    refine fin hg (After.drawnNew (el:=elem) hs (by simpa using g2) (by simpa using g1) htm (.grown _ _ _ hsb hs0)) ?_
    have hge:=grownCap_ge W (0+n) 0 elem
    have:=VRel.slice (ρ:=ρ.put s.n (W.heap.size,(grownCap W (0+n) 0 elem - (0+n),0))) (b:=s.n) (o:=0) (len:=n) (cap:=n) (ext:=true) (Rho.put_same _ _ _)
    have e1:n+(grownCap W (0+n) 0 elem - (0+n))=grownCap W (0+n) 0 elem:=by omega
    simp only [if_true,e1] at this
    simpa using this
 ·rename_i bl p len cap ext
  split at h
  ·rename_i c sz hg
   obtain ⟨d,e,hρ,hx⟩:=hx.slice_inv
   obtain ⟨d',e',C,el,hρ',hW,hsz,hrel,_⟩:=gj hs hg
   rw [hρ] at hρ';cases hρ'
   split at h
   ·-- there is room
    rename_i hroom
    have hroom:=Nat.le_of_ble_eq_true hroom
    split at h
    ·rename_i c' hov
     cases h
     obtain ⟨W',hst,haf⟩:=yaA (P:=P) hs hg hρ hN hsc hov
     refine fin (zeA (P:=P) (ty:=ty) ht hu hk hi hiz hx src (by split<;>omega) (by rw [yO,Nat.add_assoc];exact hst)) haf (.slice hρ)
    ·cases h
   ·rename_i hroom
    have hroom:¬ (len+n≤cap):=fun hle=>by rw [Nat.ble_eq_true_of_le hle] at hroom;cases hroom
    split at h
    ·cases h
    ·rename_i hlim
     have hlim:=Nat.le_of_ble_eq_true hlim
     split at h
     ·-- the capacity is not known
      split at h
      ·rename_i hcond
       obtain ⟨hlc,hcl,hss⟩:=hcond
       subst hlc
       cases h
       obtain ⟨e,z⟩:=e
       simp only [if_true] at hx
       obtain ⟨V,W',ρ',h1,h2,h3⟩:=znJ (ty:=ty) (z:=z) (q:=z+p) (sz':=if p=0∧sz=size+tag elem then sz else size) hu hk hb0 ht hi hi2 hiz hZs hs hx hN hnl hsc src hss (by split;(rename_i hq;exact .inr ⟨rfl,hq.2,hq.1⟩);exact .inl rfl) hsb hs0 hg hρ hcl (.inr rfl) hlim (by omega)
       exact fin h1 h2 h3
      ·cases h
     ·-- a new array
      split at h
      ·rename_i old hcut
       cases h
       simp only [Bool.false_eq_true,if_false] at hx
       obtain ⟨rfl,hlen⟩:=JD hcut
       obtain ⟨e,z⟩:=e
       have hOld:VRels ρ ((c.drop p).take (len * size)) ((((C.toList.drop z).take c.length).drop p).take (len * size)):=(hrel.drop p).take (len * size)
       have t1:((((C.toList.drop z).take c.length).drop p).take (len * size)).length=len * size:=by rw [← hOld.length];simp;omega
       have hO:(Builtin.firstCells size len (SX)).run P W.drew=.ok ((((C.toList.drop z).take c.length).drop p).take (len * size)).toArray W.drew:=by
        rw [hx]
        exact run_firstCells_some W.drew size len ⟨d,z+p,none⟩ len _ ((((C.toList.drop z).take c.length).drop p).take (len * size)) t1 (fun j v hj=>by
         have h4:=wZ (wL (wZ (wL hj)))
         rw [yO,Nat.add_assoc]
         have:W.drew.cell? ⟨d,z+(p+j),none⟩=C[z+(p+j)]? := WM (W:=W.drew) hW (z+(p+j))
         rw [this];simpa using h4)
       have hgr:=zgA (P:=P) (ty:=ty) ht hu hk hi hiz hx src hO (by omega) (JN hb0 hlim) (by rw [hi2];exact fits (by omega) hlim)
       obtain ⟨g1,g2⟩:=WH (ρ:=ρ) (O:=((((C.toList.drop z).take c.length).drop p).take (len * size)).toArray) (by simpa using hOld) hN hZs (k:=grownCap W (len+n) cap elem - (len+n))
       refine fin hgr (After.drawnNew (el:=elem) hs g2 g1 htm (.grown _ _ _ hsb hs0)) ?_
       have hge:=grownCap_ge W (len+n) cap elem
       have:=VRel.slice (ρ:=ρ.put s.n (W.heap.size,(grownCap W (len+n) cap elem - (len+n),0))) (b:=s.n) (o:=0) (len:=len+n) (cap:=len+n) (ext:=true) (Rho.put_same _ _ _)
       have e1:len+n+(grownCap W (len+n) cap elem - (len+n))=grownCap W (len+n) cap elem:=by omega
       simp only [if_true,e1,Nat.add_zero] at this
       exact this
      ·cases h
  ·cases h
 ·-- an empty slice behind all that is known
  rename_i bl p
  obtain ⟨d,e,q,hρ,hq,hx⟩:=hx.tail_inv
  split at h
  ·rename_i h0
   have h0:=Nat.eq_of_beq_eq_true h0
   subst h0
   cases h
   have hN0:N=#[]:=by
    have:N.toList=[]:=by cases hN':N.toList with
     | nil=>rfl
     | cons a l=>have:=hN.length;rw [hnl,hN'] at this;simp at this
    simpa using this
   subst hN0
   refine fin (zeA (P:=P) (ty:=ty) ht hu hk hi hiz hx src (Nat.zero_le _) (W':=W) (by simp [storeCells])) (.refl hs) (.tail hρ hq)
  ·rename_i h0
   have hn0:0<n:=by
    rcases Nat.eq_zero_or_pos n with e | e
    ·rw [YS e] at h0;cases h0
    ·exact e
   split at h
   ·cases h
   ·rename_i hlim
    have hlim:=Nat.le_of_ble_eq_true hlim
    split at h
    ·rename_i c sz hg
     split at h
     ·rename_i hcond
      obtain ⟨hcl,hss⟩:=hcond
      cases h
      obtain ⟨e,z⟩:=e
      obtain ⟨V,W',ρ',h1,h2,h3⟩:=znJ (ty:=ty) (z:=z) (q:=q) (len:=0) (p:=p) hu hk hb0 ht hi hi2 hiz hZs hs (SX:=SX) (hx.trans (by rw [Nat.zero_add])) hN hnl hsc src (sz':=size) hss (.inl rfl) hsb hs0 hg hρ (by omega) (hq.elim (fun hq=>.inl ⟨rfl,hq⟩) .inr) (by rw [Nat.zero_add];exact hlim) hn0
      have hd:c.drop p=[]:=List.drop_eq_nil_of_le (by omega)
      rw [hd,List.nil_append] at h2
      rw [Nat.zero_add] at h3
      exact fin h1 h2 h3
     ·cases h
    ·cases h
 ·cases h
theorem jzA {k p j:Nat}:∀ {l:List (Nat × Nat)},Wd k l=true→(p,j) ∈ l→j≤k
 | [],_,h=>by cases h
 | (q,i)::r,h,hm=>by
  unfold Wd at h
  split at h
  ·rename_i hle
   rcases List.mem_cons.mp hm with e | hm
   ·cases e;exact Nat.le_of_ble_eq_true hle
   ·exact jzA h hm
  ·cases h
theorem vMA {v k:Nat} {r:List (Nat × Nat)}:∀ {l:List (Nat × Nat)},gG v l=some (k,r)→(v,k) ∈ r∧∀ p ∈ r,p ∈ l
 | [],h=>by cases h
 | (w,j)::l,h=>by
  unfold gG at h
  split at h
  ·rename_i e
   have e:=Nat.eq_of_beq_eq_true e
   cases h;subst e
   exact ⟨List.mem_cons_self ..,fun p hp=>hp⟩
  ·obtain ⟨h1,h2⟩:=vMA h
   exact ⟨h1,fun p hp=>List.mem_cons_of_mem _ (h2 p hp)⟩
theorem wzA {ts:Array TypeId} {t elem ty:TypeId} (hu:P.underlying t=some (.slice elem)) {size bytes:Nat} (hk:jv P elem=some size) (hb0:bytes≠0) (ht:ts[0]? = some t)
  {i:TypeInfo} {Z:Value} (hi:P.info? elem=some i) (hi2:i.bytes=bytes) (hiz:i.zero=some Z) (hZs:Z.cells.size=size)
  {ρ:Rho} {s s':St} {W:World} (hs:SRel ρ s W) {SX SY:Value} {v:AV} {b x d e z k k0 len:Nat} (hx:SX=.slice (some ⟨d,z,none⟩) len (len+e)) {n:Nat} {new:List AV} {N:Array Value} (hN:VRels ρ new N.toList) (hnl:new.length=n * size) (hsc:scalars new=true)
  (src:AppSrc P ts size i Z SY n N W) {c:List AV} {y:AObj} {yb:Nat × Ext} {rest:List (Nat × Nat)} (hsb:size<1048576) (hg:s.h.get b=some y) (hρb:ρ b=some yb) (hρ:ρ x=some (d,(e,z)))
  (hx1:(x,k) ∈ (b,k0)::rest) (hparts:∀ p j,(p,j) ∈ (b,k0)::rest→∃ szp,vD szp=size∧Has s.h b p (.cells (c.take j) szp))
  (hlim:(len+n) * bytes≤limit) (h:yIA size b k0 k len n c new rest s=.val v s') :
  ∃ V W' ρ',(Builtin.append_ ts ty #[SX,SY]).run P W=.ok V W'∧After ρ s W ρ' s' W'∧VRel ρ' v V:=by
 unfold yIA at h
 split at h
 case isFalse=>cases h
 rename_i hc
 obtain ⟨rfl,hkc,hn,hall⟩:=hc
 cases h
 have hNs:N.size=n * size:=by have:=hN.length;rw [hnl] at this;simpa using this.symm
 obtain ⟨szx,hszx,hhx⟩:=hparts x _ hx1
 obtain ⟨d',e',C,el,hρ',hW,hsz,hrel,_⟩:=ZK hs hhx
 rw [hρ] at hρ';cases hρ'
 have htl:(c.take (len * size)).length=len * size:=by rw [List.length_take];omega
 rw [hszx,htl] at hsz
 rw [htl] at hrel
 have hsz:C.size=z+len * size+e * size:=hsz
 have hrel:VRels ρ (c.take (len * size)) ((C.toList.drop z).take (len * size)):=hrel
 have hso:vD size=size:=Nat.mod_eq_of_lt hsb
 have hCl:C.toList.length=z+len * size+e * size:=by rw [Array.length_toList,hsz]
 have t1:((C.toList.drop z).take (len * size)).length=len * size:=by rw [List.length_take,List.length_drop,hCl];omega
 have hcut:∀ j,j≤len * size→(c.take (len * size)++new).take j=c.take j:=fun j hj=>by
  rw [List.take_append_of_le_length (by rw [htl];exact hj),List.take_take,Nat.min_eq_left hj]
 have hjl:∀ j,j≤len * size→(c.take j).length=j:=fun j hj=>by rw [List.length_take];omega
 have hl2:(c.take (len * size)++new).length=len * size+n * size:=by rw [List.length_append,htl,hnl]
 have hmem:∀ p r,(p,r) ∈ parts b (.fam (c.take (len * size)++new) size k0 ((s.n,len * size+new.length)::rest)) →
   (p=s.n∧r=.cells (c.take (len * size)++new) size)∨∃ j,(p,j) ∈ (b,k0)::rest∧j≤len * size∧r=.cells (c.take j) size:=by
  intro p r hp
  rcases List.mem_cons.mp hp with e1 | hp
  ·cases e1
   have:=jzA hall (List.mem_cons_self ..)
   exact .inr ⟨k0,List.mem_cons_self ..,this,by rw [hcut _ this]⟩
  ·obtain ⟨⟨q,j⟩,hq,e1⟩:=List.mem_map.mp hp
   cases e1
   rcases List.mem_cons.mp hq with e2 | hq
   ·cases e2
    exact .inl ⟨rfl,by rw [List.take_of_length_le (by rw [hl2,hnl];exact Nat.le_refl _)]⟩
   ·have:=jzA hall (List.mem_cons_of_mem _ hq)
    exact .inr ⟨j,List.mem_cons_of_mem _ hq,this,by rw [hcut _ this]⟩
 have hold:∀ p r,(p,r) ∈ parts b (.fam (c.take (len * size)++new) size k0 ((s.n,len * size+new.length)::rest))→p=s.n∨∃ r',(p,r') ∈ parts b y:=by
  intro p r hp
  rcases hmem p r hp with ⟨h1,_⟩ | ⟨j,hj,_,_⟩
  ·exact .inl h1
  ·obtain ⟨szp,_,y',hy',hm⟩:=hparts p j hj
   rw [hg] at hy';cases hy'
   exact .inr ⟨_,hm⟩
 have hne:∀ p j,(p,j) ∈ (b,k0)::rest→p≠s.n:=fun p j hp z=>by
  subst z
  obtain ⟨szp,_,hh⟩:=hparts _ j hp
  obtain ⟨c1,e1,O,h1,_,_⟩:=hs.heap.obj b _ _ hh
  rw [hs.fresh _ (Nat.le_refl _)] at h1;cases h1
 by_cases hin:len+n≤len+e
 ·-- in place
  have hst:=run_storeCells_at P d (z+len * size) el N.toList 0 C W hW (by rw [Array.length_toList,hNs,hsz];have:=Nat.mul_le_mul_right size (show n≤e by omega);omega) (hN.one hsc)
  have hg1:=zeA (P:=P) (ty:=ty) ht hu hk hi hiz hx src hin (by rw [yO];exact hst)
  have hle:=Rho.put_le (d,((e - n,z):Ext)) (hs.fresh s.n (Nat.le_refl _))
  have hne2:n * size≤e * size:=Nat.mul_le_mul_right _ (by omega)
  have e1:(e - n) * size+n * size=e * size:=by rw [← Nat.add_mul];congr 1;omega
  have l4:(C.toList.take (z+len * size)).length=z+len * size:=by rw [List.length_take,hCl];omega
  have e2:(C.toList.take (z+len * size+0)++N.toList++C.toList.drop (z+len * size+0+N.toList.length)).length=C.toList.length:=by
   simp only [List.length_append,List.length_take,List.length_drop,Array.length_toList] at hCl ⊢
   omega
  have l3:C.toList.take (z+len * size)=C.toList.take z++(C.toList.drop z).take (len * size):=List.take_add
  have l5:(C.toList.take z).length=z:=by rw [List.length_take,hCl];omega
  have e3:(C.toList.take (z+len * size+0)++N.toList++C.toList.drop (z+len * size+0+N.toList.length)).drop z=(C.toList.drop z).take (len * size)++(N.toList++C.toList.drop (z+len * size+0+N.toList.length)):=by
   rw [Nat.add_zero,l3,List.append_assoc,List.append_assoc,List.drop_left' l5]
  refine ⟨_,_,ρ.put s.n (d,(e - n,z)),hg1,?_,?_⟩
  ·refine After.fam hs hg hhx hρ (.inl ⟨rfl,rfl⟩) hold ?_ (by simp [World.setRow]) (by intro i hi _;simp only [World.setRow,Array.getElem?_modify];rw [if_neg (by omega)]) rfl rfl rfl
   intro p r hp
   rcases hmem p r hp with ⟨rfl,rfl⟩ | ⟨j,hj,hjk,rfl⟩
   ·refine ⟨d,(e - n,z),_,Rho.put_same _ _ _,setRow_heap W d C _ el (0,0) hW,.cells ?_ ?_ (.none hsb)⟩
    ·show (C.toList.take (z+len * size+0)++N.toList++C.toList.drop (z+len * size+0+N.toList.length)).length=z+(c.take (len * size)++new).length+(e - n) * vD size
     rw [e2,hCl,hl2,hso];omega
    ·show VRels _ _ ((((C.toList.take (z+len * size+0)++N.toList++C.toList.drop (z+len * size+0+N.toList.length)).toArray.toList).drop z).take (c.take (len * size)++new).length)
     have l6:((C.toList.drop z).take (len * size)++N.toList).length=(c.take (len * size)++new).length:=by rw [List.length_append,t1,hl2,Array.length_toList,hNs]
     show VRels _ _ ((((C.toList.take (z+len * size+0)++N.toList++C.toList.drop (z+len * size+0+N.toList.length))).drop z).take (c.take (len * size)++new).length)
     rw [e3,← List.append_assoc,← l6,List.take_left' rfl]
     exact (hrel.append hN).mono hle
   ·obtain ⟨szp,hszp,hh⟩:=hparts p j hj
    obtain ⟨d1,⟨e1',z1⟩,C1,el1,q1,q2,q3,q4,_⟩:=ZK hs hh
    have q3:C1.size=z1+(c.take j).length+e1' * vD szp:=q3
    have q4:VRels ρ (c.take j) ((C1.toList.drop z1).take (c.take j).length):=q4
    rw [hjl j hjk] at q3 q4
    rw [hszp] at q3
    have hput:ρ.put s.n (d,(e - n,z)) p=some (d1,(e1',z1)):=by rw [Rho.put_ne _ _ (hne p j hj)];exact q1
    by_cases hd:d1=d
    ·subst hd
     have hz:z1=z:=hs.heap.zed _ _ _ _ _ _ _ _ hh hhx q1 hρ
     subst hz
     rw [hW] at q2;cases q2
     refine ⟨_,_,_,hput,setRow_heap W d1 C _ el (0,0) hW,.cells ?_ ?_ (.none hsb)⟩
     ·show (C.toList.take (z1+len * size+0)++N.toList++C.toList.drop (z1+len * size+0+N.toList.length)).length=z1+(c.take j).length+e1' * vD size
      rw [e2,Array.length_toList,q3,hjl j hjk,hso]
     ·show VRels _ _ ((((C.toList.take (z1+len * size+0)++N.toList++C.toList.drop (z1+len * size+0+N.toList.length))).drop z1).take (c.take j).length)
      rw [e3,hjl j hjk,List.take_append_of_le_length (by rw [t1];exact hjk),List.take_take,Nat.min_eq_left hjk]
      exact q4.mono hle
    ·refine ⟨_,_,.cells C1 el1 (0,0),hput,?_,.cells ?_ ?_ (.none hsb)⟩
     ·simp only [World.setRow,Array.getElem?_modify];rw [if_neg (by omega)];exact q2
     ·show C1.size=z1+(c.take j).length+e1' * vD size
      rw [q3,hjl j hjk,hso]
     ·show VRels _ _ ((C1.toList.drop z1).take (c.take j).length)
      rw [hjl j hjk];exact q4.mono hle
  ·have:=VRel.vs (ρ:=ρ.put s.n (d,(e - n,z))) (b:=b) (v:=s.n) (len:=len+n) (hle _ _ hρb) (Rho.put_same _ _ _)
   have e4:len+n+(e - n)=len+e:=by omega
   simp only [e4] at this
   exact this
 ·-- a new array
  have hO:(Builtin.firstCells size len (SX)).run P W.drew=.ok ((C.toList.drop z).take (len * size)).toArray W.drew:=by
   rw [hx]
   exact run_firstCells_some W.drew size len ⟨d,z,none⟩ _ _ ((C.toList.drop z).take (len * size)) t1 (fun j v hj=>by
    have h3:=wZ (wL hj)
    rw [yO]
    have:W.drew.cell? ⟨d,z+j,none⟩=C[z+j]? := WM (W:=W.drew) hW (z+j)
    rw [this];simpa using h3)
  have hgr:=zgA (P:=P) (ty:=ty) ht hu hk hi hiz hx src hO (by omega) (JN hb0 hlim) (by rw [hi2];exact fits (by omega) hlim)
  obtain ⟨g1,g2⟩:=WH (ρ:=ρ) (old:=c.take (len * size)) (O:=((C.toList.drop z).take (len * size)).toArray) (by simpa using hrel) hN hZs (k:=grownCap W (len+n) (len+e) elem - (len+n))
  have hle:=Rho.put_le (W.heap.size,((grownCap W (len+n) (len+e) elem - (len+n),0):Ext)) (hs.fresh s.n (Nat.le_refl _))
  have hge:=grownCap_ge W (len+n) (len+e) elem
  refine ⟨_,_,ρ.put s.n (W.heap.size,(grownCap W (len+n) (len+e) elem - (len+n),0)),hgr,?_,?_⟩
  ·refine After.fam hs hg hhx hρ (.inr (Nat.le_refl _)) hold ?_ (by rw [show (World.alloc W.drew (.cells (((C.toList.drop z).take (len * size)).toArray++N++Builtin.zeroCells Z.cells (grownCap W (len+n) (len+e) elem - (len+n))) elem)).heap=W.heap.push (.cells (((C.toList.drop z).take (len * size)).toArray++N++Builtin.zeroCells Z.cells (grownCap W (len+n) (len+e) elem - (len+n))) elem) from rfl,Array.size_push];exact Nat.le_succ _) (by
    intro i _ hi
    show (W.heap.push _)[i]? = _
    rw [Array.getElem?_push,if_neg (by omega)]) rfl rfl rfl
   intro p r hp
   rcases hmem p r hp with ⟨rfl,rfl⟩ | ⟨j,hj,hjk,rfl⟩
   ·refine ⟨_,_,.cells (((C.toList.drop z).take (len * size)).toArray++N++Builtin.zeroCells Z.cells (grownCap W (len+n) (len+e) elem - (len+n))) elem (0,0),Rho.put_same _ _ _,Array.getElem?_push_size,.cells ?_ ?_ (.none hsb)⟩
    ·rw [hso,g1];simp
    ·simpa using g2.mono hle
   ·obtain ⟨szp,hszp,hh⟩:=hparts p j hj
    obtain ⟨d1,⟨e1',z1⟩,C1,el1,q1,q2,q3,q4,_⟩:=ZK hs hh
    have q3:C1.size=z1+(c.take j).length+e1' * vD szp:=q3
    rw [hszp] at q3
    refine ⟨d1,(e1',z1),.cells C1 el1 (0,0),by rw [Rho.put_ne _ _ (hne p j hj)];exact q1,?_,.cells (by rw [hso];exact q3) (q4.mono hle) (.none hsb)⟩
    show (W.heap.push _)[d1]? = _
    rw [Array.getElem?_push,if_neg (by have:=yS q2;omega)];exact q2
  ·have:=VRel.vs (ρ:=ρ.put s.n (W.heap.size,(grownCap W (len+n) (len+e) elem - (len+n),0))) (b:=b) (v:=s.n) (len:=len+n) (hle _ _ hρb) (Rho.put_same _ _ _)
   have e4:len+n+(grownCap W (len+n) (len+e) elem - (len+n))=grownCap W (len+n) (len+e) elem:=by omega
   simp only [e4] at this
   exact this
theorem zoJ {ts:Array TypeId} {t elem ty:TypeId} (hu:P.underlying t=some (.slice elem)) {size bytes:Nat} (hk:jv P elem=some size) (hb0:bytes≠0) (ht:ts[0]? = some t)
  {i:TypeInfo} {Z:Value} (hi:P.info? elem=some i) (hi2:i.bytes=bytes) (hiz:i.zero=some Z) (hZs:Z.cells.size=size)
  {ρ:Rho} {s s':St} {W:World} (hs:SRel ρ s W) {av v:AV} {SX SY:Value} (hx:VRel ρ av SX) {n:Nat} {new:List AV} {N:Array Value} (hN:VRels ρ new N.toList) (hnl:new.length=n * size) (hsc:scalars new=true)
  (src:AppSrc P ts size i Z SY n N W) (hsb:size<1048576) (hs0:size≠0) (h:jLA size bytes (tag elem) n new s av=.val v s') :
  ∃ V W' ρ',(Builtin.append_ ts ty #[SX,SY]).run P W=.ok V W'∧After ρ s W ρ' s' W'∧VRel ρ' v V:=by
 have hso:vD size=size:=Nat.mod_eq_of_lt hsb
 unfold jLA at h
 split at h
 ·rename_i bl p len cap
  split at h
  ·rename_i hlim h0 hlc
   have hlim:=Nat.le_of_ble_eq_true hlim
   have h0:=Nat.eq_of_beq_eq_true h0
   have hlc:=Nat.eq_of_beq_eq_true hlc
   subst h0;subst hlc
   obtain ⟨d,⟨e,z⟩,hρ,hx⟩:=hx.slice_inv
   simp only [if_true,Nat.add_zero] at hx
   split at h
   ·rename_i c sz hg
    split at h
    ·rename_i hc
     refine wzA (x:=bl) hu hk hb0 ht hi hi2 hiz hZs hs hx hN hnl hsc src hsb hg hρ hρ (List.mem_cons_self ..) ?_ hlim h
     intro p j hp
     cases List.mem_singleton.mp hp
     exact ⟨sz,hc.2,by rw [List.take_length];exact .lone hg trivial⟩
    ·cases h
   ·rename_i c sz k vs hg
    split at h
    ·rename_i hc
     refine wzA (x:=bl) hu hk hb0 ht hi hi2 hiz hZs hs hx hN hnl hsc src hsb hg hρ hρ (List.mem_cons_self ..) ?_ hlim h
     intro p j hp
     cases List.mem_singleton.mp hp
     exact ⟨sz,by rw [hc];exact hso,.base hg⟩
    ·cases h
   ·cases h
  ·cases h
 ·rename_i bl w len
  split at h
  ·rename_i hlim
   have hlim:=Nat.le_of_ble_eq_true hlim
   split at h
   ·rename_i c sz k0 vs hg
    split at h
    ·rename_i k rest hd
     split at h
     ·rename_i hc
      obtain ⟨yb,d,⟨e,z⟩,hρb,hρ,hx⟩:=hx.vs_inv
      obtain ⟨m1,m2⟩:=vMA hd
      refine wzA (x:=w) hu hk hb0 ht hi hi2 hiz hZs hs hx hN hnl hsc src hsb hg hρb hρ (List.mem_cons_of_mem _ m1) ?_ hlim h
      intro p j hp
      refine ⟨sz,by rw [hc];exact hso,?_⟩
      rcases List.mem_cons.mp hp with e1 | hp
      ·cases e1;exact .base hg
      ·exact ⟨_,hg,List.mem_cons_of_mem _ (List.mem_map.mpr ⟨(p,j),m2 _ hp,rfl⟩)⟩
     ·cases h
    ·cases h
   ·cases h
  ·cases h
 ·exact zKA hu hk hb0 ht hi hi2 hiz hZs hs hx hN hnl hsc src hsb hs0 h
theorem YoA {t elem:TypeId} (hu:P.underlying t=some (.slice elem)) {size bytes:Nat} (hk:jv P elem=some size) (hbt:Yk P elem=some bytes) {z:List AV} (hz:Za P elem=some z)
  (hzl:z.length=size) (hb0:bytes≠0) (hsb:size<1048576) (hs0:size≠0) {args:Array Operand} {ts:Array TypeId} (ht:ts[0]? = some t) (h2:ZJ P ts[1]? = some false) {a b:Arg} (ha:jz args.toList=some [a,b]) (fm:Bool) :
  Sound P (JF .append args ts) (jJ (jT fm size bytes (tag elem)) a b):=by
 intro o ho ρ L T s W v s' hL hs hf
 obtain ⟨x,y,hl,ha,hb⟩:=YYA ha
 obtain ⟨cs,hrun⟩:=yi (P:=P) ho T W
 have hx:=zX hL ha
 have hy:=zX hL hb
 have h':jT fm size bytes (tag elem) s (a.ev L) (b.ev L)=.val v s':=hf
 generalize a.ev L=av at hx h'
 generalize b.ev L=bv at hy h'
 obtain ⟨i,Z,hi,hi1,hi2,hiz,hZr⟩:=vqA hk hbt hz
 have hZs:Z.cells.size=size:=by have:=(hZr ρ).length;rw [hzl] at this;simpa using this.symm
 unfold jT at h'
 split at h'
 ·cases h'
 ·rename_i n hn
  split at h'
  ·cases h'
  ·rename_i new hnew
   obtain ⟨N,hN,hrunN⟩:=vMJ (P:=P) hnew hy hs
   split at h'
   ·cases h'
   ·rename_i hnl
    have hnl:=Nat.eq_of_beq_eq_true hnl
    split at h'
    ·rename_i hsc
     split at h'
     ·obtain ⟨V,W',ρ',h1,h3,h4⟩:=zoJ (ty:=o.type) hu hk hb0 ht hi hi2 hiz hZs hs hx hN hnl hsc (.list h2 (zZJ (P:=P) hn hy W) hrunN) hsb hs0 h'
      refine ⟨ρ',W',V,.inl ?_,h3,h4⟩
      rw [hrun,VcJ hl]
      simp [builtin,h1]
     ·obtain ⟨V,W',ρ',h1,h3,h4⟩:=zKA (ty:=o.type) hu hk hb0 ht hi hi2 hiz hZs hs hx hN hnl hsc (.list h2 (zZJ (P:=P) hn hy W) hrunN) hsb hs0 h'
      refine ⟨ρ',W',V,.inl ?_,h3,h4⟩
      rw [hrun,VcJ hl]
      simp [builtin,h1]
    ·cases h'
theorem ZkA {t elem:TypeId} (hu:P.underlying t=some (.slice elem)) {size bytes:Nat} (hk:jv P elem=some size) (hbt:Yk P elem=some bytes) {z:List AV} (hz:Za P elem=some z)
  (hzl:z.length=size) (hb0:bytes≠0) (hsb:size<1048576) (hs0:size≠0) {args:Array Operand} {ts:Array TypeId} (ht:ts[0]? = some t) (h2:ZJ P ts[1]? = some true) {a b:Arg} (ha:jz args.toList=some [a,b]) :
  Sound P (JF .append args ts) (jJ (JX z size bytes (tag elem)) a b):=by
 intro o ho ρ L T s W v s' hL hs hf
 obtain ⟨x,y,hl,ha,hb⟩:=YYA ha
 obtain ⟨cs,hrun⟩:=yi (P:=P) ho T W
 have hx:=zX hL ha
 have hy:=zX hL hb
 have h':JX z size bytes (tag elem) s (a.ev L) (b.ev L)=.val v s':=hf
 generalize a.ev L=av at hx h'
 generalize b.ev L=bv at hy h'
 obtain ⟨i,Z,hi,hi1,hi2,hiz,hZr⟩:=vqA hk hbt hz
 have hZs:Z.cells.size=size:=by have:=(hZr ρ).length;rw [hzl] at this;simpa using this.symm
 unfold JX at h'
 split at h'
 ·rename_i k n
  split at h'
  ·cases h'
  ·rename_i hlim
   have hlim:=Nat.le_of_ble_eq_true hlim
   split at h'
   ·rename_i hsc
    have hy:=hy.int_inv
    have hzr:=ZeA (hZr ρ) n
    have hzn:(vV z n).length=n * size:=by have:=hzr.length;rw [this];simp [Yv,hZs]
    have hnl:n≤limit:=Nat.le_trans (Nat.le_mul_of_pos_right _ (by omega)) hlim
    have hN:VRels ρ (vV z n) (if n * size=0 then #[] else Builtin.zeroCells Z.cells n).toList:=by
     split
     ·rename_i h0
      rw [h0] at hzn
      rw [List.eq_nil_of_length_eq_zero hzn];exact .nil
     ·exact hzr
    obtain ⟨V,W',ρ',h1,h3,h4⟩:=zKA (ty:=o.type) hu hk hb0 ht hi hi2 hiz hZs hs hx hN hzn hsc (.zeros h2 hy (by rw [hi2];exact hlim) hnl rfl) hsb hs0 h'
    refine ⟨ρ',W',V,.inl ?_,h3,h4⟩
    rw [hrun,VcJ hl]
    simp [builtin,h1]
   ·cases h'
 ·cases h'
theorem WfA {t elem:TypeId} (hu:P.underlying t=some (.slice elem)) {z:List AV} (hz:Za P elem=some z) {args:Array Operand} {ts:Array TypeId} (ht:ts[0]? = some t) {a:Arg} (ha:jz args.toList=some [a]) :
  Sound P (JF .clear args ts) (kUn (VfA z) a):=by
 intro o ho ρ L T s W v s' hL hs h
 have h:ARes.fail=.val v s':=h
 cases h
theorem wEA {f:FuncId} {fn:Func} (hf:P.funcs[f]? = some fn) (hb:fn.body=none) (h1:fn.name = "slices.overlaps[int]") (h2:fn.origin = "slices.overlaps") {t elem:TypeId} (hp:fn.params[0]? = some t)
  (hu:P.underlying t=some (.slice elem)) {size:Nat} (hk:jv P elem=some size) {args:Array Operand} {ts:Array TypeId} {a b:Arg} (ha:jz args.toList=some [a,b]) :
  Sound P (.call ⟨.value (.func f),args,ts⟩) (jJ (Vy size) a b):=by
 intro o ho ρ L T s W v s' hL hs h
 have h:ARes.fail=.val v s':=h
 cases h
theorem ZuA {fn:Func} (h1:fn.name = "internal/abi.NoEscape") (h2:fn.origin = ""):Extern.findNext fn=none∧Extern.find fn=some Extern.AbiNoEscape.same:=by
 have n1:Extern.allNextRows.lookup "internal/abi.NoEscape"=none:=by kernel_rfl
 have n2:Extern.allNextRows.lookup ""=none:=by kernel_rfl
 have n3:Extern.allGenericRows.lookup "internal/abi.NoEscape"=none:=by kernel_rfl
 have n4:Extern.allTypedRows.lookup "internal/abi.NoEscape"=none:=by kernel_rfl
 have n5:Extern.allRows.lookup "internal/abi.NoEscape"=some Extern.AbiNoEscape.same:=by kernel_rfl
 constructor
 ·simp [Extern.findNext,h1,h2,n1,n2]
 ·simp [Extern.find,h1,n3,n4,n5]
theorem wFA {f:FuncId} {fn:Func} (hf:P.funcs[f]? = some fn) (hb:fn.body=none) (h1:fn.name = "internal/abi.NoEscape") (h2:fn.origin = "") {args:Array Operand} {ts:Array TypeId} {a:Arg}
  (ha:jz args.toList=some [a]):Sound P (.call ⟨.value (.func f),args,ts⟩) (zE a):=by
 intro o ho ρ L T s W v s' hL hs hfv
 obtain ⟨x,hl,ha⟩:=gK ha
 have hx:=zX hL ha
 cases hfv
 obtain ⟨e1,e2⟩:=ZuA h1 h2
 refine Res.same hs (V:=evT T x) ?_ hx
 have:args.map (evT T)=#[evT T x]:=YG hl T
 have hn:¬ fn.name = "runtime.NumGoroutine":=by rw [h1];decide
 have hef:evT T (.func f)=.func (.func f) #[] #[]:=rfl
 have hsame:(Extern.AbiNoEscape.same #[evT T x]).run P W=.ok (evT T x) W:=rfl
 simp [execOp,ho,resolve,hef,Deferred.ofValue,invoke,callFunc,hf,hb,hn,e1,e2,this,hsame]
theorem YhA {f:FuncId} {fn:Func} (hf:P.funcs[f]? = some fn) (hb:fn.body=none) (h1:fn.name = "internal/bytealg.MakeNoZero") (h2:fn.origin = "") {t elem:TypeId} (hr:fn.resultTypes.toList=[t])
  (hu:P.underlying t=some (.slice elem)) {args:Array Operand} {ts:Array TypeId} {a:Arg} (ha:jz args.toList=some [a]):Sound P (.call ⟨.value (.func f),args,ts⟩) (kUn (vfA (1+tag elem)) a):=by
 intro o ho ρ L T s W v s' hL hs h
 have h:ARes.fail=.val v s':=h
 cases h
theorem YkA {f:FuncId} {args:Array Operand} {ts:Array TypeId} {g:OpF} (h:WJ P f args.toList=some g):Sound P (.call ⟨.value (.func f),args,ts⟩) g:=by
 unfold WJ at h
 split at h
 ·cases h
 ·rename_i fn hf
  split at h
  ·cases h
  ·rename_i hb
   split at h
   ·rename_i hn
    split at h
    ·rename_i hp ha
     split at h
     ·rename_i hu
      split at h
      ·rename_i hk;cases h;exact wEA hf hb hn.1 hn.2 hp hu hk ha
      ·cases h
     ·cases h
    ·cases h
   ·split at h
    ·rename_i hn
     split at h
     ·rename_i ha;cases h;exact wFA hf hb hn.1 hn.2 ha
     ·cases h
    ·split at h
     ·rename_i hn
      split at h
      ·rename_i hr ha
       split at h
       ·rename_i hu;cases h;exact YhA hf hb hn.1 hn.2 hr hu ha
       ·cases h
      ·cases h
     ·cases h
end Go.Abs
end
