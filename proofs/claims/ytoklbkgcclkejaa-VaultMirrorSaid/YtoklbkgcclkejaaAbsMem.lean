/- Reading and writing cells: what the interpreter says is what the model does. -/
import Derived.Test.YtoklbkgcclkejaaAbsOp
import Derived.Laws.CopyRow
noncomputable section
namespace Go.Abs
theorem VGA:∀ (l:List AV) (n:Nat),nth l n=.bad∨l[n]? = some (nth l n)
 | [],_=>.inl rfl
 | a::l,n=>by
  show (Bool.rec (motive:=fun _=>AV) (nth l (Nat.sub n 1)) a (Nat.beq n 0)=.bad)∨(a::l)[n]? = some (Bool.rec (motive:=fun _=>AV) (nth l (Nat.sub n 1)) a (Nat.beq n 0))
  cases n with
  | zero=>exact .inr rfl
  | succ n =>
   show nth l n=.bad∨(a::l)[n+1]? = some (nth l n)
   rcases VGA l n with h | h
   ·exact .inl h
   ·exact .inr (by simpa using h)
theorem yKA:∀ {k:Nat} {l r:List AV},YE k l=some r→r=l.take k∧k≤l.length
 | 0,l,r,h=>by cases h;simp
 | k+1,[],r,h=>by cases h
 | k+1,a::l,r,h=>by
  unfold YE at h
  split at h
  ·rename_i r' hr
   cases h
   obtain ⟨rfl,hl⟩:=yKA hr
   exact ⟨by simp,by simp;omega⟩
  ·cases h
theorem JD:∀ {o k:Nat} {l r:List AV},cut o k l=some r→r=(l.drop o).take k∧o+k≤l.length
 | o,k,[],r,h=>by
  unfold cut at h
  split at h
  ·rename_i h0
   have:o=0:=Nat.eq_of_beq_eq_true h0
   subst this
   obtain ⟨rfl,hl⟩:=yKA h
   exact ⟨by simp,by omega⟩
  ·cases h
 | o,k,a::l,r,h=>by
  unfold cut at h
  split at h
  ·rename_i h0
   have:o=0:=Nat.eq_of_beq_eq_true h0
   subst this
   obtain ⟨rfl,hl⟩:=yKA h
   exact ⟨by simp,by omega⟩
  ·rename_i h0
   cases o with
   | zero=>simp at h0
   | succ o =>
    obtain ⟨rfl,hl⟩:=JD (o:=o) h
    exact ⟨by simp,by simp;omega⟩
theorem Wz:∀ {vs c r:List AV},wP vs c=some r→r=vs++c.drop vs.length∧vs.length≤c.length
 | [],c,r,h=>by cases h;simp
 | v::vs,[],r,h=>by cases h
 | v::vs,a::c,r,h=>by
  unfold wP at h
  split at h
  ·rename_i r' hr
   cases h
   obtain ⟨rfl,hl⟩:=Wz hr
   exact ⟨by simp,by simp;omega⟩
  ·cases h
theorem jtA:∀ {o:Nat} {vs c r:List AV},over o vs c=some r→r=c.take o++vs++c.drop (o+vs.length)∧o+vs.length≤c.length
 | o,vs,[],r,h=>by
  unfold over at h
  split at h
  ·rename_i h0
   have:o=0:=Nat.eq_of_beq_eq_true h0
   subst this
   obtain ⟨rfl,hl⟩:=Wz h
   exact ⟨by simp,by omega⟩
  ·cases h
 | o,vs,a::c,r,h=>by
  unfold over at h
  split at h
  ·rename_i h0
   have:o=0:=Nat.eq_of_beq_eq_true h0
   subst this
   obtain ⟨rfl,hl⟩:=Wz h
   exact ⟨by simp,by omega⟩
  ·rename_i h0
   cases o with
   | zero=>simp at h0
   | succ o =>
    split at h
    ·rename_i r' hr
     cases h
     obtain ⟨rfl,hl⟩:=jtA (o:=o) hr
     exact ⟨by simp [Nat.add_right_comm],by simp;omega⟩
    ·cases h
theorem VRels.take {ρ:Rho}:∀ {l L} (n:Nat),VRels ρ l L→VRels ρ (l.take n) (L.take n)
 | _,_,0,_=>by simp;exact .nil
 | _,_,n+1,.nil=>by simp;exact .nil
 | _,_,n+1,.cons a b=>by simp;exact .cons a (VRels.take n b)
theorem VRels.drop {ρ:Rho}:∀ {l L} (n:Nat),VRels ρ l L→VRels ρ (l.drop n) (L.drop n)
 | _,_,0,h=>by simpa using h
 | _,_,n+1,.nil=>by simp;exact .nil
 | _,_,n+1,.cons _ b=>by simpa using VRels.drop n b
theorem jWJ (ρ:Rho):∀ {n:Nat} {L:List Value},L.length=n→VRels ρ (List.replicate n .bad) L
 | 0,[],_=>.nil
 | n+1,v::L,h=>.cons (.bad v) (jWJ ρ (by simpa using h))
 | 0,_::_,h=>by simp at h
 | _+1,[],h=>by simp at h
theorem gj {ρ:Rho} {s:St} {W:World} (hs:SRel ρ s W) {b:Nat} {c:List AV} {sz:Nat} (hb:s.h.get b=some (.cells c sz)) :
  ∃ d e C el,ρ b=some (d,e)∧W.heap[d]? = some (.cells C el (0,0))∧C.size=e.2+c.length+e.1 * vD sz∧VRels ρ c ((C.toList.drop e.2).take c.length)∧Typed sz el e:=by
 obtain ⟨d,e,O,h1,h2,h3⟩:=hs.heap.obj b b _ (.lone hb trivial)
 cases h3 with
 | cells a1 a2 a3=>exact ⟨d,e,_,_,h1,h2,a1,a2,a3⟩
theorem ZK {ρ:Rho} {s:St} {W:World} (hs:SRel ρ s W) {b x:Nat} {c:List AV} {sz:Nat} (hb:Has s.h b x (.cells c sz)) :
  ∃ d e C el,ρ x=some (d,e)∧W.heap[d]? = some (.cells C el (0,0))∧C.size=e.2+c.length+e.1 * vD sz∧VRels ρ c ((C.toList.drop e.2).take c.length)∧Typed sz el e:=by
 obtain ⟨d,e,O,h1,h2,h3⟩:=hs.heap.obj b x _ hb
 cases h3 with
 | cells a1 a2 a3=>exact ⟨d,e,_,_,h1,h2,a1,a2,a3⟩
theorem JDA {v k:Nat}:∀ {l:List (Nat × Nat)},zVA v l=some k→(v,k) ∈ l
 | [],h=>by cases h
 | (w,j)::r,h=>by
  unfold zVA at h
  split at h
  ·rename_i e
   have e:=Nat.eq_of_beq_eq_true e
   cases h;subst e
   exact List.mem_cons_self ..
  ·exact List.mem_cons_of_mem _ (JDA h)
theorem ZI {s:St} {b v:Nat} {c:List AV} (h:gS s b v=some c):∃ sz,Has s.h b v (.cells c sz):=by
 unfold gS at h
 split at h
 ·rename_i l sz k vs hg
  split at h
  ·rename_i j hj
   cases h
   exact ⟨sz,_,hg,List.mem_cons_of_mem _ (List.mem_map.mpr ⟨(v,j),JDA hj,rfl⟩)⟩
  ·cases h
 ·cases h
theorem WM {W:World} {d:Nat} {C:Array Value} {el:TypeId} {fr:Nat × Nat} (h:W.heap[d]? = some (.cells C el fr)) (o:Nat):W.cell? ⟨d,o,none⟩=C[o]? := by
 simp [World.cell?,h]
theorem yO (d o n:Nat):(⟨d,o,none⟩:Addr).add n=⟨d,o+n,none⟩:=by
 unfold Addr.add;split<;>simp_all
theorem wZ {C:List Value} {n i:Nat} {v:Value} (h:(C.drop n)[i]? = some v):C[n+i]? = some v:=by rwa [List.getElem?_drop] at h
theorem wL {C:List Value} {n i:Nat} {v:Value} (h:(C.take n)[i]? = some v):C[i]? = some v:=by
 rw [List.getElem?_take] at h
 split at h
 ·exact h
 ·cases h
theorem wo {ρ:Rho} {P:Program} {t:TypeId} {sh:Option Nat} (ht:yH P t=some sh) {W:World} {d:Nat} {C:Array Value} {el:TypeId} {fr:Nat × Nat}
  (hW:W.heap[d]? = some (.cells C el fr)) {c:List AV} {z:Nat} (hc:VRels ρ c ((C.toList.drop z).take c.length)) {o:Nat} {v:AV} (hv:yW sh c o=v) (hb:v≠.bad) :
  ∃ V,(loadVar t ⟨d,z+o,none⟩).run P W=.ok V W∧VRel ρ v V:=by
 subst hv
 rcases yjA ht with ⟨k,rfl,hagg,hsize⟩ | ⟨rfl,hagg⟩
 ·unfold yW at hb ⊢
  cases hcut:cut o k c with
  | none=>simp only [hcut] at hb;exact absurd rfl hb
  | some r =>
   simp only [hcut] at hb ⊢
   obtain ⟨rfl,hlen⟩:=JD hcut
   have hrel:VRels ρ ((c.drop o).take k) ((((C.toList.drop z).take c.length).drop o).take k):=(hc.drop o).take k
   have hl:((((C.toList.drop z).take c.length).drop o).take k).length=k:=by
    rw [← hrel.length];simp;omega
   have hload:=run_loadCells_list (P:=P) W ⟨d,z+o,none⟩ ((((C.toList.drop z).take c.length).drop o).take k) (fun j v hj=>by
    have h2:=wZ (wL (wZ (wL hj)))
    rw [yO,WM hW,Nat.add_assoc]
    simpa using h2)
   rw [hl] at hload
   refine ⟨.agg ((((C.toList.drop z).take c.length).drop o).take k).toArray,?_,.agg (by simpa using hrel)⟩
   simp [loadVar,vbA W hagg,jR W hsize,hload]
 ·unfold yW at hb ⊢
  simp only at hb ⊢
  rcases VGA c o with h | h
  ·exact absurd h hb
  ·obtain ⟨V,hV,hr⟩:=hc.get o _ h
   have h2:=wZ (wL hV)
   have hcell:W.cell? ⟨d,z+o,none⟩=some V:=by rw [WM hW];simpa using h2
   exact ⟨V,by simp [loadVar,vbA W hagg,hcell],hr⟩
theorem YBA {ρ:Rho} {P:Program} {t:TypeId} {sh:Option Nat} (ht:yH P t=some sh) {s:St} {W:World} (hs:SRel ρ s W) {g o:Nat} {c:List AV} (hg:YgJ g=some c) {v:AV}
  (hv:yW sh c o=v) (hb:v≠.bad):∃ V,(loadVar t ⟨g,o,none⟩).run P W=.ok V W∧VRel ρ v V:=by
 unfold YgJ at hg
 split at hg
 ·rename_i cs hcs
  obtain ⟨C,el,fr,h1,h2⟩:=hs.heap.tab g cs hcs
  have hr:=vu ρ hg
  have:=wo (z:=0) (P:=P) ht h1 (c:=c) (by rw [List.drop_zero,hr.length,h2];exact hr) hv hb
  rwa [Nat.zero_add] at this
 ·cases hg
theorem Wy {ρ:Rho} {P:Program} {t:TypeId} {sh:Option Nat} (ht:yH P t=some sh) (W:World) {C:Array Value} {c:List AV}
  (hc:VRels ρ c C.toList) {o:Nat} {v:AV} (hv:yW sh c o=v) (hb:v≠.bad):∃ V,(part t C o).run P W=.ok V W∧VRel ρ v V:=by
 subst hv
 rcases yjA ht with ⟨k,rfl,hagg,hsize⟩ | ⟨rfl,hagg⟩
 ·unfold yW at hb ⊢
  cases hcut:cut o k c with
  | none=>simp only [hcut] at hb;exact absurd rfl hb
  | some r =>
   simp only [hcut] at hb ⊢
   obtain ⟨rfl,hlen⟩:=JD hcut
   refine ⟨.agg (C.extract o (o+k)),by simp [part,vbA W hagg,jR W hsize],.agg ?_⟩
   have:=(hc.drop o).take k
   simpa [Array.toList_extract,List.take_drop] using this
 ·unfold yW at hb ⊢
  simp only at hb ⊢
  rcases VGA c o with h | h
  ·exact absurd h hb
  ·obtain ⟨V,hV,hr⟩:=hc.get o _ h
   have hV':C[o]? = some V:=by simpa using hV
   exact ⟨V,by simp [part,vbA W hagg,hV'],hr⟩
theorem ykA:∀ {l:List AV},scalars l=true→∀ v ∈ l,v.scalar=true
 | [],_,v,hv=>by cases hv
 | a::l,h,v,hv=>by
  unfold scalars at h
  split at h
  ·rename_i ha
   rcases List.mem_cons.1 hv with rfl | hv
   ·exact ha
   ·exact ykA h v hv
  ·cases h
theorem VRel.one {ρ:Rho} {a:AV} {v:Value} (h:VRel ρ a v) (ha:a.scalar=true):v.oneCell'=true:=by
 cases h<;>first | rfl | (simp [AV.scalar] at ha)
theorem VRels.one {ρ:Rho}:∀ {l L},VRels ρ l L→scalars l=true→∀ v ∈ L,v.oneCell'=true
 | _,_,.nil,_,v,hv=>by cases hv
 | _,_,.cons (a:=a) x y,h,v,hv=>by
  have hm:=ykA h
  rcases List.mem_cons.1 hv with rfl | hv
  ·exact x.one (hm _ (by simp))
  ·refine VRels.one y ?_ v hv
   unfold scalars at h
   split at h
   ·exact h
   ·cases h
theorem vPA {ρ:Rho} {k:Nat} {a:AV} {vs:List AV} (h:cellsOf k a=some vs) {V:Value} (hr:VRel ρ a V):VRels ρ vs V.cells.toList∧V.cells.size=k:=by
 have one:∀ {b:AV} {U:Value},VRel ρ b U→U.cells=#[U]→(match Nat.beq k 1 with | true=>some [b] | false=>none)=some vs→VRels ρ vs U.cells.toList∧U.cells.size=k:=by
  intro b U hb hU h
  rw [hU]
  split at h
  ·rename_i h1;cases h;exact ⟨.cons hb .nil,by have:=Nat.eq_of_beq_eq_true h1;simp [this]⟩
  ·cases h
 cases hr with
 | agg x =>
  unfold cellsOf at h
  simp only at h
  split at h
  ·rename_i h1
   cases h
   have h1:=Nat.eq_of_beq_eq_true h1
   have hl:=x.length
   exact ⟨x,by simpa [Value.cells,h1] using hl.symm⟩
  ·cases h
 | tup=>cases h
 | bad=>cases h
 | int k n=>exact one (.int k n) rfl h
 | bool b=>exact one (.bool b) rfl h
 | str b=>exact one (.str b) rfl h
 | ptr e=>exact one (.ptr e) rfl h
 | nilptr=>exact one .nilptr rfl h
 | slice e=>exact one (.slice e) rfl h
 | tail e q=>exact one (.tail e q) rfl h
 | gptr g o=>exact one (.gptr g o) rfl h
 | vs e q=>exact one (.vs e q) rfl h
 | vp e q=>exact one (.vp e q) rfl h
 | nilslice=>exact one .nilslice rfl h
 | map e=>exact one (.map e) rfl h
 | nilmap=>exact one .nilmap rfl h
 | func a b=>exact one (.func a b) rfl h
 | yield e=>exact one (.yield e) rfl h
 | nilfunc=>exact one .nilfunc rfl h
 | nilif=>exact one .nilif rfl h
 | ge hn=>exact one (.ge hn) rfl h
theorem yaA {ρ:Rho} {P:Program} {s:St} {W:World} (hs:SRel ρ s W) {b:Nat} {c c':List AV} {sz o d:Nat} {e:Ext} (hb:s.h.get b=some (.cells c sz))
  (hr:ρ b=some (d,e)) {vs:List AV} {VS:List Value} (hv:VRels ρ vs VS) (h1:scalars vs=true) (ho:over o vs c=some c') :
  ∃ W',(storeCells ⟨d,e.2+o,none⟩ VS).run P W=.ok () W'∧After ρ s W ρ (s.put b (.cells c' sz)) W':=by
 obtain ⟨d',e',C,el,hρ,hW,hsz,hrel,htg⟩:=gj hs hb
 rw [hr] at hρ;cases hρ
 obtain ⟨rfl,hlen⟩:=jtA ho
 have hvl:=hv.length
 obtain ⟨e,z⟩:=e
 have hrun:=run_storeCells_at P d (z+o) el VS 0 C W hW (by rw [hsz,← hvl];show z+o+0+vs.length≤z+c.length+e * vD sz;omega) (hv.one h1)
 refine ⟨_,hrun,?_⟩
 have hCl:C.toList.length=z+c.length+e * vD sz:=by simpa using hsz
 refine After.put hs hb hr (O:=.cells (C.toList.take (z+o+0)++VS++C.toList.drop (z+o+0+VS.length)).toArray el (0,0)) (by simp [World.setRow]) (setRow_heap W d C _ el (0,0) hW) ?_ rfl rfl rfl ?_
 ·intro i hi
  simp only [World.setRow,Array.getElem?_modify]
  rw [if_neg (by omega)]
 ·refine .cells (by simp [hCl];omega) ?_ htg
  have e1:(c.take o++vs++c.drop (o+vs.length)).length=c.length:=by simp;omega
  rw [e1]
  have hA:VRels ρ (c.take o) ((C.toList.drop z).take o):=by
   have:=hrel.take o
   rw [List.take_take] at this
   rwa [Nat.min_eq_left (by omega)] at this
  have hB:VRels ρ (c.drop (o+vs.length)) (((C.toList.drop z).drop (o+vs.length)).take (c.length - (o+vs.length))):=by
   have:=hrel.drop (o+vs.length)
   rwa [List.drop_take] at this
  have hall:=(hA.append hv).append hB
  have e2:(((C.toList.take (z+o+0)++VS++C.toList.drop (z+o+0+VS.length)).toArray.toList).drop z).take c.length =
    (C.toList.drop z).take o++VS++((C.toList.drop z).drop (o+vs.length)).take (c.length - (o+vs.length)):=by
   have l1:((C.toList.drop z).take o).length=o:=by simp;omega
   have l2:((C.toList.drop z).take o++VS).length=o+vs.length:=by rw [List.length_append,l1,hvl]
   have l3:C.toList.take (z+o)=C.toList.take z++(C.toList.drop z).take o:=List.take_add
   have l4:(C.toList.take z).length=z:=by simp;omega
   have l5:C.toList.drop (z+o+VS.length)=(C.toList.drop z).drop (o+vs.length):=by rw [List.drop_drop,hvl];congr 1;omega
   show ((C.toList.take (z+o+0)++VS++C.toList.drop (z+o+0+VS.length)).drop z).take c.length=_
   rw [Nat.add_zero,l3,l5,List.append_assoc,List.append_assoc,List.drop_left' l4,← List.append_assoc,List.take_append,l2]
   congr 1
   rw [List.take_of_length_le (by rw [l2];exact hlen)]
  rw [e2]
  exact hall
end Go.Abs
end
