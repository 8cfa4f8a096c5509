/- Comparisons, arithmetic, strings, built values, slices of slices. -/
import Derived.Test.YtoklbkgcclkejaaAbsSound
import Derived.ChangeKeysEq
import Derived.LaidEql
noncomputable section
namespace Go.Abs
variable {P:Program}
theorem wy (op:BinOp) (t:TypeId) (x y:Operand) {u v:Value} (hu:∀ a,u≠.agg a) (hn:u≠.nilIface) (W:World):(eqGuard op t x y u v).run P W=.ok () W:=by
 unfold eqGuard
 cases op<;>simp<;>(cases u<;>first | exact absurd rfl (hu _) | exact absurd rfl hn | rfl | (cases v<;>rfl))
theorem gVJ {op:BinOp} {t yt:TypeId} {f:St→IntKind→Int→Int→ARes} (hf:JvA op=some f) {x y:Operand} {a b:Arg} (ha:jL x=some a) (hb:jL y=some b) :
  Sound P (.binOp op t x y yt) (zV f a b):=by
 intro o ho ρ L T s W v s' hL hs h
 obtain ⟨k,m,n,e1,e2,h⟩:=zjJ h
 have hx:=zX hL ha
 have hy:=zX hL hb
 rw [e1] at hx;rw [e2] at hy
 obtain ⟨rfl,V,hV,hr⟩:=vAJ hf h ρ P t W
 refine Res.same hs (V:=V) ?_ hr
 have hx:=hx.int_inv
 have hy:=hy.int_inv
 simp [execOp,ho,hx,hy,wy op t x y (u:=.int k m) (v:=.int k n) (by simp) (by simp) W,hV]
theorem gWJ {t yt:TypeId} {x y:Operand} {a b:Arg} (ha:jL x=some a) (hb:jL y=some b):Sound P (.binOp .gtr t x y yt) (JB a b):=by
 intro o ho ρ L T s W v s' hL hs h
 unfold JB at h
 obtain ⟨k,m,e1,h⟩:=Jt h
 have hx:=zX hL ha
 have hy:=zX hL hb
 rw [e1] at hx
 have hx:=hx.int_inv
 generalize b.ev L=bv at hy h
 cases bv with
 | int k' n =>
  obtain ⟨hkk,h2⟩:=wM (show yo k k' (VmJ s k m n)=.val v s' from h)
  subst hkk
  obtain ⟨rfl,V,hV,hr⟩:=vAJ (op:=.gtr) rfl h2 ρ P t W
  refine Res.same hs (V:=V) ?_ hr
  have hy:=hy.int_inv
  simp [execOp,ho,hx,hy,wy .gtr t x y (u:=.int k m) (v:=.int k n) (by simp) (by simp) W,hV]
 | ge k' n =>
  obtain ⟨hkk,h2⟩:=wM (show yo k k' (Bool.casesOn (motive:=fun _=>ARes) (leI m n) ARes.fail (.val (.bool false) s))=.val v s' from h)
  subst hkk
  cases hle:leI m n with
  | false=>rw [hle] at h2;cases h2
  | true =>
   rw [hle] at h2
   cases h2
   rw [wT] at hle
   have hle:=of_decide_eq_true hle
   cases hy':evT T y with
   | int k2 n2 =>
    rw [hy'] at hy
    cases hy with
    | ge hn =>
     obtain ⟨_,V,hV,hr⟩:=vAJ (op:=.gtr) (s:=s) (k:=k) (a:=m) (b:=n2) rfl rfl ρ P t W
     have hf:(!leI m n2)=false:=by rw [wT];simp;omega
     rw [hf] at hr
     refine Res.same hs (V:=V) ?_ hr
     simp [execOp,ho,hx,hy',wy .gtr t x y (u:=.int k m) (v:=.int k n2) (by simp) (by simp) W,hV]
   | _=>rw [hy'] at hy;cases hy
 | _=>cases h
theorem gOJ {t yt:TypeId} {x y:Operand} {a b:Arg} (ha:jL x=some a) (hb:jL y=some b):Sound P (.binOp .shl t x y yt) (YUJ a b):=by
 intro o ho ρ L T s W v s' hL hs h
 have hx:=zX hL ha
 have hy:=zX hL hb
 have h':WYJ s (a.ev L) (b.ev L)=.val v s':=h
 generalize a.ev L=av at hx h'
 generalize b.ev L=bv at hy h'
 unfold WYJ at h'
 split at h'
 ·rename_i k m k' n
  cases h'
  have hx:=hx.int_inv
  have hy:evT T y=.int k' (n:Int):=hy.int_inv
  refine Res.same hs (V:=.int k (k.wrap (m * 2 ^ (min n k.bits)))) ?_ (.int _ _)
  have hn:¬ ((n:Int)<0):=by omega
  simp [execOp,ho,hx,hy,wy .shl t x y (u:=.int k m) (v:=.int k' (n:Int)) (by simp) (by simp) W,binOp,Op.shift,hn]
 ·cases h'
theorem gNJ {t yt:TypeId} {x y:Operand} {a b:Arg} (ha:jL x=some a) (hb:jL y=some b):Sound P (.binOp .shr t x y yt) (ZsA a b):=by
 intro o ho ρ L T s W v s' hL hs h
 have hx:=zX hL ha
 have hy:=zX hL hb
 have h':gcJ s (a.ev L) (b.ev L)=.val v s':=h
 generalize a.ev L=av at hx h'
 generalize b.ev L=bv at hy h'
 unfold gcJ at h'
 split at h'
 ·rename_i k m k' n
  cases h'
  have hx:=hx.int_inv
  have hy:evT T y=.int k' (n:Int):=hy.int_inv
  refine Res.same hs (V:=.int k (m.fdiv (2 ^ (min n k.bits)))) ?_ (.int _ _)
  have hn:¬ ((n:Int)<0):=by omega
  simp [execOp,ho,hx,hy,wy .shr t x y (u:=.int k m) (v:=.int k' (n:Int)) (by simp) (by simp) W,binOp,Op.shift,hn]
 ·cases h'
theorem WUA (s:ByteArray):∀ (n i:Nat) (r:List UInt8),s.size - i=n→ByteArray.toList.loop s i r=r.reverse++s.data.toList.drop i:=by
 intro n
 induction n with
 | zero =>
  intro i r h
  rw [ByteArray.toList.loop]
  rw [if_neg (by omega)]
  have:s.data.toList.length≤i:=by simp;have:s.size=s.data.size:=rfl;omega
  rw [List.drop_eq_nil_of_le this];simp
 | succ n ih =>
  intro i r h
  rw [ByteArray.toList.loop]
  rw [if_pos (by omega)]
  rw [ih (i+1) _ (by omega)]
  have hi:i<s.data.toList.length:=by simp;have:s.size=s.data.size:=rfl;omega
  rw [List.drop_eq_getElem_cons hi]
  have:s.get! i=s.data.toList[i]:=by
   unfold ByteArray.get!
   cases s with | mk d=>simp at hi ⊢;simp [hi]
  rw [this]
  simp
theorem yeA (s:ByteArray):s.toList=s.data.toList:=by
 unfold ByteArray.toList
 rw [WUA s _ 0 [] rfl];simp
theorem zdA:∀ (l m:List UInt8),ZR l m=(l == m)
 | [],[]=>rfl
 | [],_::_=>rfl
 | _::_,[]=>rfl
 | a::l,b::m=>by
  show (match Nat.beq a.toNat b.toNat with | true=>ZR l m | false=>false)=(a::l == b::m)
  rw [zdA l m]
  cases h:Nat.beq a.toNat b.toNat with
  | true =>
   have:=UInt8.toNat_inj.mp (Nat.eq_of_beq_eq_true h)
   subst this
   simp
  | false =>
   have hne:a≠b:=fun e=>by subst e;rw [Nat.beq_refl] at h;cases h
   simp [hne]
theorem zRA (x y:ByteArray):Yl x y=(x.toList == y.toList):=by
 unfold Yl;rw [zdA,yeA,yeA]
theorem jbQ (x y:ByteArray):vfQ x y=x++y:=by
 apply ByteArray.ext
 apply Array.ext'
 simp [vfQ,ByteArray.data_append]
theorem gMJ {op:BinOp} {t yt:TypeId} {x y:Operand} {a b:Arg} (hop:op≠.shl∧op≠.shr) (ha:jL x=some a) (hb:jL y=some b):Sound P (.binOp op t x y yt) (YTJ op a b):=by
 intro o ho ρ L T s W v s' hL hs h
 have hx:=zX hL ha
 have hy:=zX hL hb
 have h':ZyJ op s (a.ev L) (b.ev L)=.val v s':=h
 generalize a.ev L=av at hx h'
 generalize b.ev L=bv at hy h'
 unfold ZyJ at h'
 split at h'
 ·rename_i m n
  have hx:=hx.str_inv
  have hy:=hy.str_inv
  have hg:=wy (P:=P) op t x y (u:=.string m) (v:=.string n) (by simp) (by simp) W
  have hbin:binOp op t (.string m) (.string n)=Op.stringOp op m n:=by cases op<;>simp at hop<;>rfl
  have key:∀ {V:Value},(Op.stringOp op m n).run P W=.ok V W→VRel ρ v V→s'=s→Res ((execOp (evT T) o).run P W) ρ s W v s':=by
   intro V hV hr he
   subst he
   exact Res.same hs (V:=V) (by simp [execOp,ho,hx,hy,hg,hbin,hV]) hr
  cases op<;>simp only [reduceCtorEq] at h'
  case add =>
   split at h'
   ·cases h'
   ·rename_i hsz
    cases h'
    refine key (V:=.string (m++n)) ?_ (by rw [jbQ];exact .str _) rfl
    have:¬ (((m.size+n.size:Nat):Int) > IntKind.i64.max):=by
     have:IntKind.i64.max=9223372036854775807:=by rfl
     rw [this];omega
    simp [Op.stringOp]
    simpa using this
  case eql=>cases h';exact key (V:=.bool (m.toList == n.toList)) (by simp [Op.stringOp]) (by rw [zRA];exact .bool _) rfl
  case neq=>cases h';exact key (V:=.bool (!(m.toList == n.toList))) (by simp [Op.stringOp]) (by rw [zRA];exact .bool _) rfl
  case lss=>cases h';exact key (V:=.bool (Op.bytesLess m.toList n.toList)) (by simp [Op.stringOp]) (.bool _) rfl
  case leq=>cases h';exact key (V:=.bool (Op.bytesLess m.toList n.toList || m.toList == n.toList)) (by simp [Op.stringOp]) (.bool _) rfl
  case gtr=>cases h';exact key (V:=.bool (!(Op.bytesLess m.toList n.toList || m.toList == n.toList))) (by simp [Op.stringOp]) (.bool _) rfl
  case geq=>cases h';exact key (V:=.bool (!(Op.bytesLess m.toList n.toList))) (by simp [Op.stringOp]) (.bool _) rfl
 ·cases h'
theorem JM {ρ:Rho} {t:TypeId} {sh:Option Nat} (ht:yH P t=some sh) (W:World) {C:Array Value} {c:List AV}
  (hc:VRels ρ c C.toList) {o:Nat} (hb:yW sh c o≠.bad):∃ V,(part t C o).run P W=.ok V W∧VRel ρ (yW sh c o) V:=Wy ht W hc rfl hb
theorem gC {c:Cmp} {x y:AV} {r:Bool} (h:Cmp.eq c x y=some r):x≠.bad∧y≠.bad:=by
 constructor
 ·rintro rfl;cases c<;>simp [Cmp.eq] at h
 ·rintro rfl;cases c<;>cases x<;>simp [Cmp.eq] at h
theorem VRel.nilptr_inv {ρ:Rho} {V:Value} (h:VRel ρ .nilptr V):V=.pointer none:=by cases h;rfl
theorem VRel.nilfunc_inv {ρ:Rho} {V:Value} (h:VRel ρ .nilfunc V):V=.nilFunc:=by cases h;rfl
theorem vJA {t:TypeId} {fs:Array Field} (h:P.underlying t=some (.struct fs)):P.fieldsOf t=fs:=by
 unfold Program.fieldsOf;rw [h]
def gBJ (P:Program) (d:Nat):Prop:=∀ {t:TypeId} {c:Cmp},ZE P d t=some c→∀ {e:Nat},d≤e→∀ {x y:AV} {r:Bool},Cmp.eq c x y=some r →
  ∀ {ρ:Rho} {X Y:Value},VRel ρ x X→VRel ρ y Y→∀ (W:World),(Op.equalIn e t X Y).run P W=.ok r W
theorem vhA {d:Nat} (IH:gBJ P d) {t:TypeId} {sh:Option Nat} {c:Cmp} (hsh:yH P t=some sh) (hc:ZE P d t=some c) {e:Nat} (he:d≤e) {ρ:Rho} {xs ys:List AV} {X Y:Array Value}
  (hx:VRels ρ xs X.toList) (hy:VRels ρ ys Y.toList) {o:Nat} {r:Bool} (hr:Cmp.eq c (yW sh xs o) (yW sh ys o)=some r) (W:World) :
  ∃ a b,(part t X o).run P W=.ok a W∧(part t Y o).run P W=.ok b W∧(Op.equalIn e t a b).run P W=.ok r W:=by
 obtain ⟨hb1,hb2⟩:=gC hr
 obtain ⟨a,ha,ra⟩:=JM hsh W hx hb1
 obtain ⟨b,hb,rb⟩:=JM hsh W hy hb2
 exact ⟨a,b,ha,hb,IH hc he hr ra rb W⟩
theorem YHA {d:Nat} (IH:gBJ P d) {e:Nat} (he:d≤e) {ρ:Rho} {xs ys:List AV} {X Y:Array Value} (hx:VRels ρ xs X.toList) (hy:VRels ρ ys Y.toList) (W:World) :
  ∀ (fs:List Field) (l:List (Nat × Option Nat × Cmp)),fs.foldr (fun f k=>match k with
    | none=>none
    | some l=>if f.name = "_" then none else match yH P f.type,ZE P d f.type with
     | some sh,some c=>some ((f.offset,sh,c)::l)
     | _,_=>none) (some [])=some l →
   ∀ {r:Bool},Cmp.eqs l xs ys=some r→(Op.eqFields e X Y fs).run P W=.ok r W
 | [],l,h,r,hr=>by
  cases h
  simp only [Cmp.eqs,Option.some.injEq] at hr
  subst hr
  simp [Op.eqFields]
 | f::fs,l,h,r,hr=>by
  rw [List.foldr_cons] at h
  split at h
  ·cases h
  ·rename_i l' hl'
   split at h
   ·cases h
   ·rename_i hname
    split at h
    ·rename_i sh c hsh hc
     cases h
     simp only [Cmp.eqs] at hr
     split at hr
     ·rename_i hq
      obtain ⟨a,b,h1,h2,h3⟩:=vhA IH hsh hc he hx hy hq W
      have:=YHA IH he hx hy W fs l' hl' hr
      simp [Op.eqFields,hname,h1,h2,h3,this]
     ·rename_i r' hne
      obtain ⟨a,b,h1,h2,h3⟩:=vhA IH hsh hc he hx hy hr W
      cases r with
      | true=>exact absurd hr (by simpa using hne)
      | false=>simp [Op.eqFields,hname,h1,h2,h3]
    ·cases h
theorem zxJ {d:Nat} (IH:gBJ P d) {e:Nat} (he:d≤e) {ρ:Rho} {xs ys:List AV} {X Y:Array Value} (hx:VRels ρ xs X.toList) (hy:VRels ρ ys Y.toList) (W:World)
  {t:TypeId} {sh:Option Nat} {c:Cmp} (hsh:yH P t=some sh) (hc:ZE P d t=some c) (n:Nat) :
  ∀ (is:List Nat) {r:Bool},Cmp.eqs (is.map fun i=>(i * n,sh,c)) xs ys=some r→(Op.eqItems e t n X Y is).run P W=.ok r W
 | [],r,hr=>by
  simp only [List.map_nil,Cmp.eqs,Option.some.injEq] at hr
  subst hr
  simp [Op.eqItems]
 | i::is,r,hr=>by
  simp only [List.map_cons,Cmp.eqs] at hr
  split at hr
  ·rename_i hq
   obtain ⟨a,b,h1,h2,h3⟩:=vhA IH hsh hc he hx hy hq W
   have:=zxJ IH he hx hy W hsh hc n is hr
   simp [Op.eqItems,h1,h2,h3,this]
  ·rename_i r' hne
   obtain ⟨a,b,h1,h2,h3⟩:=vhA IH hsh hc he hx hy hr W
   cases r with
   | true=>exact absurd hr (by simpa using hne)
   | false=>simp [Op.eqItems,h1,h2,h3]
set_option maxHeartbeats 4000000 in
theorem gLA:∀ (d:Nat),gBJ P d
 | 0,t,c,h,_,_,_,_,_,_,_,_,_,_,_,_=>by simp [ZE] at h
 | d+1,t,c,h,e,he,x,y,r,hr,ρ,X,Y,hX,hY,W=>by
  obtain ⟨e,rfl⟩:∃ k,e=k+1:=⟨e - 1,by omega⟩
  have he':d≤e:=by omega
  unfold ZE at h
  split at h
  case h_1 hu =>
   cases h
   cases x<;>cases y<;>simp only [Cmp.eq,reduceCtorEq,Option.some.injEq] at hr
   subst hr
   simp [Op.equalIn,zY W hu,hX.bool_inv,hY.bool_inv]
  case h_2 hu =>
   cases h
   cases x<;>cases y<;>simp only [Cmp.eq,reduceCtorEq] at hr
   rename_i k a k' b
   split at hr
   ·rename_i hk
    subst hk
    cases hr
    simp [Op.equalIn,zY W hu,hX.int_inv,hY.int_inv,ZD]
   ·cases hr
  case h_3 hu =>
   cases h
   cases x<;>cases y<;>simp only [Cmp.eq,reduceCtorEq,Option.some.injEq] at hr
   subst hr
   simp [Op.equalIn,zY W hu,hX.str_inv,hY.str_inv]
  case h_4 hu =>
   split at h
   ·rename_i elem _ k hk
    cases h
    cases x<;>cases y<;>simp only [Cmp.eq,reduceCtorEq,Option.some.injEq] at hr
    case ptr.ptr b o b' o' =>
     split at hr
     ·rename_i hb
      have hb:=Nat.eq_of_beq_eq_true hb
      subst hb
      obtain ⟨c,q,hc,h1⟩:=hX.ptr_inv
      obtain ⟨c',q',hc',h2⟩:=hY.ptr_inv
      rw [hc] at hc';cases hc'
      by_cases hoo:o=o'
      ·subst hoo
       rw [Nat.beq_refl] at hr
       cases hr
       simp [Op.equalIn,zY W hu,h1,h2,jR W hk,run_sameAddr_same]
      ·rw [vf hoo] at hr
       cases hr
       simp [Op.equalIn,zY W hu,h1,h2,jR W hk,sameAddr,hoo]
     ·cases hr
    all_goals subst hr
    ·obtain ⟨_,_,_,h1⟩:=hX.ptr_inv;simp [Op.equalIn,zY W hu,h1,hY.nilptr_inv]
    ·obtain ⟨_,_,_,h1⟩:=hY.ptr_inv;simp [Op.equalIn,zY W hu,h1,hX.nilptr_inv]
    ·simp [Op.equalIn,zY W hu,hX.nilptr_inv,hY.nilptr_inv]
   ·cases h
  case h_5 hu =>
   cases h
   cases x<;>cases y<;>simp only [Cmp.eq,reduceCtorEq,Option.some.injEq] at hr<;>subst hr
   ·obtain ⟨_,_,_,h1⟩:=hX.slice_inv;simp [Op.equalIn,zY W hu,h1,hY.nilslice_inv]
   ·obtain ⟨_,_,_,h1⟩:=hY.slice_inv;simp [Op.equalIn,zY W hu,h1,hX.nilslice_inv]
   ·simp [Op.equalIn,zY W hu,hX.nilslice_inv,hY.nilslice_inv]
   ·obtain ⟨_,_,_,_,_,h1⟩:=hY.tail_inv;simp [Op.equalIn,zY W hu,h1,hX.nilslice_inv]
   ·obtain ⟨_,_,_,_,_,h1⟩:=hY.vs_inv;simp [Op.equalIn,zY W hu,h1,hX.nilslice_inv]
   ·obtain ⟨_,_,_,_,_,h1⟩:=hX.tail_inv;simp [Op.equalIn,zY W hu,h1,hY.nilslice_inv]
   ·obtain ⟨_,_,_,_,_,h1⟩:=hX.vs_inv;simp [Op.equalIn,zY W hu,h1,hY.nilslice_inv]
  case h_6 hu =>
   cases h
   cases x<;>cases y<;>simp only [Cmp.eq,reduceCtorEq,Option.some.injEq] at hr<;>subst hr
   ·obtain ⟨_,_,_,h1⟩:=hX.map_inv;simp [Op.equalIn,zY W hu,h1,hY.nilmap_inv]
   ·obtain ⟨_,_,_,h1⟩:=hY.map_inv;simp [Op.equalIn,zY W hu,h1,hX.nilmap_inv]
   ·simp [Op.equalIn,zY W hu,hX.nilmap_inv,hY.nilmap_inv]
  case h_7 hu =>
   cases h
   cases x<;>cases y<;>simp only [Cmp.eq,reduceCtorEq,Option.some.injEq] at hr<;>subst hr
   ·obtain ⟨_,_,h1,_,_⟩:=hX.func_inv;simp [Op.equalIn,zY W hu,h1,hY.nilfunc_inv]
   ·obtain ⟨_,_,_,h1⟩:=hX.yield_inv;simp [Op.equalIn,zY W hu,h1,hY.nilfunc_inv]
   ·obtain ⟨_,_,h1,_,_⟩:=hY.func_inv;simp [Op.equalIn,zY W hu,h1,hX.nilfunc_inv]
   ·obtain ⟨_,_,_,h1⟩:=hY.yield_inv;simp [Op.equalIn,zY W hu,h1,hX.nilfunc_inv]
   ·simp [Op.equalIn,zY W hu,hX.nilfunc_inv,hY.nilfunc_inv]
  case h_8 fs hu =>
   split at h
   ·cases h
   ·rename_i hst
    split at h
    ·rename_i l hl
     cases h
     cases x<;>cases y<;>simp only [Cmp.eq,reduceCtorEq] at hr
     rename_i xs ys
     obtain ⟨X',rfl,hx⟩:=hX.agg_inv
     obtain ⟨Y',rfl,hy⟩:=hY.agg_inv
     rw [run_equalIn_struct W e t X' Y' (by rw [vJA hu];exact hu) (by simpa using hst),vJA hu]
     exact YHA (gLA d) he' hx hy W _ l hl hr
    ·cases h
  case h_9 n elem hu =>
   split at h
   ·rename_i k sh c' hk hsh hc
    cases h
    cases x<;>cases y<;>simp only [Cmp.eq,reduceCtorEq] at hr
    rename_i xs ys
    obtain ⟨X',rfl,hx⟩:=hX.agg_inv
    obtain ⟨Y',rfl,hy⟩:=hY.agg_inv
    have hi:∃ i,P.info? elem=some i∧i.size=k:=by
     unfold jv at hk
     split at hk
     ·rename_i i hi;cases hk;exact ⟨i,hi,rfl⟩
     ·cases hk
    obtain ⟨i,hi,rfl⟩:=hi
    have hcells:P.cellsOf elem=i.size:=by simp [Program.cellsOf,hi]
    rw [run_equalIn_array W e X' Y' hu hi,hcells]
    exact zxJ (gLA d) he' hx hy W hsh hc i.size _ hr
   ·cases h
  case h_10=>cases h
theorem zmJ {op:BinOp} {t:TypeId} (hg:P.eqGuardType P.depth t=false) {c:Cmp} {x y:AV} {r:Bool} (hr:Cmp.eq c x y=some r) {ρ:Rho} {X Y:Value} (hX:VRel ρ x X) (hY:VRel ρ y Y)
  (p q:Operand) (W:World):(eqGuard op t p q X Y).run P W=.ok () W:=by
 by_cases hag:∃ a,X=.agg a
 ·obtain ⟨a,rfl⟩:=hag
  unfold eqGuard
  cases op<;>simp<;>(cases Y<;>first | rfl | simp [hg])
 ·refine wy op t p q (fun a e=>hag ⟨a,e⟩) ?_ W
  rintro rfl
  cases hX with
  | bad=>exact (gC hr).1 rfl
  | nilif=>cases c<;>cases y<;>simp [Cmp.eq] at hr
theorem VRJ {d:Nat} {t:TypeId} {c:Cmp} (h:ZE P (d+1) t=some c):(c=.int→∃ k,P.underlying t=some (.int k))∧(c=.str→P.underlying t=some .string):=by
 unfold ZE at h
 split at h
 case h_1 hu=>cases h;exact ⟨(fun e=>by cases e),(fun e=>by cases e)⟩
 case h_2 hu=>cases h;exact ⟨fun _=>⟨_,hu⟩,(fun e=>by cases e)⟩
 case h_3 hu=>cases h;exact ⟨(fun e=>by cases e),fun _=>hu⟩
 case h_4 hu=>split at h<;>cases h;exact ⟨(fun e=>by cases e),(fun e=>by cases e)⟩
 case h_5 hu=>cases h;exact ⟨(fun e=>by cases e),(fun e=>by cases e)⟩
 case h_6 hu=>cases h;exact ⟨(fun e=>by cases e),(fun e=>by cases e)⟩
 case h_7 hu=>cases h;exact ⟨(fun e=>by cases e),(fun e=>by cases e)⟩
 case h_8 fs hu =>
  split at h
  ·cases h
  ·split at h
   ·cases h;exact ⟨(fun e=>by cases e),(fun e=>by cases e)⟩
   ·cases h
 case h_9 =>
  split at h
  ·cases h;exact ⟨(fun e=>by cases e),(fun e=>by cases e)⟩
  ·cases h
 case h_10=>cases h
theorem wiJ {op:BinOp} (hop:op=.eql∨op=.neq) {t:TypeId} {c:Cmp} (h1:c≠.int) (h2:c≠.str) {x y:AV} {r:Bool} (hr:Cmp.eq c x y=some r) {ρ:Rho} {X Y:Value} (hX:VRel ρ x X) (hY:VRel ρ y Y)
  {W:World} (he:(Op.equal t X Y).run P W=.ok r W):(binOp op t X Y).run P W=.ok (.bool (match op with | .neq=>!r | _=>r)) W:=by
 have hb:=gC hr
 cases hX<;>first | exact absurd rfl hb.1 | skip
 all_goals cases hY<;>first | exact absurd rfl hb.2 | skip
 all_goals first
  | (exfalso;cases c<;>simp [Cmp.eq] at hr h1 h2;done)
  | (rcases hop with rfl | rfl<;>simp [binOp,he])
theorem JMA {neg:Bool} {t yt:TypeId} {D:TypeDesc} (hu:P.underlying t=some D) (hg:P.eqGuardType P.depth t=false)
  {c:Cmp} (hc:ZE P vl t=some c) (hni:∀ k,D≠.int k) (hns:D≠.string)
  {x y:Operand} {a b:Arg} (ha:jL x=some a) (hb:jL y=some b):Sound P (.binOp (if neg then .neq else .eql) t x y yt) (wuA c neg a b):=by
 intro o ho ρ L T s W v s' hL hs h
 have hx:=zX hL ha
 have hy:=zX hL hb
 have h':vVA c neg s (a.ev L) (b.ev L)=.val v s':=h
 generalize a.ev L=av at hx h'
 generalize b.ev L=bv at hy h'
 unfold vVA at h'
 split at h'
 ·rename_i r hr
  cases h'
  obtain ⟨k1,k2⟩:=VRJ (d:=11) hc
  have h1:c≠.int:=fun e=>by obtain ⟨k,hk⟩:=k1 e;rw [hu] at hk;cases hk;exact hni k rfl
  have h2:c≠.str:=fun e=>by have hk:=k2 e;rw [hu] at hk;cases hk;exact hns rfl
  have heq:(Op.equal t (evT T x) (evT T y)).run P W=.ok r W:=gLA vl hc (by unfold vl Op.maxDepth;omega) hr hx hy W
  cases neg with
  | false =>
   have hgd:=zmJ (op:=.eql) hg hr hx hy x y W
   have hbn:=wiJ (op:=.eql) (.inl rfl) h1 h2 hr hx hy heq
   exact Res.same hs (V:=.bool r) (by simp [execOp,ho,hgd,hbn]) (.bool _)
  | true =>
   have hgd:=zmJ (op:=.neq) hg hr hx hy x y W
   have hbn:=wiJ (op:=.neq) (.inr rfl) h1 h2 hr hx hy heq
   exact Res.same hs (V:=.bool (!r)) (by simp [execOp,ho,hgd,hbn]) (.bool _)
 ·cases h'
end Go.Abs
end
