/- A hall that is made better: what its bays bear. -/
import Derived.Test.YtoklbkgcclkejaaM6
import Derived.Test.YtoklbkgcclkejaaM8
import Derived.Test.YtoklbkgcclkejaaM7
import Derived.Test.YtoklbkgcclkejaaCodes
import Derived.Test.YtoklbkgcclkejaaWalkAll
set_option linter.unusedSimpArgs false
set_option linter.unusedVariables false
set_option maxHeartbeats 16000000
set_option linter.unusedVariables false
set_option maxRecDepth 10000
namespace Go.Proofs.Ytoklbkgcclkejaa.walk
open Go.Abs Go.Proofs.Ytoklbkgcclkejaa.code
theorem yCA (x:AV):∀ {rows:List (List AV)} {w i j:Nat},(∀ r ∈ rows,r.length=w)→(hi:i<rows.length)→j<w→rows.flatten.set (i * w+j) x=(rows.set i (rows[i].set j x)).flatten
 | [],_,_,_,_,hi,_=>by simp at hi
 | a::r,w,0,j,h,hi,hj=>by
  have ha:=h a (List.mem_cons_self ..)
  rw [List.flatten_cons,Nat.zero_mul,Nat.zero_add,List.set_append_left _ _ (by omega)]
  rfl
 | a::r,w,i+1,j,h,hi,hj=>by
  have ha:=h a (List.mem_cons_self ..)
  rw [List.flatten_cons,List.set_append_right _ _ (by rw [ha,Nat.succ_mul];omega),show (i+1) * w+j - a.length=i * w+j by rw [ha,Nat.succ_mul];omega,yCA x (fun s hs=>h s (List.mem_cons_of_mem _ hs)) (by simpa using hi) hj]
  rfl
theorem Wb:∀ (a b:List AV) (k:Nat),nth (a++b) (a.length+k)=nth b k
 | [],b,k=>by rw [List.nil_append,List.length_nil,Nat.zero_add]
 | x::a,b,k=>by
  rw [List.cons_append,List.length_cons,wR,if_neg (by omega),show a.length+1+k - 1=a.length+k by omega]
  exact Wb a b k
theorem zuA:∀ (a b:List AV) (k:Nat),k<a.length→nth (a++b) k=nth a k
 | [],_,_,h=>by simp at h
 | x::a,b,0,_=>rfl
 | x::a,b,k+1,h=>zuA a b k (by simpa using h)
theorem wdA:∀ {rows:List (List AV)} {w i j:Nat},(∀ r ∈ rows,r.length=w)→(hi:i<rows.length)→j<w→nth rows.flatten (i * w+j)=nth rows[i] j
 | [],_,_,_,_,hi,_=>by simp at hi
 | a::r,w,0,j,h,hi,hj=>by
  have ha:=h a (List.mem_cons_self ..)
  rw [List.flatten_cons,Nat.zero_mul,Nat.zero_add]
  exact zuA _ _ _ (by omega)
 | a::r,w,i+1,j,h,hi,hj=>by
  have ha:=h a (List.mem_cons_self ..)
  rw [List.flatten_cons,show (i+1) * w+j=a.length+(i * w+j) by rw [ha,Nat.succ_mul];omega,Wb]
  exact wdA (fun s hs=>h s (List.mem_cons_of_mem _ hs)) (by simpa using hi) hj
theorem jIA (l:List Int):∀ r ∈ jA l,r.length=1:=fun x hx=>by obtain ⟨p,_,rfl⟩:=List.mem_map.mp hx;rfl
theorem zkJ (l:List Int) {i:Nat} (hi:i<l.length) (y:Int):(jA l).flatten.set i (.int .i64 y)=(jA (l.set i y)).flatten:=by
 have h:=yCA (.int .i64 y) (rows:=jA l) (w:=1) (i:=i) (j:=0) (jIA l) (by rw [jc];exact hi) (by omega)
 rw [Nat.mul_one,Nat.add_zero] at h
 rw [h]
 unfold jA
 rw [List.map_set,List.getElem_map]
 rfl
structure XJ (t0 t:St) (d s0 tc bB q m bK:Nat) (ba:List Nat) (G:HallR) (xW xS xK:AV) (kk:Nat):Prop where
 die:Die d t.h
 g5:t.h.get tc=some (.cells (zP G xW xS (slI bB G.bears.length) xK) (tag 30))
 hx:HallX t.h tc s0 bB q m bK ba G xW xS (slI bB G.bears.length) xK
 old:∀ c,c<s0→c≠d→t.h.get c=t0.h.get c
 n:tc<t.n
 le:t.n≤tc+kk
 m:d≤t.m∧t.m≤far
 dl:d<s0
def HallR.mirC (H:HallR) (c:Int × Int):Int × Int:=((H.wide:Int) - 1 - c.1,c.2)
def HallR.mirP (H:HallR) (p:PutR):PutR:=⟨(H.wide:Int) - 1 - p.x,p.y,p.kind⟩
def HallR.mirB (H:HallR) (i:Nat):Nat:=i / H.cols * H.cols+(H.cols - 1 - i % H.cols)
structure Mir (H G:HallR):Prop where
 w:G.wide=H.wide
 d:G.deep=H.deep
 x:G.bx=H.bx
 z:G.bz=H.bz
 k:G.kinds=H.kinds
 m:H.wide % H.bx=0
 wa:∀ c,H.In c→(H.mirC c ∈ G.water↔c ∈ H.water)
 sh:∀ c,H.In c→(H.mirC c ∈ G.shut↔c ∈ H.shut)
 b:∀ i,i<H.bays→G.bears.getD (H.mirB i) 0=H.bears.getD i 0
theorem Ju (H:HallR) (c:Int × Int):H.mirC (H.mirC c)=c:=by
 unfold HallR.mirC
 exact Prod.ext (by show (H.wide:Int) - 1 - ((H.wide:Int) - 1 - c.1)=c.1;omega) rfl
theorem zxA {H:HallR} {c:Int × Int} (h:H.In c):H.In (H.mirC c):=by
 unfold HallR.In HallR.mirC at *
 simp only
 omega
section
variable {H G:HallR} (S:Mir H G)
include S
theorem Mir.in_ (c:Int × Int):G.In c↔H.In c:=by unfold HallR.In;rw [S.w,S.d]
theorem Mir.cols:G.cols=H.cols:=by unfold HallR.cols;rw [S.w,S.x]
theorem Mir.bays:G.bays=H.bays:=by unfold HallR.bays;rw [S.cols,S.d,S.z]
theorem Mir.kind (k:Nat):G.kind k=H.kind k:=by unfold HallR.kind;rw [S.k]
theorem Mir.mc (c:Int × Int):G.mirC c=H.mirC c:=by unfold HallR.mirC;rw [S.w]
theorem Mir.mb (i:Nat):G.mirB i=H.mirB i:=by unfold HallR.mirB;rw [S.cols]
end
theorem zBA {H:HallR} (sz:H.Size) {y x:Nat} (hx:x<H.cols):H.mirB (y * H.cols+x)=y * H.cols+(H.cols - 1 - x):=by
 unfold HallR.mirB
 have h1:(y * H.cols+x) / H.cols=y:=by
  rw [Nat.mul_comm,Nat.mul_add_div (by omega),Nat.div_eq_of_lt hx,Nat.add_zero]
 have h2:(y * H.cols+x) % H.cols=x:=by
  rw [Nat.mul_comm,Nat.mul_add_mod,Nat.mod_eq_of_lt hx]
 rw [h1,h2]
theorem VM {H:HallR} (sz:H.Size) (i:Nat):H.mirB (H.mirB i)=i:=by
 have hc:=gYA sz
 have h1:=Nat.div_add_mod i H.cols
 have h2:=Nat.mod_lt i (show 0<H.cols by omega)
 rw [Nat.mul_comm] at h1
 conv=>lhs;rw [← h1]
 rw [zBA sz h2,zBA sz (by omega)]
 omega
theorem YU {H:HallR} (sz:H.Size) {i:Nat} (hi:i<H.bays):H.mirB i<H.bays:=by
 have hc:=gYA sz
 unfold HallR.bays at hi ⊢
 unfold HallR.mirB
 have h1:i / H.cols<(H.deep+H.bz - 1) / H.bz:=by
  rw [Nat.div_lt_iff_lt_mul (by omega),Nat.mul_comm];exact hi
 have h2:(i / H.cols+1) * H.cols≤(H.deep+H.bz - 1) / H.bz * H.cols:=Nat.mul_le_mul_right _ h1
 rw [Nat.succ_mul] at h2
 rw [Nat.mul_comm H.cols]
 omega
theorem WlJ {H G:HallR} (S:Mir H G) (sz:H.Size) {p:PutR} (hp:H.In p.c):G.bay (H.mirP p)=H.mirB (H.bay p):=by
 obtain ⟨⟨a1,a2⟩,a3,a4⟩:=hp
 have a1:0≤p.x:=a1
 have a2:p.x<H.wide:=a2
 obtain ⟨x,hx⟩:=Int.eq_ofNat_of_zero_le a1
 have hxw:x<H.wide:=by omega
 have e:((H.wide:Int) - 1 - p.x).toNat=H.wide - 1 - x:=by omega
 show G.bayAt ((H.wide:Int) - 1 - p.x).toNat p.y.toNat=H.mirB (H.bayAt p.x.toNat p.y.toNat)
 rw [e,show p.x.toNat=x by omega]
 unfold HallR.bayAt
 rw [S.cols,S.x,S.z,zBA sz (VIJ sz hxw)]
 congr 1
 have hb:=sz.x0
 have hm:=S.m
 obtain ⟨c,hc⟩:∃ c,H.wide=H.bx * c:=⟨H.wide / H.bx,by have:=Nat.div_add_mod H.wide H.bx;omega⟩
 have hcols:H.cols=c:=by
  unfold HallR.cols
  rw [hc,show H.bx * c+H.bx - 1=H.bx * c+(H.bx - 1) by omega,Nat.mul_add_div (by omega),Nat.div_eq_of_lt (by omega),Nat.add_zero]
 rw [hcols]
 have h1:=Nat.div_add_mod x H.bx
 have h2:=Nat.mod_lt x (show 0<H.bx by omega)
 have h3:x / H.bx<c:=by rw [Nat.div_lt_iff_lt_mul (by omega),Nat.mul_comm,← hc];exact hxw
 obtain ⟨f,hf⟩:∃ f,c=x / H.bx+1+f:=⟨c - 1 - x / H.bx,by omega⟩
 have h4:H.bx * c=H.bx * (x / H.bx)+H.bx+H.bx * f:=by
  conv=>lhs;rw [hf]
  rw [Nat.mul_add,Nat.mul_add,Nat.mul_one]
 have h5:H.wide - 1 - x=H.bx * f+(H.bx - 1 - x % H.bx):=by omega
 rw [h5,Nat.mul_add_div (by omega),Nat.div_eq_of_lt (by omega)]
 omega
theorem Mir.symm {H G:HallR} (S:Mir H G) (sz:H.Size):Mir G H:=by
 refine ⟨S.w.symm,S.d.symm,S.x.symm,S.z.symm,S.k.symm,by rw [S.w,S.x];exact S.m,fun c hc=>?_,fun c hc=>?_,fun i hi=>?_⟩
 ·have hc:=(S.in_ c).mp hc
  have:=S.wa (H.mirC c) (zxA hc)
  rw [Ju] at this
  rw [S.mc];exact this.symm
 ·have hc:=(S.in_ c).mp hc
  have:=S.sh (H.mirC c) (zxA hc)
  rw [Ju] at this
  rw [S.mc];exact this.symm
 ·rw [S.bays] at hi
  have:=S.b (H.mirB i) (YU sz hi)
  rw [VM sz] at this
  rw [S.mb];exact this.symm
section
variable {H G:HallR} (S:Mir H G) (sz:H.Size)
include S sz
theorem Mir.tot_ {f:KindR→Int}:∀ (l:List PutR) (b:Nat),(∀ p ∈ l,H.In p.c)→tot ((l.map H.mirP).map fun p=>(G.bay p,f (G.kind p.kind))) (H.mirB b)=tot (l.map fun p=>(H.bay p,f (H.kind p.kind))) b
 | [],_,_=>rfl
 | p::l,b,h=>by
  have ih:=Mir.tot_ l b (f:=f) fun q hq=>h q (List.mem_cons_of_mem _ hq)
  have hb:=WlJ S sz (h p (List.mem_cons_self ..))
  show (if G.bay (H.mirP p)=H.mirB b then f (G.kind p.kind) else 0)+_=(if H.bay p=b then f (H.kind p.kind) else 0)+_
  rw [ih,hb,S.kind]
  congr 1
  by_cases e:H.bay p=b
  ·rw [if_pos e,if_pos (by rw [e])]
  ·rw [if_neg e,if_neg fun h=>e (by rw [← VM sz (H.bay p),h,VM sz])]
theorem Mir.verdict {l:List PutR} (h:∀ p ∈ l,H.In p.c):G.verdict (l.map H.mirP)=H.verdict l:=by
 have key:∀ (f:KindR→Int),(∃ b,b<G.bays∧G.bears.getD b 0<tot ((l.map H.mirP).map fun p=>(G.bay p,f (G.kind p.kind))) b)↔∃ b,b<H.bays∧H.bears.getD b 0<tot (l.map fun p=>(H.bay p,f (H.kind p.kind))) b:=fun f=>by
  rw [S.bays]
  constructor
  ·rintro ⟨b,h1,h2⟩
   refine ⟨H.mirB b,YU sz h1,?_⟩
   have h3:=S.b (H.mirB b) (YU sz h1)
   have h4:=S.tot_ sz (f:=f) l (H.mirB b) h
   rw [VM sz] at h3 h4
   rw [← h3,← h4];exact h2
  ·rintro ⟨b,h1,h2⟩
   refine ⟨H.mirB b,YU sz h1,?_⟩
   rw [S.b b h1,S.tot_ sz (f:=f) l b h];exact h2
 have k1:=key KindR.lo
 have k2:=key KindR.hi
 show (if (∃ b,b<G.bays∧G.bears.getD b 0<tot ((l.map H.mirP).map fun p=>(G.bay p,(G.kind p.kind).lo)) b) then (2:Int) else if (∃ b,b<G.bays∧G.bears.getD b 0<tot ((l.map H.mirP).map fun p=>(G.bay p,(G.kind p.kind).hi)) b) then 3 else 1)=if (∃ b,b<H.bays∧H.bears.getD b 0<tot (l.map fun p=>(H.bay p,(H.kind p.kind).lo)) b) then 2 else if (∃ b,b<H.bays∧H.bears.getD b 0<tot (l.map fun p=>(H.bay p,(H.kind p.kind).hi)) b) then 3 else 1
 simp only [k1,k2]
omit sz in
theorem Mir.valid {l:List PutR} (v:H.Valid l):G.Valid (l.map H.mirP):=by
 have hd:∀ p q:PutR,dist (H.mirP p) (H.mirP q)=dist p q:=fun p q=>by unfold dist HallR.mirP;simp only;omega
 have hcl:∀ p q:PutR,G.clash (H.mirP p) (H.mirP q)↔H.clash p q:=fun p q=>by
  unfold HallR.clash HallR.away
  rw [hd,S.kind,S.kind];rfl
 refine ⟨fun p hp=>?_,List.pairwise_map.mpr (v.p.imp fun {a b} h=>⟨fun e=>h.1 (by
  have e:H.mirC a.c=H.mirC b.c:=e
  rw [← Ju H a.c,e,Ju]),fun hc=>h.2 ((hcl b a).mp hc)⟩),fun k hk=>?_⟩
 ·obtain ⟨q,hq,rfl⟩:=List.mem_map.mp hp
  obtain ⟨m1,m2,m3⟩:=v.m q hq
  refine ⟨(S.in_ _).mpr (zxA m1),fun hs=>m2 ((S.sh _ m1).mp hs),fun hw=>(S.wa _ m1).mpr (m3 ?_)⟩
  rw [S.kind] at hw;exact hw
 ·rw [S.k] at hk
  rw [S.kind]
  have:many (l.map H.mirP) k=many l k:=by
   unfold many
   rw [List.filter_map,List.length_map];rfl
  rw [this]
  exact v.o k hk
theorem Mir.good {l:List PutR} (okH:H.Ok) (g:H.Good l):G.Good (l.map H.mirP):=by
 have hin:=fun p hp=>(g.v.m p hp).i
 refine ⟨S.valid g.v,by rw [S.verdict sz hin];exact g.s,fun q hq=>?_⟩
 obtain ⟨p,hp,rfl⟩:=List.mem_map.mp hq
 have h1:=g.i p hp
 obtain ⟨⟨a1,a2⟩,a3,a4⟩:=hin p hp
 have a1:0≤p.x:=a1
 have a2:p.x<H.wide:=a2
 have:=sz.w1
 exact ⟨by rw [S.k];exact h1.k,by show -100≤(H.wide:Int) - 1 - p.x;omega,by show (H.wide:Int) - 1 - p.x≤100;omega,h1.y0,h1.y1⟩
omit sz in
theorem Mir.worth (l:List PutR):G.worth (l.map H.mirP)=H.worth l:=by
 have:∀ l:List PutR,tot (G.rents (l.map H.mirP)) 0=tot (H.rents l) 0:=fun l=>by
  unfold HallR.rents
  rw [List.map_map]
  congr 1
  exact List.map_congr_left fun p _=>by show (0,(G.kind p.kind).rent)=(0,(H.kind p.kind).rent);rw [S.kind]
 unfold HallR.worth
 rw [this,List.length_map]
end
theorem wxA:∀ (cs:List (Int × Int)) (l:List PutR),(∀ p ∈ l,p.c ∈ cs)→l.Pairwise (fun a b=>a.c≠b.c)→∃ r,List.Perm l r∧List.Sublist (r.map PutR.c) cs
 | [],l,h,_=>by
  cases l with
  | nil=>exact ⟨[],List.Perm.refl _,List.Sublist.refl _⟩
  | cons p l=>cases h p (List.mem_cons_self ..)
 | c::cs,l,h,hp=>by
  by_cases hc:∃ p ∈ l,p.c=c
  ·obtain ⟨p,hpl,rfl⟩:=hc
   obtain ⟨a,b,rfl⟩:=List.append_of_mem hpl
   have hm:=@List.perm_middle _ p a b
   have hp2:(p::(a++b)).Pairwise (fun a b=>a.c≠b.c):=(hm.pairwise_iff (fun {a b} h=>h.symm)).mp hp
   obtain ⟨h1,h2⟩:=List.pairwise_cons.mp hp2
   obtain ⟨r,r1,r2⟩:=wxA cs (a++b) (fun q hq=>by
    have:=h q (hm.symm.subset (List.mem_cons_of_mem _ hq))
    rcases List.mem_cons.mp this with e | e
    ·exact absurd e.symm (h1 q hq)
    ·exact e) h2
   exact ⟨p::r,hm.trans (r1.cons p),r2.cons_cons _⟩
  ·obtain ⟨r,r1,r2⟩:=wxA cs l (fun q hq=>by
    rcases List.mem_cons.mp (h q hq) with e | e
    ·exact absurd ⟨q,hq,e⟩ hc
    ·exact e) hp
   exact ⟨r,r1,r2.cons _⟩
theorem vOJ {H:HallR} (ok:H.Ok):∀ (cs:List (Int × Int)) (r l:List PutR),List.Sublist (r.map PutR.c) cs→H.Good (l++r)→(∀ k,H.Good (l++r.take k))→(∀ c ∈ cs,H.In c)→Ext H.kinds.length H.takesB cs l (l++r)
 | [],r,l,hs,_,_,_=>by
  have:r=[]:=List.map_eq_nil_iff.mp (List.sublist_nil.mp hs)
  rw [this,List.append_nil];exact .nil l
 | c::cs,r,l,hs,hg,hk,hc=>by
  cases hr:r with
  | nil =>
   rw [List.append_nil]
   exact VY _ _ _ _
  | cons p r' =>
   rw [hr] at hs hg hk
   rw [List.map_cons] at hs
   by_cases e:p.c=c
   ·subst e
    have hs':List.Sublist (r'.map PutR.c) cs:=List.cons_sublist_cons.mp hs
    have hpk:=(hg.i p (List.mem_append_right _ (List.mem_cons_self ..))).k
    have hput:yC p.c p.kind=p:=rfl
    have h1:H.Good (l++[p]):=by have:=hk 1;simpa using this
    have h0:H.Good l:=by have:=hk 0;simpa using this
    have ht:=(VV ok h0 (hc _ (List.mem_cons_self ..)) hpk).mpr (by rw [hput];exact h1)
    have:=vOJ ok cs r' (l++[p]) hs' (by rw [List.append_assoc];exact hg) (fun k=>by
     have:=hk (k+1)
     rw [List.take_succ_cons] at this
     rw [List.append_assoc];exact this) fun c hcc=>hc c (List.mem_cons_of_mem _ hcc)
    rw [List.append_assoc] at this
    exact .put p.kind hpk (yZ.mpr ht) (by rw [hput];exact this)
   ·have hs':List.Sublist ((p::r').map PutR.c) cs:=by
     rw [List.map_cons]
     cases hs with
     | cons _ h=>exact h
     | cons_cons _ h=>exact absurd rfl e
    exact .skip (vOJ ok cs (p::r') l hs' hg hk fun c hcc=>hc c (List.mem_cons_of_mem _ hcc))
theorem listed {H:HallR} (ok:H.Ok) {l:List PutR} (g:H.Good l):∃ r,List.Perm l r∧r ∈ H.lays H.placesI []:=by
 have hmem:∀ p ∈ l,p.c ∈ H.placesI.filter fun c=>!decide (c ∈ H.shut):=fun p hp=>by
  obtain ⟨m1,m2,_⟩:=g.v.m p hp
  refine List.mem_filter.mpr ⟨?_,by simpa using m2⟩
  obtain ⟨x,y,ex,ey,hx,hy⟩:=zIA m1
  unfold HallR.placesI HallR.places
  rw [List.map_map]
  refine List.mem_map.mpr ⟨y * H.wide+x,List.mem_range.mpr ?_,?_⟩
  ·have:=zkA hx hy
   rwa [yq] at this
  ·have h1:(y * H.wide+x) % H.wide=x:=by rw [Nat.mul_comm,Nat.mul_add_mod,Nat.mod_eq_of_lt hx]
   have h2:(y * H.wide+x) / H.wide=y:=by rw [Nat.mul_comm,Nat.mul_add_div (by omega),Nat.div_eq_of_lt hx,Nat.add_zero]
   show ((((y * H.wide+x) % H.wide:Nat):Int),(((y * H.wide+x) / H.wide:Nat):Int))=p.c
   rw [h1,h2]
   exact Prod.ext ex.symm ey.symm
 obtain ⟨r,r1,r2⟩:=wxA _ l hmem (g.v.p.imp fun h=>h.1)
 have gr:H.Good r:=⟨jpJ r1 g.v,by rw [← YcA r1];exact g.s,fun q hq=>g.i q (r1.symm.subset hq)⟩
 have hin:=ZS ok.w0
 refine ⟨r,r1,(gX ok H.placesI [] r hin (gZ ok)).mpr ?_⟩
 have:=vOJ ok _ r [] r2 gr (fun k=>by
  rw [List.nil_append]
  have hsub:List.Sublist (r.take k) r:=List.take_sublist ..
  exact ⟨gEJ hsub gr.v,WRA ok gr.i hsub gr.s,fun q hq=>gr.i q (hsub.subset hq)⟩) fun c hc=>hin c (List.mem_filter.mp hc).1
 exact this
theorem Mir.le {H G:HallR} (S:Mir H G) (okH:H.Ok) (okG:G.Ok):¬ Bt (H.worth H.best.2) (G.worth G.best.2):=by
 obtain ⟨_,g,_,_⟩:=Yq okH
 obtain ⟨_,_,_,g4⟩:=Yq okG
 obtain ⟨r,r1,r2⟩:=listed okG (S.good okH.toSize okH g)
 have h:=(g4 r r2).2.1
 have e:G.worth r=H.worth H.best.2:=by
  rw [← S.worth]
  unfold HallR.worth
  rw [yOJ r1,r1.length_eq]
 rwa [e] at h
theorem Mir.best {H G:HallR} (S:Mir H G) (okH:H.Ok) (okG:G.Ok):H.worth H.best.2=G.worth G.best.2:=by
 have h1:=S.le okH okG
 have h2:=(S.symm okH.toSize).le okG okH
 unfold Bt at h1 h2
 exact Prod.ext (by omega) (by omega)
theorem gH (l:List (Int × Int)):∀ r ∈ l.map jC,r.length=2:=fun r hr=>by obtain ⟨p,_,rfl⟩:=List.mem_map.mp hr;rfl
theorem YPA (l:List (Int × Int)) {i:Nat} (hi:i<l.length) (x:Int):(l.map jC).flatten.set (i * 2) (.int .i64 x)=((l.set i (x,l[i].2)).map jC).flatten:=by
 have h:=yCA (.int .i64 x) (rows:=l.map jC) (w:=2) (i:=i) (j:=0) (gH l) (by rw [List.length_map];exact hi) (by omega)
 rw [Nat.add_zero] at h
 rw [h,List.map_set,List.getElem_map]
 rfl
theorem YQA (l:List (Int × Int)) {i:Nat} (hi:i<l.length):nth (l.map jC).flatten (i * 2)=.int .i64 l[i].1:=by
 have h:=wdA (rows:=l.map jC) (w:=2) (i:=i) (j:=0) (gH l) (by rw [List.length_map];exact hi) (by omega)
 rw [Nat.add_zero] at h
 rw [h,List.getElem_map]
 rfl
theorem ZDJ (N:Nat) (cx:Ctx) {t:St} {lo hi p1 p3:Nat} {H:HallR} {vW vS vB vK w2 w3 v wB wK:AV} {W:List (Int × Int)} {L:Env} {r:R} (hr:jK jgJ rounds (call Try.prog X N) cx L [] t=r) (ok:H.Size) (hO:Own t.h lo hi 2 (tag 27) (W.map jC) v) (hin:∀ c ∈ W,H.In c) (hl:W.length≤24) (hn:hi≤t.n) (hp:(p1<lo∨hi≤p1)∧(p3<lo∨hi≤p3)) (g1:t.h.get p1=some (.cells (zP H vW vS vB vK) (tag 30))) (g3:t.h.get p3=some (.cells (zP H v w3 wB wK) (tag 30))) (hs:t.n+1000≤far) (hm:t.m≤far)
  (q1:L.find 1=.ptr p1 0) (q3:L.find 3=.ptr p3 0) (q4:L.find 4=.int .i64 0) :
  ∃ L1 t1,r=.done (.exit 0) L1 [] t1∧Own t1.h lo hi 2 (tag 27) ((W.map H.mirC).map jC) v∧(∀ c,(c<lo∨hi≤c)→t1.h.get c=t.h.get c)∧t1.n=t.n∧(∀ k,k≤lo→k≤t.m→k≤t1.m)∧t1.m≤t.m∧∀ c,c<4→L1.find c=L.find c:=by
 have hf:=hfar
 have w1:=ok.w1
 have w0:=ok.w0
 obtain ⟨_,okv,_⟩:=znA hO
 have lv:∀ s,zq s v=.val (.int .i64 (W.length:Int)) s:=fun s=>by
  have:=(jsA (no:=fun _=>True) hO fun _ _ _=>trivial).len s
  rwa [List.length_map] at this
 obtain ⟨e,L1,t1,rfl,rfl,h1,h2,h3,h4,h5,h6⟩:=jO hr
  (fun i L' t'=>(∃ Ws:List (Int × Int),Ws.length=W.length∧(∀ j (j1:j<W.length) (j2:j<Ws.length),(j<i→Ws[j]=H.mirC W[j])∧(i≤j→Ws[j]=W[j]))∧Own t'.h lo hi 2 (tag 27) (Ws.map jC) v)∧(∀ c,(c<lo∨hi≤c)→t'.h.get c=t.h.get c)∧t'.n=t.n∧(∀ k,k≤lo→k≤t.m→k≤t'.m)∧t'.m≤t.m∧(∀ c,c<4→L'.find c=L.find c)∧L'.find 4=.int .i64 (i:Int))
  (fun e L1 t1=>e=.exit 0∧Own t1.h lo hi 2 (tag 27) ((W.map H.mirC).map jC) v∧(∀ c,(c<lo∨hi≤c)→t1.h.get c=t.h.get c)∧t1.n=t.n∧(∀ k,k≤lo→k≤t.m→k≤t1.m)∧t1.m≤t.m∧∀ c,c<4→L1.find c=L.find c) W.length (by unfold rounds;omega)
  ⟨⟨W,rfl,fun j j1 j2=>⟨fun h=>by omega,fun _=>rfl⟩,hO⟩,fun _ _=>rfl,rfl,fun _ _ h=>h,Nat.le_refl _,fun _ _=>rfl,q4⟩
  (fun i L' t' hi2 ⟨⟨Ws,hw,hx,hO'⟩,p2,pn,pm,pm2,pc,q4⟩=>by
   have q1:=(pc 1 (by omega)).trans q1
   have q3:=(pc 3 (by omega)).trans q3
   have g1':=(p2 p1 hp.1).trans g1
   have g3':=(p2 p3 hp.2).trans g3
   by_cases hlt:i<W.length
   ·have hiw:i<Ws.length:=by omega
    have e0:decide ((i:Int)<(W.length:Int))=true:=decide_eq_true (by omega)
    have ad:∀ s,jI s .i64 (i:Int) 1=.val (.int .i64 ((i:Int)+1)) s:=fun s=>za s _ _ (by omega)
    have hwi:=(hx i hlt hiw).2 (Nat.le_refl _)
    obtain ⟨⟨c1,c2⟩,_⟩:=hin W[i] (List.getElem_mem hlt)
    rw [← hwi] at c1 c2
    rcases hO'.is with ⟨h1,_⟩ | ⟨h0,b,b1,b2,b3,b4⟩
    ·have:=congrArg List.length h1
     rw [List.length_map,List.length_nil] at this
     omega
    ·rw [List.length_map] at b3
     have hix:∀ s,jX 2 s v (.int .i64 (i:Int))=.val (.ptr b (i * 2)) s:=fun s=>by rw [b3,jq _ _ _ _ _ _ _ _ hiw,Nat.zero_add]
     have hnt:=YQA Ws hiw
     have s1:∀ s,yK s .i64 (H.wide:Int) 1=.val (.int .i64 ((H.wide:Int) - 1)) s:=fun s=>je s _ _ (by omega)
     have s2:∀ s,yK s .i64 ((H.wide:Int) - 1) Ws[i].1=.val (.int .i64 ((H.wide:Int) - 1 - Ws[i].1)) s:=fun s=>je s _ _ (by omega)
     obtain ⟨Y,hY⟩:∃ Y:St,Y=t'.put b (.cells ((Ws.set i ((H.wide:Int) - 1 - Ws[i].1,Ws[i].2)).map jC).flatten (2+tag 27)):=⟨_,rfl⟩
     have stY:jM 1 t' (.int .i64 ((H.wide:Int) - 1 - Ws[i].1)) (.ptr b (i * 2))=.val .undef Y:=by
      have h:=jZ (o:=i * 2) (v:=.int .i64 ((H.wide:Int) - 1 - Ws[i].1)) b4 (by rw [jx (gH _),List.length_map];omega) rfl rfl
      rw [YPA Ws hiw] at h
      rw [h,hY]
     have Yn:Y.n=t'.n:=by rw [hY,jB]
     have Ym:Y.m=min t'.m b:=by rw [hY];simp only [St.put,zQ]
     have Yb:Y.h.get b=some (.cells ((Ws.set i ((H.wide:Int) - 1 - Ws[i].1,Ws[i].2)).map jC).flatten (2+tag 27)):=by rw [hY];exact zN _ _ _ _ rfl (by omega)
     have Yg:∀ c,c≠b→Y.h.get c=t'.h.get c:=fun c hc=>by rw [hY,zL _ _ _ _ hc]
     clear hY
     have hwk:∃ L1,jgJ (call Try.prog X N) cx L' [] t'=.done .norm L1 [] Y∧(∀ c,c<4→L1.find c=L'.find c)∧L1.find 4=.int .i64 ((i:Int)+1):=by
      simp (disch:=first|omega|with_unfolding_all rfl) only [jgJ,K37r3,K37r4,K37r5,Abs.W,reduceIte,Nat.reduceEqDiff,Nat.reduceAdd,Nat.reduceSub,q1,q3,q4,g1',g3',okv,lv,e0,ad,s1,s2,hix,b4,hnt,stY,wY _ (vH _),Nat.zero_add,Nat.add_zero]
      refine ⟨_,rfl,fun c hc=>?_,?_⟩
      ·have h1:¬ 14=c:=by omega
       have h2:¬ 4=c:=by omega
       simp only [efs,h1,h2,reduceIte]
      ·simp only [efs,reduceIte,Nat.reduceEqDiff]
     obtain ⟨L1,hw1,hw2,hw3⟩:=hwk
     refine .inl ⟨hlt,L1,Y,hw1,⟨Ws.set i ((H.wide:Int) - 1 - Ws[i].1,Ws[i].2),by rw [List.length_set];exact hw,fun j j1 j2=>?_,⟨gH _,.inr ⟨fun h=>?_,b,b1,b2,by rw [List.length_map,List.length_set];exact b3,Yb⟩⟩⟩,fun c hc=>(Yg c (by omega)).trans (p2 c hc),by omega,fun k k1 k2=>by have:=pm k k1 k2;omega,by omega,fun c hc=>(hw2 c hc).trans (pc c hc),hw3⟩
     ·rw [List.length_set] at j2
      rw [List.getElem_set]
      by_cases e:i=j
      ·subst e
       rw [if_pos rfl]
       exact ⟨fun _=>by rw [← hwi];rfl,fun h=>by omega⟩
      ·rw [if_neg e]
       exact ⟨fun h=>(hx j j1 j2).1 (by omega),fun h=>(hx j j1 j2).2 (by omega)⟩
     ·have:=congrArg List.length h
      rw [List.length_map,List.length_set,List.length_nil] at this
      omega
   ·obtain rfl:i=W.length:=by omega
    have e0:decide ((W.length:Int)<(W.length:Int))=false:=decide_eq_false (by omega)
    have hWs:Ws=W.map H.mirC:=by
     apply List.ext_getElem
     ·rw [List.length_map];exact hw
     ·intro j j1 j2
      rw [List.getElem_map]
      exact (hx j (by omega) j1).1 (by omega)
    rw [hWs] at hO'
    refine .inr ⟨.exit 0,L'.set 14 (.bool false),t',by simp,?_,rfl,hO',p2,pn,pm,pm2,fun c hc=>?_⟩
    ·simp (disch:=first|omega|with_unfolding_all rfl) only [jgJ,K37r3,Abs.W,reduceIte,Nat.reduceEqDiff,Nat.reduceAdd,Nat.reduceSub,q3,q4,g3',okv,lv,e0,Nat.zero_add]
    ·have h1:¬ 14=c:=by omega
     simp only [efs,h1,reduceIte]
     exact pc c hc)
 exact ⟨L1,t1,rfl,h1,h2,h3,h4,h5,h6⟩
theorem YHJ (N:Nat) (cx:Ctx) {t:St} {lo hi p1 p3:Nat} {H:HallR} {vW vS vB vK w2 w3 v wB wK:AV} {W:List (Int × Int)} {L:Env} {r:R} (hr:jK jfJ rounds (call Try.prog X N) cx L [] t=r) (ok:H.Size) (hO:Own t.h lo hi 2 (tag 27) (W.map jC) v) (hin:∀ c ∈ W,H.In c) (hl:W.length≤24) (hn:hi≤t.n) (hp:(p1<lo∨hi≤p1)∧(p3<lo∨hi≤p3)) (g1:t.h.get p1=some (.cells (zP H vW vS vB vK) (tag 30))) (g3:t.h.get p3=some (.cells (zP H w2 v wB wK) (tag 30))) (hs:t.n+1000≤far) (hm:t.m≤far)
  (q1:L.find 1=.ptr p1 0) (q3:L.find 3=.ptr p3 0) (q4:L.find 5=.int .i64 0) :
  ∃ L1 t1,r=.done (.exit 2) L1 [] t1∧Own t1.h lo hi 2 (tag 27) ((W.map H.mirC).map jC) v∧(∀ c,(c<lo∨hi≤c)→t1.h.get c=t.h.get c)∧t1.n=t.n∧(∀ k,k≤lo→k≤t.m→k≤t1.m)∧t1.m≤t.m∧∀ c,c<5→L1.find c=L.find c:=by
 have hf:=hfar
 have w1:=ok.w1
 have w0:=ok.w0
 obtain ⟨_,okv,_⟩:=znA hO
 have lv:∀ s,zq s v=.val (.int .i64 (W.length:Int)) s:=fun s=>by
  have:=(jsA (no:=fun _=>True) hO fun _ _ _=>trivial).len s
  rwa [List.length_map] at this
 obtain ⟨e,L1,t1,rfl,rfl,h1,h2,h3,h4,h5,h6⟩:=jO hr
  (fun i L' t'=>(∃ Ws:List (Int × Int),Ws.length=W.length∧(∀ j (j1:j<W.length) (j2:j<Ws.length),(j<i→Ws[j]=H.mirC W[j])∧(i≤j→Ws[j]=W[j]))∧Own t'.h lo hi 2 (tag 27) (Ws.map jC) v)∧(∀ c,(c<lo∨hi≤c)→t'.h.get c=t.h.get c)∧t'.n=t.n∧(∀ k,k≤lo→k≤t.m→k≤t'.m)∧t'.m≤t.m∧(∀ c,c<5→L'.find c=L.find c)∧L'.find 5=.int .i64 (i:Int))
  (fun e L1 t1=>e=.exit 2∧Own t1.h lo hi 2 (tag 27) ((W.map H.mirC).map jC) v∧(∀ c,(c<lo∨hi≤c)→t1.h.get c=t.h.get c)∧t1.n=t.n∧(∀ k,k≤lo→k≤t.m→k≤t1.m)∧t1.m≤t.m∧∀ c,c<5→L1.find c=L.find c) W.length (by unfold rounds;omega)
  ⟨⟨W,rfl,fun j j1 j2=>⟨fun h=>by omega,fun _=>rfl⟩,hO⟩,fun _ _=>rfl,rfl,fun _ _ h=>h,Nat.le_refl _,fun _ _=>rfl,q4⟩
  (fun i L' t' hi2 ⟨⟨Ws,hw,hx,hO'⟩,p2,pn,pm,pm2,pc,q4⟩=>by
   have q1:=(pc 1 (by omega)).trans q1
   have q3:=(pc 3 (by omega)).trans q3
   have g1':=(p2 p1 hp.1).trans g1
   have g3':=(p2 p3 hp.2).trans g3
   by_cases hlt:i<W.length
   ·have hiw:i<Ws.length:=by omega
    have e0:decide ((i:Int)<(W.length:Int))=true:=decide_eq_true (by omega)
    have ad:∀ s,jI s .i64 (i:Int) 1=.val (.int .i64 ((i:Int)+1)) s:=fun s=>za s _ _ (by omega)
    have hwi:=(hx i hlt hiw).2 (Nat.le_refl _)
    obtain ⟨⟨c1,c2⟩,_⟩:=hin W[i] (List.getElem_mem hlt)
    rw [← hwi] at c1 c2
    rcases hO'.is with ⟨h1,_⟩ | ⟨h0,b,b1,b2,b3,b4⟩
    ·have:=congrArg List.length h1
     rw [List.length_map,List.length_nil] at this
     omega
    ·rw [List.length_map] at b3
     have hix:∀ s,jX 2 s v (.int .i64 (i:Int))=.val (.ptr b (i * 2)) s:=fun s=>by rw [b3,jq _ _ _ _ _ _ _ _ hiw,Nat.zero_add]
     have hnt:=YQA Ws hiw
     have s1:∀ s,yK s .i64 (H.wide:Int) 1=.val (.int .i64 ((H.wide:Int) - 1)) s:=fun s=>je s _ _ (by omega)
     have s2:∀ s,yK s .i64 ((H.wide:Int) - 1) Ws[i].1=.val (.int .i64 ((H.wide:Int) - 1 - Ws[i].1)) s:=fun s=>je s _ _ (by omega)
     obtain ⟨Y,hY⟩:∃ Y:St,Y=t'.put b (.cells ((Ws.set i ((H.wide:Int) - 1 - Ws[i].1,Ws[i].2)).map jC).flatten (2+tag 27)):=⟨_,rfl⟩
     have stY:jM 1 t' (.int .i64 ((H.wide:Int) - 1 - Ws[i].1)) (.ptr b (i * 2))=.val .undef Y:=by
      have h:=jZ (o:=i * 2) (v:=.int .i64 ((H.wide:Int) - 1 - Ws[i].1)) b4 (by rw [jx (gH _),List.length_map];omega) rfl rfl
      rw [YPA Ws hiw] at h
      rw [h,hY]
     have Yn:Y.n=t'.n:=by rw [hY,jB]
     have Ym:Y.m=min t'.m b:=by rw [hY];simp only [St.put,zQ]
     have Yb:Y.h.get b=some (.cells ((Ws.set i ((H.wide:Int) - 1 - Ws[i].1,Ws[i].2)).map jC).flatten (2+tag 27)):=by rw [hY];exact zN _ _ _ _ rfl (by omega)
     have Yg:∀ c,c≠b→Y.h.get c=t'.h.get c:=fun c hc=>by rw [hY,zL _ _ _ _ hc]
     clear hY
     have hwk:∃ L1,jfJ (call Try.prog X N) cx L' [] t'=.done .norm L1 [] Y∧(∀ c,c<5→L1.find c=L'.find c)∧L1.find 5=.int .i64 ((i:Int)+1):=by
      simp (disch:=first|omega|with_unfolding_all rfl) only [jfJ,K37r7,K37r8,K37r9,Abs.W,reduceIte,Nat.reduceEqDiff,Nat.reduceAdd,Nat.reduceSub,q1,q3,q4,g1',g3',okv,lv,e0,ad,s1,s2,hix,b4,hnt,stY,wY _ (vH _),Nat.zero_add,Nat.add_zero]
      refine ⟨_,rfl,fun c hc=>?_,?_⟩
      ·have h1:¬ 36=c:=by omega
       have h2:¬ 5=c:=by omega
       simp only [efs,h1,h2,reduceIte]
      ·simp only [efs,reduceIte,Nat.reduceEqDiff]
     obtain ⟨L1,hw1,hw2,hw3⟩:=hwk
     refine .inl ⟨hlt,L1,Y,hw1,⟨Ws.set i ((H.wide:Int) - 1 - Ws[i].1,Ws[i].2),by rw [List.length_set];exact hw,fun j j1 j2=>?_,⟨gH _,.inr ⟨fun h=>?_,b,b1,b2,by rw [List.length_map,List.length_set];exact b3,Yb⟩⟩⟩,fun c hc=>(Yg c (by omega)).trans (p2 c hc),by omega,fun k k1 k2=>by have:=pm k k1 k2;omega,by omega,fun c hc=>(hw2 c hc).trans (pc c hc),hw3⟩
     ·rw [List.length_set] at j2
      rw [List.getElem_set]
      by_cases e:i=j
      ·subst e
       rw [if_pos rfl]
       exact ⟨fun _=>by rw [← hwi];rfl,fun h=>by omega⟩
      ·rw [if_neg e]
       exact ⟨fun h=>(hx j j1 j2).1 (by omega),fun h=>(hx j j1 j2).2 (by omega)⟩
     ·have:=congrArg List.length h
      rw [List.length_map,List.length_set,List.length_nil] at this
      omega
   ·obtain rfl:i=W.length:=by omega
    have e0:decide ((W.length:Int)<(W.length:Int))=false:=decide_eq_false (by omega)
    have hWs:Ws=W.map H.mirC:=by
     apply List.ext_getElem
     ·rw [List.length_map];exact hw
     ·intro j j1 j2
      rw [List.getElem_map]
      exact (hx j (by omega) j1).1 (by omega)
    rw [hWs] at hO'
    refine .inr ⟨.exit 2,L'.set 36 (.bool false),t',by simp,?_,rfl,hO',p2,pn,pm,pm2,fun c hc=>?_⟩
    ·simp (disch:=first|omega|with_unfolding_all rfl) only [jfJ,K37r7,Abs.W,reduceIte,Nat.reduceEqDiff,Nat.reduceAdd,Nat.reduceSub,q3,q4,g3',okv,lv,e0,Nat.zero_add]
    ·have h1:¬ 36=c:=by omega
     simp only [efs,h1,reduceIte]
     exact pc c hc)
 exact ⟨L1,t1,rfl,h1,h2,h3,h4,h5,h6⟩
theorem jvQ (s:St) (a b:Nat) (hb:b≠0):vZA s .i64 (a:Int) (b:Int)=.val (.int .i64 ((a % b:Nat):Int)) s:=by
 rw [wlJ _ _ _ _ (by omega)]
 rfl
def HallR.mirBs (H:HallR):List Int:=(List.range H.bears.length).map fun i=>H.bears.getD (H.mirB i) 0
theorem ZU (H:HallR):H.mirBs.length=H.bears.length:=by unfold HallR.mirBs;rw [List.length_map,List.length_range]
theorem wiA (H:HallR) {i:Nat} (hi:i<H.mirBs.length):H.mirBs[i]=H.bears.getD (H.mirB i) 0:=by simp [HallR.mirBs]
theorem gXA {H:HallR} (sz:H.Size) (hm:H.wide % H.bx=0):H.wide / H.bx=H.cols:=by
 have hb:=sz.x0
 obtain ⟨c,hc⟩:∃ c,H.wide=H.bx * c:=⟨H.wide / H.bx,by have:=Nat.div_add_mod H.wide H.bx;omega⟩
 unfold HallR.cols
 rw [hc,Nat.mul_div_cancel_left _ (by omega),show H.bx * c+H.bx - 1=H.bx * c+(H.bx - 1) by omega,Nat.mul_add_div (by omega),Nat.div_eq_of_lt (by omega),Nat.add_zero]
theorem ZEJ (N:Nat) (cx:Ctx) {t:St} {p1 p3 bB:Nat} {H:HallR} {vW vS vB vK w2 w3 wK:AV} {L:Env} {r:R} (hr:jK jeJ rounds (call Try.prog X N) cx L [] t=r) (ok:H.Ok) (hm0:H.wide % H.bx=0) (hV:Sl (fun c=>c≠bB) t.h t.n 1 (jA H.bears) vB) (gB:t.h.get bB=some (.cells (jA H.bears).flatten (1+tag 3))) (hbn:bB<t.n) (hp:p1≠bB∧p3≠bB) (g1:t.h.get p1=some (.cells (zP H vW vS vB vK) (tag 30))) (g3:t.h.get p3=some (.cells (zP H w2 w3 (slI bB H.bears.length) wK) (tag 30))) (hs:t.n+1000≤far) (hm:t.m≤far)
  (q1:L.find 1=.ptr p1 0) (q3:L.find 3=.ptr p3 0) (q6:L.find 6=.int .i64 (H.cols:Int)) (q7:L.find 7=.int .i64 0) :
  ∃ L1 t1,r=.done (.exit 4) L1 [] t1∧t1.h.get bB=some (.cells (jA H.mirBs).flatten (1+tag 3))∧(∀ c,c≠bB→t1.h.get c=t.h.get c)∧t1.n=t.n∧(∀ k,k≤bB→k≤t.m→k≤t1.m)∧t1.m≤t.m∧∀ c,c<6→L1.find c=L.find c:=by
 have hf:=hfar
 have sz:=ok.toSize
 have hb24:=vY sz
 have hbl:=ok.bl
 have hc:=gYA sz
 have hcw:H.cols≤24:=by
  have:=gXA sz hm0
  have:=Nat.div_le_self H.wide H.bx
  have:=sz.w1
  omega
 have kv:=hV.okA
 have lI:∀ s,zq s (slI bB H.bears.length)=.val (.int .i64 (H.bears.length:Int)) s:=fun _=>rfl
 have okI:∀ t,okA (.val (slI bB H.bears.length) t)=.val (slI bB H.bears.length) t:=fun _=>rfl
 obtain ⟨e,L1,t1,rfl,rfl,h1,h2,h3,h4,h5,h6⟩:=jO hr
  (fun i L' t'=>(∃ Bs:List Int,Bs.length=H.bears.length∧(∀ j (j1:j<Bs.length),(j<i→Bs[j]=H.bears.getD (H.mirB j) 0))∧t'.h.get bB=some (.cells (jA Bs).flatten (1+tag 3)))∧(∀ c,c≠bB→t'.h.get c=t.h.get c)∧t'.n=t.n∧(∀ k,k≤bB→k≤t.m→k≤t'.m)∧t'.m≤t.m∧(∀ c,c<7→L'.find c=L.find c)∧L'.find 7=.int .i64 (i:Int))
  (fun e L1 t1=>e=.exit 4∧t1.h.get bB=some (.cells (jA H.mirBs).flatten (1+tag 3))∧(∀ c,c≠bB→t1.h.get c=t.h.get c)∧t1.n=t.n∧(∀ k,k≤bB→k≤t.m→k≤t1.m)∧t1.m≤t.m∧∀ c,c<6→L1.find c=L.find c) H.bears.length (by unfold rounds;omega)
  ⟨⟨H.bears,rfl,fun j j1 h=>by omega,gB⟩,fun _ _=>rfl,rfl,fun _ _ h=>h,Nat.le_refl _,fun _ _=>rfl,q7⟩
  (fun i L' t' hi2 ⟨⟨Bs,hw,hx,gB'⟩,p2,pn,pm,pm2,pc,q7⟩=>by
   have q1:=(pc 1 (by omega)).trans q1
   have q3:=(pc 3 (by omega)).trans q3
   have q6:=(pc 6 (by omega)).trans q6
   have g1':=(p2 p1 hp.1).trans g1
   have g3':=(p2 p3 hp.2).trans g3
   by_cases hlt:i<H.bears.length
   ·have hiw:i<Bs.length:=by omega
    have e0:decide ((i:Int)<(H.bears.length:Int))=true:=decide_eq_true (by omega)
    have ad:∀ s,jI s .i64 (i:Int) 1=.val (.int .i64 ((i:Int)+1)) s:=fun s=>za s _ _ (by omega)
    have hdm:=Nat.div_add_mod i H.cols
    have hml:=Nat.mod_lt i (show 0<H.cols by omega)
    have hmul:i / H.cols * H.cols≤24:=by rw [Nat.mul_comm];omega
    have b1:∀ s,JI s .i64 (i:Int) (H.cols:Int)=.val (.int .i64 ((i / H.cols:Nat):Int)) s:=fun s=>wi s _ _ (by omega) (by omega)
    have b2:∀ s,yOA s .i64 ((i / H.cols:Nat):Int) (H.cols:Int)=.val (.int .i64 ((i / H.cols * H.cols:Nat):Int)) s:=fun s=>jWA s _ _ (by omega)
    have b3:∀ s,jI s .i64 ((i / H.cols * H.cols:Nat):Int) (H.cols:Int)=.val (.int .i64 (((i / H.cols * H.cols:Nat):Int)+(H.cols:Int))) s:=fun s=>za s _ _ (by omega)
    have b4:∀ s,yK s .i64 (((i / H.cols * H.cols:Nat):Int)+(H.cols:Int)) 1=.val (.int .i64 (((i / H.cols * H.cols:Nat):Int)+(H.cols:Int) - 1)) s:=fun s=>je s _ _ (by omega)
    have b5:∀ s,vZA s .i64 (i:Int) (H.cols:Int)=.val (.int .i64 ((i % H.cols:Nat):Int)) s:=fun s=>jvQ s _ _ (by omega)
    have hmb:H.mirB i=i / H.cols * H.cols+(H.cols - 1 - i % H.cols):=rfl
    have b6:∀ s,yK s .i64 (((i / H.cols * H.cols:Nat):Int)+(H.cols:Int) - 1) ((i % H.cols:Nat):Int)=.val (.int .i64 ((H.mirB i:Nat):Int)) s:=fun s=>by
     rw [je s _ _ (by omega)]
     congr 2
     rw [hmb]
     omega
    have hmlt:H.mirB i<H.bears.length:=by rw [hbl];exact YU sz (by omega)
    obtain ⟨ob,oo,oc,osz,o1,o0,o2,o3,o4⟩:=hV.get (i:=H.mirB i) (by rw [jc];exact hmlt)
    have hrow:(jA H.bears)[H.mirB i]'(by rw [jc];exact hmlt)=[.int .i64 (H.bears.getD (H.mirB i) 0)]:=by
     unfold jA
     rw [List.getElem_map,List.getD_eq_getElem?_getD,List.getElem?_eq_getElem hmlt]
     rfl
    rw [hrow] at o4
    have o3':=(p2 ob o0).trans o3
    have hnt:nth oc oo=.int .i64 (H.bears.getD (H.mirB i) 0):=Vd o4
    have hix:∀ s,jX 1 s (slI bB H.bears.length) (.int .i64 (i:Int))=.val (.ptr bB i) s:=fun s=>by rw [jq _ _ _ _ _ _ _ _ hlt,Nat.zero_add,Nat.mul_one]
    obtain ⟨Y,hY⟩:∃ Y:St,Y=t'.put bB (.cells (jA (Bs.set i (H.bears.getD (H.mirB i) 0))).flatten (1+tag 3)):=⟨_,rfl⟩
    have stY:jM 1 t' (.int .i64 (H.bears.getD (H.mirB i) 0)) (.ptr bB i)=.val .undef Y:=by
     have h:=jZ (v:=.int .i64 (H.bears.getD (H.mirB i) 0)) gB' (show i<_ by rw [jx (jIA _),jc];omega) rfl rfl
     rw [zkJ _ hiw] at h
     rw [h,hY]
    have Yn:Y.n=t'.n:=by rw [hY,jB]
    have Ym:Y.m=min t'.m bB:=by rw [hY];simp only [St.put,zQ]
    have Yb:Y.h.get bB=some (.cells (jA (Bs.set i (H.bears.getD (H.mirB i) 0))).flatten (1+tag 3)):=by rw [hY];exact zN _ _ _ _ rfl (by omega)
    have Yg:∀ c,c≠bB→Y.h.get c=t'.h.get c:=fun c hc=>by rw [hY,zL _ _ _ _ hc]
    clear hY
    have hwk:∃ L1,jeJ (call Try.prog X N) cx L' [] t'=.done .norm L1 [] Y∧(∀ c,c<7→L1.find c=L'.find c)∧L1.find 7=.int .i64 ((i:Int)+1):=by
     simp (disch:=first|omega|with_unfolding_all rfl) only [jeJ,K37r12,K37r13,K37r14,Abs.W,reduceIte,Nat.reduceEqDiff,Nat.reduceAdd,Nat.reduceSub,q1,q3,q6,q7,g1',g3',okI,lI,kv,e0,ad,b1,b2,b3,b4,b5,b6,o2,o3',hnt,hix,stY,wY _ (vH _),Nat.zero_add,Nat.add_zero]
     refine ⟨_,rfl,fun c hc=>?_,?_⟩
     ·have h1:¬ 64=c:=by omega
      have h2:¬ 7=c:=by omega
      simp only [efs,h1,h2,reduceIte]
     ·simp only [efs,reduceIte,Nat.reduceEqDiff]
    obtain ⟨L1,hw1,hw2,hw3⟩:=hwk
    refine .inl ⟨hlt,L1,Y,hw1,⟨Bs.set i (H.bears.getD (H.mirB i) 0),by rw [List.length_set];exact hw,fun j j1 h=>?_,Yb⟩,fun c hc=>(Yg c hc).trans (p2 c hc),by omega,fun k k1 k2=>by have:=pm k k1 k2;omega,by omega,fun c hc=>(hw2 c hc).trans (pc c hc),hw3⟩
    rw [List.length_set] at j1
    rw [List.getElem_set]
    by_cases e:i=j
    ·subst e
     rw [if_pos rfl]
    ·rw [if_neg e]
     exact hx j j1 (by omega)
   ·obtain rfl:i=H.bears.length:=by omega
    have e0:decide ((H.bears.length:Int)<(H.bears.length:Int))=false:=decide_eq_false (by omega)
    have hWs:Bs=H.mirBs:=by
     apply List.ext_getElem
     ·rw [ZU];exact hw
     ·intro j j1 j2
      rw [wiA]
      exact hx j j1 (by omega)
    rw [hWs] at gB'
    refine .inr ⟨.exit 4,L'.set 64 (.bool false),t',by simp,?_,rfl,gB',p2,pn,pm,pm2,fun c hc=>?_⟩
    ·simp (disch:=first|omega|with_unfolding_all rfl) only [jeJ,K37r12,Abs.W,reduceIte,Nat.reduceEqDiff,Nat.reduceAdd,Nat.reduceSub,q3,q7,g3',okI,lI,e0,Nat.zero_add]
    ·have h1:¬ 64=c:=by omega
     simp only [efs,h1,reduceIte]
     exact pc c (by omega))
 exact ⟨L1,t1,rfl,h1,h2,h3,h4,h5,h6⟩
def HallR.mir (H:HallR):HallR:={ H with water:=H.water.map H.mirC,shut:=H.shut.map H.mirC,bears:=H.mirBs }
theorem whA {H:HallR} {a b:Int × Int} (h:H.mirC a=H.mirC b):a=b:=by rw [← Ju H a,h,Ju]
theorem wNJ {H:HallR} {l:List (Int × Int)} {c:Int × Int}:H.mirC c ∈ l.map H.mirC↔c ∈ l :=
 ⟨fun h=>by obtain ⟨x,hx,e⟩:=List.mem_map.mp h;rw [← whA e];exact hx,fun h=>List.mem_map_of_mem h⟩
theorem vOQ {H:HallR} (ok:H.Ok) (hm:H.wide % H.bx=0):Mir H H.mir:=by
 refine ⟨rfl,rfl,rfl,rfl,rfl,hm,fun c _=>wNJ,fun c _=>wNJ,fun i hi=>?_⟩
 have h1:=YU ok.toSize hi
 show H.mirBs.getD (H.mirB i) 0=_
 have h2:H.mirB i<H.mirBs.length:=by rw [ZU,ok.bl];exact h1
 rw [List.getD_eq_getElem?_getD,List.getElem?_eq_getElem h2]
 show H.mirBs[H.mirB i]=_
 rw [wiA,VM ok.toSize]
theorem vNQ {H:HallR} (ok:H.Ok):H.mir.Ok:=by
 refine ⟨⟨ok.w0,ok.w1,ok.d0,ok.d1,ok.x0,ok.x1,ok.z0,ok.z1⟩,fun c hc=>?_,?_,?_,fun c hc=>?_,?_,?_,?_,fun x hx=>?_,ok.k0,ok.k1,ok.k⟩
 ·obtain ⟨x,hx,rfl⟩:=List.mem_map.mp hc
  exact zxA (ok.wa x hx)
 ·exact List.pairwise_map.mpr (ok.wn.imp fun h e=>h (whA e))
 ·show (H.water.map H.mirC).length≤24
  rw [List.length_map];exact ok.wl
 ·obtain ⟨x,hx,rfl⟩:=List.mem_map.mp hc
  exact zxA (ok.sa x hx)
 ·exact List.pairwise_map.mpr (ok.sn.imp fun h e=>h (whA e))
 ·show (H.shut.map H.mirC).length≤24
  rw [List.length_map];exact ok.sl
 ·show H.mirBs.length=H.bays
  rw [ZU];exact ok.bl
 ·obtain ⟨i,hi,rfl⟩:=List.getElem_of_mem hx
  have hi:i<H.mirBs.length:=hi
  show 0≤H.mirBs[i]∧H.mirBs[i]≤10000000
  rw [wiA]
  rw [ZU,ok.bl] at hi
  have h1:=YU ok.toSize hi
  rw [← ok.bl] at h1
  rw [List.getD_eq_getElem?_getD,List.getElem?_eq_getElem h1]
  exact ok.b _ (List.getElem_mem h1)
theorem vGQ (N:Nat) (hN:1≤N) {no:Nat→Prop} {H:HallR} {vW vS vB vK:AV} {p:PutR} {s:St} (sz:H.Size) (hH:HallAt no s.h s.n H vW vS vB vK) (hp : -100≤p.x∧p.x≤100) (hs:s.n+10≤far) :
  call Try.prog X N (.fn 38) [.agg (zP H vW vS vB vK),.agg p.row] s=.val (.agg (H.mirP p).row) s:=by
 obtain ⟨n,rfl⟩:∃ n,N=n+1:=⟨N - 1,by omega⟩
 have hf:=hfar
 have w1:=sz.w1
 refine zj Try.func38 (fun u uh un um=>?_) rfl
 rw [← uh,← un] at hH
 rw [← un] at hs
 have scH:=hH.scal
 have nn1:∀ o,(u.new o).n=u.n+1:=fun _=>rfl
 have nn2:∀ o o',((u.new o).new o').n=u.n+2:=fun _ _=>rfl
 obtain ⟨w,hw⟩:∃ w:St,w=((u.new (.cells (zP H vW vS vB vK) (tag 30))).new (.cells p.row (tag 51))).new (.cells [.int .i64 0,.int .i64 0,.int .i64 0] (tag 51)):=⟨_,rfl⟩
 have wn:w.n=u.n+3:=by rw [hw];rfl
 have wm:w.m=far:=by rw [hw];exact um
 have w1:w.h.get u.n=some (.cells (zP H vW vS vB vK) (tag 30)):=by rw [hw,zH _ _ _ (by simp only [zW];omega),zH _ _ _ (by simp only [zW];omega)];exact zM _ _ _ rfl (by omega)
 have w2:w.h.get (u.n+1)=some (.cells [.int .i64 p.x,.int .i64 p.y,.int .i64 (p.kind:Int)] (tag 51)):=by rw [hw,zH _ _ _ (by simp only [zW];omega)];exact zM _ _ _ rfl (by simp only [zW];omega)
 have w3:w.h.get (u.n+2)=some (.cells [.int .i64 0,.int .i64 0,.int .i64 0] (tag 51)):=by rw [hw];exact zM _ _ _ rfl (by simp only [zW];omega)
 have s1:∀ s,yK s .i64 (H.wide:Int) 1=.val (.int .i64 ((H.wide:Int) - 1)) s:=fun s=>je s _ _ (by omega)
 have s2:∀ s,yK s .i64 ((H.wide:Int) - 1) p.x=.val (.int .i64 ((H.wide:Int) - 1 - p.x)) s:=fun s=>je s _ _ (by omega)
 obtain ⟨y,hy⟩:∃ y:St,y=w.put (u.n+1) (.cells [.int .i64 ((H.wide:Int) - 1 - p.x),.int .i64 p.y,.int .i64 (p.kind:Int)] (tag 51)):=⟨_,rfl⟩
 have sty:jM 1 w (.int .i64 ((H.wide:Int) - 1 - p.x)) (.ptr (u.n+1) 0)=.val .undef y:=by
  rw [hy];exact jZ w2 (by show 0<3;omega) rfl rfl
 have yn:y.n=w.n:=by rw [hy,jB]
 have ym:y.m=min w.m (u.n+1):=by rw [hy];simp only [St.put,zQ]
 have y2:y.h.get (u.n+1)=some (.cells [.int .i64 ((H.wide:Int) - 1 - p.x),.int .i64 p.y,.int .i64 (p.kind:Int)] (tag 51)):=by rw [hy];exact zN _ _ _ _ rfl (by omega)
 have y3:y.h.get (u.n+2)=some (.cells [.int .i64 0,.int .i64 0,.int .i64 0] (tag 51)):=by rw [hy,zL _ _ _ _ (by omega)];exact w3
 clear hy
 have okp:∀ t,okA (.val (.agg [.int .i64 ((H.wide:Int) - 1 - p.x),.int .i64 p.y,.int .i64 (p.kind:Int)]) t)=.val (.agg [.int .i64 ((H.wide:Int) - 1 - p.x),.int .i64 p.y,.int .i64 (p.kind:Int)]) t:=fun _=>rfl
 have stz:jM 3 y (.agg [.int .i64 ((H.wide:Int) - 1 - p.x),.int .i64 p.y,.int .i64 (p.kind:Int)]) (.ptr (u.n+2) 0)=.val .undef (y.put (u.n+2) (.cells [.int .i64 ((H.wide:Int) - 1 - p.x),.int .i64 p.y,.int .i64 (p.kind:Int)] (tag 51))):=jk y 3 _ _ _ _ y3 rfl rfl rfl
 rw [jJQ]
 simp (disch:=first|omega|with_unfolding_all rfl) only [K38,K38r0,Abs.W,reduceIte,Nat.reduceEqDiff,Nat.reduceAdd,Nat.reduceSub,nn1,nn2]
 rw [← hw]
 simp (disch:=first|omega|with_unfolding_all rfl) only [yZQ,K38r2,Abs.W,reduceIte,Nat.reduceEqDiff,Nat.reduceAdd,Nat.reduceSub,w1,w2,s1,s2,sty,y2,okp,stz,Nat.zero_add,Nat.add_zero]
 rw [res38]
 have shF:yH Try.prog 51=some (some 3):=by kernel_rfl
 refine ⟨_,yz _ _ _ _ shF (v:=.agg (H.mirP p).row) ?_,?_⟩
 ·simp only [zK,efs,reduceIte,Nat.reduceEqDiff]
  rw [vt,zN _ _ _ _ rfl (by omega)]
  rfl
 ·simp only [St.put,zQ];omega
theorem zPJ {N:Nat} {no:Nat→Prop} {H:HallR} {vW vS vB vK:AV} {s:St} {r:ARes} (hr:call Try.prog X N (.fn 37) [.agg (zP H vW vS vB vK)] s=r) (hN:6≤N) (ok:H.Ok) (hm:H.wide % H.bx=0) (hH:HallAt no s.h s.n H vW vS vB vK) (hs:s.n+8000≤far) :
  ∃ xW xS xB xK t,r=.val (.agg (zP H.mir xW xS xB xK)) t∧New s t 300∧HallAt (fun c=>s.n≤c) t.h t.n H.mir xW xS xB xK:=by
 obtain ⟨n,rfl⟩:∃ n,N=n+1:=⟨N - 1,by omega⟩
 have hf:=hfar
 have kk0:=ok.k0
 have hbb:=ok.bl
 have hbp:=jVJ ok.toSize
 have hb24:=vY ok.toSize
 have hb0:H.bears≠[]:=fun h=>by rw [h] at hbb;simp at hbb;omega
 have hx0:=ok.x0
 have hx1:=ok.x1
 have hw1:=ok.w1
 obtain ⟨v,t,e,st,xW,xS,xB,xK,rfl,hX⟩:=vm (n:=n) (args:=[.agg (zP H vW vS vB vK)]) (s:=s) (k:=300) (Q:=fun v h m=>∃ xW xS xB xK,v=.agg (zP H.mir xW xS xB xK)∧HallAt (fun c=>s.n≤c) h m H.mir xW xS xB xK) Try.func37 rfl (fun u uh un um=>by
  rw [← uh,← un] at hH
  rw [← un]
  rw [← un] at hs
  have nn1:∀ o,(u.new o).n=u.n+1:=fun _=>rfl
  obtain ⟨w,hw⟩:∃ w:St,w=(u.new (.cells (zP H vW vS vB vK) (tag 30))).new (.cells [.int .i64 0,.int .i64 0,.nilslice,.nilslice,.int .i64 0,.int .i64 0,.nilslice,.nilslice] (tag 30)):=⟨_,rfl⟩
  have wn:w.n=u.n+2:=by rw [hw];rfl
  have wm:w.m=far:=by rw [hw];exact um
  have wg:∀ c,c<u.n→w.h.get c=u.h.get c:=fun c hc=>by rw [hw,zH _ _ _ (by simp only [zW];omega),zH _ _ _ (by omega)]
  have w1:w.h.get u.n=some (.cells (zP H vW vS vB vK) (tag 30)):=by rw [hw,zH _ _ _ (by simp only [zW];omega)];exact zM _ _ _ rfl (by omega)
  have w2:w.h.get (u.n+1)=some (.cells [.int .i64 0,.int .i64 0,.nilslice,.nilslice,.int .i64 0,.int .i64 0,.nilslice,.nilslice] (tag 30)):=by rw [hw];exact zM _ _ _ rfl (by simp only [zW];omega)
  have hHw:HallAt no w.h w.n H vW vS vB vK:=hH.grow wg (by omega)
  have okh:∀ t,okA (.val (.agg (zP H vW vS vB vK)) t)=.val (.agg (zP H vW vS vB vK)) t:=fun _=>rfl
  rw [jKQ]
  simp (disch:=first|omega|with_unfolding_all rfl) only [K37,K37r0,Abs.W,reduceIte,Nat.reduceEqDiff,Nat.reduceAdd,Nat.reduceSub,nn1]
  rw [← hw]
  simp (disch:=first|omega|with_unfolding_all rfl) only [ybQ,Abs.W,reduceIte,Nat.reduceEqDiff,Nat.reduceAdd,Nat.reduceSub,w1,okh,Nat.zero_add]
  generalize hc2:call _ _ _ (.fn 33) _ _=r2
  obtain ⟨xW,xS,xB,xK,t2,bB,q,bK,ba,rfl,st2,hX,e1,⟨he0,he1⟩,oW,oS⟩:=VeA hc2 (by omega) ok hHw (by omega)
  have n2:=st2.n
  have k2:=st2.le
  have m2:t2.m=far:=st2.m.trans wm
  obtain rfl:xB=slI bB H.bears.length:=hX.b.1
  have hq:=hX.q
  have scX:=(hX.at_ hb0 kk0).scal
  obtain ⟨z,hz⟩:∃ z:St,z=(t2.new (.cells [.int .i64 0,.int .i64 0,.nilslice,.nilslice,.int .i64 0,.int .i64 0,.nilslice,.nilslice] (tag 30))).put t2.n (.cells (zP H xW xS (slI bB H.bears.length) xK) (tag 30)):=⟨_,rfl⟩
  have stz:jM 8 (t2.new (.cells [.int .i64 0,.int .i64 0,.nilslice,.nilslice,.int .i64 0,.int .i64 0,.nilslice,.nilslice] (tag 30))) (.agg (zP H xW xS (slI bB H.bears.length) xK)) (.ptr t2.n 0)=.val .undef z:=by
   rw [hz];exact jk _ 8 _ _ _ _ (zM _ _ _ rfl (by omega)) rfl rfl scX
  have zn:z.n=t2.n+1:=by rw [hz];rfl
  have zm:z.m=min t2.m t2.n:=by rw [hz];simp only [St.put,zQ,jF]
  have zg:∀ c,c<t2.n→z.h.get c=t2.h.get c:=fun c hc=>by rw [hz,zL _ _ _ _ (by omega),zH _ _ _ (by omega)]
  have z3:z.h.get t2.n=some (.cells (zP H xW xS (slI bB H.bears.length) xK) (tag 30)):=by rw [hz];exact zN _ _ _ _ rfl (by omega)
  have z1:=(zg u.n (by omega)).trans ((st2.same u.n (by omega)).trans w1)
  have z2:=(zg (u.n+1) (by omega)).trans ((st2.same (u.n+1) (by omega)).trans w2)
  clear hz
  simp (disch:=first|omega|with_unfolding_all rfl) only [stz,K37r2,Abs.W,reduceIte,Nat.reduceEqDiff,Nat.reduceAdd,Nat.reduceSub,Nat.zero_add]
  generalize hlp:jK _ rounds _ _ _ _ _=rl
  obtain ⟨L1,t3,rfl,O3,g3,n3,m3,l3,f3⟩:=ZDJ (w2:=vW) n _ hlp ok.toSize (zoA oW (fun b h1 h2=>zg b (by omega)) (Nat.le_refl _) (Nat.le_refl _)) ok.wa ok.wl (by omega) ⟨.inl (by omega),.inr (by omega)⟩ z1 z3 (by omega) (by omega) (by simp only [zK,efs,reduceIte,Nat.reduceEqDiff]) (by simp only [zK,efs,reduceIte,Nat.reduceEqDiff]) (by simp only [zK,efs,reduceIte,Nat.reduceEqDiff])
  have y1:=(g3 u.n (.inl (by omega))).trans z1
  have y3:=(g3 t2.n (.inr (by omega))).trans z3
  have f31:L1.find 1=.ptr u.n 0:=(f3 1 (by omega)).trans (by simp only [zK,efs,reduceIte,Nat.reduceEqDiff])
  have f32:L1.find 2=.ptr (u.n+1) 0:=(f3 2 (by omega)).trans (by simp only [zK,efs,reduceIte,Nat.reduceEqDiff])
  have f33:L1.find 3=.ptr t2.n 0:=(f3 3 (by omega)).trans (by simp only [zK,efs,reduceIte,Nat.reduceEqDiff])
  simp (disch:=first|omega|with_unfolding_all rfl) only [yaQ,Abs.W,reduceIte,Nat.reduceEqDiff,Nat.reduceAdd,Nat.reduceSub,Nat.zero_add]
  generalize hlp2:jK _ rounds _ _ _ _ _=rl2
  obtain ⟨L2,t4,rfl,O4,g4,n4,m4,l4,f4⟩:=YHJ (w3:=vS) n _ hlp2 ok.toSize (zoA oS (fun b h1 h2=>(g3 b (.inr h1)).trans (zg b (by omega))) (Nat.le_refl _) (Nat.le_refl _)) ok.sa ok.sl (by omega) ⟨.inl (by omega),.inr (by omega)⟩ y1 y3 (by omega) (by omega) (by simp only [efs,f31,reduceIte,Nat.reduceEqDiff]) (by simp only [efs,f33,reduceIte,Nat.reduceEqDiff]) (by simp only [efs,reduceIte,Nat.reduceEqDiff])
  have x1:=(g4 u.n (.inl (by omega))).trans y1
  have x3:=(g4 t2.n (.inr (by omega))).trans y3
  have f41:L2.find 1=.ptr u.n 0:=(f4 1 (by omega)).trans (by simp only [efs,f31,reduceIte,Nat.reduceEqDiff])
  have f42:L2.find 2=.ptr (u.n+1) 0:=(f4 2 (by omega)).trans (by simp only [efs,f32,reduceIte,Nat.reduceEqDiff])
  have f43:L2.find 3=.ptr t2.n 0:=(f4 3 (by omega)).trans (by simp only [efs,f33,reduceIte,Nat.reduceEqDiff])
  have b1:∀ s,JI s .i64 (H.wide:Int) (H.bx:Int)=.val (.int .i64 (H.cols:Int)) s:=fun s=>by rw [wi s _ _ (by omega) (by omega),gXA ok.toSize hm]
  simp (disch:=first|omega|with_unfolding_all rfl) only [WEJ,K37r11,Abs.W,reduceIte,Nat.reduceEqDiff,Nat.reduceAdd,Nat.reduceSub,f41,x1,b1,Nat.zero_add,Nat.add_zero]
  generalize hlp3:jK _ rounds _ _ _ _ _=rl3
  have gu:∀ c,c<u.n→t4.h.get c=u.h.get c:=fun c hc=>(g4 c (.inl (by omega))).trans ((g3 c (.inl (by omega))).trans ((zg c (by omega)).trans ((st2.same c (by omega)).trans (wg c hc))))
  have gB4:t4.h.get bB=some (.cells (jA H.bears).flatten (1+tag 3)):=(g4 bB (.inr (Nat.le_refl _))).trans ((g3 bB (.inr (by omega))).trans ((zg bB (by omega)).trans hX.b.2))
  have hV4:Sl (fun c=>c≠bB) t4.h t4.n 1 (jA H.bears) vB:=hH.b.move (fun c h1 _=>⟨gu c h1,by omega⟩) (by omega)
  obtain ⟨L3,t5,rfl,B5,g5,n5,m5,l5,f5⟩:=ZEJ n _ hlp3 ok hm hV4 gB4 (by omega) ⟨by omega,by omega⟩ x1 x3 (by omega) (by omega) (by simp only [efs,f41,reduceIte,Nat.reduceEqDiff]) (by simp only [efs,f43,reduceIte,Nat.reduceEqDiff]) (by simp only [efs,reduceIte,Nat.reduceEqDiff]) (by simp only [efs,reduceIte,Nat.reduceEqDiff])
  have v3:=(g5 t2.n (by omega)).trans x3
  have f52:L3.find 2=.ptr (u.n+1) 0:=(f5 2 (by omega)).trans (by simp only [efs,f42,reduceIte,Nat.reduceEqDiff])
  have f53:L3.find 3=.ptr t2.n 0:=(f5 3 (by omega)).trans (by simp only [efs,f43,reduceIte,Nat.reduceEqDiff])
  have v2:=(g5 (u.n+1) (by omega)).trans ((g4 (u.n+1) (.inl (by omega))).trans ((g3 (u.n+1) (.inl (by omega))).trans z2))
  have okx:∀ t,okA (.val (.agg (zP H xW xS (slI bB H.bears.length) xK)) t)=.val (.agg (zP H xW xS (slI bB H.bears.length) xK)) t:=fun _=>rfl
  have st9:jM 8 t5 (.agg (zP H xW xS (slI bB H.bears.length) xK)) (.ptr (u.n+1) 0)=.val .undef (t5.put (u.n+1) (.cells (zP H xW xS (slI bB H.bears.length) xK) (tag 30))):=jk t5 8 _ _ _ _ v2 rfl rfl scX
  simp (disch:=first|omega|with_unfolding_all rfl) only [WDJ,Abs.W,reduceIte,Nat.reduceEqDiff,Nat.reduceAdd,Nat.reduceSub,f52,f53,v3,okx,st9,Nat.zero_add]
  rw [res37]
  have shF:yH Try.prog 30=some (some 8):=by kernel_rfl
  have m3':=m3 u.n (by omega) (by omega)
  have m4':=m4 u.n (by omega) (by omega)
  have m5':=m5 u.n (by omega) (by omega)
  refine ⟨_,_,yz _ _ _ _ shF (v:=.agg (zP H xW xS (slI bB H.bears.length) xK)) ?_,⟨fun c hc=>?_,by rw [jB];omega,by rw [jB];omega,?_,?_⟩,?_,xW,xS,slI bB H.bears.length,xK,rfl,?_⟩
  ·rw [f52,vt,zN _ _ _ _ rfl (by omega),vg,ve,yJ,show (8:Nat)=(zP H xW xS (slI bB H.bears.length) xK).length from rfl,yr];rfl
  ·rw [zL _ _ _ _ (by omega),g5 c (by omega)];exact gu c hc
  ·simp only [St.put,zQ];omega
  ·simp only [St.put,zQ];omega
  ·show plains (zP H xW xS (slI bB H.bears.length) xK)=false
   have e1:∀ (v:AV) (l:List AV),plains (v::l)=(match plain v with | true=>plains l | false=>false):=fun v l=>by rw [plains];cases plain v<;>rfl
   have e2:plain (slI bB H.bears.length)=false:=rfl
   simp only [e1,e2]
   cases plain xW<;>cases plain xS<;>rfl
  ·have gP:∀ c,u.n+2≤c→(t5.put (u.n+1) (.cells (zP H xW xS (slI bB H.bears.length) xK) (tag 30))).h.get c=t5.h.get c:=fun c hc=>zL _ _ _ _ (by omega)
   have hpn:∀ o,(t5.put (u.n+1) o).n=t5.n:=fun o=>jB _ _ _
   refine ⟨?_,?_,?_,?_⟩
   ·exact (jsA (no:=fun c=>w.n≤c∧c<e1) O3 fun b h1 h2=>⟨h1,h2⟩).move (fun c h1 h2=>⟨(gP c (by omega)).trans ((g5 c (by omega)).trans (g4 c (.inl h2.2))),by omega⟩) (by rw [hpn];omega)
   ·exact (jsA (no:=fun c=>e1≤c∧c<bB) O4 fun b h1 h2=>⟨h1,h2⟩).move (fun c h1 h2=>⟨(gP c (by omega)).trans (g5 c (by omega)),by omega⟩) (by rw [hpn];omega)
   ·have hne:H.mirBs≠[]:=fun h=>by have:=ZU H;rw [h] at this;simp at this;omega
    have:=yCJ (no:=fun c=>u.n≤c) (n:=t5.n) hne ⟨by omega,by omega⟩ ((gP bB (by omega)).trans B5)
    rw [ZU] at this
    rw [hpn]
    exact this
   ·exact (hX.k.at_ kk0).move (fun c h1 h2=>⟨by
     have h2:q≤c:=h2
     rw [gP c (by omega),g5 c (by omega),g4 c (.inr (by omega)),g3 c (.inr (by omega))]
     exact zg c h1,by have h2:q≤c:=h2;omega⟩) (by rw [hpn];omega))
 exact ⟨xW,xS,xB,xK,t,hr.symm.trans e,st,hX⟩
def Desc (vs:List (Nat × Nat)):Prop:=vs.Pairwise fun a b=>b.1<a.1
theorem wH (v w k:Nat) (r:List (Nat × Nat)):gG v ((w,k)::r)=if v=w then some (k,(w,k)::r) else gG v r:=by
 show (match Nat.beq v w with | true=>some (k,(w,k)::r) | false=>gG v r)=_
 by_cases h:v=w
 ·subst h;rw [Nat.beq_refl,if_pos rfl]
 ·rw [vf h,if_neg h]
theorem joJ (v w k:Nat) (r:List (Nat × Nat)):zVA v ((w,k)::r)=if v=w then some k else zVA v r:=by
 show (match Nat.beq v w with | true=>some k | false=>zVA v r)=_
 by_cases h:v=w
 ·subst h;rw [Nat.beq_refl,if_pos rfl]
 ·rw [vf h,if_neg h]
theorem gPA:∀ {vs:List (Nat × Nat)} {v k:Nat} {t:List (Nat × Nat)},gG v vs=some (k,t)→zVA v vs=some k
 | [],_,_,_,h=>by cases h
 | (w,j)::r,v,k,t,h=>by
  rw [wH] at h
  rw [joJ]
  by_cases e:v=w
  ·rw [if_pos e] at h ⊢
   injection h with h
   injection h with h1 h2
   rw [h1]
  ·rw [if_neg e] at h ⊢
   exact gPA h
theorem gQA:∀ {vs:List (Nat × Nat)} {v k:Nat} {t:List (Nat × Nat)},gG v vs=some (k,t)→∃ p,vs=p++t
 | [],_,_,_,h=>by cases h
 | (w,j)::r,v,k,t,h=>by
  rw [wH] at h
  by_cases e:v=w
  ·rw [if_pos e] at h
   injection h with h
   injection h with h1 h2
   exact ⟨[],h2⟩
  ·rw [if_neg e] at h
   obtain ⟨p,hp⟩:=gQA h
   exact ⟨(w,j)::p,by rw [hp];rfl⟩
theorem YJA:∀ {vs:List (Nat × Nat)} {a k b j:Nat} {rest:List (Nat × Nat)},Desc vs→gG a vs=some (k,(a,k)::(b,j)::rest)→gG b vs=some (j,(b,j)::rest)
 | [],_,_,_,_,_,_,h=>by cases h
 | (w,i)::r,a,k,b,j,rest,hd,h=>by
  obtain ⟨hw,hr⟩:=List.pairwise_cons.mp hd
  rw [wH] at h ⊢
  by_cases e:a=w
  ·rw [if_pos e] at h
   injection h with h
   injection h with h1 h2
   injection h2 with h2 h3
   subst h3
   have hb:b<w:=hw (b,j) (List.mem_cons_self ..)
   rw [if_neg (by omega),wH,if_pos rfl]
  ·rw [if_neg e] at h
   obtain ⟨p,hp⟩:=gQA h
   have hb:b<w:=hw (b,j) (by rw [hp];simp)
   rw [if_neg (by omega)]
   exact YJA hr h
theorem Zy (k x j:Nat) (r:List (Nat × Nat)):Wd k ((x,j)::r)=true↔j≤k∧Wd k r=true:=by
 show (match Nat.ble j k with | true=>Wd k r | false=>false)=true↔_
 cases h:Nat.ble j k with
 | true=>exact ⟨fun e=>⟨Nat.le_of_ble_eq_true h,e⟩,fun e=>e.2⟩
 | false=>exact ⟨fun e=>(by cases e),fun e=>by rw [Nat.ble_eq_true_of_le e.1] at h;cases h⟩
theorem wnA:∀ {r:List (Nat × Nat)} {k k':Nat},k≤k'→Wd k r=true→Wd k' r=true
 | [],_,_,_,_=>rfl
 | (x,j)::r,k,k',hk,h=>by
  obtain ⟨h1,h2⟩:=(Zy k x j r).mp h
  exact (Zy k' x j r).mpr ⟨by omega,wnA hk h2⟩
def vC (l:List PutR):List AV:=(l.map PutR.row).flatten
theorem gU (l:List PutR):(vC l).length=l.length * 3:=by
 unfold vC
 rw [jx (w:=3) (fun r hr=>by obtain ⟨p,_,rfl⟩:=List.mem_map.mp hr;rfl),List.length_map]
theorem yrA (l:List PutR) (P:PutR):vC (l++[P])=vC l++P.row:=by unfold vC;rw [List.map_append,List.flatten_append];simp
def FamAt (h:Heap) (n lo:Nat) (v:AV) (rest:List (Nat × Nat)) (l:List PutR):Prop :=
 (l=[]∧v=.nilslice∧rest=[]) ∨
 (∃ P b,l=[P]∧rest=[]∧lo≤b∧b<n∧v=.slice b 0 1 1 true∧(h.get b=some (.cells P.row (3+tag 51))∨∃ c vs,h.get b=some (.fam c 3 3 vs)∧c.take 3=P.row)) ∨
 (2≤l.length∧∃ b ver c vs,lo≤b∧b<n∧v=.vs b ver l.length∧h.get b=some (.fam c 3 3 vs)∧gG ver vs=some (l.length * 3,(ver,l.length * 3)::rest)∧c.take (l.length * 3)=vC l∧Wd (l.length * 3) ((b,3)::(ver,l.length * 3)::rest)=true∧Desc vs∧∀ x ∈ vs,x.1<n)
theorem FamAt.block {h:Heap} {n lo:Nat} {v:AV} {rest:List (Nat × Nat)} {l:List PutR} (r:FamAt h n lo v rest l):∀ b,jN v=some b→lo≤b∧b<n:=fun b hb=>by
 rcases r with ⟨_,h1,_⟩ | ⟨_,b',_,_,h1,h2,h3,_⟩ | ⟨_,b',_,_,_,h1,h2,h3,_⟩
 ·rw [h1] at hb;cases hb
 ·rw [h3] at hb
  have hb:some b'=some b:=hb
  injection hb with hb
  omega
 ·rw [h3] at hb
  have hb:some b'=some b:=hb
  injection hb with hb
  omega
theorem FamAt.grow {h h':Heap} {n n' lo:Nat} {v:AV} {rest:List (Nat × Nat)} {l:List PutR} (r:FamAt h n lo v rest l) (hh:∀ b,b<n→jN v=some b→h'.get b=h.get b) (hn:n≤n'):FamAt h' n' lo v rest l:=by
 rcases r with r | ⟨P,b,h1,h2,h3,h4,h5,h6⟩ | ⟨h0,b,ver,c,vs,h1,h2,h3,h4,h5,h6,h7,h8,h9⟩
 ·exact .inl r
 ·exact .inr (.inl ⟨P,b,h1,h2,h3,by omega,h5,by rw [hh b h4 (by rw [h5];rfl)];exact h6⟩)
 ·exact .inr (.inr ⟨h0,b,ver,c,vs,h1,by omega,h3,by rw [hh b h2 (by rw [h3];rfl)];exact h4,h5,h6,h7,h8,fun x hx=>Nat.lt_of_lt_of_le (h9 x hx) hn⟩)
theorem FamAt.puts {no:Nat→Prop} {h:Heap} {n lo:Nat} {v:AV} {rest:List (Nat × Nat)} {l:List PutR} (r:FamAt h n lo v rest l) (hno:∀ b,lo≤b→b<n→no b):Puts no h n l v:=by
 rcases r with ⟨h1,h2,_⟩ | ⟨P,b,h1,h2,h3,h4,h5,h6⟩ | ⟨h0,b,ver,c,vs,h1,h2,h3,h4,h5,h6,h7,h8,h9⟩
 ·subst h1;subst h2
  exact ⟨fun _=>rfl,fun _=>rfl,fun hi=>by simp at hi⟩
 ·subst h1;subst h5
  refine ⟨fun _=>rfl,fun _=>rfl,fun {i} hi=>?_⟩
  obtain rfl:i=0:=by simp at hi;exact hi
  refine ⟨.ptr b 0,fun s=>?_,fun s' hs=>?_⟩
  ·rw [jq _ _ _ _ _ _ _ _ (by omega)]
  ·rw [vt,hs b h4 (hno b h3 h4)]
   rcases h6 with h6 | ⟨c,vs,h6,h7⟩
   ·rw [h6];rfl
   ·rw [h6]
    show ARes.val (yW (some 3) (c.take 3) 0) s'=_
    rw [h7];rfl
 ·subst h3
  refine ⟨fun _=>rfl,fun _=>rfl,fun {i} hi=>⟨.vp b ver (i * 3),fun s=>?_,fun s' hs=>?_⟩⟩
  ·show (Bool.casesOn (motive:=fun _=>ARes) (Nat.ble (Nat.succ i) l.length) ARes.fail (.val (.vp b ver (Nat.mul i 3)) s))=_
   rw [Nat.ble_eq_true_of_le hi];rfl
  ·show vAA (some 3) s' b ver (i * 3)=_
   unfold vAA gS
   rw [hs b h2 (hno b h1 h2),h4]
   simp only [gPA h5,h6]
   rw [ve]
   unfold vC
   rw [yU (w:=3) (fun r hr=>by obtain ⟨p,_,rfl⟩:=List.mem_map.mp hr;rfl) (by rw [List.length_map];exact hi),List.getElem_map]
   rfl
theorem vNJ {s:St} {lo p sz:Nat} {v:AV} {rest:List (Nat × Nat)} {l:List PutR} {P:PutR} (r:FamAt s.h s.n lo v rest l) (hl:l.length≤30) (hp:s.h.get p=some (.cells P.row sz)) (hlo:lo≤s.n) (hs:s.n<549755813888) :
  ∃ v' s' rest',jT true 3 24 (tag 51) s v (.slice p 0 1 1 false)=.val v' s'∧FamAt s'.h s'.n lo v' rest' (l++[P])∧s'.n=s.n+1∧(∀ c,c<s.n→jN v≠some c→s'.h.get c=s.h.get c)∧(∀ k,k≤lo→k≤s.m→k≤s'.m)∧s'.m≤s.m∧(∀ b,jN v'=some b→jN v=some b∨b=s.n)∧(∀ b,jN v=some b→jN v'=some b)∧∀ h'' n'',FamAt h'' n'' lo v' rest' (l++[P])→FamAt h'' n'' lo v rest l:=by
 have hP3:P.row.length=3:=rfl
 have e1:JC 3 1 s (.slice p 0 1 1 false)=some P.row:=by
  show (match s.h.get p with | some (.cells c _)=>cut 0 3 c | some (.fam c _ k _)=>cut 0 3 (c.take k) | _=>none)=_
  rw [hp];rfl
 have e2:jT true 3 24 (tag 51) s v (.slice p 0 1 1 false)=jLA 3 24 (tag 51) 1 P.row s v:=by
  show (match JC 3 1 s (.slice p 0 1 1 false) with | none=>ARes.fail | some new=>match Nat.beq new.length (1 * 3) with | false=>.fail | true=>match scalars new with | true=>jLA 3 24 (tag 51) 1 new s v | false=>.fail)=_
  rw [e1];rfl
 rw [e2]
 have r0:=r
 rcases r with ⟨h1,h2,h3⟩ | ⟨Q,b,h1,h2,h3,h4,h5,h6⟩ | ⟨h0,b,ver,c,vs,h1,h2,h3,h4,h5,h6,h7,h8,h9⟩
 ·subst h1;subst h2;subst h3
  refine ⟨.slice s.n 0 1 1 true,s.new (.cells P.row (3+tag 51)),[],rfl,.inr (.inl ⟨P,s.n,rfl,rfl,hlo,Nat.lt_succ_self _,rfl,.inl (zM _ _ _ rfl hs)⟩),rfl,fun c hc _=>zH _ _ _ (by omega),fun _ _ h=>h,Nat.le_refl _,fun b hb=>?_,fun b hb=>(by cases hb),fun _ _ _=>.inl ⟨rfl,rfl,rfl⟩⟩
  have:some s.n=some b:=hb
  injection this with this
  exact .inr this.symm
 ·subst h1;subst h2;subst h5
  have hg:(s.put b (.fam (Q.row++P.row) 3 3 [(s.n,6)])).bump.h.get b=some (.fam (Q.row++P.row) 3 3 [(s.n,6)]):=zN _ _ _ _ rfl (by omega)
  refine ⟨.vs b s.n 2,(s.put b (.fam (Q.row++P.row) 3 3 [(s.n,6)])).bump,[],?_,.inr (.inr ⟨Nat.le_refl 2,b,s.n,_,_,h3,Nat.lt_succ_of_lt h4,rfl,hg,?_,rfl,rfl,List.pairwise_singleton _ _,fun x hx=>?_⟩),rfl,fun c hc hcb=>zL _ _ _ _ (fun h=>hcb (by rw [h];rfl)),fun k hk hm=>?_,?_,fun c hc=>.inl hc,fun c hc=>hc,fun h'' n'' f=>?_⟩
  ·show (match s.h.get b with
    | some (.cells c sz)=>if c.length=1 * 3∧vD sz=3 then yIA 3 b c.length c.length 1 1 c P.row [] s else .fail
    | some (.fam c sz k _)=>if sz=3 then yIA 3 b k k 1 1 c P.row [] s else .fail
    | _=>.fail)=_
   rcases h6 with h6 | ⟨c,vs,h6,h7⟩
   ·rw [h6];rfl
   ·rw [h6]
    have hcl:3≤c.length:=by
     have:=congrArg List.length h7
     rw [List.length_take] at this
     have h8:Q.row.length=3:=rfl
     omega
    show yIA 3 b 3 3 1 1 c P.row [] s=_
    unfold yIA
    rw [if_pos ⟨rfl,hcl,Nat.one_pos,rfl⟩,h7];rfl
  ·rw [wH,if_pos rfl];rfl
  ·rw [List.mem_singleton.mp hx];exact Nat.lt_succ_self _
  ·show k≤yA s.m b
   rw [zQ];omega
  ·show yA s.m b≤s.m
   rw [zQ];omega
  ·rcases f with ⟨f1,_⟩ | ⟨_,_,f1,_⟩ | ⟨_,b',ver',c',vs',f1,f2,f3,f4,f5,f6,_⟩
   ·cases f1
   ·cases f1
   ·injection f3 with g1 g2 g3
    subst g1
    refine .inr (.inl ⟨Q,b,rfl,rfl,f1,f2,rfl,.inr ⟨c',vs',f4,?_⟩⟩)
    have h:=congrArg (List.take 3) f6
    rw [List.take_take] at h
    exact h
 ·subst h3
  have hcl:l.length * 3≤c.length:=by
   have:=congrArg List.length h6
   rw [List.length_take,gU] at this
   omega
  obtain ⟨pre,hpre⟩:=gQA h5
  have hd:Desc ((ver,l.length * 3)::rest):=by
   have:=h8
   rw [hpre] at this
   exact (List.pairwise_append.mp this).2.1
  have hlt:∀ x ∈ (ver,l.length * 3)::rest,x.1<s.n:=fun x hx=>h9 x (by rw [hpre];exact List.mem_append_right _ hx)
  have hla:(l++[P]).length=l.length+1:=by rw [List.length_append,List.length_singleton]
  obtain ⟨o,ho⟩:∃ o:AObj,o=.fam (c.take (l.length * 3)++P.row) 3 3 ((s.n,l.length * 3+3)::(ver,l.length * 3)::rest):=⟨_,rfl⟩
  have hg:(s.put b o).bump.h.get b=some o:=zN _ _ _ _ rfl (by omega)
  refine ⟨.vs b s.n (l.length+1),(s.put b o).bump,(ver,l.length * 3)::rest,?_,.inr (.inr ⟨by omega,b,s.n,_,_,h1,Nat.lt_succ_of_lt h2,by rw [hla],by rw [hg,ho],?_,?_,?_,?_,fun x hx=>?_⟩),rfl,fun c hc hcb=>zL _ _ _ _ (fun h=>hcb (by rw [h];rfl)),fun k hk hm=>?_,?_,fun c hc=>.inl hc,fun c hc=>hc,fun h'' n'' f=>?_⟩
  ·show (match Nat.ble ((l.length+1) * 24) limit with
    | true=>match s.h.get b with
     | some (.fam c sz k0 vs)=>match gG ver vs with
      | some (k,rest)=>if sz=3 then yIA 3 b k0 k l.length 1 c P.row rest s else .fail
      | none=>.fail
     | _=>.fail
    | false=>.fail)=_
   rw [Nat.ble_eq_true_of_le (show (l.length+1) * 24≤limit by unfold limit;omega),h4]
   simp only [h5,if_true]
   unfold yIA
   rw [if_pos ⟨rfl,hcl,Nat.one_pos,h7⟩,ho];rfl
  ·rw [wH,if_pos rfl,hla,Nat.succ_mul]
  ·rw [hla,Nat.succ_mul,yrA,h6,List.take_of_length_le (by rw [List.length_append,gU];exact Nat.le_refl _)]
  ·rw [hla,Nat.succ_mul]
   obtain ⟨q1,q2⟩:=(Zy _ _ _ _).mp h7
   exact (Zy _ _ _ _).mpr ⟨by omega,(Zy _ _ _ _).mpr ⟨Nat.le_refl _,wnA (Nat.le_add_right _ _) q2⟩⟩
  ·exact List.pairwise_cons.mpr ⟨fun x hx=>hlt x hx,hd⟩
  ·rcases List.mem_cons.mp hx with e | hx
   ·rw [e];exact Nat.lt_succ_self _
   ·exact Nat.lt_succ_of_lt (hlt x hx)
  ·show k≤yA s.m b
   rw [zQ];omega
  ·show yA s.m b≤s.m
   rw [zQ];omega
  ·rcases f with ⟨f1,_⟩ | ⟨_,_,f1,_⟩ | ⟨_,b',ver',c',vs',f1,f2,f3,f4,f5,f6,f7,f8,f9⟩
   ·simp at f1
   ·have:=congrArg List.length f1
    rw [hla,List.length_singleton] at this
    omega
   ·injection f3 with g1 g2 g3
    subst g1;subst g2
    rw [hla] at f5 f6
    refine .inr (.inr ⟨h0,b,ver,c',vs',f1,f2,rfl,f4,YJA f8 f5,?_,h7,f8,f9⟩)
    have h:=congrArg (List.take (l.length * 3)) f6
    rw [List.take_take,Nat.min_eq_left (by omega),yrA,List.take_left' (gU l)] at h
    exact h
theorem YGA {s:St} {n lo:Nat} {v:AV} {rest:List (Nat × Nat)} {l:List PutR} (r:FamAt s.h n lo v rest l):JC 3 l.length s v=some (vC l)∧YPJ v=some l.length∧(l≠[]→∀ s,vVA .nilS false s v .nilslice=.val (.bool false) s):=by
 rcases r with ⟨h1,h2,h3⟩ | ⟨Q,b,h1,h2,h3,h4,h5,h6⟩ | ⟨h0,b,ver,c,vs,h1,h2,h3,h4,h5,h6,h7,h8,h9⟩
 ·subst h1;subst h2
  exact ⟨rfl,rfl,fun h=>absurd rfl h⟩
 ·subst h1;subst h5
  refine ⟨?_,rfl,fun _ s=>by simp [vVA,Cmp.eq]⟩
  show (match s.h.get b with | some (.cells c _)=>cut 0 3 c | some (.fam c _ k _)=>cut 0 3 (c.take k) | _=>none)=_
  rcases h6 with h6 | ⟨c,vs,h6,h7⟩
  ·rw [h6];rfl
  ·rw [h6]
   show cut 0 3 (c.take 3)=_
   rw [h7];rfl
 ·subst h3
  refine ⟨?_,rfl,fun _ s=>by simp [vVA,Cmp.eq]⟩
  show (match (match s.h.get b with | some (.fam c _ _ vs)=>(match zVA ver vs with | some k=>some (c.take k) | none=>none) | _=>none) with | some c=>cut 0 (l.length * 3) c | none=>none)=_
  rw [h4]
  simp only [gPA h5,h6]
  rw [yJ,← gU,yr]
theorem ZkJ {N:Nat} {s:St} {r:ARes} {v:AV} {lo:Nat} {rest:List (Nat × Nat)} (l:List PutR) (hr:call Try.prog X N (.fn 84) [v] s=r) (hN:1≤N) (hp:FamAt s.h s.n lo v rest l) (h0:l≠[]) (hk:l.length≤30) (hs:s.n+100≤far) :
  ∃ bc t,r=.val (.slice bc 0 l.length l.length true) t∧New s t 2∧s.n≤bc∧bc<t.n∧t.h.get bc=some (.cells (vC l) (3+tag 51)):=by
 obtain ⟨n,rfl⟩:∃ n,N=n+1:=⟨N - 1,by omega⟩
 have hf:=hfar
 obtain ⟨w,t,e,st,bc,rfl,hq⟩:=vm (n:=n) (args:=[v]) (s:=s) (k:=2) (Q:=fun w h m=>∃ bc,w=.slice bc 0 l.length l.length true∧s.n≤bc∧bc<m∧h.get bc=some (.cells (vC l) (3+tag 51))) Try.func84 rfl (fun u uh un um=>by
  rw [← uh,← un] at hp
  rw [← un] at hs ⊢
  rw [wXJ]
  have kv:=(hp.puts (no:=fun _=>True) fun _ _ _=>trivial).okA
  have hnil:=(YGA hp).2.2 h0
  obtain ⟨w,hw⟩:∃ w:St,w=u.new (.cells [] 0):=⟨_,rfl⟩
  have wn:w.n=u.n+1:=by rw [hw];rfl
  have hlen:=gU l
  have happ:jT false 3 24 (tag 51) w (.slice u.n 0 0 0 false) v=.val (.slice w.n 0 l.length l.length true) (w.new (.cells (vC l) (3+tag 51))):=by
   have hpw:FamAt w.h w.n lo v rest l:=hp.grow (fun b hb hv=>by rw [hw,zH _ _ _ (by omega)]) (by omega)
   obtain ⟨e1,p2,_⟩:=YGA hpw
   have e2:Nat.beq (vC l).length (l.length * 3)=true:=by rw [hlen];exact Nat.beq_refl _
   have e3:scalars (vC l)=true:=ZA (WvA l)
   unfold jT
   simp only [p2,e1,e2,e3]
   have g0:w.h.get u.n=some (.cells [] 0):=by rw [hw];exact zM _ _ _ rfl (by omega)
   unfold wD
   have e4:Nat.ble l.length 0=false:=by
    cases h:Nat.ble l.length 0 with
    | false=>rfl
    | true =>
     have:=Nat.le_of_ble_eq_true h
     exact absurd (List.length_eq_zero_iff.mp (Nat.le_zero.mp this)) h0
   have e5:Nat.ble (l.length * 24) limit=true:=Nat.ble_eq_true_of_le (by show l.length * 24≤limit;unfold limit;omega)
   have e6:cut 0 0 ([]:List AV)=some []:=rfl
   simp only [g0,Nat.zero_add,Nat.zero_mul,e4,e5,e6,List.nil_append]
  simp (disch:=first|omega|with_unfolding_all rfl) only [jkQ,K84r0,K84r1,K84r2,K84r3,K84,Abs.W,reduceIte,Nat.reduceEqDiff,Nat.reduceAdd,Nat.reduceSub,vCA,hnil,kv,Bool.false_eq_true]
  rw [← hw]
  have okR:∀ x t,okA (.val (.slice x 0 l.length l.length true) t)=.val (.slice x 0 l.length l.length true) t:=fun _ _=>rfl
  simp (disch:=first|omega|with_unfolding_all rfl) only [Abs.W,reduceIte,Nat.reduceEqDiff,Nat.reduceAdd,Nat.reduceSub,happ,okR]
  exact ⟨_,_,rfl,⟨fun c hc=>by rw [zH _ _ _ (by omega),hw,zH _ _ _ (by omega)],by simp only [zW];omega,by simp only [zW];omega,by rw [jF,hw,jF];omega,by rw [jF,hw,jF];omega⟩,rfl,_,rfl,by omega,by simp only [zW];omega,zM _ _ _ rfl (by omega)⟩)
 exact ⟨bc,t,hr.symm.trans e,st,hq⟩
structure SFix (h0:Heap) (lo pt pc ph ps po pf hb p rb:Nat) (sc:List AV) (H:HallR) (vW vS vB vK vo:AV) (O:List (Int × Int)):Prop where
 bh:h0.get ph=some (.cells [.slice hb 0 (O.length+1) (O.length+1) false] (tag 117))
 bb:h0.get hb=some (.cells (H.hopeRows O 0).flatten 0)
 bs:h0.get ps=some (.cells [.ptr p 0] (tag 78))
 bo:h0.get po=some (.cells [vo] (tag 25))
 bf:∃ sz,h0.get pf=some (.cells [.func 82 [] [.ptr pt 0,.ptr pc 0,.ptr ph 0,.ptr ps 0,.ptr po 0,.ptr pf 0]] sz)
 c:SiteC sc H vW vS vB vK rb
 g:h0.get p=some (vQ sc)
 gr:h0.get rb=some (.cells (Zj p) 0)
 hH:HallAt (fun b=>b≠pt∧b≠pc) h0 lo H vW vS vB vK
 hO:Sl (fun b=>b≠pt∧b≠pc) h0 lo 2 (O.map jC) vo
 lt:(ph<lo∧ps<lo∧po<lo∧pf<lo∧hb<lo∧p<lo∧rb<lo)∧pt<lo∧pc<lo
 ne:(ph≠pt∧ps≠pt∧po≠pt∧pf≠pt∧hb≠pt∧p≠pt∧rb≠pt)∧(ph≠pc∧ps≠pc∧po≠pc∧pf≠pc∧hb≠pc∧p≠pc∧rb≠pc)∧pt≠pc
 oin:∀ c ∈ O,H.In c
 o8:O.length≤6
 k2:H.kinds.length≤2
def ChosenAt (h:Heap) (n lo:Nat) (v vc:AV) (C:List PutR):Prop :=
 (C=[]∧vc=.nilslice)∨∃ bc,lo≤bc∧bc<n∧vc=.slice bc 0 C.length C.length true∧C≠[]∧jN v≠some bc∧h.get bc=some (.cells (vC C) (3+tag 51))
theorem ChosenAt.grow {h h':Heap} {n n' lo:Nat} {v v' vc:AV} {C:List PutR} (r:ChosenAt h n lo v vc C) (hh:∀ b,lo≤b→b<n→jN v≠some b→h'.get b=h.get b∧jN v'≠some b) (hn:n≤n'):ChosenAt h' n' lo v' vc C:=by
 rcases r with r | ⟨bc,h1,h2,h3,h4,h5,h6⟩
 ·exact .inl r
 ·obtain ⟨q1,q2⟩:=hh bc h1 h2 h5
  exact .inr ⟨bc,h1,by omega,h3,h4,q2,q1.trans h6⟩
structure SNow (h0 h:Heap) (n lo pt pc:Nat) (v:AV) (rest:List (Nat × Nat)) (l:List PutR) (T:(Int × Int) × List PutR):Prop where
 same:∀ b,b<lo→b≠pt→b≠pc→h.get b=h0.get b
 top:h.get pt=some (.cells [.int .i64 T.1.1,.int .i64 T.1.2] (tag 120))
 cho:∃ vc,h.get pc=some (.cells [vc] (tag 32))∧ChosenAt h n lo v vc T.2
 fam:FamAt h n lo v rest l
 lo:lo≤n
def wide:Nat→Nat
 | 0=>20
 | m+1=>3 * (30+wide m)+30
structure SPost (h0:Heap) (s t:St) (lo pt pc:Nat) (v:AV) (rest:List (Nat × Nat)) (l:List PutR) (T T':(Int × Int) × List PutR) (k:Nat):Prop where
 now:SNow h0 t.h t.n lo pt pc v rest l T'
 old:∀ b,b<s.n→b≠pt→b≠pc→jN v≠some b→t.h.get b=s.h.get b
 n:s.n≤t.n
 le:t.n≤s.n+k
 m:∀ k,k≤pt→k≤pc→k≤s.m→k≤t.m
 mle:t.m≤s.m
 or:t.m≤pt∨T'=T
theorem SPost.refl {h0:Heap} {s:St} {lo pt pc:Nat} {v:AV} {rest:List (Nat × Nat)} {l:List PutR} {T:(Int × Int) × List PutR} (a:SNow h0 s.h s.n lo pt pc v rest l T):SPost h0 s s lo pt pc v rest l T T 0 :=
 ⟨a,fun _ _ _ _ _=>rfl,Nat.le_refl _,Nat.le_refl _,fun _ _ _ h=>h,Nat.le_refl _,.inr rfl⟩
theorem SPost.trans {h0:Heap} {s t u:St} {lo pt pc:Nat} {v:AV} {rest:List (Nat × Nat)} {l:List PutR} {T T1 T2:(Int × Int) × List PutR} {k1 k2:Nat} (a:SPost h0 s t lo pt pc v rest l T T1 k1) (b:SPost h0 t u lo pt pc v rest l T1 T2 k2):SPost h0 s u lo pt pc v rest l T T2 (k1+k2):=by
 obtain ⟨a1,a2,a3,a4,a5,a6,a7⟩:=a
 obtain ⟨b1,b2,b3,b4,b5,b6,b7⟩:=b
 refine ⟨b1,fun x h1 h2 h3 h4=>(b2 x (by omega) h2 h3 h4).trans (a2 x h1 h2 h3 h4),by omega,by omega,fun k h1 h2 h3=>b5 k h1 h2 (a5 k h1 h2 h3),by omega,?_⟩
 rcases b7 with b7 | b7
 ·exact .inl b7
 ·rcases a7 with a7 | a7
  ·left;omega
  ·right;rw [b7,a7]
def SOk (N m:Nat) (h0:Heap) (lo pt pc ph ps po pf:Nat) (H:HallR) (O:List (Int × Int)):Prop :=
 ∀ (s:St) (v:AV) (rest:List (Nat × Nat)) (l:List PutR) (T:(Int × Int) × List PutR) (i:Nat),i+m=O.length→SNow h0 s.h s.n lo pt pc v rest l T→H.Good l→l.length≤i→s.n+60000+wide m≤far→s.m≤far →
  ∃ t,call Try.prog X N (.fn 82) [v,.agg [.int .i64 (H.worth l).1,.int .i64 (H.worth l).2],.int .i64 (i:Int),.ptr pt 0,.ptr pc 0,.ptr ph 0,.ptr ps 0,.ptr po 0,.ptr pf 0] s=.val (.tup []) t∧SPost h0 s t lo pt pc v rest l T (srch H.kinds.length H.takesB H.worth H.rent (O.drop i) l T) (wide m)
theorem vXJ (N:Nat) (hN:1≤N) (s:St) (hs:s.n+10≤far):call Try.prog X N (.fn 84) [.nilslice] s=.val .nilslice s:=by
 obtain ⟨n,rfl⟩:∃ n,N=n+1:=⟨N - 1,by omega⟩
 refine zj Try.func84 (fun u uh un um=>?_) rfl
 have hf:=hfar
 have hnil:∀ s,vVA .nilS false s .nilslice .nilslice=.val (.bool true) s:=fun s=>by simp [vVA,Cmp.eq]
 rw [wXJ]
 simp (disch:=first|omega|with_unfolding_all rfl) only [jkQ,K84r0,K84r1,K84r2,K84r3,K84,Abs.W,reduceIte,Nat.reduceEqDiff,Nat.reduceAdd,Nat.reduceSub,vCA,hnil]
 exact ⟨_,rfl,by omega⟩
theorem vAQ (M:Nat) (hM:2≤M) (cx:Ctx) {h0:Heap} {s:St} {lo pt pc q:Nat} {v:AV} {rest:List (Nat × Nat)} {l:List PutR} {T:(Int × Int) × List PutR} {H:HallR} {L:Env} (S:SNow h0 s.h s.n lo pt pc v rest l T) (hl:l.length≤30) (hq:lo≤q∧q<s.n∧jN v≠some q) (gq:s.h.get q=some (.cells [.int .i64 (H.worth l).1,.int .i64 (H.worth l).2] (tag 120))) (hlt:pt<lo∧pc<lo∧pt≠pc∧pt≤pc) (hs:s.n+1000≤far) (hm:s.m≤far)
  (q0:L.find 0=v) (q3:L.find 3=.ptr pt 0) (q4:L.find 4=.ptr pc 0) (q10:L.find 10=.ptr q 0) :
  ∃ b t,(zG (zD jcJ [17]) (ze (.tmp 17) (zv K82r2 []) zd)) (call Try.prog X M) cx L [] s=.done .norm (L.set 17 (.bool b)) [] t∧SPost h0 s t lo pt pc v rest l T (bump H.worth l T) 10:=by
 have hf:=hfar
 obtain ⟨a1,a2,⟨vc,a3,a4⟩,a5,a6⟩:=id S
 have kv:=(a5.puts (no:=fun _=>True) fun _ _ _=>trivial).okA
 have hbl:=a5.block
 have nb:∀ b,b<lo→jN v≠some b:=fun b hb h=>by have:=hbl b h;omega
 have okW:∀ (a b:Int) t,okA (.val (.agg [.int .i64 a,.int .i64 b]) t)=.val (.agg [.int .i64 a,.int .i64 b]) t:=fun _ _ _=>rfl
 have ebt:=giA M (by omega) (H.worth l) T.1 s (by omega)
 by_cases hb:Bt (H.worth l) T.1
 ·have hbt:decide (Bt (H.worth l) T.1)=true:=decide_eq_true hb
  rw [hbt] at ebt
  have hbu:bump H.worth l T=(H.worth l,l):=by unfold bump;rw [if_pos hb]
  rw [hbu]
  -- the copy
  obtain ⟨vc',t1,e1,st1,hch⟩:∃ vc' t1,call Try.prog X M (.fn 84) [v] ⟨s.h,s.n,far⟩=.val vc' t1∧New ⟨s.h,s.n,far⟩ t1 2∧((l=[]∧vc'=.nilslice)∨∃ bc,s.n≤bc∧bc<t1.n∧vc'=.slice bc 0 l.length l.length true∧l≠[]∧t1.h.get bc=some (.cells (vC l) (3+tag 51))):=by
   by_cases hl0:l=[]
   ·have hv:v=.nilslice:=by
     rcases a5 with ⟨_,h,_⟩ | ⟨P,_,h,_⟩ | ⟨h,_⟩
     ·exact h
     ·rw [hl0] at h;cases h
     ·rw [hl0] at h;simp at h
    rw [hv]
    exact ⟨_,_,vXJ M (by omega) ⟨s.h,s.n,far⟩ (by show s.n+10≤far;omega),⟨fun _ _=>rfl,Nat.le_refl _,Nat.le_add_right _ _,rfl⟩,.inl ⟨hl0,rfl⟩⟩
   ·obtain ⟨bc,t1,e,st,h1,h2,h3⟩:=ZkJ (N:=M) (s:=⟨s.h,s.n,far⟩) l rfl (by omega) a5 hl0 hl (by show s.n+100≤far;omega)
    exact ⟨_,_,e,st,.inr ⟨bc,h1,h2,rfl,hl0,h3⟩⟩
  have n1:s.n≤t1.n:=st1.n
  have k1:t1.n≤s.n+2:=st1.le
  have m1:t1.m=far:=st1.m
  have g1:∀ b,b<s.n→t1.h.get b=s.h.get b:=fun b hb=>st1.same b hb
  have okc:∀ t,okA (.val vc' t)=.val vc' t:=fun t=>by
   rcases hch with ⟨_,h⟩ | ⟨_,_,_,h,_⟩<;>rw [h]<;>rfl
  have scc:cellsOf 1 vc'=some [vc']∧scalars [vc']=true:=by
   rcases hch with ⟨_,h⟩ | ⟨_,_,_,h,_⟩<;>rw [h]<;>exact ⟨rfl,rfl⟩
  obtain ⟨y,hy⟩:∃ y:St,y=⟨t1.h,t1.n,yA s.m t1.m⟩:=⟨_,rfl⟩
  have yn:y.n=t1.n:=by rw [hy]
  have yh:y.h=t1.h:=by rw [hy]
  have ym:y.m=s.m:=by rw [hy];show yA s.m t1.m=_;rw [zQ];omega
  have tv:∀ ws v d rest cl L,WV (some ws) (.val v t1) d rest cl L s=rest cl (d.put v L) y:=fun ws v d rest cl L=>by rw [hy];exact wk _ _ _ _ _ _ _ _ (by omega)
  have yt:y.h.get pt=some (.cells [.int .i64 T.1.1,.int .i64 T.1.2] (tag 120)):=by rw [yh,g1 pt (by omega)];exact a2
  have yc:y.h.get pc=some (.cells [vc] (tag 32)):=by rw [yh,g1 pc (by omega)];exact a3
  have st2:jM 2 y (.agg [.int .i64 (H.worth l).1,.int .i64 (H.worth l).2]) (.ptr pt 0)=.val .undef (y.put pt (.cells [.int .i64 (H.worth l).1,.int .i64 (H.worth l).2] (tag 120))):=jk _ 2 _ _ _ _ yt rfl rfl rfl
  have st3:jM 1 (y.put pt (.cells [.int .i64 (H.worth l).1,.int .i64 (H.worth l).2] (tag 120))) vc' (.ptr pc 0)=.val .undef ((y.put pt (.cells [.int .i64 (H.worth l).1,.int .i64 (H.worth l).2] (tag 120))).put pc (.cells [vc'] (tag 32))):=jZ (c:=[vc]) (by rw [zL _ _ _ _ (by omega)];exact yc) (by show 0<1;omega) scc.1 scc.2
  obtain ⟨z,hz⟩:∃ z:St,z=(y.put pt (.cells [.int .i64 (H.worth l).1,.int .i64 (H.worth l).2] (tag 120))).put pc (.cells [vc'] (tag 32)):=⟨_,rfl⟩
  have zn:z.n=y.n:=by rw [hz];rfl
  have zm:z.m=min (min s.m pt) pc:=by rw [hz];simp only [St.put,zQ,ym]
  have zg:∀ b,b≠pt→b≠pc→z.h.get b=t1.h.get b:=fun b h1 h2=>by rw [hz,zL _ _ _ _ h2,zL _ _ _ _ h1,yh]
  have zt:z.h.get pt=some (.cells [.int .i64 (H.worth l).1,.int .i64 (H.worth l).2] (tag 120)):=by rw [hz,zL _ _ _ _ (by omega)];exact zN _ _ _ _ rfl (by omega)
  have zc:z.h.get pc=some (.cells [vc'] (tag 32)):=by rw [hz];exact zN _ _ _ _ rfl (by omega)
  rw [← hz] at st3
  refine ⟨true,z,?_,⟨⟨fun b h1 h2 h3=>?_,zt,⟨vc',zc,?_⟩,a5.grow (fun b h1 h2=>?_) (by omega),by omega⟩,fun b h1 h2 h3 _=>(zg b h2 h3).trans (g1 b h1),by omega,by omega,fun k h1 h2 h3=>by omega,by omega,.inl (by omega)⟩⟩
  ·simp (disch:=first|omega|with_unfolding_all rfl) only [jcJ,K82r2,Abs.W,reduceIte,Nat.reduceEqDiff,Nat.reduceAdd,Nat.reduceSub,q0,q3,q4,q10,gq,a2,okW,ebt,kv,e1,tv,okc,st2,st3,Nat.zero_add]
  ·rw [zg b h2 h3,g1 b (by omega)];exact a1 b h1 h2 h3
  ·rcases hch with ⟨h1,h2⟩ | ⟨bc,h1,h2,h3,h4,h5⟩
   ·exact .inl ⟨h1,h2⟩
   ·exact .inr ⟨bc,by omega,by omega,h3,h4,fun h=>by have:=hbl bc h;omega,(zg bc (by omega) (by omega)).trans h5⟩
  ·have h3:=hbl b h2
   rw [zg b (by omega) (by omega)];exact g1 b h1
 ·have hbt:decide (Bt (H.worth l) T.1)=false:=decide_eq_false hb
  rw [hbt] at ebt
  have hbu:bump H.worth l T=T:=by unfold bump;rw [if_neg hb]
  rw [hbu]
  refine ⟨false,s,?_,⟨S,fun _ _ _ _ _=>rfl,Nat.le_refl _,by omega,fun _ _ _ h=>h,Nat.le_refl _,.inr rfl⟩⟩
  simp (disch:=first|omega|with_unfolding_all rfl) only [jcJ,Abs.W,reduceIte,Nat.reduceEqDiff,Nat.reduceAdd,Nat.reduceSub,q3,q10,gq,a2,okW,ebt,Nat.zero_add]
theorem yyQ (M:Nat) (hM:2≤M) (cx:Ctx) {h0:Heap} {s:St} {lo pt pc ph ps po pf hb p rb q i:Nat} {sc:List AV} {v vo:AV} {rest:List (Nat × Nat)} {l:List PutR} {T:(Int × Int) × List PutR} {H:HallR} {vW vS vB vK:AV} {O:List (Int × Int)} {L:Env} (ok:H.Ok) (F:SFix h0 lo pt pc ph ps po pf hb p rb sc H vW vS vB vK vo O) (S:SNow h0 s.h s.n lo pt pc v rest l T) (hg:H.Good l) (hl:l.length≤30) (hi:i≤O.length) (gq:s.h.get q=some (.cells [.int .i64 (H.worth l).1,.int .i64 (H.worth l).2] (tag 120))) (hs:s.n+1000≤far) (hm:s.m≤far)
  (q2:L.find 2=.int .i64 (i:Int)) (q3:L.find 3=.ptr pt 0) (q5:L.find 5=.ptr ph 0) (q10:L.find 10=.ptr q 0) :
  zv wqJ [29] (call Try.prog X M) cx L [] s=.done .norm (L.set 29 (.bool (!decide (Bt (wplus (H.worth l) (H.hopeL (O.drop i))) T.1)))) [] s:=by
 have hf:=hfar
 have hlt:=F.lt
 have hne:=F.ne
 have o8:=F.o8
 have gh:=(S.same ph (by omega) (by omega) (by omega)).trans F.bh
 have gb:=(S.same hb (by omega) (by omega) (by omega)).trans F.bb
 have hix:∀ s,jX 2 s (.slice hb 0 (O.length+1) (O.length+1) false) (.int .i64 (i:Int))=.val (.ptr hb (i * 2)) s:=fun s=>by rw [jq _ _ _ _ _ _ _ _ (by omega),Nat.zero_add]
 have hcut:cut (i * 2) 2 (H.hopeRows O 0).flatten=some [.int .i64 (H.hopeL (O.drop i)).1,.int .i64 (H.hopeL (O.drop i)).2]:=by
  rw [yU (Jn H O _) (by rw [ZL];omega),vDA H O _ (by omega)]
  unfold HallR.hopeRow;rw [if_pos (Nat.zero_le _)]
 have okW:∀ (a b:Int) t,okA (.val (.agg [.int .i64 a,.int .i64 b]) t)=.val (.agg [.int .i64 a,.int .i64 b]) t:=fun _ _ _=>rfl
 have okS:∀ t,okA (.val (.slice hb 0 (O.length+1) (O.length+1) false) t)=.val (.slice hb 0 (O.length+1) (O.length+1) false) t:=fun _=>rfl
 have hb1:=VR ok (O.drop i)
 have hdl:(O.drop i).length≤6:=by rw [List.length_drop];omega
 have hlen:l.length≤30:=hl
 have hr:(0≤(H.worth l).1∧(H.worth l).1≤100000000)∧0≤(H.worth l).2∧(H.worth l).2≤100000000:=by
  have h:=ZQ (H.rents l) 0 1000000 (by omega) fun x hx=>by
   obtain ⟨p,hp,rfl⟩:=List.mem_map.mp hx
   have h:=vP ok (hg.i p hp).k
   exact ⟨h.r0,h.r1⟩
  have e:(H.rents l).length=l.length:=by unfold HallR.rents;rw [List.length_map]
  rw [e] at h
  unfold HallR.worth
  simp only
  omega
 have epl:=YwA M (by omega) (H.worth l) (H.hopeL (O.drop i)) ⟨s.h,s.n,far⟩ hr ⟨⟨hb1.1.1,by omega⟩,hb1.2.1,by omega⟩ (by show s.n+10≤far;omega)
 have hts:=fun v=>yG (v:=v) (s:=s) (h:=(by omega:s.n≤far)) (hm:=hm)
 have ebt:=giA M (by omega) (wplus (H.worth l) (H.hopeL (O.drop i))) T.1 s (by omega)
 have ebt':call Try.prog X M (.fn 83) [.agg [.int .i64 ((H.worth l).1+(H.hopeL (O.drop i)).1),.int .i64 ((H.worth l).2+(H.hopeL (O.drop i)).2)],.agg [.int .i64 T.1.1,.int .i64 T.1.2]] s=.val (.bool (decide (Bt (wplus (H.worth l) (H.hopeL (O.drop i))) T.1))) s:=ebt
 have gt:=S.top
 simp (disch:=first|omega|with_unfolding_all rfl) only [wqJ,Abs.W,reduceIte,Nat.reduceEqDiff,Nat.reduceAdd,Nat.reduceSub,q2,q3,q5,q10,gq,gh,gb,hix,hcut,okW,okS,epl,hts,gt,ebt',Nat.zero_add]
structure SAt (h:Heap) (n pt pc ph ps po pf hb p rb:Nat) (sc:List AV) (H:HallR) (vW vS vB vK vo:AV) (O:List (Int × Int)):Prop where
 bh:h.get ph=some (.cells [.slice hb 0 (O.length+1) (O.length+1) false] (tag 117))
 bb:h.get hb=some (.cells (H.hopeRows O 0).flatten 0)
 bs:h.get ps=some (.cells [.ptr p 0] (tag 78))
 bo:h.get po=some (.cells [vo] (tag 25))
 bf:∃ sz,h.get pf=some (.cells [.func 82 [] [.ptr pt 0,.ptr pc 0,.ptr ph 0,.ptr ps 0,.ptr po 0,.ptr pf 0]] sz)
 g:h.get p=some (vQ sc)
 gr:h.get rb=some (.cells (Zj p) 0)
 hH:HallAt (fun b=>b≠pt∧b≠pc) h n H vW vS vB vK
 hO:Sl (fun b=>b≠pt∧b≠pc) h n 2 (O.map jC) vo
 lp:p<n∧rb<n
theorem SFix.at_ {h0 h:Heap} {n lo pt pc ph ps po pf hb p rb:Nat} {sc:List AV} {H:HallR} {vW vS vB vK vo v:AV} {O:List (Int × Int)} {rest:List (Nat × Nat)} {l:List PutR} {T:(Int × Int) × List PutR} (F:SFix h0 lo pt pc ph ps po pf hb p rb sc H vW vS vB vK vo O) (S:SNow h0 h n lo pt pc v rest l T):SAt h n pt pc ph ps po pf hb p rb sc H vW vS vB vK vo O:=by
 have tf:=S.same
 have hlo:=S.lo
 obtain ⟨⟨l1,l2,l3,l4,l5,l6,l7⟩,l8,l9⟩:=F.lt
 obtain ⟨⟨n1,n2,n3,n4,n5,n6,n7⟩,⟨m1,m2,m3,m4,m5,m6,m7⟩,_⟩:=F.ne
 obtain ⟨sz,hf⟩:=F.bf
 exact ⟨(tf ph l1 n1 m1).trans F.bh,(tf hb l5 n5 m5).trans F.bb,(tf ps l2 n2 m2).trans F.bs,(tf po l3 n3 m3).trans F.bo,⟨sz,(tf pf l4 n4 m4).trans hf⟩,(tf p l6 n6 m6).trans F.g,(tf rb l7 n7 m7).trans F.gr,F.hH.move (fun b h1 h2=>⟨tf b h1 h2.1 h2.2,h2⟩) hlo,F.hO.move (fun b h1 h2=>⟨tf b h1 h2.1 h2.2,h2⟩) hlo,Nat.lt_of_lt_of_le l6 hlo,Nat.lt_of_lt_of_le l7 hlo⟩
theorem SNow.grow {h0 h h':Heap} {n n' lo pt pc:Nat} {v:AV} {rest:List (Nat × Nat)} {l:List PutR} {T:(Int × Int) × List PutR} (S:SNow h0 h n lo pt pc v rest l T) (hh:∀ b,b<n→h'.get b=h.get b) (hn:n≤n') (hp:pt<n∧pc<n):SNow h0 h' n' lo pt pc v rest l T:=by
 have hlo:=S.lo
 obtain ⟨a1,a2,⟨vc,a3,a4⟩,a5,a6⟩:=S
 exact ⟨fun b h1 h2 h3=>(hh b (by omega)).trans (a1 b h1 h2 h3),(hh pt hp.1).trans a2,⟨vc,(hh pc hp.2).trans a3,a4.grow (fun b h1 h2 h3=>⟨hh b h2,h3⟩) hn⟩,a5.grow (fun b h1 h2=>hh b h1) hn,by omega⟩
end Go.Proofs.Ytoklbkgcclkejaa.walk
