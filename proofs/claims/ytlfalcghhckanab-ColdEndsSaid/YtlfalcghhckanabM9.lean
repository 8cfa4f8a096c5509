/- Whatever truly is lies between the two ends; both ends are truths. -/
import Derived.Test.YtlfalcghhckanabM8
import Derived.Test.YtlfalcghhckanabM1
import Derived.Test.YtlfalcghhckanabM5
import Derived.Test.YtlfalcghhckanabCodes
import Derived.Test.YtlfalcghhckanabAbsPiece
import Derived.Test.YtlfalcghhckanabM7
import Derived.Test.YtlfalcghhckanabWalkAll
set_option linter.unusedSimpArgs false
set_option maxHeartbeats 16000000
set_option linter.unusedVariables false
set_option maxRecDepth 10000
namespace Go.Proofs.Ytlfalcghhckanab.walk
open Go.Abs
theorem lev_mono' {room room':Int} {melt melt':Int→Int} (hr:room≤room'):∀ (k:Nat) (hour i i':Int) (fs:List (Int × Int)),(∀ h,hour≤h→h<hour+k→melt' h≤melt h)→i≤i'→lev room melt k hour i fs≤lev room' melt' k hour i' fs
 | 0,hour,i,i',fs,_,h=>fill1_mono hr fs i i' h
 | k+1,hour,i,i',fs,hm,h=>by
  unfold lev
  have h1:=fill1_mono (hour:=hour) hr fs i i' h
  have h2:=hm hour (Int.le_refl _) (by omega)
  exact lev_mono' hr k (hour+1) _ _ _ (fun h a b=>hm h (by omega) (by omega)) (by omega)
theorem Truth.In.fall {T:Truth} {c:Cellar} {hours:Nat} (tin:T.In c hours) (ok:c.Ok) {b:Nat} (hb:b<c.boxes.length) (k:Nat) (hk:k≤hours):c.iceLo b k≤T.fall c b k∧T.fall c b k≤c.iceHi b k:=by
 have hbi:b<T.ice.length:=by rw [tin.il];exact hb
 have hbm:b<T.melts.length:=by rw [tin.melts.len];exact hb
 have hi:=tin.ice b hbi
 obtain ⟨hl,hr⟩:=tin.melts.row b hbm
 have key:∀ h:Int,0≤h→h<0+(k:Int)→(c.box b).ml≤(T.melts.getD b []).getD h.toNat 0∧(T.melts.getD b []).getD h.toNat 0≤(c.box b).mh:=fun h h0 h1=>by
  have hlt:h.toNat<(T.melts[b]).length:=by omega
  rw [getD_eq [] hbm,getD_eq 0 hlt]
  exact hr _ (List.getElem_mem hlt)
 have e:T.fall c b k=lev (c.box b).room (fun h=>(T.melts.getD b []).getD h.toNat 0) k 0 (T.ice[b]) (c.of b):=by
  unfold Truth.fall
  rw [getD_eq 0 hbi]
  exact fallN_eq c ok b k _ _ _ fun h=>by rw [Int.toNat_natCast]
 rw [e]
 exact ⟨lev_mono' (Int.le_refl _) k 0 _ _ _ (fun h h0 h1=>(key h h0 h1).2) hi.1,lev_mono' (Int.le_refl _) k 0 _ _ _ (fun h h0 h1=>(key h h0 h1).1) hi.2⟩
theorem Truth.In.around {T:Truth} {c:Cellar} {hours:Nat} (tin:T.In c hours) (ok:c.Ok) (l:Lot) (okl:l.Ok c.boxes.length) (k:Nat) (hk:k<hours):(c.at l k).1≤T.around c l.stays k∧T.around c l.stays k≤(c.at l k).2:=by
 unfold Cellar.at Truth.around
 cases hf:l.stays.find? (hit k) with
 | none =>
  have hlt:k<T.hall.length:=by rw [tin.hl];exact hk
  simp only
  rw [getD_eq 0 hlt]
  exact tin.hall _ (List.getElem_mem hlt)
 | some t =>
  have ht:=okl.sok t (List.mem_of_find?_eq_some hf)
  obtain ⟨b,hb⟩:∃ b:Nat,t.box=b:=⟨t.box.toNat,by have:=ht.b0;omega⟩
  have hlt:b<c.boxes.length:=by have:=ht.b1;omega
  simp only [hb,Int.toNat_natCast]
  have okb:=ok.bok _ (List.getElem_mem hlt)
  rw [← c.box_eq hlt] at okb
  obtain ⟨_,_,_,_,_,_,_,_,_,c1,c2,c3,_⟩:=okb
  obtain ⟨i1,i2⟩:=tin.fall ok hlt k (by omega)
  have hbc:b<T.cold.length:=by rw [tin.cold.len];exact hlt
  have hbw:b<T.warm.length:=by rw [tin.warm.len];exact hlt
  obtain ⟨lc,rc⟩:=tin.cold.row b hbc
  obtain ⟨lw,rw'⟩:=tin.warm.row b hbw
  have hc:=rc _ (List.getElem_mem (show k<(T.cold[b]).length by omega))
  have hw:=rw' _ (List.getElem_mem (show k<(T.warm[b]).length by omega))
  rw [getD_eq [] hbc,getD_eq [] hbw,getD_eq 0 (show k<(T.cold[b]).length by omega),getD_eq 0 (show k<(T.warm[b]).length by omega)]
  show (if 0<c.iceHi b k then (c.box b).cl else (c.box b).wl)≤(if 0<T.fall c b k then (T.cold[b])[k]'(by omega) else (T.warm[b])[k]'(by omega))∧(if 0<T.fall c b k then (T.cold[b])[k]'(by omega) else (T.warm[b])[k]'(by omega))≤(if 0<c.iceLo b k then (c.box b).ch else (c.box b).wh)
  split<;>split<;>split<;>omega
theorem sumN_total {f:Nat→Int} {g:Int × Int→Int} {u:Nat→Int × Int}:∀ m:Nat,((∀ i,i<m→f i≤g (u i))→sumN f m≤total g ((List.range m).map u))∧((∀ i,i<m→g (u i)≤f i)→total g ((List.range m).map u)≤sumN f m)
 | 0=>⟨fun _=>Int.le_refl _,fun _=>Int.le_refl _⟩
 | m+1=>by
  obtain ⟨h1,h2⟩:=sumN_total (f:=f) (g:=g) (u:=u) m
  rw [List.range_succ,List.map_append]
  show (_→sumN f (m+1)≤total g (_++[u m]))∧(_→total g (_++[u m])≤sumN f (m+1))
  rw [total_snoc]
  unfold sumN
  exact ⟨fun h=>by have:=h1 fun i hi=>h i (by omega);have:=h m (by omega);omega,fun h=>by have:=h2 fun i hi=>h i (by omega);have:=h m (by omega);omega⟩
theorem Truth.In.lost {T:Truth} {c:Cellar} {hours:Nat} (tin:T.In c hours) (ok:c.Ok) (l:Lot) (okl:l.Ok c.boxes.length) (m:Nat) (hm:l.born+m≤hours) (hm2:l.born+m≤240):(c.lost l m).1≤T.lost c l m∧T.lost c l m≤(c.lost l m).2:=by
 have b0:=okl.b0
 have key:∀ i:Nat,i<m→warmAt (tabsOf c.boxes c.fills c.boxes.length) l.stays c.hl c.hh (l.born+(i:Int))=c.at l (l.born+i).toNat:=fun i hi=>by
  have e:l.born+(i:Int)=((l.born+i).toNat:Int):=by omega
  rw [e,Int.toNat_natCast]
  exact c.warmAt_eq l okl _ (by omega)
 unfold Cellar.lost Cellar.warms walk.warms lostLo lostHi Truth.lost
 exact ⟨(sumN_total m).2 fun i hi=>by rw [key i hi];exact lossFrom_mono _ ok.ro _ _ (tin.around ok l okl _ (by omega)).1,(sumN_total m).1 fun i hi=>by rw [key i hi];exact lossFrom_mono _ ok.ro _ _ (tin.around ok l okl _ (by omega)).2⟩
/-! ### The two ends -/
def Box.edge (b:Box) (coldest:Bool):Box:=if coldest then ⟨b.room,b.ih,b.ih,b.ml,b.ml,b.cl,b.cl,b.wl,b.wl⟩ else ⟨b.room,b.il,b.il,b.mh,b.mh,b.ch,b.ch,b.wh,b.wh⟩
def Cellar.edge (c:Cellar) (coldest:Bool):Cellar:=⟨if coldest then c.hl else c.hh,if coldest then c.hl else c.hh,c.boxes.map fun b=>b.edge coldest,c.fills,c.rates⟩
theorem Box.edge_ok {b:Box} (h:b.Ok) (q:Bool):(b.edge q).Ok:=by
 obtain ⟨o1,o2,o3,o4,o5,o6,o7,o8,o9,o10,o11,o12,o13⟩:=h
 cases q
 ·exact ⟨o1,o2,o3,Int.le_refl _,by show b.il≤b.room;omega,by show 0≤b.mh;omega,Int.le_refl _,o8,by show -300≤b.ch;omega,Int.le_refl _,by show b.ch≤b.wh;omega,Int.le_refl _,o13⟩
 ·exact ⟨o1,o2,by show 0≤b.ih;omega,Int.le_refl _,o5,o6,Int.le_refl _,by show b.ml≤100000;omega,o9,Int.le_refl _,by show b.cl≤b.wl;omega,Int.le_refl _,by show b.wl≤400;omega⟩
theorem Cellar.edge_ok {c:Cellar} (ok:c.Ok) (q:Bool):(c.edge q).Ok:=by
 have h0:=ok.h0
 have h1:=ok.h1
 have h2:=ok.h2
 refine ⟨by cases q;exact (by show -300≤c.hh;omega);exact h0,Int.le_refl _,by cases q;exact h2;exact (by show c.hl≤400;omega),by show (c.boxes.map _).length≤6;rw [List.length_map];exact ok.b,fun b hb=>?_,ok.f,fun f hf=>?_,ok.fo,ok.r0,ok.r,ok.rok,ok.ro⟩
 ·obtain ⟨b',hb',rfl⟩:=List.mem_map.mp hb
  exact Box.edge_ok (ok.bok _ hb') q
 ·show f.Ok (c.boxes.map _).length
  rw [List.length_map];exact ok.fok f hf
theorem Cellar.edge_box (c:Cellar) (q:Bool) {b:Nat} (hb:b<c.boxes.length):(c.edge q).box b=(c.box b).edge q:=by
 rw [(c.edge q).box_eq (by show b<(c.boxes.map _).length;rw [List.length_map];exact hb),c.box_eq hb]
 show (c.boxes.map _)[b]'_=_
 rw [List.getElem_map]
theorem Cellar.edge_ice (c:Cellar) (q:Bool) {b:Nat} (hb:b<c.boxes.length) (k:Nat):(c.edge q).iceLo b k=(if q then c.iceHi b k else c.iceLo b k)∧(c.edge q).iceHi b k=(if q then c.iceHi b k else c.iceLo b k):=by
 unfold Cellar.iceLo Cellar.iceHi
 rw [c.edge_box q hb]
 cases q<;>exact ⟨rfl,rfl⟩
theorem Cellar.edge_at (c:Cellar) (q:Bool) (l:Lot) (okl:l.Ok c.boxes.length) (k:Nat):((c.edge q).at l k).1=(if q then (c.at l k).1 else (c.at l k).2)∧((c.edge q).at l k).2=(if q then (c.at l k).1 else (c.at l k).2):=by
 unfold Cellar.at
 cases hf:l.stays.find? (hit k) with
 | none=>cases q<;>exact ⟨rfl,rfl⟩
 | some t =>
  have ht:=okl.sok t (List.mem_of_find?_eq_some hf)
  obtain ⟨b,hb⟩:∃ b:Nat,t.box=b:=⟨t.box.toNat,by have:=ht.b0;omega⟩
  have hlt:b<c.boxes.length:=by have:=ht.b1;omega
  simp only [hb,Int.toNat_natCast]
  obtain ⟨i1,i2⟩:=c.edge_ice q hlt k
  unfold Cellar.warm
  rw [i1,i2,c.edge_box q hlt]
  cases q<;>exact ⟨rfl,rfl⟩
theorem Cellar.edge_lost (c:Cellar) (ok:c.Ok) (q:Bool) (l:Lot) (okl:l.Ok c.boxes.length) (m:Nat) (hm:l.born+m≤240):((c.edge q).lost l m).1=(if q then (c.lost l m).1 else (c.lost l m).2)∧((c.edge q).lost l m).2=(if q then (c.lost l m).1 else (c.lost l m).2):=by
 have okl':l.Ok (c.edge q).boxes.length:=by show l.Ok (c.boxes.map _).length;rw [List.length_map];exact okl
 have b0:=okl.b0
 have k1:∀ i:Nat,i<m→warmAt (tabsOf c.boxes c.fills c.boxes.length) l.stays c.hl c.hh (l.born+(i:Int))=c.at l (l.born+i).toNat:=fun i hi=>by
  have e:l.born+(i:Int)=((l.born+i).toNat:Int):=by omega
  rw [e,Int.toNat_natCast]
  exact c.warmAt_eq l okl _ (by omega)
 have k2:∀ i:Nat,i<m→warmAt (tabsOf (c.edge q).boxes (c.edge q).fills (c.edge q).boxes.length) l.stays (c.edge q).hl (c.edge q).hh (l.born+(i:Int))=(c.edge q).at l (l.born+i).toNat:=fun i hi=>by
  have e:l.born+(i:Int)=((l.born+i).toNat:Int):=by omega
  rw [e,Int.toNat_natCast]
  exact (c.edge q).warmAt_eq l okl' _ (by omega)
 have two:∀ (f g:Int × Int→Int),(∀ k,f ((c.edge q).at l k)=g (c.at l k))→total f ((List.range m).map fun i:Nat=>warmAt (tabsOf (c.edge q).boxes (c.edge q).fills (c.edge q).boxes.length) l.stays (c.edge q).hl (c.edge q).hh (l.born+(i:Int)))=total g ((List.range m).map fun i:Nat=>warmAt (tabsOf c.boxes c.fills c.boxes.length) l.stays c.hl c.hh (l.born+(i:Int))):=fun f g hfg=>by
  refine Int.le_antisymm (total_le m fun i hi=>?_) (total_le m fun i hi=>?_)
  ·rw [k1 i hi,k2 i hi,hfg];exact Int.le_refl _
  ·rw [k1 i hi,k2 i hi,hfg];exact Int.le_refl _
 unfold Cellar.lost Cellar.warms walk.warms lostLo lostHi
 cases q with
 | false=>exact ⟨two _ _ fun k=>by show lossFrom _ 0 c.rates=_;rw [(c.edge_at false l okl k).1];rfl,two _ _ fun k=>by show lossFrom _ 0 c.rates=_;rw [(c.edge_at false l okl k).2];rfl⟩
 | true=>exact ⟨two _ _ fun k=>by show lossFrom _ 0 c.rates=_;rw [(c.edge_at true l okl k).1];rfl,two _ _ fun k=>by show lossFrom _ 0 c.rates=_;rw [(c.edge_at true l okl k).2];rfl⟩
theorem Truth.fall_edge (T:Truth) (c:Cellar) (q:Bool) {b:Nat} (hb:b<c.boxes.length) (k:Nat):T.fall (c.edge q) b k=T.fall c b k:=by
 unfold Truth.fall
 rw [c.edge_box q hb]
 cases q<;>rfl
theorem Truth.lost_edge (T:Truth) (c:Cellar) (q:Bool) (l:Lot) (okl:l.Ok c.boxes.length) (m:Nat):T.lost (c.edge q) l m=T.lost c l m:=by
 have:∀ k:Nat,T.around (c.edge q) l.stays k=T.around c l.stays k:=fun k=>by
  unfold Truth.around
  cases hf:l.stays.find? (hit k) with
  | none=>rfl
  | some t =>
   have ht:=okl.sok t (List.mem_of_find?_eq_some hf)
   have hlt:t.box.toNat<c.boxes.length:=by have:=ht.b0;have:=ht.b1;omega
   simp only
   rw [T.fall_edge c q hlt]
 unfold Truth.lost
 have e:(fun i:Nat=>lossFrom (T.around (c.edge q) l.stays (l.born+i).toNat) 0 (c.edge q).rates)=fun i:Nat=>lossFrom (T.around c l.stays (l.born+i).toNat) 0 c.rates:=by
  funext i
  rw [this]
  rfl
 rw [e]
theorem Truth.In.edge {T:Truth} {c:Cellar} {q:Bool} {hours:Nat} (tin:T.In (c.edge q) hours) (ok:c.Ok) (l:Lot) (okl:l.Ok c.boxes.length) (m:Nat) (hm:l.born+m≤hours) (hm2:l.born+m≤240):T.lost c l m=if q then (c.lost l m).1 else (c.lost l m).2:=by
 have okl':l.Ok (c.edge q).boxes.length:=by show l.Ok (c.boxes.map _).length;rw [List.length_map];exact okl
 obtain ⟨h1,h2⟩:=tin.lost (Cellar.edge_ok ok q) l okl' m hm hm2
 obtain ⟨h3,h4⟩:=c.edge_lost ok q l okl m hm2
 rw [h3,T.lost_edge c q l okl] at h1
 rw [h4,T.lost_edge c q l okl] at h2
 exact Int.le_antisymm h2 h1
theorem Truth.In.edge_fall {T:Truth} {c:Cellar} {q:Bool} {hours:Nat} (tin:T.In (c.edge q) hours) (ok:c.Ok) {b:Nat} (hb:b<c.boxes.length) (k:Nat) (hk:k≤hours):T.fall c b k=if q then c.iceHi b k else c.iceLo b k:=by
 have hb':b<(c.edge q).boxes.length:=by show b<(c.boxes.map _).length;rw [List.length_map];exact hb
 obtain ⟨h1,h2⟩:=tin.fall (Cellar.edge_ok ok q) hb' k hk
 obtain ⟨h3,h4⟩:=c.edge_ice q hb k
 rw [h3,T.fall_edge c q hb] at h1
 rw [h4,T.fall_edge c q hb] at h2
 exact Int.le_antisymm h2 h1
theorem Truth.In.of_edge {T:Truth} {c:Cellar} {q:Bool} {hours:Nat} (tin:T.In (c.edge q) hours) (ok:c.Ok):T.In c hours:=by
 have hlen:(c.edge q).boxes.length=c.boxes.length:=by show (c.boxes.map _).length=_;rw [List.length_map]
 have hbx:∀ b,b<c.boxes.length→(c.edge q).box b=(c.box b).edge q∧(c.box b).Ok:=fun b hb=>⟨c.edge_box q hb,by rw [c.box_eq hb];exact ok.bok _ (List.getElem_mem hb)⟩
 have row:∀ {tab:List (List Int)} {lo hi lo' hi':Nat→Int},TabIn tab (c.edge q).boxes.length hours lo hi→(∀ b,b<c.boxes.length→lo' b≤lo b∧hi b≤hi' b)→TabIn tab c.boxes.length hours lo' hi':=fun h hh=>⟨h.len.trans hlen,fun b hb=>by
  obtain ⟨r1,r2⟩:=h.row b hb
  have:=hh b (by rw [← hlen,← h.len];exact hb)
  exact ⟨r1,fun x hx=>by have:=r2 x hx;omega⟩⟩
 refine ⟨tin.il.trans hlen,fun b hb=>?_,row tin.melts fun b hb=>?_,row tin.cold fun b hb=>?_,row tin.warm fun b hb=>?_,tin.hl,fun x hx=>?_⟩
 ·have hb':b<c.boxes.length:=by rw [← hlen,← tin.il];exact hb
  obtain ⟨e,okb⟩:=hbx b hb'
  have h:=tin.ice b hb
  rw [e] at h
  have:=okb.i1
  cases q
  ·have h:(c.box b).il≤T.ice[b]∧T.ice[b]≤(c.box b).il:=h
   omega
  ·have h:(c.box b).ih≤T.ice[b]∧T.ice[b]≤(c.box b).ih:=h
   omega
 ·obtain ⟨e,okb⟩:=hbx b hb
  rw [e]
  have:=okb.m1
  cases q
  ·exact ⟨this,Int.le_refl _⟩
  ·exact ⟨Int.le_refl _,this⟩
 ·obtain ⟨e,okb⟩:=hbx b hb
  rw [e]
  have:=okb.c1
  cases q
  ·exact ⟨this,Int.le_refl _⟩
  ·exact ⟨Int.le_refl _,this⟩
 ·obtain ⟨e,okb⟩:=hbx b hb
  rw [e]
  have:=okb.w1
  cases q
  ·exact ⟨this,Int.le_refl _⟩
  ·exact ⟨Int.le_refl _,this⟩
 ·have h:=tin.hall x hx
  have:=ok.h1
  cases q
  ·have h:c.hh≤x∧x≤c.hh:=h
   omega
  ·have h:c.hl≤x∧x≤c.hl:=h
   omega
end Go.Proofs.Ytlfalcghhckanab.walk
set_option maxRecDepth 10000
namespace Go.Proofs.Ytlfalcghhckanab.walk
open Go.Abs Go.Proofs.Ytlfalcghhckanab.code
def RowsAre (bs:List Box) (hours:Nat) (f:Box→Int) (tab:List (List Int)):Prop:=∀ j (_:j<tab.length),∀ hb:j<bs.length,(tab[j]).length=hours∧∀ e ∈ tab[j],e=f bs[j]
theorem RowsAre.push {bs:List Box} {hours:Nat} {f:Box→Int} {tab:List (List Int)} (h:RowsAre bs hours f tab) {row:List Int} (hl:row.length=hours) (hb:tab.length<bs.length) (hr:∀ e ∈ row,e=f bs[tab.length]):RowsAre bs hours f (tab++[row]) :=
 all_snoc (P:=fun j (x:List Int)=>∀ hb:j<bs.length,x.length=hours∧∀ e ∈ x,e=f bs[j]) h fun _=>⟨hl,hr⟩
theorem edge_boxes {N:Nat} {r:R} {cx:Ctx} {L:Env} {s:St} {bs:List Box} {hl hh:Int} {v1 v2 v3 ve:AV} {q:Bool} {p3 p7 z3 z7 n0:Nat} (hours:Nat) (H:List Int) (hr:loopN K9l2 rounds (call Try.prog X N) cx L [] s=r) (hN:1≤N) (hk:bs.length≤6) (hh1:1≤hours) (hh5:hours≤500) (h37:p3<p7) (hp7:p7<s.n) (hn0:n0≤p3) (hs:s.n+40000≤far) (hsm:s.m≤far)
  (hR:RowsAt s.h n0 9 (bs.map Box.cells) v1) (g3:s.h.get p3=some (.cells [.int .i64 hl,.int .i64 hh,v1,v2,v3] z3)) (g7:s.h.get p7=some (.cells [.nilslice,.nilslice,.nilslice,.nilslice,ve] z7))
  (l1:L.find 1=.int .i64 hours) (l2:L.find 2=.bool q) (l3:L.find 3=.ptr p3 0) (l7:L.find 7=.ptr p7 0) (l9:L.find 9=.int .i64 0) :
  ∃ (L1:Env) (s1:St) (ba bb bc bd:Nat) (T:Truth) (va vb vc vd:AV),r=.done (.exit 2) L1 [] s1∧(∀ t,t=1∨t=2∨t=3∨t=6∨t=7→L1.find t=L.find t)∧TruthUp s1.h s1.n s.n p7 z7 ve ba bb bc bd T va vb vc vd∧T.ice.length=bs.length∧T.hall=H ∧
   (∀ j (_:j<T.ice.length),∀ hb:j<bs.length,T.ice[j]=if q then (bs[j]).ih else (bs[j]).il)∧RowsAre bs hours (fun b=>if q then b.ml else b.mh) T.melts∧RowsAre bs hours (fun b=>if q then b.cl else b.ch) T.cold∧RowsAre bs hours (fun b=>if q then b.wl else b.wh) T.warm ∧
   (∀ c,c<s.n→c≠p7→s1.h.get c=s.h.get c)∧s.n≤s1.n∧s1.n≤s.n+3100 * bs.length∧(∀ k,k≤p7→k≤s.m→k≤s1.m)∧s1.m≤far:=by
 have hff:far=1000000000:=rfl
 obtain ⟨e,L1,s1,rfl,rfl,h⟩:=loop_of hr
  (fun i L' t=>∃ (ba bb bc bd:Nat) (T:Truth) (va vb vc vd:AV),(∀ t,t=1∨t=2∨t=3∨t=6∨t=7→L'.find t=L.find t)∧L'.find 9=.int .i64 i∧TruthUp t.h t.n s.n p7 z7 ve ba bb bc bd T va vb vc vd∧T.ice.length=i∧T.hall=H ∧
   (∀ j (_:j<T.ice.length),∀ hb:j<bs.length,T.ice[j]=if q then (bs[j]).ih else (bs[j]).il)∧RowsAre bs hours (fun b=>if q then b.ml else b.mh) T.melts∧RowsAre bs hours (fun b=>if q then b.cl else b.ch) T.cold∧RowsAre bs hours (fun b=>if q then b.wl else b.wh) T.warm ∧
   (∀ c,c<s.n→c≠p7→t.h.get c=s.h.get c)∧s.n≤t.n∧t.n≤s.n+3100 * i∧(∀ k,k≤p7→k≤s.m→k≤t.m)∧t.m≤far)
  (fun e L1 s1=>e=.exit 2∧∃ (ba bb bc bd:Nat) (T:Truth) (va vb vc vd:AV),(∀ t,t=1∨t=2∨t=3∨t=6∨t=7→L1.find t=L.find t)∧TruthUp s1.h s1.n s.n p7 z7 ve ba bb bc bd T va vb vc vd∧T.ice.length=bs.length∧T.hall=H ∧
   (∀ j (_:j<T.ice.length),∀ hb:j<bs.length,T.ice[j]=if q then (bs[j]).ih else (bs[j]).il)∧RowsAre bs hours (fun b=>if q then b.ml else b.mh) T.melts∧RowsAre bs hours (fun b=>if q then b.cl else b.ch) T.cold∧RowsAre bs hours (fun b=>if q then b.wl else b.wh) T.warm ∧
   (∀ c,c<s.n→c≠p7→s1.h.get c=s.h.get c)∧s.n≤s1.n∧s1.n≤s.n+3100 * bs.length∧(∀ k,k≤p7→k≤s.m→k≤s1.m)∧s1.m≤far)
  bs.length (by unfold rounds;omega)
  ⟨far+1,far+2,far+3,far+4,⟨[],[],[],[],H⟩,_,_,_,_,fun _ _=>rfl,l9,⟨g7,IsAt.nil _ _ _ _ _,TabUp.nil _ _ _ _,TabUp.nil _ _ _ _,TabUp.nil _ _ _ _,⟨by omega,by omega,by omega,by omega⟩,⟨.inr (by omega),.inr (by omega),.inr (by omega),.inr (by omega)⟩,⟨by omega,by omega,by omega,by omega,by omega,by omega⟩,⟨rfl,rfl,rfl⟩⟩,rfl,rfl,
   fun j h=>absurd h (Nat.not_lt_zero j),fun j h=>absurd h (Nat.not_lt_zero j),fun j h=>absurd h (Nat.not_lt_zero j),fun j h=>absurd h (Nat.not_lt_zero j),fun _ _ _=>rfl,Nat.le_refl _,Nat.le_refl _,fun _ _ h=>h,hsm⟩
  (fun i L' t hi ⟨ba,bb,bc,bd,T,va,vb,vc,vd,q0,q9,U,qT,qH,qi,qm,qc,qw,qs,qn,qk,qmm,qf⟩=>by
   have g3t:=(qs p3 (by omega) (by omega)).trans g3
   have hRt:RowsAt t.h s.n 9 (bs.map Box.cells) v1:=hR.grow (fun b hb=>qs b (by omega) (by omega)) (by omega)
   by_cases hlt:i<bs.length
   ·obtain ⟨L1,s1,ba',bb',bc',bd',x,y,w,va',vb',vc',vd',p0,p1,p9,U',⟨xl,yl,wl⟩,⟨ex,ey,ew⟩,fr,n1,k1,m1,f1⟩:=edge_box N hN cx bs hl hh v1 v2 v3 ve q p3 p7 z3 z7 s.n hours i ba bb bc bd T va vb vc vd L' t hlt (by omega) hh1 hh5 h37 hp7 qn (by omega) qf qT hRt g3t U ((q0 1 (by simp)).trans l1) ((q0 2 (by simp)).trans l2) ((q0 3 (by simp)).trans l3) ((q0 7 (by simp)).trans l7) q9
    obtain ⟨le1,le2,le3⟩:=U.len
    subst qT
    refine .inl ⟨hlt,L1,s1,p0,ba',bb',bc',bd',_,va',vb',vc',vd',fun q hq=>(p1 q hq).trans (q0 q hq),by rw [p9];rfl,U',by simp [Truth.push],qH,?_,qm.push xl (by omega) (by simp only [le1];exact ex),qc.push yl (by omega) (by simp only [le2];exact ey),qw.push wl (by omega) (by simp only [le3];exact ew),fun c hc hcp=>(fr c hc hcp).trans (qs c hc hcp),by omega,by omega,fun k hk hm=>m1 k hk (qmm k hk hm),f1⟩
    exact all_snoc (P:=fun j (x:Int)=>∀ hb:j<bs.length,x=if q then (bs[j]).ih else (bs[j]).il) qi fun _=>rfl
   ·obtain rfl:i=bs.length:=by omega
    have e0:decide ((bs.length:Int)<(bs.length:Int))=false:=by simp
    have hlen:=hR.len
    rw [List.length_map] at hlen
    have ok1:∀ t,okA (.val v1 t)=.val v1 t:=fun t=>okA_ne hR.ne
    refine .inr ⟨.exit 2,L'.set 34 (.bool false),t,by simp,?_,rfl,ba,bb,bc,bd,T,va,vb,vc,vd,fun t ht=>?_,U,qT,qH,qi,qm,qc,qw,qs,qn,qk,qmm,qf⟩
    ·simp (disch:=first|omega|(with_unfolding_all exact rfl)|(simp only[new_n,put_n,new_m];omega)|(refine put_m_le ?_;simp only[new_m];omega)) only [K9l2,K9r7,Abs.W,reduceIte,Nat.reduceEqDiff,Nat.reduceAdd,decide_true,decide_false,kLoop_def,Nat.reduceSub,List.cons_append,List.nil_append,List.append_nil,List.length_cons,List.length_nil,Env.find_set,(q0 3 (by simp)).trans l3,q9,g3t,ok1,hlen,e0,Nat.zero_add]
    ·rw [← q0 t ht]
     rcases ht with rfl | rfl | rfl | rfl | rfl<;>simp only [Env.find_set,reduceIte,Nat.reduceEqDiff])
 obtain ⟨ba,bb,bc,bd,T,va,vb,vc,vd,h⟩:=h
 exact ⟨L1,s1,ba,bb,bc,bd,T,va,vb,vc,vd,rfl,h⟩
theorem at_scal {h:Heap} {n b w tg:Nat} {rows:List (List AV)} {v:AV} (r:IsAt h n b w tg rows v):v.scalar=true:=by
 rcases r.is with ⟨_,h2⟩ | ⟨_,_,h3,_⟩
 ·subst h2;rfl
 ·subst h3;rfl
theorem tab_scal {h:Heap} {n b:Nat} {tab:List (List Int)} {v:AV} {no:Nat→Prop} (r:TabUp h n b tab v no):v.scalar=true:=by
 obtain ⟨vs,_,h2,_⟩:=r
 exact at_scal h2
theorem tabIn_edge {bs:List Box} {hours:Nat} {tab:List (List Int)} {f:Box→Int} {lo hi:Nat→Int} (h:RowsAre bs hours f tab) (hl:tab.length=bs.length) (he:∀ j (hj:j<bs.length),lo j≤f bs[j]∧f bs[j]≤hi j):TabIn tab bs.length hours lo hi :=
 ⟨hl,fun b hb=>by
  have hb':b<bs.length:=by omega
  obtain ⟨h1,h2⟩:=h b hb hb'
  have:=he b hb'
  exact ⟨h1,fun x hx=>by rw [h2 x hx];exact this⟩⟩
theorem edge_ex {N:Nat} {s:St} {r:ARes} {v1 v2 v3:AV} (c:Cellar) (ok:c.Ok) (q:Bool) (hours:Nat) (hr:call Try.prog X N (.fn 9) [.agg [.int .i64 c.hl,.int .i64 c.hh,v1,v2,v3],.int .i64 hours,.bool q] s=r) (hN:2≤N) (hC:CellarIn s.h s.n c v1 v2 v3) (hh1:1≤hours) (hh5:hours≤500) (hs:s.n+60000≤far) :
  ∃ (T:Truth) (va vb vc vd ve:AV) (t:St),r=.val (.agg [va,vb,vc,vd,ve]) t∧New s t 30000∧TruthAt t.h t.n T va vb vc vd ve∧T.In (c.edge q) hours∧va.scalar=true∧vb.scalar=true∧vc.scalar=true∧vd.scalar=true∧ve.scalar=true:=by
 obtain ⟨n,rfl⟩:∃ n,N=n+1:=⟨N - 1,by omega⟩
 have hff:far=1000000000:=rfl
 obtain ⟨v,t,e,st,T,va,vb,vc,vd,ve,rfl,hq⟩:=call_new' (n:=n) (args:=[.agg [.int .i64 c.hl,.int .i64 c.hh,v1,v2,v3],.int .i64 hours,.bool q]) (s:=s) (k:=30000)
  (Q:=fun v h m=>∃ (T:Truth) (va vb vc vd ve:AV),v=.agg [va,vb,vc,vd,ve]∧TruthAt h m T va vb vc vd ve∧T.In (c.edge q) hours∧va.scalar=true∧vb.scalar=true∧vc.scalar=true∧vd.scalar=true∧ve.scalar=true) Try.func9 rfl (fun u uh un um=>by
  rw [← uh,← un] at hC
  rw [← un]
  have sh:shapeT Try.prog 41=some (some 5):=by kernel_rfl
  obtain ⟨w,hw⟩:∃ w:St,w=(u.new (.cells [.int .i64 c.hl,.int .i64 c.hh,v1,v2,v3] (tag 31))).new (.cells [.nilslice,.nilslice,.nilslice,.nilslice,.nilslice] (tag 41)):=⟨_,rfl⟩
  have wn:w.n=u.n+2:=by rw [hw];rfl
  have wm:w.m=far:=by rw [hw];exact um
  have wg:∀ c,c<u.n→w.h.get c=u.h.get c:=fun c hc=>by rw [hw,get_new_ne _ _ _ (by simp only [new_n];omega),get_new_ne _ _ _ (by omega)]
  have w0:w.h.get u.n=some (.cells [.int .i64 c.hl,.int .i64 c.hh,v1,v2,v3] (tag 31)):=by
   rw [hw,get_new_ne _ _ _ (by simp only [new_n];omega)];exact get_new_eq _ _ _ rfl (by omega)
  have w1:w.h.get (u.n+1)=some (.cells [.nilslice,.nilslice,.nilslice,.nilslice,.nilslice] (tag 41)):=by rw [hw];exact get_new_eq _ _ _ rfl (by simp only [new_n];omega)
  have nn1:∀ o,(u.new o).n=u.n+1:=fun _=>rfl
  obtain ⟨y,hy⟩:∃ y:St,y=(w.new (.cells [.nilslice,.nilslice,.nilslice,.nilslice,.nilslice] (tag 41))).put w.n (.cells [.nilslice,.nilslice,.nilslice,.nilslice,.nilslice] (tag 41)):=⟨_,rfl⟩
  have yn:y.n=w.n+1:=by rw [hy];rfl
  have ym:y.m=min w.m w.n:=by rw [hy];simp only [St.put,minN_eq,new_m]
  have yg:∀ c,c≠w.n→y.h.get c=w.h.get c:=fun c hc=>by rw [hy,get_put_ne' _ _ _ _ hc,get_new_ne _ _ _ hc]
  have y7:y.h.get w.n=some (.cells [.nilslice,.nilslice,.nilslice,.nilslice,.nilslice] (tag 41)):=by rw [hy];exact get_put_eq _ _ _ _ rfl (by omega)
  have y3:=(yg u.n (by omega)).trans w0
  rw [enter9]
  simp (disch:=first|omega|(with_unfolding_all exact rfl)|(simp only[new_n,put_n,new_m];omega)|(refine put_m_le ?_;simp only[new_m];omega)) only [res9,K9,K9r0,Abs.W,reduceIte,Nat.reduceEqDiff,Nat.reduceAdd,decide_true,decide_false,kLoop_def,Nat.reduceSub,List.cons_append,List.nil_append,List.append_nil,List.length_cons,List.length_nil,nn1]
  rw [← hw]
  simp (disch:=first|omega|(with_unfolding_all exact rfl)|(simp only[new_n,put_n,new_m];omega)|(refine put_m_le ?_;simp only[new_m];omega)) only [K9r1,K9r2,Abs.W,reduceIte,Nat.reduceEqDiff,Nat.reduceAdd,decide_true,decide_false,kLoop_def,Nat.reduceSub,List.cons_append,List.nil_append,List.append_nil,List.length_cons,List.length_nil,Env.find_set]
  rw [← hy]
  generalize hl1:loopN _ rounds _ _ _ _ _=q1
  obtain ⟨L1,t1,be,H,ve,rfl,lk1,Hl,Hv,hbe,IH,g1,fr1,n1,k1,m1,f1⟩:=edge_hall (q:=q) hours hl1 (by omega) hh5 (show u.n<w.n by omega) (by omega) (by omega) (by omega) y3 y7 (by simp only [find_cons,Env.find_set,reduceIte,Nat.reduceEqDiff]) (by simp only [find_cons,Env.find_set,reduceIte,Nat.reduceEqDiff]) (by simp only [find_cons,Env.find_set,reduceIte,Nat.reduceEqDiff]) (by simp only [find_cons,Env.find_set,reduceIte,Nat.reduceEqDiff]) (by simp only [find_cons,Env.find_set,reduceIte,Nat.reduceEqDiff])
  have j1:L1.find 1=.int .i64 hours:=(lk1 1 (by simp)).trans (by simp only [find_cons,Env.find_set,reduceIte,Nat.reduceEqDiff])
  have j2:L1.find 2=.bool q:=(lk1 2 (by simp)).trans (by simp only [find_cons,Env.find_set,reduceIte,Nat.reduceEqDiff])
  have j3:L1.find 3=.ptr u.n 0:=(lk1 3 (by simp)).trans (by simp only [find_cons,Env.find_set,reduceIte,Nat.reduceEqDiff])
  have j6:L1.find 6=.ptr (u.n+1) 0:=(lk1 6 (by simp)).trans (by simp only [find_cons,Env.find_set,reduceIte,Nat.reduceEqDiff])
  have j7:L1.find 7=.ptr w.n 0:=(lk1 7 (by simp)).trans (by simp only [find_cons,Env.find_set,reduceIte,Nat.reduceEqDiff])
  clear lk1
  simp (disch:=first|omega|(with_unfolding_all exact rfl)|(simp only[new_n,put_n,new_m];omega)|(refine put_m_le ?_;simp only[new_m];omega)) only [K9r6,Abs.W,reduceIte,Nat.reduceEqDiff,Nat.reduceAdd,decide_true,decide_false,kLoop_def,Nat.reduceSub,List.cons_append,List.nil_append,List.append_nil,List.length_cons,List.length_nil,Env.find_set]
  generalize hl2:loopN _ rounds _ _ _ _ _=q2
  have hR1:RowsAt t1.h u.n 9 (c.boxes.map Box.cells) v1:=hC.at_.b.grow (fun b hb=>(fr1 b (by omega) (by omega)).trans ((yg b (by omega)).trans (wg b hb))) (Nat.le_refl _)
  obtain ⟨L2,t2,ba,bb,bc,bd,T,va,vb,vc,vd,rfl,lk2,U,Ti,TH,vi,vm,vcc,vw,fr2,n2,k2,m2,f2⟩:=edge_boxes (q:=q) hours H hl2 (by omega) ok.b hh1 hh5 (show u.n<w.n by omega) (by omega) (Nat.le_refl _) (by omega) f1 hR1 ((fr1 u.n (by omega) (by omega)).trans y3) g1 (by simp only [Env.find_set,j1,reduceIte,Nat.reduceEqDiff]) (by simp only [Env.find_set,j2,reduceIte,Nat.reduceEqDiff]) (by simp only [Env.find_set,j3,reduceIte,Nat.reduceEqDiff]) (by simp only [Env.find_set,j7,reduceIte,Nat.reduceEqDiff]) (by simp only [Env.find_set,reduceIte,Nat.reduceEqDiff])
  have i6:L2.find 6=.ptr (u.n+1) 0:=(lk2 6 (by simp)).trans (by simp only [Env.find_set,j6,reduceIte,Nat.reduceEqDiff])
  have i7:L2.find 7=.ptr w.n 0:=(lk2 7 (by simp)).trans (by simp only [Env.find_set,j7,reduceIte,Nat.reduceEqDiff])
  clear lk2
  have bl:=ok.b
  have g7:=U.g7
  have low:∀ c,c<w.n→t2.h.get c=w.h.get c:=fun c hc=>(fr2 c (by omega) (by omega)).trans ((fr1 c (by omega) (by omega)).trans (yg c (by omega)))
  have g6:=(low (u.n+1) (by omega)).trans w1
  have sa:=at_scal U.ice
  have sb:=tab_scal U.melts
  have sc:=tab_scal U.cold
  have sd:=tab_scal U.warm
  have se:=at_scal IH
  have sall:scalars [va,vb,vc,vd,ve]=true:=by rw [scal_cons _ _ sa,scal_cons _ _ sb,scal_cons _ _ sc,scal_cons _ _ sd,scal_cons _ _ se];rfl
  simp (disch:=first|omega|(with_unfolding_all exact rfl)|(simp only[new_n,put_n,new_m];omega)|(refine put_m_le ?_;simp only[new_m];omega)) only [K9r17,Abs.W,reduceIte,Nat.reduceEqDiff,Nat.reduceAdd,decide_true,decide_false,kLoop_def,Nat.reduceSub,List.cons_append,List.nil_append,List.append_nil,List.length_cons,List.length_nil,Env.find_set,i6,i7,g7,g6,sall,Nat.zero_add]
  obtain ⟨fin,hfin⟩:∃ fin:St,fin=t2.put (u.n+1) (.cells [va,vb,vc,vd,ve] (tag 41)):=⟨_,rfl⟩
  have finn:fin.n=t2.n:=by rw [hfin];rfl
  have fing:∀ c,c≠u.n+1→fin.h.get c=t2.h.get c:=fun c hc=>by rw [hfin,get_put_ne' _ _ _ _ hc]
  have IH2:IntsAt t2.h t2.n be H ve:=IH.mono (fun h=>fr2 be h (by omega)) (by omega)
  have hTA:TruthAt fin.h fin.n T va vb vc vd ve:=by
   have F:∀ x,x<t2.n→Rest t1.n ba bb bc bd x→fin.h.get x=t2.h.get x∧Rest t1.n ba bb bc bd x:=fun x hx r=>⟨fing x (by have:=r.1;omega),r⟩
   obtain ⟨lo1,lo2,lo3,lo4⟩:=U.lo
   refine ⟨IntsAt.at_ (U.ice.mono (fun h=>fing ba (by omega)) (by omega)),(U.melts.mono (fun h=>fing bb (by omega)) F (by omega)).tab,(U.cold.mono (fun h=>fing bc (by omega)) F (by omega)).tab,(U.warm.mono (fun h=>fing bd (by omega)) F (by omega)).tab,?_⟩
   rw [TH]
   exact (IntsAt.at_ (IH2.mono (fun h=>fing be (by omega)) (by omega)))
  have hTI:T.In (c.edge q) hours:=by
   have hlen:(c.edge q).boxes.length=c.boxes.length:=by show (c.boxes.map _).length=_;rw [List.length_map]
   obtain ⟨le1,le2,le3⟩:=U.len
   have bx:∀ j (hj:j<c.boxes.length),(c.edge q).box j=(c.boxes[j]).edge q:=fun j hj=>by rw [c.edge_box q hj,c.box_eq hj]
   refine ⟨Ti.trans hlen.symm,fun b hb=>?_,?_,?_,?_,by rw [TH];exact Hl,fun x hx=>?_⟩
   ·rw [vi b hb (by omega),bx b (by omega)]
    cases q<;>exact ⟨Int.le_refl _,Int.le_refl _⟩
   ·rw [hlen];exact tabIn_edge vm (by omega) fun j hj=>by rw [bx j hj];cases q<;>exact ⟨Int.le_refl _,Int.le_refl _⟩
   ·rw [hlen];exact tabIn_edge vcc (by omega) fun j hj=>by rw [bx j hj];cases q<;>exact ⟨Int.le_refl _,Int.le_refl _⟩
   ·rw [hlen];exact tabIn_edge vw (by omega) fun j hj=>by rw [bx j hj];cases q<;>exact ⟨Int.le_refl _,Int.le_refl _⟩
   ·rw [TH] at hx
    rw [Hv x hx]
    cases q<;>exact ⟨Int.le_refl _,Int.le_refl _⟩
  rw [← hfin]
  refine ⟨.agg [va,vb,vc,vd,ve],fin,leave_cell _ _ _ _ sh ?_,⟨fun c hc=>?_,by omega,by omega,?_,?_⟩,⟨T,va,vb,vc,vd,ve,rfl,hTA,hTI,sa,sb,sc,sd,se⟩,fun hp=>?_⟩
  ·rw [i6,load_ptr,hfin,get_put_eq _ _ _ _ rfl (by omega)]
   simp (disch:=first|omega|(with_unfolding_all exact rfl)|(simp only[new_n,put_n,new_m];omega)|(refine put_m_le ?_;simp only[new_m];omega)) only [Abs.W,reduceIte,Nat.reduceEqDiff,Nat.reduceAdd,decide_true,decide_false,kLoop_def,Nat.reduceSub,List.cons_append,List.nil_append,List.append_nil,List.length_cons,List.length_nil,okA_agg]
  ·rw [fing c (by omega),low c (by omega),wg c hc]
  ·have h1:=m1 u.n (by omega) (by omega)
   have h2:=m2 u.n (by omega) h1
   rw [hfin];simp only [St.put,minN_eq];omega
  ·rw [hfin];simp only [St.put,minN_eq];omega
  ·have hve:=plains_mem (v:=ve) hp (by simp)
   rcases IH.is with ⟨z,_⟩ | ⟨_,_,z,_⟩
   ·have:H=[]:=by simpa [ints] using z
    rw [this] at Hl
    simp at Hl
    omega
   ·rw [z] at hve;cases hve)
 exact ⟨T,va,vb,vc,vd,ve,t,hr.symm.trans e,st,hq⟩
end Go.Proofs.Ytlfalcghhckanab.walk
set_option maxRecDepth 10000
namespace Go.Proofs.Ytlfalcghhckanab.walk
open Go.Abs Go.Proofs.Ytlfalcghhckanab.code
noncomputable def endsTail:K:=kSeq (kRegion K3r13 [15,16]) (kSeq (kRegion K3r14 [17,18]) (kSeq (kRegionD K3r15 [19]) (kSeq (kRegion K3r16 [2]) kRet)))
noncomputable def endsEnd:K:=kSeq (kSeq (kRegion K3r11 [94]) (kCond (.tmp 94) (kSeq (kRegion K3r12 [2]) kRet) kSkip)) endsTail
noncomputable def endsMid:K:=kSeq (kSeq (kRegion K3r9 [90]) (kCond (.tmp 90) (kSeq (kRegion K3r10 [2]) kRet) kSkip)) endsEnd
noncomputable def endsFrom:K:=kSeq (kRegion K3r6 [10,11]) (kSeq (kRegion K3r7 [12,13]) (kSeq (kRegionD K3r8 [14]) endsMid))
noncomputable def endsRest:K:=kSeq (kRegion K3r2 [4]) (kSeq (kRegion K3r3 [5]) (kSeq (kRegionD K3r4 [6,7]) (kSeq (kRegionD K3r5 [8,9]) endsFrom)))
theorem ends_tail (n:Nat) (hn:13≤n) (cx:Ctx) (L:Env) (s:St) (c:Cellar) (ok:c.Ok) (T1 T2:Truth) (I1:T1.In (c.edge true) 51) (I2:T2.In (c.edge false) 51) (v1 v2 v3 va vb vc vd ve wa wb wc wd we:AV) (p4 p8 p9 z8 z9 b k:Nat) (hb:b<c.boxes.length) (hk:k≤50) (hs:s.n+500000≤far) (hp4:p4<s.n) (hp8:p8<s.n) (hp9:p9<s.n)
  (hC:CellarIn s.h s.n c v1 v2 v3) (A1:TruthAt s.h s.n T1 va vb vc vd ve) (A2:TruthAt s.h s.n T2 wa wb wc wd we) (g4:s.h.get p4=some (.cells [.int .i64 c.hl,.int .i64 c.hh,v1,v2,v3] (tag 31))) (g8:s.h.get p8=some (.cells [va,vb,vc,vd,ve] z8)) (g9:s.h.get p9=some (.cells [wa,wb,wc,wd,we] z9))
  (l4:L.find 4=.ptr p4 0) (l6:L.find 6=.int .i64 k) (l7:L.find 7=.int .i64 b) (l8:L.find 8=.ptr p8 0) (l9:L.find 9=.ptr p9 0) :
  ∃ s',finA Try.prog Try.f3 (endsTail (knows 15 (call Try.prog X n)) cx L [] s)=.val (.bool true) s':=by
 have hff:far=1000000000:=rfl
 have knI:∀ args s,knows 15 (call Try.prog X n) (.fn 16) args s=call Try.prog X n (.fn 16) args s:=fun _ _=>rfl
 have knC:∀ args s,knows 15 (call Try.prog X n) (.fn 17) args s=call Try.prog X n (.fn 17) args s:=fun _ _=>rfl
 have knF:∀ args s,knows 15 (call Try.prog X n) (.fn 18) args s=call Try.prog X n (.fn 18) args s:=fun _ _=>rfl
 have knS:∀ args s,knows 15 (call Try.prog X n) (.fn 12) args s=call Try.prog X n (.fn 12) args s:=fun _ _=>rfl
 have knT:∀ args s,knows 15 (call Try.prog X n) (.fn 14) args s=call Try.prog X n (.fn 14) args s:=fun _ _=>rfl
 have kn24:∀ s,knows 15 (call Try.prog X n) (.fn 15) [] s=.val (.bool true) s:=fun _=>rfl
 have ex0:∀ (a b:AV) (s:St),extA 0 s (.tup [a,b])=.val a s:=fun _ _ _=>rfl
 have ex1:∀ (a b:AV) (s:St),extA 1 s (.tup [a,b])=.val b s:=fun _ _ _=>rfl
 have J1:=I1.of_edge ok
 have J2:=I2.of_edge ok
 have F1:T1.fall c b k=c.iceHi b k:=I1.edge_fall ok hb k (by omega)
 have F2:T2.fall c b k=c.iceLo b k:=I2.edge_fall ok hb k (by omega)
 have E1:=Ice_ok (N:=n) (s:=s) (box:=(b:Int)) (hour:=(k:Int)) c ok b k hb (by omega) rfl rfl (by omega) hC (by omega)
 unfold endsTail
 simp (disch:=first|omega|(with_unfolding_all exact rfl)|(simp only[new_n,put_n,new_m];omega)|(refine put_m_le ?_;simp only[new_m];omega)) only [K3r13,Abs.W,reduceIte,Nat.reduceEqDiff,Nat.reduceAdd,decide_true,decide_false,kLoop_def,Nat.reduceSub,List.cons_append,List.nil_append,List.append_nil,List.length_cons,List.length_nil,Env.find_set,l4,l6,l7,g4,knI,E1,ex0,ex1,Nat.zero_add]
 generalize hu1:St.put (St.new s _) s.n _=u1
 have u1n:u1.n=s.n+1:=by rw [← hu1];rfl
 have u1g:∀ c,c<s.n→u1.h.get c=s.h.get c:=fun c hc=>by rw [← hu1,get_put_ne' _ _ _ _ (by omega),get_new_ne _ _ _ (by omega)]
 have u1x:u1.h.get s.n=some (.cells [.int .i64 (c.iceLo b k),.int .i64 (c.iceHi b k)] (tag 26)):=by rw [← hu1];exact get_put_eq _ _ _ _ rfl (by omega)
 clear hu1
 have g41:=(u1g p4 hp4).trans g4
 have g81:=(u1g p8 hp8).trans g8
 have g91:=(u1g p9 hp9).trans g9
 have hC1:=hC.grow u1g (by omega:s.n≤u1.n)
 have A11:=A1.grow u1g (by omega:s.n≤u1.n)
 have A21:=A2.grow u1g (by omega:s.n≤u1.n)
 have E2:=Cold_ok (N:=n) (s:=u1) (box:=(b:Int)) (hour:=(k:Int)) c ok b k hb (by omega) rfl rfl (by omega) hC1 (by omega)
 obtain ⟨V,hV⟩:∃ V:Int,V=(if 0<c.iceLo b k then 1 else if 0<c.iceHi b k then 3 else 2):=⟨_,rfl⟩
 rw [← hV] at E2
 simp (disch:=first|omega|(with_unfolding_all exact rfl)|(simp only[new_n,put_n,new_m];omega)|(refine put_m_le ?_;simp only[new_m];omega)) only [K3r14,Abs.W,reduceIte,Nat.reduceEqDiff,Nat.reduceAdd,decide_true,decide_false,kLoop_def,Nat.reduceSub,List.cons_append,List.nil_append,List.append_nil,List.length_cons,List.length_nil,Env.find_set,l4,l6,l7,g41,knC,E2,ex0,ex1,Nat.zero_add]
 have i1:b<T1.ice.length:=by rw [J1.il];exact hb
 have i2:b<T2.ice.length:=by rw [J2.il];exact hb
 have m1:b<T1.melts.length:=by rw [J1.melts.len];exact hb
 have m2:b<T2.melts.length:=by rw [J2.melts.len];exact hb
 obtain ⟨bi,pi,ci,szi,x1,x2,x3,x4⟩:=ints_at A11.ice i1
 obtain ⟨bj,pj,cj,szj,y1,y2,y3,y4⟩:=ints_at A21.ice i2
 obtain ⟨bm,pm,cm,szm,vr,xm1,xm2,xm3,xm4,xm5,xm6⟩:=A11.melts.at_ b m1
 obtain ⟨bq,pq,cq,szq,wr,ym1,ym2,ym3,ym4,ym5,ym6⟩:=A21.melts.at_ b m2
 have oa:∀ t,okA (.val va t)=.val va t:=fun t=>okA_ne A11.ice.ne
 have oc:∀ t,okA (.val wa t)=.val wa t:=fun t=>okA_ne A21.ice.ne
 have ob:=A11.melts.ok
 have od:=A21.melts.ok
 have E3:∀ m,call Try.prog X n (.fn 18) [.agg [.int .i64 c.hl,.int .i64 c.hh,v1,v2,v3],.int .i64 b,.int .i64 (T1.ice[b]),vr,.int .i64 k] ⟨u1.h,u1.n,m⟩=.val (.int .i64 (c.iceHi b k)) ⟨u1.h,u1.n,m⟩:=fun m=>by
  rw [← F1];exact fallT_ok n (by omega) c ok T1 51 J1 v1 v2 v3 vr b k b (T1.ice[b]) k ⟨u1.h,u1.n,m⟩ hC1 hb xm6 rfl (getD_eq _ i1).symm rfl (by omega) (by omega) (by show u1.n+200000≤far;omega)
 have E4:∀ m,call Try.prog X n (.fn 18) [.agg [.int .i64 c.hl,.int .i64 c.hh,v1,v2,v3],.int .i64 b,.int .i64 (T2.ice[b]),wr,.int .i64 k] ⟨u1.h,u1.n,m⟩=.val (.int .i64 (c.iceLo b k)) ⟨u1.h,u1.n,m⟩:=fun m=>by
  rw [← F2];exact fallT_ok n (by omega) c ok T2 51 J2 v1 v2 v3 wr b k b (T2.ice[b]) k ⟨u1.h,u1.n,m⟩ hC1 hb ym6 rfl (getD_eq _ i2).symm rfl (by omega) (by omega) (by show u1.n+200000≤far;omega)
 have E5:∀ m,call Try.prog X n (.fn 12) [.int .i64 (c.iceLo b k),.int .i64 (c.iceHi b k)] ⟨u1.h,u1.n,m⟩=.val (.agg [.int .i64 (c.iceLo b k),.int .i64 (c.iceHi b k)]) ⟨u1.h,u1.n,m⟩:=fun m=>spanE_ok n (by omega) _ _ _ (by show u1.n+10≤far;omega)
 simp (disch:=first|omega|(with_unfolding_all exact rfl)|(simp only[new_n,put_n,new_m];omega)|(refine put_m_le ?_;simp only[new_m];omega)) only [K3r15,Abs.W,reduceIte,Nat.reduceEqDiff,Nat.reduceAdd,decide_true,decide_false,kLoop_def,Nat.reduceSub,List.cons_append,List.nil_append,List.append_nil,List.length_cons,List.length_nil,thenT_turn,Env.find_set,l4,l6,l7,l8,l9,g41,g81,g91,knF,knS,oa,ob,oc,od,x2,x3,x4,y2,y3,y4,xm2,xm3,xm4,xm5,ym2,ym3,ym4,ym5,E3,E4,E5,Nat.zero_add]
 rw [endT_kept (by simp only [keptAll_cons,keptAll_nil,find_cons,Env.find_set,l4,keptV_ptr,g41,g81,x3,xm3,sameO_cells,reduceIte,Nat.reduceEqDiff,Bool.and_self])]
 simp (disch:=first|omega|(with_unfolding_all exact rfl)|(simp only[new_n,put_n,new_m];omega)|(refine put_m_le ?_;simp only[new_m];omega)) only [Abs.W,reduceIte,Nat.reduceEqDiff,Nat.reduceAdd,decide_true,decide_false,kLoop_def,Nat.reduceSub,List.cons_append,List.nil_append,List.append_nil,List.length_cons,List.length_nil,Env.find_set,endO_nil,regD_ok]
 generalize hu2:St.put (St.new _ _) _ _=u2
 have u2n:u2.n=u1.n+1:=by rw [← hu2];rfl
 have u2x:u2.h.get s.n=some (.cells [.int .i64 (c.iceLo b k),.int .i64 (c.iceHi b k)] (tag 26)):=by rw [← hu2,get_put_ne' _ _ _ _ (by omega),get_new_ne _ _ _ (by show s.n≠u1.n;omega)];exact u1x
 have u2y:u2.h.get u1.n=some (.cells [.int .i64 (c.iceLo b k),.int .i64 (c.iceHi b k)] (tag 26)):=by rw [← hu2];exact get_put_eq _ _ _ _ rfl (by omega)
 clear hu2
 have E6:∀ q w,decide (0<c.iceLo b k)=q→decide (0<c.iceHi b k)=w→call Try.prog X n (.fn 14) [.bool q,.bool w] u2=.val (.int .i64 V) u2:=fun q w hq hw=>by
  rw [told_ok n (by omega) q w u2 (by omega),← hq,← hw,hV]
  simp only [decide_eq_true_eq]
 have E7:=E6 _ _ rfl rfl
 clear E6
 have d0:decide ((0:Int)=0)=true:=rfl
 have d1:decide (V=V)=true:=decide_eq_true rfl
 have q16_0:=fun cl L s=>congrFun (congrFun (congrFun K3r16.eq_1 cl) L) s
 have q16_4:=fun cl L s=>congrFun (congrFun (congrFun K3r16s4.eq_1 cl) L) s
 have q16_5:=fun cl L s=>congrFun (congrFun (congrFun K3r16s5.eq_1 cl) L) s
 have q16_8:=fun cl L s=>congrFun (congrFun (congrFun K3r16s8.eq_1 cl) L) s
 have q16_9:=fun cl L s=>congrFun (congrFun (congrFun K3r16s9.eq_1 cl) L) s
 have q16_10:=fun cl L s=>congrFun (congrFun (congrFun K3r16s10.eq_1 cl) L) s
 have q16_13:=fun cl L s=>congrFun (congrFun (congrFun K3r16s13.eq_1 cl) L) s
 have q16_14:=fun cl L s=>congrFun (congrFun (congrFun K3r16s14.eq_1 cl) L) s
 have q16_15:=fun cl L s=>congrFun (congrFun (congrFun K3r16s15.eq_1 cl) L) s
 have q16_16:=fun cl L s=>congrFun (congrFun (congrFun K3r16s16.eq_1 cl) L) s
 have q16_17:=fun cl L s=>congrFun (congrFun (congrFun K3r16s17.eq_1 cl) L) s
 have q16_18:=fun cl L s=>congrFun (congrFun (congrFun K3r16s18.eq_1 cl) L) s
 have q16_19:=fun cl L s=>congrFun (congrFun (congrFun K3r16s19.eq_1 cl) L) s
 have q16_20:=fun cl L s=>congrFun (congrFun (congrFun K3r16s20.eq_1 cl) L) s
 have q16_21:=fun cl L s=>congrFun (congrFun (congrFun K3r16s21.eq_1 cl) L) s
 have q16_24:=fun cl L s=>congrFun (congrFun (congrFun K3r16s24.eq_1 cl) L) s
 have eqv:∀ s,eqlA (.row [(0,none,.int),(1,none,.int)]) false s (.agg [.int .i64 (c.iceLo b k),.int .i64 (c.iceHi b k)]) (.agg [.int .i64 (c.iceLo b k),.int .i64 (c.iceHi b k)])=.val (.bool true) s:=fun s=>eqlRow false _ _ s
 simp (config:={ maxSteps:=2000000 }) (disch:=first|omega|(with_unfolding_all exact rfl)|(simp only[new_n,put_n,new_m];omega)|(refine put_m_le ?_;simp only[new_m];omega)) only [q16_0,q16_4,q16_5,q16_8,q16_9,q16_10,q16_13,q16_14,q16_15,q16_16,q16_17,q16_18,q16_19,q16_20,q16_21,q16_24,res3,kEql_def,Abs.W,reduceIte,Nat.reduceEqDiff,Nat.reduceAdd,decide_true,decide_false,kLoop_def,Nat.reduceSub,List.cons_append,List.nil_append,List.append_nil,List.length_cons,List.length_nil,Env.find_set,u2x,u2y,d0,d1,eqv,knT,E7,kn24,Nat.zero_add]
 exact ⟨_,rfl⟩
end Go.Proofs.Ytlfalcghhckanab.walk
set_option maxRecDepth 10000
namespace Go.Proofs.Ytlfalcghhckanab.walk
open Go.Abs Go.Proofs.Ytlfalcghhckanab.code
theorem HourOf_ex {N d:Nat} {s:St} {r:ARes} {born keeps:Int} {v4:AV} (hr:call Try.prog X N (.fn 7) [.ptr d 0,.agg [.int .i64 born,.int .i64 keeps,v4]] s=r) (hN:6≤N) (hd:Die d s.h) (hdn:d<s.n) (hs:s.n+1000≤far) (hb:0≤born∧born≤240) :
  ∃ (h:Int) (t:St),r=.val (.int .i64 h) t∧Stir d s t 10∧Die d t.h∧born≤h∧h≤240:=by
 obtain ⟨n,rfl⟩:∃ n,N=n+1:=⟨N - 1,by omega⟩
 have hff:far=1000000000:=rfl
 obtain ⟨v,t,e,st,⟨h,rfl,h0,h1⟩,hd'⟩:=call_stir_plain (n:=n) (args:=[.ptr d 0,.agg [.int .i64 born,.int .i64 keeps,v4]]) (d:=d) (k:=10) (Q:=fun v=>∃ h:Int,v=.int .i64 h∧born≤h∧h≤240) (R:=Die d) Try.func7 hd (fun u uh un um=>by
  rw [← uh] at hd
  rw [enter7]
  simp (disch:=first|omega|(with_unfolding_all exact rfl)|(simp only[new_n,put_n,new_m];omega)|(refine put_m_le ?_;simp only[new_m];omega)) only [res7,K7,K7r0,Abs.W,reduceIte,Nat.reduceEqDiff,Nat.reduceAdd,decide_true,decide_false,kLoop_def,Nat.reduceSub,List.cons_append,List.nil_append,List.append_nil,List.length_cons,List.length_nil]
  obtain ⟨w,hw⟩:∃ w:St,w=u.new (.cells [.int .i64 born,.int .i64 keeps,v4] (tag 35)):=⟨_,rfl⟩
  rw [← hw]
  have wn:w.n=u.n+1:=by rw [hw];rfl
  have wm:w.m=far:=by rw [hw];exact um
  have wg:∀ c,c<u.n→w.h.get c=u.h.get c:=fun c hc=>by rw [hw,get_new_ne _ _ _ (by omega)]
  have w0:w.h.get u.n=some (.cells [.int .i64 born,.int .i64 keeps,v4] (tag 35)):=by rw [hw];exact get_new_eq _ _ _ rfl (by omega)
  have dw:Die d w.h:=by obtain ⟨f,hg⟩:=hd;exact ⟨f,by rw [wg _ (by omega)];exact hg⟩
  simp (disch:=first|omega|(with_unfolding_all exact rfl)|(simp only[new_n,put_n,new_m];omega)|(refine put_m_le ?_;simp only[new_m];omega)) only [K7r1,Abs.W,reduceIte,Nat.reduceEqDiff,Nat.reduceAdd,decide_true,decide_false,kLoop_def,Nat.reduceSub,List.cons_append,List.nil_append,List.append_nil,List.length_cons,List.length_nil,Env.find_set,w0]
  obtain ⟨y,hy⟩:∃ y:St,y=w.new (.cells [.int .i64 6,.int .i64 30,.int .i64 60] 0):=⟨_,rfl⟩
  rw [← hy]
  have yn:y.n=w.n+1:=by rw [hy];rfl
  have ym:y.m=far:=by rw [hy];exact wm
  have yg:∀ c,c<w.n→y.h.get c=w.h.get c:=fun c hc=>by rw [hy,get_new_ne _ _ _ (by omega)]
  have y0:=(yg u.n (by omega)).trans w0
  have y1:y.h.get w.n=some (.cells [.int .i64 6,.int .i64 30,.int .i64 60] 0):=by rw [hy];exact get_new_eq _ _ _ rfl (by omega)
  have dy:Die d y.h:=by obtain ⟨f,hg⟩:=dw;exact ⟨f,by rw [yg _ (by omega)];exact hg⟩
  generalize hc1:call _ _ _ (.fn 22) _ _=r1
  obtain ⟨x1,t1,rfl,st1,d1,m1⟩:=one_ex [6,30,60] hc1 (by omega) dy (by show d<y.n;omega) (by show y.n+200≤far;omega) y1 (by show w.n<y.n;omega) (by omega) rfl (by omega) (by omega)
  have x1r:x1=6∨x1=30∨x1=60:=by simpa using m1
  have n1:y.n≤t1.n:=st1.n
  have k1:t1.n≤y.n:=st1.le
  have p1:t1.h.get u.n=some (.cells [.int .i64 born,.int .i64 keeps,v4] (tag 35)):=(st1.same u.n (by show u.n<y.n;omega) (by omega)).trans y0
  simp (disch:=first|omega|(with_unfolding_all exact rfl)|(simp only[new_n,put_n,new_m];omega)|(refine put_m_le ?_;simp only[new_m];omega)) only [K7r1,Abs.W,reduceIte,Nat.reduceEqDiff,Nat.reduceAdd,decide_true,decide_false,kLoop_def,Nat.reduceSub,List.cons_append,List.nil_append,List.append_nil,List.length_cons,List.length_nil,Env.find_set,thenT_turn]
  generalize hc2:call _ _ _ (.fn 8) _ _=r2
  obtain ⟨x2,t2,rfl,st2,d2,x20,x21⟩:=cast_ex hc2 (by omega) d1 (by show d<t1.n;omega) (by show t1.n+100≤far;omega) (by omega)
  have n2:t1.n≤t2.n:=st2.n
  have k2:t2.n≤t1.n:=st2.le
  have p2:t2.h.get u.n=some (.cells [.int .i64 born,.int .i64 keeps,v4] (tag 35)):=(st2.same u.n (by show u.n<t1.n;omega) (by omega)).trans p1
  have a2:∀ s,aAdd s .i64 born x2=.val (.int .i64 (born+x2)) s:=fun s=>aAdd_i64 s _ _ (by omega)
  simp (disch:=first|omega|(with_unfolding_all exact rfl)|(simp only[new_n,put_n,new_m];omega)|(refine put_m_le ?_;simp only[new_m];omega)) only [K7r1,Abs.W,reduceIte,Nat.reduceEqDiff,Nat.reduceAdd,decide_true,decide_false,kLoop_def,Nat.reduceSub,List.cons_append,List.nil_append,List.append_nil,List.length_cons,List.length_nil,Env.find_set,thenT_turn,a2,kFold_def,foldA_nil,foldA_cons,minA_i64]
  have kp:∀ (a b:Heap) (M:Env),M.find 5=.ptr u.n 0→a.get u.n=some (.cells [.int .i64 born,.int .i64 keeps,v4] (tag 35))→b.get u.n=some (.cells [.int .i64 born,.int .i64 keeps,v4] (tag 35))→keptAll a b M [5]=true:=fun a b M h1 h2 h3=>by
   simp only [keptAll_cons,keptAll_nil,h1,keptV_ptr,h2,h3,sameO_cells,Bool.and_self]
  rw [endT_kept (s:=⟨t1.h,t1.n,minN y.m t1.m⟩) (kp _ _ _ (by simp only [find_cons,reduceIte,Nat.reduceEqDiff]) p1 p2),endT_kept (kp _ _ _ (by simp only [find_cons,reduceIte,Nat.reduceEqDiff]) y0 p1)]
  simp (disch:=first|omega|(with_unfolding_all exact rfl)|(simp only[new_n,put_n,new_m];omega)|(refine put_m_le ?_;simp only[new_m];omega)) only [res7,Abs.W,reduceIte,Nat.reduceEqDiff,Nat.reduceAdd,decide_true,decide_false,kLoop_def,Nat.reduceSub,List.cons_append,List.nil_append,List.append_nil,List.length_cons,List.length_nil,Env.find_set,endO_nil,regD_ok]
  have h1:=st1.m (show d≤far by omega)
  have h2:=st2.m (show d≤far by omega)
  refine ⟨_,_,rfl,⟨fun c hc hcd=>?_,?_,?_,fun _=>?_,?_⟩,rfl,⟨_,rfl,by omega,by omega⟩,d2⟩
  ·show t2.h.get c=_
   rw [st2.same c (by show c<t1.n;omega) hcd,st1.same c (by show c<y.n;omega) hcd]
   show y.h.get c=_
   rw [yg c (by omega),wg c hc]
  ·show u.n≤t2.n;omega
  ·show t2.n≤u.n+10;omega
  ·show d≤minN (minN y.m t1.m) t2.m;rw [minN_eq,minN_eq];omega
  ·show minN (minN y.m t1.m) t2.m≤u.m;rw [minN_eq,minN_eq];omega) (by omega)
 exact ⟨h,t,hr.symm.trans e,st,hd',h0,h1⟩
end Go.Proofs.Ytlfalcghhckanab.walk
set_option maxRecDepth 10000
namespace Go.Proofs.Ytlfalcghhckanab.walk
open Go.Abs Go.Proofs.Ytlfalcghhckanab.code
theorem ends_from (n:Nat) (hn:13≤n) (cx:Ctx) (L:Env) (s:St) (c:Cellar) (ok:c.Ok) (l:Lot) (okl:l.Ok c.boxes.length) (T1 T2:Truth) (I1:T1.In (c.edge true) 51) (I2:T2.In (c.edge false) 51) (v1 v2 v3 v4 va vb vc vd ve wa wb wc wd we:AV) (p4 p5 p8 p9 z8 z9 k m:Nat) (box:Int) (hb0:0≤box) (hb1:0<c.boxes.length→box<c.boxes.length) (hk:k≤50) (hm:(k:Int)=l.born+m) (hs:s.n+600000≤far) (hp4:p4<s.n) (hp5:p5<s.n) (hp8:p8<s.n) (hp9:p9<s.n) (s4:v4.scalar=true)
  (hC:CellarIn s.h s.n c v1 v2 v3) (len1:∀ s,lenSlA s v1=.val (.int .i64 c.boxes.length) s) (ok1:∀ t,okA (.val v1 t)=.val v1 t) (hR:RowsAt s.h s.n 3 (l.stays.map Stay.cells) v4) (A1:TruthAt s.h s.n T1 va vb vc vd ve) (A2:TruthAt s.h s.n T2 wa wb wc wd we) (g4:s.h.get p4=some (.cells [.int .i64 c.hl,.int .i64 c.hh,v1,v2,v3] (tag 31))) (g5:s.h.get p5=some (.cells [.int .i64 l.born,.int .i64 l.keeps,v4] (tag 35))) (g8:s.h.get p8=some (.cells [va,vb,vc,vd,ve] z8)) (g9:s.h.get p9=some (.cells [wa,wb,wc,wd,we] z9))
  (l4:L.find 4=.ptr p4 0) (l5:L.find 5=.ptr p5 0) (l6:L.find 6=.int .i64 k) (l7:L.find 7=.int .i64 box) (l8:L.find 8=.ptr p8 0) (l9:L.find 9=.ptr p9 0) :
  ∃ s',finA Try.prog Try.f3 (endsFrom (knows 15 (call Try.prog X n)) cx L [] s)=.val (.bool true) s':=by
 have hff:far=1000000000:=rfl
 have knL:∀ args s,knows 15 (call Try.prog X n) (.fn 10) args s=call Try.prog X n (.fn 10) args s:=fun _ _=>rfl
 have knF:∀ args s,knows 15 (call Try.prog X n) (.fn 11) args s=call Try.prog X n (.fn 11) args s:=fun _ _=>rfl
 have knY:∀ args s,knows 15 (call Try.prog X n) (.fn 13) args s=call Try.prog X n (.fn 13) args s:=fun _ _=>rfl
 have knS:∀ args s,knows 15 (call Try.prog X n) (.fn 12) args s=call Try.prog X n (.fn 12) args s:=fun _ _=>rfl
 have knT:∀ args s,knows 15 (call Try.prog X n) (.fn 14) args s=call Try.prog X n (.fn 14) args s:=fun _ _=>rfl
 have kn24:∀ s,knows 15 (call Try.prog X n) (.fn 15) [] s=.val (.bool true) s:=fun _=>rfl
 have ex0:∀ (a b:AV) (s:St),extA 0 s (.tup [a,b])=.val a s:=fun _ _ _=>rfl
 have ex1:∀ (a b:AV) (s:St),extA 1 s (.tup [a,b])=.val b s:=fun _ _ _=>rfl
 have b0:=okl.b0
 have J1:=I1.of_edge ok
 have J2:=I2.of_edge ok
 have F1:T1.lost c l m=(c.lost l m).1:=I1.edge ok l okl m (by omega) (by omega)
 have F2:T2.lost c l m=(c.lost l m).2:=I2.edge ok l okl m (by omega) (by omega)
 have E1:=Lost_ok (N:=n) (s:=s) (hour:=(k:Int)) c ok l okl m (by omega) hC hR s4 hm (by omega) (by omega)
 unfold endsFrom
 simp (disch:=first|omega|(with_unfolding_all exact rfl)|(simp only[new_n,put_n,new_m];omega)|(refine put_m_le ?_;simp only[new_m];omega)) only [K3r6,Abs.W,reduceIte,Nat.reduceEqDiff,Nat.reduceAdd,decide_true,decide_false,kLoop_def,Nat.reduceSub,List.cons_append,List.nil_append,List.append_nil,List.length_cons,List.length_nil,Env.find_set,l4,l5,l6,g4,g5,knL,E1,ex0,ex1,Nat.zero_add]
 generalize hu1:St.put (St.new s _) s.n _=u1
 have u1n:u1.n=s.n+1:=by rw [← hu1];rfl
 have u1g:∀ c,c<s.n→u1.h.get c=s.h.get c:=fun c hc=>by rw [← hu1,get_put_ne' _ _ _ _ (by omega),get_new_ne _ _ _ (by omega)]
 have u1x:u1.h.get s.n=some (.cells [.int .i64 (c.lost l m).1,.int .i64 (c.lost l m).2] (tag 26)):=by rw [← hu1];exact get_put_eq _ _ _ _ rfl (by omega)
 clear hu1
 have g41:=(u1g p4 hp4).trans g4
 have g51:=(u1g p5 hp5).trans g5
 have g81:=(u1g p8 hp8).trans g8
 have g91:=(u1g p9 hp9).trans g9
 have hC1:=hC.grow u1g (by omega:s.n≤u1.n)
 have hR1:=hR.grow u1g (by omega:s.n≤u1.n)
 have A11:=A1.grow u1g (by omega:s.n≤u1.n)
 have A21:=A2.grow u1g (by omega:s.n≤u1.n)
 have E2:=Fresh_ok (N:=n) (s:=u1) (hour:=(k:Int)) c ok l okl m (by omega) hC1 hR1 s4 hm (by omega) (by omega)
 obtain ⟨V,hV⟩:∃ V:Int,V=(if (c.lost l m).2≤l.keeps then 1 else if (c.lost l m).1≤l.keeps then 3 else 2):=⟨_,rfl⟩
 rw [← hV] at E2
 simp (disch:=first|omega|(with_unfolding_all exact rfl)|(simp only[new_n,put_n,new_m];omega)|(refine put_m_le ?_;simp only[new_m];omega)) only [K3r7,Abs.W,reduceIte,Nat.reduceEqDiff,Nat.reduceAdd,decide_true,decide_false,kLoop_def,Nat.reduceSub,List.cons_append,List.nil_append,List.append_nil,List.length_cons,List.length_nil,Env.find_set,l4,l5,l6,g41,g51,knF,E2,ex0,ex1,Nat.zero_add]
 have E3:∀ x,call Try.prog X n (.fn 13) [.agg [.int .i64 c.hl,.int .i64 c.hh,v1,v2,v3],.agg [.int .i64 l.born,.int .i64 l.keeps,v4],.agg [va,vb,vc,vd,ve],.int .i64 k] ⟨u1.h,u1.n,x⟩=.val (.int .i64 (c.lost l m).1) ⟨u1.h,u1.n,x⟩:=fun x=>by
  rw [← F1];exact truly_ok n (by omega) c ok l okl T1 51 J1 (by omega) v1 v2 v3 v4 va vb vc vd ve m k ⟨u1.h,u1.n,x⟩ (by show u1.n+400000≤far;omega) hC1 hR1 A11 hm (by omega)
 have E4:∀ x,call Try.prog X n (.fn 13) [.agg [.int .i64 c.hl,.int .i64 c.hh,v1,v2,v3],.agg [.int .i64 l.born,.int .i64 l.keeps,v4],.agg [wa,wb,wc,wd,we],.int .i64 k] ⟨u1.h,u1.n,x⟩=.val (.int .i64 (c.lost l m).2) ⟨u1.h,u1.n,x⟩:=fun x=>by
  rw [← F2];exact truly_ok n (by omega) c ok l okl T2 51 J2 (by omega) v1 v2 v3 v4 wa wb wc wd we m k ⟨u1.h,u1.n,x⟩ (by show u1.n+400000≤far;omega) hC1 hR1 A21 hm (by omega)
 have E5:∀ x,call Try.prog X n (.fn 12) [.int .i64 (c.lost l m).1,.int .i64 (c.lost l m).2] ⟨u1.h,u1.n,x⟩=.val (.agg [.int .i64 (c.lost l m).1,.int .i64 (c.lost l m).2]) ⟨u1.h,u1.n,x⟩:=fun x=>spanE_ok n (by omega) _ _ _ (by show u1.n+10≤far;omega)
 simp (disch:=first|omega|(with_unfolding_all exact rfl)|(simp only[new_n,put_n,new_m];omega)|(refine put_m_le ?_;simp only[new_m];omega)) only [K3r8,Abs.W,reduceIte,Nat.reduceEqDiff,Nat.reduceAdd,decide_true,decide_false,kLoop_def,Nat.reduceSub,List.cons_append,List.nil_append,List.append_nil,List.length_cons,List.length_nil,thenT_turn,Env.find_set,l4,l5,l6,l8,l9,g41,g51,g81,g91,knY,knS,E3,E4,E5,Nat.zero_add]
 rw [endT_kept (by simp only [keptAll_cons,keptAll_nil,find_cons,Env.find_set,l4,l5,l9,keptV_ptr,g41,g51,g91,sameO_cells,reduceIte,Nat.reduceEqDiff,Bool.and_self])]
 simp (disch:=first|omega|(with_unfolding_all exact rfl)|(simp only[new_n,put_n,new_m];omega)|(refine put_m_le ?_;simp only[new_m];omega)) only [Abs.W,reduceIte,Nat.reduceEqDiff,Nat.reduceAdd,decide_true,decide_false,kLoop_def,Nat.reduceSub,List.cons_append,List.nil_append,List.append_nil,List.length_cons,List.length_nil,Env.find_set,endO_nil,regD_ok]
 generalize hu2:St.put (St.new _ _) _ _=u2
 have u2n:u2.n=u1.n+1:=by rw [← hu2];rfl
 have u2g:∀ c,c<u1.n→u2.h.get c=u1.h.get c:=fun c hc=>by rw [← hu2,get_put_ne' _ _ _ _ (by omega),get_new_ne _ _ _ (by show c≠u1.n;omega)]
 have u2x:=(u2g s.n (by omega)).trans u1x
 have u2y:u2.h.get u1.n=some (.cells [.int .i64 (c.lost l m).1,.int .i64 (c.lost l m).2] (tag 26)):=by rw [← hu2];exact get_put_eq _ _ _ _ rfl (by omega)
 clear hu2
 have g42:=(u2g p4 (by omega)).trans g41
 have g52:=(u2g p5 (by omega)).trans g51
 have g82:=(u2g p8 (by omega)).trans g81
 have g92:=(u2g p9 (by omega)).trans g91
 have E6:∀ q w,decide ((c.lost l m).2≤l.keeps)=q→decide ((c.lost l m).1≤l.keeps)=w→call Try.prog X n (.fn 14) [.bool q,.bool w] u2=.val (.int .i64 V) u2:=fun q w hq hw=>by
  rw [told_ok n (by omega) q w u2 (by omega),← hq,← hw,hV]
  simp only [decide_eq_true_eq]
 have E7:=E6 _ _ rfl rfl
 clear E6 E1 E2 E3 E4 E5
 have d0:decide ((0:Int)=0)=true:=rfl
 have d1:decide (V=V)=true:=decide_eq_true rfl
 have q9_0:=fun cl L s=>congrFun (congrFun (congrFun K3r9.eq_1 cl) L) s
 have q9_4:=fun cl L s=>congrFun (congrFun (congrFun K3r9s4.eq_1 cl) L) s
 have q9_5:=fun cl L s=>congrFun (congrFun (congrFun K3r9s5.eq_1 cl) L) s
 have q9_8:=fun cl L s=>congrFun (congrFun (congrFun K3r9s8.eq_1 cl) L) s
 have q9_9:=fun cl L s=>congrFun (congrFun (congrFun K3r9s9.eq_1 cl) L) s
 have q9_10:=fun cl L s=>congrFun (congrFun (congrFun K3r9s10.eq_1 cl) L) s
 have q9_13:=fun cl L s=>congrFun (congrFun (congrFun K3r9s13.eq_1 cl) L) s
 have q9_14:=fun cl L s=>congrFun (congrFun (congrFun K3r9s14.eq_1 cl) L) s
 have q9_15:=fun cl L s=>congrFun (congrFun (congrFun K3r9s15.eq_1 cl) L) s
 have q9_16:=fun cl L s=>congrFun (congrFun (congrFun K3r9s16.eq_1 cl) L) s
 have q9_17:=fun cl L s=>congrFun (congrFun (congrFun K3r9s17.eq_1 cl) L) s
 have q9_18:=fun cl L s=>congrFun (congrFun (congrFun K3r9s18.eq_1 cl) L) s
 have q9_19:=fun cl L s=>congrFun (congrFun (congrFun K3r9s19.eq_1 cl) L) s
 have q9_20:=fun cl L s=>congrFun (congrFun (congrFun K3r9s20.eq_1 cl) L) s
 have q9_21:=fun cl L s=>congrFun (congrFun (congrFun K3r9s21.eq_1 cl) L) s
 have q9_22:=fun cl L s=>congrFun (congrFun (congrFun K3r9s22.eq_1 cl) L) s
 have q9_23:=fun cl L s=>congrFun (congrFun (congrFun K3r9s23.eq_1 cl) L) s
 have q9_24:=fun cl L s=>congrFun (congrFun (congrFun K3r9s24.eq_1 cl) L) s
 have q9_25:=fun cl L s=>congrFun (congrFun (congrFun K3r9s25.eq_1 cl) L) s
 have eqv:∀ s,eqlA (.row [(0,none,.int),(1,none,.int)]) true s (.agg [.int .i64 (c.lost l m).1,.int .i64 (c.lost l m).2]) (.agg [.int .i64 (c.lost l m).1,.int .i64 (c.lost l m).2])=.val (.bool false) s:=fun s=>eqlRow true _ _ s
 have hC2:=hC1.grow u2g (by omega:u1.n≤u2.n)
 have A12:=A11.grow u2g (by omega:u1.n≤u2.n)
 have A22:=A21.grow u2g (by omega:u1.n≤u2.n)
 unfold endsMid
 have fin:∀ M:Env,M.find 4=.ptr p4 0→M.find 6=.int .i64 k→M.find 7=.int .i64 box→M.find 8=.ptr p8 0→M.find 9=.ptr p9 0 →
   ∃ s',finA Try.prog Try.f3 (endsEnd (knows 15 (call Try.prog X n)) cx M [] u2)=.val (.bool true) s':=fun M M4 M6 M7 M8 M9=>by
  unfold endsEnd
  by_cases hb:c.boxes.length=0
  ·have e0:decide ((c.boxes.length:Int)=0)=true:=decide_eq_true (by omega)
   simp (disch:=first|omega|(with_unfolding_all exact rfl)|(simp only[new_n,put_n,new_m];omega)|(refine put_m_le ?_;simp only[new_m];omega)) only [K3r11,K3r12,res3,Abs.W,reduceIte,Nat.reduceEqDiff,Nat.reduceAdd,decide_true,decide_false,kLoop_def,Nat.reduceSub,List.cons_append,List.nil_append,List.append_nil,List.length_cons,List.length_nil,Env.find_set,M4,g42,ok1,len1,e0,kn24,Nat.zero_add]
   exact ⟨_,rfl⟩
  ·have e0:decide ((c.boxes.length:Int)=0)=false:=decide_eq_false (by omega)
   have hb2:=hb1 (by omega)
   obtain ⟨b,rfl⟩:∃ b:Nat,box=b:=⟨box.toNat,by omega⟩
   obtain ⟨s',hs'⟩:=ends_tail n hn cx (M.set 94 (.bool false)) u2 c ok T1 T2 I1 I2 v1 v2 v3 va vb vc vd ve wa wb wc wd we p4 p8 p9 z8 z9 b k (by omega) hk (by omega) (by omega) (by omega) (by omega) hC2 A12 A22 g42 g82 g92 (by simp only [Env.find_set,M4,reduceIte,Nat.reduceEqDiff]) (by simp only [Env.find_set,M6,reduceIte,Nat.reduceEqDiff]) (by simp only [Env.find_set,M7,reduceIte,Nat.reduceEqDiff]) (by simp only [Env.find_set,M8,reduceIte,Nat.reduceEqDiff]) (by simp only [Env.find_set,M9,reduceIte,Nat.reduceEqDiff])
   simp (disch:=first|omega|(with_unfolding_all exact rfl)|(simp only[new_n,put_n,new_m];omega)|(refine put_m_le ?_;simp only[new_m];omega)) only [K3r11,Abs.W,reduceIte,Nat.reduceEqDiff,Nat.reduceAdd,decide_true,decide_false,kLoop_def,Nat.reduceSub,List.cons_append,List.nil_append,List.append_nil,List.length_cons,List.length_nil,Env.find_set,M4,g42,ok1,len1,e0,Nat.zero_add]
   exact ⟨s',hs'⟩
 simp (config:={ maxSteps:=2000000 }) (disch:=first|omega|(with_unfolding_all exact rfl)|(simp only[new_n,put_n,new_m];omega)|(refine put_m_le ?_;simp only[new_m];omega)) only [q9_0,q9_4,q9_5,q9_8,q9_9,q9_10,q9_13,q9_14,q9_15,q9_16,q9_17,q9_18,q9_19,q9_20,q9_21,q9_22,q9_23,q9_24,q9_25,kEql_def,Abs.W,reduceIte,Nat.reduceEqDiff,Nat.reduceAdd,decide_true,decide_false,kLoop_def,Nat.reduceSub,List.cons_append,List.nil_append,List.append_nil,List.length_cons,List.length_nil,Env.find_set,u2x,u2y,g52,d0,d1,l5,eqv,knT,E7,Nat.zero_add]
 refine fin _ ?_ ?_ ?_ ?_ ?_<;>simp only [Env.find_set,l4,l6,l7,l8,l9,reduceIte,Nat.reduceEqDiff]
theorem ends_body (n:Nat) (hn:13≤n) (cx:Ctx) (s:St) (d:Nat) (hd:Die d s.h) (hdn:d<s.n) (hs:s.n+900000≤far) (hm:s.m=far) :
  ∃ s',finA Try.prog Try.f3 (endsRest (knows 15 (call Try.prog X n)) cx (.cons 3 (.ptr d 0) .nil) [] s)=.val (.bool true) s':=by
 have hff:far=1000000000:=rfl
 have kn12:∀ args s,knows 15 (call Try.prog X n) (.fn 5) args s=call Try.prog X n (.fn 5) args s:=fun _ _=>rfl
 have kn13:∀ args s,knows 15 (call Try.prog X n) (.fn 6) args s=call Try.prog X n (.fn 6) args s:=fun _ _=>rfl
 have knH:∀ args s,knows 15 (call Try.prog X n) (.fn 7) args s=call Try.prog X n (.fn 7) args s:=fun _ _=>rfl
 have kn14:∀ args s,knows 15 (call Try.prog X n) (.fn 8) args s=call Try.prog X n (.fn 8) args s:=fun _ _=>rfl
 have knE:∀ args s,knows 15 (call Try.prog X n) (.fn 9) args s=call Try.prog X n (.fn 9) args s:=fun _ _=>rfl
 unfold endsRest
 simp (disch:=first|omega|(with_unfolding_all exact rfl)|(simp only[new_n,put_n,new_m];omega)|(refine put_m_le ?_;simp only[new_m];omega)) only [K3r2,Abs.W,reduceIte,Nat.reduceEqDiff,Nat.reduceAdd,decide_true,decide_false,kLoop_def,Nat.reduceSub,List.cons_append,List.nil_append,List.append_nil,List.length_cons,List.length_nil,Env.find_set,kn12]
 generalize hc1:call _ _ _ (.fn 5) _ _=r1
 obtain ⟨c,v1,v2,v3,t1,rfl,st1,d1,ok,hC⟩:=CellarOf_ex 3 5 hc1 (by omega) (by omega) (by omega) hd hdn (by omega)
 have n1:s.n≤t1.n:=st1.n
 have k1:t1.n≤s.n+1000:=st1.le
 obtain ⟨ok1,c1,sc1⟩:=hC.b.scalar
 obtain ⟨ok2,c2,sc2⟩:=hC.f.scalar
 obtain ⟨ok3,c3,sc3⟩:=hC.r.scalar
 have len1:=hC.b.len
 rw [List.length_map] at len1
 simp (disch:=first|omega|(with_unfolding_all exact rfl)|(simp only[new_n,put_n,new_m];omega)|(refine put_m_le ?_;simp only[new_m];omega)) only [Abs.W,reduceIte,Nat.reduceEqDiff,Nat.reduceAdd,decide_true,decide_false,kLoop_def,Nat.reduceSub,List.cons_append,List.nil_append,List.append_nil,List.length_cons,List.length_nil,Env.find_set,sc1,sc2,sc3,scal_nil]
 obtain ⟨y,hy⟩:∃ y:St,y=(t1.new (.cells [.int .i64 0,.int .i64 0,.nilslice,.nilslice,.nilslice] (tag 31))).put t1.n (.cells [.int .i64 c.hl,.int .i64 c.hh,v1,v2,v3] (tag 31)):=⟨_,rfl⟩
 rw [← hy]
 have yn:y.n=t1.n+1:=by rw [hy];rfl
 have yg:∀ c,c≠t1.n→y.h.get c=t1.h.get c:=fun c hc=>by rw [hy,get_put_ne' _ _ _ _ hc,get_new_ne _ _ _ hc]
 have y4:y.h.get t1.n=some (.cells [.int .i64 c.hl,.int .i64 c.hh,v1,v2,v3] (tag 31)):=by rw [hy];exact get_put_eq _ _ _ _ rfl (by omega)
 have dy:Die d y.h:=by obtain ⟨f,hf'⟩:=d1;exact ⟨f,by rw [yg _ (by omega)];exact hf'⟩
 clear hy
 simp (disch:=first|omega|(with_unfolding_all exact rfl)|(simp only[new_n,put_n,new_m];omega)|(refine put_m_le ?_;simp only[new_m];omega)) only [K3r3,Abs.W,reduceIte,Nat.reduceEqDiff,Nat.reduceAdd,decide_true,decide_false,kLoop_def,Nat.reduceSub,List.cons_append,List.nil_append,List.append_nil,List.length_cons,List.length_nil,Env.find_set,y4,kn13,Nat.zero_add]
 generalize hc2:call _ _ _ (.fn 6) _ _=r2
 obtain ⟨l,v4,t2,rfl,st2,d2,okl,b9,hR⟩:=LotOf_ex (k:=c.boxes.length) 4 hc2 (by omega) (by omega) dy (by omega) (by omega) (by have:=ok.b;omega) len1 ok1
 have n2:y.n≤t2.n:=st2.n
 have k2:t2.n≤y.n+1000:=st2.le
 obtain ⟨ok4,c4,sc4⟩:=hR.scalar
 have z4:=(st2.same t1.n (by omega) (by omega)).trans y4
 simp (disch:=first|omega|(with_unfolding_all exact rfl)|(simp only[new_n,put_n,new_m];omega)|(refine put_m_le ?_;simp only[new_m];omega)) only [Abs.W,reduceIte,Nat.reduceEqDiff,Nat.reduceAdd,decide_true,decide_false,kLoop_def,Nat.reduceSub,List.cons_append,List.nil_append,List.append_nil,List.length_cons,List.length_nil,Env.find_set,sc4,scal_nil]
 obtain ⟨z,hz⟩:∃ z:St,z=(t2.new (.cells [.int .i64 0,.int .i64 0,.nilslice] (tag 35))).put t2.n (.cells [.int .i64 l.born,.int .i64 l.keeps,v4] (tag 35)):=⟨_,rfl⟩
 rw [← hz]
 have zn:z.n=t2.n+1:=by rw [hz];rfl
 have zg:∀ c,c≠t2.n→z.h.get c=t2.h.get c:=fun c hc=>by rw [hz,get_put_ne' _ _ _ _ hc,get_new_ne _ _ _ hc]
 have z5:z.h.get t2.n=some (.cells [.int .i64 l.born,.int .i64 l.keeps,v4] (tag 35)):=by rw [hz];exact get_put_eq _ _ _ _ rfl (by omega)
 have dz:Die d z.h:=by obtain ⟨f,hf'⟩:=d2;exact ⟨f,by rw [zg _ (by omega)];exact hf'⟩
 have z4':=(zg t1.n (by omega)).trans z4
 clear hz
 have b0:=okl.b0
 have hz4:=z4'
 have zb:∀ b,s.n+1≤b→b<t1.n→z.h.get b=t1.h.get b:=fun b hb hbn=>by rw [zg b (by omega),st2.same b (by omega) (by omega),yg b (by omega)]
 simp (disch:=first|omega|(with_unfolding_all exact rfl)|(simp only[new_n,put_n,new_m];omega)|(refine put_m_le ?_;simp only[new_m];omega)) only [K3r4,Abs.W,reduceIte,Nat.reduceEqDiff,Nat.reduceAdd,decide_true,decide_false,kLoop_def,Nat.reduceSub,List.cons_append,List.nil_append,List.append_nil,List.length_cons,List.length_nil,Env.find_set,z5,knH,Nat.zero_add]
 generalize hc3:call _ _ _ (.fn 7) _ _=r3
 obtain ⟨hour,t3,rfl,st3,d3,h0,h1⟩:=HourOf_ex hc3 (by omega) dz (by show d<z.n;omega) (by show z.n+1000≤far;omega) ⟨b0,by omega⟩
 have n3:z.n≤t3.n:=st3.n
 have k3:t3.n≤z.n+10:=st3.le
 have f43:t3.h.get t1.n=_:=(st3.same t1.n (by show t1.n<z.n;omega) (by omega)).trans hz4
 simp (disch:=first|omega|(with_unfolding_all exact rfl)|(simp only[new_n,put_n,new_m];omega)|(refine put_m_le ?_;simp only[new_m];omega)) only [thenT_turn,Abs.W,reduceIte,Nat.reduceEqDiff,Nat.reduceAdd,decide_true,decide_false,kLoop_def,Nat.reduceSub,List.cons_append,List.nil_append,List.append_nil,List.length_cons,List.length_nil,Env.find_set,f43,ok1,len1,kn14,kFold_def,foldA_nil,foldA_cons,minA_i64,Nat.zero_add]
 generalize hc3b:call _ _ _ (.fn 8) _ _=r3b
 obtain ⟨box,q,rfl,st3b,dq,bx0,bx1⟩:=cast_ex hc3b (by omega) d3 (by show d<t3.n;omega) (by show t3.n+100≤far;omega) (by have:=ok.b;omega)
 have qn1:t3.n≤q.n:=st3b.n
 have qk1:q.n≤t3.n:=st3b.le
 have qg:∀ c,c<z.n→c≠d→q.h.get c=z.h.get c:=fun c hc hcd=>by
  rw [st3b.same c (by show c<t3.n;omega) hcd]
  show t3.h.get c=_
  rw [st3.same c hc hcd]
 have kv:keptV z.h t3.h v1=true:=keptV_of_rows (hC.b.mono zb (Nat.le_refl _)) fun b hb hbn=>st3.same b (by show b<z.n;omega) (by omega)
 simp (disch:=first|omega|(with_unfolding_all exact rfl)|(simp only[new_n,put_n,new_m];omega)|(refine put_m_le ?_;simp only[new_m];omega)) only [Abs.W,reduceIte,Nat.reduceEqDiff,Nat.reduceAdd,decide_true,decide_false,kLoop_def,Nat.reduceSub,List.cons_append,List.nil_append,List.append_nil,List.length_cons,List.length_nil,Env.find_set]
 rw [endT_kept (by simp only [keptAll_cons,keptAll_nil,find_cons,keptV_ptr,hz4,f43,kv,sameO_cells,reduceIte,Nat.reduceEqDiff,Bool.and_self])]
 simp (disch:=first|omega|(with_unfolding_all exact rfl)|(simp only[new_n,put_n,new_m];omega)|(refine put_m_le ?_;simp only[new_m];omega)) only [Abs.W,reduceIte,Nat.reduceEqDiff,Nat.reduceAdd,decide_true,decide_false,kLoop_def,Nat.reduceSub,List.cons_append,List.nil_append,List.append_nil,List.length_cons,List.length_nil,Env.find_set,endO_nil,regD_ok]
 have f4:=(qg t1.n (by omega) (by omega)).trans hz4
 have f5:=(qg t2.n (by omega) (by omega)).trans z5
 have hC3:CellarIn q.h q.n c v1 v2 v3:=(hC.mono (n':=q.n) (fun b hb hbn=>(qg b (by omega) (by omega)).trans (zb b hb hbn)) (by omega)).in_
 have hR3:RowsAt q.h q.n 3 (l.stays.map Stay.cells) v4:=(hR.mono (n':=q.n) (fun b hb hbn=>by rw [qg b (by omega) (by omega),zg b (by omega)]) (by omega)).at_
 simp (disch:=first|omega|(with_unfolding_all exact rfl)|(simp only[new_n,put_n,new_m];omega)|(refine put_m_le ?_;simp only[new_m];omega)) only [K3r5,Abs.W,reduceIte,Nat.reduceEqDiff,Nat.reduceAdd,decide_true,decide_false,kLoop_def,Nat.reduceSub,List.cons_append,List.nil_append,List.append_nil,List.length_cons,List.length_nil,Env.find_set,f4,knE,Nat.zero_add]
 generalize hc4:call _ _ _ (.fn 9) _ _=r4
 obtain ⟨T1,va,vb,vc,vd,ve,t4,rfl,st4,A1,I1,sa,sb,sc,sd,se⟩:=edge_ex c ok true 51 hc4 (by omega) hC3 (by omega) (by omega) (by show q.n+60000≤far;omega)
 have n4:q.n≤t4.n:=st4.n
 have k4:t4.n≤q.n+30000:=st4.le
 have g4:∀ c,c<q.n→t4.h.get c=q.h.get c:=st4.same
 have f44:=(g4 t1.n (by omega)).trans f4
 simp (disch:=first|omega|(with_unfolding_all exact rfl)|(simp only[new_n,put_n,new_m];omega)|(refine put_m_le ?_;simp only[new_m];omega)) only [thenT_turn,Abs.W,reduceIte,Nat.reduceEqDiff,Nat.reduceAdd,decide_true,decide_false,kLoop_def,Nat.reduceSub,List.cons_append,List.nil_append,List.append_nil,List.length_cons,List.length_nil,Env.find_set,f44,knE,Nat.zero_add]
 generalize hc5:call _ _ _ (.fn 9) _ _=r5
 obtain ⟨T2,wa,wb,wc,wd,we,t5,rfl,st5,A2,I2,sa2,sb2,sc2',sd2,se2⟩:=edge_ex c ok false 51 hc5 (by omega) (hC3.grow g4 n4) (by omega) (by omega) (by show t4.n+60000≤far;omega)
 have n5:t4.n≤t5.n:=st5.n
 have k5:t5.n≤t4.n+30000:=st5.le
 have g5:∀ c,c<t4.n→t5.h.get c=t4.h.get c:=st5.same
 have sall:scalars [va,vb,vc,vd,ve]=true:=by rw [scal_cons _ _ sa,scal_cons _ _ sb,scal_cons _ _ sc,scal_cons _ _ sd,scal_cons _ _ se];rfl
 have sall2:scalars [wa,wb,wc,wd,we]=true:=by rw [scal_cons _ _ sa2,scal_cons _ _ sb2,scal_cons _ _ sc2',scal_cons _ _ sd2,scal_cons _ _ se2];rfl
 have nn1:∀ o,(t5.new o).n=t5.n+1:=fun _=>rfl
 have nn2:∀ o1 o2,((t5.new o1).new o2).h.get (t5.n+1)=some o2:=fun o1 o2=>get_new_eq _ _ _ rfl (by show t5.n+1<549755813888;omega)
 simp (disch:=first|omega|(with_unfolding_all exact rfl)|(simp only[new_n,put_n,new_m];omega)|(refine put_m_le ?_;simp only[new_m];omega)) only [Abs.W,reduceIte,Nat.reduceEqDiff,Nat.reduceAdd,decide_true,decide_false,kLoop_def,Nat.reduceSub,List.cons_append,List.nil_append,List.append_nil,List.length_cons,List.length_nil,Env.find_set,sall,sall2,nn1,nn2]
 rw [endT_kept (by simp only [keptAll_cons,keptAll_nil,find_cons,Env.find_set,keptV_ptr,f4,f44,sameO_cells,reduceIte,Nat.reduceEqDiff,Bool.and_self])]
 simp (disch:=first|omega|(with_unfolding_all exact rfl)|(simp only[new_n,put_n,new_m];omega)|(refine put_m_le ?_;simp only[new_m];omega)) only [Abs.W,reduceIte,Nat.reduceEqDiff,Nat.reduceAdd,decide_true,decide_false,kLoop_def,Nat.reduceSub,List.cons_append,List.nil_append,List.append_nil,List.length_cons,List.length_nil,Env.find_set,endO_nil,regD_ok]
 generalize hx:St.put (St.put _ _ _) _ _=x
 have xn:x.n=t5.n+2:=by rw [← hx];rfl
 have xg:∀ c,c<t5.n→x.h.get c=t5.h.get c:=fun c hc=>by
  rw [← hx,get_put_ne' _ _ _ _ (by omega),get_put_ne' _ _ _ _ (by omega),get_new_ne _ _ _ (by show c≠t5.n+1;omega),get_new_ne _ _ _ (by omega)]
 have x8:x.h.get t5.n=some (.cells [va,vb,vc,vd,ve] (tag 41)):=by
  rw [← hx,get_put_ne' _ _ _ _ (by omega)];exact get_put_eq _ _ _ _ rfl (by omega)
 have x9:x.h.get (t5.n+1)=some (.cells [wa,wb,wc,wd,we] (tag 41)):=by rw [← hx];exact get_put_eq _ _ _ _ rfl (by omega)
 clear hx
 have low:∀ c,c<q.n→x.h.get c=q.h.get c:=fun c hc=>(xg c (by omega)).trans ((g5 c (by omega)).trans (g4 c hc))
 obtain ⟨k,hk⟩:∃ k:Nat,min 50 hour=k:=⟨(min 50 hour).toNat,by omega⟩
 obtain ⟨m,hm'⟩:∃ m:Nat,(k:Int)=l.born+m:=⟨((k:Int) - l.born).toNat,by omega⟩
 rw [hk]
 generalize hLe:Env.cons _ _ _=L0
 refine ends_from n hn cx L0 x c ok l okl T1 T2 I1 I2 v1 v2 v3 v4 va vb vc vd ve wa wb wc wd we t1.n t2.n t5.n (t5.n+1) _ _ k m box bx0 (fun h=>by omega) (by omega) hm' (by omega) (by omega) (by omega) (by omega) (by omega) (rows_scal hR) (hC3.grow low (by omega)) len1 ok1 (hR3.grow low (by omega)) (A1.grow (fun b hb=>(xg b (by omega)).trans (g5 b hb)) (by omega)) (A2.grow xg (by omega)) ((low t1.n (by omega)).trans f4) ((low t2.n (by omega)).trans f5) x8 x9 ?_ ?_ ?_ ?_ ?_ ?_<;>rw [← hLe]<;>simp only [find_cons,Env.find_set,reduceIte,Nat.reduceEqDiff]
end Go.Proofs.Ytlfalcghhckanab.walk
