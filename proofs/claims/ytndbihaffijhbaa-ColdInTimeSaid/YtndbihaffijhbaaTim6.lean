/- What more ice, and what is known better, does to warmth and losses. -/
import Derived.Test.YtndbihaffijhbaaM4
import Derived.Test.YtndbihaffijhbaaCodes
import Derived.Test.YtndbihaffijhbaaM5
import Derived.Test.YtndbihaffijhbaaM3
import Derived.Test.YtndbihaffijhbaaWalkAll
set_option linter.unusedSimpArgs false
set_option maxHeartbeats 16000000
set_option linter.unusedVariables false
set_option maxRecDepth 10000
namespace Go.Proofs.Ytndbihaffijhbaa.walk
open Go.Abs
/-! ### One end of the ice -/
def fill1 (room hour:Int):Int→List (Int × Int)→Int
 | i,[]=>i
 | i,(h,g)::r=>if h=hour then fill1 room hour (min (i+g) room) r else i
def lev (room:Int) (melt:Int→Int):Nat→Int→Int→List (Int × Int)→Int
 | 0,hour,i,fs=>fill1 room hour i fs
 | k+1,hour,i,fs=>lev room melt k (hour+1) (max 0 (fill1 room hour i fs - melt hour)) (left hour fs)
theorem fill_fill1:∀ (fs:List (Int × Int)) (x:BoxNow),(x.fill fs).i0=fill1 x.room x.hour x.i0 fs∧(x.fill fs).i1=fill1 x.room x.hour x.i1 fs
 | [],x=>⟨rfl,rfl⟩
 | (h,g)::r,x=>by
  unfold BoxNow.fill fill1
  by_cases e:h=x.hour
  ·rw [if_pos e,if_pos e,if_pos e]
   exact fill_fill1 r (x.put g)
  ·rw [if_neg e,if_neg e,if_neg e]
   exact ⟨rfl,rfl⟩
theorem ices_lev:∀ (m k:Nat) (x:BoxNow) (fs:List (Int × Int)),k<m→(ices m x fs).getD k (0,0)=(lev x.room (fun _=>x.m1) k x.hour x.i0 fs,lev x.room (fun _=>x.m0) k x.hour x.i1 fs)
 | 0,k,x,fs,h=>absurd h (Nat.not_lt_zero k)
 | m+1,0,x,fs,h=>by
  obtain ⟨h1,h2⟩:=fill_fill1 fs x
  unfold ices lev
  rw [List.getD_cons_zero,h1,h2]
 | m+1,k+1,x,fs,h=>by
  obtain ⟨h1,h2⟩:=fill_fill1 fs x
  obtain ⟨⟨q1,q2,q3,_⟩,q8⟩:=x.fill_like fs
  unfold ices
  rw [List.getD_cons_succ,ices_lev m k (x.on fs) (left x.hour fs) (by omega)]
  have e1:(x.on fs).room=x.room:=q1
  have e2:(x.on fs).m1=x.m1:=q3
  have e3:(x.on fs).m0=x.m0:=q2
  have e4:(x.on fs).hour=x.hour+1:=by show (x.fill fs).hour+1=_;rw [q8]
  have e5:(x.on fs).i0=max 0 (fill1 x.room x.hour x.i0 fs - x.m1):=by show max 0 ((x.fill fs).i0 - (x.fill fs).m1)=_;rw [h1,q3]
  have e6:(x.on fs).i1=max 0 (fill1 x.room x.hour x.i1 fs - x.m0):=by show max 0 ((x.fill fs).i1 - (x.fill fs).m0)=_;rw [h2,q2]
  rw [e1,e2,e3,e4,e5,e6]
  rfl
theorem fill1_mono {room room' hour:Int} (hr:room≤room'):∀ (fs:List (Int × Int)) (i i':Int),i≤i'→fill1 room hour i fs≤fill1 room' hour i' fs
 | [],i,i',h=>h
 | (h0,g)::r,i,i',h=>by
  unfold fill1
  by_cases e:h0=hour
  ·rw [if_pos e,if_pos e]
   exact fill1_mono hr r _ _ (by omega)
  ·rw [if_neg e,if_neg e];exact h
/-! ### A cellar's boxes, hour by hour -/
def Cellar.box (c:Cellar) (b:Nat):Box:=c.boxes.getD b noBox
def Cellar.of (c:Cellar) (b:Nat):List (Int × Int):=(ofBox b c.fills).map fun f=>(f.hour,f.grams)
def Cellar.iceLo (c:Cellar) (b k:Nat):Int:=lev (c.box b).room (fun _=>(c.box b).mh) k 0 (c.box b).il (c.of b)
def Cellar.iceHi (c:Cellar) (b k:Nat):Int:=lev (c.box b).room (fun _=>(c.box b).ml) k 0 (c.box b).ih (c.of b)
def Cellar.warm (c:Cellar) (b k:Nat):Int × Int:=(if 0<c.iceHi b k then (c.box b).cl else (c.box b).wl,if 0<c.iceLo b k then (c.box b).ch else (c.box b).wh)
theorem warmW_eq (c:Cellar) (b k:Nat) (hb:b<c.boxes.length) (hk:k<240):warmW (tabsOf c.boxes c.fills c.boxes.length) k b=c.warm b k:=by
 unfold warmW
 rw [Int.toNat_natCast,Int.toNat_natCast]
 unfold tabsOf
 have e0:((List.range c.boxes.length).map fun j=>tabOf (c.boxes.getD j noBox) c.fills j).getD b []=tabOf (c.box b) c.fills b:=by
  rw [List.getD_eq_getElem?_getD,List.getElem?_map,List.getElem?_range hb];rfl
 rw [e0]
 unfold tabOf
 have hl:k<(ices 240 (c.box b).start (c.of b)).length:=by rw [ices_len];exact hk
 have e:=ices_lev 240 k (c.box b).start (c.of b) hk
 rw [List.getD_eq_getElem?_getD,List.getElem?_eq_getElem hl] at e
 rw [List.getD_eq_getElem?_getD,List.getElem?_map]
 show (((ices 240 (c.box b).start (c.of b))[k]?.map _).getD (0,0))=_
 rw [List.getElem?_eq_getElem hl]
 simp only [Option.getD_some] at e
 simp only [Option.map_some,Option.getD_some]
 rw [e]
 rfl
def Cellar.at (c:Cellar) (l:Lot) (k:Nat):Int × Int:=match l.stays.find? (hit k) with
 | some t=>c.warm t.box.toNat k
 | none=>(c.hl,c.hh)
theorem Cellar.warmAt_eq (c:Cellar) (l:Lot) (okl:l.Ok c.boxes.length) (k:Nat) (hk:k<240):warmAt (tabsOf c.boxes c.fills c.boxes.length) l.stays c.hl c.hh k=c.at l k:=by
 unfold warmAt aroundOf Cellar.at
 cases hf:l.stays.find? (hit k) with
 | none=>rfl
 | some t =>
  have ht:=okl.sok t (List.mem_of_find?_eq_some hf)
  obtain ⟨b,hb⟩:∃ b:Nat,t.box=b:=⟨t.box.toNat,by have:=ht.b0;omega⟩
  have:=warmW_eq c b k (by have:=ht.b1;omega) hk
  simp only [hb,Int.toNat_natCast]
  exact this
/-! ### Losses -/
theorem lossFrom_up (rs:List Rate) (ro:∀ i (h:i<rs.length),(rateBefore rs i).above<(rs[i]).above∧(rateBefore rs i).loss≤(rs[i]).loss) (t t':Int) (h:t≤t') :
  ∀ m j:Nat,j+m=rs.length→(rateBefore rs j).loss≤lossFrom t' (rateBefore rs j).loss (rs.drop j)∧lossFrom t (rateBefore rs j).loss (rs.drop j)≤lossFrom t' (rateBefore rs j).loss (rs.drop j)
 | 0,j,hm=>by
  rw [List.drop_of_length_le (by omega)]
  exact ⟨Int.le_refl _,Int.le_refl _⟩
 | m+1,j,hm=>by
  have hj:j<rs.length:=by omega
  have ih:=lossFrom_up rs ro t t' h m (j+1) (by omega)
  have hb:rateBefore rs (j+1)=rs[j]:=by simp only [rateBefore,List.getElem?_eq_getElem hj]
  rw [hb] at ih
  rw [List.drop_eq_getElem_cons hj]
  have r1:=(ro j hj).2
  unfold lossFrom
  by_cases e:t'<(rs[j]).above
  ·rw [if_pos e,if_pos (by omega)]
   exact ⟨Int.le_refl _,Int.le_refl _⟩
  ·rw [if_neg e]
   by_cases e2:t<(rs[j]).above
   ·rw [if_pos e2]
    exact ⟨by omega,by omega⟩
   ·rw [if_neg e2]
    exact ⟨by omega,ih.2⟩
theorem lossFrom_mono (rs:List Rate) (ro:∀ i (h:i<rs.length),(rateBefore rs i).above<(rs[i]).above∧(rateBefore rs i).loss≤(rs[i]).loss) (t t':Int) (h:t≤t'):lossFrom t 0 rs≤lossFrom t' 0 rs:=by
 have:=(lossFrom_up rs ro t t' h rs.length 0 (by omega)).2
 rw [List.drop_zero] at this
 exact this
theorem total_le {f g:Int × Int→Int} {u v:Nat→Int × Int}:∀ m:Nat,(∀ i,i<m→f (u i)≤g (v i))→total f ((List.range m).map u)≤total g ((List.range m).map v)
 | 0,_=>Int.le_refl _
 | m+1,h=>by
  rw [List.range_succ,List.map_append,List.map_append]
  show total f (_++[u m])≤total g (_++[v m])
  rw [total_snoc,total_snoc]
  have h1:=total_le (f:=f) (g:=g) (u:=u) (v:=v) m fun i hi=>h i (by omega)
  have h2:=h m (by omega)
  omega
theorem Cellar.lost_up (c:Cellar) (ok:c.Ok) (l:Lot) (m:Nat):∀ k:Nat,(c.lost l m).1≤(c.lost l (m+k)).1∧(c.lost l m).2≤(c.lost l (m+k)).2
 | 0=>⟨Int.le_refl _,Int.le_refl _⟩
 | k+1=>by
  have h1:=Cellar.lost_up c ok l m k
  have hw:∃ w,c.warms l (m+k+1)=c.warms l (m+k)++[w]:=by
   unfold Cellar.warms walk.warms
   rw [List.range_succ,List.map_append]
   exact ⟨_,rfl⟩
  obtain ⟨w,hw⟩:=hw
  unfold Cellar.lost lostLo lostHi at h1 ⊢
  rw [← Nat.add_assoc,hw,total_snoc,total_snoc]
  have h2:=(lossFrom_range w.1 c.rates 0 ok.rok ⟨Int.le_refl _,by omega⟩).1
  have h3:=(lossFrom_range w.2 c.rates 0 ok.rok ⟨Int.le_refl _,by omega⟩).1
  simp only at h1 ⊢
  omega
end Go.Proofs.Ytndbihaffijhbaa.walk
set_option maxRecDepth 10000
namespace Go.Proofs.Ytndbihaffijhbaa.walk
open Go.Abs
theorem Cellar.box_eq (c:Cellar) {b:Nat} (h:b<c.boxes.length):c.box b=c.boxes[b]:=by unfold Cellar.box;rw [List.getD_eq_getElem?_getD,List.getElem?_eq_getElem h];rfl
end Go.Proofs.Ytndbihaffijhbaa.walk
set_option maxRecDepth 10000
namespace Go.Abs
theorem fld2_1 (s:St) (a:AV) (k:IntKind) (b:Int):fldA none 1 s (.agg [a,.int k b])=.val (.int k b) s:=rfl
theorem shrI_half (n:Nat):shrI (n:Int) 1=((n / 2:Nat):Int):=by
 show Int.fdiv (n:Int) _=_
 rw [Int.fdiv_eq_ediv_of_nonneg _ (by decide)]
 rfl
end Go.Abs
namespace Go.Proofs.Ytndbihaffijhbaa.walk
open Go.Abs Go.Proofs.Ytndbihaffijhbaa.code
theorem last1_ok {N p7 p3 z7 z3:Nat} {more:Int} {v1 v2 v3 v4 vb:AV} {s:St} (c:Cellar) (ok:c.Ok) (l:Lot) (okl:l.Ok c.boxes.length) (vs:List AV) (lo k:Nat) (hN:9≤N) (hm:more=k) (hk:l.born+k+1≤240) (hs:s.n+70000≤far)
  (g7:s.h.get p7=some (.cells [.int .i64 c.hl,.int .i64 c.hh,v1,v2,v3,vb] z7)) (g3:s.h.get p3=some (.cells [.int .i64 l.born,.int .i64 l.keeps,v4] z3))
  (hR:RowsAt s.h s.n 3 (l.stays.map Stay.cells) v4) (hS:Sheets s.h lo s.n (tabsOf c.boxes c.fills c.boxes.length) vs vb) (hRt:RowsAt s.h s.n 2 (c.rates.map Rate.cells) v3) :
  call Try.prog X N (.fn 52) [.int .i64 more,.ptr p7 0,.ptr p3 0] s=.val (.bool (decide (l.keeps<(c.lost l (k+1)).2))) s:=by
 obtain ⟨n,rfl⟩:∃ n,N=n+1:=⟨N - 1,by omega⟩
 refine call_plain' Try.func52 (fun u uh un um=>?_) rfl
 have hff:far=1000000000:=rfl
 rw [← uh] at g7 g3 hR hS hRt
 rw [← un] at hR hS hRt
 have b0:=okl.b0
 have hum:u.m≤far:=by omega
 have hun:u.n≤far:=by omega
 have tl:(tabsOf c.boxes c.fills c.boxes.length).length=c.boxes.length:=by unfold tabsOf;rw [List.length_map,List.length_range]
 have a1:∀ s,aAdd s .i64 l.born more=.val (.int .i64 (l.born+more)) s:=fun s=>aAdd_i64 s _ _ (by omega)
 have a2:∀ s,aAdd s .i64 (l.born+more) 1=.val (.int .i64 (l.born+more+1)) s:=fun s=>aAdd_i64 s _ _ (by omega)
 have e1:=lost_ok (N:=n) (s:=⟨u.h,u.n,far⟩) (hl:=c.hl) (hh:=c.hh) (born:=l.born) (keeps:=l.keeps) (hour:=l.born+more+1) (v1:=v1) (v2:=v2) (v3:=v3) (v4:=v4) (vb:=vb) (tabsOf c.boxes c.fills c.boxes.length) l.stays c.rates vs lo (k+1) (by omega) b0 (by omega) (by omega) (by show u.n+60000≤far;omega)
  hR okl.s hS (fun t ht=>by
   unfold tabsOf at ht
   obtain ⟨j,_,rfl⟩:=List.mem_map.mp ht
   exact tabOf_len _ _ _) (fun t ht=>by
   have:=okl.sok t ht
   rw [tl]
   exact ⟨this.b0,this.b1⟩) hRt ok.r ok.rok
 rw [enter52]
 simp (disch:=first|omega|(with_unfolding_all exact rfl)|(simp only[new_n,put_n,new_m];omega)|(refine put_m_le ?_;simp only[new_m];omega)) only [res52,K52r0,K52r1,K52,Abs.W,reduceIte,Nat.reduceEqDiff,Nat.reduceAdd,decide_true,decide_false,kLoop_def,Nat.reduceSub,g7,g3,a1,a2,e1,thenT_same _ _ _ _ _ _ _ hun hum,fld2_1,endO_nil,regD_ok,Nat.zero_add]
 refine ⟨_,rfl,?_⟩
 omega
def halves (F:Nat→Bool):Nat→Nat→Nat→Nat
 | 0,i,_=>i
 | m+1,i,j=>if i<j then (if F ((i+j) / 2)=true then halves F m i ((i+j) / 2) else halves F m ((i+j) / 2+1) j) else i
theorem halves_spec (F:Nat→Bool) (n:Nat):∀ m i j:Nat,i≤j→j≤n→j - i≤m→(i=0∨F (i - 1)=false)→(j=n∨F j=true) →
  halves F m i j≤n∧(halves F m i j=0∨F (halves F m i j - 1)=false)∧(halves F m i j=n∨F (halves F m i j)=true)
 | 0,i,j,h1,h2,h3,h4,h5=>by
  have:i=j:=by omega
  subst this
  exact ⟨h2,h4,h5⟩
 | m+1,i,j,h1,h2,h3,h4,h5=>by
  unfold halves
  by_cases e:i<j
  ·rw [if_pos e]
   cases hF:F ((i+j) / 2) with
   | true =>
    rw [if_pos rfl]
    exact halves_spec F n m i _ (by omega) (by omega) (by omega) h4 (.inr hF)
   | false =>
    rw [if_neg (by decide)]
    exact halves_spec F n m _ j (by omega) h2 (by omega) (.inr (by rw [Nat.add_sub_cancel];exact hF)) h5
  ·rw [if_neg e]
   have:i=j:=by omega
   subst this
   exact ⟨h2,h4,h5⟩
theorem search_loop {N n:Nat} {f:FuncId} {cp:List AV} (F:Nat→Bool) (cx:Ctx) (s:St) (hn:n≤1000)
  (hF:∀ h:Nat,h<n→call Try.prog X N (.fn f) (.int .i64 h::cp) s=.val (.bool (F h)) s) :
  ∀ (m i j fuel:Nat) (L:Env),j - i≤m→m<fuel→j≤n→L.find 1=.func f [] cp→L.find 5=.int .i64 i→L.find 6=.int .i64 j →
   ∃ L',loopN K51l0 fuel (call Try.prog X N) cx L [] s=.done (.exit 0) L' [] s∧L'.find 5=.int .i64 (halves F m i j)
 | m,i,j,0,L,hm,hf,hj,h1,h5,h6=>by omega
 | m,i,j,fuel+1,L,hm,hf,hj,h1,h5,h6=>by
  by_cases hlt:i<j
  ·obtain ⟨m',rfl⟩:∃ m',m=m'+1:=⟨m - 1,by omega⟩
   have e0:decide ((i:Int)<(j:Int))=true:=by simp;omega
   have a1:∀ s,aAdd s .i64 (i:Int) (j:Int)=.val (.int .i64 ((i+j:Nat):Int)) s:=fun s=>by rw [aAdd_i64 s _ _ (by omega)];rfl
   have w1:wrapA .u64 ((i+j:Nat):Int)=((i+j:Nat):Int):=wrap_u64 _ (by omega)
   have w2:wrapA .i64 (((i+j) / 2:Nat):Int)=(((i+j) / 2:Nat):Int):=wrap_in _ (by omega)
   have a3:∀ s,aAdd s .i64 (((i+j) / 2:Nat):Int) 1=.val (.int .i64 (((i+j) / 2+1:Nat):Int)) s:=fun s=>by rw [aAdd_i64 s _ _ (by omega)];rfl
   have hc:=hF ((i+j) / 2) (by omega)
   rw [loopN_succ]
   unfold halves
   rw [if_pos hlt]
   cases hb:F ((i+j) / 2) with
   | true =>
    rw [hb] at hc
    simp (disch:=first|omega|(with_unfolding_all exact rfl)|(simp only[new_n,put_n,new_m];omega)|(refine put_m_le ?_;simp only[new_m];omega)) only [res51,K51r0,K51r1,K51r2,K51r3,K51r4,K51r5,K51r6,K51l0,K51r7,K51,Abs.W,reduceIte,Nat.reduceEqDiff,Nat.reduceAdd,decide_true,decide_false,kLoop_def,Nat.reduceSub,Env.find_set,h1,h5,h6,e0,a1,w1,w2,a3,hc,kShr_def,shrA_u64,cviA_int,shrI_half]
    exact search_loop F cx s hn hF m' i ((i+j) / 2) fuel _ (by omega) (by omega) (by omega) (by simp only [Env.find_set,h1,reduceIte,Nat.reduceEqDiff]) (by simp only [Env.find_set,h5,reduceIte,Nat.reduceEqDiff]) (by simp only [Env.find_set,reduceIte,Nat.reduceEqDiff])
   | false =>
    rw [hb] at hc
    simp (disch:=first|omega|(with_unfolding_all exact rfl)|(simp only[new_n,put_n,new_m];omega)|(refine put_m_le ?_;simp only[new_m];omega)) only [res51,K51r0,K51r1,K51r2,K51r3,K51r4,K51r5,K51r6,K51l0,K51r7,K51,Abs.W,reduceIte,Nat.reduceEqDiff,Nat.reduceAdd,decide_true,decide_false,kLoop_def,Nat.reduceSub,Env.find_set,h1,h5,h6,e0,a1,w1,w2,a3,hc,kShr_def,shrA_u64,cviA_int,shrI_half]
    exact search_loop F cx s hn hF m' ((i+j) / 2+1) j fuel _ (by omega) (by omega) (by omega) (by simp only [Env.find_set,h1,reduceIte,Nat.reduceEqDiff]) (by simp only [Env.find_set,reduceIte,Nat.reduceEqDiff]) (by simp only [Env.find_set,h6,reduceIte,Nat.reduceEqDiff])
  ·have e0:decide ((i:Int)<(j:Int))=false:=by simp;omega
   have hh:halves F m i j=i:=by
    cases m with
    | zero=>rfl
    | succ m=>unfold halves;rw [if_neg hlt]
   rw [loopN_succ,hh]
   simp (disch:=first|omega|(with_unfolding_all exact rfl)|(simp only[new_n,put_n,new_m];omega)|(refine put_m_le ?_;simp only[new_m];omega)) only [res51,K51r0,K51r1,K51r2,K51r3,K51r4,K51r5,K51r6,K51l0,K51r7,K51,Abs.W,reduceIte,Nat.reduceEqDiff,Nat.reduceAdd,decide_true,decide_false,kLoop_def,Nat.reduceSub,Env.find_set,h1,h5,h6,e0]
   exact ⟨_,rfl,by simp only [Env.find_set,h5,reduceIte,Nat.reduceEqDiff]⟩
theorem search_ok {N n:Nat} {f:FuncId} {cp:List AV} (F:Nat→Bool) (s:St) (hN:1≤N) (hn:n≤1000) (hs:s.n+100≤far)
  (hF:∀ h:Nat,h<n→∀ m,call Try.prog X (N - 1) (.fn f) (.int .i64 h::cp) ⟨s.h,s.n,m⟩=.val (.bool (F h)) ⟨s.h,s.n,m⟩) :
  call Try.prog X N (.fn 51) [.int .i64 n,.func f [] cp] s=.val (.int .i64 (halves F n 0 n)) s:=by
 obtain ⟨N,rfl⟩:∃ n,N=n+1:=⟨N - 1,by omega⟩
 refine call_plain' Try.func51 (fun u uh un um=>?_) rfl
 have hff:far=1000000000:=rfl
 obtain ⟨L',hL,h5⟩:=search_loop (N:=N) F ⟨51,none,Try.f51.ntmps,X 51⟩ u hn (fun h hh=>by
  have:=hF h hh u.m
  rw [← uh,← un] at this
  exact this) n 0 n rounds
  (.cons 0 (.int .i64 n) (.cons 1 (.func f [] cp) (.cons 4 (.int .i64 0) (.cons 5 (.int .i64 0) (.cons 6 (.int .i64 n) .nil))))) (by omega) (by unfold rounds;omega) (Nat.le_refl _) rfl rfl rfl
 rw [enter51]
 simp only [res51,K51r0,K51r1,K51r2,K51r3,K51r4,K51r5,K51r6,K51r7,K51,Abs.W,reduceIte,Nat.reduceEqDiff,Nat.reduceAdd,decide_true,decide_false,kLoop_def,Nat.reduceSub,hL,h5,Env.find_set]
 exact ⟨_,rfl,by omega⟩
def Cellar.last (c:Cellar) (l:Lot):Nat:=halves (fun k=>decide (l.keeps<(c.lost l (k+1)).2)) (240 - l.born).toNat 0 (240 - l.born).toNat
theorem Cellar.last_spec (c:Cellar) (l:Lot):c.last l≤(240 - l.born).toNat∧(c.last l=0∨(c.lost l (c.last l)).2≤l.keeps)∧(c.last l=(240 - l.born).toNat∨l.keeps<(c.lost l (c.last l+1)).2):=by
 obtain ⟨h1,h2,h3⟩:=halves_spec (fun k=>decide (l.keeps<(c.lost l (k+1)).2)) (240 - l.born).toNat (240 - l.born).toNat 0 (240 - l.born).toNat (Nat.zero_le _) (Nat.le_refl _) (by omega) (.inl rfl) (.inl rfl)
 refine ⟨h1,?_,?_⟩
 ·by_cases e:c.last l=0
  ·exact .inl e
  ·refine .inr ?_
   rcases h2 with h2 | h2
   ·exact absurd h2 e
   ·have h2:=of_decide_eq_false h2
    have e2:c.last l - 1+1=c.last l:=by omega
    unfold Cellar.last at e2 ⊢
    rw [e2] at h2
    omega
 ·rcases h3 with h3 | h3
  ·exact .inl h3
  ·exact .inr (of_decide_eq_true h3)
theorem Last_ok {N:Nat} {s:St} {v1 v2 v3 v4:AV} (c:Cellar) (ok:c.Ok) (l:Lot) (okl:l.Ok c.boxes.length) (hN:12≤N) (hC:CellarIn s.h s.n c v1 v2 v3) (hR:RowsAt s.h s.n 3 (l.stays.map Stay.cells) v4) (s4:v4.scalar=true) (hs:s.n+300000≤far) :
  call Try.prog X N (.fn 24) [.agg [.int .i64 c.hl,.int .i64 c.hh,v1,v2,v3],.agg [.int .i64 l.born,.int .i64 l.keeps,v4]] s=.val (.tup [.int .i64 (l.born+(c.last l:Int)),.int .i64 0]) s:=by
 obtain ⟨n,rfl⟩:∃ n,N=n+1:=⟨N - 1,by omega⟩
 refine call_plain' Try.func24 (fun u uh un um=>?_) rfl
 have hff:far=1000000000:=rfl
 rw [← uh,← un] at hC hR
 obtain ⟨w,hw⟩:∃ w:St,w=(u.new (.cells [.int .i64 c.hl,.int .i64 c.hh,v1,v2,v3] (tag 31))).new (.cells [.int .i64 l.born,.int .i64 l.keeps,v4] (tag 35)):=⟨_,rfl⟩
 have wn:w.n=u.n+2:=by rw [hw];rfl
 have wm:w.m=far:=by rw [hw];exact um
 have wg:∀ c,c<u.n→w.h.get c=u.h.get c:=fun c hc=>by rw [hw,get_new_ne _ _ _ (by simp only [new_n];omega),get_new_ne _ _ _ (by omega)]
 have w0:w.h.get u.n=some (.cells [.int .i64 c.hl,.int .i64 c.hh,v1,v2,v3] (tag 31)):=by
  rw [hw,get_new_ne _ _ _ (by simp only [new_n];omega)];exact get_new_eq _ _ _ rfl (by omega)
 have w1:w.h.get (u.n+1)=some (.cells [.int .i64 l.born,.int .i64 l.keeps,v4] (tag 35)):=by
  rw [hw];exact get_new_eq _ _ _ rfl (by simp only [new_n];omega)
 have nn1:∀ o,(u.new o).n=u.n+1:=fun _=>rfl
 have hCw:=hC.grow wg (by omega:u.n≤w.n)
 have hRw:=hR.grow wg (by omega:u.n≤w.n)
 have e1:=checkLot_ok n (by omega) c ok l okl v1 v2 v3 v4 w hCw.at_ hRw (by omega)
 have b0:=okl.b0
 have b1:=okl.b1
 have a1:∀ s,aSub s .i64 240 l.born=.val (.int .i64 (240 - l.born)) s:=fun s=>aSub_i64 s _ _ (by omega)
 rw [enter24]
 simp (disch:=first|omega|(with_unfolding_all exact rfl)|(simp only[new_n,put_n,new_m];omega)|(refine put_m_le ?_;simp only[new_m];omega)) only [res24,K24,K24r0,Abs.W,reduceIte,Nat.reduceEqDiff,Nat.reduceAdd,decide_true,decide_false,kLoop_def,Nat.reduceSub,nn1]
 rw [← hw]
 simp (disch:=first|omega|(with_unfolding_all exact rfl)|(simp only[new_n,put_n,new_m];omega)|(refine put_m_le ?_;simp only[new_m];omega)) only [res24,K24r0,K24r1,K24r2,K24r3,K24r4,K24r5,K24r6,K24,Abs.W,reduceIte,Nat.reduceEqDiff,Nat.reduceAdd,decide_true,decide_false,kLoop_def,Nat.reduceSub,w0,w1,e1,Nat.zero_add]
 generalize hc:call _ _ _ (.fn 34) _ _=r1
 obtain ⟨vs,vb,t1,rfl,st1,hS⟩:=larderOf_ex c.boxes c.fills c.boxes.length hc (by omega) hCw.at_.b hCw.f ok.b ok.f ok.bok ok.fok (scal_ne hC.s3) hC.s1 hC.s3 (by omega)
 have t1m:t1.m=far:=st1.m.trans wm
 have t1n:=st1.n
 have t1l:=st1.le
 have t1g:=st1.same
 have t1u:∀ c,c<u.n→t1.h.get c=u.h.get c:=fun c hc=>(t1g c (by omega)).trans (wg c hc)
 obtain ⟨f2,c2,sc2⟩:=hC.f.scalar
 have sall:scalars [v1,v2,v3,vb]=scalars [vb]:=by rw [scal_cons _ _ hC.s1,sc2,scal_cons _ _ hC.s3]
 have scb:scalars [vb]=true:=by rw [hS.rows.scalar.2.2];rfl
 have w1':=(t1g (u.n+1) (by omega)).trans w1
 obtain ⟨y,hy⟩:∃ y:St,y=(t1.new (.cells [.int .i64 0,.int .i64 0,.nilslice,.nilslice,.nilslice,.nilslice] (tag 88))).put t1.n (.cells [.int .i64 c.hl,.int .i64 c.hh,v1,v2,v3,vb] (tag 88)):=⟨_,rfl⟩
 have yn:y.n=t1.n+1:=by rw [hy];rfl
 have ym:y.m=min t1.m t1.n:=by rw [hy];simp only [St.put,minN_eq,new_m]
 have yg:∀ c,c≠t1.n→y.h.get c=t1.h.get c:=fun c hc=>by rw [hy,get_put_ne' _ _ _ _ hc,get_new_ne _ _ _ hc]
 have y7:y.h.get t1.n=some (.cells [.int .i64 c.hl,.int .i64 c.hh,v1,v2,v3,vb] (tag 88)):=by rw [hy];exact get_put_eq _ _ _ _ rfl (by omega)
 have y3:=(yg (u.n+1) (by omega)).trans w1'
 have yu:∀ c,c<u.n→y.h.get c=u.h.get c:=fun c hc=>(yg c (by omega)).trans (t1u c hc)
 have hs1:=search_ok (N:=n) (n:=(240 - l.born).toNat) (f:=52) (cp:=[.ptr t1.n 0,.ptr (u.n+1) 0]) (fun k=>decide (l.keeps<(c.lost l (k+1)).2)) y (by omega) (by omega) (by omega) (fun k hk m =>
  last1_ok (s:=⟨y.h,y.n,m⟩) c ok l okl vs (w.n+3) k (by omega) rfl (by omega) (by show y.n+70000≤far;omega) y7 y3 (hR.grow yu (by show u.n≤y.n;omega)) (hS.mono (fun b _ hb=>yg b (by omega)) (by show t1.n≤y.n;omega)) (hC.at_.r.grow yu (by show u.n≤y.n;omega)))
 have et:((240 - l.born).toNat:Int)=240 - l.born:=by omega
 rw [et] at hs1
 have hs2:halves (fun k=>decide (l.keeps<(c.lost l (k+1)).2)) (240 - l.born).toNat 0 (240 - l.born).toNat=c.last l:=rfl
 rw [hs2] at hs1
 have ll:=(c.last_spec l).1
 have a2:∀ s,aAdd s .i64 l.born (c.last l:Int)=.val (.int .i64 (l.born+(c.last l:Int))) s:=fun s=>aAdd_i64 s _ _ (by omega)
 simp (disch:=first|omega|(with_unfolding_all exact rfl)|(simp only[new_n,put_n,new_m];omega)|(refine put_m_le ?_;simp only[new_m];omega)) only [K24r4,Abs.W,reduceIte,Nat.reduceEqDiff,Nat.reduceAdd,decide_true,decide_false,kLoop_def,Nat.reduceSub,sall,scb]
 rw [← hy]
 simp (disch:=first|omega|(with_unfolding_all exact rfl)|(simp only[new_n,put_n,new_m];omega)|(refine put_m_le ?_;simp only[new_m];omega)) only [res24,K24r0,K24r1,K24r2,K24r3,K24r4,K24r5,K24r6,K24,Abs.W,reduceIte,Nat.reduceEqDiff,Nat.reduceAdd,decide_true,decide_false,kLoop_def,Nat.reduceSub,Env.find_set,y3,w1',a1,a2,hs1,kFunc_def,leave_tmp_tmp,Nat.zero_add]
 exact ⟨_,rfl,by omega⟩
end Go.Proofs.Ytndbihaffijhbaa.walk
set_option maxRecDepth 10000
namespace Go.Abs
theorem endO_ok {M:Env} {l:List (Nat × Nat)} (s:St) (h:endOk M l=true):endO l (.ok M s)=.ok M s:=by
 show (match endOk M l with | true=>ORes.ok M s | false=>.fail)=_
 rw [h]
theorem endOk_nil (M:Env):endOk M []=true:=rfl
theorem endOk_cons {M:Env} {t u:Nat} {r:List (Nat × Nat)} (h:apartA (M.find t) (M.find u)=true):endOk M ((t,u)::r)=endOk M r:=by
 show (match apartA (M.find t) (M.find u) with | true=>endOk M r | false=>false)=_
 rw [h]
theorem apart_slice {b c o n k p:Nat} {e:Bool} (h:b≠c):apartA (.slice b o n k e) (.ptr c p)=true:=by
 unfold apartA
 simp [blockOf,nbeq_f h]
theorem Own.move {h h':Heap} {lo lo' n n' w tg:Nat} {rows:List (List AV)} {v:AV} (r:Own h lo n w tg rows v) (hh:∀ b,lo≤b→b<n→h'.get b=h.get b) (hl:lo'≤lo) (hn:n≤n'):Own h' lo' n' w tg rows v:=by
 refine ⟨r.wide,?_⟩
 rcases r.is with ⟨h1,h2 | ⟨b,h0,h3,h4,h5⟩⟩ | ⟨h1,b,h0,h3,h4,h5⟩
 ·exact .inl ⟨h1,.inl h2⟩
 ·exact .inl ⟨h1,.inr ⟨b,by omega,by omega,h4,by rw [hh b h0 h3];exact h5⟩⟩
 ·exact .inr ⟨h1,b,by omega,by omega,h4,by rw [hh b h0 h3];exact h5⟩
theorem Own.none {h h':Heap} {lo lo' n n' w tg:Nat} {rows:List (List AV)} {v:AV} (r:Own h lo n w tg rows v) (hp:plain v=true):Own h' lo' n' w tg rows v:=by
 rcases r.is with ⟨h1,h2 | ⟨b,_,_,h4,_⟩⟩ | ⟨_,b,_,_,h4,_⟩
 ·subst h1;subst h2;exact ⟨fun x hx=>(by cases hx),.inl ⟨rfl,.inl rfl⟩⟩
 ·subst h4;cases hp
 ·subst h4;cases hp
end Go.Abs
namespace Go.Proofs.Ytndbihaffijhbaa.walk
open Go.Abs Go.Proofs.Ytndbihaffijhbaa.code
end Go.Proofs.Ytndbihaffijhbaa.walk
set_option maxRecDepth 10000
namespace Go.Abs
theorem nth_skip:∀ (a l:List AV) (k:Nat),nth (a++l) (a.length+k)=nth l k
 | [],l,k=>by rw [List.length_nil,Nat.zero_add,List.nil_append]
 | x::a,l,k=>by rw [List.length_cons,List.cons_append,show a.length+1+k=(a.length+k)+1 by omega,nth_cons,if_neg (by omega)];exact nth_skip a l k
theorem nth_front:∀ (R l:List AV) (k:Nat),k<R.length→nth (R++l) k=nth R k
 | [],l,k,h=>by simp at h
 | x::R,l,0,h=>rfl
 | x::R,l,k+1,h=>by rw [List.cons_append,nth_cons,nth_cons,if_neg (by omega),if_neg (by omega),Nat.add_sub_cancel];exact nth_front R l k (by simpa using h)
end Go.Abs
namespace Go.Proofs.Ytndbihaffijhbaa.walk
open Go.Abs Go.Proofs.Ytndbihaffijhbaa.code
end Go.Proofs.Ytndbihaffijhbaa.walk
set_option maxRecDepth 10000
namespace Go.Proofs.Ytndbihaffijhbaa.walk
open Go.Abs Go.Proofs.Ytndbihaffijhbaa.code
structure TakesQ (N l p q sz n0 k:Nat) (top:Int) (x0:BoxNow) (J:List (Int × Int)→Heap→Nat→Prop):Prop where
 turn:∀ is h h' n,(∀ c,c≠p→h'.get c=h.get c)→J is h n→J is h' n
 take:∀ is (s:St) (x:BoxNow) (v:AV),x.hour<top→(is.length:Int)=x.hour→x.Like x0→J is s.h s.n→s.h.get p=some (.cells (x.cells v) sz)→s.n+10000≤far →
  ∃ s',call Try.prog X N (.yield l) [.int .i64 x.hour,.agg [.int .i64 x.i0,.int .i64 x.i1]] s=.val (.bool true) s'∧J (is++[(x.i0,x.i1)]) s'.h s'.n∧(∀ c,c<n0→c≠q→s'.h.get c=s.h.get c)∧s.n≤s'.n∧s'.n≤s.n+k∧(p≤s.m→p≤s'.m)∧s'.m≤s.m∧s'.m≤l
end Go.Proofs.Ytndbihaffijhbaa.walk
set_option maxRecDepth 10000
namespace Go.Proofs.Ytndbihaffijhbaa.walk
open Go.Abs Go.Proofs.Ytndbihaffijhbaa.code
def lastOf (is:List (Int × Int)):Int × Int:=is.getD (is.length - 1) (0,0)
structure Nows (q z:Nat) (R:ALoop) (is:List (Int × Int)) (h:Heap) (n:Nat):Prop where
 now:h.get q=some (.cells [.int .i64 (lastOf is).1,.int .i64 (lastOf is).2] (tag 98))
 loop:h.get (z+1)=some (.loop R)
 dfr:h.get z=some .dfr
 n:z+2≤n
end Go.Proofs.Ytndbihaffijhbaa.walk
set_option maxRecDepth 10000
namespace Go.Abs
theorem cut_nth {p w:Nat} {c R:List AV} (h:cut p w c=some R) (k:Nat) (hk:k<R.length):nth c (p+k)=nth R k:=by
 obtain ⟨a,t,h1,h2,h3⟩:=cut_some h
 rw [h1,← h2,List.append_assoc,nth_skip,nth_front _ _ _ hk]
theorem cut_nth0 {p w:Nat} {c R:List AV} (h:cut p w c=some R) (hk:0<R.length):nth c p=nth R 0:=cut_nth h 0 hk
end Go.Abs
namespace Go.Proofs.Ytndbihaffijhbaa.walk
open Go.Abs Go.Proofs.Ytndbihaffijhbaa.code
theorem refIn_ok (N:Nat) (hN:1≤N) (n lo hi:Int) (s:St) (hs:s.n+10≤far):call Try.prog X N (.fn 62) [.int .i64 n,.int .i64 lo,.int .i64 hi] s=.val (.bool (decide (lo≤n) && decide (n≤hi))) s:=by
 obtain ⟨N,rfl⟩:∃ n,N=n+1:=⟨N - 1,by omega⟩
 refine call_plain' Try.func62 (fun u uh un um=>?_) rfl
 have hff:far=1000000000:=rfl
 rw [enter62]
 cases h0:decide (lo≤n) with
 | true =>
  simp (disch:=first|omega|(with_unfolding_all exact rfl)|(simp only[new_n,put_n,new_m];omega)|(refine put_m_le ?_;simp only[new_m];omega)) only [res62,K62r0,K62r1s7,K62r1s6,K62r1s5,K62r1,K62,Abs.W,reduceIte,Nat.reduceEqDiff,Nat.reduceAdd,decide_true,decide_false,kLoop_def,Nat.reduceSub,h0,Bool.true_and]
  exact ⟨_,rfl,by omega⟩
 | false =>
  simp (disch:=first|omega|(with_unfolding_all exact rfl)|(simp only[new_n,put_n,new_m];omega)|(refine put_m_le ?_;simp only[new_m];omega)) only [res62,K62r0,K62r1s7,K62r1s6,K62r1s5,K62r1,K62,Abs.W,reduceIte,Nat.reduceEqDiff,Nat.reduceAdd,decide_true,decide_false,kLoop_def,Nat.reduceSub,h0,Bool.false_and]
  exact ⟨_,rfl,by omega⟩
def inBox (ts:List Stay) (hour:Int):Int:=match ts.find? (hit hour) with
 | some t=>t.box
 | none => -1
theorem in_loop (N:Nat) (hN:1≤N) (cx:Ctx) (ts:List Stay) (v4 a0 a1:AV) (p2 z:Nat) (hour:Int) (s:St) (hs:s.n+100≤far) (hR:RowsAt s.h s.n 3 (ts.map Stay.cells) v4) (hb:∀ t ∈ ts,0≤t.to∧t.to≤1000) (g2:s.h.get p2=some (.cells [a0,a1,v4] z)) (hk:ts.length≤100) :
  ∀ (m i fuel:Nat) (L:Env),i+m=ts.length→m<fuel→L.find 1=.int .i64 hour→L.find 2=.ptr p2 0→L.find 5=.int .i64 i →
   ∃ e L',loopN K38l0 fuel (call Try.prog X N) cx L [] s=.done e L' [] s∧(match (ts.drop i).find? (hit hour) with
    | some t=>e=.ret∧L'.find 4=.int .i64 t.box
    | none=>e=.exit 0)
 | m,i,0,L,hm,hf,h1,h2,h5=>by omega
 | m,i,fuel+1,L,hm,hf,h1,h2,h5=>by
  have hff:far=1000000000:=rfl
  have hlen:=hR.len
  rw [List.length_map] at hlen
  have ok4:∀ t,okA (.val v4 t)=.val v4 t:=fun t=>okA_ne hR.ne
  by_cases hi:i<ts.length
  ·obtain ⟨m',rfl⟩:∃ m',m=m'+1:=⟨m - 1,by omega⟩
   obtain ⟨b,p,c,sz,hbn,hix,hg,hcut⟩:=hR.at_ i (by simpa using hi)
   rw [List.getElem_map] at hcut
   have hbt:=hb _ (List.getElem_mem hi)
   rw [List.drop_eq_getElem_cons hi,List.find?_cons]
   have e0:decide ((i:Int)<(ts.length:Int))=true:=by simp;omega
   have c0:nth c p=.int .i64 (ts[i]).box:=cut_nth0 hcut (show 0<3 from by omega)
   have c1:nth c (p+1)=.int .i64 (ts[i]).fro:=cut_nth hcut 1 (show 1<3 from by omega)
   have c2:nth c (p+2)=.int .i64 (ts[i]).to:=cut_nth hcut 2 (show 2<3 from by omega)
   have a1':∀ s,aSub s .i64 (ts[i]).to 1=.val (.int .i64 ((ts[i]).to - 1)) s:=fun s=>aSub_i64 s _ _ (by omega)
   have a2':∀ s,aAdd s .i64 (i:Int) 1=.val (.int .i64 ((i:Int)+1)) s:=fun s=>aAdd_i64 s _ _ (by omega)
   have hw:=refIn_ok N hN hour (ts[i]).fro ((ts[i]).to - 1) s (by omega)
   have hh:(decide ((ts[i]).fro≤hour) && decide (hour≤(ts[i]).to - 1))=hit hour ts[i]:=by
    unfold hit
    congr 1
    simp only [decide_eq_decide]
    omega
   rw [hh] at hw
   rw [loopN_succ]
   cases hb2:hit hour ts[i] with
   | true =>
    rw [hb2] at hw
    simp (disch:=first|omega|(with_unfolding_all exact rfl)|(simp only[new_n,put_n,new_m];omega)|(refine put_m_le ?_;simp only[new_m];omega)) only [res38,K38r0,K38r1,K38r2,K38r3,K38r4,K38r5,K38l0,K38r6,K38,Abs.W,reduceIte,Nat.reduceEqDiff,Nat.reduceAdd,decide_true,decide_false,kLoop_def,Nat.reduceSub,Env.find_set,h1,h2,h5,g2,ok4,hlen,e0,hix,hg,c0,c1,c2,a1',hw,endO_nil,regD_ok,Nat.add_zero,Nat.zero_add]
    exact ⟨_,_,rfl,rfl,by simp only [Env.find_set,reduceIte]⟩
   | false =>
    rw [hb2] at hw
    obtain ⟨e,L2,r1,r2⟩:=in_loop N hN cx ts v4 a0 a1 p2 z hour s hs hR hb g2 hk m' (i+1) fuel (((L.set 10 (.bool true)).set 27 (.bool false)).set 5 (.int .i64 ((i:Int)+1))) (by omega) (by omega) (by simp only [Env.find_set,h1,reduceIte,Nat.reduceEqDiff]) (by simp only [Env.find_set,h2,reduceIte,Nat.reduceEqDiff]) (by simp only [Env.find_set,reduceIte];rfl)
    refine ⟨e,L2,?_,r2⟩
    rw [← r1]
    simp (disch:=first|omega|(with_unfolding_all exact rfl)|(simp only[new_n,put_n,new_m];omega)|(refine put_m_le ?_;simp only[new_m];omega)) only [res38,K38r0,K38r1,K38r2,K38r3,K38r4,K38r5,K38l0,K38r6,K38,Abs.W,reduceIte,Nat.reduceEqDiff,Nat.reduceAdd,decide_true,decide_false,kLoop_def,Nat.reduceSub,Env.find_set,h1,h2,h5,g2,ok4,hlen,e0,hix,hg,c0,c1,c2,a1',a2',hw,endO_nil,regD_ok,Nat.add_zero,Nat.zero_add]
  ·have e0:decide ((i:Int)<(ts.length:Int))=false:=by simp;omega
   rw [List.drop_eq_nil_of_le (by omega),loopN_succ]
   simp (disch:=first|omega|(with_unfolding_all exact rfl)|(simp only[new_n,put_n,new_m];omega)|(refine put_m_le ?_;simp only[new_m];omega)) only [res38,K38r0,K38r1,K38r2,K38r3,K38r4,K38r5,K38l0,K38r6,K38,Abs.W,reduceIte,Nat.reduceEqDiff,Nat.reduceAdd,decide_true,decide_false,kLoop_def,Nat.reduceSub,Env.find_set,h1,h2,h5,g2,ok4,hlen,e0,Nat.add_zero,Nat.zero_add]
   exact ⟨_,_,rfl,rfl⟩
theorem In_ok (N:Nat) (hN:2≤N) (ts:List Stay) (born keeps hour:Int) (v4:AV) (s:St) (hs:s.n+200≤far) (hR:RowsAt s.h s.n 3 (ts.map Stay.cells) v4) (hb:∀ t ∈ ts,0≤t.to∧t.to≤1000) (hk:ts.length≤100) :
  call Try.prog X N (.fn 38) [.agg [.int .i64 born,.int .i64 keeps,v4],.int .i64 hour] s=.val (.int .i64 (inBox ts hour)) s:=by
 obtain ⟨n,rfl⟩:∃ n,N=n+1:=⟨N - 1,by omega⟩
 refine call_plain' Try.func38 (fun u uh un um=>?_) rfl
 have hff:far=1000000000:=rfl
 rw [← uh,← un] at hR
 obtain ⟨w,hw⟩:∃ w:St,w=u.new (.cells [.int .i64 born,.int .i64 keeps,v4] (tag 35)):=⟨_,rfl⟩
 have wn:w.n=u.n+1:=by rw [hw];rfl
 have wm:w.m=far:=by rw [hw];exact um
 have wg:∀ c,c<u.n→w.h.get c=u.h.get c:=fun c hc=>by rw [hw,get_new_ne _ _ _ (by omega)]
 have w0:w.h.get u.n=some (.cells [.int .i64 born,.int .i64 keeps,v4] (tag 35)):=by rw [hw];exact get_new_eq _ _ _ rfl (by omega)
 rw [enter38]
 simp (disch:=first|omega|(with_unfolding_all exact rfl)|(simp only[new_n,put_n,new_m];omega)|(refine put_m_le ?_;simp only[new_m];omega)) only [res38,K38r0,K38r1,K38r2,K38r3,K38r4,K38r5,K38r6,K38,Abs.W,reduceIte,Nat.reduceEqDiff,Nat.reduceAdd,decide_true,decide_false,kLoop_def,Nat.reduceSub]
 rw [← hw]
 generalize hLe:Env.cons 0 _ _=L0
 obtain ⟨e,L',h1,h2⟩:=in_loop n (by omega) ⟨38,none,Try.f38.ntmps,X 38⟩ ts v4 (.int .i64 born) (.int .i64 keeps) u.n _ hour w (by omega) (hR.grow wg (by omega)) hb w0 hk ts.length 0 rounds L0 (by omega) (by unfold rounds;omega) (by rw [← hLe];simp only [find_cons,reduceIte,Nat.reduceEqDiff]) (by rw [← hLe];simp only [find_cons,reduceIte,Nat.reduceEqDiff]) (by rw [← hLe];simp only [find_cons,reduceIte,Nat.reduceEqDiff];rfl)
 rw [List.drop_zero] at h2
 unfold inBox
 cases hf:ts.find? (hit hour) with
 | some t =>
  rw [hf] at h2
  obtain ⟨rfl,h4⟩:=h2
  simp (disch:=first|omega|(with_unfolding_all exact rfl)|(simp only[new_n,put_n,new_m];omega)|(refine put_m_le ?_;simp only[new_m];omega)) only [res38,K38r0,K38r1,K38r2,K38r3,K38r4,K38r5,K38r6,K38,Abs.W,reduceIte,Nat.reduceEqDiff,Nat.reduceAdd,decide_true,decide_false,kLoop_def,Nat.reduceSub,h1,h4]
  exact ⟨_,rfl,by omega⟩
 | none =>
  rw [hf] at h2
  obtain rfl:=h2
  simp (disch:=first|omega|(with_unfolding_all exact rfl)|(simp only[new_n,put_n,new_m];omega)|(refine put_m_le ?_;simp only[new_m];omega)) only [res38,K38r0,K38r1,K38r2,K38r3,K38r4,K38r5,K38r6,K38,Abs.W,reduceIte,Nat.reduceEqDiff,Nat.reduceAdd,decide_true,decide_false,kLoop_def,Nat.reduceSub,h1,Env.find_set]
  exact ⟨_,rfl,by omega⟩
/-! ### Losses -/
def lossAll (t:Int):Int→List Rate→Int
 | cur,[]=>cur
 | cur,r::rs=>lossAll t (if r.above≤t then r.loss else cur) rs
theorem lossAll_eq (rs:List Rate) (ro:∀ i (h:i<rs.length),(rateBefore rs i).above<(rs[i]).above∧(rateBefore rs i).loss≤(rs[i]).loss) (t:Int) :
  ∀ (m j:Nat) (cur:Int),j+m=rs.length→lossAll t cur (rs.drop j)=lossFrom t cur (rs.drop j)∧((t<(rateBefore rs j).above)→lossAll t cur (rs.drop j)=cur)
 | 0,j,cur,hm=>by
  rw [List.drop_of_length_le (by omega)]
  exact ⟨rfl,fun _=>rfl⟩
 | m+1,j,cur,hm=>by
  have hj:j<rs.length:=by omega
  have hb:rateBefore rs (j+1)=rs[j]:=by simp only [rateBefore,List.getElem?_eq_getElem hj]
  have r1:=(ro j hj).1
  rw [List.drop_eq_getElem_cons hj]
  unfold lossAll lossFrom
  by_cases e:t<(rs[j]).above
  ·rw [if_pos e,if_neg (by omega)]
   have ih:=(lossAll_eq rs ro t m (j+1) cur (by omega)).2 (by rw [hb];exact e)
   exact ⟨ih,fun _=>ih⟩
  ·rw [if_neg e,if_pos (by omega)]
   have ih:=lossAll_eq rs ro t m (j+1) (rs[j]).loss (by omega)
   exact ⟨ih.1,fun h=>absurd h (by omega)⟩
theorem lossR_loop (N:Nat) (cx:Ctx) (rs:List Rate) (a0 a1 v1 v2 v3:AV) (p2 z:Nat) (t:Int) (s:St) (hR:RowsAt s.h s.n 2 (rs.map Rate.cells) v3) (g2:s.h.get p2=some (.cells [a0,a1,v1,v2,v3] z)) (hk:rs.length≤100) :
  ∀ (m i fuel:Nat) (cur:Int) (L:Env),i+m=rs.length→m<fuel→L.find 1=.int .i64 t→L.find 2=.ptr p2 0→L.find 6=.int .i64 i→L.find 5=.int .i64 cur →
   ∃ L',loopN K39l0 fuel (call Try.prog X N) cx L [] s=.done (.exit 0) L' [] s∧L'.find 5=.int .i64 (lossAll t cur (rs.drop i))
 | m,i,0,cur,L,hm,hf,h1,h2,h6,h5=>by omega
 | m,i,fuel+1,cur,L,hm,hf,h1,h2,h6,h5=>by
  have hlen:=hR.len
  rw [List.length_map] at hlen
  have ok3:∀ t,okA (.val v3 t)=.val v3 t:=fun t=>okA_ne hR.ne
  by_cases hi:i<rs.length
  ·obtain ⟨m',rfl⟩:∃ m',m=m'+1:=⟨m - 1,by omega⟩
   obtain ⟨b,p,c,sz,hbn,hix,hg,hcut⟩:=hR.at_ i (by simpa using hi)
   rw [List.getElem_map] at hcut
   rw [List.drop_eq_getElem_cons hi]
   unfold lossAll
   have e0:decide ((i:Int)<(rs.length:Int))=true:=by simp;omega
   have c0:nth c p=.int .i64 (rs[i]).above:=cut_nth0 hcut (show 0<2 from by omega)
   have c1:nth c (p+1)=.int .i64 (rs[i]).loss:=cut_nth hcut 1 (show 1<2 from by omega)
   have a2':∀ s,aAdd s .i64 (i:Int) 1=.val (.int .i64 ((i:Int)+1)) s:=fun s=>aAdd_i64 s _ _ (by omega)
   rw [loopN_succ]
   by_cases e1:(rs[i]).above≤t
   ·rw [if_pos e1]
    have e1':decide ((rs[i]).above≤t)=true:=decide_eq_true e1
    simp (disch:=first|omega|(with_unfolding_all exact rfl)|(simp only[new_n,put_n,new_m];omega)|(refine put_m_le ?_;simp only[new_m];omega)) only [res39,K39r0,K39r1,K39r2,K39r3,K39r4,K39r5,K39r6,K39l0,K39r7,K39,Abs.W,reduceIte,Nat.reduceEqDiff,Nat.reduceAdd,decide_true,decide_false,kLoop_def,Nat.reduceSub,Env.find_set,h1,h2,h5,h6,g2,ok3,hlen,e0,hix,hg,c0,c1,e1',a2',Nat.add_zero,Nat.zero_add]
    exact lossR_loop N cx rs a0 a1 v1 v2 v3 p2 z t s hR g2 hk m' (i+1) fuel _ _ (by omega) (by omega) (by simp only [Env.find_set,h1,reduceIte,Nat.reduceEqDiff]) (by simp only [Env.find_set,h2,reduceIte,Nat.reduceEqDiff]) (by simp only [Env.find_set,reduceIte];rfl) (by simp only [Env.find_set,reduceIte,Nat.reduceEqDiff])
   ·rw [if_neg e1]
    have e1':decide ((rs[i]).above≤t)=false:=decide_eq_false e1
    simp (disch:=first|omega|(with_unfolding_all exact rfl)|(simp only[new_n,put_n,new_m];omega)|(refine put_m_le ?_;simp only[new_m];omega)) only [res39,K39r0,K39r1,K39r2,K39r3,K39r4,K39r5,K39r6,K39l0,K39r7,K39,Abs.W,reduceIte,Nat.reduceEqDiff,Nat.reduceAdd,decide_true,decide_false,kLoop_def,Nat.reduceSub,Env.find_set,h1,h2,h5,h6,g2,ok3,hlen,e0,hix,hg,c0,c1,e1',a2',Nat.add_zero,Nat.zero_add]
    exact lossR_loop N cx rs a0 a1 v1 v2 v3 p2 z t s hR g2 hk m' (i+1) fuel _ _ (by omega) (by omega) (by simp only [Env.find_set,h1,reduceIte,Nat.reduceEqDiff]) (by simp only [Env.find_set,h2,reduceIte,Nat.reduceEqDiff]) (by simp only [Env.find_set,reduceIte];rfl) (by simp only [Env.find_set,h5,reduceIte,Nat.reduceEqDiff])
  ·have e0:decide ((i:Int)<(rs.length:Int))=false:=by simp;omega
   rw [List.drop_eq_nil_of_le (by omega),loopN_succ]
   simp (disch:=first|omega|(with_unfolding_all exact rfl)|(simp only[new_n,put_n,new_m];omega)|(refine put_m_le ?_;simp only[new_m];omega)) only [res39,K39r0,K39r1,K39r2,K39r3,K39r4,K39r5,K39r6,K39l0,K39r7,K39,Abs.W,reduceIte,Nat.reduceEqDiff,Nat.reduceAdd,decide_true,decide_false,kLoop_def,Nat.reduceSub,Env.find_set,h1,h2,h5,h6,g2,ok3,hlen,e0,Nat.add_zero,Nat.zero_add]
   exact ⟨_,rfl,by simp only [Env.find_set,h5,reduceIte,Nat.reduceEqDiff];rfl⟩
theorem LossR_ok (N:Nat) (hN:1≤N) (c:Cellar) (ok:c.Ok) (v1 v2 v3:AV) (t:Int) (s:St) (hR:RowsAt s.h s.n 2 (c.rates.map Rate.cells) v3) (hs:s.n+100≤far) :
  call Try.prog X N (.fn 39) [.agg [.int .i64 c.hl,.int .i64 c.hh,v1,v2,v3],.int .i64 t] s=.val (.int .i64 (lossFrom t 0 c.rates)) s:=by
 obtain ⟨n,rfl⟩:∃ n,N=n+1:=⟨N - 1,by omega⟩
 refine call_plain' Try.func39 (fun u uh un um=>?_) rfl
 have hff:far=1000000000:=rfl
 rw [← uh,← un] at hR
 obtain ⟨w,hw⟩:∃ w:St,w=u.new (.cells [.int .i64 c.hl,.int .i64 c.hh,v1,v2,v3] (tag 31)):=⟨_,rfl⟩
 have wn:w.n=u.n+1:=by rw [hw];rfl
 have wm:w.m=far:=by rw [hw];exact um
 have wg:∀ c,c<u.n→w.h.get c=u.h.get c:=fun c hc=>by rw [hw,get_new_ne _ _ _ (by omega)]
 have w0:w.h.get u.n=some (.cells [.int .i64 c.hl,.int .i64 c.hh,v1,v2,v3] (tag 31)):=by rw [hw];exact get_new_eq _ _ _ rfl (by omega)
 have hle:=(lossAll_eq c.rates ok.ro t c.rates.length 0 0 (by omega)).1
 rw [List.drop_zero] at hle
 rw [enter39]
 simp (disch:=first|omega|(with_unfolding_all exact rfl)|(simp only[new_n,put_n,new_m];omega)|(refine put_m_le ?_;simp only[new_m];omega)) only [res39,K39r0,K39r1,K39r2,K39r3,K39r4,K39r5,K39r6,K39r7,K39,Abs.W,reduceIte,Nat.reduceEqDiff,Nat.reduceAdd,decide_true,decide_false,kLoop_def,Nat.reduceSub]
 rw [← hw]
 generalize hLe:Env.cons 0 _ _=L0
 obtain ⟨L',h1,h2⟩:=lossR_loop n ⟨39,none,Try.f39.ntmps,X 39⟩ c.rates (.int .i64 c.hl) (.int .i64 c.hh) v1 v2 v3 u.n _ t w (hR.grow wg (by omega)) w0 (by have:=ok.r;omega) c.rates.length 0 rounds 0 L0 (by omega) (by unfold rounds;have:=ok.r;omega) (by rw [← hLe];simp only [find_cons,reduceIte,Nat.reduceEqDiff]) (by rw [← hLe];simp only [find_cons,reduceIte,Nat.reduceEqDiff]) (by rw [← hLe];simp only [find_cons,reduceIte,Nat.reduceEqDiff];rfl) (by rw [← hLe];simp only [find_cons,reduceIte,Nat.reduceEqDiff])
 rw [List.drop_zero,hle] at h2
 simp (disch:=first|omega|(with_unfolding_all exact rfl)|(simp only[new_n,put_n,new_m];omega)|(refine put_m_le ?_;simp only[new_m];omega)) only [res39,K39r0,K39r1,K39r2,K39r3,K39r4,K39r5,K39r6,K39r7,K39,Abs.W,reduceIte,Nat.reduceEqDiff,Nat.reduceAdd,decide_true,decide_false,kLoop_def,Nat.reduceSub,Env.find_set,h1,h2]
 exact ⟨_,rfl,by omega⟩
end Go.Proofs.Ytndbihaffijhbaa.walk
set_option maxRecDepth 10000
namespace Go.Proofs.Ytndbihaffijhbaa.walk
open Go.Abs Go.Proofs.Ytndbihaffijhbaa.code
def pour (room box h:Int):Int→List Fill→Int
 | i,[]=>i
 | i,f::fs=>pour room box h (if f.box=box∧f.hour=h then min room (i+f.grams) else i) fs
theorem pour_range {room box h:Int} (hr:0≤room∧room≤1000000):∀ (fs:List Fill) (i:Int),(∀ f ∈ fs,0≤f.grams)→0≤i∧i≤1000000→0≤pour room box h i fs∧pour room box h i fs≤1000000
 | [],i,_,hi=>hi
 | f::fs,i,hf,hi=>by
  unfold pour
  have h0:=hf f (List.mem_cons_self ..)
  refine pour_range hr fs _ (fun f hff=>hf f (List.mem_cons_of_mem _ hff)) ?_
  split<;>omega
def fallN (room box:Int) (fs:List Fill) (melt:Nat→Int):Nat→Nat→Int→Int
 | 0,h,i=>pour room box h i fs
 | m+1,h,i=>fallN room box fs melt m (h+1) (max 0 (pour room box h i fs - melt h))
theorem fallin_loop (N:Nat) (cx:Ctx) (fs:List Fill) (v2 a0 a1 v1 v3:AV) (p5 z:Nat) (room box h:Int) (u:St) (hu:u.n+100000≤far) (hR:RowsAt u.h u.n 3 (fs.map Fill.cells) v2) (hk:fs.length≤20) (hf:∀ f ∈ fs,0≤f.grams∧f.grams≤1000000) (hr:0≤room∧room≤1000000)
  (hp:p5<u.n) (g5:u.h.get p5=some (.cells [a0,a1,v1,v2,v3] z)) :
  ∀ (m i fuel k:Nat) (ice:Int) (L:Env) (s:St),i+m=fs.length→m<fuel→k+m≤90000→Beside u s k→0≤ice∧ice≤1000000→L.find 1=.int .i64 box→L.find 2=.int .i64 ice→L.find 5=.ptr p5 0→L.find 11=.int .i64 room→L.find 12=.int .i64 h→L.find 13=.int .i64 i →
   ∃ L' s',loopN K18l0 fuel (call Try.prog X N) cx L [] s=.done (.exit 2) L' [] s'∧L'.find 2=.int .i64 (pour room box h ice (fs.drop i))∧(∀ t,t=1∨t=3∨t=4∨t=5∨t=11∨t=12→L'.find t=L.find t)∧Beside u s' (k+m)
 | m,i,0,k,ice,L,s,hm,hfu,hkm,hE,hi,l1,l2,l5,l11,l12,l13=>by omega
 | m,i,fuel+1,k,ice,L,s,hm,hfu,hkm,hE,hi,l1,l2,l5,l11,l12,l13=>by
  have hff:far=1000000000:=rfl
  have hlen:=hR.len
  rw [List.length_map] at hlen
  have ok2:∀ t,okA (.val v2 t)=.val v2 t:=fun t=>okA_ne hR.ne
  have q1:=hE.n
  have q2:=hE.le
  have g5':=(hE.same p5 hp).trans g5
  by_cases hlt:i<fs.length
  ·obtain ⟨m',rfl⟩:∃ m',m=m'+1:=⟨m - 1,by omega⟩
   obtain ⟨b,p,c,sz,hbn,hix,hg,hcut⟩:=hR.at_ i (by simpa using hlt)
   rw [List.getElem_map] at hcut
   have hgr:=hf _ (List.getElem_mem hlt)
   rw [List.drop_eq_getElem_cons hlt]
   unfold pour
   generalize fs[i]=F at hcut hgr ⊢
   unfold Fill.cells at hcut
   have hg':=(hE.same b hbn).trans hg
   have e0:decide ((i:Int)<(fs.length:Int))=true:=by simp;omega
   have a2':∀ s,aAdd s .i64 (i:Int) 1=.val (.int .i64 ((i:Int)+1)) s:=fun s=>aAdd_i64 s _ _ (by omega)
   have a3':∀ s,aAdd s .i64 ice F.grams=.val (.int .i64 (ice+F.grams)) s:=fun s=>aAdd_i64 s _ _ (by omega)
   have step:∀ ice2:Int,0≤ice2∧ice2≤1000000→∀ L2:Env,L2.find 1=.int .i64 box→L2.find 2=.int .i64 ice2→L2.find 5=.ptr p5 0→L2.find 11=.int .i64 room→L2.find 12=.int .i64 h→L2.find 13=.int .i64 ((i:Int)+1)→(∀ t,t=1∨t=3∨t=4∨t=5∨t=11∨t=12→L2.find t=L.find t) →
     ∀ o1 o2,∃ L' s',loopN K18l0 fuel (call Try.prog X N) cx L2 [] ((s.new o1).put s.n o2)=.done (.exit 2) L' [] s'∧L'.find 2=.int .i64 (pour room box h ice2 (fs.drop (i+1)))∧(∀ t,t=1∨t=3∨t=4∨t=5∨t=11∨t=12→L'.find t=L.find t)∧Beside u s' (k+(m'+1)):=fun ice2 hi2 L2 r1 r2 r5 r11 r12 r13 rk o1 o2=>by
    obtain ⟨L',s',w1,w2,w3,w4⟩:=fallin_loop N cx fs v2 a0 a1 v1 v3 p5 z room box h u hu hR hk hf hr hp g5 m' (i+1) fuel (k+1) ice2 L2 ((s.new o1).put s.n o2) (by omega) (by omega) (by omega) ((hE.new _).put _ q1) hi2 r1 r2 r5 r11 r12 (by rw [r13];rfl)
    exact ⟨L',s',w1,w2,fun t ht=>(w3 t ht).trans (rk t ht),w4.mono (by omega)⟩
   rw [loopN_succ]
   by_cases e1:F.box=box
   ·have e1':decide (F.box=box)=true:=decide_eq_true e1
    by_cases e2:F.hour=h
    ·have e2':decide (F.hour=h)=true:=decide_eq_true e2
     rw [if_pos ⟨e1,e2⟩]
     simp (disch:=first|omega|(with_unfolding_all exact rfl)|(simp only[new_n,put_n,new_m];omega)|(refine put_m_le ?_;simp only[new_m];omega)) only [res18,K18r0,K18r1,K18r2,K18r3,K18r4,K18r5,K18r6s9,K18r6s8,K18r6s7,K18r6s6,K18r6,K18r7,K18r8,K18l0,K18r9,K18r10,K18r11,K18r12,K18l1,K18,Abs.W,reduceIte,Nat.reduceEqDiff,Nat.reduceAdd,decide_true,decide_false,kLoop_def,Nat.reduceSub,Env.find_set,l1,l2,l5,l11,l12,l13,g5',ok2,hlen,e0,hix,hg',hcut,e1',e2',a2',a3',kFold_def,foldA_nil,foldA_cons,minA_i64,Nat.add_zero,Nat.zero_add]
     refine step (min room (ice+F.grams)) (by omega) _ ?_ ?_ ?_ ?_ ?_ ?_ (fun t ht=>?_) _ _
     all_goals first | (rcases ht with rfl | rfl | rfl | rfl | rfl | rfl<;>simp only [Env.find_set,reduceIte,Nat.reduceEqDiff]) | simp only [Env.find_set,l1,l2,l5,l11,l12,l13,reduceIte,Nat.reduceEqDiff]
    ·have e2':decide (F.hour=h)=false:=decide_eq_false e2
     rw [if_neg (fun hh=>e2 hh.2)]
     simp (disch:=first|omega|(with_unfolding_all exact rfl)|(simp only[new_n,put_n,new_m];omega)|(refine put_m_le ?_;simp only[new_m];omega)) only [res18,K18r0,K18r1,K18r2,K18r3,K18r4,K18r5,K18r6s9,K18r6s8,K18r6s7,K18r6s6,K18r6,K18r7,K18r8,K18l0,K18r9,K18r10,K18r11,K18r12,K18l1,K18,Abs.W,reduceIte,Nat.reduceEqDiff,Nat.reduceAdd,decide_true,decide_false,kLoop_def,Nat.reduceSub,Env.find_set,l1,l2,l5,l11,l12,l13,g5',ok2,hlen,e0,hix,hg',hcut,e1',e2',a2',Nat.add_zero,Nat.zero_add]
     refine step ice hi _ ?_ ?_ ?_ ?_ ?_ ?_ (fun t ht=>?_) _ _
     all_goals first | (rcases ht with rfl | rfl | rfl | rfl | rfl | rfl<;>simp only [Env.find_set,reduceIte,Nat.reduceEqDiff]) | simp only [Env.find_set,l1,l2,l5,l11,l12,l13,reduceIte,Nat.reduceEqDiff]
   ·have e1':decide (F.box=box)=false:=decide_eq_false e1
    rw [if_neg (fun hh=>e1 hh.1)]
    simp (disch:=first|omega|(with_unfolding_all exact rfl)|(simp only[new_n,put_n,new_m];omega)|(refine put_m_le ?_;simp only[new_m];omega)) only [res18,K18r0,K18r1,K18r2,K18r3,K18r4,K18r5,K18r6s9,K18r6s8,K18r6s7,K18r6s6,K18r6,K18r7,K18r8,K18l0,K18r9,K18r10,K18r11,K18r12,K18l1,K18,Abs.W,reduceIte,Nat.reduceEqDiff,Nat.reduceAdd,decide_true,decide_false,kLoop_def,Nat.reduceSub,Env.find_set,l1,l2,l5,l11,l12,l13,g5',ok2,hlen,e0,hix,hg',hcut,e1',a2',Nat.add_zero,Nat.zero_add]
    refine step ice hi _ ?_ ?_ ?_ ?_ ?_ ?_ (fun t ht=>?_) _ _
    all_goals first | (rcases ht with rfl | rfl | rfl | rfl | rfl | rfl<;>simp only [Env.find_set,reduceIte,Nat.reduceEqDiff]) | simp only [Env.find_set,l1,l2,l5,l11,l12,l13,reduceIte,Nat.reduceEqDiff]
  ·have e0:decide ((i:Int)<(fs.length:Int))=false:=by simp;omega
   rw [List.drop_eq_nil_of_le (by omega),loopN_succ]
   simp (disch:=first|omega|(with_unfolding_all exact rfl)|(simp only[new_n,put_n,new_m];omega)|(refine put_m_le ?_;simp only[new_m];omega)) only [res18,K18r0,K18r1,K18r2,K18r3,K18r4,K18r5,K18r6s9,K18r6s8,K18r6s7,K18r6s6,K18r6,K18r7,K18r8,K18l0,K18r9,K18r10,K18r11,K18r12,K18l1,K18,Abs.W,reduceIte,Nat.reduceEqDiff,Nat.reduceAdd,decide_true,decide_false,kLoop_def,Nat.reduceSub,Env.find_set,l1,l2,l5,l11,l12,l13,g5',ok2,hlen,e0,Nat.add_zero,Nat.zero_add]
   refine ⟨_,_,rfl,by simp only [Env.find_set,l2,reduceIte,Nat.reduceEqDiff];rfl,fun t ht=>?_,hE.mono (by omega)⟩
   rcases ht with rfl | rfl | rfl | rfl | rfl | rfl<;>simp only [Env.find_set,reduceIte,Nat.reduceEqDiff]
def ints (l:List Int):List (List AV):=l.map fun x=>[.int .i64 x]
theorem ints_at {h:Heap} {n:Nat} {l:List Int} {v:AV} (r:RowsAt h n 1 (ints l) v) {i:Nat} (hi:i<l.length):∃ b p c sz,b<n∧(∀ s,ixsA 1 s v (.int .i64 i)=.val (.ptr b p) s)∧h.get b=some (.cells c sz)∧nth c p=.int .i64 l[i]:=by
 obtain ⟨b,p,c,sz,hbn,hix,hg,hcut⟩:=r.at_ i (by unfold ints;simpa using hi)
 unfold ints at hcut
 rw [List.getElem_map] at hcut
 exact ⟨b,p,c,sz,hbn,hix,hg,cut_nth0 hcut (show 0<1 from by omega)⟩
theorem fallout_loop (N:Nat) (cx:Ctx) (fs:List Fill) (ms:List Int) (d0:Int) (vm v2 a0 a1 v1 v3:AV) (p5 z hour:Nat) (room box:Int) (u:St) (hu:u.n+100000≤far) (hR:RowsAt u.h u.n 3 (fs.map Fill.cells) v2) (hk:fs.length≤20) (hf:∀ f ∈ fs,0≤f.grams∧f.grams≤1000000) (hr:0≤room∧room≤1000000)
  (hp:p5<u.n) (g5:u.h.get p5=some (.cells [a0,a1,v1,v2,v3] z)) (hM:RowsAt u.h u.n 1 (ints ms) vm) (hml:hour≤ms.length) (hmr:∀ x ∈ ms,0≤x∧x≤1000000) (hh:hour≤1000) :
  ∀ (m h fuel k:Nat) (ice:Int) (L:Env) (s:St),h+m=hour→m<fuel→k+20 * (m+1)≤90000→Beside u s k→0≤ice∧ice≤1000000→L.find 1=.int .i64 box→L.find 2=.int .i64 ice→L.find 3=vm→L.find 4=.int .i64 hour→L.find 5=.ptr p5 0→L.find 11=.int .i64 room→L.find 12=.int .i64 h →
   ∃ L' s',loopN K18l1 fuel (call Try.prog X N) cx L [] s=.done .ret L' [] s'∧L'.find 10=.int .i64 (fallN room box fs (fun h=>ms.getD h d0) m h ice)∧Beside u s' (k+20 * (m+1))
 | m,h,0,k,ice,L,s,hm,hfu,hkm,hE,hi,l1,l2,l3,l4,l5,l11,l12=>by omega
 | m,h,fuel+1,k,ice,L,s,hm,hfu,hkm,hE,hi,l1,l2,l3,l4,l5,l11,l12=>by
  have hff:far=1000000000:=rfl
  obtain ⟨L1,s1,r1,r2,r3,r4⟩:=fallin_loop N cx fs v2 a0 a1 v1 v3 p5 z room box h u hu hR hk hf hr hp g5 fs.length 0 rounds k ice (L.set 13 (.int .i64 0)) s (by omega) (by unfold rounds;omega) (by omega) hE hi (by simp only [Env.find_set,l1,reduceIte,Nat.reduceEqDiff]) (by simp only [Env.find_set,l2,reduceIte,Nat.reduceEqDiff]) (by simp only [Env.find_set,l5,reduceIte,Nat.reduceEqDiff]) (by simp only [Env.find_set,l11,reduceIte,Nat.reduceEqDiff]) (by simp only [Env.find_set,l12,reduceIte,Nat.reduceEqDiff]) (by simp only [Env.find_set,reduceIte];rfl)
  rw [List.drop_zero] at r2
  have hpr:=pour_range (box:=box) (h:=(h:Int)) hr fs ice (fun f hff=>(hf f hff).1) hi
  have f1:L1.find 1=.int .i64 box:=(r3 1 (by simp)).trans (by simp only [Env.find_set,l1,reduceIte,Nat.reduceEqDiff])
  have f3:L1.find 3=vm:=(r3 3 (by simp)).trans (by simp only [Env.find_set,l3,reduceIte,Nat.reduceEqDiff])
  have f4:L1.find 4=.int .i64 hour:=(r3 4 (by simp)).trans (by simp only [Env.find_set,l4,reduceIte,Nat.reduceEqDiff])
  have f5:L1.find 5=.ptr p5 0:=(r3 5 (by simp)).trans (by simp only [Env.find_set,l5,reduceIte,Nat.reduceEqDiff])
  have f11:L1.find 11=.int .i64 room:=(r3 11 (by simp)).trans (by simp only [Env.find_set,l11,reduceIte,Nat.reduceEqDiff])
  have f12:L1.find 12=.int .i64 h:=(r3 12 (by simp)).trans (by simp only [Env.find_set,l12,reduceIte,Nat.reduceEqDiff])
  have kl:K18l1=kSeq (kBlock 1 (kSeq (kSeq (kRegion K18r3 [13]) (kBlock 2 (kLoop K18l0))) (kSeq (kSeq (kRegion K18r9 [53]) (kCond (.tmp 53) (kSeq (kRegion K18r10 [10]) kRet) kSkip)) (kRegion K18r11 [2])))) (kRegion K18r12 [12]):=rfl
  rw [loopN_succ,kl]
  cases m with
  | zero =>
   have e0:decide ((h:Int)=(hour:Int))=true:=decide_eq_true (by omega)
   simp (disch:=first|omega|(with_unfolding_all exact rfl)|(simp only[new_n,put_n,new_m];omega)|(refine put_m_le ?_;simp only[new_m];omega)) only [K18r3,K18r9,K18r10,Abs.W,reduceIte,Nat.reduceEqDiff,Nat.reduceAdd,decide_true,decide_false,kLoop_def,Nat.reduceSub,Env.find_set,r1,r2,f1,f3,f4,f5,f11,f12,e0]
   exact ⟨_,_,rfl,by simp only [Env.find_set,reduceIte];rfl,r4.mono (by omega)⟩
  | succ m =>
   have e0:decide ((h:Int)=(hour:Int))=false:=decide_eq_false (by omega)
   have hlt:h<ms.length:=by omega
   obtain ⟨b,p,c,sz,hbn,hix,hg,hn⟩:=ints_at hM hlt
   have hg':=(r4.same b hbn).trans hg
   have hmm:=hmr _ (List.getElem_mem hlt)
   have a1':∀ s,aSub s .i64 (pour room box h ice fs) ms[h]=.val (.int .i64 (pour room box h ice fs - ms[h])) s:=fun s=>aSub_i64 s _ _ (by omega)
   have a2':∀ s,aAdd s .i64 (h:Int) 1=.val (.int .i64 ((h:Int)+1)) s:=fun s=>aAdd_i64 s _ _ (by omega)
   have hgd:ms.getD h d0=ms[h]:=by rw [List.getD_eq_getElem?_getD,List.getElem?_eq_getElem hlt];rfl
   simp (disch:=first|omega|(with_unfolding_all exact rfl)|(simp only[new_n,put_n,new_m];omega)|(refine put_m_le ?_;simp only[new_m];omega)) only [K18r3,K18r9,K18r11,K18r12,Abs.W,reduceIte,Nat.reduceEqDiff,Nat.reduceAdd,decide_true,decide_false,kLoop_def,Nat.reduceSub,Env.find_set,r1,r2,f1,f3,f4,f5,f11,f12,e0,hix,hg',hn,a1',a2',kFold_def,foldA_nil,foldA_cons,maxA_i64]
   obtain ⟨L',s',w1,w2,w3⟩:=fallout_loop N cx fs ms d0 vm v2 a0 a1 v1 v3 p5 z hour room box u hu hR hk hf hr hp g5 hM hml hmr hh m (h+1) fuel (k+fs.length) (max 0 (pour room box h ice fs - ms[h])) (((L1.set 53 (.bool false)).set 2 (.int .i64 (max 0 (pour room box h ice fs - ms[h])))).set 12 (.int .i64 ((h:Int)+1))) s1 (by omega) (by omega) (by omega) r4 (by omega) (by simp only [Env.find_set,f1,reduceIte,Nat.reduceEqDiff]) (by simp only [Env.find_set,reduceIte,Nat.reduceEqDiff]) (by simp only [Env.find_set,f3,reduceIte,Nat.reduceEqDiff]) (by simp only [Env.find_set,f4,reduceIte,Nat.reduceEqDiff]) (by simp only [Env.find_set,f5,reduceIte,Nat.reduceEqDiff]) (by simp only [Env.find_set,f11,reduceIte,Nat.reduceEqDiff]) (by simp only [Env.find_set,reduceIte];rfl)
   refine ⟨L',s',w1,?_,w3.mono (by omega)⟩
   rw [w2]
   show _=AV.int .i64 (fallN room box fs (fun h=>ms.getD h d0) m (h+1) (max 0 (pour room box h ice fs - ms.getD h d0)))
   rw [hgd]
theorem Fall_ok (N:Nat) (hN:1≤N) (c:Cellar) (ok:c.Ok) (ms:List Int) (d0:Int) (v1 v2 v3 vm:AV) (b hour:Nat) (box ice:Int) (s:St) (hC:CellarIn s.h s.n c v1 v2 v3) (hM:RowsAt s.h s.n 1 (ints ms) vm) (hb:b<c.boxes.length) (hbox:box=b) (hi:0≤ice∧ice≤1000000) (hml:hour≤ms.length) (hmr:∀ x ∈ ms,0≤x∧x≤1000000) (hh:hour≤1000) (hs:s.n+200000≤far) :
  call Try.prog X N (.fn 18) [.agg [.int .i64 c.hl,.int .i64 c.hh,v1,v2,v3],.int .i64 box,.int .i64 ice,vm,.int .i64 hour] s=.val (.int .i64 (fallN (c.box b).room b c.fills (fun h=>ms.getD h d0) hour 0 ice)) s:=by
 obtain ⟨n,rfl⟩:∃ n,N=n+1:=⟨N - 1,by omega⟩
 subst hbox
 refine call_plain' Try.func18 (fun u uh un um=>?_) rfl
 have hff:far=1000000000:=rfl
 rw [← uh,← un] at hC hM
 obtain ⟨w,hw⟩:∃ w:St,w=u.new (.cells [.int .i64 c.hl,.int .i64 c.hh,v1,v2,v3] (tag 31)):=⟨_,rfl⟩
 have wn:w.n=u.n+1:=by rw [hw];rfl
 have wm:w.m=far:=by rw [hw];exact um
 have wg:∀ c,c<u.n→w.h.get c=u.h.get c:=fun c hc=>by rw [hw,get_new_ne _ _ _ (by omega)]
 have w0:w.h.get u.n=some (.cells [.int .i64 c.hl,.int .i64 c.hh,v1,v2,v3] (tag 31)):=by rw [hw];exact get_new_eq _ _ _ rfl (by omega)
 have hCw:=hC.grow wg (by omega:u.n≤w.n)
 have hMw:=hM.grow wg (by omega:u.n≤w.n)
 have ok1:∀ t,okA (.val v1 t)=.val v1 t:=fun t=>okA_ne hC.at_.b.ne
 obtain ⟨bb,p,cc,sz,hbn,hix,hg,hcut⟩:=hCw.at_.b.at_ b (by simpa using hb)
 rw [List.getElem_map] at hcut
 have c0:nth cc p=.int .i64 (c.box b).room:=by rw [c.box_eq hb];exact cut_nth0 hcut (show 0<9 from by omega)
 have okb:=ok.bok _ (List.getElem_mem hb)
 rw [← c.box_eq hb] at okb
 rw [enter18]
 simp (disch:=first|omega|(with_unfolding_all exact rfl)|(simp only[new_n,put_n,new_m];omega)|(refine put_m_le ?_;simp only[new_m];omega)) only [K18,K18r0,Abs.W,reduceIte,Nat.reduceEqDiff,Nat.reduceAdd,decide_true,decide_false,kLoop_def,Nat.reduceSub]
 rw [← hw]
 simp (disch:=first|omega|(with_unfolding_all exact rfl)|(simp only[new_n,put_n,new_m];omega)|(refine put_m_le ?_;simp only[new_m];omega)) only [K18r1,K18r2,Abs.W,reduceIte,Nat.reduceEqDiff,Nat.reduceAdd,decide_true,decide_false,kLoop_def,Nat.reduceSub,Env.find_set,w0,ok1,hix,hg,c0,Nat.zero_add,Nat.add_zero]
 generalize hLe:Env.cons 0 _ _=L0
 obtain ⟨L',s',h1,h2,h3⟩:=fallout_loop n ⟨18,none,Try.f18.ntmps,X 18⟩ c.fills ms d0 vm v2 (.int .i64 c.hl) (.int .i64 c.hh) v1 v3 u.n _ hour (c.box b).room b w (by omega) hCw.at_.f ok.f (fun f hf=>by have:=ok.fok f hf;exact ⟨this.g0,by have:=this.g1;omega⟩) ⟨okb.r0,by have:=okb.r1;omega⟩ (by omega) w0 hMw hml hmr hh
  hour 0 rounds 0 ice L0 w (by omega) (by unfold rounds;omega) (by omega) (Beside.refl w (by omega) wm) hi (by rw [← hLe];simp only [find_cons,reduceIte,Nat.reduceEqDiff]) (by rw [← hLe];simp only [find_cons,reduceIte,Nat.reduceEqDiff]) (by rw [← hLe];simp only [find_cons,reduceIte,Nat.reduceEqDiff]) (by rw [← hLe];simp only [find_cons,reduceIte,Nat.reduceEqDiff]) (by rw [← hLe];simp only [find_cons,reduceIte,Nat.reduceEqDiff]) (by rw [← hLe];simp only [find_cons,reduceIte,Nat.reduceEqDiff]) (by rw [← hLe];simp only [find_cons,reduceIte,Nat.reduceEqDiff];rfl)
 have q3:=h3.m
 simp (disch:=first|omega|(with_unfolding_all exact rfl)|(simp only[new_n,put_n,new_m];omega)|(refine put_m_le ?_;simp only[new_m];omega)) only [res18,Abs.W,reduceIte,Nat.reduceEqDiff,Nat.reduceAdd,decide_true,decide_false,kLoop_def,Nat.reduceSub,h1,h2]
 exact ⟨_,rfl,by omega⟩
/-! ### .. and the ice of the program -/
theorem fill1_none (room h:Int):∀ (fs:List (Int × Int)) (i:Int),(∀ f ∈ fs,h<f.1)→fill1 room h i fs=i
 | [],i,_=>rfl
 | (a,g)::r,i,hf=>by
  unfold fill1
  have:=hf (a,g) (List.mem_cons_self ..)
  rw [if_neg (by simp only at this;omega)]
def Ordered:List Fill→Prop
 | []=>True
 | f::fs=>(∀ g ∈ fs,f.hour≤g.hour)∧Ordered fs
def ofB (box:Int) (fs:List Fill):List (Int × Int):=(ofBox box fs).map fun f=>(f.hour,f.grams)
theorem ofB_cons (box:Int) (f:Fill) (fs:List Fill):ofB box (f::fs)=if f.box=box then (f.hour,f.grams)::ofB box fs else ofB box fs:=by
 unfold ofB ofBox
 by_cases e:f.box=box
 ·rw [if_pos e,List.filter_cons_of_pos (by simpa using e)];rfl
 ·rw [if_neg e,List.filter_cons_of_neg (by simpa using e)]
theorem ofB_mem {box:Int} {fs:List Fill} {x:Int × Int} (h:x ∈ ofB box fs):∃ f ∈ fs,f.hour=x.1:=by
 unfold ofB ofBox at h
 obtain ⟨f,hf,rfl⟩:=List.mem_map.mp h
 exact ⟨f,(List.mem_filter.mp hf).1,rfl⟩
def later (h:Int) (fs:List (Int × Int)):List (Int × Int):=fs.filter fun f=>decide (h≤f.1)
theorem pour_fill (room box h:Int):∀ (fs:List Fill) (i:Int),Ordered fs→pour room box h i fs=fill1 room h i (later h (ofB box fs))∧left h (later h (ofB box fs))=later (h+1) (ofB box fs)
 | [],i,_=>⟨rfl,rfl⟩
 | f::fs,i,⟨h1,h2⟩=>by
  have ih:=fun i=>pour_fill room box h fs i h2
  unfold pour
  rw [ofB_cons]
  by_cases e:f.box=box
  ·rw [if_pos e]
   unfold later
   by_cases e2:f.hour=h
   ·rw [if_pos ⟨e,e2⟩,List.filter_cons_of_pos (by simp only [decide_eq_true_eq];omega),List.filter_cons_of_neg (by simp only [decide_eq_true_eq];omega)]
    unfold fill1 left
    rw [if_pos e2,if_pos e2,Int.min_comm]
    exact ih _
   ·rw [if_neg (fun hh=>e2 hh.2)]
    by_cases e3:h<f.hour
    ·have hall:∀ x ∈ ofB box fs,h<x.1:=fun x hx=>by
      obtain ⟨g,hg,e4⟩:=ofB_mem hx
      have:=h1 g hg
      omega
     rw [List.filter_cons_of_pos (by simp only [decide_eq_true_eq];omega),List.filter_cons_of_pos (by simp only [decide_eq_true_eq];omega)]
     have hf1:(ofB box fs).filter (fun f=>decide (h≤f.1))=ofB box fs:=List.filter_eq_self.mpr fun x hx=>by have:=hall x hx;simp only [decide_eq_true_eq];omega
     have hf2:(ofB box fs).filter (fun f=>decide (h+1≤f.1))=ofB box fs:=List.filter_eq_self.mpr fun x hx=>by have:=hall x hx;simp only [decide_eq_true_eq];omega
     rw [hf1,hf2]
     unfold fill1 left
     rw [if_neg e2,if_neg e2]
     refine ⟨?_,rfl⟩
     rw [(ih i).1]
     unfold later
     rw [hf1,fill1_none _ _ _ _ hall]
    ·rw [List.filter_cons_of_neg (by simp only [decide_eq_true_eq];omega),List.filter_cons_of_neg (by simp only [decide_eq_true_eq];omega)]
     exact ih i
  ·rw [if_neg e,if_neg (fun hh=>e hh.1)]
   exact ih i
theorem fallN_lev (room:Int) (box:Int) (fs:List Fill) (ho:Ordered fs) (melt:Nat→Int) (melt':Int→Int) (hm:∀ h:Nat,melt h=melt' h):∀ (m h:Nat) (i:Int),fallN room box fs melt m h i=lev room melt' m h i (later h (ofB box fs))
 | 0,h,i=>(pour_fill room box h fs i ho).1
 | m+1,h,i=>by
  obtain ⟨h1,h2⟩:=pour_fill room box h fs i ho
  unfold fallN lev
  rw [fallN_lev room box fs ho melt melt' hm m (h+1),h1,h2,hm h]
  rfl
theorem ordered_of {c:Cellar} (ok:c.Ok):Ordered c.fills:=by
 have key:∀ m j,j+m=c.fills.length→Ordered (c.fills.drop j)∧∀ g ∈ c.fills.drop j,before c.fills j≤g.hour:=by
  intro m
  induction m with
  | zero =>
   intro j hj
   rw [List.drop_of_length_le (by omega)]
   exact ⟨trivial,fun g hg=>by cases hg⟩
  | succ m ih =>
   intro j hj
   have hlt:j<c.fills.length:=by omega
   obtain ⟨h1,h2⟩:=ih (j+1) (by omega)
   have hb:before c.fills (j+1)=(c.fills[j]).hour:=by simp only [before,List.getElem?_eq_getElem hlt]
   rw [hb] at h2
   have hj':=ok.fo j hlt
   rw [List.drop_eq_getElem_cons hlt]
   refine ⟨⟨h2,h1⟩,fun g hg=>?_⟩
   rcases List.mem_cons.mp hg with e | hg
   ·subst e;exact hj'
   ·have:=h2 g hg
    omega
 have:=(key c.fills.length 0 (by omega)).1
 rwa [List.drop_zero] at this
theorem fallN_eq (c:Cellar) (ok:c.Ok) (b k:Nat) (i:Int) (melt:Nat→Int) (melt':Int→Int) (hm:∀ h:Nat,melt h=melt' h):fallN (c.box b).room b c.fills melt k 0 i=lev (c.box b).room melt' k 0 i (c.of b):=by
 rw [fallN_lev _ _ _ (ordered_of ok) melt melt' hm]
 have:later ((0:Nat):Int) (ofB b c.fills)=c.of b:=by
  refine List.filter_eq_self.mpr fun x hx=>?_
  obtain ⟨f,hf,e⟩:=ofB_mem hx
  have:=(ok.fok f hf).h0
  simp only [decide_eq_true_eq]
  omega
 rw [this]
 rfl
end Go.Proofs.Ytndbihaffijhbaa.walk
set_option maxRecDepth 10000
namespace Go.Proofs.Ytndbihaffijhbaa.walk
open Go.Abs Go.Proofs.Ytndbihaffijhbaa.code
structure Truth where
 (ice:List Int) (melts cold warm:List (List Int)) (hall:List Int)
structure Tab (h:Heap) (n:Nat) (tab:List (List Int)) (v:AV):Prop where
 ok:∀ t,okA (.val v t)=.val v t
 at_:∀ i (hi:i<tab.length),∃ b p c sz vr,b<n∧(∀ s,ixsA 1 s v (.int .i64 i)=.val (.ptr b p) s)∧h.get b=some (.cells c sz)∧nth c p=vr∧(∀ t,okA (.val vr t)=.val vr t)∧RowsAt h n 1 (ints tab[i]) vr
theorem Tab.grow {h h':Heap} {n n':Nat} {tab:List (List Int)} {v:AV} (r:Tab h n tab v) (hh:∀ b,b<n→h'.get b=h.get b) (hn:n≤n'):Tab h' n' tab v :=
 ⟨r.ok,fun i hi=>by
  obtain ⟨b,p,c,sz,vr,h1,h2,h3,h4,h5,h6⟩:=r.at_ i hi
  exact ⟨b,p,c,sz,vr,by omega,h2,by rw [hh b h1];exact h3,h4,h5,h6.grow hh hn⟩⟩
structure TruthAt (h:Heap) (n:Nat) (T:Truth) (va vb vc vd ve:AV):Prop where
 ice:RowsAt h n 1 (ints T.ice) va
 melts:Tab h n T.melts vb
 cold:Tab h n T.cold vc
 warm:Tab h n T.warm vd
 hall:RowsAt h n 1 (ints T.hall) ve
theorem TruthAt.grow {h h':Heap} {n n':Nat} {T:Truth} {va vb vc vd ve:AV} (r:TruthAt h n T va vb vc vd ve) (hh:∀ b,b<n→h'.get b=h.get b) (hn:n≤n'):TruthAt h' n' T va vb vc vd ve :=
 ⟨r.ice.grow hh hn,r.melts.grow hh hn,r.cold.grow hh hn,r.warm.grow hh hn,r.hall.grow hh hn⟩
structure TabIn (tab:List (List Int)) (k hours:Nat) (lo hi:Nat→Int):Prop where
 len:tab.length=k
 row:∀ b (h:b<tab.length),(tab[b]).length=hours∧∀ x ∈ tab[b],lo b≤x∧x≤hi b
structure Truth.In (T:Truth) (c:Cellar) (hours:Nat):Prop where
 il:T.ice.length=c.boxes.length
 ice:∀ b (h:b<T.ice.length),(c.box b).il≤T.ice[b]∧T.ice[b]≤(c.box b).ih
 melts:TabIn T.melts c.boxes.length hours (fun b=>(c.box b).ml) (fun b=>(c.box b).mh)
 cold:TabIn T.cold c.boxes.length hours (fun b=>(c.box b).cl) (fun b=>(c.box b).ch)
 warm:TabIn T.warm c.boxes.length hours (fun b=>(c.box b).wl) (fun b=>(c.box b).wh)
 hl:T.hall.length=hours
 hall:∀ x ∈ T.hall,c.hl≤x∧x≤c.hh
def Truth.fall (T:Truth) (c:Cellar) (b k:Nat):Int:=fallN (c.box b).room b c.fills (fun h=>(T.melts.getD b []).getD h 0) k 0 (T.ice.getD b 0)
def Truth.around (T:Truth) (c:Cellar) (ts:List Stay) (h:Nat):Int:=match ts.find? (hit h) with
 | none=>T.hall.getD h 0
 | some t=>if 0<T.fall c t.box.toNat h then (T.cold.getD t.box.toNat []).getD h 0 else (T.warm.getD t.box.toNat []).getD h 0
def sumN (f:Nat→Int):Nat→Int
 | 0=>0
 | m+1=>sumN f m+f m
theorem sumN_range {f:Nat→Int} (hf:∀ i,0≤f i∧f i≤1000):∀ m:Nat,0≤sumN f m∧sumN f m≤1000 * (m:Int)
 | 0=>⟨Int.le_refl _,by simp [sumN]⟩
 | m+1=>by
  have h1:=sumN_range hf m
  have h2:=hf m
  unfold sumN
  omega
def Truth.lost (T:Truth) (c:Cellar) (l:Lot) (m:Nat):Int:=sumN (fun i=>lossFrom (T.around c l.stays (l.born+i).toNat) 0 c.rates) m
theorem getD_eq {α:Type} {l:List α} {i:Nat} (d:α) (h:i<l.length):l.getD i d=l[i]:=by rw [List.getD_eq_getElem?_getD,List.getElem?_eq_getElem h];rfl
theorem fallT_ok (N:Nat) (hN:1≤N) (c:Cellar) (ok:c.Ok) (T:Truth) (hours:Nat) (tin:T.In c hours) (v1 v2 v3 vm:AV) (b k:Nat) (box ice hour:Int) (s:St) (hC:CellarIn s.h s.n c v1 v2 v3) (hb:b<c.boxes.length) (hM:RowsAt s.h s.n 1 (ints (T.melts[b]'(by rw [tin.melts.len];exact hb))) vm) (hbox:box=b) (hice:ice=T.ice.getD b 0) (hhour:hour=k) (hk:k≤hours) (hh:hours≤1000) (hs:s.n+200000≤far) :
  call Try.prog X N (.fn 18) [.agg [.int .i64 c.hl,.int .i64 c.hh,v1,v2,v3],.int .i64 box,.int .i64 ice,vm,.int .i64 hour] s=.val (.int .i64 (T.fall c b k)) s:=by
 subst hhour
 have hbm:b<T.melts.length:=by rw [tin.melts.len];exact hb
 have hbi:b<T.ice.length:=by rw [tin.il];exact hb
 have okb:=ok.bok _ (List.getElem_mem hb)
 rw [← c.box_eq hb] at okb
 have hi:=tin.ice b hbi
 rw [getD_eq _ hbi] at hice
 have hr:=tin.melts.row b hbm
 have:=Fall_ok N hN c ok T.melts[b] 0 v1 v2 v3 vm b k box ice s hC hM hb hbox (by have:=okb.i0;have:=okb.i2;have:=okb.r1;omega) (by omega) (fun x hx=>by have:=hr.2 x hx;have:=okb.m0;have:=okb.m2;omega) (by omega) hs
 rw [this]
 unfold Truth.fall
 rw [getD_eq _ hbm,getD_eq _ hbi,hice]
theorem truly_loop (N:Nat) (hN:2≤N) (cx:Ctx) (c:Cellar) (ok:c.Ok) (l:Lot) (okl:l.Ok c.boxes.length) (T:Truth) (hours:Nat) (tin:T.In c hours) (hh:hours≤1000) (v1 v2 v3 v4 va vb vc vd ve:AV) (p4 p5 p6 z4 z5 z6 m0:Nat) (s:St) (hs:s.n+300000≤far)
  (hC:CellarIn s.h s.n c v1 v2 v3) (hR:RowsAt s.h s.n 3 (l.stays.map Stay.cells) v4) (hT:TruthAt s.h s.n T va vb vc vd ve) (hm0:l.born+m0≤hours)
  (g4:s.h.get p4=some (.cells [.int .i64 c.hl,.int .i64 c.hh,v1,v2,v3] z4)) (g5:s.h.get p5=some (.cells [.int .i64 l.born,.int .i64 l.keeps,v4] z5)) (g6:s.h.get p6=some (.cells [va,vb,vc,vd,ve] z6)) :
  ∀ (m i fuel:Nat) (L:Env),i+m=m0→m<fuel→L.find 3=.int .i64 (l.born+m0)→L.find 4=.ptr p4 0→L.find 5=.ptr p5 0→L.find 6=.ptr p6 0→L.find 9=.int .i64 (T.lost c l i)→L.find 10=.int .i64 (l.born+i) →
   ∃ L',loopN K14l0 fuel (call Try.prog X N) cx L [] s=.done (.exit 0) L' [] s∧L'.find 9=.int .i64 (T.lost c l m0)
 | m,i,0,L,hm,hf,l3,l4,l5,l6,l9,l10=>by omega
 | m,i,fuel+1,L,hm,hf,l3,l4,l5,l6,l9,l10=>by
  have hff:far=1000000000:=rfl
  have b0:=okl.b0
  by_cases hi:i<m0
  ·obtain ⟨m',rfl⟩:∃ m',m=m'+1:=⟨m - 1,by omega⟩
   have e0:decide (l.born+(i:Int)<l.born+(m0:Int))=true:=decide_eq_true (by omega)
   obtain ⟨h,hh0⟩:∃ h:Nat,l.born+(i:Int)=h:=⟨(l.born+i).toNat,by omega⟩
   have hlt:h<hours:=by omega
   have eIn:=In_ok N hN l.stays l.born l.keeps h v4 s (by omega) hR (fun t ht=>by obtain ⟨_,_,x1,x2,x3⟩:=okl.sok t ht;omega) (by have:=okl.s;omega)
   have rng:∀ i,0≤lossFrom (T.around c l.stays (l.born+(i:Nat)).toNat) 0 c.rates∧lossFrom (T.around c l.stays (l.born+(i:Nat)).toNat) 0 c.rates≤1000:=fun i=>lossFrom_range _ c.rates 0 ok.rok ⟨Int.le_refl _,by omega⟩
   have hsum:=sumN_range rng i
   have hnext:T.lost c l (i+1)=T.lost c l i+lossFrom (T.around c l.stays h) 0 c.rates:=by
    show sumN _ i+lossFrom (T.around c l.stays (l.born+i).toNat) 0 c.rates=_
    rw [hh0,Int.toNat_natCast]
    rfl
   have hsum':0≤T.lost c l i∧T.lost c l i≤1000 * (i:Int):=hsum
   have hr1:=lossFrom_range (T.around c l.stays h) c.rates 0 ok.rok ⟨Int.le_refl _,by omega⟩
   have a1:∀ s,aAdd s .i64 (T.lost c l i) (lossFrom (T.around c l.stays h) 0 c.rates)=.val (.int .i64 (T.lost c l (i+1))) s:=fun s=>by rw [hnext];exact aAdd_i64 s _ _ (by omega)
   have a2:∀ s,aAdd s .i64 (h:Int) 1=.val (.int .i64 (l.born+((i+1:Nat):Int))) s:=fun s=>by rw [aAdd_i64 s _ _ (by omega)];congr 2;omega
   have eL:=LossR_ok N (by omega) c ok v1 v2 v3 (T.around c l.stays h) s hC.at_.r (by omega)
   obtain ⟨bh,ph,ch,szh,hbh,hxh,hgh,hnh⟩:=ints_at hT.hall (i:=h) (by rw [tin.hl];exact hlt)
   have hallh:T.hall.getD h 0=T.hall[h]'(by rw [tin.hl];exact hlt):=getD_eq _ _
   rw [← hallh] at hnh
   have oke:∀ t,okA (.val ve t)=.val ve t:=fun t=>okA_ne hT.hall.ne
   have oka:∀ t,okA (.val va t)=.val va t:=fun t=>okA_ne hT.ice.ne
   have okb:=hT.melts.ok
   have okc:=hT.cold.ok
   have okd:=hT.warm.ok
   rw [hh0] at e0 l10
   have go:∀ L2:Env,L2.find 3=.int .i64 (l.born+m0)→L2.find 4=.ptr p4 0→L2.find 5=.ptr p5 0→L2.find 6=.ptr p6 0→L2.find 9=.int .i64 (T.lost c l (i+1))→L2.find 10=.int .i64 (l.born+((i+1:Nat):Int)) →
     ∃ L',loopN K14l0 fuel (call Try.prog X N) cx L2 [] s=.done (.exit 0) L' [] s∧L'.find 9=.int .i64 (T.lost c l m0):=fun L2=>truly_loop N hN cx c ok l okl T hours tin hh v1 v2 v3 v4 va vb vc vd ve p4 p5 p6 z4 z5 z6 m0 s hs hC hR hT hm0 g4 g5 g6 m' (i+1) fuel L2 (by omega) (by omega)
   unfold inBox at eIn
   rw [loopN_succ]
   cases hfnd:l.stays.find? (hit h) with
   | none =>
    have hw:T.around c l.stays h=T.hall.getD h 0:=by unfold Truth.around;rw [hfnd]
    rw [hfnd] at eIn
    rw [hw] at a1 eL
    have d1:decide ((0:Int) ≤ -1)=false:=rfl
    simp (disch:=first|omega|(with_unfolding_all exact rfl)|(simp only[new_n,put_n,new_m];omega)|(refine put_m_le ?_;simp only[new_m];omega)) only [res14,K14r0,K14r1,K14r2,K14r3,K14r4,K14r5,K14r6,K14r7,K14r8,K14r9,K14r10,K14r11,K14l0,K14r12,K14,Abs.W,reduceIte,Nat.reduceEqDiff,Nat.reduceAdd,decide_true,decide_false,kLoop_def,Nat.reduceSub,Env.find_set,l3,l4,l5,l6,l9,l10,e0,g4,g5,g6,eIn,oke,hxh,hgh,hnh,d1,eL,a1,a2,Nat.zero_add]
    refine go _ ?_ ?_ ?_ ?_ ?_ ?_<;>simp only [Env.find_set,l3,l4,l5,l6,reduceIte,Nat.reduceEqDiff]
   | some t =>
    have ht:=okl.sok t (List.mem_of_find?_eq_some hfnd)
    obtain ⟨b,hb⟩:∃ b:Nat,t.box=b:=⟨t.box.toNat,by have:=ht.b0;omega⟩
    have hblt:b<c.boxes.length:=by have:=ht.b1;omega
    rw [hfnd] at eIn
    simp only at eIn
    rw [hb] at eIn
    have d1:decide ((0:Int)≤(b:Int))=true:=decide_eq_true (by omega)
    have hbi:b<T.ice.length:=by rw [tin.il];exact hblt
    have hbm:b<T.melts.length:=by rw [tin.melts.len];exact hblt
    have hbc:b<T.cold.length:=by rw [tin.cold.len];exact hblt
    have hbw:b<T.warm.length:=by rw [tin.warm.len];exact hblt
    obtain ⟨bi,pi,ci,szi,hi1,hi2,hi3,hi4⟩:=ints_at hT.ice hbi
    obtain ⟨bm,pm,cm,szm,vrm,hm1,hm2,hm3,hm4,hm5,hm6⟩:=hT.melts.at_ b hbm
    obtain ⟨bc,pc,cc,szc,vrc,hc1,hc2,hc3,hc4,hc5,hc6⟩:=hT.cold.at_ b hbc
    obtain ⟨bw,pw,cw,szw,vrw,hw1,hw2,hw3,hw4,hw5,hw6⟩:=hT.warm.at_ b hbw
    have lc:h<(T.cold[b]).length:=by rw [(tin.cold.row b hbc).1];exact hlt
    have lw:h<(T.warm[b]).length:=by rw [(tin.warm.row b hbw).1];exact hlt
    obtain ⟨bc2,pc2,cc2,szc2,hc21,hc22,hc23,hc24⟩:=ints_at hc6 lc
    obtain ⟨bw2,pw2,cw2,szw2,hw21,hw22,hw23,hw24⟩:=ints_at hw6 lw
    have eF:=fallT_ok N (by omega) c ok T hours tin v1 v2 v3 vrm b h b (T.ice[b]) h s hC hblt hm6 rfl (getD_eq _ hbi).symm rfl (by omega) hh (by omega)
    have hcold:(T.cold.getD b []).getD h 0=(T.cold[b])[h]:=by rw [getD_eq [] hbc,getD_eq 0 lc]
    have hwarm:(T.warm.getD b []).getD h 0=(T.warm[b])[h]:=by rw [getD_eq [] hbw,getD_eq 0 lw]
    by_cases hf0:0<T.fall c b h
    ·have hw:T.around c l.stays h=(T.cold[b])[h]:=by
      unfold Truth.around;rw [hfnd];simp only [hb,Int.toNat_natCast];rw [if_pos hf0,hcold]
     rw [hw] at a1 eL
     have d2:decide ((0:Int)<T.fall c b h)=true:=decide_eq_true hf0
     simp (disch:=first|omega|(with_unfolding_all exact rfl)|(simp only[new_n,put_n,new_m];omega)|(refine put_m_le ?_;simp only[new_m];omega)) only [res14,K14r0,K14r1,K14r2,K14r3,K14r4,K14r5,K14r6,K14r7,K14r8,K14r9,K14r10,K14r11,K14l0,K14r12,K14,Abs.W,reduceIte,Nat.reduceEqDiff,Nat.reduceAdd,decide_true,decide_false,kLoop_def,Nat.reduceSub,Env.find_set,l3,l4,l5,l6,l9,l10,e0,g4,g5,g6,eIn,oke,hxh,hgh,hnh,d1,oka,okb,okc,okd,hi2,hi3,hi4,hm2,hm3,hm4,hm5,hc2,hc3,hc4,hc5,hw2,hw3,hw4,hw5,hc22,hc23,hc24,hw22,hw23,hw24,eF,d2,eL,a1,a2,endO_nil,regD_ok,Nat.zero_add]
     refine go _ ?_ ?_ ?_ ?_ ?_ ?_<;>simp only [Env.find_set,l3,l4,l5,l6,reduceIte,Nat.reduceEqDiff]
    ·have hw:T.around c l.stays h=(T.warm[b])[h]:=by
      unfold Truth.around;rw [hfnd];simp only [hb,Int.toNat_natCast];rw [if_neg hf0,hwarm]
     rw [hw] at a1 eL
     have d2:decide ((0:Int)<T.fall c b h)=false:=decide_eq_false hf0
     simp (disch:=first|omega|(with_unfolding_all exact rfl)|(simp only[new_n,put_n,new_m];omega)|(refine put_m_le ?_;simp only[new_m];omega)) only [res14,K14r0,K14r1,K14r2,K14r3,K14r4,K14r5,K14r6,K14r7,K14r8,K14r9,K14r10,K14r11,K14l0,K14r12,K14,Abs.W,reduceIte,Nat.reduceEqDiff,Nat.reduceAdd,decide_true,decide_false,kLoop_def,Nat.reduceSub,Env.find_set,l3,l4,l5,l6,l9,l10,e0,g4,g5,g6,eIn,oke,hxh,hgh,hnh,d1,oka,okb,okc,okd,hi2,hi3,hi4,hm2,hm3,hm4,hm5,hw2,hw3,hw4,hw5,hw22,hw23,hw24,eF,d2,eL,a1,a2,endO_nil,regD_ok,Nat.zero_add]
     refine go _ ?_ ?_ ?_ ?_ ?_ ?_<;>simp only [Env.find_set,l3,l4,l5,l6,reduceIte,Nat.reduceEqDiff]
  ·obtain rfl:i=m0:=by omega
   have e0:decide (l.born+(i:Int)<l.born+(i:Int))=false:=by simp
   rw [loopN_succ]
   simp (disch:=first|omega|(with_unfolding_all exact rfl)|(simp only[new_n,put_n,new_m];omega)|(refine put_m_le ?_;simp only[new_m];omega)) only [res14,K14r0,K14r1,K14r2,K14r3,K14r4,K14r5,K14r6,K14r7,K14r8,K14r9,K14r10,K14r11,K14l0,K14r12,K14,Abs.W,reduceIte,Nat.reduceEqDiff,Nat.reduceAdd,decide_true,decide_false,kLoop_def,Nat.reduceSub,Env.find_set,l3,l4,l5,l6,l9,l10,e0]
   exact ⟨_,rfl,by simp only [Env.find_set,l9,reduceIte,Nat.reduceEqDiff]⟩
theorem truly_ok (N:Nat) (hN:3≤N) (c:Cellar) (ok:c.Ok) (l:Lot) (okl:l.Ok c.boxes.length) (T:Truth) (hours:Nat) (tin:T.In c hours) (hh:hours≤1000) (v1 v2 v3 v4 va vb vc vd ve:AV) (m0:Nat) (hour:Int) (s:St) (hs:s.n+400000≤far)
  (hC:CellarIn s.h s.n c v1 v2 v3) (hR:RowsAt s.h s.n 3 (l.stays.map Stay.cells) v4) (hT:TruthAt s.h s.n T va vb vc vd ve) (hhour:hour=l.born+m0) (hm0:l.born+m0≤hours) :
  call Try.prog X N (.fn 14) [.agg [.int .i64 c.hl,.int .i64 c.hh,v1,v2,v3],.agg [.int .i64 l.born,.int .i64 l.keeps,v4],.agg [va,vb,vc,vd,ve],.int .i64 hour] s=.val (.int .i64 (T.lost c l m0)) s:=by
 obtain ⟨n,rfl⟩:∃ n,N=n+1:=⟨N - 1,by omega⟩
 subst hhour
 refine call_plain' Try.func14 (fun u uh un um=>?_) rfl
 have hff:far=1000000000:=rfl
 rw [← uh,← un] at hC hR hT
 obtain ⟨w,hw⟩:∃ w:St,w=((u.new (.cells [.int .i64 c.hl,.int .i64 c.hh,v1,v2,v3] (tag 31))).new (.cells [.int .i64 l.born,.int .i64 l.keeps,v4] (tag 35))).new (.cells [va,vb,vc,vd,ve] (tag 46)):=⟨_,rfl⟩
 have wn:w.n=u.n+3:=by rw [hw];rfl
 have wm:w.m=far:=by rw [hw];exact um
 have wg:∀ c,c<u.n→w.h.get c=u.h.get c:=fun c hc=>by rw [hw,get_new_ne _ _ _ (by simp only [new_n];omega),get_new_ne _ _ _ (by simp only [new_n];omega),get_new_ne _ _ _ (by omega)]
 have w0:w.h.get u.n=some (.cells [.int .i64 c.hl,.int .i64 c.hh,v1,v2,v3] (tag 31)):=by
  rw [hw,get_new_ne _ _ _ (by simp only [new_n];omega),get_new_ne _ _ _ (by simp only [new_n];omega)];exact get_new_eq _ _ _ rfl (by omega)
 have w1:w.h.get (u.n+1)=some (.cells [.int .i64 l.born,.int .i64 l.keeps,v4] (tag 35)):=by
  rw [hw,get_new_ne _ _ _ (by simp only [new_n];omega)];exact get_new_eq _ _ _ rfl (by simp only [new_n];omega)
 have w2:w.h.get (u.n+2)=some (.cells [va,vb,vc,vd,ve] (tag 46)):=by rw [hw];exact get_new_eq _ _ _ rfl (by simp only [new_n];omega)
 have nn1:∀ o,(u.new o).n=u.n+1:=fun _=>rfl
 have nn2:∀ o1 o2,((u.new o1).new o2).n=u.n+2:=fun _ _=>rfl
 rw [enter14]
 simp (disch:=first|omega|(with_unfolding_all exact rfl)|(simp only[new_n,put_n,new_m];omega)|(refine put_m_le ?_;simp only[new_m];omega)) only [K14,K14r0,Abs.W,reduceIte,Nat.reduceEqDiff,Nat.reduceAdd,decide_true,decide_false,kLoop_def,Nat.reduceSub,nn1,nn2]
 rw [← hw]
 simp (disch:=first|omega|(with_unfolding_all exact rfl)|(simp only[new_n,put_n,new_m];omega)|(refine put_m_le ?_;simp only[new_m];omega)) only [K14r1,K14r2,Abs.W,reduceIte,Nat.reduceEqDiff,Nat.reduceAdd,decide_true,decide_false,kLoop_def,Nat.reduceSub,Env.find_set,w1,Nat.zero_add]
 generalize hLe:Env.cons 0 _ _=L0
 obtain ⟨L',h1,h2⟩:=truly_loop n (by omega) ⟨14,none,Try.f14.ntmps,X 14⟩ c ok l okl T hours tin hh v1 v2 v3 v4 va vb vc vd ve u.n (u.n+1) (u.n+2) _ _ _ m0 w (by omega) (hC.grow wg (by omega)) (hR.grow wg (by omega)) (hT.grow wg (by omega)) hm0 w0 w1 w2 m0 0 rounds L0 (by omega) (by unfold rounds;have:=okl.b0;omega) (by rw [← hLe];simp only [find_cons,reduceIte,Nat.reduceEqDiff]) (by rw [← hLe];simp only [find_cons,reduceIte,Nat.reduceEqDiff]) (by rw [← hLe];simp only [find_cons,reduceIte,Nat.reduceEqDiff]) (by rw [← hLe];simp only [find_cons,reduceIte,Nat.reduceEqDiff]) (by rw [← hLe];simp only [find_cons,reduceIte,Nat.reduceEqDiff];rfl) (by rw [← hLe];simp only [find_cons,reduceIte,Nat.reduceEqDiff];congr 1;omega)
 simp (disch:=first|omega|(with_unfolding_all exact rfl)|(simp only[new_n,put_n,new_m];omega)|(refine put_m_le ?_;simp only[new_m];omega)) only [K14r12,res14,Abs.W,reduceIte,Nat.reduceEqDiff,Nat.reduceAdd,decide_true,decide_false,kLoop_def,Nat.reduceSub,Env.find_set,h1,h2]
 exact ⟨_,rfl,by omega⟩
end Go.Proofs.Ytndbihaffijhbaa.walk
set_option maxRecDepth 10000
namespace Go.Abs
structure IsAt (h:Heap) (n b w tg:Nat) (rows:List (List AV)) (v:AV):Prop where
 wide:∀ r ∈ rows,r.length=w
 is:(rows=[]∧v=.nilslice)∨(rows≠[]∧b<n∧v=.slice b 0 rows.length rows.length true∧h.get b=some (.cells rows.flatten (w+tg)))
theorem IsAt.nil (h:Heap) (n b w tg:Nat):IsAt h n b w tg [] .nilslice:=⟨fun _ hr=>(by cases hr),.inl ⟨rfl,rfl⟩⟩
theorem IsAt.mono {h h':Heap} {n n' b w tg:Nat} {rows:List (List AV)} {v:AV} (r:IsAt h n b w tg rows v) (hh:b<n→h'.get b=h.get b) (hn:n≤n'):IsAt h' n' b w tg rows v :=
 ⟨r.wide,r.is.imp id fun ⟨h1,h2,h3,h4⟩=>⟨h1,by omega,h3,by rw [hh h2];exact h4⟩⟩
theorem IsAt.rows {h:Heap} {n b w tg:Nat} {rows:List (List AV)} {v:AV} (r:IsAt h n b w tg rows v):Rows h 0 n w tg rows v :=
 ⟨r.wide,r.is.imp id fun ⟨_,h2,h3,h4⟩=>⟨b,Nat.zero_le _,h2,h3,h4⟩⟩
theorem append_at {s:St} {b w bytes tg:Nat} {rows:List (List AV)} {v:AV} (r:IsAt s.h s.n b w tg rows v) {p sz:Nat} {row:List AV} (hp:s.h.get p=some (.cells row sz)) (hw:row.length=w) (hsc:scalars row=true)
  (hb:(rows.length+1) * bytes≤1000000) (htg:szOf (w+tg)=w) (hs:s.n<549755813888) :
  ∃ s',appendA false w bytes tg s v (.slice p 0 1 1 false)=.val (.slice s.n 0 (rows.length+1) (rows.length+1) true) s'∧IsAt s'.h s'.n s.n w tg (rows++[row]) (.slice s.n 0 (rows.length+1) (rows.length+1) true)∧s'.n=s.n+1∧(∀ c,c<s.n→c≠b→s'.h.get c=s.h.get c)∧(∀ k,k≤b→k≤s.n→k≤s.m→k≤s'.m)∧s'.m≤s.m:=by
 rcases r.is with ⟨h1,h2⟩ | ⟨h1,h2,h3,h4⟩
 ·obtain ⟨v',s',e1,e2,e3,e4,e5,e6,e7,e8⟩:=append_row (lo:=s.n) (bytes:=bytes) (⟨r.wide,.inl ⟨h1,h2⟩⟩:Rows s.h s.n s.n w tg rows v) hp hw hsc hb htg hs (Nat.le_refl _)
  subst e8
  refine ⟨s',e1,⟨e2.wide,.inr ⟨by simp,by omega,by simp,?_⟩⟩,e3,fun c hc _=>e4 c hc,fun k _ hk hm=>e6 k hk hm,e7⟩
  rcases e2.is with ⟨z,_⟩ | ⟨b',_,_,z2,z3⟩
  ·simp at z
  ·injection z2 with z2
   rw [z2];exact z3
 ·obtain ⟨v',s',e1,e2,e3,e4,e5,e6,e7,e8⟩:=append_row (lo:=b) (bytes:=bytes) (⟨r.wide,.inr ⟨b,Nat.le_refl _,h2,h3,h4⟩⟩:Rows s.h b s.n w tg rows v) hp hw hsc hb htg hs (by omega)
  subst e8
  refine ⟨s',e1,⟨e2.wide,.inr ⟨by simp,by omega,by simp,?_⟩⟩,e3,fun c hc hcb=>e5 c hc (by rw [h3];intro z;injection z with z;exact hcb z.symm),fun k hk _ hm=>e6 k hk hm,e7⟩
  rcases e2.is with ⟨z,_⟩ | ⟨b',_,_,z2,z3⟩
  ·simp at z
  ·injection z2 with z2
   rw [z2];exact z3
theorem IsAt.apart {h:Heap} {n b w tg c o:Nat} {rows:List (List AV)} {v:AV} (r:IsAt h n b w tg rows v) (hc:b≠c):apartA v (.ptr c o)=true:=by
 rcases r.is with ⟨_,h2⟩ | ⟨_,_,h3,_⟩
 ·subst h2;rfl
 ·subst h3;exact apart_slice hc
end Go.Abs
namespace Go.Proofs.Ytndbihaffijhbaa.walk
open Go.Abs Go.Proofs.Ytndbihaffijhbaa.code
theorem ints_len (l:List Int):(ints l).length=l.length:=by unfold ints;rw [List.length_map]
theorem ints_snoc (l:List Int) (x:Int):ints l++[[.int .i64 x]]=ints (l++[x]):=by unfold ints;rw [List.map_append];rfl
abbrev IntsAt (h:Heap) (n b:Nat) (l:List Int) (v:AV):Prop:=IsAt h n b 1 (tag 3) (ints l) v
theorem IntsAt.at_ {h:Heap} {n b:Nat} {l:List Int} {v:AV} (r:IntsAt h n b l v):RowsAt h n 1 (ints l) v:=r.rows.at_
def TabUp (h:Heap) (n b:Nat) (tab:List (List Int)) (v:AV) (no:Nat→Prop):Prop :=
 ∃ vs:List AV,vs.length=tab.length∧IsAt h n b 1 (tag 22) (vs.map fun v=>[v]) v∧∀ j (h1:j<vs.length) (h2:j<tab.length),∃ x,no x∧IntsAt h n x tab[j] vs[j]∧tab[j]≠[]
theorem TabUp.nil (h:Heap) (n b:Nat) (no:Nat→Prop):TabUp h n b [] .nilslice no:=⟨[],rfl,IsAt.nil _ _ _ _ _,fun j h1 _=>by simp at h1⟩
theorem TabUp.mono {h h':Heap} {n n' b:Nat} {tab:List (List Int)} {v:AV} {no no':Nat→Prop} (r:TabUp h n b tab v no) (hb:b<n→h'.get b=h.get b) (hh:∀ x,x<n→no x→h'.get x=h.get x∧no' x) (hn:n≤n'):TabUp h' n' b tab v no':=by
 obtain ⟨vs,h1,h2,h3⟩:=r
 refine ⟨vs,h1,h2.mono hb hn,fun j j1 j2=>?_⟩
 obtain ⟨x,x1,x2,x3⟩:=h3 j j1 j2
 have xn:x<n:=by
  rcases x2.is with ⟨z,_⟩ | ⟨_,z,_⟩
  ·exact absurd (by simpa [ints] using z) x3
  ·exact z
 exact ⟨x,(hh x xn x1).2,x2.mono (fun _=>(hh x xn x1).1) hn,x3⟩
theorem TabUp.push {h':Heap} {n' b':Nat} {tab:List (List Int)} {v' w:AV} {no:Nat→Prop} {vs:List AV} {row:List Int} (h1:vs.length=tab.length) (h2:IsAt h' n' b' 1 (tag 22) ((vs.map fun v=>[v])++[[w]]) v')
  (h3:∀ j (h1:j<vs.length) (h2:j<tab.length),∃ x,no x∧IntsAt h' n' x tab[j] vs[j]∧tab[j]≠[]) {x:Nat} (hx:no x) (hw:IntsAt h' n' x row w) (hr:row≠[]):TabUp h' n' b' (tab++[row]) v' no:=by
 refine ⟨vs++[w],by simp [h1],by rw [List.map_append];exact h2,fun j j1 j2=>?_⟩
 by_cases e:j<vs.length
 ·rw [List.getElem_append_left e,List.getElem_append_left (by omega)]
  exact h3 j e (by omega)
 ·rw [List.getElem_append_right (by omega),List.getElem_append_right (by omega)]
  have:j=vs.length:=by rw [List.length_append,List.length_singleton] at j1;omega
  subst this
  simp only [h1,Nat.sub_self,List.getElem_singleton]
  exact ⟨x,hx,hw,hr⟩
theorem nth_ones:∀ (vs:List AV) (i:Nat) (hi:i<vs.length),nth (vs.map fun v=>[v]).flatten i=vs[i]
 | [],i,h=>by simp at h
 | a::vs,0,_=>rfl
 | a::vs,i+1,h=>by
  rw [List.map_cons,List.flatten_cons,List.cons_append,nth_cons,if_neg (by omega),Nat.add_sub_cancel,List.nil_append]
  exact nth_ones vs i (by simpa using h)
theorem TabUp.tab {h:Heap} {n b:Nat} {tab:List (List Int)} {v:AV} {no:Nat→Prop} (r:TabUp h n b tab v no):Tab h n tab v:=by
 obtain ⟨vs,h1,h2,h3⟩:=r
 refine ⟨fun t=>okA_ne h2.rows.at_.ne,fun i hi=>?_⟩
 obtain ⟨x,_,x2,x3⟩:=h3 i (by omega) hi
 rcases h2.is with ⟨z,_⟩ | ⟨_,z1,z2,z3⟩
 ·rw [List.map_eq_nil_iff] at z
  subst z
  simp at h1
  omega
 ·refine ⟨b,0+i * 1,_,_,vs[i]'(by omega),z1,fun s=>by rw [z2];exact ixs_slice 1 s b 0 _ _ true i (by rw [List.length_map];omega),z3,by rw [Nat.zero_add,Nat.mul_one];exact nth_ones vs i (by omega),fun t=>okA_ne x2.at_.ne,x2.at_⟩
theorem end_ok (N:Nat) (hN:1≤N) (lo hi:Int) (q:Bool) (s:St) (hs:s.n+10≤far):call Try.prog X N (.fn 50) [.agg [.int .i64 lo,.int .i64 hi],.bool q] s=.val (.int .i64 (if q then lo else hi)) s:=by
 obtain ⟨n,rfl⟩:∃ n,N=n+1:=⟨N - 1,by omega⟩
 refine call_plain' Try.func50 (fun u uh un um=>?_) rfl
 have hff:far=1000000000:=rfl
 rw [enter50]
 cases q
 all_goals
  simp (disch:=first|omega|(with_unfolding_all exact rfl)|(simp only[new_n,put_n,new_m];omega)|(refine put_m_le ?_;simp only[new_m];omega)) only [res50,K50r0,K50r1,K50r2,K50r3,K50,Abs.W,reduceIte,Nat.reduceEqDiff,Nat.reduceAdd,decide_true,decide_false,kLoop_def,Nat.reduceSub,Nat.zero_add,Nat.add_zero]
  exact ⟨_,rfl,by simp only [new_m];omega⟩
end Go.Proofs.Ytndbihaffijhbaa.walk
set_option maxRecDepth 10000
namespace Go.Proofs.Ytndbihaffijhbaa.walk
open Go.Abs
theorem lev_mono' {room room':Int} {melt melt':Int→Int} (hr:room≤room'):∀ (k:Nat) (hour i i':Int) (fs:List (Int × Int)),(∀ h,hour≤h→h<hour+k→melt' h≤melt h)→i≤i'→lev room melt k hour i fs≤lev room' melt' k hour i' fs
 | 0,hour,i,i',fs,_,h=>fill1_mono hr fs i i' h
 | k+1,hour,i,i',fs,hm,h=>by
  unfold lev
  have h1:=fill1_mono (hour:=hour) hr fs i i' h
  have h2:=hm hour (Int.le_refl _) (by omega)
  exact lev_mono' hr k (hour+1) _ _ _ (fun h a b=>hm h (by omega) (by omega)) (by omega)
theorem Truth.In.fall {T:Truth} {c:Cellar} {hours:Nat} (tin:T.In c hours) (ok:c.Ok) {b:Nat} (hb:b<c.boxes.length) (k:Nat) (hk:k≤hours):c.iceLo b k≤T.fall c b k∧T.fall c b k≤c.iceHi b k:=by
 have hbi:b<T.ice.length:=by rw [tin.il];exact hb
 have hbm:b<T.melts.length:=by rw [tin.melts.len];exact hb
 have hi:=tin.ice b hbi
 obtain ⟨hl,hr⟩:=tin.melts.row b hbm
 have key:∀ h:Int,0≤h→h<0+(k:Int)→(c.box b).ml≤(T.melts.getD b []).getD h.toNat 0∧(T.melts.getD b []).getD h.toNat 0≤(c.box b).mh:=fun h h0 h1=>by
  have hlt:h.toNat<(T.melts[b]).length:=by omega
  rw [getD_eq [] hbm,getD_eq 0 hlt]
  exact hr _ (List.getElem_mem hlt)
 have e:T.fall c b k=lev (c.box b).room (fun h=>(T.melts.getD b []).getD h.toNat 0) k 0 (T.ice[b]) (c.of b):=by
  unfold Truth.fall
  rw [getD_eq 0 hbi]
  exact fallN_eq c ok b k _ _ _ fun h=>by rw [Int.toNat_natCast]
 rw [e]
 exact ⟨lev_mono' (Int.le_refl _) k 0 _ _ _ (fun h h0 h1=>(key h h0 h1).2) hi.1,lev_mono' (Int.le_refl _) k 0 _ _ _ (fun h h0 h1=>(key h h0 h1).1) hi.2⟩
theorem Truth.In.around {T:Truth} {c:Cellar} {hours:Nat} (tin:T.In c hours) (ok:c.Ok) (l:Lot) (okl:l.Ok c.boxes.length) (k:Nat) (hk:k<hours):(c.at l k).1≤T.around c l.stays k∧T.around c l.stays k≤(c.at l k).2:=by
 unfold Cellar.at Truth.around
 cases hf:l.stays.find? (hit k) with
 | none =>
  have hlt:k<T.hall.length:=by rw [tin.hl];exact hk
  simp only
  rw [getD_eq 0 hlt]
  exact tin.hall _ (List.getElem_mem hlt)
 | some t =>
  have ht:=okl.sok t (List.mem_of_find?_eq_some hf)
  obtain ⟨b,hb⟩:∃ b:Nat,t.box=b:=⟨t.box.toNat,by have:=ht.b0;omega⟩
  have hlt:b<c.boxes.length:=by have:=ht.b1;omega
  simp only [hb,Int.toNat_natCast]
  have okb:=ok.bok _ (List.getElem_mem hlt)
  rw [← c.box_eq hlt] at okb
  obtain ⟨_,_,_,_,_,_,_,_,_,c1,c2,c3,_⟩:=okb
  obtain ⟨i1,i2⟩:=tin.fall ok hlt k (by omega)
  have hbc:b<T.cold.length:=by rw [tin.cold.len];exact hlt
  have hbw:b<T.warm.length:=by rw [tin.warm.len];exact hlt
  obtain ⟨lc,rc⟩:=tin.cold.row b hbc
  obtain ⟨lw,rw'⟩:=tin.warm.row b hbw
  have hc:=rc _ (List.getElem_mem (show k<(T.cold[b]).length by omega))
  have hw:=rw' _ (List.getElem_mem (show k<(T.warm[b]).length by omega))
  rw [getD_eq [] hbc,getD_eq [] hbw,getD_eq 0 (show k<(T.cold[b]).length by omega),getD_eq 0 (show k<(T.warm[b]).length by omega)]
  show (if 0<c.iceHi b k then (c.box b).cl else (c.box b).wl)≤(if 0<T.fall c b k then (T.cold[b])[k]'(by omega) else (T.warm[b])[k]'(by omega))∧(if 0<T.fall c b k then (T.cold[b])[k]'(by omega) else (T.warm[b])[k]'(by omega))≤(if 0<c.iceLo b k then (c.box b).ch else (c.box b).wh)
  split<;>split<;>split<;>omega
theorem sumN_total {f:Nat→Int} {g:Int × Int→Int} {u:Nat→Int × Int}:∀ m:Nat,((∀ i,i<m→f i≤g (u i))→sumN f m≤total g ((List.range m).map u))∧((∀ i,i<m→g (u i)≤f i)→total g ((List.range m).map u)≤sumN f m)
 | 0=>⟨fun _=>Int.le_refl _,fun _=>Int.le_refl _⟩
 | m+1=>by
  obtain ⟨h1,h2⟩:=sumN_total (f:=f) (g:=g) (u:=u) m
  rw [List.range_succ,List.map_append]
  show (_→sumN f (m+1)≤total g (_++[u m]))∧(_→total g (_++[u m])≤sumN f (m+1))
  rw [total_snoc]
  unfold sumN
  exact ⟨fun h=>by have:=h1 fun i hi=>h i (by omega);have:=h m (by omega);omega,fun h=>by have:=h2 fun i hi=>h i (by omega);have:=h m (by omega);omega⟩
theorem Truth.In.lost {T:Truth} {c:Cellar} {hours:Nat} (tin:T.In c hours) (ok:c.Ok) (l:Lot) (okl:l.Ok c.boxes.length) (m:Nat) (hm:l.born+m≤hours) (hm2:l.born+m≤240):(c.lost l m).1≤T.lost c l m∧T.lost c l m≤(c.lost l m).2:=by
 have b0:=okl.b0
 have key:∀ i:Nat,i<m→warmAt (tabsOf c.boxes c.fills c.boxes.length) l.stays c.hl c.hh (l.born+(i:Int))=c.at l (l.born+i).toNat:=fun i hi=>by
  have e:l.born+(i:Int)=((l.born+i).toNat:Int):=by omega
  rw [e,Int.toNat_natCast]
  exact c.warmAt_eq l okl _ (by omega)
 unfold Cellar.lost Cellar.warms walk.warms lostLo lostHi Truth.lost
 exact ⟨(sumN_total m).2 fun i hi=>by rw [key i hi];exact lossFrom_mono _ ok.ro _ _ (tin.around ok l okl _ (by omega)).1,(sumN_total m).1 fun i hi=>by rw [key i hi];exact lossFrom_mono _ ok.ro _ _ (tin.around ok l okl _ (by omega)).2⟩
/-! ### The two ends -/
def Box.edge (b:Box) (coldest:Bool):Box:=if coldest then ⟨b.room,b.ih,b.ih,b.ml,b.ml,b.cl,b.cl,b.wl,b.wl⟩ else ⟨b.room,b.il,b.il,b.mh,b.mh,b.ch,b.ch,b.wh,b.wh⟩
def Cellar.edge (c:Cellar) (coldest:Bool):Cellar:=⟨if coldest then c.hl else c.hh,if coldest then c.hl else c.hh,c.boxes.map fun b=>b.edge coldest,c.fills,c.rates⟩
theorem Box.edge_ok {b:Box} (h:b.Ok) (q:Bool):(b.edge q).Ok:=by
 obtain ⟨o1,o2,o3,o4,o5,o6,o7,o8,o9,o10,o11,o12,o13⟩:=h
 cases q
 ·exact ⟨o1,o2,o3,Int.le_refl _,by show b.il≤b.room;omega,by show 0≤b.mh;omega,Int.le_refl _,o8,by show -300≤b.ch;omega,Int.le_refl _,by show b.ch≤b.wh;omega,Int.le_refl _,o13⟩
 ·exact ⟨o1,o2,by show 0≤b.ih;omega,Int.le_refl _,o5,o6,Int.le_refl _,by show b.ml≤100000;omega,o9,Int.le_refl _,by show b.cl≤b.wl;omega,Int.le_refl _,by show b.wl≤400;omega⟩
theorem Cellar.edge_ok {c:Cellar} (ok:c.Ok) (q:Bool):(c.edge q).Ok:=by
 have h0:=ok.h0
 have h1:=ok.h1
 have h2:=ok.h2
 refine ⟨by cases q;exact (by show -300≤c.hh;omega);exact h0,Int.le_refl _,by cases q;exact h2;exact (by show c.hl≤400;omega),by show (c.boxes.map _).length≤6;rw [List.length_map];exact ok.b,fun b hb=>?_,ok.f,fun f hf=>?_,ok.fo,ok.r0,ok.r,ok.rok,ok.ro⟩
 ·obtain ⟨b',hb',rfl⟩:=List.mem_map.mp hb
  exact Box.edge_ok (ok.bok _ hb') q
 ·show f.Ok (c.boxes.map _).length
  rw [List.length_map];exact ok.fok f hf
theorem Cellar.edge_box (c:Cellar) (q:Bool) {b:Nat} (hb:b<c.boxes.length):(c.edge q).box b=(c.box b).edge q:=by
 rw [(c.edge q).box_eq (by show b<(c.boxes.map _).length;rw [List.length_map];exact hb),c.box_eq hb]
 show (c.boxes.map _)[b]'_=_
 rw [List.getElem_map]
theorem Cellar.edge_ice (c:Cellar) (q:Bool) {b:Nat} (hb:b<c.boxes.length) (k:Nat):(c.edge q).iceLo b k=(if q then c.iceHi b k else c.iceLo b k)∧(c.edge q).iceHi b k=(if q then c.iceHi b k else c.iceLo b k):=by
 unfold Cellar.iceLo Cellar.iceHi
 rw [c.edge_box q hb]
 cases q<;>exact ⟨rfl,rfl⟩
theorem Cellar.edge_at (c:Cellar) (q:Bool) (l:Lot) (okl:l.Ok c.boxes.length) (k:Nat):((c.edge q).at l k).1=(if q then (c.at l k).1 else (c.at l k).2)∧((c.edge q).at l k).2=(if q then (c.at l k).1 else (c.at l k).2):=by
 unfold Cellar.at
 cases hf:l.stays.find? (hit k) with
 | none=>cases q<;>exact ⟨rfl,rfl⟩
 | some t =>
  have ht:=okl.sok t (List.mem_of_find?_eq_some hf)
  obtain ⟨b,hb⟩:∃ b:Nat,t.box=b:=⟨t.box.toNat,by have:=ht.b0;omega⟩
  have hlt:b<c.boxes.length:=by have:=ht.b1;omega
  simp only [hb,Int.toNat_natCast]
  obtain ⟨i1,i2⟩:=c.edge_ice q hlt k
  unfold Cellar.warm
  rw [i1,i2,c.edge_box q hlt]
  cases q<;>exact ⟨rfl,rfl⟩
theorem Cellar.edge_lost (c:Cellar) (ok:c.Ok) (q:Bool) (l:Lot) (okl:l.Ok c.boxes.length) (m:Nat) (hm:l.born+m≤240):((c.edge q).lost l m).1=(if q then (c.lost l m).1 else (c.lost l m).2)∧((c.edge q).lost l m).2=(if q then (c.lost l m).1 else (c.lost l m).2):=by
 have okl':l.Ok (c.edge q).boxes.length:=by show l.Ok (c.boxes.map _).length;rw [List.length_map];exact okl
 have b0:=okl.b0
 have k1:∀ i:Nat,i<m→warmAt (tabsOf c.boxes c.fills c.boxes.length) l.stays c.hl c.hh (l.born+(i:Int))=c.at l (l.born+i).toNat:=fun i hi=>by
  have e:l.born+(i:Int)=((l.born+i).toNat:Int):=by omega
  rw [e,Int.toNat_natCast]
  exact c.warmAt_eq l okl _ (by omega)
 have k2:∀ i:Nat,i<m→warmAt (tabsOf (c.edge q).boxes (c.edge q).fills (c.edge q).boxes.length) l.stays (c.edge q).hl (c.edge q).hh (l.born+(i:Int))=(c.edge q).at l (l.born+i).toNat:=fun i hi=>by
  have e:l.born+(i:Int)=((l.born+i).toNat:Int):=by omega
  rw [e,Int.toNat_natCast]
  exact (c.edge q).warmAt_eq l okl' _ (by omega)
 have two:∀ (f g:Int × Int→Int),(∀ k,f ((c.edge q).at l k)=g (c.at l k))→total f ((List.range m).map fun i:Nat=>warmAt (tabsOf (c.edge q).boxes (c.edge q).fills (c.edge q).boxes.length) l.stays (c.edge q).hl (c.edge q).hh (l.born+(i:Int)))=total g ((List.range m).map fun i:Nat=>warmAt (tabsOf c.boxes c.fills c.boxes.length) l.stays c.hl c.hh (l.born+(i:Int))):=fun f g hfg=>by
  refine Int.le_antisymm (total_le m fun i hi=>?_) (total_le m fun i hi=>?_)
  ·rw [k1 i hi,k2 i hi,hfg];exact Int.le_refl _
  ·rw [k1 i hi,k2 i hi,hfg];exact Int.le_refl _
 unfold Cellar.lost Cellar.warms walk.warms lostLo lostHi
 cases q with
 | false=>exact ⟨two _ _ fun k=>by show lossFrom _ 0 c.rates=_;rw [(c.edge_at false l okl k).1];rfl,two _ _ fun k=>by show lossFrom _ 0 c.rates=_;rw [(c.edge_at false l okl k).2];rfl⟩
 | true=>exact ⟨two _ _ fun k=>by show lossFrom _ 0 c.rates=_;rw [(c.edge_at true l okl k).1];rfl,two _ _ fun k=>by show lossFrom _ 0 c.rates=_;rw [(c.edge_at true l okl k).2];rfl⟩
theorem Truth.fall_edge (T:Truth) (c:Cellar) (q:Bool) {b:Nat} (hb:b<c.boxes.length) (k:Nat):T.fall (c.edge q) b k=T.fall c b k:=by
 unfold Truth.fall
 rw [c.edge_box q hb]
 cases q<;>rfl
theorem Truth.lost_edge (T:Truth) (c:Cellar) (q:Bool) (l:Lot) (okl:l.Ok c.boxes.length) (m:Nat):T.lost (c.edge q) l m=T.lost c l m:=by
 have:∀ k:Nat,T.around (c.edge q) l.stays k=T.around c l.stays k:=fun k=>by
  unfold Truth.around
  cases hf:l.stays.find? (hit k) with
  | none=>rfl
  | some t =>
   have ht:=okl.sok t (List.mem_of_find?_eq_some hf)
   have hlt:t.box.toNat<c.boxes.length:=by have:=ht.b0;have:=ht.b1;omega
   simp only
   rw [T.fall_edge c q hlt]
 unfold Truth.lost
 have e:(fun i:Nat=>lossFrom (T.around (c.edge q) l.stays (l.born+i).toNat) 0 (c.edge q).rates)=fun i:Nat=>lossFrom (T.around c l.stays (l.born+i).toNat) 0 c.rates:=by
  funext i
  rw [this]
  rfl
 rw [e]
theorem Truth.In.edge {T:Truth} {c:Cellar} {q:Bool} {hours:Nat} (tin:T.In (c.edge q) hours) (ok:c.Ok) (l:Lot) (okl:l.Ok c.boxes.length) (m:Nat) (hm:l.born+m≤hours) (hm2:l.born+m≤240):T.lost c l m=if q then (c.lost l m).1 else (c.lost l m).2:=by
 have okl':l.Ok (c.edge q).boxes.length:=by show l.Ok (c.boxes.map _).length;rw [List.length_map];exact okl
 obtain ⟨h1,h2⟩:=tin.lost (Cellar.edge_ok ok q) l okl' m hm hm2
 obtain ⟨h3,h4⟩:=c.edge_lost ok q l okl m hm2
 rw [h3,T.lost_edge c q l okl] at h1
 rw [h4,T.lost_edge c q l okl] at h2
 exact Int.le_antisymm h2 h1
theorem Truth.In.of_edge {T:Truth} {c:Cellar} {q:Bool} {hours:Nat} (tin:T.In (c.edge q) hours) (ok:c.Ok):T.In c hours:=by
 have hlen:(c.edge q).boxes.length=c.boxes.length:=by show (c.boxes.map _).length=_;rw [List.length_map]
 have hbx:∀ b,b<c.boxes.length→(c.edge q).box b=(c.box b).edge q∧(c.box b).Ok:=fun b hb=>⟨c.edge_box q hb,by rw [c.box_eq hb];exact ok.bok _ (List.getElem_mem hb)⟩
 have row:∀ {tab:List (List Int)} {lo hi lo' hi':Nat→Int},TabIn tab (c.edge q).boxes.length hours lo hi→(∀ b,b<c.boxes.length→lo' b≤lo b∧hi b≤hi' b)→TabIn tab c.boxes.length hours lo' hi':=fun h hh=>⟨h.len.trans hlen,fun b hb=>by
  obtain ⟨r1,r2⟩:=h.row b hb
  have:=hh b (by rw [← hlen,← h.len];exact hb)
  exact ⟨r1,fun x hx=>by have:=r2 x hx;omega⟩⟩
 refine ⟨tin.il.trans hlen,fun b hb=>?_,row tin.melts fun b hb=>?_,row tin.cold fun b hb=>?_,row tin.warm fun b hb=>?_,tin.hl,fun x hx=>?_⟩
 ·have hb':b<c.boxes.length:=by rw [← hlen,← tin.il];exact hb
  obtain ⟨e,okb⟩:=hbx b hb'
  have h:=tin.ice b hb
  rw [e] at h
  have:=okb.i1
  cases q
  ·have h:(c.box b).il≤T.ice[b]∧T.ice[b]≤(c.box b).il:=h
   omega
  ·have h:(c.box b).ih≤T.ice[b]∧T.ice[b]≤(c.box b).ih:=h
   omega
 ·obtain ⟨e,okb⟩:=hbx b hb
  rw [e]
  have:=okb.m1
  cases q
  ·exact ⟨this,Int.le_refl _⟩
  ·exact ⟨Int.le_refl _,this⟩
 ·obtain ⟨e,okb⟩:=hbx b hb
  rw [e]
  have:=okb.c1
  cases q
  ·exact ⟨this,Int.le_refl _⟩
  ·exact ⟨Int.le_refl _,this⟩
 ·obtain ⟨e,okb⟩:=hbx b hb
  rw [e]
  have:=okb.w1
  cases q
  ·exact ⟨this,Int.le_refl _⟩
  ·exact ⟨Int.le_refl _,this⟩
 ·have h:=tin.hall x hx
  have:=ok.h1
  cases q
  ·have h:c.hh≤x∧x≤c.hh:=h
   omega
  ·have h:c.hl≤x∧x≤c.hl:=h
   omega
end Go.Proofs.Ytndbihaffijhbaa.walk
