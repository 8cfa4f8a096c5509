/- With a place more, or with one who withdraws, nobody else has less. -/
import Derived.Test.YthbhjgbpjlnbcaaM7
import Derived.Test.YthbhjgbpjlnbcaaM6
import Derived.Test.YthbhjgbpjlnbcaaM4
import Derived.Test.YthbhjgbpjlnbcaaWalkAll
set_option linter.unusedSimpArgs false
set_option maxHeartbeats 16000000
set_option linter.unusedVariables false
set_option maxRecDepth 10000
namespace Go.Proofs.Ythbhjgbpjlnbcaa.walk
open Go.Abs Go.Proofs.Ythbhjgbpjlnbcaa.code
namespace Mkt
end Mkt
end Go.Proofs.Ythbhjgbpjlnbcaa.walk
set_option maxRecDepth 10000
namespace Go.Proofs.Ythbhjgbpjlnbcaa.walk
open Go.Abs Go.Proofs.Ythbhjgbpjlnbcaa.code
def Spliced (k:Nat) (a a':Appl):Prop:=a'=a∨∃ (p:Nat) (b:Int),p≤a.wishes.length∧0≤b∧b≤8∧a'=⟨a.years,a.token,a.wishes.take p++(k:Int)::a.wishes.drop p,a.bids.take p++b::a.bids.drop p⟩
structure RoomL (l l':Letting):Prop where
 st:∃ r,1≤r∧r≤3∧l'.stalls=l.stalls++[⟨r,0, -1⟩]
 len:l'.appls.length=l.appls.length
 ap:∀ i (h:i<l.appls.length) (h':i<l'.appls.length),Spliced l.stalls.length l.appls[i] l'.appls[i]
 k:l.stalls.length≤6
theorem Spliced.years {k:Nat} {a a':Appl} (s:Spliced k a a'):a'.years=a.years:=by
 rcases s with h | ⟨p,b,_,_,_,h⟩<;>rw [h]
theorem Spliced.token {k:Nat} {a a':Appl} (s:Spliced k a a'):a'.token=a.token:=by
 rcases s with h | ⟨p,b,_,_,_,h⟩<;>rw [h]
theorem few_wishes {k:Nat} {w:List Int} (h:∀ x ∈ w,0≤x∧x<k) (nd:w.Nodup):w.length≤k:=by
 have h1:=len_sub (k:=List.range k) (nodup_toNat (fun x hx=>(h x hx).1) nd) fun x hx=>by
  obtain ⟨y,y1,y2⟩:=List.mem_map.mp hx
  have:=h y y1
  exact List.mem_range.mpr (by omega)
 rwa [List.length_map,List.length_range] at h1
theorem Spliced.ok {k:Nat} {a a':Appl} (s:Spliced k a a') (hk:k≤6) (A:a.Ok k):a'.Ok (k+1):=by
 have wl:=few_wishes A.w A.nd
 have bl:=A.bl
 rcases s with h | ⟨p,b,h1,h2,h3,h⟩
 ·rw [h]
  exact ⟨A.y0,A.y1,A.t0,A.t1,fun x hx=>by have:=A.w x hx;omega,A.nd,A.wl,A.bl,A.b⟩
 ·subst h
  refine ⟨A.y0,A.y1,A.t0,A.t1,fun x hx=>?_,?_,?_,?_,fun x hx=>?_⟩
  ·rcases List.mem_append.mp hx with h | h
   ·have:=A.w x (List.mem_of_mem_take h);omega
   ·rcases List.mem_cons.mp h with h | h
    ·omega
    ·have:=A.w x (List.mem_of_mem_drop h);omega
  ·refine (List.perm_middle.nodup_iff).mpr ?_
   rw [List.take_append_drop]
   refine List.nodup_cons.mpr ⟨fun hm=>?_,A.nd⟩
   have:=A.w _ hm
   omega
  ·show (a.wishes.take p++(k:Int)::a.wishes.drop p).length≤8
   rw [List.length_append,List.length_cons,List.length_take,List.length_drop];omega
  ·show (a.bids.take p++b::a.bids.drop p).length=(a.wishes.take p++(k:Int)::a.wishes.drop p).length
   rw [List.length_append,List.length_cons,List.length_take,List.length_drop,List.length_append,List.length_cons,List.length_take,List.length_drop];omega
  ·rcases List.mem_append.mp hx with h | h
   ·exact A.b x (List.mem_of_mem_take h)
   ·rcases List.mem_cons.mp h with h | h
    ·omega
    ·exact A.b x (List.mem_of_mem_drop h)
theorem RoomL.slen {l l':Letting} (r:RoomL l l'):l'.stalls.length=l.stalls.length+1:=by
 obtain ⟨x,_,_,h⟩:=r.st
 rw [h,List.length_append];rfl
theorem RoomL.ok {l l':Letting} (r:RoomL l l') (ok:l.Ok):l'.Ok:=by
 have sl:=r.slen
 have k:=r.k
 obtain ⟨x,x1,x2,x3⟩:=r.st
 refine ⟨by omega,by omega,by rw [r.len];exact ok.m1,fun s hs=>?_,fun a ha=>?_⟩
 ·rw [r.len]
  rw [x3] at hs
  rcases List.mem_append.mp hs with h | h
  ·exact ok.st s h
  ·rw [List.mem_singleton.mp h]
   exact ⟨x1,x2,by show (0:Int)≤0;omega,by show (0:Int)≤1000;omega,by show (-1:Int) ≤ -1;omega,by show (-1:Int)<_;omega⟩
 ·obtain ⟨i,hi,he⟩:=List.getElem_of_mem ha
  rw [← he,sl]
  exact (r.ap i (by rw [← r.len];exact hi) hi).ok k (ok.ap _ (List.getElem_mem _))
theorem RoomL.stall {l l':Letting} (r:RoomL l l') {x:Int} (h:0≤x∧x<l.stalls.length):stallAt l'.stalls x=stallAt l.stalls x:=by
 obtain ⟨y,_,_,e⟩:=r.st
 unfold walk.stallAt
 rw [e]
 simp [List.getD,List.getElem?_append_left (show x.toNat<l.stalls.length by omega)]
theorem filter_can {l l':Letting} (r:RoomL l l'):∀ {T:List (Int × Int)},(∀ x ∈ T,0≤x.1∧x.1<l.stalls.length)→T.filter (can l'.stalls)=T.filter (can l.stalls):=fun {T} h=>by
 refine List.filter_congr fun x hx=>?_
 unfold can
 rw [r.stall (h x hx)]
theorem RoomL.reach {l l':Letting} (r:RoomL l l') (ok:l.Ok) {a:Nat} (ha:a<l.appls.length):reachOf l'.stalls (applAt l' a)=reachOf l.stalls (applAt l a)∨∃ p q b,reachOf l.stalls (applAt l a)=p++q∧reachOf l'.stalls (applAt l' a)=p++((l.stalls.length:Int),b)::q:=by
 have A:=ok.ap _ (List.getElem_mem ha)
 have ha':a<l'.appls.length:=by rw [r.len];exact ha
 rw [applAt_of ha,applAt_of ha']
 have hz:∀ x ∈ l.appls[a].wishes.zip l.appls[a].bids,0≤x.1∧x.1<l.stalls.length:=fun x hx=>A.w _ (zip_mem hx).1
 rcases r.ap a ha ha' with h | ⟨p,b,h1,_,_,h⟩
 ·left
  rw [h]
  unfold reachOf
  exact filter_can r hz
 ·rw [h]
  have bl:=A.bl
  have e0:l.appls[a].wishes.zip l.appls[a].bids=(l.appls[a].wishes.take p).zip (l.appls[a].bids.take p)++(l.appls[a].wishes.drop p).zip (l.appls[a].bids.drop p):=by
   conv=>lhs;rw [← List.take_append_drop p l.appls[a].wishes,← List.take_append_drop p l.appls[a].bids]
   exact List.zip_append (by rw [List.length_take,List.length_take];omega)
  have e1:(l.appls[a].wishes.take p++(l.stalls.length:Int)::l.appls[a].wishes.drop p).zip (l.appls[a].bids.take p++b::l.appls[a].bids.drop p)=(l.appls[a].wishes.take p).zip (l.appls[a].bids.take p)++((l.stalls.length:Int),b)::(l.appls[a].wishes.drop p).zip (l.appls[a].bids.drop p):=by
   rw [List.zip_append (by rw [List.length_take,List.length_take];omega)]
   rfl
  unfold reachOf
  show (_=_)∨_
  simp only
  rw [e1,e0]
  rw [e0] at hz
  rw [List.filter_append,List.filter_append,filter_can r (fun x hx=>hz x (List.mem_append_left _ hx)),List.filter_cons,filter_can r (fun x hx=>hz x (List.mem_append_right _ hx))]
  by_cases hc:can l'.stalls ((l.stalls.length:Int),b)=true
  ·right
   rw [if_pos hc]
   exact ⟨_,_,b,rfl,rfl⟩
  ·left
   rw [if_neg hc]
theorem RoomL.draw {l l':Letting} (r:RoomL l l'):drI l'=drI l:=by
 have:∀ (x y:List Appl),y.length=x.length→(∀ i (h:i<x.length) (h':i<y.length),y[i].token=x[i].token)→tok y=tok x:=by
  intro x
  induction x with
  | nil=>intro y h _;rw [List.length_eq_zero_iff.mp h]
  | cons a x ih =>
   intro y h ht
   cases y with
   | nil=>simp at h
   | cons b y =>
    show b.token.toNat+tok y=a.token.toNat+tok x
    have h0:b.token=a.token:=ht 0 (by simp) (by simp)
    rw [h0,ih y (by simpa using h) fun i h1 h2=>ht (i+1) (by simpa using h1) (by simpa using h2)]
 unfold drI drawL
 rw [r.len,this l.appls l'.appls r.len fun i h h'=>(r.ap i h h').token]
end Go.Proofs.Ythbhjgbpjlnbcaa.walk
set_option maxRecDepth 10000
namespace Go.Abs
structure Rest (no:Nat→Prop) (h:Heap) (n w:Nat) (rows:List (List AV)) (v:AV):Prop where
 wide:∀ r ∈ rows,r.length=w
 first:∀ s:St,(∀ b,b<n→no b→s.h.get b=h.get b)→lenA v=some rows.length∧firstA w rows.length s v=some rows.flatten
 ok:∀ t,okA (.val v t)=.val v t
theorem flatten_drop:∀ {rows:List (List AV)} {w:Nat},(∀ r ∈ rows,r.length=w)→∀ i,(rows.drop i).flatten=rows.flatten.drop (i * w)
 | [],w,_,i=>by simp
 | r::rows,w,h,0=>by simp
 | r::rows,w,h,i+1=>by
  rw [List.drop_succ_cons,flatten_drop (fun x hx=>h x (List.mem_cons_of_mem _ hx)) i,List.flatten_cons,Nat.succ_mul,Nat.add_comm (i * w) w,← List.drop_drop]
  have hr:=h r (List.mem_cons_self ..)
  rw [← hr,List.drop_left]
theorem Sl.from_ {no:Nat→Prop} {h:Heap} {n w i:Nat} {rows:List (List AV)} {v:AV} (r:Sl no h n w rows v) (hi:i≤rows.length):∃ v',(∀ s,sliceVal w (some (.int .i64 (i:Int))) none s v=.val v' s)∧Rest no h n w (rows.drop i) v':=by
 have wd:∀ x ∈ rows.drop i,x.length=w:=fun x hx=>r.wide x (List.mem_of_mem_drop hx)
 rcases r.is with ⟨h1,h2⟩ | ⟨b,o,cap,e,c,sz,q1,q2,q3,q4,q5,q6⟩
 ·subst h1;subst h2
  have:i=0:=by simpa using hi
  subst this
  exact ⟨.nilslice,fun s=>rfl,wd,fun s _=>⟨rfl,rfl⟩,fun _=>rfl⟩
 ·subst q4
  have e1:boundsA rows.length cap (some (.int .i64 (i:Int))) none=some (i,rows.length):=by
   unfold boundsA hiA loA
   simp only [boundA_nat _ _ _ hi]
  have ld:(rows.drop i).length=rows.length - i:=List.length_drop
  by_cases hc:cap=i
  ·have hil:rows.length=i:=by have:=q3.1;omega
   have e0:rows.drop i=[]:=List.drop_eq_nil_of_le (by omega)
   subst hc
   cases e with
   | true =>
    refine ⟨.tail b (o+cap * w),fun s=>?_,wd,fun s _=>?_,fun _=>rfl⟩
    ·unfold sliceVal
     simp only [Nat.ble_eq_true_of_le q3.1,e1,Nat.beq_refl,if_true]
    ·rw [e0];exact ⟨rfl,rfl⟩
   | false =>
    refine ⟨.slice b o (rows.length - cap) 0 false,fun s=>?_,wd,fun s hs=>?_,fun _=>rfl⟩
    ·unfold sliceVal
     simp only [Nat.ble_eq_true_of_le q3.1,e1,Nat.beq_refl]
     rfl
    ·rw [e0]
     refine ⟨by show some (rows.length - cap)=_;rw [hil,Nat.sub_self];rfl,?_⟩
     show (match s.h.get b with | some (.cells c _)=>Abs.cut o (0 * w) c | some (.fam c _ q _)=>Abs.cut o (0 * w) (c.take q) | _=>none)=_
     rw [hs b q1 q2,q5]
     obtain ⟨x,y,z1,z2,z3⟩:=cut_some q6
     have:=cut_skip x (rows.flatten++y) 0 0
     rw [← List.append_assoc,← z1,z2,Nat.add_zero] at this
     show Abs.cut o (0 * w) c=_
     rw [Nat.zero_mul,this,cut_zero]
     cases rows.flatten++y<;>rfl
  ·have hlt:i<cap:=by have:=q3.1;omega
   refine ⟨.slice b (o+i * w) (rows.length - i) (cap - i) e,fun s=>slice_from w s b o rows.length cap i e q3.1 hi hlt,wd,fun s hs=>⟨by show some (rows.length - i)=_;rw [ld],?_⟩,fun _=>rfl⟩
   show (match s.h.get b with | some (.cells c _)=>Abs.cut (o+i * w) ((rows.drop i).length * w) c | some (.fam c _ q _)=>Abs.cut (o+i * w) ((rows.drop i).length * w) (c.take q) | _=>none)=_
   rw [hs b q1 q2,q5]
   show Abs.cut (o+i * w) ((rows.drop i).length * w) c=_
   refine cut_cut q6 ?_
   have hf:=flatten_len r.wide
   have hs1:rows.flatten=rows.flatten.take (i * w)++rows.flatten.drop (i * w):=(List.take_append_drop _ _).symm
   have ht:(rows.flatten.take (i * w)).length=i * w:=by
    rw [List.length_take,hf]
    have:=Nat.mul_le_mul_right w hi
    omega
   have:=cut_skip (rows.flatten.take (i * w)) (rows.flatten.drop (i * w)) 0 ((rows.drop i).length * w)
   rw [ht,← hs1,Nat.add_zero] at this
   rw [this,cut_zero,flatten_drop r.wide i]
   have e2:=cut1_all (rows.flatten.drop (i * w))
   rw [← flatten_drop r.wide i,flatten_len wd] at e2
   rw [flatten_drop r.wide i] at e2
   exact e2
end Go.Abs
namespace Go.Proofs.Ythbhjgbpjlnbcaa.walk
open Go.Abs Go.Proofs.Ythbhjgbpjlnbcaa.code
end Go.Proofs.Ythbhjgbpjlnbcaa.walk
set_option maxRecDepth 10000
namespace Go.Proofs.Ythbhjgbpjlnbcaa.walk
open Go.Abs Go.Proofs.Ythbhjgbpjlnbcaa.code
def nextOk (l:Letting) (f:List Int) (a:Int):Bool:=decide (a<0) || (!decide (a ∈ f) && canI l f.length a.toNat)
def nexts (l:Letting) (f:List Int) (i:Nat):List Int:=((List.range i).map fun (j:Nat)=>(j:Int) - 1).filter (nextOk l f)
def allL (l:Letting):Nat→List Int→List (List Int)
 | 0,f=>[f]
 | k+1,f=>(nexts l f (l.appls.length+1)).flatMap fun a=>allL l k (f++[a])
structure AllJ (u w t:St) (nf:Nat→Prop) (l:Letting) (f:List Int) (k i kk:Nat) (v6:AV):Prop where
 acc:∃ b,AccI t.h t.n b (fun x=>(nf x∧x<u.n)∨u.n≤x) ((nexts l f i).flatMap fun a=>allL l k (f++[a])) v6∧u.n<b∧(b<t.n∨far<b)
 same:∀ c,c<w.n→t.h.get c=w.h.get c
 n:w.n≤t.n
 le:t.n≤w.n+kk
 m:u.n≤t.m
 ml:t.m≤far
end Go.Proofs.Ythbhjgbpjlnbcaa.walk
set_option maxRecDepth 10000
namespace Go.Proofs.Ythbhjgbpjlnbcaa.walk
open Go.Abs Go.Proofs.Ythbhjgbpjlnbcaa.code
def betterL (l:Letting) (hs:List Int) (a:Nat) (p:List (Int × Int)):List Nat:=(p.map fun x=>x.1.toNat).filter fun st=>betterB l st a (hs.getD st (-1))
end Go.Proofs.Ythbhjgbpjlnbcaa.walk
set_option maxRecDepth 10000
namespace Go.Proofs.Ythbhjgbpjlnbcaa.walk
open Go.Abs Go.Proofs.Ythbhjgbpjlnbcaa.code
structure PartV (l:Letting) (f:List Int):Prop where
 can:∀ s (h:s<f.length),f[s] = -1∨∃ a:Nat,f[s]=a∧a<l.appls.length∧canI l s a=true
 once:∀ s t (h:s<f.length) (h':t<f.length),f[s]=f[t]→f[s] ≠ -1→s=t
theorem nexts_mem {l:Letting} {f:List Int} {i:Nat} {a:Int}:a ∈ nexts l f i↔(∃ j,j<i∧(j:Int) - 1=a)∧nextOk l f a=true:=by
 unfold nexts
 rw [List.mem_filter,List.mem_map]
 constructor
 ·rintro ⟨⟨j,h1,h2⟩,h3⟩;exact ⟨⟨j,List.mem_range.mp h1,h2⟩,h3⟩
 ·rintro ⟨⟨j,h1,h2⟩,h3⟩;exact ⟨⟨j,List.mem_range.mpr h1,h2⟩,h3⟩
theorem PartV.next {l:Letting} {f:List Int} {a:Int} (V:PartV l f) (ha:a ∈ nexts l f (l.appls.length+1)):PartV l (f++[a]):=by
 obtain ⟨⟨j,j1,j2⟩,ho⟩:=nexts_mem.mp ha
 unfold nextOk at ho
 rw [Bool.or_eq_true,decide_eq_true_eq,Bool.and_eq_true] at ho
 have hl:(f++[a]).length=f.length+1:=by rw [List.length_append,List.length_singleton]
 have g1:∀ s (h:s<f.length) (h':s<(f++[a]).length),(f++[a])[s]=f[s]:=fun s h _=>List.getElem_append_left h
 have g2:∀ (h':f.length<(f++[a]).length),(f++[a])[f.length]=a:=fun h'=>by simp
 refine ⟨fun s h=>?_,fun s t h h' he hn=>?_⟩
 ·by_cases e:s<f.length
  ·rw [g1 s e h];exact V.can s e
  ·have e2:s=f.length:=by omega
   subst e2
   rw [g2 h]
   rcases ho with h0 | ⟨h1,h2⟩
   ·exact .inl (by omega)
   ·by_cases h0:a<0
    ·exact .inl (by omega)
    ·exact .inr ⟨a.toNat,by omega,by omega,h2⟩
 ·have key:∀ t (ht:t<f.length),f[t]=a→a ≠ -1→False:=fun t ht e0 hne=>by
   rcases ho with h0 | ⟨h1,_⟩
   ·omega
   ·have:a ∈ f:=by rw [← e0];exact List.getElem_mem ht
    rw [decide_eq_true this] at h1
    cases h1
  by_cases e:s<f.length
  ·rw [g1 s e h] at he hn
   by_cases e2:t<f.length
   ·rw [g1 t e2 h'] at he
    exact V.once s t e e2 he hn
   ·have e3:t=f.length:=by omega
    subst e3
    rw [g2 h'] at he
    exact (key s e he (by rw [← he];exact hn)).elim
  ·have e3:s=f.length:=by omega
   subst e3
   rw [g2 h] at he hn
   by_cases e2:t<f.length
   ·rw [g1 t e2 h'] at he
    exact (key t e2 he.symm hn).elim
   ·omega
end Go.Proofs.Ythbhjgbpjlnbcaa.walk
set_option maxRecDepth 10000
namespace Go.Proofs.Ythbhjgbpjlnbcaa.walk
open Go.Abs Go.Proofs.Ythbhjgbpjlnbcaa.code
def EnvI (l:Letting) (hs:List Int) (i pE kf:Nat) (p:List (Int × Int)) (h:Heap) (n:Nat):Prop :=
 ∃ vE bE,h.get pE=some (.cells [vE] (tag 22))∧IsAt h n bE 1 (tag 3) (natRows (betterL l hs i p)) vE∧kf≤bE∧(bE<n∨far<bE)∧∀ x ∈ p,holdF hs x.1.toNat≠i
theorem EnvI.keep {l:Letting} {hs:List Int} {i pE kf n n':Nat} {p:List (Int × Int)} {h h':Heap} (a:EnvI l hs i pE kf p h n) (h1:h'.get pE=h.get pE) (h2:∀ b,kf≤b→b<n→h'.get b=h.get b) (hn:n≤n'):EnvI l hs i pE kf p h' n':=by
 obtain ⟨vE,bE,a1,a2,a3,a4,a5⟩:=a
 exact ⟨vE,bE,h1.trans a1,a2.mono (fun h=>h2 bE a3 h) hn,a3,by omega,a5⟩
end Go.Proofs.Ythbhjgbpjlnbcaa.walk
set_option maxRecDepth 10000
namespace Go.Proofs.Ythbhjgbpjlnbcaa.walk
open Go.Abs Go.Proofs.Ythbhjgbpjlnbcaa.code
end Go.Proofs.Ythbhjgbpjlnbcaa.walk
