/- With a place more, or with one who withdraws, nobody else has less. -/
import Derived.Test.YthbhjgbpjlnbcaaM7
import Derived.Test.YthbhjgbpjlnbcaaM6
import Derived.Test.YthbhjgbpjlnbcaaM4
import Derived.Test.YthbhjgbpjlnbcaaWalkAll
set_option maxHeartbeats 16000000
set_option linter.unusedVariables false
set_option maxRecDepth 10000
namespace Go.Proofs.Ythbhjgbpjlnbcaa.walk
open Go.Abs Go.Proofs.Ythbhjgbpjlnbcaa.code
namespace Mkt
end Mkt
end Go.Proofs.Ythbhjgbpjlnbcaa.walk
set_option maxRecDepth 10000
namespace Go.Proofs.Ythbhjgbpjlnbcaa.walk
open Go.Abs Go.Proofs.Ythbhjgbpjlnbcaa.code
def Spliced (k:Nat) (a a':Appl):Prop:=a'=a∨∃ (p:Nat) (b:Int),p≤a.wishes.length∧0≤b∧b≤8∧a'=⟨a.years,a.token,a.wishes.take p++(k:Int)::a.wishes.drop p,a.bids.take p++b::a.bids.drop p⟩
structure RoomL (l l':Letting):Prop where
 st:∃ r,1≤r∧r≤3∧l'.stalls=l.stalls++[⟨r,0, -1⟩]
 len:l'.appls.length=l.appls.length
 ap:∀ i (h:i<l.appls.length) (h':i<l'.appls.length),Spliced l.stalls.length l.appls[i] l'.appls[i]
 k:l.stalls.length≤6
theorem Spliced.years {k:Nat} {a a':Appl} (s:Spliced k a a'):a'.years=a.years:=by
 rcases s with h | ⟨p,b,_,_,_,h⟩<;>rw [h]
theorem Spliced.token {k:Nat} {a a':Appl} (s:Spliced k a a'):a'.token=a.token:=by
 rcases s with h | ⟨p,b,_,_,_,h⟩<;>rw [h]
theorem few_wishes {k:Nat} {w:List Int} (h:∀ x ∈ w,0≤x∧x<k) (nd:w.Nodup):w.length≤k:=by
 have h1:=len_sub (k:=List.range k) (nodup_toNat (fun x hx=>(h x hx).1) nd) fun x hx=>by
  obtain ⟨y,y1,y2⟩:=List.mem_map.mp hx
  have:=h y y1
  exact List.mem_range.mpr (by omega)
 rwa [List.length_map,List.length_range] at h1
theorem Spliced.ok {k:Nat} {a a':Appl} (s:Spliced k a a') (hk:k≤6) (A:a.Ok k):a'.Ok (k+1):=by
 have wl:=few_wishes A.w A.nd
 have bl:=A.bl
 rcases s with h | ⟨p,b,h1,h2,h3,h⟩
 ·rw [h]
  exact ⟨A.y0,A.y1,A.t0,A.t1,fun x hx=>by have:=A.w x hx;omega,A.nd,A.wl,A.bl,A.b⟩
 ·subst h
  refine ⟨A.y0,A.y1,A.t0,A.t1,fun x hx=>?_,?_,?_,?_,fun x hx=>?_⟩
  ·rcases List.mem_append.mp hx with h | h
   ·have:=A.w x (List.mem_of_mem_take h);omega
   ·rcases List.mem_cons.mp h with h | h
    ·omega
    ·have:=A.w x (List.mem_of_mem_drop h);omega
  ·refine (List.perm_middle.nodup_iff).mpr ?_
   rw [List.take_append_drop]
   refine List.nodup_cons.mpr ⟨fun hm=>?_,A.nd⟩
   have:=A.w _ hm
   omega
  ·show (a.wishes.take p++(k:Int)::a.wishes.drop p).length≤8
   rw [List.length_append,List.length_cons,List.length_take,List.length_drop];omega
  ·show (a.bids.take p++b::a.bids.drop p).length=(a.wishes.take p++(k:Int)::a.wishes.drop p).length
   rw [List.length_append,List.length_cons,List.length_take,List.length_drop,List.length_append,List.length_cons,List.length_take,List.length_drop];omega
  ·rcases List.mem_append.mp hx with h | h
   ·exact A.b x (List.mem_of_mem_take h)
   ·rcases List.mem_cons.mp h with h | h
    ·omega
    ·exact A.b x (List.mem_of_mem_drop h)
theorem RoomL.slen {l l':Letting} (r:RoomL l l'):l'.stalls.length=l.stalls.length+1:=by
 obtain ⟨x,_,_,h⟩:=r.st
 rw [h,List.length_append];rfl
theorem RoomL.ok {l l':Letting} (r:RoomL l l') (ok:l.Ok):l'.Ok:=by
 have sl:=r.slen
 have k:=r.k
 obtain ⟨x,x1,x2,x3⟩:=r.st
 refine ⟨by omega,by omega,by rw [r.len];exact ok.m1,fun s hs=>?_,fun a ha=>?_⟩
 ·rw [r.len]
  rw [x3] at hs
  rcases List.mem_append.mp hs with h | h
  ·exact ok.st s h
  ·rw [List.mem_singleton.mp h]
   exact ⟨x1,x2,by show (0:Int)≤0;omega,by show (0:Int)≤1000;omega,by show (-1:Int) ≤ -1;omega,by show (-1:Int)<_;omega⟩
 ·obtain ⟨i,hi,he⟩:=List.getElem_of_mem ha
  rw [← he,sl]
  exact (r.ap i (by rw [← r.len];exact hi) hi).ok k (ok.ap _ (List.getElem_mem _))
theorem RoomL.stall {l l':Letting} (r:RoomL l l') {x:Int} (h:0≤x∧x<l.stalls.length):stallAt l'.stalls x=stallAt l.stalls x:=by
 obtain ⟨y,_,_,e⟩:=r.st
 unfold walk.stallAt
 rw [e]
 simp [List.getD,List.getElem?_append_left (show x.toNat<l.stalls.length by omega)]
theorem filter_can {l l':Letting} (r:RoomL l l'):∀ {T:List (Int × Int)},(∀ x ∈ T,0≤x.1∧x.1<l.stalls.length)→T.filter (can l'.stalls)=T.filter (can l.stalls):=fun {T} h=>by
 refine List.filter_congr fun x hx=>?_
 unfold can
 rw [r.stall (h x hx)]
theorem RoomL.reach {l l':Letting} (r:RoomL l l') (ok:l.Ok) {a:Nat} (ha:a<l.appls.length):reachOf l'.stalls (applAt l' a)=reachOf l.stalls (applAt l a)∨∃ p q b,reachOf l.stalls (applAt l a)=p++q∧reachOf l'.stalls (applAt l' a)=p++((l.stalls.length:Int),b)::q:=by
 have A:=ok.ap _ (List.getElem_mem ha)
 have ha':a<l'.appls.length:=by rw [r.len];exact ha
 rw [applAt_of ha,applAt_of ha']
 have hz:∀ x ∈ l.appls[a].wishes.zip l.appls[a].bids,0≤x.1∧x.1<l.stalls.length:=fun x hx=>A.w _ (zip_mem hx).1
 rcases r.ap a ha ha' with h | ⟨p,b,h1,_,_,h⟩
 ·left
  rw [h]
  unfold reachOf
  exact filter_can r hz
 ·rw [h]
  have bl:=A.bl
  have e0:l.appls[a].wishes.zip l.appls[a].bids=(l.appls[a].wishes.take p).zip (l.appls[a].bids.take p)++(l.appls[a].wishes.drop p).zip (l.appls[a].bids.drop p):=by
   conv=>lhs;rw [← List.take_append_drop p l.appls[a].wishes,← List.take_append_drop p l.appls[a].bids]
   exact List.zip_append (by rw [List.length_take,List.length_take];omega)
  have e1:(l.appls[a].wishes.take p++(l.stalls.length:Int)::l.appls[a].wishes.drop p).zip (l.appls[a].bids.take p++b::l.appls[a].bids.drop p)=(l.appls[a].wishes.take p).zip (l.appls[a].bids.take p)++((l.stalls.length:Int),b)::(l.appls[a].wishes.drop p).zip (l.appls[a].bids.drop p):=by
   rw [List.zip_append (by rw [List.length_take,List.length_take];omega)]
   rfl
  unfold reachOf
  show (_=_)∨_
  simp only
  rw [e1,e0]
  rw [e0] at hz
  rw [List.filter_append,List.filter_append,filter_can r (fun x hx=>hz x (List.mem_append_left _ hx)),List.filter_cons,filter_can r (fun x hx=>hz x (List.mem_append_right _ hx))]
  by_cases hc:can l'.stalls ((l.stalls.length:Int),b)=true
  ·right
   rw [if_pos hc]
   exact ⟨_,_,b,rfl,rfl⟩
  ·left
   rw [if_neg hc]
theorem RoomL.draw {l l':Letting} (r:RoomL l l'):drI l'=drI l:=by
 have:∀ (x y:List Appl),y.length=x.length→(∀ i (h:i<x.length) (h':i<y.length),y[i].token=x[i].token)→tok y=tok x:=by
  intro x
  induction x with
  | nil=>intro y h _;rw [List.length_eq_zero_iff.mp h]
  | cons a x ih =>
   intro y h ht
   cases y with
   | nil=>simp at h
   | cons b y =>
    show b.token.toNat+tok y=a.token.toNat+tok x
    have h0:b.token=a.token:=ht 0 (by simp) (by simp)
    rw [h0,ih y (by simpa using h) fun i h1 h2=>ht (i+1) (by simpa using h1) (by simpa using h2)]
 unfold drI drawL
 rw [r.len,this l.appls l'.appls r.len fun i h h'=>(r.ap i h h').token]
end Go.Proofs.Ythbhjgbpjlnbcaa.walk
set_option maxRecDepth 10000
namespace Go.Abs
structure Rest (no:Nat→Prop) (h:Heap) (n w:Nat) (rows:List (List AV)) (v:AV):Prop where
 wide:∀ r ∈ rows,r.length=w
 first:∀ s:St,(∀ b,b<n→no b→s.h.get b=h.get b)→lenA v=some rows.length∧firstA w rows.length s v=some rows.flatten
 ok:∀ t,okA (.val v t)=.val v t
theorem flatten_drop:∀ {rows:List (List AV)} {w:Nat},(∀ r ∈ rows,r.length=w)→∀ i,(rows.drop i).flatten=rows.flatten.drop (i * w)
 | [],w,_,i=>by simp
 | r::rows,w,h,0=>by simp
 | r::rows,w,h,i+1=>by
  rw [List.drop_succ_cons,flatten_drop (fun x hx=>h x (List.mem_cons_of_mem _ hx)) i,List.flatten_cons,Nat.succ_mul,Nat.add_comm (i * w) w,← List.drop_drop]
  have hr:=h r (List.mem_cons_self ..)
  rw [← hr,List.drop_left]
theorem Sl.from_ {no:Nat→Prop} {h:Heap} {n w i:Nat} {rows:List (List AV)} {v:AV} (r:Sl no h n w rows v) (hi:i≤rows.length):∃ v',(∀ s,sliceVal w (some (.int .i64 (i:Int))) none s v=.val v' s)∧Rest no h n w (rows.drop i) v':=by
 have wd:∀ x ∈ rows.drop i,x.length=w:=fun x hx=>r.wide x (List.mem_of_mem_drop hx)
 rcases r.is with ⟨h1,h2⟩ | ⟨b,o,cap,e,c,sz,q1,q2,q3,q4,q5,q6⟩
 ·subst h1;subst h2
  have:i=0:=by simpa using hi
  subst this
  exact ⟨.nilslice,fun s=>rfl,wd,fun s _=>⟨rfl,rfl⟩,fun _=>rfl⟩
 ·subst q4
  have e1:boundsA rows.length cap (some (.int .i64 (i:Int))) none=some (i,rows.length):=by
   unfold boundsA hiA loA
   simp only [boundA_nat _ _ _ hi]
  have ld:(rows.drop i).length=rows.length - i:=List.length_drop
  by_cases hc:cap=i
  ·have hil:rows.length=i:=by have:=q3.1;omega
   have e0:rows.drop i=[]:=List.drop_eq_nil_of_le (by omega)
   subst hc
   cases e with
   | true =>
    refine ⟨.tail b (o+cap * w),fun s=>?_,wd,fun s _=>?_,fun _=>rfl⟩
    ·unfold sliceVal
     simp only [Nat.ble_eq_true_of_le q3.1,e1,Nat.beq_refl,if_true]
    ·rw [e0];exact ⟨rfl,rfl⟩
   | false =>
    refine ⟨.slice b o (rows.length - cap) 0 false,fun s=>?_,wd,fun s hs=>?_,fun _=>rfl⟩
    ·unfold sliceVal
     simp only [Nat.ble_eq_true_of_le q3.1,e1,Nat.beq_refl]
     rfl
    ·rw [e0]
     refine ⟨by show some (rows.length - cap)=_;rw [hil,Nat.sub_self];rfl,?_⟩
     show (match s.h.get b with | some (.cells c _)=>Abs.cut o (0 * w) c | some (.fam c _ q _)=>Abs.cut o (0 * w) (c.take q) | _=>none)=_
     rw [hs b q1 q2,q5]
     obtain ⟨x,y,z1,z2,z3⟩:=cut_some q6
     have:=cut_skip x (rows.flatten++y) 0 0
     rw [← List.append_assoc,← z1,z2,Nat.add_zero] at this
     show Abs.cut o (0 * w) c=_
     rw [Nat.zero_mul,this,cut_zero]
     cases rows.flatten++y<;>rfl
  ·have hlt:i<cap:=by have:=q3.1;omega
   refine ⟨.slice b (o+i * w) (rows.length - i) (cap - i) e,fun s=>slice_from w s b o rows.length cap i e q3.1 hi hlt,wd,fun s hs=>⟨by show some (rows.length - i)=_;rw [ld],?_⟩,fun _=>rfl⟩
   show (match s.h.get b with | some (.cells c _)=>Abs.cut (o+i * w) ((rows.drop i).length * w) c | some (.fam c _ q _)=>Abs.cut (o+i * w) ((rows.drop i).length * w) (c.take q) | _=>none)=_
   rw [hs b q1 q2,q5]
   show Abs.cut (o+i * w) ((rows.drop i).length * w) c=_
   refine cut_cut q6 ?_
   have hf:=flatten_len r.wide
   have hs1:rows.flatten=rows.flatten.take (i * w)++rows.flatten.drop (i * w):=(List.take_append_drop _ _).symm
   have ht:(rows.flatten.take (i * w)).length=i * w:=by
    rw [List.length_take,hf]
    have:=Nat.mul_le_mul_right w hi
    omega
   have:=cut_skip (rows.flatten.take (i * w)) (rows.flatten.drop (i * w)) 0 ((rows.drop i).length * w)
   rw [ht,← hs1,Nat.add_zero] at this
   rw [this,cut_zero,flatten_drop r.wide i]
   have e2:=cut1_all (rows.flatten.drop (i * w))
   rw [← flatten_drop r.wide i,flatten_len wd] at e2
   rw [flatten_drop r.wide i] at e2
   exact e2
end Go.Abs
namespace Go.Proofs.Ythbhjgbpjlnbcaa.walk
open Go.Abs Go.Proofs.Ythbhjgbpjlnbcaa.code
theorem intRows_app (l k:List Int):intRows (l++k)=intRows l++intRows k:=by unfold intRows;rw [List.map_append]
theorem copy_push {s:St} {a p sz:Nat} {l:List Int} {w:AV} {x:Int} (hI:l≠[]→IsAt s.h s.n (a+1) 1 (tag 3) (intRows l) w) (h0:l=[]→∃ sz,w=.slice a 0 0 0 false∧s.h.get a=some (.cells [] sz)) (hp:s.h.get p=some (.cells [.int .i64 x] sz)) (hl:l.length≤1000) (hs:s.n+10≤far) :
  ∃ v' s',appendA false 1 8 (tag 3) s w (.slice p 0 1 1 false)=.val v' s'∧IsAt s'.h s'.n s.n 1 (tag 3) (intRows (l++[x])) v'∧s'.n=s.n+1∧(∀ c,c<s.n→c≠a+1→s'.h.get c=s.h.get c)∧(∀ k,k≤a→k≤s.n→k≤s.m→k≤s'.m)∧s'.m≤s.m:=by
 have hf:far=1000000000:=rfl
 by_cases e:l=[]
 ·obtain ⟨z,rfl,h2⟩:=h0 e
  subst e
  refine ⟨.slice s.n 0 1 1 true,s.new (.cells [.int .i64 x] (1+tag 3)),?_,⟨fun r hr=>?_,.inr ⟨by unfold intRows;simp,by rw [new_n];omega,rfl,get_new_eq _ _ _ rfl (by omega)⟩⟩,rfl,fun c hc _=>get_new_ne _ _ _ (by omega),fun k _ _ h=>by rw [new_m];exact h,by rw [new_m];omega⟩
  ·rw [app_grow (w:=1) hp rfl rfl]
   unfold growA
   simp only [h2]
   rfl
  ·unfold intRows at hr
   obtain ⟨y,_,rfl⟩:=List.mem_map.mp hr
   rfl
 ·obtain ⟨s',e1,h1,h2,h3,h4,h5⟩:=append_at (bytes:=8) (hI e) hp rfl rfl (by rw [intRows_len];omega) (by kernel_rfl) (by omega)
  refine ⟨_,s',e1,?_,h2,h3,fun k a1 a2 a3=>h4 k (by omega) a2 a3,h5⟩
  rw [intRows_app]
  exact h1
end Go.Proofs.Ythbhjgbpjlnbcaa.walk
set_option maxRecDepth 10000
namespace Go.Proofs.Ythbhjgbpjlnbcaa.walk
open Go.Abs Go.Proofs.Ythbhjgbpjlnbcaa.code
def nextOk (l:Letting) (f:List Int) (a:Int):Bool:=decide (a<0) || (!decide (a ∈ f) && canI l f.length a.toNat)
def nexts (l:Letting) (f:List Int) (i:Nat):List Int:=((List.range i).map fun (j:Nat)=>(j:Int) - 1).filter (nextOk l f)
def allL (l:Letting):Nat→List Int→List (List Int)
 | 0,f=>[f]
 | k+1,f=>(nexts l f (l.appls.length+1)).flatMap fun a=>allL l k (f++[a])
theorem nexts_succ (l:Letting) (f:List Int) (i:Nat):nexts l f (i+1)=nexts l f i++(if nextOk l f ((i:Int) - 1)=true then [(i:Int) - 1] else []):=by
 unfold nexts
 rw [List.range_succ,List.map_append,List.filter_append]
 congr 1
 simp only [List.map_cons,List.map_nil,List.filter_cons,List.filter_nil]
theorem nexts_len (l:Letting) (f:List Int) (i:Nat):(nexts l f i).length≤i:=by
 unfold nexts
 refine Nat.le_trans (List.length_filter_le _ _) ?_
 rw [List.length_map,List.length_range];exact Nat.le_refl _
theorem flatMap_len {α β:Type} (c:Nat) (g:α→List β):∀ L:List α,(∀ x ∈ L,(g x).length≤c)→(L.flatMap g).length≤L.length * c
 | [],_=>by simp
 | x::L,h=>by
  rw [List.flatMap_cons,List.length_append,List.length_cons,Nat.succ_mul]
  have h1:=h x (List.mem_cons_self ..)
  have h2:=flatMap_len c g L fun y hy=>h y (List.mem_cons_of_mem _ hy)
  omega
theorem allL_len (l:Letting) (hm:l.appls.length≤4):∀ (k:Nat) (f:List Int),(allL l k f).length≤5 ^ k
 | 0,f=>by simp [allL]
 | k+1,f=>by
  unfold allL
  refine Nat.le_trans (flatMap_len (5 ^ k) _ _ fun a _=>allL_len l hm k _) ?_
  rw [Nat.pow_succ,Nat.mul_comm]
  refine Nat.mul_le_mul_left _ (Nat.le_trans (nexts_len _ _ _) (by omega))
theorem nobody_next (l:Letting) (f:List Int) (i:Nat):(-1:Int) ∈ nexts l f (i+1):=by
 unfold nexts
 refine List.mem_filter.mpr ⟨List.mem_map.mpr ⟨0,List.mem_range.mpr (by omega),rfl⟩,?_⟩
 unfold nextOk
 rfl
theorem allL_ne (l:Letting):∀ (k:Nat) (f:List Int),allL l k f≠[]
 | 0,f=>by simp [allL]
 | k+1,f=>fun h=>by
  unfold allL at h
  obtain ⟨x,hx⟩:=List.exists_mem_of_ne_nil _ (allL_ne l k (f++[-1]))
  have:x ∈ (nexts l f (l.appls.length+1)).flatMap fun a=>allL l k (f++[a]):=List.mem_flatMap.mpr ⟨-1,nobody_next l f _,hx⟩
  rw [h] at this
  cases this
theorem all_ne (l:Letting) (k:Nat) (f:List Int):(nexts l f (l.appls.length+1)).flatMap (fun a=>allL l k (f++[a]))≠[]:=allL_ne l (k+1) f
def allSz:Nat→Nat
 | 0=>10
 | k+1=>10+5 * (10+allSz k)
def AllAt (k:Nat):Prop:=∀ {N:Nat} {no na nf:Nat→Prop} {l:Letting} {f:List Int} {vS vA v:AV} {s:St} {r:ARes},call Try.prog X N (.fn 22) [.agg (letV vS vA),v] s=r→k+4≤N→l.Ok→l.appls.length≤4→l.stalls.length≤4→f.length+k=l.stalls.length→LetAt no na s.h s.n l vS vA→Sl nf s.h s.n 1 (intRows f) v→s.n+2 * allSz k+1000≤far →
  ∃ b w t,r=.val w t∧New s t (allSz k)∧TabI t.h t.n b (fun x=>(nf x∧x<s.n)∨s.n≤x) (allL l k f) w∧s.n≤b
theorem all_leaf:AllAt 0:=by
 intro N no na nf l f vS vA v s r hr hN ok hm4 hk4 hfl hL hR hs
 obtain ⟨N,rfl⟩:∃ m,N=m+1:=⟨N - 1,by omega⟩
 have hff:far=1000000000:=rfl
 have e10:allSz 0=10:=rfl
 rw [e10] at hs ⊢
 obtain ⟨w',t,e,st,b,hq⟩:=call_new (n:=N) (args:=[.agg (letV vS vA),v]) (s:=s) (k:=10) (Q:=fun w h m=>∃ b,TabI h m b (fun x=>(nf x∧x<s.n)∨s.n≤x) (allL l 0 f) w∧s.n≤b) Try.func22 rfl (fun u uh un um=>by
  rw [← uh,← un] at hL hR
  rw [← un]
  have kv:=hR.okA
  have sv:=hR.scal
  have lv:=rowLen hR.at_
  have kS:=hL.okS
  have lS:=hL.lenS
  obtain ⟨w,hw⟩:∃ w:St,w=u.new (.cells [vS,vA] (tag 28)):=⟨_,rfl⟩
  have wn:w.n=u.n+1:=by rw [hw];rfl
  have wm:w.m=far:=by rw [hw];exact um
  have wg:∀ c,c<u.n→w.h.get c=u.h.get c:=fun c hc=>by rw [hw,get_new_ne _ _ _ (by omega)]
  have w0:w.h.get u.n=some (.cells [vS,vA] (tag 28)):=by rw [hw];exact get_new_eq _ _ _ rfl (by omega)
  have e0:decide ((f.length:Int)=(l.stalls.length:Int))=true:=decide_eq_true (by omega)
  obtain ⟨y,hy⟩:∃ y:St,y=w.new (.cells [v] 0):=⟨_,rfl⟩
  have yn:y.n=w.n+1:=by rw [hy];rfl
  have ym:y.m=far:=by rw [hy];exact wm
  have yg:∀ c,c<w.n→y.h.get c=w.h.get c:=fun c hc=>by rw [hy,get_new_ne _ _ _ (by omega)]
  have y0:y.h.get w.n=some (.cells [v] 0):=by rw [hy];exact get_new_eq _ _ _ rfl (by omega)
  rw [enter22]
  simp (disch:=first|omega|(with_unfolding_all exact rfl)|(simp only[new_n,put_n,new_m];omega)|(refine put_m_le ?_;simp only[new_m];omega)) only [K22,K22r0,Abs.W,reduceIte,Nat.reduceEqDiff,Nat.reduceAdd]
  rw [← hw]
  simp (disch:=first|omega|(with_unfolding_all exact rfl)|(simp only[new_n,put_n,new_m];omega)|(refine put_m_le ?_;simp only[new_m];omega)) only [K22r1,K22r2,K22r3,res22,Abs.W,reduceIte,Nat.reduceEqDiff,Nat.reduceSub,lv,w0,kS,lS,e0,sv.2.1,Nat.zero_add]
  rw [← hy]
  refine ⟨_,_,rfl,⟨fun c hc=>(yg c (by omega)).trans (wg c hc),by omega,by omega,by omega,by omega⟩,rfl,w.n,⟨[v],false,0,rfl,by simp [allL],by omega,rfl,y0,fun h=>(by cases h),sv.1,fun j h1 h2=>?_⟩,by omega⟩
  have:j=0:=by simpa using h1
  subst this
  exact hR.move (fun b hb h=>⟨(yg b (by omega)).trans (wg b hb),by omega,.inl ⟨h,hb⟩⟩) (by omega))
 exact ⟨b,w',t,hr.symm.trans e,st,hq⟩
structure AllJ (u w t:St) (nf:Nat→Prop) (l:Letting) (f:List Int) (k i kk:Nat) (v6:AV):Prop where
 acc:∃ b,AccI t.h t.n b (fun x=>(nf x∧x<u.n)∨u.n≤x) ((nexts l f i).flatMap fun a=>allL l k (f++[a])) v6∧u.n<b∧(b<t.n∨far<b)
 same:∀ c,c<w.n→t.h.get c=w.h.get c
 n:w.n≤t.n
 le:t.n≤w.n+kk
 m:u.n≤t.m
 ml:t.m≤far
theorem all_step (k:Nat) (ih:AllAt k):AllAt (k+1):=by
 intro N no na nf l f vS vA v s r hr hN ok hm4 hk4 hfl hL hR hs
 obtain ⟨N,rfl⟩:∃ m,N=m+1:=⟨N - 1,by omega⟩
 have hff:far=1000000000:=rfl
 have es:allSz (k+1)=10+5 * (10+allSz k):=rfl
 obtain ⟨w',t,e,st,b,hq⟩:=call_new (n:=N) (args:=[.agg (letV vS vA),v]) (s:=s) (k:=allSz (k+1)) (Q:=fun w h m=>∃ b,TabI h m b (fun x=>(nf x∧x<s.n)∨s.n≤x) (allL l (k+1) f) w∧s.n≤b) Try.func22 rfl (fun u uh un um=>by
  rw [← uh,← un] at hL hR
  rw [← un]
  have kv:=hR.okA
  have sv:=hR.scal
  have lv:=rowLen hR.at_
  have kS:=hL.okS
  have kA:=hL.okV
  have lS:=hL.lenS
  have lA:=hL.lenA
  obtain ⟨w,hw⟩:∃ w:St,w=u.new (.cells [vS,vA] (tag 28)):=⟨_,rfl⟩
  have wn:w.n=u.n+1:=by rw [hw];rfl
  have wm:w.m=far:=by rw [hw];exact um
  have wg:∀ c,c<u.n→w.h.get c=u.h.get c:=fun c hc=>by rw [hw,get_new_ne _ _ _ (by omega)]
  have w0:w.h.get u.n=some (.cells [vS,vA] (tag 28)):=by rw [hw];exact get_new_eq _ _ _ rfl (by omega)
  have e0:decide ((f.length:Int)=(l.stalls.length:Int))=false:=decide_eq_false (by omega)
  have hst:f.length<l.stalls.length:=by omega
  rw [enter22]
  simp (disch:=first|omega|(with_unfolding_all exact rfl)|(simp only[new_n,put_n,new_m];omega)|(refine put_m_le ?_;simp only[new_m];omega)) only [K22,K22r0,Abs.W,reduceIte,Nat.reduceEqDiff,Nat.reduceAdd]
  rw [← hw]
  simp (disch:=first|omega|(with_unfolding_all exact rfl)|(simp only[new_n,put_n,new_m];omega)|(refine put_m_le ?_;simp only[new_m];omega)) only [K22r1,K22r2,K22r4,K22r5,Abs.W,reduceIte,Nat.reduceEqDiff,kLoop_def,Nat.reduceSub,lv,w0,kS,lS,e0,Nat.zero_add]
  generalize hlp:loopN _ rounds _ _ _ _ _=q1
  obtain ⟨e,L1,s1,rfl,rfl,v6,J,f6⟩:=loop_of hlp (fun i L t=>∃ v6,AllJ u w t nf l f k i (i * (10+allSz k)) v6∧L.find 1=v∧L.find 2=.ptr u.n 0∧L.find 5=.int .i64 (f.length:Int)∧L.find 6=v6∧L.find 7=.int .i64 ((i:Int) - 1))
   (fun e L t=>e=.exit 0∧∃ v6,AllJ u w t nf l f k (l.appls.length+1) (5 * (10+allSz k)) v6∧L.find 6=v6) (l.appls.length+1) (by unfold rounds;omega)
   ⟨.nilslice,⟨⟨far+1,.inl ⟨by unfold nexts;rfl,rfl⟩,by omega,.inr (by omega)⟩,fun _ _=>rfl,Nat.le_refl _,by omega,by omega,by omega⟩,by simp only [find_cons,reduceIte,Nat.reduceEqDiff],by simp only [find_cons,reduceIte,Nat.reduceEqDiff],by simp only [find_cons,reduceIte,Nat.reduceEqDiff],by simp only [find_cons,reduceIte,Nat.reduceEqDiff],by simp only [find_cons,reduceIte,Nat.reduceEqDiff];rfl⟩
   (fun i L t hi ⟨v6,⟨⟨b,hT,hb,hbn⟩,hsm,hn1,hn2,hm1,hm2⟩,q1,q2,q5,q6,q7⟩=>by
    have c4:=Nat.mul_le_mul_right (10+allSz k) (show i≤5 by omega)
    have sc:(i+1) * (10+allSz k)=i * (10+allSz k)+(10+allSz k):=Nat.succ_mul _ _
    have tw:=hsm
    have t0:=(tw u.n (by omega)).trans w0
    have tu:∀ c,c<u.n→t.h.get c=u.h.get c:=fun c hc=>(tw c (by omega)).trans (wg c hc)
    by_cases hlt:i<l.appls.length+1
    ·have e1:decide ((i:Int) - 1<(l.appls.length:Int))=true:=decide_eq_true (by omega)
     have hRt:Sl nf t.h u.n 1 (intRows f) v:=hR.move (fun b hb h=>⟨tu b hb,h⟩) (Nat.le_refl _)
     have hRt':Sl nf t.h t.n 1 (intRows f) v:=hR.grow tu (by omega)
     have hLt:=hL.grow (h':=t.h) (n':=t.n) tu (by omega)
     have ad:∀ s,aAdd s .i64 ((i:Int) - 1) 1=.val (.int .i64 (((i:Int) - 1)+1)) s:=fun s=>aAdd_i64 s _ _ (by omega)
     have ei:((i:Int) - 1)+1=((i+1:Nat):Int) - 1:=by omega
     have n1:∀ s (c:Bool),notA s (.bool c)=.val (.bool !c) s:=fun _ _=>rfl
     have hns:=nexts_succ l f i
     have u4:=eq3 K22r7s4.eq_1
     have u5:=eq3 K22r7s5.eq_1
     have u6:=eq3 K22r7s6.eq_1
     have u7:=eq3 K22r7s7.eq_1
     have u8:=eq3 K22r7s8.eq_1
     have u9:=eq3 K22r7s9.eq_1
     have u10:=eq3 K22r7s10.eq_1
     have u11:=eq3 K22r7s11.eq_1
     have u12:=eq3 K22r7s12.eq_1
     have u13:=eq3 K22r7s13.eq_1
     -- the test
     have htest:∃ M,K22r7 (call Try.prog X N) (Env.set 21 (.bool true) L) t=.ok M t∧M.find 37=.bool (nextOk l f ((i:Int) - 1)):=by
      by_cases hneg:(i:Int) - 1<0
      ·have d0:decide ((i:Int) - 1<0)=true:=decide_eq_true hneg
       refine ⟨_,by
        simp (config:={ maxSteps:=2000000 }) (disch:=first|omega|(with_unfolding_all exact rfl)|(simp only[new_n,put_n,new_m];omega)|(refine put_m_le ?_;simp only[new_m];omega)) only [K22r7,u4,u5,u6,u7,u8,u9,u10,u11,u12,u13,Abs.W,reduceIte,Nat.reduceEqDiff,efs,q7,d0]
        rfl,?_⟩
       ·simp only [find_cons,efs,reduceIte,Nat.reduceEqDiff]
        unfold nextOk
        rw [d0];rfl
      ·have d0:decide ((i:Int) - 1<0)=false:=decide_eq_false hneg
       obtain ⟨a,ha⟩:∃ a:Nat,(i:Int) - 1=a:=⟨i - 1,by omega⟩
       rw [ha] at q7 d0 ⊢
       have ho:=has2_ok N (by omega) f (a:Int) v t hRt'.at_ (by omega) (by omega)
       by_cases him:(a:Int) ∈ f
       ·have d1:decide ((a:Int) ∈ f)=true:=decide_eq_true him
        rw [d1] at ho
        refine ⟨_,by
         simp (config:={ maxSteps:=2000000 }) (disch:=first|omega|(with_unfolding_all exact rfl)|(simp only[new_n,put_n,new_m];omega)|(refine put_m_le ?_;simp only[new_m];omega)) only [K22r7,u4,u5,u6,u7,u8,u9,u10,u11,u12,u13,Abs.W,reduceIte,Nat.reduceEqDiff,efs,q1,q7,d0,n1,ho]
         rfl,?_⟩
        ·simp only [find_cons,efs,reduceIte,Nat.reduceEqDiff]
         unfold nextOk
         rw [d0,d1];rfl
       ·have d1:decide ((a:Int) ∈ f)=false:=decide_eq_false him
        rw [d1] at ho
        have co:=can_val N (by omega) ok (show a<l.appls.length by omega) hst hLt (by omega)
        refine ⟨_,by
         simp (config:={ maxSteps:=2000000 }) (disch:=first|omega|(with_unfolding_all exact rfl)|(simp only[new_n,put_n,new_m];omega)|(refine put_m_le ?_;simp only[new_m];omega)) only [K22r7,u4,u5,u6,u7,u8,u9,u10,u11,u12,u13,Abs.W,reduceIte,Nat.reduceEqDiff,Nat.reduceSub,efs,q1,q2,q5,q7,d0,n1,ho,t0,co]
         rfl,?_⟩
        ·simp only [find_cons,efs,reduceIte,Nat.reduceEqDiff]
         unfold nextOk
         rw [d0,d1,Int.toNat_natCast]
         cases canI l f.length a<;>rfl
     obtain ⟨M7,h7,h37⟩:=htest
     cases hok:nextOk l f ((i:Int) - 1) with
     | false =>
      rw [hok] at h37 hns
      have hns:nexts l f (i+1)=nexts l f i:=by rw [hns];simp
      refine .inl ⟨hlt,_,t,by
       simp (disch:=first|omega|(with_unfolding_all exact rfl)|(simp only[new_n,put_n,new_m];omega)|(refine put_m_le ?_;simp only[new_m];omega)) only [K22l0,K22r6,K22r9,Abs.W,reduceIte,Nat.reduceEqDiff,Nat.reduceSub,efs,q2,q7,t0,kA,lA,e1,h7,h37,ad,Nat.zero_add]
       rfl,v6,⟨⟨b,by rw [hns];exact hT,hb,hbn⟩,hsm,hn1,by omega,hm1,hm2⟩,?_,?_,?_,?_,?_⟩
      ·simp only [efs,q1,reduceIte,Nat.reduceEqDiff]
      ·simp only [efs,q2,reduceIte,Nat.reduceEqDiff]
      ·simp only [efs,q5,reduceIte,Nat.reduceEqDiff]
      ·simp only [efs,q6,reduceIte,Nat.reduceEqDiff]
      ·simp only [efs,reduceIte,Nat.reduceEqDiff];rw [ei]
     | true =>
      rw [hok] at h37 hns
      rw [if_pos rfl] at hns
      have kv6:=hT.okA
      obtain ⟨y,hy⟩:∃ y:St,y=t.new (.cells [] 0):=⟨_,rfl⟩
      have yn:y.n=t.n+1:=by rw [hy];rfl
      have ym:y.m=t.m:=by rw [hy];rfl
      have yg:∀ c,c<t.n→y.h.get c=t.h.get c:=fun c hc=>by rw [hy,get_new_ne _ _ _ (by omega)]
      have yp:y.h.get t.n=some (.cells [] 0):=by rw [hy];exact get_new_eq _ _ _ rfl (by omega)
      obtain ⟨v42,s2,e42,S42,I42,n2,n2',g2,m2,m2',_,hnil⟩:=app_all (tg:=tag 3) (bytes:=8) (hRt'.grow yg (by omega:t.n≤y.n)) yp (by omega) (intRows_scal f) (by unfold intRows;rw [List.length_map];omega) (by kernel_rfl) (by omega)
      have hne:f≠[]→intRows f≠[]:=fun h e=>h (List.map_eq_nil_iff.mp e)
      obtain ⟨x,hx⟩:∃ x:St,x=s2.new (.cells [.int .i64 ((i:Int) - 1)] 0):=⟨_,rfl⟩
      have xn:x.n=s2.n+1:=by rw [hx];rfl
      have xm:x.m=s2.m:=by rw [hx];rfl
      have xg:∀ c,c<s2.n→x.h.get c=s2.h.get c:=fun c hc=>by rw [hx,get_new_ne _ _ _ (by omega)]
      have xp:x.h.get s2.n=some (.cells [.int .i64 ((i:Int) - 1)] 0):=by rw [hx];exact get_new_eq _ _ _ rfl (by omega)
      obtain ⟨v45,s3,e45,I45,n3,g3,m3,m3'⟩:=copy_push (l:=f) (s:=x) (a:=t.n) (fun h=>by
        have:=I42 (hne h)
        rw [yn] at this
        exact this.mono (fun hb=>xg _ hb) (by omega)) (fun h=>by
        subst h
        exact ⟨0,hnil rfl,(xg t.n (by omega)).trans ((g2 t.n (by omega)).trans yp)⟩) xp (by omega) (by omega)
      rw [hy] at e42
      rw [hx] at e45
      have s3t:∀ c,c<t.n→s3.h.get c=t.h.get c:=fun c hc=>(g3 c (by omega) (by omega)).trans ((xg c (by omega)).trans ((g2 c (by omega)).trans (yg c hc)))
      have k45:=I45.okA
      simp (disch:=first|omega|(with_unfolding_all exact rfl)|(simp only[new_n,put_n,new_m];omega)|(refine put_m_le ?_;simp only[new_m];omega)) only [K22l0,K22r6,K22r8,Abs.W,reduceIte,Nat.reduceEqDiff,Nat.reduceSub,efs,q1,q2,q6,q7,t0,kA,lA,e1,h7,h37,e42,e45,Nat.zero_add]
      generalize hc2:call _ _ _ (.fn 22) _ _=rc
      obtain ⟨b4,w4,s4,rfl,st4,T4,hb4⟩:=ih hc2 (by omega) ok hm4 hk4 (by rw [List.length_append,List.length_singleton];omega) (hL.grow (fun c hc=>(s3t c (by omega)).trans (tu c hc)) (by omega)) (Sl.of_at (no:=fun y=>x.n≤y) I45 fun _=>Nat.le_refl _) (by omega)
      have n4:=st4.n
      have l4:=st4.le
      have mm4:=st4.m
      have mm3:=m3 u.n (by omega) (by omega) (by omega)
      have s4t:∀ c,c<t.n→s4.h.get c=t.h.get c:=fun c hc=>(st4.same c (by omega)).trans (s3t c hc)
      have hT4:AccI s4.h s4.n b (fun y=>(nf y∧y<u.n)∨u.n≤y) ((nexts l f i).flatMap fun a=>allL l k (f++[a])) v6:=by
       rcases hT with h | h
       ·exact .inl h
       ·have hbt:b<t.n:=by obtain ⟨_,_,_,_,_,h3,_⟩:=h;exact h3
        exact .inr (h.move (s4t b hbt) (fun c hc h=>⟨s4t c hc,h⟩) (by omega))
      have hlen1:=flatMap_len (5 ^ k) (fun a=>allL l k (f++[a])) (nexts l f i) fun a _=>allL_len l hm4 k _
      have hlen2:=allL_len l hm4 k (f++[(i:Int) - 1])
      have hnl:=nexts_len l f i
      have hpk:5 ^ k≤125:=by
       have:k=0∨k=1∨k=2∨k=3:=by omega
       rcases this with rfl | rfl | rfl | rfl<;>decide
      have hmul:=Nat.mul_le_mul (show (nexts l f i).length≤4 by omega) hpk
      obtain ⟨w5,s5,e5,T5,n5,g5,m5,m5'⟩:=hT4.app T4 (fun y hy hne=>by
       have hx4:x.n≤y:=by
        rcases hy with ⟨h1,_⟩ | h1
        ·exact h1
        ·omega
       exact ⟨fun h=>by rcases hbn with h | h<;>omega,.inr (by omega)⟩) (by omega) (by omega)
      refine .inl ⟨hlt,_,s5,by
       simp (disch:=first|omega|(with_unfolding_all exact rfl)|(simp only[new_n,put_n,new_m];omega)|(refine put_m_le ?_;simp only[new_m];omega)) only [Abs.W,reduceIte,Nat.reduceEqDiff,efs,e5]
       rw [endO_ok _ (by
        rw [endOk_cons,endOk_cons,endOk_nil]
        all_goals
         simp only [find_cons,efs,q2,reduceIte,Nat.reduceEqDiff]
         first | exact apart_slice (by omega) | exact S42.apart (by omega))]
       simp (disch:=first|omega|(with_unfolding_all exact rfl)|(simp only[new_n,put_n,new_m];omega)|(refine put_m_le ?_;simp only[new_m];omega)) only [K22r9,Abs.W,reduceIte,Nat.reduceEqDiff,efs,q7,ad]
       rfl,w5,⟨⟨s4.n,.inr ?_,by omega,.inl (by omega)⟩,fun c hc=>?_,by omega,by omega,by omega,by omega⟩,?_,?_,?_,?_,?_⟩
      ·rw [hns,List.flatMap_append,List.flatMap_singleton]
       exact T5
      ·rw [g5 c (by omega) (by rcases hbn with h | h<;>omega),s4t c (by omega)]
       exact hsm c hc
      ·simp only [efs,q1,reduceIte,Nat.reduceEqDiff]
      ·simp only [efs,q2,reduceIte,Nat.reduceEqDiff]
      ·simp only [efs,q5,reduceIte,Nat.reduceEqDiff]
      ·simp only [efs,reduceIte,Nat.reduceEqDiff]
      ·simp only [efs,reduceIte,Nat.reduceEqDiff];rw [ei]
    ·obtain rfl:i=l.appls.length+1:=by omega
     have e1:decide (((l.appls.length+1:Nat):Int) - 1<(l.appls.length:Int))=false:=decide_eq_false (by omega)
     refine .inr ⟨.exit 0,L.set 21 (.bool false),t,by simp,?_,rfl,v6,⟨⟨b,hT,hb,hbn⟩,hsm,hn1,by omega,hm1,hm2⟩,?_⟩
     ·simp (disch:=first|omega|(with_unfolding_all exact rfl)|(simp only[new_n,put_n,new_m];omega)|(refine put_m_le ?_;simp only[new_m];omega)) only [K22l0,K22r6,Abs.W,reduceIte,Nat.reduceEqDiff,Nat.reduceSub,efs,q2,q7,t0,kA,lA,e1,Nat.zero_add]
     ·simp only [efs,q6,reduceIte,Nat.reduceEqDiff])
  obtain ⟨⟨b,hT,hb,hbn⟩,hsm,hn1,hn2,hm1,hm2⟩:=J
  have kv6:=hT.okA
  have hne:(nexts l f (l.appls.length+1)).flatMap (fun a=>allL l k (f++[a]))≠[]:=all_ne l k f
  have hT:TabI s1.h s1.n b (fun x=>(nf x∧x<u.n)∨u.n≤x) (allL l (k+1) f) v6:=by
   rcases hT with ⟨h,_⟩ | h
   ·exact absurd h hne
   ·exact h
  simp (disch:=first|omega|(with_unfolding_all exact rfl)|(simp only[new_n,put_n,new_m];omega)|(refine put_m_le ?_;simp only[new_m];omega)) only [K22r10,res22,Abs.W,reduceIte,Nat.reduceEqDiff,efs,f6]
  exact ⟨_,_,rfl,⟨fun c hc=>(hsm c (by omega)).trans (wg c hc),by omega,by omega,hm1,hm2⟩,hT.plain,b,hT,by omega⟩)
 exact ⟨b,w',t,hr.symm.trans e,st,hq⟩
theorem all_ex:∀ k,AllAt k
 | 0=>all_leaf
 | k+1=>all_step k (all_ex k)
end Go.Proofs.Ythbhjgbpjlnbcaa.walk
set_option maxRecDepth 10000
namespace Go.Proofs.Ythbhjgbpjlnbcaa.walk
open Go.Abs Go.Proofs.Ythbhjgbpjlnbcaa.code
def envB (l:Letting) (hs:List Int) (a st:Nat):Bool:=decide (st ∈ (mktOf l).R a) && (decide (∀ t,t<l.stalls.length→holdF hs t=(a:Int)→(mktOf l).pos a st<(mktOf l).pos a t) && betterB l st a (hs.getD st (-1)))
def envS (l:Letting) (hs:List Int) (a:Nat):List Nat:=(List.range l.stalls.length).filter (envB l hs a)
def envP (l:Letting) (hs:List Int) (i:Nat):List (Nat × Nat):=(List.range i).flatMap fun a=>(envS l hs a).map fun st=>(a,st)
def pairRow (x:Nat × Nat):List AV:=[.int .i64 (x.1:Int),.int .i64 (x.2:Int)]
theorem envP_succ (l:Letting) (hs:List Int) (i:Nat):envP l hs (i+1)=envP l hs i++(envS l hs i).map fun st=>(i,st):=by
 unfold envP
 rw [List.range_succ,List.flatMap_append,List.flatMap_singleton]
theorem up_same:∀ {f g:List Nat},f.Pairwise (·<·)→g.Pairwise (·<·)→(∀ x,x ∈ f↔x ∈ g)→f=g
 | [],[],_,_,_=>rfl
 | [],y::g,_,_,h=>absurd ((h y).mpr (List.mem_cons_self ..)) (by simp)
 | x::f,[],_,_,h=>absurd ((h x).mp (List.mem_cons_self ..)) (by simp)
 | x::f,y::g,hf,hg,h=>by
  obtain ⟨f1,f2⟩:=List.pairwise_cons.mp hf
  obtain ⟨g1,g2⟩:=List.pairwise_cons.mp hg
  have e:x=y:=by
   rcases List.mem_cons.mp ((h x).mp (List.mem_cons_self ..)) with h1 | h1
   ·exact h1
   ·rcases List.mem_cons.mp ((h y).mpr (List.mem_cons_self ..)) with h2 | h2
    ·exact h2.symm
    ·have:=f1 y h2
     have:=g1 x h1
     omega
  subst e
  rw [up_same f2 g2 fun z=>?_]
  constructor
  ·intro hz
   rcases List.mem_cons.mp ((h z).mp (List.mem_cons_of_mem _ hz)) with h1 | h1
   ·have:=f1 z hz
    omega
   ·exact h1
  ·intro hz
   rcases List.mem_cons.mp ((h z).mpr (List.mem_cons_of_mem _ hz)) with h1 | h1
   ·have:=g1 z hz
    omega
   ·exact h1
theorem upto_pairwise {g:List Nat} (h:Upto idK g g.length):g.Pairwise (·<·):=by
 rw [List.pairwise_iff_getElem]
 intro i j hi hj hij
 have:=h i j hij hj
 unfold idK at0 at this
 simp [List.getD,hi,hj] at this
 omega
def betterL (l:Letting) (hs:List Int) (a:Nat) (p:List (Int × Int)):List Nat:=(p.map fun x=>x.1.toNat).filter fun st=>betterB l st a (hs.getD st (-1))
theorem betterL_snoc (l:Letting) (hs:List Int) (a:Nat) (p:List (Int × Int)) (x:Int × Int):betterL l hs a (p++[x])=betterL l hs a p++(if betterB l x.1.toNat a (hs.getD x.1.toNat (-1))=true then [x.1.toNat] else []):=by
 unfold betterL
 rw [List.map_append,List.filter_append]
 congr 1
 simp only [List.map_cons,List.map_nil,List.filter_cons,List.filter_nil]
theorem envS_of {l:Letting} (ok:l.Ok) {hs:List Int} (V:ValidH l hs) {a:Nat} (ha:a<l.appls.length) {p rest:List (Int × Int)} (hT:p++rest=reachOf l.stalls (applAt l a)) (hp:∀ x ∈ p,holdF hs x.1.toNat≠a) (hr:rest=[]∨∃ x r,rest=x::r∧holdF hs x.1.toNat=a) {g:List Nat} (hg:g.Pairwise (·<·)) (hm:∀ x,x ∈ g↔x ∈ betterL l hs a p):g=envS l hs a:=by
 have hRT:(mktOf l).R a=(reachOf l.stalls (applAt l a)).map fun x=>x.1.toNat:=rfl
 have okm:=mktOf_ok ok
 have nd:=okm.nd a ha
 have hR2:(mktOf l).R a=p.map (fun x=>x.1.toNat)++rest.map (fun x=>x.1.toNat):=by rw [hRT,← hT,List.map_append]
 have eh:∀ t,hs.getD t (-1)=holdF hs t:=fun t=>rfl
 have own:∀ t,holdF hs t=a→t ∈ (mktOf l).R a:=fun t ht=>by
  have htl:t<hs.length:=by
   rcases Nat.lt_or_ge t hs.length with h | h
   ·exact h
   ·unfold holdF at ht
    simp [List.getD,h] at ht
  have e:hs[t]=a:=by unfold holdF at ht;simpa [List.getD,htl] using ht
  rcases V.can t htl with h | ⟨b,h1,h2,h3⟩
  ·rw [e] at h;omega
  ·have:b=a:=by rw [e] at h1;omega
   subst this
   exact (canI_iff ok ha).mp h3
 refine up_same hg (List.pairwise_lt_range.filter _) fun st=>?_
 rw [hm]
 unfold betterL envS
 rw [List.mem_filter,List.mem_filter,List.mem_range]
 unfold envB
 rw [Bool.and_eq_true,Bool.and_eq_true,decide_eq_true_eq,decide_eq_true_eq]
 constructor
 ·rintro ⟨h1,h2⟩
  have hst:st ∈ (mktOf l).R a:=by rw [hR2];exact List.mem_append_left _ h1
  refine ⟨okm.lt a ha st hst,hst,fun t _ ht=>?_,h2⟩
  rcases hr with rfl | ⟨x,r,rfl,hx⟩
  ·have:=own t ht
   rw [hR2,List.map_nil,List.append_nil] at this
   obtain ⟨y,y1,y2⟩:=List.mem_map.mp this
   exact absurd (by rw [y2];exact ht) (hp y y1)
  ·have hxt:x.1.toNat ∈ (mktOf l).R a:=by rw [hR2];simp
   have:t=x.1.toNat:=by
    have h3:=own t ht
    have tl:t<hs.length:=by rw [V.len];exact okm.lt a ha t h3
    have xl:x.1.toNat<hs.length:=by rw [V.len];exact okm.lt a ha _ hxt
    have e1:hs[t]=a:=by unfold holdF at ht;simpa [List.getD,tl] using ht
    have e2:hs[x.1.toNat]=a:=by unfold holdF at hx;simpa [List.getD,xl] using hx
    exact V.once t _ tl xl (by rw [e1,e2]) (by rw [e1];omega)
   subst this
   have hR3:(mktOf l).R a=p.map (fun x=>x.1.toNat)++x.1.toNat::r.map (fun x=>x.1.toNat):=hR2
   have hsp:x.1.toNat ∉ p.map (fun x=>x.1.toNat):=fun hm=>by
    rw [hR3] at nd
    exact (List.nodup_append.mp nd).2.2 _ hm _ (List.mem_cons_self ..) rfl
   exact (Mkt.pos_app hR3 hsp hst).mp h1
 ·rintro ⟨_,h1,h2,h3⟩
  refine ⟨?_,h3⟩
  rcases hr with rfl | ⟨x,r,rfl,hx⟩
  ·rw [hR2,List.map_nil,List.append_nil] at h1;exact h1
  ·have hxt:x.1.toNat ∈ (mktOf l).R a:=by rw [hR2];simp
   have h4:=h2 x.1.toNat (okm.lt a ha _ hxt) hx
   have hR3:(mktOf l).R a=p.map (fun x=>x.1.toNat)++x.1.toNat::r.map (fun x=>x.1.toNat):=hR2
   have hsp:x.1.toNat ∉ p.map (fun x=>x.1.toNat):=fun hm=>by
    rw [hR3] at nd
    exact (List.nodup_append.mp nd).2.2 _ hm _ (List.mem_cons_self ..) rfl
   exact (Mkt.pos_app hR3 hsp h1).mpr h4
theorem betterL_nodup {l:Letting} (ok:l.Ok) (hs:List Int) {a:Nat} (ha:a<l.appls.length) {p rest:List (Int × Int)} (hT:p++rest=reachOf l.stalls (applAt l a)):(betterL l hs a p).Nodup∧(betterL l hs a p).length≤8:=by
 have nd:=(mktOf_ok ok).nd a ha
 have hRT:(mktOf l).R a=(reachOf l.stalls (applAt l a)).map fun x=>x.1.toNat:=rfl
 rw [hRT,← hT,List.map_append] at nd
 have n1:=(List.nodup_append.mp nd).1
 have n2:(betterL l hs a p).Nodup:=n1.sublist List.filter_sublist
 refine ⟨n2,?_⟩
 have:=len_sub (k:=List.range l.stalls.length) n2 fun st hst=>by
  unfold betterL at hst
  have h1:=(List.mem_filter.mp hst).1
  have:st ∈ (mktOf l).R a:=by rw [hRT,← hT,List.map_append];exact List.mem_append_left _ h1
  exact List.mem_range.mpr ((mktOf_ok ok).lt a ha st this)
 rw [List.length_range] at this
 have:=ok.k1
 omega
end Go.Proofs.Ythbhjgbpjlnbcaa.walk
set_option maxRecDepth 10000
namespace Go.Proofs.Ythbhjgbpjlnbcaa.walk
open Go.Abs Go.Proofs.Ythbhjgbpjlnbcaa.code
structure PartV (l:Letting) (f:List Int):Prop where
 can:∀ s (h:s<f.length),f[s] = -1∨∃ a:Nat,f[s]=a∧a<l.appls.length∧canI l s a=true
 once:∀ s t (h:s<f.length) (h':t<f.length),f[s]=f[t]→f[s] ≠ -1→s=t
theorem nexts_mem {l:Letting} {f:List Int} {i:Nat} {a:Int}:a ∈ nexts l f i↔(∃ j,j<i∧(j:Int) - 1=a)∧nextOk l f a=true:=by
 unfold nexts
 rw [List.mem_filter,List.mem_map]
 constructor
 ·rintro ⟨⟨j,h1,h2⟩,h3⟩;exact ⟨⟨j,List.mem_range.mp h1,h2⟩,h3⟩
 ·rintro ⟨⟨j,h1,h2⟩,h3⟩;exact ⟨⟨j,List.mem_range.mpr h1,h2⟩,h3⟩
theorem PartV.next {l:Letting} {f:List Int} {a:Int} (V:PartV l f) (ha:a ∈ nexts l f (l.appls.length+1)):PartV l (f++[a]):=by
 obtain ⟨⟨j,j1,j2⟩,ho⟩:=nexts_mem.mp ha
 unfold nextOk at ho
 rw [Bool.or_eq_true,decide_eq_true_eq,Bool.and_eq_true] at ho
 have hl:(f++[a]).length=f.length+1:=by rw [List.length_append,List.length_singleton]
 have g1:∀ s (h:s<f.length) (h':s<(f++[a]).length),(f++[a])[s]=f[s]:=fun s h _=>List.getElem_append_left h
 have g2:∀ (h':f.length<(f++[a]).length),(f++[a])[f.length]=a:=fun h'=>by simp
 refine ⟨fun s h=>?_,fun s t h h' he hn=>?_⟩
 ·by_cases e:s<f.length
  ·rw [g1 s e h];exact V.can s e
  ·have e2:s=f.length:=by omega
   subst e2
   rw [g2 h]
   rcases ho with h0 | ⟨h1,h2⟩
   ·exact .inl (by omega)
   ·by_cases h0:a<0
    ·exact .inl (by omega)
    ·exact .inr ⟨a.toNat,by omega,by omega,h2⟩
 ·have key:∀ t (ht:t<f.length),f[t]=a→a ≠ -1→False:=fun t ht e0 hne=>by
   rcases ho with h0 | ⟨h1,_⟩
   ·omega
   ·have:a ∈ f:=by rw [← e0];exact List.getElem_mem ht
    rw [decide_eq_true this] at h1
    cases h1
  by_cases e:s<f.length
  ·rw [g1 s e h] at he hn
   by_cases e2:t<f.length
   ·rw [g1 t e2 h'] at he
    exact V.once s t e e2 he hn
   ·have e3:t=f.length:=by omega
    subst e3
    rw [g2 h'] at he
    exact (key s e he (by rw [← he];exact hn)).elim
  ·have e3:s=f.length:=by omega
   subst e3
   rw [g2 h] at he hn
   by_cases e2:t<f.length
   ·rw [g1 t e2 h'] at he
    exact (key t e2 he.symm hn).elim
   ·omega
theorem allL_valid (l:Letting):∀ (k:Nat) (f:List Int),f.length+k=l.stalls.length→PartV l f→∀ g ∈ allL l k f,ValidH l g
 | 0,f,hf,V,g,hg=>by
  unfold allL at hg
  rw [List.mem_singleton] at hg
  subst hg
  exact ⟨by omega,V.can,V.once⟩
 | k+1,f,hf,V,g,hg=>by
  unfold allL at hg
  obtain ⟨a,a1,a2⟩:=List.mem_flatMap.mp hg
  exact allL_valid l k (f++[a]) (by rw [List.length_append,List.length_singleton];omega) (V.next a1) g a2
theorem part_nil (l:Letting):PartV l []:=⟨fun s h=>by simp at h,fun s t h=>by simp at h⟩
theorem holdF_get {hs:List Int} {t:Nat} (h:t<hs.length):holdF hs t=hs[t]:=by unfold holdF;simp [List.getD,h]
theorem holdF_far {hs:List Int} {t:Nat} (h:hs.length≤t):holdF hs t = -1:=by unfold holdF;simp [List.getD,h]
theorem all_few {l:Letting} (hm:l.appls.length≤4) (hk:l.stalls.length≤4):(allL l l.stalls.length []).length≤625∧allSz l.stalls.length≤20000:=by
 refine ⟨Nat.le_trans (allL_len l hm _ _) ?_,?_⟩
 ·have:l.stalls.length=0∨l.stalls.length=1∨l.stalls.length=2∨l.stalls.length=3∨l.stalls.length=4:=by omega
  rcases this with h | h | h | h | h<;>rw [h]<;>decide
 ·have:l.stalls.length=0∨l.stalls.length=1∨l.stalls.length=2∨l.stalls.length=3∨l.stalls.length=4:=by omega
  rcases this with h | h | h | h | h<;>rw [h]<;>decide
end Go.Proofs.Ythbhjgbpjlnbcaa.walk
set_option maxRecDepth 10000
namespace Go.Proofs.Ythbhjgbpjlnbcaa.walk
open Go.Abs Go.Proofs.Ythbhjgbpjlnbcaa.code
def EnvI (l:Letting) (hs:List Int) (i pE kf:Nat) (p:List (Int × Int)) (h:Heap) (n:Nat):Prop :=
 ∃ vE bE,h.get pE=some (.cells [vE] (tag 22))∧IsAt h n bE 1 (tag 3) (natRows (betterL l hs i p)) vE∧kf≤bE∧(bE<n∨far<bE)∧∀ x ∈ p,holdF hs x.1.toNat≠i
theorem EnvI.keep {l:Letting} {hs:List Int} {i pE kf n n':Nat} {p:List (Int × Int)} {h h':Heap} (a:EnvI l hs i pE kf p h n) (h1:h'.get pE=h.get pE) (h2:∀ b,kf≤b→b<n→h'.get b=h.get b) (hn:n≤n'):EnvI l hs i pE kf p h' n':=by
 obtain ⟨vE,bE,a1,a2,a3,a4,a5⟩:=a
 exact ⟨vE,bE,h1.trans a1,a2.mono (fun h=>h2 bE a3 h) hn,a3,by omega,a5⟩
theorem env_sort {N bL:Nat} (hN:2≤N) {E:List Nat} {vL:AV} {s:St} (iL:IsAt s.h s.n bL 1 (tag 3) (natRows E) vL) (nd:E.Nodup) (ln:E.length≤8) (hs:s.n+400000≤far) (hm:s.m≤far) :
  ∃ t2 g,call Try.prog X (N+3) (.fn 44) [vL] s=.val (.tup []) t2∧IsAt t2.h t2.n bL 1 (tag 3) (natRows g) vL∧g.Pairwise (·<·)∧(∀ x,x ∈ g↔x ∈ E)∧(∀ c,c≠bL→t2.h.get c=s.h.get c)∧t2.n=s.n∧min s.m bL≤t2.m∧t2.m≤s.m:=by
 have hf:far=1000000000:=rfl
 by_cases e:E=[]
 ·subst e
  have hv:vL=.nilslice:=by
   rcases iL.is with ⟨_,z⟩ | ⟨z,_⟩
   ·exact z
   ·exact absurd rfl z
  subst hv
  exact ⟨s,[],sortf0O_ex (fun _=>rfl) (by omega),iL,List.Pairwise.nil,fun _=>Iff.rfl,fun _ _=>rfl,rfl,by omega,Nat.le_refl _⟩
 ·have hne:natRows E≠[]:=fun h=>e (by
   have:=congrArg List.length h
   rw [natRows_len] at this
   exact List.length_eq_zero_iff.mp this)
  rcases iL.is with ⟨z,_⟩ | ⟨_,z1,z2,z3⟩
  ·exact absurd z hne
  ·rw [natRows_len] at z2
   subst z2
   obtain ⟨t2,h1,g,⟨jc,js,jn,jm,jml,jun,⟨sl,smm,snd⟩⟩,hU⟩:=sortfO_ex (N:=N) (e:=true) hN z3 rfl nd ln z1 (by omega) hm
   have hg:natRows g≠[]:=fun h=>hne (by
    have:=congrArg List.length h
    rw [natRows_len,sl] at this
    exact List.length_eq_zero_iff.mp (by rw [natRows_len];exact this))
   refine ⟨t2,g,h1,⟨natRows_wide g,.inr ⟨hg,by omega,by rw [natRows_len,sl],jc⟩⟩,upto_pairwise (by rw [sl];exact hU),smm,js,jn,jm,jml⟩
theorem flatMap_len' {α β:Type} (c:Nat) (g:α→List β):∀ L:List α,(∀ x ∈ L,(g x).length≤c)→(L.flatMap g).length≤L.length * c
 | [],_=>by simp
 | x::L,h=>by
  rw [List.flatMap_cons,List.length_append,List.length_cons,Nat.succ_mul]
  have h1:=h x (List.mem_cons_self ..)
  have h2:=flatMap_len' c g L fun y hy=>h y (List.mem_cons_of_mem _ hy)
  omega
theorem envP_len {l:Letting} (ok:l.Ok) (hs:List Int) {i:Nat} (hi:i≤l.appls.length):(envP l hs i).length≤64:=by
 have k1:=ok.k1
 have m1:=ok.m1
 unfold envP
 refine Nat.le_trans (flatMap_len' 8 _ _ fun a _=>?_) ?_
 ·rw [List.length_map]
  unfold envS
  refine Nat.le_trans (List.length_filter_le _ _) ?_
  rw [List.length_range];exact k1
 ·rw [List.length_range];omega
theorem env_inner (N:Nat) {cx:Ctx} {w:St} {i b8 bL p10 z10 u0:Nat} {g:List Nat} {P:List (Nat × Nat)} {v8 vL:AV} {d:List Nat} {L:Env} {r:R} (hr:loopN K20l0 rounds (call Try.prog X N) cx L d w=r) (ig:IsAt w.h w.n bL 1 (tag 3) (natRows g) vL) (i8:IsAt w.h w.n b8 2 (tag 59) (P.map pairRow) v8) (h8:b8<w.n∨far<b8) (g10:w.h.get p10=some (.cells [.int .i64 (i:Int)] z10)) (h10:p10<w.n∧p10≠b8) (hLb:bL≠b8∧u0≤b8) (hg:g.length≤8) (hP:P.length≤64) (hu:u0≤w.n) (hm:u0≤w.m) (hmf:w.m≤far) (hs:w.n+1000≤far)
  (q8:L.find 8=v8) (q10:L.find 10=.ptr p10 0) (q55:L.find 55=vL) (q56:L.find 56=.int .i64 (g.length:Int)) (q57:L.find 57=.int .i64 (0:Nat)) :
  ∃ L1 t v9 b9,r=.done (.exit 4) L1 d t∧L1.find 8=v9∧IsAt t.h t.n b9 2 (tag 59) ((P++g.map fun st=>(i,st)).map pairRow) v9∧(b9=b8∨w.n≤b9)∧(b9<t.n∨far<b9)∧(∀ c,c<w.n→c≠b8→t.h.get c=w.h.get c)∧w.n≤t.n∧t.n≤w.n+20∧u0≤t.m∧t.m≤w.m∧∀ c,c<55→c≠8→c≠14→L1.find c=L.find c:=by
 have hf:far=1000000000:=rfl
 obtain ⟨e,L1,d1,t,rfl,rfl,rfl,v9,b9,h1,h2,h3,h4,h5,h6,h7,h9,h10',h11⟩:=loop_d hr (fun j L' d' t'=>d'=d∧∃ v9 b9,L'.find 8=v9∧IsAt t'.h t'.n b9 2 (tag 59) ((P++(g.take j).map fun st=>(i,st)).map pairRow) v9∧(b9=b8∨w.n≤b9)∧(b9<t'.n∨far<b9)∧(∀ c,c<w.n→c≠b8→t'.h.get c=w.h.get c)∧w.n≤t'.n∧t'.n≤w.n+2 * j∧u0≤t'.m∧t'.m≤w.m∧L'.find 57=.int .i64 (j:Nat)∧∀ c,c<57→c≠8→c≠14→L'.find c=L.find c)
  (fun e L' d' t'=>e=.exit 4∧d'=d∧∃ v9 b9,L'.find 8=v9∧IsAt t'.h t'.n b9 2 (tag 59) ((P++g.map fun st=>(i,st)).map pairRow) v9∧(b9=b8∨w.n≤b9)∧(b9<t'.n∨far<b9)∧(∀ c,c<w.n→c≠b8→t'.h.get c=w.h.get c)∧w.n≤t'.n∧t'.n≤w.n+20∧u0≤t'.m∧t'.m≤w.m∧∀ c,c<55→c≠8→c≠14→L'.find c=L.find c) g.length (by unfold rounds;omega)
  ⟨rfl,v8,b8,q8,by simp only [List.take_zero,List.map_nil,List.append_nil];exact i8,.inl rfl,h8,fun _ _ _=>rfl,Nat.le_refl _,by omega,hm,Nat.le_refl _,q57,fun _ _ _ _=>rfl⟩
  (fun j L' d' t' hj ⟨hd,v9,b9,p8,i9,o9,o9',same,jn,jle,jm,jml,p57,q⟩=>by
   subst hd
   have p55:=(q 55 (by omega) (by omega) (by omega)).trans q55
   have p56:=(q 56 (by omega) (by omega) (by omega)).trans q56
   have p10':=(q 10 (by omega) (by omega) (by omega)).trans q10
   have igt:=ig.mono (h':=t'.h) (n':=t'.n) (fun h=>same bL h hLb.1) jn
   by_cases hlt:j<g.length
   ·have e0:decide ((j:Int)<(g.length:Int))=true:=decide_eq_true (by omega)
    obtain ⟨bq,pq,cq,zq,r1,r2,r3,r4⟩:=natRow igt.rows.at_ hlt
    have t10:=(same p10 h10.1 h10.2).trans g10
    have ad:∀ s,aAdd s .i64 (j:Int) 1=.val (.int .i64 ((j:Int)+1)) s:=fun s=>aAdd_i64 s _ _ (by omega)
    obtain ⟨a,ha⟩:∃ a:St,a=t'.new (.cells [.int .i64 (i:Int),.int .i64 ((g[j]:Nat):Int)] 0):=⟨_,rfl⟩
    have an:a.n=t'.n+1:=by rw [ha];rfl
    have am:a.m=t'.m:=by rw [ha];rfl
    have ag:∀ c,c<t'.n→a.h.get c=t'.h.get c:=fun c hc=>by rw [ha,get_new_ne _ _ _ (by omega)]
    have ap:a.h.get t'.n=some (.cells [.int .i64 (i:Int),.int .i64 ((g[j]:Nat):Int)] 0):=by rw [ha];exact get_new_eq _ _ _ rfl (by omega)
    have hlen:((P++(g.take j).map fun st=>(i,st)).map pairRow).length≤72:=by
     rw [List.length_map,List.length_append,List.length_map,List.length_take];omega
    obtain ⟨s7,e7,l7,n7,g7,m7,m7'⟩:=append_at (bytes:=16) (i9.mono (h':=a.h) (n':=a.n) (fun h=>ag b9 h) (by omega)) ap rfl rfl (by omega) (by kernel_rfl) (by omega)
    have ecat:(P++(g.take j).map fun st=>(i,st)).map pairRow++[[.int .i64 (i:Int),.int .i64 ((g[j]:Nat):Int)]]=(P++(g.take (j+1)).map fun st=>(i,st)).map pairRow:=by
     simp only [take_snoc hlt,List.map_append,List.append_assoc,List.map_cons,List.map_nil]
     rfl
    rw [ecat] at l7
    obtain ⟨v7,hv7⟩:∃ v7,v7=AV.slice a.n 0 (((P++(g.take j).map fun st=>(i,st)).map pairRow).length+1) (((P++(g.take j).map fun st=>(i,st)).map pairRow).length+1) true:=⟨_,rfl⟩
    rw [← hv7] at e7 l7
    rw [ha] at e7
    have k9:=i9.okA
    have mu:=m7 u0 (by rcases o9 with h | h<;>omega) (by omega) (by omega)
    refine .inl ⟨hlt,_,d',s7,by
     simp (disch:=first|omega|(with_unfolding_all exact rfl)|(simp only[new_n,put_n,new_m];omega)|(refine put_m_le ?_;simp only[new_m];omega)) only [K20l0,K20r13,K20r14,K20r15,K20r16,Abs.W,reduceIte,Nat.reduceEqDiff,Nat.reduceAdd,Nat.reduceSub,efs,p8,p10',p55,p56,p57,e0,r2,r3,r4,t10,e7,ad,Nat.zero_add]
     rfl,rfl,v7,a.n,?_,l7,.inr (by omega),.inl (by omega),fun c h1 h2=>?_,by omega,by omega,mu,by omega,?_,fun c h1 h2 h3=>?_⟩
    ·simp only [efs,reduceIte,Nat.reduceEqDiff]
    ·rw [g7 c (by omega) (by rcases o9 with h | h<;>omega),ag c (by omega)];exact same c h1 h2
    ·simp only [efs,reduceIte,Nat.reduceEqDiff];rfl
    ·simp only [efs]
     repeat rw [if_neg (by omega)]
     exact q c h1 h2 h3
   ·obtain rfl:j=g.length:=by omega
    have e0:decide ((g.length:Int)<(g.length:Int))=false:=by simp
    rw [List.take_length] at i9
    refine .inr ⟨.exit 4,L'.set 58 (.bool false),d',t',by simp,?_,rfl,rfl,v9,b9,?_,i9,o9,o9',same,jn,by omega,jm,jml,fun c h1 h2 h3=>?_⟩
    ·simp (disch:=first|omega|(with_unfolding_all exact rfl)|(simp only[new_n,put_n,new_m];omega)|(refine put_m_le ?_;simp only[new_m];omega)) only [K20l0,K20r13,Abs.W,reduceIte,efs,p56,p57,e0]
    ·simp only [efs,p8,reduceIte,Nat.reduceEqDiff]
    ·simp only [efs]
     rw [if_neg (by omega)]
     exact q c (by omega) h2 h3)
 exact ⟨L1,t,v9,b9,rfl,h1,h2,h3,h4,h5,h6,h7,h9,h10',h11⟩
end Go.Proofs.Ythbhjgbpjlnbcaa.walk
set_option maxRecDepth 10000
namespace Go.Proofs.Ythbhjgbpjlnbcaa.walk
open Go.Abs Go.Proofs.Ythbhjgbpjlnbcaa.code
def Stopped (hs:List Int) (i:Nat) (rest:List (Int × Int)):Prop:=rest=[]∨∃ x r,rest=x::r∧holdF hs x.1.toNat=i
def CellsOr (t:St) (b:Nat):Prop:=far<b∨∃ c z,t.h.get b=some (.cells c z)
theorem env_round (M:Nat) (hM:1≤M) {no na nh:Nat→Prop} {w t:St} {u0 nr bm pr z5 kk i bE b8:Nat} {l:Letting} {vS vA vr vH vE v8:AV} {hs:List Int} {d:List Nat} {L:Env} (ok:l.Ok) (hi:i<l.appls.length) (hl:hs.length=l.stalls.length) (V:ValidH l hs)
  (box:w.h.get u0=some (.cells [vS,vA] (tag 28))) (boxH:w.h.get (u0+1)=some (.cells [vH] (tag 22))) (hL:LetAt no na w.h u0 l vS vA) (hH:Sl nh w.h w.n 1 (intRows hs) vH) (g5:w.h.get pr=some (.cells [vr] z5)) (rk:RkS w.h nr bm (u0+2) l l.stalls.length vr) (rb:bm<nr→u0+2≤bm) (o1:nr≤pr) (o2:pr<w.n) (o0:u0+1<pr)
  (ixE:∀ s,ixsA 1 s vE (.int .i64 (i:Int))=.val (.ptr bE i) s) (gE:∃ c z,w.h.get bE=some (.cells c z)∧nth c i=.int .i64 (i:Int)) (hbE:bE<w.n)
  (same:∀ c,c<w.n→t.h.get c=w.h.get c) (jn:w.n≤t.n) (jle:t.n≤w.n+kk) (jm:u0≤t.m) (jml:t.m≤far) (dd:∀ c ∈ d,w.n≤c∧c<t.n∧t.h.get c=some .dfr) (dn:d.Nodup) (hs':w.n+kk+1000000≤far)
  (f2:L.find 2=.ptr u0 0) (f3:L.find 3=.ptr (u0+1) 0) (f7:L.find 7=.ptr pr 0) (f8:L.find 8=v8) (i8:IsAt t.h t.n b8 2 (tag 59) ((envP l hs i).map pairRow) v8) (h8:w.n≤b8∧(b8<t.n∨far<b8)) (f24:L.find 24=vE) (f25:L.find 25=.int .i64 (l.appls.length:Int)) (f26:L.find 26=.int .i64 (i:Nat)) :
  ∃ L1 d1 t1 v9 b9,K20l1 (call Try.prog X (M+4)) ⟨20,none,Try.f20.ntmps,X 20⟩ L d t=.done .norm L1 d1 t1∧(∀ c,c<w.n→t1.h.get c=w.h.get c)∧w.n≤t1.n∧t1.n≤w.n+(kk+30000)∧u0≤t1.m∧t1.m≤far∧(∀ c ∈ d1,w.n≤c∧c<t1.n∧t1.h.get c=some .dfr)∧d1.Nodup∧L1.find 26=.int .i64 (i+1:Nat)∧L1.find 8=v9∧IsAt t1.h t1.n b9 2 (tag 59) ((envP l hs (i+1)).map pairRow) v9∧w.n≤b9∧(b9<t1.n∨far<b9)∧∀ c,c<26→c ∈ [2,3,7,24,25]→L1.find c=L.find c:=by
 have hf:far=1000000000:=rfl
 obtain ⟨b8,i8,h8,hc8⟩:∃ b,IsAt t.h t.n b 2 (tag 59) ((envP l hs i).map pairRow) v8∧(w.n≤b∧(b<t.n∨far<b))∧CellsOr t b:=by
  rcases i8.is with ⟨z,z2⟩ | ⟨_,z1,_,z3⟩
  ·refine ⟨far+w.n+1,?_,⟨by omega,by omega⟩,.inl (by omega)⟩
   rw [z,z2]
   exact IsAt.nil _ _ _ _ _
  ·exact ⟨b8,i8,h8,.inr ⟨_,_,z3⟩⟩
 obtain ⟨cE,zE,gE,nE⟩:=gE
 have kS:=hL.okS
 have kA:=hL.okV
 have kH:=hH.okA
 have m1:=ok.m1
 have e0:decide ((i:Int)<(l.appls.length:Int))=true:=decide_eq_true (by omega)
 have tE:=(same bE hbE).trans gE
 have t0:=(same u0 (by omega)).trans box
 obtain ⟨y1,hy1⟩:∃ y1:St,y1=((t.new (.cells [.int .i64 0] (tag 3))).put t.n (.cells [.int .i64 (i:Int)] (tag 3))).new (.cells [.nilslice] (tag 22)):=⟨_,rfl⟩
 have y1n:y1.n=t.n+2:=by rw [hy1];rfl
 have y1m:y1.m=min t.m t.n:=by rw [hy1,new_m];simp only [St.put,minN_eq,new_m]
 have y1g:∀ c,c<t.n→y1.h.get c=t.h.get c:=fun c hc=>by rw [hy1,get_new_ne _ _ _ (by simp only [put_n,new_n];omega),get_put_ne' _ _ _ _ (by omega),get_new_ne _ _ _ (by omega)]
 have y1p:y1.h.get t.n=some (.cells [.int .i64 (i:Int)] (tag 3)):=by rw [hy1,get_new_ne _ _ _ (by simp only [put_n,new_n];omega)];exact get_put_eq _ _ _ _ rfl (by omega)
 have y1q:y1.h.get (t.n+1)=some (.cells [.nilslice] (tag 22)):=by rw [hy1];exact get_new_eq _ _ _ (by simp only [put_n,new_n]) (by simp only [put_n,new_n];omega)
 have re:=reach_ok (M+4) (by omega) [vS,vA] (i:Int) y1 (by omega)
 obtain ⟨s0,hs0⟩:∃ s0:St,s0=(y1.new (.cells [vS,vA] (tag 28))).new (.cells [.int .i64 (i:Int)] (tag 3)):=⟨_,rfl⟩
 have s0n:s0.n=t.n+4:=by rw [hs0];show y1.n+1+1=_;omega
 have s0m:s0.m=y1.m:=by rw [hs0];rfl
 have s0g:∀ c,c<y1.n→s0.h.get c=y1.h.get c:=fun c hc=>by rw [hs0,get_new_ne _ _ _ (by rw [new_n];omega),get_new_ne _ _ _ (by omega)]
 have s00:s0.h.get (t.n+2)=some (.cells [vS,vA] (tag 28)):=by rw [hs0,get_new_ne _ _ _ (by rw [new_n];omega)];exact get_new_eq _ _ _ (by omega) (by omega)
 have s01:s0.h.get (t.n+3)=some (.cells [.int .i64 (i:Int)] (tag 3)):=by rw [hs0];exact get_new_eq _ _ _ (by rw [new_n];omega) (by rw [new_n];omega)
 rw [← hs0,y1n] at re
 have s0w:∀ c,c<w.n→s0.h.get c=w.h.get c:=fun c hc=>(s0g c (by omega)).trans ((y1g c (by omega)).trans (same c hc))
 have s0p:=(s0g t.n (by omega)).trans y1p
 have s0q:=(s0g (t.n+1) (by omega)).trans y1q
 have y10:=(y1g u0 (by omega)).trans t0
 simp (disch:=first|omega|(with_unfolding_all exact rfl)|(simp only[new_n,put_n,new_m];omega)|(refine put_m_le ?_;simp only[new_m];omega)) only [K20l1,K20r7,K20r8,K20r9,Abs.W,reduceIte,Nat.reduceEqDiff,Nat.reduceSub,efs,f24,f25,f26,e0,ixE,tE,nE,put_n,new_n]
 rw [← hy1]
 simp (disch:=first|omega|(with_unfolding_all exact rfl)|(simp only[new_n,put_n,new_m];omega)|(refine put_m_le ?_;simp only[new_m];omega)) only [K20r10,Abs.W,reduceIte,Nat.reduceEqDiff,Nat.reduceSub,efs,f2,y10,y1p,re]
 obtain ⟨L0,hL0⟩:∃ L0,L0=Env.set 32 (.func 56 [] [.ptr (t.n+2) 0,.ptr (t.n+2+1) 0]) (Env.set 11 (.ptr (t.n+1) 0) (Env.set 10 (.ptr t.n 0) (Env.set 27 (.bool true) L))):=⟨_,rfl⟩
 rw [← hL0]
 have kL:∀ c,c<27→c≠10→c≠11→L0.find c=L.find c:=fun c h1 h2 h3=>by
  rw [hL0]
  simp only [efs]
  repeat rw [if_neg (by omega)]
 have k10:L0.find 10=.ptr t.n 0:=by rw [hL0];simp only [efs,reduceIte,Nat.reduceEqDiff]
 have k11:L0.find 11=.ptr (t.n+1) 0:=by rw [hL0];simp only [efs,reduceIte,Nat.reduceEqDiff]
 have k32:L0.find 32=.func 56 [] [.ptr (t.n+2) 0,.ptr (t.n+3) 0]:=by rw [hL0];simp only [efs,reduceIte,Nat.reduceEqDiff]
 clear hL0 re
 have k3:=(kL 3 (by omega) (by omega) (by omega)).trans f3
 have k7:=(kL 7 (by omega) (by omega) (by omega)).trans f7
 have hLb:=hL.bound.move (h':=s0.h) (n':=u0) (no':=fun y=>no y∧y<u0) (na':=fun y=>na y∧y<u0) (fun b h1 h2=>⟨s0w b (by omega),h2⟩) (fun b h1 h2=>⟨s0w b (by omega),h2⟩) (Nat.le_refl _)
 have hh:=reach1_hands (N:=M+1) (p1:=t.n+2) (p2:=t.n+3) (H:=s0.h) (rd:=fun y=>y=t.n+2∨y=t.n+3∨(no y∧y<u0)∨(na y∧y<u0)) ok hLb hi s00 s01 (.inl rfl) (.inr (.inl rfl)) (fun y h=>.inr (.inr (.inl h))) (fun y h=>.inr (.inr (.inr h)))
 have rl:∀ y,(y=t.n+2∨y=t.n+3∨(no y∧y<u0)∨(na y∧y<u0))→y=t.n+2∨y=t.n+3∨y<u0:=fun y h=>by
  rcases h with h | h | h | h
  ·exact .inl h
  ·exact .inr (.inl h)
  ·exact .inr (.inr h.2)
  ·exact .inr (.inr h.2)
 have hTm:∀ x ∈ reachOf l.stalls l.appls[i],∃ st:Nat,x.1=st∧st<l.stalls.length∧i ∈ ableL l st:=fun x hx=>by
  rw [← applAt_of hi] at hx
  obtain ⟨st,h1,h2,_⟩:=reach_mem ok hi hx
  refine ⟨st,h1,h2,(able_iff ok hi).mpr (List.mem_map.mpr ⟨x,hx,by rw [h1];exact Int.toNat_natCast st⟩)⟩
 have eT:reachOf l.stalls (applAt l i)=reachOf l.stalls l.appls[i]:=by rw [applAt_of hi]
 obtain ⟨T,hTe⟩:∃ T,T=reachOf l.stalls l.appls[i]:=⟨_,rfl⟩
 rw [← hTe] at hh hTm eT
 have k1:=ok.k1
 obtain ⟨e,s',kf,hkf,e1,hE,e3,e4,e5,e6,e7,e8⟩:=hands_range2 (P:=Try.prog) (X:=X) (M:=M) (Z:=M+4) hh (f:=.tmp 32) (ps:=[33,34]) (c:=⟨20,none,Try.f20.ntmps,X 20⟩) (L:=L0) (d:=d) (s:=s0) rfl (by rw [ev_tmp,k32]) (fun _=>rfl) code20a0 code20b0 10 u0 300 (fun y=>y=t.n+1) (fun _ _=>True) (fun _ _ _ _ _=>trivial) (fun _=>trivial)
  (fun kf p h n=>EnvI l hs i (t.n+1) kf p h n) (fun kf e p x k h n=>e=.exit 2∧holdF hs x.1.toNat=i∧EnvI l hs i (t.n+1) kf p h n)
  (fun y hy=>⟨by have:=rl y hy;omega,rfl⟩) (fun y hy=>⟨fun h=>by have:=rl y h;omega,by omega⟩) (by omega) (by omega) (by omega) (by omega) (fun kf hkf=>⟨.nilslice,far+1+kf,s0q,IsAt.nil _ _ _ _ _,by omega,.inr (by omega),fun x hx=>(by cases hx)⟩)
  (fun kf p h h' n n' hkf hb hn hp=>hp.keep (hb _ (.inl (by omega))) (fun b h1 h2=>hb b (.inr ⟨h1,h2⟩)) hn)
  (fun kf e p x k h h' n n' hkf hk hb hn ⟨q1,q2,hp⟩=>⟨q1,q2,hp.keep (hb _ (.inl (by omega))) (fun b h1 h2=>hb b (.inr h1)) hn⟩)
  (fun kf p x rest t' hkf ht hp hfr htn htf htm htm' _=>by
   have hmem:x ∈ T:=by rw [← ht];simp
   obtain ⟨st,x1,x2,x3⟩:=hTm x hmem
   obtain ⟨xs,xb⟩:=x
   simp only at x1
   subst x1
   have etn:((st:Int),xb).1.toNat=st:=Int.toNat_natCast st
   have hass:K20a0 (call Try.prog X M) ⟨20,some (s0.n+1),Try.f20.ntmps,X 20⟩ (setParams L0 [33,34] (ev2 ((st:Int),xb))) [] t'=.done .norm (((L0.set 33 (.int .i64 (st:Int))).set 34 (.int .i64 xb)).set 12 (.int .i64 (st:Int))) [] t':=by
    simp (disch:=first|omega|(with_unfolding_all exact rfl)|(simp only[new_n,put_n,new_m];omega)|(refine put_m_le ?_;simp only[new_m];omega)) only [K20a0,K20a0r0,ev2,setParams2,Abs.W,reduceIte,Nat.reduceEqDiff,efs,Nat.reduceEqDiff]
   obtain ⟨L1,hL1⟩:∃ L1,L1=(((L0.set 33 (.int .i64 (st:Int))).set 34 (.int .i64 xb)).set 12 (.int .i64 (st:Int))):=⟨_,rfl⟩
   rw [← hL1] at hass
   have l3:L1.find 3=.ptr (u0+1) 0:=by rw [hL1];simp only [efs,k3,reduceIte,Nat.reduceEqDiff]
   have l7:L1.find 7=.ptr pr 0:=by rw [hL1];simp only [efs,k7,reduceIte,Nat.reduceEqDiff]
   have l10:L1.find 10=.ptr t.n 0:=by rw [hL1];simp only [efs,k10,reduceIte,Nat.reduceEqDiff]
   have l12:L1.find 12=.int .i64 (st:Int):=by rw [hL1];simp only [efs,reduceIte,Nat.reduceEqDiff]
   have k11':L1.find 11=.ptr (t.n+1) 0:=by rw [hL1];simp only [efs,k11,reduceIte,Nat.reduceEqDiff]
   clear hL1
   have tw:∀ c,c<w.n→t'.h.get c=w.h.get c:=fun c h1=>(hfr c (by omega) (by omega)).trans (s0w c h1)
   obtain ⟨z,hz⟩:∃ z:St,z=t'.put (s0.n+1) (.loop { loopO ⟨20,none,Try.f20.ntmps,X 20⟩ L0 [33,34] (rangeAt Try.f20 0).1 (rangeAt Try.f20 0).2 s0 with state:=.busy }):=⟨_,rfl⟩
   have zn:z.n=t'.n:=by rw [hz];rfl
   have zm:z.m=min t'.m (s0.n+1):=by rw [hz];simp only [St.put,minN_eq]
   have zg:∀ c,c≠s0.n+1→z.h.get c=t'.h.get c:=fun c hc=>by rw [hz,get_put_ne' _ _ _ _ hc]
   have zl:z.h.get (s0.n+1)=some (.loop { loopO ⟨20,none,Try.f20.ntmps,X 20⟩ L0 [33,34] (rangeAt Try.f20 0).1 (rangeAt Try.f20 0).2 s0 with state:=.busy }):=by rw [hz];exact get_put_eq _ _ _ _ rfl (by omega)
   have zw:∀ c,c<w.n→z.h.get c=w.h.get c:=fun c hc=>(zg c (by omega)).trans (tw c hc)
   have z1:=(zw (u0+1) (by omega)).trans boxH
   have z7:=(zw pr o2).trans g5
   have z10:=(zg t.n (by omega)).trans ((hfr t.n (by omega) (by omega)).trans s0p)
   obtain ⟨vE',bE',hb1,hb2,hb3,hb4,hb5⟩:=hp
   have z11:=(zg (t.n+1) (by omega)).trans hb1
   have l11:L1.find 11=.ptr (t.n+1) 0:=k11'
   have hHz:=hH.grow zw (by omega:w.n≤z.n)
   obtain ⟨bh,ph,ch,zh,r1,r2,r3,r4⟩:=rowInt hHz.at_ (show st<hs.length by omega)
   have hRz:RkS z.h z.n bm (u0+2) l l.stalls.length vr:=rk.move rb (fun c h1 _=>zw c (by omega)) (by omega)
   have kr:=hRz.okA
   have eh:hs[st]=holdF hs st:=by unfold holdF;simp [List.getD,show st<hs.length by omega]
   refine ⟨L1,t',?_⟩
   rw [hass,← hz]
   by_cases he:hs[st]=(i:Int)
   ·have d1:decide (hs[st]=(i:Int))=true:=decide_eq_true he
    simp (disch:=first|omega|(with_unfolding_all exact rfl)|(simp only[new_n,put_n,new_m];omega)|(refine put_m_le ?_;simp only[new_m];omega)) only [K20b0,K20b0r0,Abs.W,reduceIte,Nat.reduceEqDiff,Nat.reduceSub,blkR_pass,efs,l3,l10,l12,z1,z10,kH,r2,r3,r4,d1]
    exact ⟨.exit 2,_,_,trivial,trivial,rfl,fun h=>(by cases h),fun _=>⟨rfl,by rw [etn,← eh];exact he,EnvI.keep (h:=t'.h) (n:=t'.n) ⟨vE',bE',hb1,hb2,hb3,hb4,hb5⟩ (zg _ (by omega)) (fun b h1 h2=>zg b (by omega)) (by omega)⟩,zl,fun c h1 h2 _=>zg c h2,by omega,by omega,by omega,by omega,trivial⟩
   ·have d1:decide (hs[st]=(i:Int))=false:=decide_eq_false he
    have held:Held l st hs[st]:=by
     rcases V.can st (by omega) with h | ⟨c,h,q1,q2⟩
     ·exact .inl h
     ·exact .inr ⟨c,h,(able_iff ok q1).mpr ((canI_iff ok q1).mp q2)⟩
    have bo:=better_ok M hM hRz x2 x3 held (by omega)
    have hni:∀ x ∈ p++[((st:Int),xb)],holdF hs x.1.toNat≠i:=fun y hy=>by
     rcases List.mem_append.mp hy with h | h
     ·exact hb5 y h
     ·rw [List.mem_singleton.mp h,etn,← eh];exact he
    have hsn:=betterL_snoc l hs i p ((st:Int),xb)
    have egd:hs.getD st (-1)=hs[st]:=by simp [List.getD,show st<hs.length by omega]
    rw [etn,egd] at hsn
    cases hb:betterB l st i hs[st] with
    | false =>
     rw [hb] at bo hsn
     have hsn:betterL l hs i (p++[((st:Int),xb)])=betterL l hs i p:=by rw [hsn];simp
     simp (disch:=first|omega|(with_unfolding_all exact rfl)|(simp only[new_n,put_n,new_m];omega)|(refine put_m_le ?_;simp only[new_m];omega)) only [K20b0,K20b0r0,K20b0r1,Abs.W,reduceIte,Nat.reduceEqDiff,Nat.reduceSub,efs,l3,l7,l10,l12,z1,z7,z10,kH,kr,r2,r3,r4,d1,bo]
     exact ⟨.norm,_,_,trivial,trivial,rfl,fun _=>⟨vE',bE',z11,by rw [hsn];exact hb2.mono (fun h=>zg bE' (by omega)) (by omega),hb3,by omega,hni⟩,fun h=>absurd rfl h,zl,fun c h1 h2 _=>zg c h2,by omega,by omega,by omega,by omega,trivial⟩
    | true =>
     rw [hb] at bo hsn
     rw [if_pos rfl] at hsn
     have kE':=hb2.okA
     have hlen:=(betterL_nodup ok hs hi (p:=p) (rest:=((st:Int),xb)::rest) (by rw [eT,ht])).2
     obtain ⟨a,ha⟩:∃ a:St,a=z.new (.cells [.int .i64 (st:Int)] 0):=⟨_,rfl⟩
     have an:a.n=z.n+1:=by rw [ha];rfl
     have am:a.m=z.m:=by rw [ha];rfl
     have ag:∀ c,c<z.n→a.h.get c=z.h.get c:=fun c hc=>by rw [ha,get_new_ne _ _ _ (by omega)]
     have ap:a.h.get z.n=some (.cells [.int .i64 (st:Int)] 0):=by rw [ha];exact get_new_eq _ _ _ rfl (by omega)
     obtain ⟨s7,e7,l7',n7,g7,m7,m7'⟩:=append_at (bytes:=8) (hb2.mono (h':=a.h) (n':=a.n) (fun h=>(ag bE' (by omega)).trans (zg bE' (by omega))) (by omega)) ap rfl rfl (by rw [natRows_len];omega) (by kernel_rfl) (by omega)
     rw [natRows_len] at e7 l7'
     have ecat:natRows (betterL l hs i p)++[[.int .i64 (st:Int)]]=natRows (betterL l hs i (p++[((st:Int),xb)])):=by
      rw [hsn]
      unfold natRows intRows
      rw [List.map_append,List.map_append]
      rfl
     rw [ecat] at l7'
     obtain ⟨v7,hv7⟩:∃ v7,v7=AV.slice a.n 0 ((betterL l hs i p).length+1) ((betterL l hs i p).length+1) true:=⟨_,rfl⟩
     rw [← hv7] at e7 l7'
     have sc7:scalars [v7]=true:=by rw [hv7];rfl
     have cc7:cellsOf 1 v7=some [v7]:=by rw [hv7];rfl
     rw [ha] at e7
     have s711:=(g7 (t.n+1) (by omega) (by omega)).trans ((ag (t.n+1) (by omega)).trans z11)
     simp (disch:=first|omega|(with_unfolding_all exact rfl)|(simp only[new_n,put_n,new_m];omega)|(refine put_m_le ?_;simp only[new_m];omega)) only [K20b0,K20b0r0,K20b0r1,K20b0r2,Abs.W,reduceIte,Nat.reduceEqDiff,Nat.reduceSub,efs,l3,l7,l10,l11,l12,z1,z7,z10,z11,kH,kr,kE',r2,r3,r4,d1,bo,e7,s711,sc7,cc7]
     have mu:=m7 u0 (by omega) (by omega) (by omega)
     refine ⟨.norm,_,_,trivial,trivial,rfl,fun _=>⟨v7,a.n,get_put_eq _ _ _ _ rfl (by omega),l7'.mono (fun _=>get_put_ne' _ _ _ _ (by omega)) (by rw [put_n];omega),by omega,.inl (by rw [put_n];omega),hni⟩,fun h=>absurd rfl h,?_,fun c h1 h2 h3=>?_,by rw [put_n];omega,by rw [put_n];omega,?_,?_,trivial⟩
     ·rw [get_put_ne' _ _ _ _ (by omega),g7 _ (by omega) (by omega),ag _ (by omega)];exact zl
     ·rw [get_put_ne' _ _ _ _ h3,g7 c (by omega) (by omega),ag c (by omega)];exact zg c h2
     ·simp only [St.put,minN_eq];omega
     ·simp only [St.put,minN_eq];omega)
 rw [e1]
 have hex:∃ L1,blkR 2 (R.done e L0 (s0.n::d) s')=.done .norm L1 (s0.n::d) s'∧L1=L0:=by
  rcases hE with ⟨rfl,_,_⟩ | ⟨_,p,x,rest,kx,_,_,⟨rfl,_⟩,_⟩
  ·exact ⟨L0,by rw [blkR_norm],rfl⟩
  ·exact ⟨L0,by rw [blkR_exit],rfl⟩
 have hres:∃ p rest,p++rest=reachOf l.stalls (applAt l i)∧Stopped hs i rest∧EnvI l hs i (t.n+1) kf p s'.h s'.n:=by
  rw [eT]
  rcases hE with ⟨_,h,_⟩ | ⟨_,p,x,rest,kx,hT,_,⟨_,h1,h2⟩,_⟩
  ·exact ⟨T,[],by simp,.inl rfl,h⟩
  ·exact ⟨p,x::rest,hT,.inr ⟨x,rest,rfl,h1⟩,h2⟩
 obtain ⟨_,hex,rfl⟩:=hex
 rw [hex]
 clear hE hex
 obtain ⟨p,rest,hTp,hrest,vL,bL,sq,iL,hL1,hL2,hL3⟩:=hres
 obtain ⟨bL,iL,hL1,hL2,hLne⟩:∃ b,IsAt s'.h s'.n b 1 (tag 3) (natRows (betterL l hs i p)) vL∧kf≤b∧(b<s'.n∨far<b)∧b≠b8:=by
  obtain ⟨_,h8b⟩:=h8
  rcases iL.is with ⟨z,z2⟩ | ⟨_,z1,_⟩
  ·refine ⟨far+b8+kf+1,?_,by omega,by omega,by omega⟩
   rw [z,z2]
   exact IsAt.nil _ _ _ _ _
  ·exact ⟨bL,iL,hL1,.inl z1,by omega⟩
 have hsame:∀ c,c<s0.n→c≠t.n+1→s'.h.get c=s0.h.get c:=e3
 obtain ⟨nd,ln⟩:=betterL_nodup ok hs hi hTp
 obtain ⟨t2,g,so,ig,hg1,hg2,t2g,t2n,t2m,t2m'⟩:=env_sort (N:=M+1) (by omega) iL nd ln (by omega) (by omega)
 have hgS:=envS_of ok V hi hTp hL3 hrest hg1 hg2
 have kL':=iL.okA
 have lL':∀ s,lenSlA s vL=.val (.int .i64 (g.length:Int)) s:=fun s=>natLen ig.rows.at_ s
 have sq2:=(t2g (t.n+1) (by omega)).trans sq
 simp (disch:=first|omega|(with_unfolding_all exact rfl)|(simp only[new_n,put_n,new_m];omega)|(refine put_m_le ?_;simp only[new_m];omega)) only [K20r11,K20r12,Abs.W,reduceIte,Nat.reduceEqDiff,kLoop_def,Nat.reduceSub,k11,sq,so,sq2,kL',lL']
 generalize hlp:loopN _ rounds _ _ _ _ _=rl
 have t2t:∀ c,c<t.n→t2.h.get c=t.h.get c:=fun c hc=>(t2g c (by omega)).trans ((hsame c (by omega) (by omega)).trans ((s0g c (by omega)).trans (y1g c hc)))
 have hgl:g.length≤8:=by
  have:=len_sub (k:=betterL l hs i p) (hg1.imp (fun h=>Nat.ne_of_lt h)) fun x hx=>(hg2 x).mp hx
  omega
 have p10:=(t2g t.n (by omega)).trans ((hsame t.n (by omega) (by omega)).trans s0p)
 have hpl:(envP l hs i).length≤64:=envP_len ok hs (by omega)
 have ha:b8<t2.n∨far<b8:=by omega
 have hb':t.n<t2.n∧t.n≠b8:=by omega
 have hd':u0≤b8:=by omega
 have he':u0≤t2.n:=by omega
 have hf':u0≤t2.m:=by omega
 have hg':t2.m≤far:=by omega
 have hh':t2.n+1000≤far:=by omega
 have i82:=i8.mono (h':=t2.h) (n':=t2.n) (fun h=>t2t b8 h) (by omega)
 have k8':=(kL 8 (by omega) (by omega) (by omega)).trans f8
 obtain ⟨L3,t3,v9,b9,rfl,q8,i9,hb9,hb9',t3g,t3n,t3n',t3m,t3m',qL⟩:=env_inner (M+4) (i:=i) (g:=g) (P:=envP l hs i) (u0:=u0) (bL:=bL) (vL:=vL) hlp ig i82 ha p10 hb' ⟨hLne,hd'⟩ hgl hpl he' hf' hg' hh'
  (by simp only [efs,k8',reduceIte,Nat.reduceEqDiff]) (by simp only [efs,k10,reduceIte,Nat.reduceEqDiff]) (by simp only [efs,reduceIte,Nat.reduceEqDiff]) (by simp only [efs,reduceIte,Nat.reduceEqDiff]) (by simp only [efs,reduceIte,Nat.reduceEqDiff];rfl)
 have k26:=(kL 26 (by omega) (by omega) (by omega)).trans f26
 have ad:∀ s,aAdd s .i64 (i:Int) 1=.val (.int .i64 ((i:Int)+1)) s:=fun s=>aAdd_i64 s _ _ (by omega)
 have q26:L3.find 26=.int .i64 (i:Nat):=(qL 26 (by omega) (by omega) (by omega)).trans (by simp only [efs,k26,reduceIte,Nat.reduceEqDiff])
 simp (disch:=first|omega|(with_unfolding_all exact rfl)|(simp only[new_n,put_n,new_m];omega)|(refine put_m_le ?_;simp only[new_m];omega)) only [K20r17,Abs.W,reduceIte,Nat.reduceEqDiff,q26,ad]
 have t3w:∀ c,c<t.n→c≠b8→t3.h.get c=t.h.get c:=fun c h1 h2=>(t3g c (by omega) h2).trans (t2t c h1)
 have sd:∀ c ∈ s0.n::d,w.n≤c∧c<t3.n∧t3.h.get c=some .dfr:=fun c hc=>by
  rcases List.mem_cons.mp hc with rfl | hc
  ·refine ⟨by omega,by omega,?_⟩
   rw [t3g s0.n (by omega) (by omega),t2g s0.n (by omega)]
   exact e4
  ·obtain ⟨c1,c2,c3⟩:=dd c hc
   refine ⟨c1,by omega,?_⟩
   rw [t3w c c2 (fun e=>?_)]
   ·exact c3
   ·subst e
    rcases hc8 with z | ⟨_,_,z3⟩
    ·omega
    ·rw [c3] at z3;cases z3
 have snd:(s0.n::d).Nodup:=List.nodup_cons.mpr ⟨fun h=>by have:=(dd _ h).2.1;omega,dn⟩
 refine ⟨_,s0.n::d,t3,v9,b9,rfl,fun c hc=>(t3w c (by omega) (by omega)).trans (same c hc),by omega,by rw [← Nat.add_assoc];omega,by omega,by omega,sd,snd,?_,?_,?_,by omega,by omega,fun c hc hm=>?_⟩
 ·simp only [efs,reduceIte];rfl
 ·simp only [efs,q8,reduceIte,Nat.reduceEqDiff]
 ·rw [envP_succ,← hgS];exact i9
 ·simp only [List.mem_cons,List.mem_nil_iff,or_false] at hm
  simp only [efs]
  repeat rw [if_neg (by omega)]
  rw [qL c (by omega) (by omega) (by omega)]
  simp only [efs]
  repeat rw [if_neg (by omega)]
  exact kL c (by omega) (by omega) (by omega)
end Go.Proofs.Ythbhjgbpjlnbcaa.walk
