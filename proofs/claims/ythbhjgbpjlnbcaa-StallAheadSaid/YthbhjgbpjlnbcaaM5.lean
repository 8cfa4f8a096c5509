/- The places of all that can have a stall, for all stalls. -/
import Derived.Test.YthbhjgbpjlnbcaaM4
import Derived.Test.YthbhjgbpjlnbcaaCodes
import Derived.Test.YthbhjgbpjlnbcaaM2
import Derived.Test.YthbhjgbpjlnbcaaWalkAll
set_option linter.unusedSimpArgs false
set_option maxHeartbeats 16000000
set_option linter.unusedVariables false
set_option maxRecDepth 10000
namespace Go.Proofs.Ythbhjgbpjlnbcaa.walk
open Go.Abs Go.Proofs.Ythbhjgbpjlnbcaa.code
def RkS (h:Heap) (n bm lo:Nat) (l:Letting) (k:Nat) (v:AV):Prop :=
 ∃ ms:List Nat,ms.length=k∧IsAt h n bm 1 (tag 91) (ms.map fun m=>[.map m]) v∧∀ j (hj:j<ms.length),lo≤ms[j]∧ms[j]<n∧ms[j]≠bm∧∃ g,RankOf l j g∧h.get ms[j]=some (.map (mapV (plAll g)))
section
variable {h h':Heap} {n n' bm lo k:Nat} {l:Letting} {v:AV}
theorem RkS.nil (h:Heap) (n bm lo:Nat) (l:Letting):RkS h n bm lo l 0 .nilslice:=⟨[],rfl,IsAt.nil _ _ _ _ _,fun j hj=>by simp at hj⟩
theorem RkS.move (a:RkS h n bm lo l k v) (hb:bm<n→lo≤bm) (hh:∀ c,c<n→lo≤c→h'.get c=h.get c) (hn:n≤n'):RkS h' n' bm lo l k v:=by
 obtain ⟨ms,h1,h2,h3⟩:=a
 refine ⟨ms,h1,h2.mono (fun h=>hh _ h (hb h)) hn,fun j hj=>?_⟩
 obtain ⟨a1,a2,a3,g,a4,a5⟩:=h3 j hj
 exact ⟨a1,by omega,a3,g,a4,by rw [hh _ a2 a1];exact a5⟩
theorem RkS.okA (a:RkS h n bm lo l k v) (t:St):Abs.okA (.val v t)=.val v t:=by obtain ⟨_,_,h2,_⟩:=a;exact h2.okA t
theorem RkS.get (a:RkS h n bm lo l k v) {j:Nat} (hj:j<k) :
  ∃ m p c sz g,(∀ s,ixsA 1 s v (.int .i64 (j:Int))=.val (.ptr bm p) s)∧h.get bm=some (.cells c sz)∧nth c p=.map m∧RankOf l j g∧h.get m=some (.map (mapV (plAll g)))∧bm<n∧m<n:=by
 obtain ⟨ms,h1,h2,h3⟩:=a
 have hr:j<ms.length:=by omega
 obtain ⟨a1,a2,a3,g,a4,a5⟩:=h3 j hr
 rcases h2.is with ⟨z,_⟩ | ⟨_,z1,z2,z3⟩
 ·rw [List.map_eq_nil_iff] at z
  subst z
  simp at hr
 ·refine ⟨ms[j],0+j * 1,_,_,g,fun s=>by rw [z2];exact ixs_slice 1 s bm 0 _ _ true j (by rw [List.length_map];exact hr),z3,?_,a4,a5,z1,a2⟩
  rw [Nat.zero_add]
  have:=flatten_cut (rows:=ms.map fun m=>[AV.map m]) (w:=1) (i:=j) h2.wide (by rw [List.length_map];exact hr)
  exact cut1_nth (this.trans (by simp))
theorem RkS.slice (a:RkS h n bm lo l k v) (hk:0<k):v=.slice bm 0 k k true∧bm<n:=by
 obtain ⟨ms,h1,h2,h3⟩:=a
 rcases h2.is with ⟨z,_⟩ | ⟨_,z1,z2,z3⟩
 ·rw [List.map_eq_nil_iff] at z
  subst z
  simp at h1;omega
 ·rw [List.length_map,h1] at z2
  exact ⟨z2,z1⟩
end
theorem RkS.push {s:St} {bm lo k m:Nat} {l:Letting} {v:AV} {g:List Nat} (a:RkS s.h s.n bm lo l k v) (hg:RankOf l k g) (hm:s.h.get m=some (.map (mapV (plAll g)))) (hlo:lo≤m) (hmn:m<s.n) (hmb:m≠bm) {p sz:Nat} (hp:s.h.get p=some (.cells [.map m] sz)) (hl:k+1≤1000) (hs:s.n+10≤far) :
  ∃ v' s',appendA false 1 8 (tag 91) s v (.slice p 0 1 1 false)=.val v' s'∧RkS s'.h s'.n s.n lo l (k+1) v'∧s'.n=s.n+1∧(∀ c,c<s.n→c≠bm→s'.h.get c=s.h.get c)∧(∀ k,k≤bm→k≤s.n→k≤s.m→k≤s'.m)∧s'.m≤s.m:=by
 have hf:far=1000000000:=rfl
 obtain ⟨ms,h1,h2,h3⟩:=a
 obtain ⟨s',e1,e2,e3,e4,e5,e6⟩:=append_at (bytes:=8) h2 hp rfl rfl (by rw [List.length_map];omega) (by kernel_rfl) (by omega)
 refine ⟨_,s',e1,⟨ms++[m],by simp [h1],by rw [List.map_append];exact e2,fun j hj=>?_⟩,e3,e4,e5,e6⟩
 by_cases e:j<ms.length
 ·obtain ⟨a1,a2,a3,g',a4,a5⟩:=h3 j e
  rw [List.getElem_append_left e]
  exact ⟨a1,by omega,by omega,g',a4,by rw [e4 _ a2 a3];exact a5⟩
 ·have hj:j=ms.length:=by rw [List.length_append,List.length_singleton] at hj;omega
  subst hj
  rw [List.getElem_append_right (Nat.le_refl _)]
  simp only [Nat.sub_self,List.getElem_singleton]
  rw [h1]
  exact ⟨hlo,by omega,by omega,g,hg,by rw [e4 _ hmn hmb];exact hm⟩
end Go.Proofs.Ythbhjgbpjlnbcaa.walk
set_option maxRecDepth 10000
namespace Go.Proofs.Ythbhjgbpjlnbcaa.walk
open Go.Abs Go.Proofs.Ythbhjgbpjlnbcaa.code
theorem RankOf.lt {l:Letting} {st:Nat} {g:List Nat} (r:RankOf l st g) {a b:Nat} (ha:a ∈ ableL l st) (hb:b ∈ ableL l st):getP (plAll g) a<getP (plAll g) b↔keyL l st a<keyL l st b:=by
 obtain ⟨i,i1,i2⟩:=mem_at.mp ((r.same.mem a).mpr ha)
 obtain ⟨j,j1,j2⟩:=mem_at.mp ((r.same.mem b).mpr hb)
 have li:=r.same.len
 subst i2 j2
 rw [plAll_at r.same.nd i1,plAll_at r.same.nd j1]
 rcases Nat.lt_trichotomy i j with h | h | h
 ·have:=r.up i j h (by omega)
  exact ⟨fun _=>this,fun _=>by omega⟩
 ·subst h
  exact ⟨fun h=>by omega,fun h=>by omega⟩
 ·have:=r.up j i h (by omega)
  exact ⟨fun h=>by omega,fun h=>by omega⟩
def betterB (l:Letting) (st a:Nat) (h:Int):Bool:=decide (h = -1) || decide (keyL l st a<keyL l st h.toNat)
end Go.Proofs.Ythbhjgbpjlnbcaa.walk
set_option maxRecDepth 10000
namespace Go.Proofs.Ythbhjgbpjlnbcaa.walk
open Go.Abs Go.Proofs.Ythbhjgbpjlnbcaa.code
def QAt (h:Heap) (n b:Nat) (q:List Nat) (v:AV):Prop :=
 b<n∧∃ o c sz,h.get b=some (.cells c sz) ∧
  ((v=.slice b o q.length q.length false∧cut o q.length c=some (arr q)) ∨
  (q≠[]∧v=.slice b o q.length q.length true∧c.length=o+q.length∧c.drop o=arr q∧szOf sz=1) ∨
  (q=[]∧v=.tail b o∧c.length=o∧szOf sz=1))
section
variable {h h':Heap} {n n' b:Nat} {q:List Nat} {v:AV}
theorem QAt.move (a:QAt h n b q v) (hh:h'.get b=h.get b) (hn:n≤n'):QAt h' n' b q v:=by
 obtain ⟨h1,o,c,sz,h2,h3⟩:=a
 exact ⟨by omega,o,c,sz,hh.trans h2,h3⟩
theorem QAt.okA (a:QAt h n b q v) (t:St):Abs.okA (.val v t)=.val v t:=by
 obtain ⟨h1,o,c,sz,h2,⟨rfl,_⟩ | ⟨_,rfl,_⟩ | ⟨_,rfl,_⟩⟩:=a<;>rfl
theorem QAt.scal (a:QAt h n b q v):scalars [v]=true∧cellsOf 1 v=some [v]:=by
 obtain ⟨h1,o,c,sz,h2,⟨rfl,_⟩ | ⟨_,rfl,_⟩ | ⟨_,rfl,_⟩⟩:=a<;>exact ⟨rfl,rfl⟩
theorem QAt.len (a:QAt h n b q v) (s:St):lenSlA s v=.val (.int .i64 (q.length:Int)) s:=by
 obtain ⟨h1,o,c,sz,h2,⟨rfl,_⟩ | ⟨_,rfl,_⟩ | ⟨rfl,rfl,_⟩⟩:=a<;>rfl
theorem cut_drop {c:List AV} {o k:Nat} {l:List AV} (h:cut o k c=some l):l=(c.drop o).take k∧l.length=k:=by
 induction o generalizing c with
 | zero =>
  rw [cut_zero] at h
  obtain ⟨t,h1,h2⟩:=cut1_some h
  subst h1
  exact ⟨by rw [List.drop_zero,← h2,List.take_left],h2⟩
 | succ o ih =>
  cases c with
  | nil=>cases k<;>cases h<;>first | exact ⟨rfl,rfl⟩ | skip
  | cons x c=>rw [List.drop_succ_cons];exact ih h
theorem QAt.head {a:Nat} {r:List Nat} (x:QAt h n b (a::r) v):∃ o c sz,(∀ s,ixsA 1 s v (.int .i64 0)=.val (.ptr b o) s)∧h.get b=some (.cells c sz)∧nth c o=.int .i64 (a:Nat):=by
 obtain ⟨h1,o,c,sz,h2,h3⟩:=x
 have key:∀ {l:List AV},l=(.int .i64 (a:Int))::arr r→(∃ t,c.drop o=l++t)→nth c o=.int .i64 (a:Nat):=fun {l} hl ⟨t,ht⟩=>by
  have e:c=c.take o++c.drop o:=(List.take_append_drop o c).symm
  have ol:o≤c.length:=by
   rcases Nat.lt_or_ge c.length o with h | h
   ·rw [List.drop_eq_nil_of_le (by omega),hl] at ht
    cases ht
   ·exact h
  have:cut o 1 c=some [.int .i64 (a:Int)]:=by
   have h1:=cut_skip (c.take o) (c.drop o) 0 1
   rw [Nat.add_zero,List.length_take,Nat.min_eq_left ol,← e] at h1
   rw [h1,ht,hl]
   rfl
  exact cut1_nth this
 rcases h3 with ⟨rfl,h4⟩ | ⟨_,rfl,h4,h5,_⟩ | ⟨h4,_⟩
 ·refine ⟨o,c,sz,fun s=>by have:=ixs_slice 1 s b o (a::r).length (a::r).length false 0 (by simp);rwa [Nat.zero_mul,Nat.add_zero] at this,h2,key (l:=arr (a::r)) rfl ⟨(c.drop o).drop (a::r).length,?_⟩⟩
  rw [(cut_drop h4).1,List.take_append_drop]
 ·exact ⟨o,c,sz,fun s=>by have:=ixs_slice 1 s b o (a::r).length (a::r).length true 0 (by simp);rwa [Nat.zero_mul,Nat.add_zero] at this,h2,key (l:=arr (a::r)) rfl ⟨[],by rw [h5,List.append_nil]⟩⟩
 ·cases h4
theorem QAt.tail {a:Nat} {r:List Nat} (x:QAt h n b (a::r) v):∃ v',(∀ s,sliceVal 1 (some (.int .i64 1)) none s v=.val v' s)∧QAt h n b r v':=by
 obtain ⟨h1,o,c,sz,h2,h3⟩:=x
 rcases h3 with ⟨rfl,h4⟩ | ⟨_,rfl,h4,h5,h6⟩ | ⟨h4,_⟩
 ·cases r with
  | nil=>exact ⟨.slice b o 0 0 false,fun s=>rfl,h1,o,c,sz,h2,.inl ⟨rfl,by
    obtain ⟨e1,e2⟩:=cut_drop h4
    have ol:o≤c.length:=by
     rcases Nat.lt_or_ge c.length o with h | h
     ·rw [List.drop_eq_nil_of_le (by omega)] at e1
      rw [e1] at e2;simp at e2
     ·exact h
    have h1:=cut_skip (c.take o) (c.drop o) 0 0
    rw [Nat.add_zero,List.length_take,Nat.min_eq_left ol,List.take_append_drop] at h1
    show cut o 0 c=_
    rw [h1,cut_zero]
    cases c.drop o<;>rfl⟩⟩
  | cons x r =>
   refine ⟨.slice b (o+1 * 1) ((a::x::r).length - 1) ((a::x::r).length - 1) false,fun s=>slice_from 1 s b o _ _ 1 false (Nat.le_refl _) (by simp) (by simp),h1,o+1 * 1,c,sz,h2,.inl ⟨rfl,?_⟩⟩
   obtain ⟨e1,e2⟩:=cut_drop h4
   have ol:o+1≤c.length:=by
    have:=congrArg List.length e1
    rw [e2,List.length_take,List.length_drop] at this
    simp at this;omega
   have h1:=cut_skip (c.take (o+1)) (c.drop (o+1)) 0 (x::r).length
   rw [Nat.add_zero,List.length_take,Nat.min_eq_left ol,List.take_append_drop] at h1
   rw [Nat.one_mul,h1,cut_zero]
   have e3:c.drop (o+1)=arr (x::r)++(c.drop (o+1)).drop (x::r).length:=by
    have e4:(c.drop o).take (a::x::r).length=arr (a::x::r):=e1.symm
    have e5:(c.drop (o+1)).take (x::r).length=arr (x::r):=by
     have:=congrArg (List.drop 1) e4
     rw [List.drop_take,List.drop_drop] at this
     exact this
    rw [← e5,List.take_append_drop]
   rw [e3]
   have:=cut1_app (arr (x::r)) ((c.drop (o+1)).drop (x::r).length)
   rwa [arr_len] at this
 ·cases r with
  | nil=>exact ⟨.tail b (o+1 * 1),fun s=>rfl,h1,o+1 * 1,c,sz,h2,.inr (.inr ⟨rfl,rfl,by simpa using h4,h6⟩)⟩
  | cons x r =>
   refine ⟨.slice b (o+1 * 1) ((a::x::r).length - 1) ((a::x::r).length - 1) true,fun s=>slice_from 1 s b o _ _ 1 true (Nat.le_refl _) (by simp) (by simp),h1,o+1 * 1,c,sz,h2,.inr (.inl ⟨by simp,rfl,by simp at h4 ⊢;omega,?_,h6⟩)⟩
   have:=congrArg (List.drop 1) h5
   rw [List.drop_drop] at this
   exact this
 ·cases h4
end
theorem app_grow {s:St} {w bytes tg p sz:Nat} {row:List AV} (hp:s.h.get p=some (.cells row sz)) (hw:row.length=w) (hsc:scalars row=true) (x:AV):appendA false w bytes tg s x (.slice p 0 1 1 false)=growA w bytes tg 1 row s x:=by
 have e1:firstA w 1 s (.slice p 0 1 1 false)=some row:=by
  show (match s.h.get p with | some (.cells c _)=>Abs.cut 0 (1 * w) c | some (.fam c _ k _)=>Abs.cut 0 (1 * w) (c.take k) | _=>none)=some row
  rw [hp]
  simp only [Nat.one_mul]
  rw [cut_zero,← hw,cut1_all]
 show (match (some 1:Option Nat) with | none=>ARes.fail | some n=>match firstA w n s (.slice p 0 1 1 false) with | none=>.fail | some new=>match Nat.beq new.length (n * w) with | false=>.fail | true=>match scalars new with | true=>growA w bytes tg n new s x | false=>.fail)=_
 simp only [e1,hw,Nat.one_mul,Nat.beq_refl,hsc]
theorem QAt.push {s:St} {b:Nat} {q:List Nat} {v:AV} (a:QAt s.h s.n b q v) {x p sz:Nat} (hp:s.h.get p=some (.cells [.int .i64 (x:Int)] sz)) (hq:q.length≤1000) (hs:s.n+10≤far) :
  ∃ v' s',appendA false 1 8 (tag 3) s v (.slice p 0 1 1 false)=.val v' s'∧QAt s'.h s'.n s.n (q++[x]) v'∧s'.n=s.n+1∧(∀ c,c<s.n→c≠b→s'.h.get c=s.h.get c)∧min s.m b≤s'.m∧s'.m≤s.m:=by
 have hf:far=1000000000:=rfl
 obtain ⟨h1,o,c,sz,h2,h3⟩:=a
 have e0:Nat.ble (q.length+1) q.length=false:=by
  cases h:Nat.ble (q.length+1) q.length with
  | false=>rfl
  | true=>have:=Nat.le_of_ble_eq_true h;omega
 have e2:Nat.ble ((q.length+1) * 8) limit=true:=Nat.ble_eq_true_of_le (by unfold limit;omega)
 have ql:(q++[x]).length=q.length+1:=by simp
 have qa:arr (q++[x])=arr q++[.int .i64 (x:Int)]:=arr_app q [x]
 rw [app_grow (w:=1) (bytes:=8) (tg:=tag 3) hp rfl rfl v]
 rcases h3 with ⟨rfl,h4⟩ | ⟨h0,rfl,h4,h5,h6⟩ | ⟨rfl,rfl,h4,h5⟩
 ·refine ⟨.slice s.n 0 (q.length+1) (q.length+1) true,s.new (.cells (arr q++[.int .i64 (x:Int)]) (1+tag 3)),?_,⟨by rw [new_n];omega,0,_,_,get_new_eq _ _ _ rfl (by omega),.inr (.inl ⟨by simp,by rw [ql],by rw [← qa,arr_len,Nat.zero_add],by rw [qa];rfl,by kernel_rfl⟩)⟩,rfl,fun c hc _=>get_new_ne _ _ _ (by omega),by rw [new_m];omega,by rw [new_m];omega⟩
  unfold growA
  simp only [h2,e0,e2,Nat.mul_one,h4]
 ·refine ⟨.slice s.n 0 (q.length+1) (q.length+1) true,(s.kill b).new (.cells (arr q++[.int .i64 (x:Int)]) (if o=0∧sz=1+tag 3 then sz else 1)),?_,⟨by show s.n<s.n+1;omega,0,_,_,get_new_eq _ _ _ rfl (by show s.n<_;omega),.inr (.inl ⟨by simp,by rw [ql],by rw [← qa,arr_len,Nat.zero_add],by rw [qa];rfl,?_⟩)⟩,rfl,fun c hc hb=>?_,?_,?_⟩
  ·unfold growA
   simp only [h2,e0,e2,Nat.mul_one,h4,h5,h6,true_and,and_self,if_true]
  ·split
   ·exact h6
   ·kernel_rfl
  ·rw [get_new_ne _ _ _ (by show c≠s.n;omega),get_kill_ne _ _ _ hb]
  ·rw [new_m];simp only [St.kill,minN_eq];omega
  ·rw [new_m];simp only [St.kill,minN_eq];omega
 ·refine ⟨.slice s.n 0 1 1 true,(s.kill b).new (.cells [.int .i64 (x:Int)] 1),?_,⟨by show s.n<s.n+1;omega,0,_,_,get_new_eq _ _ _ rfl (by show s.n<_;omega),.inr (.inl ⟨by simp,rfl,rfl,rfl,by kernel_rfl⟩)⟩,rfl,fun c hc hb=>?_,?_,?_⟩
  ·have e3:Nat.ble (1 * 8) limit=true:=by kernel_rfl
   have e4:Nat.beq 1 0=false:=rfl
   unfold growA
   simp only [h2,e3,e4,h4,h5,and_self,if_true]
  ·rw [get_new_ne _ _ _ (by show c≠s.n;omega),get_kill_ne _ _ _ hb]
  ·rw [new_m];simp only [St.kill,minN_eq];omega
  ·rw [new_m];simp only [St.kill,minN_eq];omega
end Go.Proofs.Ythbhjgbpjlnbcaa.walk
set_option maxRecDepth 10000
namespace Go.Proofs.Ythbhjgbpjlnbcaa.walk
open Go.Abs Go.Proofs.Ythbhjgbpjlnbcaa.code
def applAt (l:Letting) (a:Nat):Appl:=l.appls.getD a ⟨0,0,[],[]⟩
theorem applAt_of {l:Letting} {a:Nat} (ha:a<l.appls.length):applAt l a=l.appls[a]:=applOf ha
theorem zip_fst:∀ {a b:List Int},b.length=a.length→(a.zip b).map Prod.fst=a
 | [],_,_=>rfl
 | x::a,[],h=>by simp at h
 | x::a,y::b,h=>by
  rw [List.zip_cons_cons,List.map_cons,zip_fst (by simpa using h)]
theorem reach_nodup {l:Letting} (ok:l.Ok) {a:Nat} (ha:a<l.appls.length):((reachOf l.stalls (applAt l a)).map Prod.fst).Nodup:=by
 have A:=ok.ap _ (List.getElem_mem ha)
 rw [applAt_of ha]
 unfold reachOf
 have h1:((l.appls[a].wishes.zip l.appls[a].bids).filter (can l.stalls)).map Prod.fst |>.Sublist ((l.appls[a].wishes.zip l.appls[a].bids).map Prod.fst):=List.filter_sublist.map _
 rw [zip_fst A.bl] at h1
 exact A.nd.sublist h1
theorem nodup_toNat:∀ {l:List Int},(∀ x ∈ l,0≤x)→l.Nodup→(l.map Int.toNat).Nodup
 | [],_,_=>List.nodup_nil
 | x::l,h,hd=>by
  obtain ⟨h1,h2⟩:=List.nodup_cons.mp hd
  rw [List.map_cons]
  refine List.nodup_cons.mpr ⟨fun hm=>?_,nodup_toNat (fun y hy=>h y (List.mem_cons_of_mem _ hy)) h2⟩
  obtain ⟨y,y1,y2⟩:=List.mem_map.mp hm
  have a1:=h y (List.mem_cons_of_mem _ y1)
  have a2:=h x (List.mem_cons_self ..)
  exact h1 (by rw [show x=y by omega];exact y1)
theorem bidOf_iff (st:Int):∀ T:List (Int × Int),(bidOf st T).2=true↔∃ x ∈ T,x.1=st
 | []=>by simp [bidOf]
 | x::T=>by
  unfold bidOf
  by_cases h:x.1=st
  ·rw [if_pos h];simp [h]
  ·rw [if_neg h,bidOf_iff st T];simp [h]
end Go.Proofs.Ythbhjgbpjlnbcaa.walk
set_option maxRecDepth 10000
namespace Go.Proofs.Ythbhjgbpjlnbcaa.walk
open Go.Abs Go.Proofs.Ythbhjgbpjlnbcaa.code
theorem idx_at {l:List Int} {x:Int} {i:Nat} (hi:i<l.length) (hx:l[i]=x) (h:∀ y ∈ l.take i,y≠x):l.idxOf x=i:=by
 have e:l=l.take i++l[i]::l.drop (i+1):=(take_split hi).symm
 have hn:x ∉ l.take i:=fun hm=>h x hm rfl
 rw [e,List.idxOf_append,if_neg hn,hx,List.idxOf_cons_self,List.length_take]
 omega
end Go.Proofs.Ythbhjgbpjlnbcaa.walk
set_option maxRecDepth 10000
namespace Go.Proofs.Ythbhjgbpjlnbcaa.walk
open Go.Abs Go.Proofs.Ythbhjgbpjlnbcaa.code
def hcell (hs:List Int):List AV:=(intRows hs).flatten
theorem hcell_wide (hs:List Int):∀ r ∈ intRows hs,r.length=1:=fun r hr=>by
 unfold intRows at hr
 obtain ⟨x,_,rfl⟩:=List.mem_map.mp hr
 rfl
theorem hcell_nth {hs:List Int} {i:Nat} (h:i<hs.length):nth (hcell hs) i=.int .i64 (hs.getD i (-1)):=by
 have h2:i<(intRows hs).length:=by unfold intRows;rw [List.length_map];exact h
 have:=flatten_cut (hcell_wide hs) h2
 rw [Nat.mul_one] at this
 refine cut1_nth (this.trans ?_)
 have e:∀ (l:List (List AV)) (e:l=hs.map fun x=>[.int .i64 x]) (hi:i<l.length),l[i]=[.int .i64 (hs.getD i (-1))]:=fun l e hi=>by subst e;simp [List.getD,h]
 exact congrArg some (e _ rfl h2)
theorem hcell_over {hs:List Int} {i:Nat} (h:i<hs.length) (x:Int):over i [.int .i64 x] (hcell hs)=some (hcell (hs.set i x)):=by
 have h2:i<(intRows hs).length:=by unfold intRows;rw [List.length_map];exact h
 have:=over_flatten (row:=[.int .i64 x]) (hcell_wide hs) h2 rfl
 rw [Nat.mul_one] at this
 unfold hcell
 rw [this]
 congr 2
 unfold intRows
 rw [List.map_set]
structure Dis (lb pr ph bh pw p8 b:Nat):Prop where
 l5:pr≠lb
 l6:ph≠lb
 lh:bh≠lb
 lw:pw≠lb
 l8:p8≠lb
 ll:b≠lb
 h5:pr≠bh
 h6:ph≠bh
 h8:p8≠bh
 w5:pr≠pw
 w6:ph≠pw
 wh:bh≠pw
 w8:p8≠pw
 b5:pr≠b
 b6:ph≠b
 bh':bh≠b
 bw:pw≠b
 b8:p8≠b
end Go.Proofs.Ythbhjgbpjlnbcaa.walk
set_option maxRecDepth 10000
namespace Go.Proofs.Ythbhjgbpjlnbcaa.walk
open Go.Abs Go.Proofs.Ythbhjgbpjlnbcaa.code
def holdF (hs:List Int):Nat→Int:=fun s=>hs.getD s (-1)
structure OfferB (no na:Nat→Prop) (w:St) (u0 nr bm pr bh ph b0 pw z5 z6:Nat) (l:Letting) (vS vA vr:AV):Prop where
 box:w.h.get u0=some (.cells [vS,vA] (tag 28))
 lt:LetAt no na w.h u0 l vS vA
 g5:w.h.get pr=some (.cells [vr] z5)
 rk:RkS w.h nr bm (u0+1) l l.stalls.length vr
 rb:bm<nr→u0+1≤bm
 g6:w.h.get ph=some (.cells [.slice bh 0 l.stalls.length l.stalls.length false] z6)
 o0:u0<pr
 o1:nr≤pr
 o2:pr<bh
 o3:bh<ph
 o4:ph<b0
 o5:b0<pw
 o6:pw<w.n
structure OfferJ (w t:St) (u0 bh b0 pw zh z7:Nat) (l:Letting) (hs:List Int) (q:List Nat) (d:List Nat) (kk:Nat):Prop where
 gh:t.h.get bh=some (.cells (hcell hs) zh)
 hk:hs.length=l.stalls.length
 qu:∃ vq b,t.h.get pw=some (.cells [vq] z7)∧QAt t.h t.n b q vq∧(b=b0∨w.n≤b)
 same:∀ c,c<w.n→c≠bh→c≠pw→c≠b0→t.h.get c=w.h.get c
 n:w.n≤t.n
 le:t.n≤w.n+kk
 m:u0≤t.m
 ml:t.m≤far
 dd:∀ c ∈ d,w.n≤c∧c<t.n∧t.h.get c=some .dfr
 dn:d.Nodup
end Go.Proofs.Ythbhjgbpjlnbcaa.walk
set_option maxRecDepth 10000
namespace Go.Proofs.Ythbhjgbpjlnbcaa.walk
open Go.Abs Go.Proofs.Ythbhjgbpjlnbcaa.code
structure ValidH (l:Letting) (hs:List Int):Prop where
 len:hs.length=l.stalls.length
 can:∀ s (h:s<hs.length),hs[s] = -1∨∃ a:Nat,hs[s]=a∧a<l.appls.length∧canI l s a=true
 once:∀ s t (h:s<hs.length) (h':t<hs.length),hs[s]=hs[t]→hs[s] ≠ -1→s=t
end Go.Proofs.Ythbhjgbpjlnbcaa.walk
