/- Lists that grow; parts of lists; picks. -/
import Derived.Test.YtbcjojljiochfaaM1
import Derived.Test.YtbcjojljiochfaaCodes
import Derived.Test.YtbcjojljiochfaaWalkAll
set_option linter.unusedSimpArgs false
set_option maxHeartbeats 16000000
set_option linter.unusedVariables false
set_option maxRecDepth 10000
namespace Go.Abs
structure IsAt (h:Heap) (n b w tg:Nat) (rows:List (List AV)) (v:AV):Prop where
 wide:∀ r ∈ rows,r.length=w
 is:(rows=[]∧v=.nilslice)∨(rows≠[]∧b<n∧v=.slice b 0 rows.length rows.length true∧h.get b=some (.cells rows.flatten (w+tg)))
theorem IsAt.nil (h:Heap) (n b w tg:Nat):IsAt h n b w tg [] .nilslice:=⟨fun _ hr=>(by cases hr),.inl ⟨rfl,rfl⟩⟩
theorem IsAt.mono {h h':Heap} {n n' b w tg:Nat} {rows:List (List AV)} {v:AV} (r:IsAt h n b w tg rows v) (hh:b<n→h'.get b=h.get b) (hn:n≤n'):IsAt h' n' b w tg rows v :=
 ⟨r.wide,r.is.imp id fun ⟨h1,h2,h3,h4⟩=>⟨h1,by omega,h3,by rw [hh h2];exact h4⟩⟩
theorem IsAt.rows {h:Heap} {n b w tg:Nat} {rows:List (List AV)} {v:AV} (r:IsAt h n b w tg rows v):Rows h 0 n w tg rows v :=
 ⟨r.wide,r.is.imp id fun ⟨_,h2,h3,h4⟩=>⟨b,Nat.zero_le _,h2,h3,h4⟩⟩
theorem IsAt.okA {h:Heap} {n b w tg:Nat} {rows:List (List AV)} {v:AV} (r:IsAt h n b w tg rows v) (t:St):Abs.okA (.val v t)=.val v t:=okA_ne r.rows.at_.ne
theorem IsAt.scal {h:Heap} {n b w tg:Nat} {rows:List (List AV)} {v:AV} (r:IsAt h n b w tg rows v):scalars [v]=true∧cellsOf 1 v=some [v]:=by
 rcases r.is with ⟨_,h2⟩ | ⟨_,_,h3,_⟩
 ·subst h2;exact ⟨rfl,rfl⟩
 ·subst h3;exact ⟨rfl,rfl⟩
theorem append_at {s:St} {b w bytes tg:Nat} {rows:List (List AV)} {v:AV} (r:IsAt s.h s.n b w tg rows v) {p sz:Nat} {row:List AV} (hp:s.h.get p=some (.cells row sz)) (hw:row.length=w) (hsc:scalars row=true)
  (hb:(rows.length+1) * bytes≤1000000) (htg:szOf (w+tg)=w) (hs:s.n<549755813888) :
  ∃ s',appendA false w bytes tg s v (.slice p 0 1 1 false)=.val (.slice s.n 0 (rows.length+1) (rows.length+1) true) s'∧IsAt s'.h s'.n s.n w tg (rows++[row]) (.slice s.n 0 (rows.length+1) (rows.length+1) true)∧s'.n=s.n+1∧(∀ c,c<s.n→c≠b→s'.h.get c=s.h.get c)∧(∀ k,k≤b→k≤s.n→k≤s.m→k≤s'.m)∧s'.m≤s.m:=by
 rcases r.is with ⟨h1,h2⟩ | ⟨h1,h2,h3,h4⟩
 ·obtain ⟨v',s',e1,e2,e3,e4,e5,e6,e7,e8⟩:=append_row (lo:=s.n) (bytes:=bytes) (⟨r.wide,.inl ⟨h1,h2⟩⟩:Rows s.h s.n s.n w tg rows v) hp hw hsc hb htg hs (Nat.le_refl _)
  subst e8
  refine ⟨s',e1,⟨e2.wide,.inr ⟨by simp,by omega,by simp,?_⟩⟩,e3,fun c hc _=>e4 c hc,fun k _ hk hm=>e6 k hk hm,e7⟩
  rcases e2.is with ⟨z,_⟩ | ⟨b',_,_,z2,z3⟩
  ·simp at z
  ·injection z2 with z2
   rw [z2];exact z3
 ·obtain ⟨v',s',e1,e2,e3,e4,e5,e6,e7,e8⟩:=append_row (lo:=b) (bytes:=bytes) (⟨r.wide,.inr ⟨b,Nat.le_refl _,h2,h3,h4⟩⟩:Rows s.h b s.n w tg rows v) hp hw hsc hb htg hs (by omega)
  subst e8
  refine ⟨s',e1,⟨e2.wide,.inr ⟨by simp,by omega,by simp,?_⟩⟩,e3,fun c hc hcb=>e5 c hc (by rw [h3];intro z;injection z with z;exact hcb z.symm),fun k hk _ hm=>e6 k hk hm,e7⟩
  rcases e2.is with ⟨z,_⟩ | ⟨b',_,_,z2,z3⟩
  ·simp at z
  ·injection z2 with z2
   rw [z2];exact z3
theorem kSlice_def (f:Option AV→Option AV→St→AV→ARes) (x:Arg) (lo hi:Option Arg) (L:Env) (s:St):kSlice f x lo hi L s=f (optEv lo L) (optEv hi L) s (x.ev L):=rfl
theorem optEv_some (a:Arg) (L:Env):optEv (some a) L=some (a.ev L):=rfl
theorem optEv_none (L:Env):optEv none L=none:=rfl
theorem boundA_nat (y i:Nat) (k:IntKind) (h:i≤y):boundA y (.int k (i:Int))=some i:=by
 show (match Nat.ble i y with | true=>some i | false=>none)=_
 rw [Nat.ble_eq_true_of_le h]
theorem slice_from (w:Nat) (s:St) (b o n c i:Nat) (e:Bool) (h:n≤c) (hi:i≤n) (hc:i<c):sliceVal w (some (.int .i64 (i:Int))) none s (.slice b o n c e)=.val (.slice b (o+i * w) (n - i) (c - i) e) s:=by
 have e1:boundsA n c (some (.int .i64 (i:Int))) none=some (i,n):=by
  unfold boundsA hiA loA
  simp only [boundA_nat _ _ _ hi]
 have e2:Nat.beq c i=false:=nbeq_f (by omega)
 unfold sliceVal
 simp only [Nat.ble_eq_true_of_le h,e1,e2]
theorem slice_to (w:Nat) (s:St) (b o n c i:Nat) (e:Bool) (h:n≤c) (hi:i≤c) (hc:0<c):sliceVal w none (some (.int .i64 (i:Int))) s (.slice b o n c e)=.val (.slice b o i c e) s:=by
 have e1:boundsA n c none (some (.int .i64 (i:Int)))=some (0,i):=by
  unfold boundsA hiA loA
  simp only [boundA_nat _ _ _ hi]
 have e2:Nat.beq c 0=false:=nbeq_f (by omega)
 unfold sliceVal
 simp only [Nat.ble_eq_true_of_le h,e1,e2,Nat.zero_mul,Nat.add_zero,Nat.sub_zero]
theorem nth_skip:∀ (a l:List AV) (k:Nat),nth (a++l) (a.length+k)=nth l k
 | [],l,k=>by rw [List.length_nil,Nat.zero_add,List.nil_append]
 | x::a,l,k=>by rw [List.length_cons,List.cons_append,show a.length+1+k=(a.length+k)+1 by omega,nth_cons,if_neg (by omega)];exact nth_skip a l k
theorem nth_front:∀ (R l:List AV) (k:Nat),k<R.length→nth (R++l) k=nth R k
 | [],l,k,h=>by simp at h
 | x::R,l,0,h=>rfl
 | x::R,l,k+1,h=>by rw [List.cons_append,nth_cons,nth_cons,if_neg (by omega),if_neg (by omega),Nat.add_sub_cancel];exact nth_front R l k (by simpa using h)
theorem cut_nth {o k i:Nat} {c r:List AV} (h:cut o k c=some r) (hi:i<k):nth c (o+i)=nth r i:=by
 obtain ⟨a,t,q1,q2,q3⟩:=cut_some h
 rw [q1,← q2,List.append_assoc,nth_skip,nth_front _ _ _ (by omega)]
theorem scal_ln {s:St} {v w:AV} (h:lenSlA s v=.val w s):v.scalar=true:=by cases v<;>first | rfl | cases h
end Go.Abs
namespace Go.Proofs.Ytbcjojljiochfaa.walk
open Go.Abs
def intRows (l:List Int):List (List AV):=l.map fun x=>[.int .i64 x]
theorem intRows_len (l:List Int):(intRows l).length=l.length:=List.length_map ..
theorem intRows_snoc (l:List Int) (x:Int):intRows (l++[x])=intRows l++[[.int .i64 x]]:=by unfold intRows;rw [List.map_append];rfl
theorem intRow_at {h:Heap} {n:Nat} {l:List Int} {v:AV} (r:RowsAt h n 1 (intRows l) v) {i:Nat} (hi:i<l.length):∃ b p c sz,b<n∧(∀ s,ixsA 1 s v (.int .i64 i)=.val (.ptr b p) s)∧h.get b=some (.cells c sz)∧nth c p=.int .i64 (l.getD i 0):=by
 obtain ⟨b,p,c,sz,h1,h2,h3,h4⟩:=r.at_ i (by rw [intRows_len];exact hi)
 have e:(intRows l)[i]'(by rw [intRows_len];exact hi)=[.int .i64 (l.getD i 0)]:=by simp [intRows,List.getD,hi]
 rw [e] at h4
 exact ⟨b,p,c,sz,h1,h2,h3,cut1_nth h4⟩
def LAt (h:Heap) (n bl:Nat) (l:List Int) (v:AV):Prop:=∃ x,x≠bl∧IsAt h n x 1 (tag 3) (intRows l) v
theorem LAt.nil (h:Heap) (n bl:Nat):LAt h n bl [] .nilslice:=⟨bl+1,by omega,IsAt.nil _ _ _ _ _⟩
theorem LAt.move {h h':Heap} {n n' bl bl':Nat} {l:List Int} {v:AV} (a:LAt h n bl l v) (hh:∀ c,c<n→c≠bl→h'.get c=h.get c) (hn:n≤n') (hb:bl'=bl∨n≤bl'):LAt h' n' bl' l v:=by
 obtain ⟨x,h1,h2⟩:=a
 rcases h2.is with ⟨h3,h4⟩ | ⟨_,h3,_⟩
 ·exact ⟨bl'+1,by omega,h2.wide,.inl ⟨h3,h4⟩⟩
 ·exact ⟨x,by omega,h2.mono (fun _=>hh x h3 h1) hn⟩
theorem LAt.rows {h:Heap} {n bl:Nat} {l:List Int} {v:AV} (a:LAt h n bl l v):RowsAt h n 1 (intRows l) v:=by obtain ⟨x,_,h⟩:=a;exact h.rows.at_
def pickL:Nat→Nat→List Nat→List Nat
 | 0,_,_=>[]
 | m+1,T,l=>l.getD (T % l.length) 0::pickL m (T / l.length) (l.eraseIdx (T % l.length))
theorem pickL_len:∀ (m T:Nat) (l:List Nat),(pickL m T l).length=m
 | 0,_,_=>rfl
 | m+1,T,l=>by unfold pickL;rw [List.length_cons,pickL_len m]
theorem getElem_inj {l:List Nat} (hd:l.Nodup):∀ {i j:Nat} (hi:i<l.length) (hj:j<l.length),l[i]=l[j]→i=j:=by
 intro i j hi hj h
 have key:=List.pairwise_iff_getElem.mp hd
 rcases Nat.lt_trichotomy i j with c | c | c
 ·exact absurd h (key i j hi hj c)
 ·exact c
 ·exact absurd h.symm (key j i hj hi c)
end Go.Proofs.Ytbcjojljiochfaa.walk
set_option maxRecDepth 10000
namespace Go.Abs
structure Sl (no:Nat→Prop) (h:Heap) (n w:Nat) (rows:List (List AV)) (v:AV):Prop where
 wide:∀ r ∈ rows,r.length=w
 is:(rows=[]∧v=.nilslice)∨∃ b o cap e c sz,b<n∧no b∧(rows.length≤cap∧(e=true→0<cap))∧v=.slice b o rows.length cap e∧h.get b=some (.cells c sz)∧cut o (rows.length * w) c=some rows.flatten
theorem Sl.nil (no:Nat→Prop) (h:Heap) (n w:Nat):Sl no h n w [] .nilslice:=⟨fun _ hr=>(by cases hr),.inl ⟨rfl,rfl⟩⟩
theorem Sl.seq {no:Nat→Prop} {h:Heap} {n w:Nat} {rows:List (List AV)} {v:AV} (r:Sl no h n w rows v):Seq h n w rows v :=
 ⟨r.wide,r.is.imp id fun ⟨b,o,cap,e,c,sz,h1,_,_,h4,h5,h6⟩=>⟨b,o,cap,e,c,sz,h1,h4,h5,h6⟩⟩
theorem Sl.at_ {no:Nat→Prop} {h:Heap} {n w:Nat} {rows:List (List AV)} {v:AV} (r:Sl no h n w rows v):RowsAt h n w rows v:=r.seq.at_
theorem Sl.okA {no:Nat→Prop} {h:Heap} {n w:Nat} {rows:List (List AV)} {v:AV} (r:Sl no h n w rows v) (t:St):Abs.okA (.val v t)=.val v t:=okA_ne r.at_.ne
theorem Sl.len {no:Nat→Prop} {h:Heap} {n w:Nat} {rows:List (List AV)} {v:AV} (r:Sl no h n w rows v) (s:St):lenSlA s v=.val (.int .i64 rows.length) s:=r.at_.len s
theorem Sl.move {no no':Nat→Prop} {h h':Heap} {n n' w:Nat} {rows:List (List AV)} {v:AV} (r:Sl no h n w rows v) (hh:∀ b,b<n→no b→h'.get b=h.get b∧no' b) (hn:n≤n'):Sl no' h' n' w rows v :=
 ⟨r.wide,r.is.imp id fun ⟨b,o,cap,e,c,sz,h1,h2,h3,h4,h5,h6⟩=>⟨b,o,cap,e,c,sz,by omega,(hh b h1 h2).2,h3,h4,by rw [(hh b h1 h2).1];exact h5,h6⟩⟩
theorem Sl.grow {no:Nat→Prop} {h h':Heap} {n n' w:Nat} {rows:List (List AV)} {v:AV} (r:Sl no h n w rows v) (hh:∀ b,b<n→h'.get b=h.get b) (hn:n≤n'):Sl no h' n' w rows v:=r.move (fun b h1 h2=>⟨hh b h1,h2⟩) hn
theorem Sl.scal {no:Nat→Prop} {h:Heap} {n w:Nat} {rows:List (List AV)} {v:AV} (r:Sl no h n w rows v):scalars [v]=true∧cellsOf 1 v=some [v]∧∀ l,scalars (v::l)=scalars l:=by
 rcases r.is with ⟨_,h2⟩ | ⟨b,o,cap,e,c,sz,_,_,_,h2,_⟩<;>subst h2<;>exact ⟨rfl,rfl,fun _=>rfl⟩
theorem Sl.kept {no:Nat→Prop} {h h':Heap} {n w:Nat} {rows:List (List AV)} {v:AV} (r:Sl no h n w rows v) (hh:∀ b,b<n→no b→h'.get b=h.get b):keptV h h' v=true:=by
 rcases r.is with ⟨_,h2⟩ | ⟨b,o,cap,e,c,sz,h1,h3,_,h2,h4,_⟩
 ·subst h2;rfl
 ·subst h2;rw [keptV_slice,hh b h1 h3,h4,sameO_cells]
theorem Sl.apart {no:Nat→Prop} {h:Heap} {n w c p:Nat} {rows:List (List AV)} {v:AV} (r:Sl no h n w rows v) (hc:¬ no c):apartA v (.ptr c p)=true:=by
 rcases r.is with ⟨_,h2⟩ | ⟨b,o,cap,e,q,sz,h1,h3,_,h2,h4,_⟩
 ·subst h2;rfl
 ·subst h2;exact apart_slice (fun e=>hc (e▸h3))
theorem take_snoc {α:Type} {l:List α} {i:Nat} (h:i<l.length):l.take (i+1)=l.take i++[l[i]]:=by rw [List.take_add_one];simp [h]
theorem Sl.get {no:Nat→Prop} {h:Heap} {n w:Nat} {rows:List (List AV)} {v:AV} (r:Sl no h n w rows v) {i:Nat} (hi:i<rows.length):∃ b p c sz,b<n∧no b∧(∀ s,ixsA w s v (.int .i64 (i:Int))=.val (.ptr b p) s)∧h.get b=some (.cells c sz)∧Abs.cut p w c=some rows[i]:=by
 rcases r.is with ⟨h1,_⟩ | ⟨b,o,cap,e,c,sz,h1,h2,h3,h4,h5,h6⟩
 ·subst h1;simp at hi
 ·subst h4
  exact ⟨b,o+i * w,c,sz,h1,h2,fun s=>ixs_slice _ _ _ _ _ _ _ _ hi,h5,cut_cut h6 (flatten_cut r.wide hi)⟩
theorem flatten_take {w:Nat}:∀ {rows:List (List AV)} {i:Nat},(∀ r ∈ rows,r.length=w)→i≤rows.length→(rows.take i).flatten=rows.flatten.take (i * w)
 | [],i,_,h=>by simp at h;subst h;simp
 | r::rs,0,_,_=>by simp
 | r::rs,i+1,hw,h=>by
  have h1:=hw r (List.mem_cons_self ..)
  rw [List.take_succ_cons,List.flatten_cons,List.flatten_cons,flatten_take (fun x hx=>hw x (List.mem_cons_of_mem _ hx)) (by simpa using h),show (i+1) * w=r.length+i * w by rw [h1,Nat.succ_mul];omega,List.take_length_add_append]
theorem cut_less {o k j:Nat} {c F:List AV} (h:cut o k c=some F) (hj:j≤k):cut o j c=some (F.take j):=by
 obtain ⟨a,t,h3,h4,h5⟩:=cut_some h
 have e:F=F.take j++F.drop j:=(List.take_append_drop j F).symm
 have l:(F.take j).length=j:=by rw [List.length_take];omega
 rw [h3,← h4,List.append_assoc]
 have:=cut_skip a (F++t) 0 j
 rw [Nat.add_zero] at this
 rw [this,cut_zero]
 conv=>lhs;rw [e,List.append_assoc]
 have h6:=cut1_app (F.take j) (F.drop j++t)
 rw [l] at h6
 exact h6
theorem Sl.to {no:Nat→Prop} {h:Heap} {n w i:Nat} {rows:List (List AV)} {v:AV} (r:Sl no h n w rows v) (hi:i≤rows.length):∃ v',(∀ s,sliceVal w none (some (.int .i64 (i:Int))) s v=.val v' s)∧Sl no h n w (rows.take i) v':=by
 have wd:∀ x ∈ rows.take i,x.length=w:=fun x hx=>r.wide x (List.mem_of_mem_take hx)
 rcases r.is with ⟨h1,h2⟩ | ⟨b,o,cap,e,c,sz,q1,q2,q3,q4,q5,q6⟩
 ·subst h1;subst h2
  have:i=0:=by simpa using hi
  subst this
  exact ⟨.nilslice,fun s=>rfl,wd,.inl ⟨rfl,rfl⟩⟩
 ·subst q4
  have ln:(rows.take i).length=i:=by rw [List.length_take];omega
  have e1:boundsA rows.length cap none (some (.int .i64 (i:Int)))=some (0,i):=by
   unfold boundsA hiA loA
   simp only [boundA_nat _ _ _ (by have:=q3.1;omega:i≤cap)]
  have q7:cut o (i * w) c=some (rows.take i).flatten:=by
   rw [flatten_take r.wide hi]
   exact cut_less q6 (Nat.mul_le_mul_right _ hi)
  by_cases hc:cap=0
  ·subst hc
   have hr:rows=[]:=List.length_eq_zero_iff.mp (by have:=q3.1;omega)
   subst hr
   have:i=0:=by simpa using hi
   subst this
   cases e with
   | false =>
    refine ⟨.slice b o (0 - 0) 0 false,fun s=>?_,wd,.inr ⟨b,o,0,false,c,sz,q1,q2,⟨by simp,fun h=>(by cases h)⟩,by simp,q5,q6⟩⟩
    unfold sliceVal
    simp only [Nat.ble_eq_true_of_le q3.1,e1,Nat.zero_mul,Nat.add_zero]
    rfl
   | true=>exact absurd (q3.2 rfl) (Nat.lt_irrefl 0)
  ·refine ⟨.slice b o i cap e,fun s=>?_,wd,.inr ⟨b,o,cap,e,c,sz,q1,q2,⟨by have:=q3.1;omega,q3.2⟩,by rw [ln],q5,by rw [ln];exact q7⟩⟩
   unfold sliceVal
   simp only [Nat.ble_eq_true_of_le q3.1,e1,nbeq_f hc,Nat.zero_mul,Nat.add_zero,Nat.sub_zero]
theorem Sl.of_blk {no:Nat→Prop} {h:Heap} {n b w tg:Nat} {rows:List (List AV)} {v:AV} (r:Blk h n b w tg rows v) (hb:no b) (h0:rows≠[]):Sl no h n w rows v:=by
 obtain ⟨e,sz,h1,h2,h3,h4⟩:=r.is
 exact ⟨r.wide,.inr ⟨b,0,rows.length,e,_,sz,h2,hb,⟨Nat.le_refl _,fun _=>List.length_pos_iff.mpr h0⟩,h1,h3,by rw [cut_zero,← flatten_len r.wide,cut1_all]⟩⟩
theorem Sl.of_at {no:Nat→Prop} {h:Heap} {n b w tg:Nat} {rows:List (List AV)} {v:AV} (r:IsAt h n b w tg rows v) (hb:b<n→no b):Sl no h n w rows v:=by
 rcases r.is with ⟨h1,h2⟩ | ⟨h1,h2,h3,h4⟩
 ·exact ⟨r.wide,.inl ⟨h1,h2⟩⟩
 ·exact ⟨r.wide,.inr ⟨b,0,rows.length,true,_,_,h2,hb h2,⟨Nat.le_refl _,fun _=>List.length_pos_iff.mpr h1⟩,h3,h4,by rw [cut_zero,← flatten_len r.wide,cut1_all]⟩⟩
end Go.Abs
set_option maxRecDepth 10000
namespace Go.Proofs.Ytbcjojljiochfaa.walk
open Go.Abs Go.Proofs.Ytbcjojljiochfaa.code
structure StallR where (rule least heir:Int)
def StallR.cells (s:StallR):List AV:=[.int .i64 s.rule,.int .i64 s.least,.int .i64 s.heir]
structure Appl where
 (years token:Int)
 (wishes bids:List Int)
structure Letting where
 stalls:List StallR
 appls:List Appl
structure StallR.Ok (m:Nat) (s:StallR):Prop where
 r0:1≤s.rule
 r1:s.rule≤3
 l0:0≤s.least
 l1:s.least≤1000
 h0 : -1≤s.heir
 h1:s.heir<m
structure Appl.Ok (k:Nat) (a:Appl):Prop where
 y0:0≤a.years
 y1:a.years≤60
 t0:0≤a.token
 t1:a.token≤1000000000
 w:∀ x ∈ a.wishes,0≤x∧x<k
 nd:a.wishes.Nodup
 wl:a.wishes.length≤8
 bl:a.bids.length=a.wishes.length
 b:∀ x ∈ a.bids,0≤x∧x≤1000000
structure Letting.Ok (l:Letting):Prop where
 k0:1≤l.stalls.length
 k1:l.stalls.length≤8
 m1:l.appls.length≤8
 st:∀ s ∈ l.stalls,s.Ok l.appls.length
 ap:∀ a ∈ l.appls,a.Ok l.stalls.length
def Appl.row (a:Appl) (w:AV × AV):List AV:=[.int .i64 a.years,.int .i64 a.token,w.1,w.2]
def rowsOf (l:List Appl) (ws:List (AV × AV)):List (List AV):=List.zipWith Appl.row l ws
theorem rowsOf_len {l:List Appl} {ws:List (AV × AV)} (h:ws.length=l.length):(rowsOf l ws).length=l.length:=by unfold rowsOf;rw [List.length_zipWith,h,Nat.min_self]
structure LetAt (no na:Nat→Prop) (h:Heap) (n:Nat) (l:Letting) (vS vA:AV):Prop where
 st:Sl no h n 3 (l.stalls.map StallR.cells) vS
 ap:∃ ws:List (AV × AV),ws.length=l.appls.length∧Sl na h n 4 (rowsOf l.appls ws) vA∧∀ i (h1:i<ws.length) (h2:i<l.appls.length),Sl no h n 1 (intRows l.appls[i].wishes) ws[i].1∧Sl no h n 1 (intRows l.appls[i].bids) ws[i].2
abbrev letV (vS vA:AV):List AV:=[vS,vA]
section
variable {no na no' na':Nat→Prop} {h h':Heap} {n n':Nat} {l:Letting} {vS vA:AV}
theorem LetAt.move (r:LetAt no na h n l vS vA) (hh:∀ b,b<n→no b→h'.get b=h.get b∧no' b) (ha:∀ b,b<n→na b→h'.get b=h.get b∧na' b) (hn:n≤n'):LetAt no' na' h' n' l vS vA:=by
 obtain ⟨s,ws,q1,q2,q3⟩:=r
 exact ⟨s.move hh hn,ws,q1,q2.move ha hn,fun i h1 h2=>⟨(q3 i h1 h2).1.move hh hn,(q3 i h1 h2).2.move hh hn⟩⟩
theorem LetAt.grow (r:LetAt no na h n l vS vA) (hh:∀ b,b<n→h'.get b=h.get b) (hn:n≤n'):LetAt no na h' n' l vS vA:=r.move (fun b h1 h2=>⟨hh b h1,h2⟩) (fun b h1 h2=>⟨hh b h1,h2⟩) hn
theorem LetAt.lenS (r:LetAt no na h n l vS vA) (s:St):lenSlA s vS=.val (.int .i64 l.stalls.length) s:=by have:=r.st.len s;rwa [List.length_map] at this
theorem LetAt.lenA (r:LetAt no na h n l vS vA) (s:St):lenSlA s vA=.val (.int .i64 l.appls.length) s:=by
 obtain ⟨_,ws,q1,q2,q3⟩:=r
 have:=q2.len s
 rwa [rowsOf_len q1] at this
theorem LetAt.okS (r:LetAt no na h n l vS vA) (t:St):okA (.val vS t)=.val vS t:=r.st.okA t
theorem LetAt.okV (r:LetAt no na h n l vS vA) (t:St):okA (.val vA t)=.val vA t:=by obtain ⟨_,ws,q1,q2,q3⟩:=r;exact q2.okA t
theorem LetAt.scal (r:LetAt no na h n l vS vA):scalars [vS,vA]=true:=by
 obtain ⟨s,ws,q1,q2,q3⟩:=r
 rw [s.scal.2.2]
 exact q2.scal.1
theorem LetAt.getA (r:LetAt no na h n l vS vA) {i:Nat} (hi:i<l.appls.length):∃ (w:AV × AV) (b p:Nat) (c:List AV) (sz:Nat),b<n∧(∀ s,ixsA 4 s vA (.int .i64 (i:Int))=.val (.ptr b p) s)∧h.get b=some (.cells c sz)∧cut p 4 c=some [.int .i64 l.appls[i].years,.int .i64 l.appls[i].token,w.1,w.2]∧Sl no h n 1 (intRows l.appls[i].wishes) w.1∧Sl no h n 1 (intRows l.appls[i].bids) w.2:=by
 obtain ⟨s,ws,q1,q2,q3⟩:=r
 have hw:i<ws.length:=by omega
 obtain ⟨b,p,c,sz,z1,z2,z3,z4⟩:=q2.at_.at_ i (by rw [rowsOf_len q1];exact hi)
 have e:(rowsOf l.appls ws)[i]'(by rw [rowsOf_len q1];exact hi)=l.appls[i].row ws[i]:=by unfold rowsOf;exact List.getElem_zipWith ..
 rw [e] at z4
 exact ⟨ws[i],b,p,c,sz,z1,z2,z3,z4,q3 i hw hi⟩
theorem LetAt.getS (r:LetAt no na h n l vS vA) {i:Nat} (hi:i<l.stalls.length):∃ (b p:Nat) (c:List AV) (sz:Nat),b<n∧(∀ s,ixsA 3 s vS (.int .i64 (i:Int))=.val (.ptr b p) s)∧h.get b=some (.cells c sz)∧cut p 3 c=some [.int .i64 l.stalls[i].rule,.int .i64 l.stalls[i].least,.int .i64 l.stalls[i].heir]:=by
 obtain ⟨b,p,c,sz,z1,z2,z3,z4⟩:=r.st.at_.at_ i (by rw [List.length_map];exact hi)
 rw [List.getElem_map] at z4
 exact ⟨b,p,c,sz,z1,z2,z3,z4⟩
theorem LetAt.getA2 (r:LetAt no na h n l vS vA) {i:Nat} (hi:i<l.appls.length):∃ (w:AV × AV) (b p:Nat) (c:List AV) (sz:Nat),(b<n∧na b)∧(∀ s,ixsA 4 s vA (.int .i64 (i:Int))=.val (.ptr b p) s)∧h.get b=some (.cells c sz)∧cut p 4 c=some [.int .i64 l.appls[i].years,.int .i64 l.appls[i].token,w.1,w.2]∧Sl no h n 1 (intRows l.appls[i].wishes) w.1∧Sl no h n 1 (intRows l.appls[i].bids) w.2:=by
 obtain ⟨s,ws,q1,q2,q3⟩:=r
 have hw:i<ws.length:=by omega
 obtain ⟨b,p,c,sz,z1,z0,z2,z3,z4⟩:=q2.get (i:=i) (by rw [rowsOf_len q1];exact hi)
 have e:(rowsOf l.appls ws)[i]'(by rw [rowsOf_len q1];exact hi)=l.appls[i].row ws[i]:=by unfold rowsOf;exact List.getElem_zipWith ..
 rw [e] at z4
 exact ⟨ws[i],b,p,c,sz,⟨z1,z0⟩,z2,z3,z4,q3 i hw hi⟩
theorem LetAt.getS2 (r:LetAt no na h n l vS vA) {i:Nat} (hi:i<l.stalls.length):∃ (b p:Nat) (c:List AV) (sz:Nat),(b<n∧no b)∧(∀ s,ixsA 3 s vS (.int .i64 (i:Int))=.val (.ptr b p) s)∧h.get b=some (.cells c sz)∧cut p 3 c=some [.int .i64 l.stalls[i].rule,.int .i64 l.stalls[i].least,.int .i64 l.stalls[i].heir]:=by
 obtain ⟨b,p,c,sz,z1,z0,z2,z3,z4⟩:=r.st.get (i:=i) (by rw [List.length_map];exact hi)
 rw [List.getElem_map] at z4
 exact ⟨b,p,c,sz,⟨z1,z0⟩,z2,z3,z4⟩
end
theorem named_neg (N:Nat) (hN:1≤N) (hi:Int) (s:St) (hs:s.n≤far):call Try.prog X N (.fn 48) [.int .i64 (-1),.int .i64 hi] s=.val (.int .i64 3) s:=by
 obtain ⟨n,rfl⟩:∃ n,N=n+1:=⟨N - 1,by omega⟩
 refine call_plain (s':=⟨s.h,s.n,far⟩) Try.func48 ?_ rfl hs
 have e0:decide ((-1:Int)<0)=true:=rfl
 rw [enter48]
 simp only [res48,K48r0,K48r1s6,K48r1s5,K48r1s4,K48r1,K48r2,K48r3,K48,Abs.W,reduceIte,Nat.reduceEqDiff,Nat.reduceAdd,decide_true,decide_false,kLoop_def,Nat.reduceSub,List.cons_append,List.nil_append,List.append_nil,List.length_cons,List.length_nil,e0]
/-! ### Lists of numbers -/
theorem rowInt {h:Heap} {n:Nat} {l:List Int} {v:AV} (r:RowsAt h n 1 (intRows l) v) {i:Nat} (hi:i<l.length):∃ b p c sz,b<n∧(∀ s,ixsA 1 s v (.int .i64 (i:Int))=.val (.ptr b p) s)∧h.get b=some (.cells c sz)∧nth c p=.int .i64 l[i]:=by
 obtain ⟨b,p,c,sz,h1,h2,h3,h4⟩:=intRow_at r hi
 refine ⟨b,p,c,sz,h1,h2,h3,?_⟩
 rw [h4]
 simp [List.getD,hi]
theorem rowLen {h:Heap} {n:Nat} {l:List Int} {v:AV} (r:RowsAt h n 1 (intRows l) v) (s:St):lenSlA s v=.val (.int .i64 l.length) s:=by have:=r.len s;rwa [intRows_len] at this
theorem index_ex {N:Nat} {l:List Int} {x:Int} {v:AV} {s:St} {r:ARes} (hr:call Try.prog X N (.fn 83) [v,.int .i64 x] s=r) (hN:1≤N) (hR:RowsAt s.h s.n 1 (intRows l) v) (hl:l.length≤1000) (hs:s.n+10≤far) :
  ∃ i:Int,r=.val (.int .i64 i) s∧(0≤i↔x ∈ l):=by
 obtain ⟨n,rfl⟩:∃ n,N=n+1:=⟨N - 1,by omega⟩
 obtain ⟨w,e,i,rfl,hi⟩:=call_some (n:=n) (s:=s) (k:=0) (args:=[v,.int .i64 x]) (Q:=fun w=>∃ i:Int,w=.int .i64 i∧(0≤i↔x ∈ l)) Try.func83 (fun u uh un um=>by
  rw [← uh,← un] at hR
  have kv:∀ t,okA (.val v t)=.val v t:=fun t=>okA_ne hR.ne
  have lv:=rowLen hR
  have hf:far=1000000000:=rfl
  rw [enter83]
  simp (disch:=first|omega|(with_unfolding_all exact rfl)|(simp only[new_n,put_n,new_m];omega)|(refine put_m_le ?_;simp only[new_m];omega)) only [res83,K83r0,K83r1,K83r2,K83r3,K83r4,K83r5,K83r6,K83r7,K83,Abs.W,reduceIte,Nat.reduceEqDiff,Nat.reduceAdd,decide_true,decide_false,kLoop_def,Nat.reduceSub,List.cons_append,List.nil_append,List.append_nil,List.length_cons,List.length_nil,Env.find_set,kv,lv]
  generalize hlp:loopN _ rounds _ _ _ _ _=q1
  obtain ⟨e,L1,s1,rfl,rfl,hQ⟩:=loop_of hlp (fun i L t=>t=u∧L.find 0=v∧L.find 1=.int .i64 x∧L.find 7=.int .i64 l.length∧L.find 8=.int .i64 i∧x ∉ l.take i)
   (fun e L t=>t=u∧((e=.ret∧∃ i:Nat,L.find 4=.int .i64 (i:Int)∧x ∈ l)∨(e=.exit 0∧x ∉ l))) l.length (by unfold rounds;omega)
   ⟨rfl,by simp only [find_cons,Env.find_set,reduceIte,Nat.reduceEqDiff],by simp only [find_cons,Env.find_set,reduceIte,Nat.reduceEqDiff],by simp only [find_cons,Env.find_set,reduceIte,Nat.reduceEqDiff],by simp only [find_cons,Env.find_set,reduceIte,Nat.reduceEqDiff];rfl,by simp⟩
   (fun i L t hi ⟨ht,q0,q1,q7,q8,hx⟩=>by
    subst ht
    by_cases hlt:i<l.length
    ·have e0:decide ((i:Int)<(l.length:Int))=true:=decide_eq_true (by omega)
     obtain ⟨b,p,c,sz,r1,r2,r3,r4⟩:=rowInt hR hlt
     have ad:∀ s,aAdd s .i64 (i:Int) 1=.val (.int .i64 ((i:Int)+1)) s:=fun s=>aAdd_i64 s _ _ (by omega)
     by_cases he:x=l[i]
     ·have e1:decide (x=l[i])=true:=decide_eq_true he
      refine .inr ⟨.ret,_,t,by simp,by
       simp (disch:=first|omega|(with_unfolding_all exact rfl)|(simp only[new_n,put_n,new_m];omega)|(refine put_m_le ?_;simp only[new_m];omega)) only [res83,K83r0,K83r1,K83r2,K83r3,K83r4,K83r5,K83r6,K83r7,K83,K83l0,Abs.W,reduceIte,Nat.reduceEqDiff,Nat.reduceAdd,decide_true,decide_false,kLoop_def,Nat.reduceSub,List.cons_append,List.nil_append,List.append_nil,List.length_cons,List.length_nil,Env.find_set,q0,q1,q7,q8,e0,kv,r2,r3,r4,e1]
       rfl,rfl,.inl ⟨rfl,i,by simp only [Env.find_set,reduceIte,Nat.reduceEqDiff],by rw [he];exact List.getElem_mem hlt⟩⟩
     ·have e1:decide (x=l[i])=false:=decide_eq_false he
      refine .inl ⟨hlt,_,t,by
       simp (disch:=first|omega|(with_unfolding_all exact rfl)|(simp only[new_n,put_n,new_m];omega)|(refine put_m_le ?_;simp only[new_m];omega)) only [res83,K83r0,K83r1,K83r2,K83r3,K83r4,K83r5,K83r6,K83r7,K83,K83l0,Abs.W,reduceIte,Nat.reduceEqDiff,Nat.reduceAdd,decide_true,decide_false,kLoop_def,Nat.reduceSub,List.cons_append,List.nil_append,List.append_nil,List.length_cons,List.length_nil,Env.find_set,q0,q1,q7,q8,e0,kv,r2,r3,r4,e1,ad]
       rfl,rfl,?_,?_,?_,?_,?_⟩
      ·simp only [Env.find_set,q0,reduceIte,Nat.reduceEqDiff]
      ·simp only [Env.find_set,q1,reduceIte,Nat.reduceEqDiff]
      ·simp only [Env.find_set,q7,reduceIte,Nat.reduceEqDiff]
      ·simp only [Env.find_set,reduceIte,Nat.reduceEqDiff];rfl
      ·rw [take_snoc hlt,List.mem_append,List.mem_singleton]
       exact fun h=>h.elim hx he
    ·obtain rfl:i=l.length:=by omega
     have e0:decide ((l.length:Int)<(l.length:Int))=false:=by simp
     refine .inr ⟨.exit 0,L.set 9 (.bool false),t,by simp,?_,rfl,.inr ⟨rfl,by rwa [List.take_length] at hx⟩⟩
     simp (disch:=first|omega|(with_unfolding_all exact rfl)|(simp only[new_n,put_n,new_m];omega)|(refine put_m_le ?_;simp only[new_m];omega)) only [res83,K83r0,K83r1,K83r2,K83r3,K83r4,K83r5,K83r6,K83r7,K83,K83l0,Abs.W,reduceIte,Nat.reduceEqDiff,Nat.reduceAdd,decide_true,decide_false,kLoop_def,Nat.reduceSub,List.cons_append,List.nil_append,List.append_nil,List.length_cons,List.length_nil,Env.find_set,q7,q8,e0])
  have hB:Beside s1 s1 0:=Beside.refl s1 (by omega) um
  rcases hQ with ⟨rfl,i,h4,hx⟩ | ⟨rfl,hx⟩
  ·simp (disch:=first|omega|(with_unfolding_all exact rfl)|(simp only[new_n,put_n,new_m];omega)|(refine put_m_le ?_;simp only[new_m];omega)) only [res83,K83r0,K83r1,K83r2,K83r3,K83r4,K83r5,K83r6,K83r7,K83,Abs.W,reduceIte,Nat.reduceEqDiff,Nat.reduceAdd,decide_true,decide_false,kLoop_def,Nat.reduceSub,List.cons_append,List.nil_append,List.append_nil,List.length_cons,List.length_nil,Env.find_set,h4]
   exact ⟨_,_,rfl,hB,rfl,_,rfl,by simp [hx]⟩
  ·simp (disch:=first|omega|(with_unfolding_all exact rfl)|(simp only[new_n,put_n,new_m];omega)|(refine put_m_le ?_;simp only[new_m];omega)) only [res83,K83r0,K83r1,K83r2,K83r3,K83r4,K83r5,K83r6,K83r7,K83,Abs.W,reduceIte,Nat.reduceEqDiff,Nat.reduceAdd,decide_true,decide_false,kLoop_def,Nat.reduceSub,List.cons_append,List.nil_append,List.append_nil,List.length_cons,List.length_nil,Env.find_set]
   exact ⟨_,_,rfl,hB,rfl,_,rfl,by simp [hx]⟩)
 exact ⟨i,hr.symm.trans e,hi⟩
theorem contains_ok (N:Nat) (hN:2≤N) (l:List Int) (x:Int) (v:AV) (s:St) (hR:RowsAt s.h s.n 1 (intRows l) v) (hl:l.length≤1000) (hs:s.n+20≤far) :
  call Try.prog X N (.fn 60) [v,.int .i64 x] s=.val (.bool (decide (x ∈ l))) s:=by
 obtain ⟨n,rfl⟩:∃ n,N=n+1:=⟨N - 1,by omega⟩
 refine call_plain' Try.func60 (fun u uh un um=>?_) rfl
 rw [← uh,← un] at hR
 have kv:∀ t,okA (.val v t)=.val v t:=fun t=>okA_ne hR.ne
 have hf:far=1000000000:=rfl
 rw [enter60]
 simp (disch:=first|omega|(with_unfolding_all exact rfl)|(simp only[new_n,put_n,new_m];omega)|(refine put_m_le ?_;simp only[new_m];omega)) only [res60,K60r0,K60r1,K60,Abs.W,reduceIte,Nat.reduceEqDiff,Nat.reduceAdd,decide_true,decide_false,kLoop_def,Nat.reduceSub,List.cons_append,List.nil_append,List.append_nil,List.length_cons,List.length_nil,Env.find_set,kv]
 generalize hc:call _ _ _ (.fn 83) _ _=r1
 obtain ⟨i,rfl,hi⟩:=index_ex hc (by omega) hR hl (by omega)
 have e:decide (0≤i)=decide (x ∈ l):=by
  by_cases h:x ∈ l
  ·rw [decide_eq_true h,decide_eq_true (hi.mpr h)]
  ·rw [decide_eq_false h,decide_eq_false (fun h'=>h (hi.mp h'))]
 simp (disch:=first|omega|(with_unfolding_all exact rfl)|(simp only[new_n,put_n,new_m];omega)|(refine put_m_le ?_;simp only[new_m];omega)) only [res60,K60r0,K60r1,K60,Abs.W,reduceIte,Nat.reduceEqDiff,Nat.reduceAdd,decide_true,decide_false,kLoop_def,Nat.reduceSub,List.cons_append,List.nil_append,List.append_nil,List.length_cons,List.length_nil,Env.find_set,e]
 exact ⟨_,rfl,by omega⟩
end Go.Proofs.Ytbcjojljiochfaa.walk
set_option maxRecDepth 10000
namespace Go.Proofs.Ytbcjojljiochfaa.walk
open Go.Abs Go.Proofs.Ytbcjojljiochfaa.code
theorem not_mem_take {l:List Int} (h:l.Nodup) {i:Nat} (hi:i<l.length):l[i] ∉ l.take i:=by
 intro hm
 have h1:l=l.take i++l.drop i:=(List.take_append_drop i l).symm
 have h2:l[i] ∈ l.drop i:=by
  rw [List.drop_eq_getElem_cons hi];exact List.mem_cons_self ..
 rw [h1,List.nodup_append] at h
 exact h.2.2 _ hm _ h2 rfl
theorem intRows_take (l:List Int) (i:Nat):(intRows l).take i=intRows (l.take i):=by unfold intRows;rw [List.map_take]
theorem wishes_ok (N:Nat) (hN:3≤N) {no:Nat→Prop} (l:List Int) (k:Nat) (v:AV) (s:St) (hR:Sl no s.h s.n 1 (intRows l) v) (hl:l.length≤8) (hnd:l.Nodup) (hw:∀ x ∈ l,0≤x∧x<k) (hs:s.n+30≤far) :
  call Try.prog X N (.fn 67) [v,.int .i64 (k:Int)] s=.val (.int .i64 0) s:=by
 obtain ⟨n,rfl⟩:∃ n,N=n+1:=⟨N - 1,by omega⟩
 refine call_plain' Try.func67 (fun u uh un um=>?_) rfl
 rw [← uh,← un] at hR
 have kv:=hR.okA
 have lv:=rowLen hR.at_
 have hf:far=1000000000:=rfl
 have z0:decide ((0:Int)=0)=true:=rfl
 rw [enter67]
 simp (disch:=first|omega|(with_unfolding_all exact rfl)|(simp only[new_n,put_n,new_m];omega)|(refine put_m_le ?_;simp only[new_m];omega)) only [res67,K67r0,K67r1,K67r2,K67r3,K67r4,K67r5,K67r6,K67r7,K67r8,K67r9,K67r10,K67,Abs.W,reduceIte,Nat.reduceEqDiff,Nat.reduceAdd,decide_true,decide_false,kLoop_def,Nat.reduceSub,List.cons_append,List.nil_append,List.append_nil,List.length_cons,List.length_nil,Env.find_set,kv,lv]
 generalize hlp:loopN _ rounds _ _ _ _ _=q1
 obtain ⟨e,L1,s1,rfl,rfl,rfl⟩:=loop_of hlp (fun i L t=>t=u∧L.find 0=v∧L.find 1=.int .i64 (k:Int)∧L.find 8=v∧L.find 9=.int .i64 l.length∧L.find 10=.int .i64 i)
  (fun e L t=>e=.exit 0∧t=u) l.length (by unfold rounds;omega)
  ⟨rfl,by simp only [find_cons,Env.find_set,reduceIte,Nat.reduceEqDiff],by simp only [find_cons,Env.find_set,reduceIte,Nat.reduceEqDiff],by simp only [find_cons,Env.find_set,reduceIte,Nat.reduceEqDiff],by simp only [find_cons,Env.find_set,reduceIte,Nat.reduceEqDiff],by simp only [find_cons,Env.find_set,reduceIte,Nat.reduceEqDiff];rfl⟩
  (fun i L t hi ⟨ht,q0,q1,q8,q9,q10⟩=>by
   subst ht
   by_cases hlt:i<l.length
   ·have e0:decide ((i:Int)<(l.length:Int))=true:=decide_eq_true (by omega)
    obtain ⟨b,p,c,sz,r1,r2,r3,r4⟩:=rowInt hR.at_ hlt
    obtain ⟨x0,x1⟩:=hw _ (List.getElem_mem hlt)
    obtain ⟨v',t1,t2⟩:=hR.to (i:=i) (by rw [intRows_len];omega)
    rw [intRows_take] at t2
    have ad:∀ s,aAdd s .i64 (i:Int) 1=.val (.int .i64 ((i:Int)+1)) s:=fun s=>aAdd_i64 s _ _ (by omega)
    have hc:=contains_ok n (by omega) (l.take i) l[i] v' t t2.at_ (by rw [List.length_take];omega) (by omega)
    rw [decide_eq_false (not_mem_take hnd hlt)] at hc
    have kv':=t2.okA
    refine .inl ⟨hlt,_,t,by
     simp (disch:=first|omega|(with_unfolding_all exact rfl)|(simp only[new_n,put_n,new_m];omega)|(refine put_m_le ?_;simp only[new_m];omega)) only [res67,K67r0,K67r1,K67r2,K67r3,K67r4,K67r5,K67r6,K67r7,K67r8,K67r9,K67r10,K67,K67l0,Abs.W,reduceIte,Nat.reduceEqDiff,Nat.reduceAdd,decide_true,decide_false,kLoop_def,Nat.reduceSub,List.cons_append,List.nil_append,List.append_nil,List.length_cons,List.length_nil,Env.find_set,q0,q1,q8,q9,q10,e0,kv,kv',r2,r3,r4,named_ok,z0,kSlice_def,optEv_some,optEv_none,t1,hc,ad]
     rfl,rfl,?_,?_,?_,?_,?_⟩
    ·simp only [Env.find_set,q0,reduceIte,Nat.reduceEqDiff]
    ·simp only [Env.find_set,q1,reduceIte,Nat.reduceEqDiff]
    ·simp only [Env.find_set,q8,reduceIte,Nat.reduceEqDiff]
    ·simp only [Env.find_set,q9,reduceIte,Nat.reduceEqDiff]
    ·simp only [Env.find_set,reduceIte,Nat.reduceEqDiff];rfl
   ·obtain rfl:i=l.length:=by omega
    have e0:decide ((l.length:Int)<(l.length:Int))=false:=by simp
    refine .inr ⟨.exit 0,L.set 11 (.bool false),t,by simp,?_,rfl,rfl⟩
    simp (disch:=first|omega|(with_unfolding_all exact rfl)|(simp only[new_n,put_n,new_m];omega)|(refine put_m_le ?_;simp only[new_m];omega)) only [res67,K67r0,K67r1,K67r2,K67r3,K67r4,K67r5,K67r6,K67r7,K67r8,K67r9,K67r10,K67,K67l0,Abs.W,reduceIte,Nat.reduceEqDiff,Nat.reduceAdd,decide_true,decide_false,kLoop_def,Nat.reduceSub,List.cons_append,List.nil_append,List.append_nil,List.length_cons,List.length_nil,Env.find_set,q9,q10,e0])
 simp (disch:=first|omega|(with_unfolding_all exact rfl)|(simp only[new_n,put_n,new_m];omega)|(refine put_m_le ?_;simp only[new_m];omega)) only [res67,K67r0,K67r1,K67r2,K67r3,K67r4,K67r5,K67r6,K67r7,K67r8,K67r9,K67r10,K67,Abs.W,reduceIte,Nat.reduceEqDiff,Nat.reduceAdd,decide_true,decide_false,kLoop_def,Nat.reduceSub,List.cons_append,List.nil_append,List.append_nil,List.length_cons,List.length_nil,Env.find_set]
 exact ⟨_,rfl,by omega⟩
theorem bids_ok (N:Nat) (hN:3≤N) {no:Nat→Prop} (a b:AV) (l m:List Int) (v w:AV) (s:St) (hR:Sl no s.h s.n 1 (intRows l) v) (hQ:Sl no s.h s.n 1 (intRows m) w) (hl:l.length≤8) (hm:m.length=l.length) (hw:∀ x ∈ m,0≤x∧x≤1000000) (hs:s.n+30≤far) :
  call Try.prog X N (.fn 68) [.agg [a,b,v,w]] s=.val (.int .i64 0) s:=by
 obtain ⟨n,rfl⟩:∃ n,N=n+1:=⟨N - 1,by omega⟩
 refine call_plain' Try.func68 (fun u uh un um=>?_) rfl
 rw [← uh,← un] at hR hQ
 have kv:=hR.okA
 have lv:=rowLen hR.at_
 have kw:=hQ.okA
 have lw:=rowLen hQ.at_
 have hf:far=1000000000:=rfl
 have z0:decide ((0:Int)=0)=true:=rfl
 obtain ⟨t0,ht0⟩:∃ t0:St,t0=u.new (.cells [a,b,v,w] (tag 37)):=⟨_,rfl⟩
 have tn:t0.n=u.n+1:=by rw [ht0];rfl
 have tm:t0.m=far:=by rw [ht0];exact um
 have tg:∀ c,c<u.n→t0.h.get c=u.h.get c:=fun c hc=>by rw [ht0,get_new_ne _ _ _ (by omega)]
 have t00:t0.h.get u.n=some (.cells [a,b,v,w] (tag 37)):=by rw [ht0];exact get_new_eq _ _ _ rfl (by omega)
 have hQ:=hQ.grow tg (by omega:u.n≤t0.n)
 have el:decide ((m.length:Int)=(l.length:Int))=true:=decide_eq_true (by omega)
 rw [enter68]
 simp (disch:=first|omega|(with_unfolding_all exact rfl)|(simp only[new_n,put_n,new_m];omega)|(refine put_m_le ?_;simp only[new_m];omega)) only [res68,K68,K68r0,Abs.W,reduceIte,Nat.reduceEqDiff,Nat.reduceAdd,decide_true,decide_false,kLoop_def,Nat.reduceSub,List.cons_append,List.nil_append,List.append_nil,List.length_cons,List.length_nil]
 rw [← ht0]
 simp (disch:=first|omega|(with_unfolding_all exact rfl)|(simp only[new_n,put_n,new_m];omega)|(refine put_m_le ?_;simp only[new_m];omega)) only [res68,K68r0,K68r1,K68r2,K68r3,K68r4,K68r5,K68r6,K68r7,K68r8,K68r9,K68r10,K68,Abs.W,reduceIte,Nat.reduceEqDiff,Nat.reduceAdd,decide_true,decide_false,kLoop_def,Nat.reduceSub,List.cons_append,List.nil_append,List.append_nil,List.length_cons,List.length_nil,Env.find_set,t00,kv,lv,kw,lw,el,Nat.zero_add]
 generalize hlp:loopN _ rounds _ _ _ _ _=q1
 obtain ⟨e,L1,s1,rfl,rfl,rfl⟩:=loop_of hlp (fun i L t=>t=t0∧L.find 14=w∧L.find 15=.int .i64 m.length∧L.find 16=.int .i64 i)
  (fun e L t=>e=.exit 0∧t=t0) m.length (by unfold rounds;omega)
  ⟨rfl,by simp only [find_cons,Env.find_set,reduceIte,Nat.reduceEqDiff],by simp only [find_cons,Env.find_set,reduceIte,Nat.reduceEqDiff],by simp only [find_cons,Env.find_set,reduceIte,Nat.reduceEqDiff];rfl⟩
  (fun i L t hi ⟨ht,q14,q15,q16⟩=>by
   subst ht
   by_cases hlt:i<m.length
   ·have e0:decide ((i:Int)<(m.length:Int))=true:=decide_eq_true (by omega)
    obtain ⟨b,p,c,sz,r1,r2,r3,r4⟩:=rowInt hQ.at_ hlt
    obtain ⟨x0,x1⟩:=hw _ (List.getElem_mem hlt)
    have ad:∀ s,aAdd s .i64 (i:Int) 1=.val (.int .i64 ((i:Int)+1)) s:=fun s=>aAdd_i64 s _ _ (by omega)
    refine .inl ⟨hlt,_,t,by
     simp (disch:=first|omega|(with_unfolding_all exact rfl)|(simp only[new_n,put_n,new_m];omega)|(refine put_m_le ?_;simp only[new_m];omega)) only [res68,K68r0,K68r1,K68r2,K68r3,K68r4,K68r5,K68r6,K68r7,K68r8,K68r9,K68r10,K68,K68l0,Abs.W,reduceIte,Nat.reduceEqDiff,Nat.reduceAdd,decide_true,decide_false,kLoop_def,Nat.reduceSub,List.cons_append,List.nil_append,List.append_nil,List.length_cons,List.length_nil,Env.find_set,q14,q15,q16,e0,kw,r2,r3,r4,within_ok,z0,ad]
     rfl,rfl,?_,?_,?_⟩
    ·simp only [Env.find_set,q14,reduceIte,Nat.reduceEqDiff]
    ·simp only [Env.find_set,q15,reduceIte,Nat.reduceEqDiff]
    ·simp only [Env.find_set,reduceIte,Nat.reduceEqDiff];rfl
   ·obtain rfl:i=m.length:=by omega
    have e0:decide ((m.length:Int)<(m.length:Int))=false:=by simp
    refine .inr ⟨.exit 0,L.set 17 (.bool false),t,by simp,?_,rfl,rfl⟩
    simp (disch:=first|omega|(with_unfolding_all exact rfl)|(simp only[new_n,put_n,new_m];omega)|(refine put_m_le ?_;simp only[new_m];omega)) only [res68,K68r0,K68r1,K68r2,K68r3,K68r4,K68r5,K68r6,K68r7,K68r8,K68r9,K68r10,K68,K68l0,Abs.W,reduceIte,Nat.reduceEqDiff,Nat.reduceAdd,decide_true,decide_false,kLoop_def,Nat.reduceSub,List.cons_append,List.nil_append,List.append_nil,List.length_cons,List.length_nil,Env.find_set,q15,q16,e0])
 simp (disch:=first|omega|(with_unfolding_all exact rfl)|(simp only[new_n,put_n,new_m];omega)|(refine put_m_le ?_;simp only[new_m];omega)) only [res68,K68r0,K68r1,K68r2,K68r3,K68r4,K68r5,K68r6,K68r7,K68r8,K68r9,K68r10,K68,Abs.W,reduceIte,Nat.reduceEqDiff,Nat.reduceAdd,decide_true,decide_false,kLoop_def,Nat.reduceSub,List.cons_append,List.nil_append,List.append_nil,List.length_cons,List.length_nil,Env.find_set]
 exact ⟨_,rfl,by omega⟩
theorem stalls_ok (N:Nat) (hN:3≤N) {no na:Nat→Prop} (l:Letting) (ok:l.Ok) (vS vA:AV) (s:St) (hL:LetAt no na s.h s.n l vS vA) (hs:s.n+1000≤far) :
  call Try.prog X N (.fn 51) [.agg (letV vS vA)] s=.val (.int .i64 0) s:=by
 obtain ⟨n,rfl⟩:∃ n,N=n+1:=⟨N - 1,by omega⟩
 refine call_plain' Try.func51 (fun u uh un um=>?_) rfl
 have hf:far=1000000000:=rfl
 rw [← uh,← un] at hL
 have kS:=hL.okS
 have kA:=hL.okV
 have lS:=hL.lenS
 have lA:=hL.lenA
 have z0:decide ((0:Int)=0)=true:=rfl
 have z3:decide ((3:Int)=0)=false:=rfl
 obtain ⟨w,hw⟩:∃ w:St,w=u.new (.cells [vS,vA] (tag 28)):=⟨_,rfl⟩
 have wn:w.n=u.n+1:=by rw [hw];rfl
 have wm:w.m=far:=by rw [hw];exact um
 have wg:∀ c,c<u.n→w.h.get c=u.h.get c:=fun c hc=>by rw [hw,get_new_ne _ _ _ (by omega)]
 have w0:w.h.get u.n=some (.cells [vS,vA] (tag 28)):=by rw [hw];exact get_new_eq _ _ _ rfl (by omega)
 have hM:=hL.grow wg (by omega:u.n≤w.n)
 have k0:=ok.k0
 have k1:=ok.k1
 have m1:=ok.m1
 rw [enter51]
 simp (disch:=first|omega|(with_unfolding_all exact rfl)|(simp only[new_n,put_n,new_m];omega)|(refine put_m_le ?_;simp only[new_m];omega)) only [res51,K51,K51r0,Abs.W,reduceIte,Nat.reduceEqDiff,Nat.reduceAdd,decide_true,decide_false,kLoop_def,Nat.reduceSub,List.cons_append,List.nil_append,List.append_nil,List.length_cons,List.length_nil]
 rw [← hw]
 simp (disch:=first|omega|(with_unfolding_all exact rfl)|(simp only[new_n,put_n,new_m];omega)|(refine put_m_le ?_;simp only[new_m];omega)) only [res51,K51r0,K51r1,K51r2,K51r3,K51r4,K51r5,K51r6,K51r7s7,K51r7s6,K51r7s5,K51r7,K51r8,K51r9,K51r10,K51r11,K51r12,K51r13s6,K51r13s5,K51r13,K51r14,K51r15,K51r16,K51,Abs.W,reduceIte,Nat.reduceEqDiff,Nat.reduceAdd,decide_true,decide_false,kLoop_def,Nat.reduceSub,List.cons_append,List.nil_append,List.append_nil,List.length_cons,List.length_nil,Env.find_set,w0,kS,kA,lS,lA,z0,counted_ok,Nat.zero_add]
 generalize hl1:loopN _ rounds _ _ _ _ _=q1
 obtain ⟨e,L1,s1,rfl,rfl,hE⟩:=loop_of hl1
  (fun i L' t=>L'.find 1=.ptr u.n 0∧L'.find 16=vS∧L'.find 17=.int .i64 l.stalls.length∧L'.find 18=.int .i64 i∧Beside w t (10 * i))
  (fun e L1 s1=>e=.exit 0∧Beside w s1 (10 * l.stalls.length))
  l.stalls.length (by unfold rounds;omega) ⟨by simp only [find_cons,Env.find_set,reduceIte,Nat.reduceEqDiff],by simp only [find_cons,Env.find_set,reduceIte,Nat.reduceEqDiff],by simp only [find_cons,Env.find_set,reduceIte,Nat.reduceEqDiff],by simp only [find_cons,Env.find_set,reduceIte,Nat.reduceEqDiff];rfl,Beside.refl w (by omega) wm⟩
  (fun i L' t hi ⟨q1,q16,q17,q18,hE⟩=>by
   have tn:=hE.n
   have tl:=hE.le
   have tm:=hE.m
   have tf:=hE.far
   by_cases hlt:i<l.stalls.length
   ·have e0:decide ((i:Int)<(l.stalls.length:Int))=true:=decide_eq_true (by omega)
    obtain ⟨p,o,cs,sz,r1,r2,r3,r4⟩:=(hM.grow hE.same tn).getS hlt
    obtain ⟨s0,s1,d0,d1,h0,h1⟩:=ok.st _ (List.getElem_mem hlt)
    generalize l.stalls[i]=M at *
    have gg:=(hE.same u.n (by omega)).trans w0
    have ad:∀ s,aAdd s .i64 (i:Int) 1=.val (.int .i64 ((i:Int)+1)) s:=fun s=>aAdd_i64 s _ _ (by omega)
    have a1:decide (M.rule<1)=false:=decide_eq_false (by omega)
    have a2:decide ((3:Int)<M.rule)=false:=decide_eq_false (by omega)
    by_cases hh:M.heir = -1
    ·rw [hh] at r4
     have a3:decide ((-1:Int) = -1)=true:=rfl
     refine .inl ⟨hlt,_,_,by
      simp (disch:=first|omega|(with_unfolding_all exact rfl)|(simp only[new_n,put_n,new_m];omega)|(refine put_m_le ?_;simp only[new_m];omega)) only [res51,K51r0,K51r1,K51r2,K51r3,K51r4,K51r5,K51r6,K51r7s7,K51r7s6,K51r7s5,K51r7,K51r8,K51r9,K51r10,K51r11,K51r12,K51r13s6,K51r13s5,K51r13,K51r14,K51r15,K51r16,K51,K51l0,Abs.W,reduceIte,Nat.reduceEqDiff,Nat.reduceAdd,decide_true,decide_false,kLoop_def,Nat.reduceSub,List.cons_append,List.nil_append,List.append_nil,List.length_cons,List.length_nil,Env.find_set,q1,q16,q17,q18,e0,r2,r3,r4,gg,kA,lA,a1,a2,a3,named_neg,within_ok,z0,ad,Nat.zero_add]
      rfl,?_,?_,?_,?_,(((hE.new _).put _ tn)).mono (by omega)⟩
     ·simp only [Env.find_set,q1,reduceIte,Nat.reduceEqDiff]
     ·simp only [Env.find_set,q16,reduceIte,Nat.reduceEqDiff]
     ·simp only [Env.find_set,q17,reduceIte,Nat.reduceEqDiff]
     ·simp only [Env.find_set,reduceIte,Nat.reduceEqDiff];rfl
    ·have a3:decide (M.heir = -1)=false:=decide_eq_false hh
     have nk:=fun (s:St) (hs:s.n≤far)=>named_ok n (by omega) M.heir (l.appls.length:Int) s (by omega) (by omega) hs
     refine .inl ⟨hlt,_,_,by
      simp (disch:=first|omega|(with_unfolding_all exact rfl)|(simp only[new_n,put_n,new_m];omega)|(refine put_m_le ?_;simp only[new_m];omega)) only [res51,K51r0,K51r1,K51r2,K51r3,K51r4,K51r5,K51r6,K51r7s7,K51r7s6,K51r7s5,K51r7,K51r8,K51r9,K51r10,K51r11,K51r12,K51r13s6,K51r13s5,K51r13,K51r14,K51r15,K51r16,K51,K51l0,Abs.W,reduceIte,Nat.reduceEqDiff,Nat.reduceAdd,decide_true,decide_false,kLoop_def,Nat.reduceSub,List.cons_append,List.nil_append,List.append_nil,List.length_cons,List.length_nil,Env.find_set,q1,q16,q17,q18,e0,r2,r3,r4,gg,kA,lA,a1,a2,a3,nk,within_ok,z0,ad,Nat.zero_add]
      rfl,?_,?_,?_,?_,(((hE.new _).put _ tn)).mono (by omega)⟩
     ·simp only [Env.find_set,q1,reduceIte,Nat.reduceEqDiff]
     ·simp only [Env.find_set,q16,reduceIte,Nat.reduceEqDiff]
     ·simp only [Env.find_set,q17,reduceIte,Nat.reduceEqDiff]
     ·simp only [Env.find_set,reduceIte,Nat.reduceEqDiff];rfl
   ·obtain rfl:i=l.stalls.length:=by omega
    have e0:decide ((l.stalls.length:Int)<(l.stalls.length:Int))=false:=by simp
    refine .inr ⟨.exit 0,L'.set 19 (.bool false),t,by simp,?_,rfl,hE⟩
    simp (disch:=first|omega|(with_unfolding_all exact rfl)|(simp only[new_n,put_n,new_m];omega)|(refine put_m_le ?_;simp only[new_m];omega)) only [res51,K51r0,K51r1,K51r2,K51r3,K51r4,K51r5,K51r6,K51r7s7,K51r7s6,K51r7s5,K51r7,K51r8,K51r9,K51r10,K51r11,K51r12,K51r13s6,K51r13s5,K51r13,K51r14,K51r15,K51r16,K51,K51l0,Abs.W,reduceIte,Nat.reduceEqDiff,Nat.reduceAdd,decide_true,decide_false,kLoop_def,Nat.reduceSub,List.cons_append,List.nil_append,List.append_nil,List.length_cons,List.length_nil,Env.find_set,q17,q18,e0])
 simp (disch:=first|omega|(with_unfolding_all exact rfl)|(simp only[new_n,put_n,new_m];omega)|(refine put_m_le ?_;simp only[new_m];omega)) only [res51,K51r0,K51r1,K51r2,K51r3,K51r4,K51r5,K51r6,K51r7s7,K51r7s6,K51r7s5,K51r7,K51r8,K51r9,K51r10,K51r11,K51r12,K51r13s6,K51r13s5,K51r13,K51r14,K51r15,K51r16,K51,Abs.W,reduceIte,Nat.reduceEqDiff,Nat.reduceAdd,decide_true,decide_false,kLoop_def,Nat.reduceSub,List.cons_append,List.nil_append,List.append_nil,List.length_cons,List.length_nil,Env.find_set]
 refine ⟨s1,rfl,?_⟩
 have:=hE.m
 omega
theorem appls_ok (N:Nat) (hN:5≤N) {no na:Nat→Prop} (l:Letting) (ok:l.Ok) (vS vA:AV) (s:St) (hL:LetAt no na s.h s.n l vS vA) (hs:s.n+1000≤far) :
  call Try.prog X N (.fn 52) [.agg (letV vS vA)] s=.val (.int .i64 0) s:=by
 obtain ⟨n,rfl⟩:∃ n,N=n+1:=⟨N - 1,by omega⟩
 refine call_plain' Try.func52 (fun u uh un um=>?_) rfl
 have hf:far=1000000000:=rfl
 rw [← uh,← un] at hL
 have kS:=hL.okS
 have kA:=hL.okV
 have lS:=hL.lenS
 have lA:=hL.lenA
 have z0:decide ((0:Int)=0)=true:=rfl
 obtain ⟨w,hw⟩:∃ w:St,w=u.new (.cells [vS,vA] (tag 28)):=⟨_,rfl⟩
 have wn:w.n=u.n+1:=by rw [hw];rfl
 have wm:w.m=far:=by rw [hw];exact um
 have wg:∀ c,c<u.n→w.h.get c=u.h.get c:=fun c hc=>by rw [hw,get_new_ne _ _ _ (by omega)]
 have w0:w.h.get u.n=some (.cells [vS,vA] (tag 28)):=by rw [hw];exact get_new_eq _ _ _ rfl (by omega)
 have hM:=hL.grow wg (by omega:u.n≤w.n)
 have k0:=ok.k0
 have k1:=ok.k1
 have m1:=ok.m1
 rw [enter52]
 simp (disch:=first|omega|(with_unfolding_all exact rfl)|(simp only[new_n,put_n,new_m];omega)|(refine put_m_le ?_;simp only[new_m];omega)) only [res52,K52,K52r0,Abs.W,reduceIte,Nat.reduceEqDiff,Nat.reduceAdd,decide_true,decide_false,kLoop_def,Nat.reduceSub,List.cons_append,List.nil_append,List.append_nil,List.length_cons,List.length_nil]
 rw [← hw]
 simp (disch:=first|omega|(with_unfolding_all exact rfl)|(simp only[new_n,put_n,new_m];omega)|(refine put_m_le ?_;simp only[new_m];omega)) only [res52,K52r0,K52r1,K52r2,K52r3,K52r4,K52r5,K52r6,K52r7,K52r8,K52r9,K52r10,K52r11,K52,Abs.W,reduceIte,Nat.reduceEqDiff,Nat.reduceAdd,decide_true,decide_false,kLoop_def,Nat.reduceSub,List.cons_append,List.nil_append,List.append_nil,List.length_cons,List.length_nil,Env.find_set,w0,kS,kA,lS,lA,z0,counted_ok,Nat.zero_add]
 generalize hl1:loopN _ rounds _ _ _ _ _=q1
 obtain ⟨e,L1,s1,rfl,rfl,hE⟩:=loop_of hl1
  (fun i L' t=>L'.find 1=.ptr u.n 0∧L'.find 15=vA∧L'.find 16=.int .i64 l.appls.length∧L'.find 17=.int .i64 i∧Beside w t (10 * i))
  (fun e L1 s1=>e=.exit 0∧Beside w s1 (10 * l.appls.length))
  l.appls.length (by unfold rounds;omega) ⟨by simp only [find_cons,Env.find_set,reduceIte,Nat.reduceEqDiff],by simp only [find_cons,Env.find_set,reduceIte,Nat.reduceEqDiff],by simp only [find_cons,Env.find_set,reduceIte,Nat.reduceEqDiff],by simp only [find_cons,Env.find_set,reduceIte,Nat.reduceEqDiff];rfl,Beside.refl w (by omega) wm⟩
  (fun i L' t hi ⟨q1,q15,q16,q17,hE⟩=>by
   have tn:=hE.n
   have tl:=hE.le
   have tm:=hE.m
   have tf:=hE.far
   by_cases hlt:i<l.appls.length
   ·have e0:decide ((i:Int)<(l.appls.length:Int))=true:=decide_eq_true (by omega)
    have hT:=hM.grow hE.same tn
    obtain ⟨ww,p,o,cs,sz,r1,r2,r3,r4,r5,r6⟩:=hT.getA hlt
    obtain ⟨y0,y1,t0,t1,wk,nd,wl,bl,bb⟩:=ok.ap _ (List.getElem_mem hlt)
    obtain ⟨ww1,ww2⟩:=ww
    simp only at r4 r5 r6
    have gg:=(hE.same u.n (by omega)).trans w0
    generalize l.appls[i]=M at *
    have ad:∀ s,aAdd s .i64 (i:Int) 1=.val (.int .i64 ((i:Int)+1)) s:=fun s=>aAdd_i64 s _ _ (by omega)
    obtain ⟨y,hy⟩:∃ y:St,y=(t.new (.cells [.int .i64 0,.int .i64 0,.nilslice,.nilslice] (tag 37))).put t.n (.cells [.int .i64 M.years,.int .i64 M.token,ww1,ww2] (tag 37)):=⟨_,rfl⟩
    have yn:y.n=t.n+1:=by rw [hy];rfl
    have ym:y.m=min t.m t.n:=by rw [hy];simp only [St.put,minN_eq,new_m]
    have yg:∀ c,c<t.n→y.h.get c=t.h.get c:=fun c hc=>by rw [hy,get_put_ne' _ _ _ _ (by omega),get_new_ne _ _ _ (by omega)]
    have yp:y.h.get t.n=some (.cells [.int .i64 M.years,.int .i64 M.token,ww1,ww2] (tag 37)):=by rw [hy];exact get_put_eq _ _ _ _ rfl (by omega)
    have hb:Beside w y (10 * i+1):=by rw [hy];exact (hE.new _).put _ tn
    have r5y:=r5.grow yg (by omega:t.n≤y.n)
    have r6y:=r6.grow yg (by omega:t.n≤y.n)
    have k5:=r5.okA
    have k6:=r6.okA
    have sc:scalars [.int .i64 M.years,.int .i64 M.token,ww1,ww2]=true:=by
     rw [scal_int,scal_int,r5.scal.2.2];exact r6.scal.1
    have gy:=(yg u.n (by omega)).trans gg
    have c1:=wishes_ok n (by omega) M.wishes l.stalls.length ww1 ⟨y.h,y.n,far⟩ r5y wl nd wk (by show y.n+30≤far;omega)
    have c2:=bids_ok n (by omega) (.int .i64 M.years) (.int .i64 M.token) M.wishes M.bids ww1 ww2 y r5y r6y wl bl bb (by omega)
    have co:=or_new4 n (by omega) y (by omega)
    refine .inl ⟨hlt,_,_,by
     simp (disch:=first|omega|(with_unfolding_all exact rfl)|(simp only[new_n,put_n,new_m];omega)|(refine put_m_le ?_;simp only[new_m];omega)) only [res52,K52r0,K52r1,K52r2,K52r3,K52r4,K52r5,K52r6,K52r7,K52r8,K52r9,K52r10,K52r11,K52,K52l0,Abs.W,reduceIte,Nat.reduceEqDiff,Nat.reduceAdd,decide_true,decide_false,kLoop_def,Nat.reduceSub,List.cons_append,List.nil_append,List.append_nil,List.length_cons,List.length_nil,Env.find_set,q1,q15,q16,q17,e0,r2,r3,r4,sc,Nat.zero_add]
     rw [← hy]
     simp (disch:=first|omega|(with_unfolding_all exact rfl)|(simp only[new_n,put_n,new_m];omega)|(refine put_m_le ?_;simp only[new_m];omega)) only [res52,K52r0,K52r1,K52r2,K52r3,K52r4,K52r5,K52r6,K52r7,K52r8,K52r9,K52r10,K52r11,K52,Abs.W,reduceIte,Nat.reduceEqDiff,Nat.reduceAdd,decide_true,decide_false,kLoop_def,Nat.reduceSub,List.cons_append,List.nil_append,List.append_nil,List.length_cons,List.length_nil,Env.find_set,q1,q15,q16,q17,yp,gy,kS,k5,k6,lS,c1,c2,co,within_ok,z0,ad,endO_nil,regD_ok,Nat.zero_add]
     rfl,?_,?_,?_,?_,(hb.new _).mono (by omega)⟩
    ·simp only [Env.find_set,q1,reduceIte,Nat.reduceEqDiff]
    ·simp only [Env.find_set,q15,reduceIte,Nat.reduceEqDiff]
    ·simp only [Env.find_set,q16,reduceIte,Nat.reduceEqDiff]
    ·simp only [Env.find_set,reduceIte,Nat.reduceEqDiff];rfl
   ·obtain rfl:i=l.appls.length:=by omega
    have e0:decide ((l.appls.length:Int)<(l.appls.length:Int))=false:=by simp
    refine .inr ⟨.exit 0,L'.set 18 (.bool false),t,by simp,?_,rfl,hE⟩
    simp (disch:=first|omega|(with_unfolding_all exact rfl)|(simp only[new_n,put_n,new_m];omega)|(refine put_m_le ?_;simp only[new_m];omega)) only [res52,K52r0,K52r1,K52r2,K52r3,K52r4,K52r5,K52r6,K52r7,K52r8,K52r9,K52r10,K52r11,K52,K52l0,Abs.W,reduceIte,Nat.reduceEqDiff,Nat.reduceAdd,decide_true,decide_false,kLoop_def,Nat.reduceSub,List.cons_append,List.nil_append,List.append_nil,List.length_cons,List.length_nil,Env.find_set,q16,q17,e0])
 simp (disch:=first|omega|(with_unfolding_all exact rfl)|(simp only[new_n,put_n,new_m];omega)|(refine put_m_le ?_;simp only[new_m];omega)) only [res52,K52r0,K52r1,K52r2,K52r3,K52r4,K52r5,K52r6,K52r7,K52r8,K52r9,K52r10,K52r11,K52,Abs.W,reduceIte,Nat.reduceEqDiff,Nat.reduceAdd,decide_true,decide_false,kLoop_def,Nat.reduceSub,List.cons_append,List.nil_append,List.append_nil,List.length_cons,List.length_nil,Env.find_set]
 refine ⟨s1,rfl,?_⟩
 have:=hE.m
 omega
theorem check_ok (N:Nat) (hN:6≤N) {no na:Nat→Prop} (l:Letting) (ok:l.Ok) (vS vA:AV) (s:St) (hL:LetAt no na s.h s.n l vS vA) (hs:s.n+2000≤far) :
  call Try.prog X N (.fn 35) [.agg (letV vS vA)] s=.val (.int .i64 0) s:=by
 obtain ⟨n,rfl⟩:∃ n,N=n+1:=⟨N - 1,by omega⟩
 refine call_plain' Try.func35 (fun u uh un um=>?_) rfl
 have hf:far=1000000000:=rfl
 rw [← uh,← un] at hL
 obtain ⟨w,hw⟩:∃ w:St,w=u.new (.cells [vS,vA] (tag 28)):=⟨_,rfl⟩
 have wn:w.n=u.n+1:=by rw [hw];rfl
 have wm:w.m=far:=by rw [hw];exact um
 have wg:∀ c,c<u.n→w.h.get c=u.h.get c:=fun c hc=>by rw [hw,get_new_ne _ _ _ (by omega)]
 have w0:w.h.get u.n=some (.cells [vS,vA] (tag 28)):=by rw [hw];exact get_new_eq _ _ _ rfl (by omega)
 have hM:=hL.grow wg (by omega:u.n≤w.n)
 have c1:=stalls_ok n (by omega) l ok vS vA w hM (by omega)
 have c2:=appls_ok n (by omega) l ok vS vA w hM (by omega)
 have z0:decide ((0:Int)=0)=true:=rfl
 rw [enter35]
 simp (disch:=first|omega|(with_unfolding_all exact rfl)|(simp only[new_n,put_n,new_m];omega)|(refine put_m_le ?_;simp only[new_m];omega)) only [res35,K35,K35r0,Abs.W,reduceIte,Nat.reduceEqDiff,Nat.reduceAdd,decide_true,decide_false,kLoop_def,Nat.reduceSub,List.cons_append,List.nil_append,List.append_nil,List.length_cons,List.length_nil]
 rw [← hw]
 simp (disch:=first|omega|(with_unfolding_all exact rfl)|(simp only[new_n,put_n,new_m];omega)|(refine put_m_le ?_;simp only[new_m];omega)) only [res35,K35r0,K35r1,K35r2,K35r3,K35r4,K35,Abs.W,reduceIte,Nat.reduceEqDiff,Nat.reduceAdd,decide_true,decide_false,kLoop_def,Nat.reduceSub,List.cons_append,List.nil_append,List.append_nil,List.length_cons,List.length_nil,Env.find_set,w0,c1,c2,z0,Nat.zero_add]
 exact ⟨_,rfl,by omega⟩
end Go.Proofs.Ytbcjojljiochfaa.walk
set_option maxRecDepth 10000
namespace Go.Proofs.Ytbcjojljiochfaa.walk
open Go.Abs Go.Proofs.Ytbcjojljiochfaa.code
structure Bedd (u t:St) (l w kk:Nat) (own:Nat→Prop):Prop where
 same:∀ y,y<u.n→y≠l→¬ own y→t.h.get y=u.h.get y
 n:u.n≤t.n
 le:t.n≤u.n+kk
 m:w≤t.m
 mle:t.m≤far
def ev2 (x:Int × Int):List AV:=[.int .i64 x.1,.int .i64 x.2]
theorem take_split {α:Type} {l:List α} {i:Nat} (h:i<l.length):l.take i++l[i]::l.drop (i+1)=l:=by rw [← List.drop_eq_getElem_cons h,List.take_append_drop]
theorem wish_round (N:Nat) (cx:Ctx) {l k0 w rm p i kk nb:Nat} {own rd:Nat→Prop} {μ:List (Int × Int)→Nat→Prop} {J:List (Int × Int)→Heap→Nat→Prop} {D:List (Int × Int)→Int × Int→Nat→Heap→Nat→Prop} {wl bl:List Int} {y1 y2 wv bv:AV} {u t:St} {L:Env} (hT:Takes Try.prog X N l k0 w rm own ev2 (wl.zip bl) μ J D) (hl:wl.length≤8) (hbl:bl.length=wl.length)
  (hW:Sl rd u.h nb 1 (intRows wl) wv) (hB:Sl rd u.h nb 1 (intRows bl) bv) (gp:u.h.get p=some (.cells [y1,y2,wv,bv] (tag 37))) (hp:rd p) (ho:∀ y,own y→¬ rd y∧y≤l) (hrl:¬ rd l) (hru:∀ y,rd y→y<u.n) (hlu:l<u.n) (hs:u.n+kk+rm+500≤far) (hi:i<wl.length)
  (q0:L.find 0=.yield l) (q1:L.find 1=.ptr p 0) (q6:L.find 6=wv) (q7:L.find 7=.int .i64 wl.length) (q8:L.find 8=.int .i64 i) (hD:Bedd u t l w kk own) (hz:(i=0∨t.m≤l)∧μ ((wl.zip bl).take i) t.m) (hJ:J ((wl.zip bl).take i) t.h t.n) :
  ∃ e L1 t1,K71l0 (call Try.prog X N) cx L [] t=.done e L1 [] t1∧Bedd u t1 l w (kk+k0) own∧t1.m≤l∧((e=.norm∧(J ((wl.zip bl).take (i+1)) t1.h t1.n∧μ ((wl.zip bl).take (i+1)) t1.m)∧L1.find 0=.yield l∧L1.find 1=.ptr p 0∧L1.find 6=wv∧L1.find 7=.int .i64 wl.length∧L1.find 8=.int .i64 (i+1:Nat))∨(e=.ret∧∃ x rest k,(wl.zip bl).take i++x::rest=wl.zip bl∧D ((wl.zip bl).take i) x k t1.h t1.n∧μ ((wl.zip bl).take i++[x]) t1.m)):=by
 have hf:far=1000000000:=rfl
 obtain ⟨same,tn,tk,tm,tf⟩:=hD
 have e0:decide ((i:Int)<(wl.length:Int))=true:=decide_eq_true (by omega)
 have tg:∀ y,rd y→t.h.get y=u.h.get y:=fun y hy=>same y (hru y hy) (fun e=>hrl (e▸hy)) (fun h=>(ho y h).1 hy)
 have hWt:=hW.move (h':=t.h) (n':=nb) (fun b _ h=>⟨tg b h,h⟩) (Nat.le_refl _)
 have hBt:=hB.move (h':=t.h) (n':=nb) (fun b _ h=>⟨tg b h,h⟩) (Nat.le_refl _)
 obtain ⟨b1,p1,c1,sz1,r1,r2,r3,r4⟩:=rowInt hWt.at_ hi
 obtain ⟨b2,p2,c2,sz2,s1,s2,s3,s4⟩:=rowInt hBt.at_ (show i<bl.length by omega)
 have gt:=(tg p hp).trans gp
 have kb:∀ t,okA (.val bv t)=.val bv t:=hB.okA
 have hz2:i<(wl.zip bl).length:=by rw [List.length_zip];omega
 have hx:(wl.zip bl)[i]=(wl[i],bl[i]):=List.getElem_zip
 have hsp:=take_split hz2
 rw [hx] at hsp
 have ad:∀ s,aAdd s .i64 (i:Int) 1=.val (.int .i64 ((i:Int)+1)) s:=fun s=>aAdd_i64 s _ _ (by omega)
 obtain ⟨c,s2',e2,f1,f2,f3,f4,f5,f6,f7,f8,f9⟩:=hT.take _ _ _ t hsp hJ (by omega) (by omega) tm tf hz.2
 have e2':call Try.prog X N (.yield l) [.int .i64 wl[i],.int .i64 bl[i]] t=.val (.bool c) s2':=e2
 have tks:(wl.zip bl).take (i+1)=(wl.zip bl).take i++[(wl[i],bl[i])]:=by rw [take_snoc hz2,hx]
 cases c with
 | true =>
  refine ⟨.norm,_,s2',by
   simp (disch:=first|omega|(with_unfolding_all exact rfl)|(simp only[new_n,put_n,new_m];omega)|(refine put_m_le ?_;simp only[new_m];omega)) only [K71l0,K71r1,K71r2,K71r3,K71r4,Abs.W,reduceIte,Nat.reduceEqDiff,Nat.reduceAdd,decide_true,decide_false,kLoop_def,Nat.reduceSub,List.cons_append,List.nil_append,List.append_nil,List.length_cons,List.length_nil,Env.find_set,Nat.zero_add,q0,q1,q6,q7,q8,e0,r2,r3,r4,s2,s3,s4,gt,kb,e2',ad]
   rfl,⟨fun y hy h1 h2=>(f3 y (by omega) h1 h2).trans (same y hy h1 h2),by omega,by omega,f6,by omega⟩,f8,.inl ⟨rfl,by rw [tks];exact ⟨f1 rfl,f9⟩,?_,?_,?_,?_,?_⟩⟩
  ·simp only [Env.find_set,q0,reduceIte,Nat.reduceEqDiff]
  ·simp only [Env.find_set,q1,reduceIte,Nat.reduceEqDiff]
  ·simp only [Env.find_set,q6,reduceIte,Nat.reduceEqDiff]
  ·simp only [Env.find_set,q7,reduceIte,Nat.reduceEqDiff]
  ·simp only [Env.find_set,reduceIte,Nat.reduceEqDiff];rfl
 | false =>
  exact ⟨.ret,_,s2',by
   simp (disch:=first|omega|(with_unfolding_all exact rfl)|(simp only[new_n,put_n,new_m];omega)|(refine put_m_le ?_;simp only[new_m];omega)) only [K71l0,K71r1,K71r2,K71r3,K71r4,Abs.W,reduceIte,Nat.reduceEqDiff,Nat.reduceAdd,decide_true,decide_false,kLoop_def,Nat.reduceSub,List.cons_append,List.nil_append,List.append_nil,List.length_cons,List.length_nil,Env.find_set,Nat.zero_add,q0,q1,q6,q7,q8,e0,r2,r3,r4,s2,s3,s4,gt,kb,e2',ad]
   rfl,⟨fun y hy h1 h2=>(f3 y (by omega) h1 h2).trans (same y hy h1 h2),by omega,by omega,f6,by omega⟩,f8,.inr ⟨rfl,_,_,_,hsp,f2 rfl,f9⟩⟩
theorem wishes1_hands {N p nb:Nat} {wl bl:List Int} {y1 y2 wv bv:AV} {H:Heap} {rd:Nat→Prop} (hl:wl.length≤8) (hbl:bl.length=wl.length) (hW:Sl rd H nb 1 (intRows wl) wv) (hB:Sl rd H nb 1 (intRows bl) bv) (gp:H.get p=some (.cells [y1,y2,wv,bv] (tag 37))) (hp:rd p) :
  Hands Try.prog X N (N+1) 1 H rd 71 [.ptr p 0] ev2 (wl.zip bl):=by
 intro l k0 w rm own μ J D s hT ho hrl hH hl' hw hs hJ hwm hm
 have hf:far=1000000000:=rfl
 have hkm:∀ i,i≤8→k0 * i≤k0 * 8:=fun i hi=>Nat.mul_le_mul_left _ hi
 have zl:(wl.zip bl).length=wl.length:=by rw [List.length_zip];omega
 obtain ⟨v',t,mm,e,⟨rfl,a1,a2,a3,a4,a5,a6,a7⟩,hm'⟩:=call_any (n:=N) (args:=[.yield l,.ptr p 0]) (s:=s) (Q:=fun v h n m'=>v=.tup []∧Ended (wl.zip bl) μ J D h n m'∧(∀ y,y<s.n→y≠l→¬ own y→h.get y=s.h.get y)∧s.n≤n∧n≤s.n+k0 * 8∧w≤m'∧m'≤far∧(wl.zip bl=[]∨m'≤l)) Try.func71 rfl (fun u uh un um=>by
  have hWu:=hW.move (h':=u.h) (n':=nb) (no':=rd) (fun y _ hy=>⟨by rw [uh];exact (hH y hy).2,hy⟩) (Nat.le_refl _)
  have hBu:=hB.move (h':=u.h) (n':=nb) (no':=rd) (fun y _ hy=>⟨by rw [uh];exact (hH y hy).2,hy⟩) (Nat.le_refl _)
  have gpu:u.h.get p=some (.cells [y1,y2,wv,bv] (tag 37)):=by rw [uh,(hH p hp).2];exact gp
  have kv:=hWu.okA
  have lv:=rowLen hWu.at_
  rw [enter71]
  simp (disch:=first|omega|(with_unfolding_all exact rfl)|(simp only[new_n,put_n,new_m];omega)|(refine put_m_le ?_;simp only[new_m];omega)) only [res71,K71r0,K71r1,K71r2,K71r3,K71r4,K71,Abs.W,reduceIte,Nat.reduceEqDiff,Nat.reduceAdd,decide_true,decide_false,kLoop_def,Nat.reduceSub,List.cons_append,List.nil_append,List.append_nil,List.length_cons,List.length_nil,gpu,kv,lv,Nat.zero_add]
  generalize hlp:loopN _ rounds _ _ _ _ _=rl
  have h0:Bedd u u l w (k0 * 0) own:=⟨fun _ _ _ _=>rfl,Nat.le_refl _,by omega,by omega,by omega⟩
  have hJ0:J ((wl.zip bl).take 0) u.h u.n:=by rw [uh,un];exact hJ
  obtain ⟨e,L1,s1,rfl,hex,⟨d1,d2,d3,d4,d5⟩,hE,hz⟩:=loop_of hlp (fun i L' t'=>L'.find 0=.yield l∧L'.find 1=.ptr p 0∧L'.find 6=wv∧L'.find 7=.int .i64 wl.length∧L'.find 8=.int .i64 i∧Bedd u t' l w (k0 * i) own∧J ((wl.zip bl).take i) t'.h t'.n∧((i=0∨t'.m≤l)∧μ ((wl.zip bl).take i) t'.m))
   (fun e L1 t'=>(e=.exit 0∨e=.ret)∧Bedd u t' l w (k0 * 8) own∧Ended (wl.zip bl) μ J D t'.h t'.n t'.m∧(wl.zip bl=[]∨t'.m≤l)) wl.length (by unfold rounds;omega)
   ⟨by simp only [Env.find_set,find_cons,reduceIte,Nat.reduceEqDiff],by simp only [Env.find_set,find_cons,reduceIte,Nat.reduceEqDiff],by simp only [Env.find_set,find_cons,reduceIte,Nat.reduceEqDiff],by simp only [Env.find_set,find_cons,reduceIte,Nat.reduceEqDiff],by simp only [Env.find_set,find_cons,reduceIte,Nat.reduceEqDiff];rfl,h0,hJ0,.inl rfl,hT.nil _⟩
   (fun i L' t' hi ⟨q0,q1,q6,q7,q8,hD,hJi,hz⟩=>by
    have hki:=hkm i (by omega)
    by_cases hlt:i<wl.length
    ·obtain ⟨e,L2,t2,p1,p2,p3,hcase⟩:=wish_round N ⟨71,none,Try.f71.ntmps,X 71⟩ hT hl hbl hWu hBu gpu hp ho hrl (fun y hy=>by have:=(hH y hy).1;omega) (by omega) (by omega) hlt q0 q1 q6 q7 q8 hD hz hJi
     have hki2:=hkm (i+1) (by omega)
     have p2':Bedd u t2 l w (k0 * (i+1)) own:=by rw [Nat.mul_succ];exact p2
     rcases hcase with ⟨rfl,z1,z2,z3,z4,z5,z6⟩ | ⟨rfl,x,rest,k,z1,z2,z3⟩
     ·exact .inl ⟨hlt,L2,t2,p1,z2,z3,z4,z5,z6,p2',z1.1,.inr p3,z1.2⟩
     ·exact .inr ⟨.ret,L2,t2,by simp,p1,.inr rfl,⟨p2'.same,p2'.n,by have:=p2'.le;omega,p2'.m,p2'.mle⟩,.inr ⟨_,x,rest,k,z1,z2,z3⟩,.inr p3⟩
    ·obtain rfl:i=wl.length:=by omega
     have e1:decide ((wl.length:Int)<(wl.length:Int))=false:=by simp
     have hJi':J (wl.zip bl) t'.h t'.n:=by rw [List.take_of_length_le (by omega)] at hJi;exact hJi
     obtain ⟨hz,hμ⟩:=hz
     rw [List.take_of_length_le (by omega)] at hμ
     refine .inr ⟨.exit 0,L'.set 9 (.bool false),t',by simp,?_,.inl rfl,⟨hD.same,hD.n,by have:=hD.le;omega,hD.m,hD.mle⟩,.inl ⟨hJi',hμ⟩,?_⟩
     ·simp (disch:=first|omega|(with_unfolding_all exact rfl)|(simp only[new_n,put_n,new_m];omega)|(refine put_m_le ?_;simp only[new_m];omega)) only [res71,K71r0,K71r1,K71r2,K71r3,K71r4,K71,K71l0,Abs.W,reduceIte,Nat.reduceEqDiff,Nat.reduceAdd,decide_true,decide_false,kLoop_def,Nat.reduceSub,List.cons_append,List.nil_append,List.append_nil,List.length_cons,List.length_nil,Env.find_set,q7,q8,e1]
     ·rcases hz with hz | hz
      ·exact .inl (List.length_eq_zero_iff.mp (by omega))
      ·exact .inr hz)
  have hfin:∀ e:Ex,(e=.exit 0∨e=.ret)→finA Try.prog Try.f71 (blkR 0 (.done e L1 [] s1))=.val (.tup []) s1:=by
   intro e he
   rcases he with rfl | rfl
   ·simp (disch:=first|omega|(with_unfolding_all exact rfl)|(simp only[new_n,put_n,new_m];omega)|(refine put_m_le ?_;simp only[new_m];omega)) only [res71,K71r0,K71r1,K71r2,K71r3,K71r4,K71,Abs.W,reduceIte,Nat.reduceEqDiff,Nat.reduceAdd,decide_true,decide_false,kLoop_def,Nat.reduceSub,List.cons_append,List.nil_append,List.append_nil,List.length_cons,List.length_nil,leave_nil]
   ·simp (disch:=first|omega|(with_unfolding_all exact rfl)|(simp only[new_n,put_n,new_m];omega)|(refine put_m_le ?_;simp only[new_m];omega)) only [res71,K71r0,K71r1,K71r2,K71r3,K71r4,K71,Abs.W,reduceIte,Nat.reduceEqDiff,Nat.reduceAdd,decide_true,decide_false,kLoop_def,Nat.reduceSub,List.cons_append,List.nil_append,List.append_nil,List.length_cons,List.length_nil,leave_nil]
  rw [hfin e hex]
  refine ⟨_,_,rfl,⟨rfl,hE,fun y hy h1 h2=>by rw [d1 y (by omega) h1 h2,uh],by omega,by omega,d4,d5,hz⟩,fun _ hle=>⟨rfl,?_,fun _ _ _ _=>trivial,Nat.le_refl _,by omega,d4,d5,hz⟩⟩
  rcases hz with hz | hz
  ·rw [hz];exact .inl ⟨hJ,hT.nil _⟩
  ·omega)
 have hkk:=hkm 8 (Nat.le_refl _)
 have htm:t.m≤mm∨wl.zip bl=[]:=by
  rcases a7 with h | h
  ·exact .inr h
  ·rcases hm' with ⟨h1,hm'⟩ | ⟨h1,hm'⟩
   ·omega
   ·exact .inl (by omega)
 have a1':Ended (wl.zip bl) μ J D t.h t.n t.m:=by
  rcases a1 with ⟨b1,b2⟩ | ⟨p,x,rest,k,b1,b2,b3⟩
  ·rcases htm with h | h
   ·exact .inl ⟨b1,hT.mono _ _ _ h b2⟩
   ·exact .inl ⟨b1,by rw [h];exact hT.nil _⟩
  ·rcases htm with h | h
   ·exact .inr ⟨p,x,rest,k,b1,b2,hT.mono _ _ _ h b3⟩
   ·rw [h] at b1;simp at b1
 refine ⟨t,e,a1',a2,a3,by omega,?_,?_,?_⟩
 ·rcases hm' with ⟨_,hm'⟩ | ⟨_,hm'⟩<;>omega
 ·rcases hm' with ⟨_,hm'⟩ | ⟨_,hm'⟩<;>omega
 ·rcases a7 with h | h
  ·exact .inl h
  ·rcases hm' with ⟨h1,hm'⟩ | ⟨h1,hm'⟩
   ·omega
   ·exact .inr (by omega)
end Go.Proofs.Ytbcjojljiochfaa.walk
