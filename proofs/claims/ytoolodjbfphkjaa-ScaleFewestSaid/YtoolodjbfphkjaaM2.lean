/- Lists that grow; parts of lists; picks. -/
import Derived.Test.YtoolodjbfphkjaaM1
import Derived.Test.YtoolodjbfphkjaaCodes
import Derived.Test.YtoolodjbfphkjaaAbsOps
import Derived.Test.YtoolodjbfphkjaaWalkAll
set_option linter.unusedSimpArgs false
set_option maxHeartbeats 16000000
set_option linter.unusedVariables false
set_option maxRecDepth 10000
namespace Go.Abs
structure IsAt (h:Heap) (n b w tg:Nat) (rows:List (List AV)) (v:AV):Prop where
 wide:∀ r ∈ rows,r.length=w
 is:(rows=[]∧v=.nilslice)∨(rows≠[]∧b<n∧v=.slice b 0 rows.length rows.length true∧h.get b=some (.cells rows.flatten (w+tg)))
theorem IsAt.nil (h:Heap) (n b w tg:Nat):IsAt h n b w tg [] .nilslice:=⟨fun _ hr=>(by cases hr),.inl ⟨rfl,rfl⟩⟩
theorem IsAt.mono {h h':Heap} {n n' b w tg:Nat} {rows:List (List AV)} {v:AV} (r:IsAt h n b w tg rows v) (hh:b<n→h'.get b=h.get b) (hn:n≤n'):IsAt h' n' b w tg rows v :=
 ⟨r.wide,r.is.imp id fun ⟨h1,h2,h3,h4⟩=>⟨h1,by omega,h3,by rw [hh h2];exact h4⟩⟩
theorem IsAt.rows {h:Heap} {n b w tg:Nat} {rows:List (List AV)} {v:AV} (r:IsAt h n b w tg rows v):Rows h 0 n w tg rows v :=
 ⟨r.wide,r.is.imp id fun ⟨_,h2,h3,h4⟩=>⟨b,Nat.zero_le _,h2,h3,h4⟩⟩
theorem IsAt.okA {h:Heap} {n b w tg:Nat} {rows:List (List AV)} {v:AV} (r:IsAt h n b w tg rows v) (t:St):Abs.okA (.val v t)=.val v t:=okA_ne r.rows.at_.ne
theorem IsAt.scal {h:Heap} {n b w tg:Nat} {rows:List (List AV)} {v:AV} (r:IsAt h n b w tg rows v):scalars [v]=true∧cellsOf 1 v=some [v]:=by
 rcases r.is with ⟨_,h2⟩ | ⟨_,_,h3,_⟩
 ·subst h2;exact ⟨rfl,rfl⟩
 ·subst h3;exact ⟨rfl,rfl⟩
theorem append_at {s:St} {b w bytes tg:Nat} {rows:List (List AV)} {v:AV} (r:IsAt s.h s.n b w tg rows v) {p sz:Nat} {row:List AV} (hp:s.h.get p=some (.cells row sz)) (hw:row.length=w) (hsc:scalars row=true)
  (hb:(rows.length+1) * bytes≤1000000) (htg:szOf (w+tg)=w) (hs:s.n<549755813888) :
  ∃ s',appendA false w bytes tg s v (.slice p 0 1 1 false)=.val (.slice s.n 0 (rows.length+1) (rows.length+1) true) s'∧IsAt s'.h s'.n s.n w tg (rows++[row]) (.slice s.n 0 (rows.length+1) (rows.length+1) true)∧s'.n=s.n+1∧(∀ c,c<s.n→c≠b→s'.h.get c=s.h.get c)∧(∀ k,k≤b→k≤s.n→k≤s.m→k≤s'.m)∧s'.m≤s.m:=by
 rcases r.is with ⟨h1,h2⟩ | ⟨h1,h2,h3,h4⟩
 ·obtain ⟨v',s',e1,e2,e3,e4,e5,e6,e7,e8⟩:=append_row (lo:=s.n) (bytes:=bytes) (⟨r.wide,.inl ⟨h1,h2⟩⟩:Rows s.h s.n s.n w tg rows v) hp hw hsc hb htg hs (Nat.le_refl _)
  subst e8
  refine ⟨s',e1,⟨e2.wide,.inr ⟨by simp,by omega,by simp,?_⟩⟩,e3,fun c hc _=>e4 c hc,fun k _ hk hm=>e6 k hk hm,e7⟩
  rcases e2.is with ⟨z,_⟩ | ⟨b',_,_,z2,z3⟩
  ·simp at z
  ·injection z2 with z2
   rw [z2];exact z3
 ·obtain ⟨v',s',e1,e2,e3,e4,e5,e6,e7,e8⟩:=append_row (lo:=b) (bytes:=bytes) (⟨r.wide,.inr ⟨b,Nat.le_refl _,h2,h3,h4⟩⟩:Rows s.h b s.n w tg rows v) hp hw hsc hb htg hs (by omega)
  subst e8
  refine ⟨s',e1,⟨e2.wide,.inr ⟨by simp,by omega,by simp,?_⟩⟩,e3,fun c hc hcb=>e5 c hc (by rw [h3];intro z;injection z with z;exact hcb z.symm),fun k hk _ hm=>e6 k hk hm,e7⟩
  rcases e2.is with ⟨z,_⟩ | ⟨b',_,_,z2,z3⟩
  ·simp at z
  ·injection z2 with z2
   rw [z2];exact z3
theorem nth_skip:∀ (a l:List AV) (k:Nat),nth (a++l) (a.length+k)=nth l k
 | [],l,k=>by rw [List.length_nil,Nat.zero_add,List.nil_append]
 | x::a,l,k=>by rw [List.length_cons,List.cons_append,show a.length+1+k=(a.length+k)+1 by omega,nth_cons,if_neg (by omega)];exact nth_skip a l k
theorem nth_front:∀ (R l:List AV) (k:Nat),k<R.length→nth (R++l) k=nth R k
 | [],l,k,h=>by simp at h
 | x::R,l,0,h=>rfl
 | x::R,l,k+1,h=>by rw [List.cons_append,nth_cons,nth_cons,if_neg (by omega),if_neg (by omega),Nat.add_sub_cancel];exact nth_front R l k (by simpa using h)
theorem cut_nth {o k i:Nat} {c r:List AV} (h:cut o k c=some r) (hi:i<k):nth c (o+i)=nth r i:=by
 obtain ⟨a,t,q1,q2,q3⟩:=cut_some h
 rw [q1,← q2,List.append_assoc,nth_skip,nth_front _ _ _ (by omega)]
theorem scal_ln {s:St} {v w:AV} (h:lenSlA s v=.val w s):v.scalar=true:=by cases v<;>first | rfl | cases h
end Go.Abs
namespace Go.Proofs.Ytoolodjbfphkjaa.walk
open Go.Abs
def intRows (l:List Int):List (List AV):=l.map fun x=>[.int .i64 x]
theorem intRows_len (l:List Int):(intRows l).length=l.length:=List.length_map ..
theorem intRows_snoc (l:List Int) (x:Int):intRows (l++[x])=intRows l++[[.int .i64 x]]:=by unfold intRows;rw [List.map_append];rfl
theorem scals_cons {v:AV} (h:scalars [v]=true) (l:List AV):scalars (v::l)=scalars l:=by
 have e:∀ (x:AV) (l:List AV),scalars (x::l)=(match x.scalar with | true=>scalars l | false=>false):=fun _ _=>rfl
 rw [e] at h ⊢
 cases hv:v.scalar with
 | true=>rfl
 | false=>rw [hv] at h;cases h
theorem intRow_at {h:Heap} {n:Nat} {l:List Int} {v:AV} (r:RowsAt h n 1 (intRows l) v) {i:Nat} (hi:i<l.length):∃ b p c sz,b<n∧(∀ s,ixsA 1 s v (.int .i64 i)=.val (.ptr b p) s)∧h.get b=some (.cells c sz)∧nth c p=.int .i64 (l.getD i 0):=by
 obtain ⟨b,p,c,sz,h1,h2,h3,h4⟩:=r.at_ i (by rw [intRows_len];exact hi)
 have e:(intRows l)[i]'(by rw [intRows_len];exact hi)=[.int .i64 (l.getD i 0)]:=by simp [intRows,List.getD,hi]
 rw [e] at h4
 exact ⟨b,p,c,sz,h1,h2,h3,cut1_nth h4⟩
def LAt (h:Heap) (n bl:Nat) (l:List Int) (v:AV):Prop:=∃ x,x≠bl∧IsAt h n x 1 (tag 3) (intRows l) v
theorem LAt.nil (h:Heap) (n bl:Nat):LAt h n bl [] .nilslice:=⟨bl+1,by omega,IsAt.nil _ _ _ _ _⟩
theorem LAt.move {h h':Heap} {n n' bl bl':Nat} {l:List Int} {v:AV} (a:LAt h n bl l v) (hh:∀ c,c<n→c≠bl→h'.get c=h.get c) (hn:n≤n') (hb:bl'=bl∨n≤bl'):LAt h' n' bl' l v:=by
 obtain ⟨x,h1,h2⟩:=a
 rcases h2.is with ⟨h3,h4⟩ | ⟨_,h3,_⟩
 ·exact ⟨bl'+1,by omega,h2.wide,.inl ⟨h3,h4⟩⟩
 ·exact ⟨x,by omega,h2.mono (fun _=>hh x h3 h1) hn⟩
theorem LAt.rows {h:Heap} {n bl:Nat} {l:List Int} {v:AV} (a:LAt h n bl l v):RowsAt h n 1 (intRows l) v:=by obtain ⟨x,_,h⟩:=a;exact h.rows.at_
end Go.Proofs.Ytoolodjbfphkjaa.walk
set_option maxRecDepth 10000
namespace Go.Proofs.Ytoolodjbfphkjaa.walk
open Go.Abs Go.Proofs.Ytoolodjbfphkjaa.code
theorem put_m_leP {s:St} {b k:Nat} {o:AObj} (h:k≤s.m) (hb:k≤b):k≤(s.put b o).m:=by
 show k≤minN s.m b
 rw [minN_eq]
 omega
def two (n:Nat) (a b:Int):List Int:=if n=2 then [a,b] else [a]
theorem two_len {n:Nat} (h:n=1∨n=2) (a b:Int):(two n a b).length=n:=by rcases h with rfl | rfl<;>rfl
theorem two_get {n:Nat} (h:n=1∨n=2) (a b:Int) {k:Nat} (hk:k<n):(two n a b).getD k 0=if k=0 then a else b:=by
 rcases h with rfl | rfl
 ·obtain rfl:k=0:=by omega
  rfl
 ·rcases (show k=0∨k=1 by omega) with rfl | rfl<;>rfl
structure SealAt (h:Heap) (n:Nat) (s:Sl) (vL vE:AV):Prop where
 l:RowsAt h n 1 (intRows (two s.n s.l0 s.l1)) vL
 e:RowsAt h n 1 (intRows (two s.n s.e0 s.e1)) vE
 bl:∀ b,blockOf vL=some b→b<n
theorem SealAt.grow {h h':Heap} {n n':Nat} {s:Sl} {vL vE:AV} (a:SealAt h n s vL vE) (hh:∀ c,c<n→h'.get c=h.get c) (hn:n≤n'):SealAt h' n' s vL vE:=⟨a.l.grow hh hn,a.e.grow hh hn,fun b hb=>Nat.lt_of_lt_of_le (a.bl b hb) hn⟩
abbrev sealV (s:Sl) (vL vE:AV):List AV:=[vL,vE,.int .i64 s.most,.int .i64 s.days]
abbrev planV (s:Sl) (vL vE:AV) (mb:Nat):List AV:=[vL,vE,.int .i64 s.most,.int .i64 s.days,.map mb]
abbrev moC (d:Nat) (u:Int × Int):List AV:=[.int .i64 d,.int .i64 u.1,.int .i64 u.2,.int .i64 0,.int .i64 0]
theorem SealAt.lenL {h:Heap} {n:Nat} {s:Sl} {vL vE:AV} (a:SealAt h n s vL vE) (hn:s.n=1∨s.n=2) (t:St):lenSlA t vL=.val (.int .i64 s.n) t:=by
 have:=a.l.len t
 rwa [intRows_len,two_len hn] at this
theorem SealAt.lenE {h:Heap} {n:Nat} {s:Sl} {vL vE:AV} (a:SealAt h n s vL vE) (hn:s.n=1∨s.n=2) (t:St):lenSlA t vE=.val (.int .i64 s.n) t:=by
 have:=a.e.len t
 rwa [intRows_len,two_len hn] at this
theorem SealAt.scal {h:Heap} {n:Nat} {s:Sl} {vL vE:AV} (a:SealAt h n s vL vE) (x:List AV):scalars (vL::vE::x)=scalars x:=by
 have h1:=scal_ln (a.l.len ⟨h,n,0⟩)
 have h2:=scal_ln (a.e.len ⟨h,n,0⟩)
 rw [scals_cons (by simp [scalars,h1]),scals_cons (by simp [scalars,h2])]
/-! ### Sets -/
theorem tst_shift {n set k:Nat} (hn:n=1∨n=2) (hk:k<n) (hs:set<2 ^ n):∀ s:St,shrA s (.int .i64 (set:Int)) (.int .i64 (((n:Int) - 1) - (k:Int)))=.val (.int .i64 ((set / 2 ^ (n - 1 - k):Nat):Int)) s:=by
 intro s
 rcases hn with rfl | rfl
 ·obtain rfl:k=0:=by omega
  have:set=0∨set=1:=by have:2 ^ 1=2:=rfl;omega
  rcases this with rfl | rfl<;>rfl
 ·have:set=0∨set=1∨set=2∨set=3:=by have:2 ^ 2=4:=rfl;omega
  rcases (show k=0∨k=1 by omega) with rfl | rfl<;>rcases this with rfl | rfl | rfl | rfl<;>rfl
theorem tst_and {n set k:Nat} (hn:n=1∨n=2) (hk:k<n) (hs:set<2 ^ n):∀ s:St,aAnd s .i64 ((set / 2 ^ (n - 1 - k):Nat):Int) 1=.val (.int .i64 (if tst n set k then 1 else 0)) s:=by
 intro s
 rcases hn with rfl | rfl
 ·obtain rfl:k=0:=by omega
  have:set=0∨set=1:=by have:2 ^ 1=2:=rfl;omega
  rcases this with rfl | rfl<;>rfl
 ·have:set=0∨set=1∨set=2∨set=3:=by have:2 ^ 2=4:=rfl;omega
  rcases (show k=0∨k=1 by omega) with rfl | rfl<;>rcases this with rfl | rfl | rfl | rfl<;>rfl
theorem tst_eq (n set k:Nat):decide ((if tst n set k then (1:Int) else 0)=1)=tst n set k:=by cases tst n set k<;>rfl
theorem tests_ok {s:Sl} (hn:s.n=1∨s.n=2) (N:Nat) (hN:1≤N) {h:Heap} {n:Nat} {vL vE:AV} (mb set k:Nat) (hk:k<s.n) (hs:set<2 ^ s.n) (t:St) (hS:SealAt t.h t.n s vL vE) (ht:t.n+100≤far):call Try.prog X N (.fn 42) [.agg (planV s vL vE mb),.int .i64 set,.int .i64 k] t=.val (.bool (tst s.n set k)) t:=by
 obtain ⟨n,rfl⟩:∃ n,N=n+1:=⟨N - 1,by omega⟩
 refine call_plain' Try.func42 (fun u uh un um=>?_) rfl
 have hf:far=1000000000:=rfl
 rw [← uh,← un] at hS
 have kL:∀ t,okA (.val vL t)=.val vL t:=fun t=>okA_ne hS.l.ne
 have ln:=hS.lenL hn
 have sb1:∀ t,aSub t .i64 (s.n:Int) 1=.val (.int .i64 ((s.n:Int) - 1)) t:=fun t=>aSub_i64 t _ _ (by omega)
 have sb2:∀ t,aSub t .i64 ((s.n:Int) - 1) (k:Int)=.val (.int .i64 (((s.n:Int) - 1) - (k:Int))) t:=fun t=>aSub_i64 t _ _ (by omega)
 rw [enter42]
 simp (disch:=first|omega|(with_unfolding_all exact rfl)|(simp only[new_n,put_n,new_m];omega)|(refine put_m_le ?_;simp only[new_m];omega)) only [res42,K42r0,K42r1,K42,Abs.W,reduceIte,Nat.reduceEqDiff,Nat.reduceAdd,decide_true,decide_false,kLoop_def,Nat.reduceSub,List.cons_append,List.nil_append,List.append_nil,List.length_cons,List.length_nil,Nat.zero_add,kL,ln,sb1,sb2,kShr_def,tst_shift hn hk hs,tst_and hn hk hs,tst_eq]
 exact ⟨_,rfl,by simp only [new_m];omega⟩
theorem ones_ok (N:Nat) (hN:2≤N) (set:Nat) (hs:set<4) (t:St) (ht:t.n+100≤far):call Try.prog X N (.fn 77) [.int .u64 (set:Int)] t=.val (.int .i64 (pop set:Nat)) t:=by
 obtain ⟨n,rfl⟩:∃ n,N=n+2:=⟨N - 2,by omega⟩
 have hf:far=1000000000:=rfl
 have h64:∀ w:St,w.n+100≤far→call Try.prog X (n+1) (.fn 81) [.int .u64 (set:Int)] w=.val (.int .i64 (pop set:Nat)) w:=fun w hw=>by
  refine call_plain' Try.func81 (fun u uh un um=>?_) rfl
  rw [enter81]
  have:set=0∨set=1∨set=2∨set=3:=by omega
  rcases this with rfl | rfl | rfl | rfl<;>exact ⟨u,rfl,by omega⟩
 refine call_plain' Try.func77 (fun u uh un um=>?_) rfl
 rw [enter77]
 have hb:=h64 u (by omega)
 simp (disch:=first|omega|(with_unfolding_all exact rfl)|(simp only[new_n,put_n,new_m];omega)|(refine put_m_le ?_;simp only[new_m];omega)) only [res77,K77r0,K77r1,K77r2,K77,Abs.W,reduceIte,Nat.reduceEqDiff,Nat.reduceAdd,decide_true,decide_false,kLoop_def,Nat.reduceSub,List.cons_append,List.nil_append,List.append_nil,List.length_cons,List.length_nil,hb]
 exact ⟨_,rfl,by omega⟩
end Go.Proofs.Ytoolodjbfphkjaa.walk
set_option maxRecDepth 10000
namespace Go.Proofs.Ytoolodjbfphkjaa.walk
open Go.Abs Go.Proofs.Ytoolodjbfphkjaa.code
theorem leave_ctP {P:Program} (a:Nat) (t:TypeId) (b:Nat) (L:Env) (s:St) {sh:Option Nat} (hs:shapeT P t=some sh) {v:AV} (h:okA (loadA sh s (L.find a))=.val v s):leaveA P [.cell a t,.tmp b] L [] s=.val (.tup [v,L.find b]) s:=by
 unfold leaveA
 simp only [takeDfs,resultsA,hs,h]
 rfl
theorem ixa41 (s:St) (b k:Nat) (hk:k<2):ixaA 4 1 s (.ptr b 1) (.int .i64 (k:Int))=.val (.ptr b (1+k)) s:=by
 rcases (show k=0∨k=1 by omega) with rfl | rfl<;>rfl
def setK (u:Int × Int) (k:Nat) (x:Int):Int × Int:=if k=0 then (x,u.2) else (u.1,x)
theorem mo_nth {d:Nat} {u:Int × Int} {k:Nat} (hk:k<2):nth (moC d u) (1+k)=.int .i64 (gk u k):=by
 rcases (show k=0∨k=1 by omega) with rfl | rfl<;>rfl
theorem mo_over {d:Nat} {u:Int × Int} {k:Nat} (hk:k<2) (x:Int):over (1+k) [.int .i64 x] (moC d u)=some (moC d (setK u k x)):=by
 rcases (show k=0∨k=1 by omega) with rfl | rfl<;>rfl
def upto (s:Sl) (d set:Nat) (u:Int × Int) (k:Nat):Int × Int:=if k=0 then u else if k=1 then setK u 0 (s.un d set 0 u.1) else setK (setK u 0 (s.un d set 0 u.1)) 1 (s.un d set 1 u.2)
theorem upto_step (s:Sl) (d set:Nat) (u:Int × Int) {k:Nat} (hk:k<2):gk (upto s d set u k) k=gk u k∧upto s d set u (k+1)=setK (upto s d set u k) k (s.un d set k (gk u k)):=by
 rcases (show k=0∨k=1 by omega) with rfl | rfl<;>exact ⟨rfl,rfl⟩
theorem upto_end {s:Sl} (hn:s.n=1∨s.n=2) (d set:Nat) (u:Int × Int):upto s d set u s.n=s.nx d set u:=by
 unfold upto Sl.nx
 rcases hn with hn | hn<;>rw [hn]<;>rfl
theorem un_at {s:Sl} (hn:s.n=1∨s.n=2) {d set:Nat} {u:Int × Int} {k:Nat} (hk:k<s.n):gk (s.nx d set u) k=s.un d set k (gk u k):=gk_nx hn hk
theorem ok_ev {s:Sl} (ok:s.Ok) (k:Nat):0≤s.ev k∧s.ev k≤4:=by
 unfold Sl.ev
 split
 ·exact ok.e0
 ·exact ok.e1
theorem next_ok {s:Sl} (ok:s.Ok) (N:Nat) (hN:2≤N) {vL vE:AV} (mb d set:Nat) (u:Int × Int) (hd:d≤100) (hu:∀ k, -10≤gk u k∧gk u k≤100) (hs:set<2 ^ s.n) (t:St) (hS:SealAt t.h t.n s vL vE) (ht:t.n+300≤far) :
  ∃ R,call Try.prog X N (.fn 43) [.agg (planV s vL vE mb),.agg (moC d u),.int .i64 set] t=.val (.tup [.agg R,.bool (s.okn d (s.nx d set u))]) t∧R=if s.okn d (s.nx d set u)=true then moC (d+1) (s.nx d set u) else moC 0 (0,0):=by
 obtain ⟨N,rfl⟩:∃ n,N=n+1:=⟨N - 1,by omega⟩
 have hn:=ok.n
 have hf:far=1000000000:=rfl
 obtain ⟨R,hR⟩:∃ R:List AV,R=if s.okn d (s.nx d set u)=true then moC (d+1) (s.nx d set u) else [.int .i64 0,.int .i64 0,.int .i64 0,.int .i64 0,.int .i64 0]:=⟨_,rfl⟩
 have hpl:plain (.tup [.agg R,.bool (s.okn d (s.nx d set u))])=true:=by rw [hR];cases s.okn d (s.nx d set u)<;>rfl
 refine ⟨R,call_plain' Try.func43 (fun w wh wn wm=>?_) hpl,hR⟩
 rw [← wh,← wn] at hS
 have kE:∀ t,okA (.val vE t)=.val vE t:=fun t=>okA_ne hS.e.ne
 have le:=hS.lenE hn
 rw [enter43]
 obtain ⟨w1,hw1⟩:∃ x:St,x=(w.new (.cells (planV s vL vE mb) (tag 100))):=⟨_,rfl⟩
 obtain ⟨w2,hw2⟩:∃ x:St,x=(w1.new (.cells (moC d u) (tag 103))):=⟨_,rfl⟩
 obtain ⟨w3,hw3⟩:∃ x:St,x=(w2.new (.cells (moC 0 (0,0)) (tag 103))):=⟨_,rfl⟩
 have n1:w1.n=w.n+1:=by rw [hw1];rfl
 have n2:w2.n=w.n+2:=by rw [hw2];show w1.n+1=_;omega
 have n3:w3.n=w.n+3:=by rw [hw3];show w2.n+1=_;omega
 have g0:w3.h.get w.n=some (.cells (planV s vL vE mb) (tag 100)):=by rw [hw3,get_new_ne _ _ _ (by omega),hw2,get_new_ne _ _ _ (by omega),hw1];exact get_new_eq _ _ _ rfl (by omega)
 have g1:w3.h.get (w.n+1)=some (.cells (moC d u) (tag 103)):=by rw [hw3,get_new_ne _ _ _ (by omega),hw2];exact get_new_eq _ _ _ (by omega) (by omega)
 have g2:w3.h.get (w.n+2)=some (.cells (moC 0 (0,0)) (tag 103)):=by rw [hw3];exact get_new_eq _ _ _ (by omega) (by omega)
 have gs:∀ c,c<w.n→w3.h.get c=w.h.get c:=fun c hc=>by rw [hw3,get_new_ne _ _ _ (by omega),hw2,get_new_ne _ _ _ (by omega),hw1,get_new_ne _ _ _ (by omega)]
 have m3:w3.m=far:=by rw [hw3,hw2,hw1];exact wm
 simp (disch:=first|omega|(with_unfolding_all exact rfl)|(simp only[new_n,put_n,new_m];omega)|(refine put_m_le ?_;simp only[new_m];omega)) only [K43,K43r0,Abs.W,reduceIte,Nat.reduceEqDiff,Nat.reduceAdd,decide_true,decide_false,kLoop_def,Nat.reduceSub,List.cons_append,List.nil_append,List.append_nil,List.length_cons,List.length_nil,Env.find_set,Nat.zero_add]
 rw [← hw1]
 have e2:w1.new (.cells [.int .i64 (d:Int),.int .i64 u.1,.int .i64 u.2,.int .i64 0,.int .i64 0] (tag 103))=w2:=hw2.symm
 rw [e2]
 have e3:w2.new (.cells [.int .i64 0,.int .i64 0,.int .i64 0,.int .i64 0,.int .i64 0] (tag 103))=w3:=hw3.symm
 rw [e3,n1,n2]
 simp (disch:=first|omega|(with_unfolding_all exact rfl)|(simp only[new_n,put_n,new_m];omega)|(refine put_m_le ?_;simp only[new_m];omega)) only [K43r1,Abs.W,reduceIte,Nat.reduceEqDiff,Nat.reduceAdd,decide_true,decide_false,kLoop_def,Nat.reduceSub,List.cons_append,List.nil_append,List.append_nil,List.length_cons,List.length_nil,Env.find_set,g0,kE,le,Nat.zero_add]
 generalize hlp:loopN _ rounds _ _ _ _ _=q1
 obtain ⟨e,L1,t1,rfl,⟨l4,l6,t1n,t1m,t1g2,hQ⟩⟩:=loop_of hlp (fun i L t=>L.find 2=.int .i64 (set:Int)∧L.find 3=.ptr w.n 0∧L.find 4=.ptr (w.n+1) 0∧L.find 6=.ptr (w.n+2) 0∧L.find 12=vE∧L.find 13=.int .i64 (s.n:Int)∧L.find 14=.int .i64 (i:Int)∧t.n=w.n+3∧w.n≤t.m∧(∀ c,c<w.n→t.h.get c=w.h.get c)∧t.h.get w.n=some (.cells (planV s vL vE mb) (tag 100))∧t.h.get (w.n+1)=some (.cells (moC d (upto s d set u i)) (tag 103))∧t.h.get (w.n+2)=some (.cells (moC 0 (0,0)) (tag 103))∧∀ k,k<i→(d:Int)≤s.un d set k (gk u k))
  (fun e L t=>L.find 4=.ptr (w.n+1) 0∧L.find 6=.ptr (w.n+2) 0∧t.n=w.n+3∧w.n≤t.m∧t.h.get (w.n+2)=some (.cells (moC 0 (0,0)) (tag 103))∧((e=.ret∧L.find 7=.bool false∧s.okn d (s.nx d set u)=false)∨(e=.exit 0∧t.h.get (w.n+1)=some (.cells (moC d (s.nx d set u)) (tag 103))∧s.okn d (s.nx d set u)=true))) s.n (by unfold rounds;omega)
  ⟨by simp only [find_cons,Env.find_set,reduceIte,Nat.reduceEqDiff],by simp only [find_cons,Env.find_set,reduceIte,Nat.reduceEqDiff],by simp only [find_cons,Env.find_set,reduceIte,Nat.reduceEqDiff],by simp only [find_cons,Env.find_set,reduceIte,Nat.reduceEqDiff],by simp only [find_cons,Env.find_set,reduceIte,Nat.reduceEqDiff],by simp only [find_cons,Env.find_set,reduceIte,Nat.reduceEqDiff],by simp only [find_cons,Env.find_set,reduceIte,Nat.reduceEqDiff];rfl,n3,by omega,gs,g0,g1,g2,fun k hk=>by omega⟩
  (fun i L t hi ⟨q2,q3,q4,q6,q12,q13,q14,tn,tm,ts,tg,tg1,tg2,hok⟩=>by
   by_cases hlt:i<s.n
   ·have hi2:i<2:=by omega
    have e0:decide ((i:Int)<(s.n:Int))=true:=decide_eq_true (by omega)
    obtain ⟨pb,pp,pc,pz,x1,x2,x3,x4⟩:=intRow_at hS.e (i:=i) (by rw [two_len hn];exact hlt)
    rw [two_get hn _ _ hlt] at x4
    have x4':nth pc pp=.int .i64 (s.ev i):=x4
    have x3':t.h.get pb=some (.cells pc pz):=(ts pb x1).trans x3
    have htests:=tests_ok (s:=s) hn N (by omega) (h:=t.h) (n:=t.n) (vL:=vL) (vE:=vE) mb set i hlt hs t (hS.grow ts (by omega)) (by omega)
    obtain ⟨us1,us2⟩:=upto_step s d set u hi2
    obtain ⟨C,hC⟩:∃ C,C=moC d (upto s d set u i):=⟨_,rfl⟩
    have c0:nth C 0=.int .i64 (d:Int):=by rw [hC];rfl
    have ck:nth C (1+i)=.int .i64 (gk u i):=by rw [hC,mo_nth hi2,us1]
    have co:∀ x,over (1+i) [.int .i64 x] C=some (moC d (setK (upto s d set u i) i x)):=fun x=>by rw [hC];exact mo_over hi2 x
    rw [← hC] at tg1
    have he:=ok_ev ok i
    have ix:=fun st=>ixa41 st (w.n+1) i hi2
    have ad:∀ st,aAdd st .i64 (d:Int) (s.ev i)=.val (.int .i64 ((d:Int)+s.ev i)) st:=fun st=>aAdd_i64 st _ _ (by omega)
    have ad1:∀ st,aAdd st .i64 (i:Int) 1=.val (.int .i64 ((i+1:Nat):Int)) st:=fun st=>aAdd_i64 st _ _ (by omega)
    have hub : -10≤gk u i∧gk u i≤100:=hu i
    obtain ⟨C2,hC2⟩:∃ C,C=moC d (upto s d set u (i+1)):=⟨_,rfl⟩
    have d0:nth C2 0=.int .i64 (d:Int):=by rw [hC2];rfl
    have dk:nth C2 (1+i)=.int .i64 (s.un d set i (gk u i)):=by
     rw [hC2,mo_nth hi2,us2]
     rcases (show i=0∨i=1 by omega) with rfl | rfl<;>rfl
    have ixl:=x2
    generalize hlb:s.un d set i (gk u i)=un at *
    have okf:un<(d:Int)→s.okn d (s.nx d set u)=false:=fun hcmp=>by
     cases hk:s.okn d (s.nx d set u) with
     | false=>rfl
     | true =>
      have:=(okn_iff hn).mp hk i hlt
      rw [un_at hn hlt,hlb] at this
      omega
    have okt:(d:Int)≤un→∀ k,k<i+1→(d:Int)≤s.un d set k (gk u k):=fun hcmp k hk=>by
     by_cases e:k=i
     ·subst e;rw [hlb];exact hcmp
     ·exact hok k (by omega)
    cases ht1:tst s.n set i with
    | true =>
     rw [ht1] at htests
     have hunv:un=min (max (gk u i) ((d:Int)+s.ev i)) (s.days:Int):=by rw [← hlb];unfold Sl.un;rw [if_pos ht1]
     have hC2':moC d (setK (upto s d set u i) i (min (max (gk u i) ((d:Int)+s.ev i)) (s.days:Int)))=C2:=by rw [hC2,us2,hunv]
     have mx:maxA (.int .i64 (gk u i)) (.int .i64 ((d:Int)+s.ev i))=.int .i64 (max (gk u i) ((d:Int)+s.ev i)):=maxA_i64 _ _
     have mn:minA (.int .i64 (max (gk u i) ((d:Int)+s.ev i))) (.int .i64 (s.days:Int))=.int .i64 (min (max (gk u i) ((d:Int)+s.ev i)) (s.days:Int)):=minA_i64 _ _
     have co':=co (min (max (gk u i) ((d:Int)+s.ev i)) (s.days:Int))
     rw [hC2'] at co'
     obtain ⟨y,hy⟩:∃ y:St,y=t.put (w.n+1) (.cells C2 (tag 103)):=⟨_,rfl⟩
     have yn:y.n=t.n:=by rw [hy];rfl
     have ym:w.n≤y.m:=by rw [hy];exact put_m_leP tm (by omega)
     have ys:∀ c,c<w.n→y.h.get c=w.h.get c:=fun c hc=>by rw [hy,get_put_ne' _ _ _ _ (by omega)];exact ts c hc
     have y0:y.h.get w.n=some (.cells (planV s vL vE mb) (tag 100)):=by rw [hy,get_put_ne' _ _ _ _ (by omega)];exact tg
     have y1:y.h.get (w.n+1)=some (.cells C2 (tag 103)):=by rw [hy];exact get_put_eq _ _ _ _ rfl (by omega)
     have y2:y.h.get (w.n+2)=some (.cells (moC 0 (0,0)) (tag 103)):=by rw [hy,get_put_ne' _ _ _ _ (by omega)];exact tg2
     by_cases hcmp:un<(d:Int)
     ·have ec:decide (un<(d:Int))=true:=decide_eq_true hcmp
      refine .inr ⟨.ret,_,y.put (w.n+2) (.cells (moC 0 (0,0)) (tag 103)),by simp,by
       simp (disch:=first|omega|(with_unfolding_all exact rfl)|(simp only[new_n,put_n,new_m];omega)|(refine put_m_le ?_;simp only[new_m];omega)) only [K43l0,K43r2,K43r3,K43r4,K43r5,Abs.W,reduceIte,Nat.reduceEqDiff,Nat.reduceAdd,decide_true,decide_false,kLoop_def,Nat.reduceSub,List.cons_append,List.nil_append,List.append_nil,List.length_cons,List.length_nil,Env.find_set,q2,q3,q4,q6,q12,q13,q14,tg,tg1,x2,x3',x4',e0,htests,ix,c0,ck,ad,kFold_def,foldA_nil,foldA_cons,mx,mn,co',Nat.zero_add]
       rw [← hy]
       simp (disch:=first|omega|(with_unfolding_all exact rfl)|(simp only[new_n,put_n,new_m];omega)|(refine put_m_le ?_;simp only[new_m];omega)) only [K43r6,K43r7,Abs.W,reduceIte,Nat.reduceEqDiff,Nat.reduceAdd,decide_true,decide_false,kLoop_def,Nat.reduceSub,List.cons_append,List.nil_append,List.append_nil,List.length_cons,List.length_nil,Env.find_set,q4,q6,y1,y2,ix,d0,dk,ec,Nat.zero_add]
       rfl,?_,?_,by rw [put_n];omega,put_m_leP ym (by omega),get_put_eq _ _ _ _ rfl (by omega),.inl ⟨rfl,?_,okf hcmp⟩⟩
      ·simp only [Env.find_set,q4,reduceIte,Nat.reduceEqDiff]
      ·simp only [Env.find_set,q6,reduceIte,Nat.reduceEqDiff]
      ·simp only [Env.find_set,reduceIte,Nat.reduceEqDiff]
     ·have ec:decide (un<(d:Int))=false:=decide_eq_false hcmp
      refine .inl ⟨hlt,_,y,by
       simp (disch:=first|omega|(with_unfolding_all exact rfl)|(simp only[new_n,put_n,new_m];omega)|(refine put_m_le ?_;simp only[new_m];omega)) only [K43l0,K43r2,K43r3,K43r4,K43r5,Abs.W,reduceIte,Nat.reduceEqDiff,Nat.reduceAdd,decide_true,decide_false,kLoop_def,Nat.reduceSub,List.cons_append,List.nil_append,List.append_nil,List.length_cons,List.length_nil,Env.find_set,q2,q3,q4,q6,q12,q13,q14,tg,tg1,x2,x3',x4',e0,htests,ix,c0,ck,ad,kFold_def,foldA_nil,foldA_cons,mx,mn,co',Nat.zero_add]
       rw [← hy]
       simp (disch:=first|omega|(with_unfolding_all exact rfl)|(simp only[new_n,put_n,new_m];omega)|(refine put_m_le ?_;simp only[new_m];omega)) only [K43r6,K43r8,Abs.W,reduceIte,Nat.reduceEqDiff,Nat.reduceAdd,decide_true,decide_false,kLoop_def,Nat.reduceSub,List.cons_append,List.nil_append,List.append_nil,List.length_cons,List.length_nil,Env.find_set,q4,q6,q14,y1,ix,d0,dk,ec,ad1,Nat.zero_add]
       rfl,?_,?_,?_,?_,?_,?_,?_,by omega,ym,ys,y0,by rw [y1,hC2],y2,okt (by omega)⟩
      ·simp only [Env.find_set,q2,reduceIte,Nat.reduceEqDiff]
      ·simp only [Env.find_set,q3,reduceIte,Nat.reduceEqDiff]
      ·simp only [Env.find_set,q4,reduceIte,Nat.reduceEqDiff]
      ·simp only [Env.find_set,q6,reduceIte,Nat.reduceEqDiff]
      ·simp only [Env.find_set,q12,reduceIte,Nat.reduceEqDiff]
      ·simp only [Env.find_set,q13,reduceIte,Nat.reduceEqDiff]
      ·simp only [Env.find_set,reduceIte,Nat.reduceEqDiff]
    | false =>
     rw [ht1] at htests
     have hC2':C2=C:=by
      have hunv:un=gk u i:=by rw [← hlb];unfold Sl.un;rw [ht1];rfl
      rw [hC2,us2,hC,hunv,← us1]
      rcases (show i=0∨i=1 by omega) with rfl | rfl<;>rfl
     rw [← hC2'] at tg1
     obtain ⟨y,hy⟩:∃ y:St,y=t:=⟨_,rfl⟩
     subst hy
     have yn:y.n=y.n:=rfl
     have ym:=tm
     have ys:=ts
     have y0:=tg
     have y1:=tg1
     have y2:=tg2
     by_cases hcmp:un<(d:Int)
     ·have ec:decide (un<(d:Int))=true:=decide_eq_true hcmp
      refine .inr ⟨.ret,_,y.put (w.n+2) (.cells (moC 0 (0,0)) (tag 103)),by simp,by
       simp (disch:=first|omega|(with_unfolding_all exact rfl)|(simp only[new_n,put_n,new_m];omega)|(refine put_m_le ?_;simp only[new_m];omega)) only [K43l0,K43r2,K43r3,K43r4,Abs.W,reduceIte,Nat.reduceEqDiff,Nat.reduceAdd,decide_true,decide_false,kLoop_def,Nat.reduceSub,List.cons_append,List.nil_append,List.append_nil,List.length_cons,List.length_nil,Env.find_set,q2,q3,q4,q6,q12,q13,q14,tg,tg1,x2,x3',x4',e0,htests,ix,Nat.zero_add]
       simp (disch:=first|omega|(with_unfolding_all exact rfl)|(simp only[new_n,put_n,new_m];omega)|(refine put_m_le ?_;simp only[new_m];omega)) only [K43r6,K43r7,Abs.W,reduceIte,Nat.reduceEqDiff,Nat.reduceAdd,decide_true,decide_false,kLoop_def,Nat.reduceSub,List.cons_append,List.nil_append,List.append_nil,List.length_cons,List.length_nil,Env.find_set,q4,q6,y1,y2,ix,d0,dk,ec,Nat.zero_add]
       rfl,?_,?_,by rw [put_n];omega,put_m_leP ym (by omega),get_put_eq _ _ _ _ rfl (by omega),.inl ⟨rfl,?_,okf hcmp⟩⟩
      ·simp only [Env.find_set,q4,reduceIte,Nat.reduceEqDiff]
      ·simp only [Env.find_set,q6,reduceIte,Nat.reduceEqDiff]
      ·simp only [Env.find_set,reduceIte,Nat.reduceEqDiff]
     ·have ec:decide (un<(d:Int))=false:=decide_eq_false hcmp
      refine .inl ⟨hlt,_,y,by
       simp (disch:=first|omega|(with_unfolding_all exact rfl)|(simp only[new_n,put_n,new_m];omega)|(refine put_m_le ?_;simp only[new_m];omega)) only [K43l0,K43r2,K43r3,K43r4,Abs.W,reduceIte,Nat.reduceEqDiff,Nat.reduceAdd,decide_true,decide_false,kLoop_def,Nat.reduceSub,List.cons_append,List.nil_append,List.append_nil,List.length_cons,List.length_nil,Env.find_set,q2,q3,q4,q6,q12,q13,q14,tg,tg1,x2,x3',x4',e0,htests,ix,Nat.zero_add]
       simp (disch:=first|omega|(with_unfolding_all exact rfl)|(simp only[new_n,put_n,new_m];omega)|(refine put_m_le ?_;simp only[new_m];omega)) only [K43r6,K43r8,Abs.W,reduceIte,Nat.reduceEqDiff,Nat.reduceAdd,decide_true,decide_false,kLoop_def,Nat.reduceSub,List.cons_append,List.nil_append,List.append_nil,List.length_cons,List.length_nil,Env.find_set,q4,q6,q14,y1,ix,d0,dk,ec,ad1,Nat.zero_add]
       rfl,?_,?_,?_,?_,?_,?_,?_,by omega,ym,ys,y0,by rw [y1,hC2],y2,okt (by omega)⟩
      ·simp only [Env.find_set,q2,reduceIte,Nat.reduceEqDiff]
      ·simp only [Env.find_set,q3,reduceIte,Nat.reduceEqDiff]
      ·simp only [Env.find_set,q4,reduceIte,Nat.reduceEqDiff]
      ·simp only [Env.find_set,q6,reduceIte,Nat.reduceEqDiff]
      ·simp only [Env.find_set,q12,reduceIte,Nat.reduceEqDiff]
      ·simp only [Env.find_set,q13,reduceIte,Nat.reduceEqDiff]
      ·simp only [Env.find_set,reduceIte,Nat.reduceEqDiff]
   ·have e0:decide ((i:Int)<(s.n:Int))=false:=decide_eq_false (by omega)
    obtain rfl:i=s.n:=by omega
    refine .inr ⟨.exit 0,_,t,by simp,by
     simp (disch:=first|omega|(with_unfolding_all exact rfl)|(simp only[new_n,put_n,new_m];omega)|(refine put_m_le ?_;simp only[new_m];omega)) only [K43l0,K43r2,Abs.W,reduceIte,Nat.reduceEqDiff,Nat.reduceAdd,decide_true,decide_false,kLoop_def,Nat.reduceSub,List.cons_append,List.nil_append,List.append_nil,List.length_cons,List.length_nil,Env.find_set,q13,q14,e0,Nat.zero_add]
     rfl,?_,?_,tn,tm,tg2,.inr ⟨rfl,by rw [tg1,upto_end hn],(okn_iff hn).mpr fun k hk=>by rw [un_at hn hk];exact hok k hk⟩⟩
    ·simp only [Env.find_set,q4,reduceIte,Nat.reduceEqDiff]
    ·simp only [Env.find_set,q6,reduceIte,Nat.reduceEqDiff])
 rcases hQ with ⟨rfl,l7,hk⟩ | ⟨rfl,tg1,hk⟩
 ·rw [hR,hk]
  simp (disch:=first|omega|(with_unfolding_all exact rfl)|(simp only[new_n,put_n,new_m];omega)|(refine put_m_le ?_;simp only[new_m];omega)) only [res43,Abs.W,reduceIte,Nat.reduceEqDiff,Nat.reduceAdd,decide_true,decide_false,kLoop_def,Nat.reduceSub,List.cons_append,List.nil_append,List.append_nil,List.length_cons,List.length_nil,Env.find_set]
  rw [leave_ctP _ _ _ _ _ (sh:=some 5) (v:=.agg (moC 0 (0,0))) (by kernel_rfl) (by simp (disch:=first|omega|(with_unfolding_all exact rfl)|(simp only[new_n,put_n,new_m];omega)|(refine put_m_le ?_;simp only[new_m];omega)) only [Abs.W,reduceIte,Nat.reduceEqDiff,Nat.reduceAdd,decide_true,decide_false,kLoop_def,Nat.reduceSub,List.cons_append,List.nil_append,List.append_nil,List.length_cons,List.length_nil,l6,t1g2]),l7]
  exact ⟨_,rfl,t1m⟩
 ·rw [hR,hk,if_pos rfl]
  obtain ⟨C,hC⟩:∃ C,C=moC d (s.nx d set u):=⟨_,rfl⟩
  have c0:nth C 0=.int .i64 (d:Int):=by rw [hC];rfl
  have ad:∀ st,aAdd st .i64 (d:Int) 1=.val (.int .i64 ((d+1:Nat):Int)) st:=fun st=>aAdd_i64 st _ _ (by omega)
  simp (disch:=first|omega|(with_unfolding_all exact rfl)|(simp only[new_n,put_n,new_m];omega)|(refine put_m_le ?_;simp only[new_m];omega)) only [K43r9,K43r10,res43,Abs.W,reduceIte,Nat.reduceEqDiff,Nat.reduceAdd,decide_true,decide_false,kLoop_def,Nat.reduceSub,List.cons_append,List.nil_append,List.append_nil,List.length_cons,List.length_nil,Env.find_set,l4,l6,tg1,t1g2,ad,Nat.zero_add]
  rw [leave_ctP _ _ _ _ _ (sh:=some 5) (v:=.agg (moC (d+1) (s.nx d set u))) (by kernel_rfl) (by simp (disch:=first|omega|(with_unfolding_all exact rfl)|(simp only[new_n,put_n,new_m];omega)|(refine put_m_le ?_;simp only[new_m];omega)) only [Abs.W,reduceIte,Nat.reduceEqDiff,Nat.reduceAdd,decide_true,decide_false,kLoop_def,Nat.reduceSub,List.cons_append,List.nil_append,List.append_nil,List.length_cons,List.length_nil,Env.find_set,l6])]
  exact ⟨_,by simp only [Env.find_set,reduceIte];rfl,put_m_leP (put_m_leP t1m (by omega)) (by omega)⟩
end Go.Proofs.Ytoolodjbfphkjaa.walk
namespace Go.Abs
theorem eq_ints (a b:Int):Cmp.eq .int (.int .i64 a) (.int .i64 b)=some (decide (a=b)):=by
 show (if IntKind.i64=IntKind.i64 then some (eqI a b) else none)=_
 rw [if_pos rfl,eqI_eq]
 congr 1
theorem kLookE (c:Cmp) (z:AV) (ok:Bool) (m k:Arg) (L:Env) (s:St):kLook c z ok m k L s=lookA c z ok s (k.ev L) (m.ev L):=Eq.trans (Eq.refl _) (Eq.refl _)
noncomputable def updK (c:Cmp) (s:St) (k v m:AV):ARes:=match known v with
 | true=>updA c s k v m
 | false=>.fail
theorem kUpdE (c:Cmp) (m k v:Arg) (L:Env) (s:St):kUpd c m k v L s=updK c s (k.ev L) (v.ev L) (m.ev L):=Eq.trans (Eq.refl _) (Eq.refl _)
end Go.Abs
set_option maxRecDepth 10000
namespace Go.Proofs.Ytoolodjbfphkjaa.walk
open Go.Abs Go.Proofs.Ytoolodjbfphkjaa.code
abbrev Key:=Nat × Int × Int
abbrev Cho:=Option (Nat × Nat)
abbrev keyV (k:Key):AV:=.agg (moC k.1 k.2)
def chC:Cho→List AV
 | none=>[.int .i64 0,.int .i64 0,.bool false]
 | some c=>[.int .i64 (c.1:Int),.int .i64 (c.2:Int),.bool true]
def mapE (ps:List (Key × Cho)):List (AV × AV):=ps.map fun p=>(keyV p.1,.agg (chC p.2))
abbrev moCmp:Cmp:=.row [(0,none,.int),(1,(some 4),(.row [(0,none,.int),(1,none,.int),(2,none,.int),(3,none,.int)]))]
theorem eqs_cons (o:Nat) (sh:Option Nat) (c:Cmp) (l:List (Nat × Option Nat × Cmp)) (xs ys:List AV) {b:Bool} (h:Cmp.eq c (partS sh xs o) (partS sh ys o)=some b):Cmp.eqs ((o,sh,c)::l) xs ys=if b then Cmp.eqs l xs ys else some false:=by
 have e:Cmp.eqs ((o,sh,c)::l) xs ys=(match Cmp.eq c (partS sh xs o) (partS sh ys o) with | some true=>Cmp.eqs l xs ys | r=>r):=rfl
 rw [e,h]
 cases b<;>rfl
theorem eqs_nil (xs ys:List AV):Cmp.eqs [] xs ys=some true:=rfl
theorem eq_key (a b:Key):Cmp.eq moCmp (keyV a) (keyV b)=some (decide (a=b)):=by
 obtain ⟨a1,a2,a3⟩:=a
 obtain ⟨b1,b2,b3⟩:=b
 show Cmp.eqs _ (moC a1 (a2,a3)) (moC b1 (b2,b3))=_
 have i4:Cmp.eq (.row [(0,none,.int),(1,none,.int),(2,none,.int),(3,none,.int)]) (partS (some 4) (moC a1 (a2,a3)) 1) (partS (some 4) (moC b1 (b2,b3)) 1)=some (decide (a2=b2) && decide (a3=b3)):=by
  show Cmp.eqs _ [.int .i64 a2,.int .i64 a3,.int .i64 0,.int .i64 0] [.int .i64 b2,.int .i64 b3,.int .i64 0,.int .i64 0]=_
  rw [eqs_cons _ _ _ _ _ _ (eq_ints a2 b2),eqs_cons _ _ _ _ _ _ (eq_ints a3 b3),eqs_cons _ _ _ _ _ _ (eq_ints 0 0),eqs_cons _ _ _ _ _ _ (eq_ints 0 0),eqs_nil]
  cases decide (a2=b2)<;>cases decide (a3=b3)<;>rfl
 rw [eqs_cons _ _ _ _ _ _ (eq_ints a1 b1),eqs_cons _ _ _ _ _ _ i4,eqs_nil]
 by_cases h1:a1=b1
 ·by_cases h2:a2=b2
  ·by_cases h3:a3=b3
   ·subst h1 h2 h3;simp
   ·simp [h1,h2,h3]
  ·simp [h1,h2]
 ·have h2:¬ (a1:Int)=(b1:Int):=by omega
  simp [h1,h2]
theorem keyOk_key (k:Key):keyOk moCmp (keyV k)=true:=by
 unfold keyOk
 rw [eq_key,decide_eq_true rfl]
def getK:List (Key × Cho)→Key→Cho
 | [],_=>none
 | (a,v)::r,k=>if k=a then v else getK r k
def idxK:List (Key × Cho)→Key→Option Nat
 | [],_=>none
 | (a,_)::r,k=>if k=a then some 0 else (idxK r k).map (·+1)
def putK:List (Key × Cho)→Key→Cho→List (Key × Cho)
 | [],k,v=>[(k,v)]
 | (a,w)::r,k,v=>if k=a then (k,v)::r else (a,w)::putK r k v
theorem find_key (k:Key):∀ (ps:List (Key × Cho)) (i:Nat),findA moCmp (keyV k) (mapE ps) i=some ((idxK ps k).map fun j=>(i+j,.agg (chC (getK ps k))))
 | [],_=>rfl
 | (a,w)::r,i=>by
  show (match Cmp.eq moCmp (keyV k) (keyV a) with | some true=>some (some (i,AV.agg (chC w))) | some false=>findA moCmp (keyV k) (mapE r) (Nat.succ i) | none=>none)=_
  rw [eq_key]
  unfold idxK getK
  by_cases h:k=a
  ·rw [decide_eq_true h,if_pos h,if_pos h];rfl
  ·rw [decide_eq_false h,if_neg h,if_neg h]
   show findA moCmp (keyV k) (mapE r) (Nat.succ i)=_
   rw [find_key k r (Nat.succ i),Option.map_map]
   congr 1
   cases idxK r k with
   | none=>rfl
   | some j =>
   show some (Nat.succ i+j,AV.agg (chC (getK r k)))=some (i+(j+1),.agg (chC (getK r k)))
   rw [show Nat.succ i+j=i+(j+1) by omega]
theorem idxK_none (k:Key):∀ ps:List (Key × Cho),idxK ps k=none→getK ps k=none∧∀ v,mapE (putK ps k v)=mapE ps++[(keyV k,.agg (chC v))]
 | [],_=>⟨rfl,fun _=>rfl⟩
 | (a,w)::r,h=>by
  unfold idxK at h
  by_cases h2:k=a
  ·rw [if_pos h2] at h;cases h
  ·rw [if_neg h2] at h
   have h3:idxK r k=none:=by
    cases hh:idxK r k with
    | none=>rfl
    | some j=>rw [hh] at h;cases h
   obtain ⟨e1,e2⟩:=idxK_none k r h3
   refine ⟨by unfold getK;rw [if_neg h2];exact e1,fun v=>?_⟩
   unfold putK
   rw [if_neg h2]
   show (keyV a,AV.agg (chC w))::mapE (putK r k v)=_
   rw [e2 v]
   rfl
theorem idxK_some (k:Key):∀ (ps:List (Key × Cho)) (j:Nat),idxK ps k=some j→keyAt (mapE ps) j=keyV k∧(∀ v,mapE (putK ps k v)=setNth (mapE ps) j (keyV k,.agg (chC v)))∧(k,getK ps k) ∈ ps
 | [],_,h=>by cases h
 | (a,w)::r,j,h=>by
  unfold idxK at h
  by_cases h2:k=a
  ·subst h2
   rw [if_pos rfl] at h
   injection h with h
   subst h
   exact ⟨rfl,fun v=>by unfold putK;rw [if_pos rfl];rfl,by unfold getK;rw [if_pos rfl];simp⟩
  ·rw [if_neg h2] at h
   cases hh:idxK r k with
   | none=>rw [hh] at h;cases h
   | some i =>
    rw [hh] at h
    injection h with h
    subst h
    obtain ⟨e1,e2,e3⟩:=idxK_some k r i hh
    exact ⟨e1,fun v=>by
     unfold putK
     rw [if_neg h2]
     show (keyV a,AV.agg (chC w))::mapE (putK r k v)=_
     rw [e2 v]
     rfl,by unfold getK;rw [if_neg h2];exact List.mem_cons_of_mem _ e3⟩
theorem putK_mem (k:Key) (v:Cho):∀ (ps:List (Key × Cho)) (p:Key × Cho),p ∈ putK ps k v→p ∈ ps∨p=(k,v)
 | [],p,h=>.inr (by simpa [putK] using h)
 | (a,w)::r,p,h=>by
  unfold putK at h
  by_cases h2:k=a
  ·rw [if_pos h2] at h
   rcases List.mem_cons.mp h with h | h
   ·exact .inr h
   ·exact .inl (List.mem_cons_of_mem _ h)
  ·rw [if_neg h2] at h
   rcases List.mem_cons.mp h with h | h
   ·exact .inl (by rw [h];simp)
   ·exact (putK_mem k v r p h).imp (List.mem_cons_of_mem _) id
theorem look_key (ps:List (Key × Cho)) (k:Key) (b:Nat) (s:St) (h:s.h.get b=some (.map (mapE ps))):lookA moCmp (.agg [.int .i64 0,.int .i64 0,.bool false]) true s (keyV k) (.map b)=.val (.tup [.agg (chC (getK ps k)),.bool (idxK ps k).isSome]) s:=by
 unfold lookA
 simp only [h,keyOk_key,find_key]
 cases hh:idxK ps k with
 | none=>rw [(idxK_none k ps hh).1];rfl
 | some j=>rfl
theorem sameA_key (k:Key):sameA (keyV k) (keyV k)=true:=by
 show samesS (moC k.1 k.2) (moC k.1 k.2)=true
 have h:∀ x:Int,sameS (.int .i64 x) (.int .i64 x)=true:=fun x=>by
  show (Nat.beq (kindNo .i64) (kindNo .i64) && eqI x x)=true
  rw [eqI_eq,beq_self_eq_true];rfl
 show (sameS _ _ && (sameS _ _ && (sameS _ _ && (sameS _ _ && (sameS _ _ && samesS [] [])))))=true
 rw [h,h,h,h]
 rfl
theorem upd_key (ps:List (Key × Cho)) (k:Key) (v:Cho) (b:Nat) (s:St) (h:s.h.get b=some (.map (mapE ps))):updA moCmp s (keyV k) (.agg (chC v)) (.map b)=.val .undef (s.put b (.map (mapE (putK ps k v)))):=by
 unfold updA
 simp only [h,keyOk_key,find_key]
 cases hh:idxK ps k with
 | none=>rw [(idxK_none k ps hh).2 v];rfl
 | some j =>
  obtain ⟨e1,e2,_⟩:=idxK_some k ps j hh
  simp only [Option.map_some,Nat.zero_add,e1,sameA_key,e2 v]
theorem updK_ch (c:Cmp) (s:St) (k m:AV) (l:List AV):updK c s k (.agg l) m=updA c s k (.agg l) m:=Eq.trans (Eq.refl _) (Eq.refl _)
def GoodM (s:Sl) (ps:List (Key × Cho)):Prop:=∀ p ∈ ps,p.1.1≤s.days∧p.2=s.opt (s.days+1 - p.1.1) p.1.1 p.1.2
theorem GoodM.put {s:Sl} {ps:List (Key × Cho)} (g:GoodM s ps) {d:Nat} {u:Int × Int} (hd:d≤s.days):GoodM s (putK ps (d,u) (s.opt (s.days+1 - d) d u)):=fun p hp=>by
 rcases putK_mem _ _ _ _ hp with h | rfl
 ·exact g p h
 ·exact ⟨hd,rfl⟩
theorem GoodM.get {s:Sl} {ps:List (Key × Cho)} (g:GoodM s ps) {k:Key} {j:Nat} (h:idxK ps k=some j):getK ps k=s.opt (s.days+1 - k.1) k.1 k.2:=(g _ (idxK_some k ps j h).2.2).2
end Go.Proofs.Ytoolodjbfphkjaa.walk
set_option maxRecDepth 10000
namespace Go.Proofs.Ytoolodjbfphkjaa.walk
open Go.Abs Go.Proofs.Ytoolodjbfphkjaa.code
theorem eqP3 {f g:CallF→Env→St→ORes} (h:f=g) (cl:CallF) (L:Env) (s:St):f cl L s=g cl L s:=by rw [h]
theorem less_ok (N:Nat) (hN:1≤N) (a b:Nat × Nat) (t:St) (ht:t.n+100≤far):call Try.prog X N (.fn 65) [.agg (chC (some a)),.agg (chC (some b))] t=.val (.bool (decide (a.2<b.2))) t:=by
 obtain ⟨n,rfl⟩:∃ n,N=n+1:=⟨N - 1,by omega⟩
 refine call_plain' Try.func65 (fun u uh un um=>?_) rfl
 have hf:far=1000000000:=rfl
 have e:decide ((a.2:Int)<(b.2:Int))=decide (a.2<b.2):=by
  by_cases h:a.2<b.2
  ·rw [decide_eq_true h,decide_eq_true (by omega)]
  ·rw [decide_eq_false h,decide_eq_false (by omega)]
 rw [enter65]
 unfold chC
 simp (disch:=first|omega|(with_unfolding_all exact rfl)|(simp only[new_n,put_n,new_m];omega)|(refine put_m_le ?_;simp only[new_m];omega)) only [res65,K65r0,K65r1,K65,Abs.W,reduceIte,Nat.reduceEqDiff,Nat.reduceAdd,decide_true,decide_false,kLoop_def,Nat.reduceSub,List.cons_append,List.nil_append,List.append_nil,List.length_cons,List.length_nil,Nat.zero_add,e]
 exact ⟨_,rfl,by simp only [new_m];omega⟩
structure Taker (h:Heap) (l pb pf pz:Nat) (R:ALoop) (acc:Cho):Prop where
 loop:h.get l=some (.loop R)
 less:h.get pb=some (.cells [.func 65 [] []] (tag 136))
 found:h.get pf=some (.cells (chC acc) (tag 106))
 some_:h.get pz=some (.cells [.bool acc.isSome] (tag 4))
theorem Taker.grow {h h':Heap} {l pb pf pz:Nat} {R:ALoop} {acc:Cho} (a:Taker h l pb pf pz R acc) (h1:h'.get l=h.get l) (h2:h'.get pb=h.get pb) (h3:h'.get pf=h.get pf) (h4:h'.get pz=h.get pz):Taker h' l pb pf pz R acc:=⟨h1.trans a.loop,h2.trans a.less,h3.trans a.found,h4.trans a.some_⟩
noncomputable abbrev bestO (L0:Env) (w:Nat):ALoop:=⟨.ready,none,63,L0,[9],(rangeAt Try.f63 0).1,(rangeAt Try.f63 0).2,w,Try.f63.ntmps,X 63⟩
theorem best_take (N:Nat) (hN:1≤N) {s:St} {l pb pf pz w:Nat} {L0:Env} {acc:Cho} (c:Nat × Nat) (J:Taker s.h l pb pf pz (bestO L0 w) acc) (f3:L0.find 3=.ptr pb 0) (f5:L0.find 5=.ptr pf 0) (f6:L0.find 6=.ptr pz 0) (hl:l<s.n) (hpb:pb<l) (hpf:pf<l) (hpz:pz<l) (h1:pb<pf) (h2:pf<pz) (hs:s.n+1000≤far) :
  ∃ s',call Try.prog X (N+1) (.yield l) [.agg (chC (some c))] s=.val (.bool true) s'∧Taker s'.h l pb pf pz (bestO L0 w) (keepB acc c)∧(∀ y,y<s.n→y≠l→y≠pf→y≠pz→s'.h.get y=s.h.get y)∧s.n≤s'.n∧s'.n≤s.n+5∧(∀ k,k≤pf→k≤s.m→k≤s'.m)∧s'.m≤s.m∧s'.m≤l:=by
 have hf:far=1000000000:=rfl
 obtain ⟨R,hR⟩:∃ R,R=bestO L0 w:=⟨_,rfl⟩
 rw [← hR] at J
 obtain ⟨s1,hs1⟩:∃ s1:St,s1=(s.new (.cells (chC (some c)) (tag 106))):=⟨_,rfl⟩
 have s1n:s1.n=s.n+1:=by rw [hs1];rfl
 have s1g:∀ y,y<s.n→s1.h.get y=s.h.get y:=fun y hy=>by rw [hs1,get_new_ne _ _ _ (by omega)]
 have s1p:s1.h.get s.n=some (.cells (chC (some c)) (tag 106)):=by rw [hs1];exact get_new_eq _ _ _ rfl (by omega)
 have h1a:K63a0 (call Try.prog X N) ⟨63,some l,Try.f63.ntmps,X 63⟩ (setParams L0 [9] [.agg (chC (some c))]) [] s=.done .norm ((L0.set 9 (.agg (chC (some c)))).set 7 (.ptr s.n 0)) [] ((s.new (.cells (chC none) (tag 106))).put s.n (.cells (chC (some c)) (tag 106))):=by
  unfold chC
  simp (disch:=first|omega|(with_unfolding_all exact rfl)|(simp only[new_n,put_n,new_m];omega)|(refine put_m_le ?_;simp only[new_m];omega)) only [K63a0,K63a0r0,Abs.W,reduceIte,Nat.reduceEqDiff,Nat.reduceAdd,decide_true,decide_false,kLoop_def,Nat.reduceSub,List.cons_append,List.nil_append,List.append_nil,List.length_cons,List.length_nil,setParams1,Env.find_set,Nat.reduceEqDiff]
 obtain ⟨y1,hy1⟩:∃ y1:St,y1=(s.new (.cells (chC none) (tag 106))).put s.n (.cells (chC (some c)) (tag 106)):=⟨_,rfl⟩
 have y1n:y1.n=s.n+1:=by rw [hy1];rfl
 have y1g:∀ y,y<s.n→y1.h.get y=s.h.get y:=fun y hy=>by rw [hy1,get_put_ne' _ _ _ _ (by omega),get_new_ne _ _ _ (by omega)]
 have y1p:y1.h.get s.n=some (.cells (chC (some c)) (tag 106)):=by rw [hy1];exact get_put_eq _ _ _ _ rfl (by omega)
 have y1m:y1.m=min s.m s.n:=by rw [hy1];simp only [St.put,minN_eq,new_m]
 rw [← hy1] at h1a
 obtain ⟨y2,hy2⟩:∃ y2:St,y2=y1.put l (.loop { R with state:=.busy }):=⟨_,rfl⟩
 have y2n:y2.n=s.n+1:=by rw [hy2];exact y1n
 have y2g:∀ y,y≠l→y2.h.get y=y1.h.get y:=fun y hy=>by rw [hy2,get_put_ne' _ _ _ _ hy]
 have y2l:y2.h.get l=some (.loop { R with state:=.busy }):=by rw [hy2];exact get_put_eq _ _ _ _ rfl (by omega)
 have y2m:y2.m=min (min s.m s.n) l:=by rw [hy2];simp only [St.put,minN_eq,y1m]
 have gb:=(y2g pb (by omega)).trans ((y1g pb (by omega)).trans J.less)
 have gf:=(y2g pf (by omega)).trans ((y1g pf (by omega)).trans J.found)
 have gz:=(y2g pz (by omega)).trans ((y1g pz (by omega)).trans J.some_)
 have gi:=(y2g s.n (by omega)).trans y1p
 obtain ⟨L1,hL1⟩:∃ L1,L1=(L0.set 9 (.agg (chC (some c)))).set 7 (.ptr s.n 0):=⟨_,rfl⟩
 have l3:L1.find 3=.ptr pb 0:=by rw [hL1];simp only [Env.find_set,f3,reduceIte,Nat.reduceEqDiff]
 have l5:L1.find 5=.ptr pf 0:=by rw [hL1];simp only [Env.find_set,f5,reduceIte,Nat.reduceEqDiff]
 have l6:L1.find 6=.ptr pz 0:=by rw [hL1];simp only [Env.find_set,f6,reduceIte,Nat.reduceEqDiff]
 have l7:L1.find 7=.ptr s.n 0:=by rw [hL1];simp only [Env.find_set,reduceIte,Nat.reduceEqDiff]
 rw [← hL1] at h1a
 have e7:=eqP3 K63b0r0s7.eq_1
 have e6:=eqP3 K63b0r0s6.eq_1
 have e5:=eqP3 K63b0r0s5.eq_1
 have e4:=eqP3 K63b0r0s4.eq_1
 have nt:∀ (b:Bool) s,notA s (.bool b)=.val (.bool !b) s:=fun _ _=>rfl
 have kfl:∀ s,okA (.val (.func 65 [] []) s)=.val (.func 65 [] []) s:=fun _=>rfl
 have body:∃ L2 y3,K63b0 (call Try.prog X N) ⟨63,some l,Try.f63.ntmps,X 63⟩ L1 [] y2=.done .norm L2 [] y3∧y3.n=y2.n∧(∀ y,y≠pf→y≠pz→y3.h.get y=y2.h.get y)∧y3.h.get pf=some (.cells (chC (keepB acc c)) (tag 106))∧y3.h.get pz=some (.cells [.bool (keepB acc c).isSome] (tag 4))∧(∀ k,k≤pf→k≤y2.m→k≤y3.m)∧y3.m≤y2.m:=by
  have stored:∀ {y3:St},y3=(y2.put pf (.cells (chC (some c)) (tag 106))).put pz (.cells [.bool true] (tag 4))→y3.n=y2.n∧(∀ y,y≠pf→y≠pz→y3.h.get y=y2.h.get y)∧y3.h.get pf=some (.cells (chC (some c)) (tag 106))∧y3.h.get pz=some (.cells [.bool true] (tag 4))∧(∀ k,k≤pf→k≤y2.m→k≤y3.m)∧y3.m≤y2.m:=by
   rintro y3 rfl
   refine ⟨rfl,fun y hy hy'=>by rw [get_put_ne' _ _ _ _ hy',get_put_ne' _ _ _ _ hy],?_,?_,fun k hk hk2=>put_m_leP (put_m_leP hk2 hk) (by omega),?_⟩
   ·rw [get_put_ne' _ _ _ _ (by omega)];exact get_put_eq _ _ _ _ rfl (by omega)
   ·exact get_put_eq _ _ _ _ rfl (by omega)
   ·simp only [St.put,minN_eq];omega
  cases acc with
  | none =>
   have gz':y2.h.get pz=some (.cells [.bool false] (tag 4)):=gz
   refine ⟨_,(y2.put pf (.cells (chC (some c)) (tag 106))).put pz (.cells [.bool true] (tag 4)),by
    unfold chC at gf gi ⊢
    simp (disch:=first|omega|(with_unfolding_all exact rfl)|(simp only[new_n,put_n,new_m];omega)|(refine put_m_le ?_;simp only[new_m];omega)) only [K63b0,K63b0r0,K63b0r1,e4,e5,e6,e7,Abs.W,reduceIte,Nat.reduceEqDiff,Nat.reduceAdd,decide_true,decide_false,kLoop_def,Nat.reduceSub,List.cons_append,List.nil_append,List.append_nil,List.length_cons,List.length_nil,Env.find_set,l3,l5,l6,l7,gb,gf,gz',gi,nt,kfl,Nat.zero_add]
    rfl,stored rfl⟩
  | some a =>
   have gz':y2.h.get pz=some (.cells [.bool true] (tag 4)):=gz
   have hls:=less_ok N hN c a y2 (by omega)
   by_cases hc:c.2<a.2
   ·rw [decide_eq_true hc] at hls
    have hk:keepB (some a) c=some c:=if_pos hc
    rw [hk]
    refine ⟨_,(y2.put pf (.cells (chC (some c)) (tag 106))).put pz (.cells [.bool true] (tag 4)),by
     unfold chC at gf gi hls ⊢
     simp (disch:=first|omega|(with_unfolding_all exact rfl)|(simp only[new_n,put_n,new_m];omega)|(refine put_m_le ?_;simp only[new_m];omega)) only [K63b0,K63b0r0,K63b0r1,e4,e5,e6,e7,Abs.W,reduceIte,Nat.reduceEqDiff,Nat.reduceAdd,decide_true,decide_false,kLoop_def,Nat.reduceSub,List.cons_append,List.nil_append,List.append_nil,List.length_cons,List.length_nil,Env.find_set,l3,l5,l6,l7,gb,gf,gz',gi,nt,kfl,hls,Nat.zero_add]
     rfl,stored rfl⟩
   ·rw [decide_eq_false hc] at hls
    have hk:keepB (some a) c=some a:=if_neg hc
    rw [hk]
    refine ⟨_,y2,by
     unfold chC at gf gi hls
     simp (disch:=first|omega|(with_unfolding_all exact rfl)|(simp only[new_n,put_n,new_m];omega)|(refine put_m_le ?_;simp only[new_m];omega)) only [K63b0,K63b0r0,e4,e5,e6,e7,Abs.W,reduceIte,Nat.reduceEqDiff,Nat.reduceAdd,decide_true,decide_false,kLoop_def,Nat.reduceSub,List.cons_append,List.nil_append,List.append_nil,List.length_cons,List.length_nil,Env.find_set,l3,l5,l6,l7,gb,gf,gz',gi,nt,kfl,hls,Nat.zero_add]
     rfl,rfl,fun _ _ _=>rfl,gf,gz,fun _ _ h=>h,Nat.le_refl _⟩
 obtain ⟨L2,y3,b1,b2,b3,b4,b5,b6,b7⟩:=body
 have y3l:y3.h.get l=some (.loop { R with state:=.busy }):=(b3 l (by omega) (by omega)).trans y2l
 have hfin:=call_round (P:=Try.prog) (X:=X) (n:=N) (l:=l) (args:=[.agg (chC (some c))]) (r:=R) (r1:=R) (r2:={ R with state:=.busy }) (s:=s) (s1:=y1) (s2:=y3) (e:=.norm) J.loop (by rw [hR];rfl) (by rw [hR];exact code63a0) (by rw [hR];exact code63b0) (by rw [hR];exact h1a) ((y1g l (by omega)).trans J.loop) (by rw [hR]) (by rw [hR];rw [hy2,hR] at b1;exact b1) y3l
 have hRR:({ ({ R with state:=.busy }:ALoop) with state:=if goesOn .norm then .ready else .done,pending:=jumpOf .norm }:ALoop)=R:=by rw [hR];rfl
 rw [hRR] at hfin
 refine ⟨_,hfin,⟨by rw [hR];exact get_put_eq _ _ _ _ rfl (by omega),?_,?_,?_⟩,fun y hy1 hy2 hy3 hy4=>?_,by rw [put_n];omega,by rw [put_n];omega,fun k hk hk2=>put_m_leP (b6 k hk (by rw [y2m];omega)) (by omega),?_,?_⟩
 ·rw [get_put_ne' _ _ _ _ (by omega),b3 pb (by omega) (by omega)];exact gb
 ·rw [get_put_ne' _ _ _ _ (by omega)];exact b4
 ·rw [get_put_ne' _ _ _ _ (by omega)];exact b5
 ·rw [get_put_ne' _ _ _ _ hy2,b3 y hy3 hy4,y2g y hy2];exact y1g y hy1
 ·simp only [St.put,minN_eq];omega
 ·simp only [St.put,minN_eq];omega
end Go.Proofs.Ytoolodjbfphkjaa.walk
set_option maxRecDepth 10000
namespace Go.Proofs.Ytoolodjbfphkjaa.walk
open Go.Abs Go.Proofs.Ytoolodjbfphkjaa.code
def chSz:Nat→Nat
 | 0=>20
 | j+1=>10000+5 * (100+chSz j)
def ChAt (s:Sl) (j:Nat):Prop:=∀ {N d nb mb:Nat} {u:Int × Int} {vL vE:AV} {ps:List (Key × Cho)} {t:St} {r:ARes},call Try.prog X N (.fn 41) [.agg (planV s vL vE mb),.agg (moC d u)] t=r→10 * j+10≤N→d+j=s.days+1→(∀ k, -10≤gk u k∧gk u k≤100)→SealAt t.h nb s vL vE→nb≤mb→mb<t.n→t.h.get mb=some (.map (mapE ps))→GoodM s ps→t.n+chSz j+1000≤far →
  ∃ t' ps',r=.val (.agg (chC (s.opt j d u))) t'∧Stir mb t t' (chSz j)∧t'.h.get mb=some (.map (mapE ps'))∧GoodM s ps'∧(t'.h.get mb=t.h.get mb∨t'.m≤mb)
theorem okA_yield (l:Nat) (s:St):okA (.val (.yield l) s)=.val (.yield l) s:=Eq.trans (Eq.refl _) (Eq.refl _)
theorem nx_bound {s:Sl} (ok:s.Ok) {d set:Nat} {u:Int × Int} (hd:d≤5) (hu:∀ k, -10≤gk u k∧gk u k≤100):∀ k, -10≤gk (s.nx d set u) k∧gk (s.nx d set u) k≤100:=by
 have hb:∀ k x, -10≤x∧x≤100 → -10≤s.un d set k x∧s.un d set k x≤100:=by
  intro k x hx
  unfold Sl.un
  have:=ok_ev ok k
  have:=ok.days
  split<;>omega
 have h0:=hu 0
 have h1:=hu 1
 intro k
 unfold Sl.nx gk
 by_cases e:k=0
 ·rw [if_pos e];exact hb 0 u.1 h0
 ·rw [if_neg e]
  show _≤(if s.n=2 then s.un d set 1 u.2 else u.2)∧(if s.n=2 then s.un d set 1 u.2 else u.2)≤_
  split
  ·exact hb 1 u.2 h1
  ·exact h1
theorem opt_bound {s:Sl} (hn:s.n=1∨s.n=2):∀ (j d:Nat) (u:Int × Int) (c:Nat × Nat),s.opt j d u=some c→c.2≤2 * j∧c.1<4
 | 0,d,u,c,h=>by injection h with h;subst h;exact ⟨Nat.le_refl _,by decide⟩
 | j+1,d,u,c,h=>by
  rcases keep_fold ((List.range (2 ^ s.n)).filterMap (s.cand (s.opt j (d+1)) d u)) none with ⟨_,_,h3⟩ | ⟨c',h1,h2,_,_⟩
  ·rw [show s.opt (j+1) d u=_ from h3] at h;cases h
  ·rw [show s.opt (j+1) d u=_ from h1] at h
   injection h with h
   subst h
   rcases h2 with h2 | ⟨p,q,e1,_,_⟩
   ·cases h2
   ·have hm:c' ∈ (List.range (2 ^ s.n)).filterMap (s.cand (s.opt j (d+1)) d u):=by rw [e1];simp
    obtain ⟨set,hset,hc⟩:=List.mem_filterMap.mp hm
    obtain ⟨g1,g2,g3,r,g4,g5⟩:=cand_some hc
    have:=(opt_bound hn j (d+1) _ r g4).1
    have:pop set≤2:=by unfold pop;omega
    rw [List.mem_range] at hset
    have h4:2 ^ s.n≤4:=by rcases hn with hn | hn<;>rw [hn]<;>decide
    omega
def candsTo (s:Sl) (j d:Nat) (u:Int × Int) (k:Nat):List (Nat × Nat):=(List.range k).filterMap (s.cand (s.opt j (d+1)) d u)
theorem candsTo_step (s:Sl) (j d:Nat) (u:Int × Int) (k:Nat):(candsTo s j d u (k+1)).foldl keepB none=match s.cand (s.opt j (d+1)) d u k with
  | none=>(candsTo s j d u k).foldl keepB none
  | some c=>keepB ((candsTo s j d u k).foldl keepB none) c:=by
 unfold candsTo
 rw [List.range_succ,List.filterMap_append,List.foldl_append]
 cases h:s.cand (s.opt j (d+1)) d u k with
 | none=>rw [List.filterMap_cons_none h];rfl
 | some c=>rw [List.filterMap_cons_some h];rfl
theorem candsTo_end (s:Sl) (j d:Nat) (u:Int × Int):(candsTo s j d u (2 ^ s.n)).foldl keepB none=s.opt (j+1) d u:=rfl
theorem choices_round {s:Sl} (ok:s.Ok) (j:Nat) (ih:ChAt s j) (N:Nat) (hN:10 * j+11≤N) (cx:Ctx) {d nb mb pa pm l pb pf pz w set:Nat} {u:Int × Int} {vL vE:AV} {L0 L:Env} {w0 t:St} {ps:List (Key × Cho)} (hd:d+(j+1)=s.days+1) (hu:∀ k, -10≤gk u k∧gk u k≤100) (hS:SealAt w0.h nb s vL vE) (hnb:nb≤mb)
  (ga:w0.h.get pa=some (.cells (planV s vL vE mb) (tag 100))) (gm:w0.h.get pm=some (.cells (moC d u) (tag 103))) (a1:mb<pa) (a2:pa<pb) (a3:mb<pm) (a4:pm<pb) (a5:pb<pf) (a6:pf<pz) (a7:pz<l) (a8:l<w0.n) (hset:set<2 ^ s.n)
  (f3:L0.find 3=.ptr pb 0) (f5:L0.find 5=.ptr pf 0) (f6:L0.find 6=.ptr pz 0)
  (J:Taker t.h l pb pf pz (bestO L0 w) ((candsTo s j d u set).foldl keepB none)) (gM:t.h.get mb=some (.map (mapE ps))) (gd:GoodM s ps) (same:∀ c,c<w0.n→c≠mb→c≠l→c≠pf→c≠pz→t.h.get c=w0.h.get c) (tn:w0.n≤t.n) (hs:t.n+chSz j+3000≤far)
  (q0:L.find 0=.yield l) (q1:L.find 1=.ptr pa 0) (q2:L.find 2=.ptr pm 0) (q13:L.find 13=.int .i64 ((2 ^ s.n:Nat):Int)) (q14:L.find 14=.int .i64 (set:Int)) :
  ∃ L1 t1 ps1,K76l0 (call Try.prog X (N+1)) cx L [] t=.done .norm L1 [] t1∧L1.find 0=.yield l∧L1.find 1=.ptr pa 0∧L1.find 2=.ptr pm 0∧L1.find 13=.int .i64 ((2 ^ s.n:Nat):Int)∧L1.find 14=.int .i64 ((set+1:Nat):Int) ∧
   Taker t1.h l pb pf pz (bestO L0 w) ((candsTo s j d u (set+1)).foldl keepB none)∧t1.h.get mb=some (.map (mapE ps1))∧GoodM s ps1∧(∀ c,c<t.n→c≠mb→c≠l→c≠pf→c≠pz→t1.h.get c=t.h.get c)∧t.n≤t1.n∧t1.n≤t.n+(100+chSz j)∧(mb≤t.m→mb≤t1.m)∧t1.m≤t.m∧(t1.h.get mb=t.h.get mb∨t1.m≤mb)∧((candsTo s j d u (set+1)).foldl keepB none=(candsTo s j d u set).foldl keepB none∨t1.m≤l):=by
 have hn:=ok.n
 have hdays:=ok.days
 have hf:far=1000000000:=rfl
 have h4:set<4:=by rcases hn with h | h<;>rw [h] at hset<;>have:2 ^ 1=2:=rfl<;>have:2 ^ 2=4:=rfl<;>omega
 have e0:decide ((set:Int)<((2 ^ s.n:Nat):Int))=true:=decide_eq_true (by omega)
 have ga':=(same pa (by omega) (by omega) (by omega) (by omega) (by omega)).trans ga
 have gm':=(same pm (by omega) (by omega) (by omega) (by omega) (by omega)).trans gm
 have hSt:SealAt t.h nb s vL vE:=hS.grow (fun c hc=>same c (by omega) (by omega) (by omega) (by omega) (by omega)) (Nat.le_refl _)
 have cv:∀ st,cviA .u64 st (.int .i64 (set:Int))=.val (.int .u64 (set:Int)) st:=fun st=>by rw [cviA_int,wrap_u64 _ (by omega)]
 have h1:=ones_ok (N+1) (by omega) set h4 t (by omega)
 obtain ⟨R,hnx,hR⟩:=next_ok ok (N+1) (by omega) mb d set u (by omega) hu hset t (hSt.grow (fun _ _=>rfl) (by omega)) (by omega)
 have kL:∀ t,okA (.val vL t)=.val vL t:=fun t=>okA_ne hSt.l.ne
 have scS:=hSt.scal
 have ad1:∀ st,aAdd st .i64 (set:Int) 1=.val (.int .i64 ((set+1:Nat):Int)) st:=fun st=>aAdd_i64 st _ _ (by omega)
 have hstep:=candsTo_step s j d u set
 have ex0:∀ (a b:AV) (st:St),extA 0 st (.tup [a,b])=.val a st:=fun _ _ _=>rfl
 have ex1:∀ (a b:AV) (st:St),extA 1 st (.tup [a,b])=.val b st:=fun _ _ _=>rfl
 have okt:∀ (l:List AV) (st:St),okA (.val (.tup l) st)=.val (.tup l) st:=fun _ _=>rfl
 have nt:∀ (b:Bool) st,notA st (.bool b)=.val (.bool !b) st:=fun _ _=>rfl
 have u8:=eqP3 K76r5s8.eq_1
 have u7:=eqP3 K76r5s7.eq_1
 have v12:=eqP3 K76r7s12.eq_1
 have v11:=eqP3 K76r7s11.eq_1
 have v10:=eqP3 K76r7s10.eq_1
 have v9:=eqP3 K76r7s9.eq_1
 have v8:=eqP3 K76r7s8.eq_1
 have v7:=eqP3 K76r7s7.eq_1
 have v6:=eqP3 K76r7s6.eq_1
 have v5:=eqP3 K76r7s5.eq_1
 have v4:=eqP3 K76r7s4.eq_1
 have hpop:pop set≤2:=by unfold pop;omega
 obtain ⟨y,hy⟩:∃ y:St,y=(t.new (.cells (moC 0 (0,0)) (tag 103))).put t.n (.cells R (tag 103)):=⟨_,rfl⟩
 have yn:y.n=t.n+1:=by rw [hy];rfl
 have yg:∀ c,c<t.n→y.h.get c=t.h.get c:=fun c hc=>by rw [hy,get_put_ne' _ _ _ _ (by omega),get_new_ne _ _ _ (by omega)]
 have yp:y.h.get t.n=some (.cells R (tag 103)):=by rw [hy];exact get_put_eq _ _ _ _ rfl (by omega)
 have ym:y.m=min t.m t.n:=by rw [hy];simp only [St.put,minN_eq,new_m]
 by_cases hgo:pop set≤s.most∧s.okn d (s.nx d set u)=true
 case neg =>
  have hc:s.cand (s.opt j (d+1)) d u set=none:=by unfold Sl.cand;rw [if_neg hgo]
  rw [hc] at hstep
  cases hov:s.okn d (s.nx d set u) with
  | false =>
   rw [hov] at hnx
   rw [hov,if_neg (by simp)] at hR
   subst hR
   cases hb:decide ((s.most:Int)<((pop set:Nat):Int)) with
   | false =>
    refine ⟨_,y,ps,by
     simp (disch:=first|omega|(with_unfolding_all exact rfl)|(simp only[new_n,put_n,new_m];omega)|(refine put_m_le ?_;simp only[new_m];omega)) only [K76l0,K76r1,K76r2,K76r3,K76r4,Abs.W,reduceIte,Nat.reduceEqDiff,Nat.reduceAdd,decide_true,decide_false,kLoop_def,Nat.reduceSub,List.cons_append,List.nil_append,List.append_nil,List.length_cons,List.length_nil,Env.find_set,q0,q1,q2,q13,q14,e0,cv,h1,ga',gm',scS,kL,hnx,ex0,ex1,okt,Nat.zero_add]
     generalize hgy:St.put _ _ _=y'
     obtain rfl:y=y':=hy.trans hgy
     simp (disch:=first|omega|(with_unfolding_all exact rfl)|(simp only[new_n,put_n,new_m];omega)|(refine put_m_le ?_;simp only[new_m];omega)) only [K76r5,K76r8,u8,u7,Abs.W,reduceIte,Nat.reduceEqDiff,Nat.reduceAdd,decide_true,decide_false,kLoop_def,Nat.reduceSub,List.cons_append,List.nil_append,List.append_nil,List.length_cons,List.length_nil,Env.find_set,q0,q1,q2,q13,q14,(yg pa (by omega)).trans ga',hb,ad1,nt,Nat.zero_add]
     rfl,?_,?_,?_,?_,?_,?_,?_,gd,fun c hc _ _ _ _=>yg c hc,by omega,by omega,fun h=>by omega,by omega,.inl (yg mb (by omega)),.inl hstep⟩
    ·simp only [Env.find_set,reduceIte,Nat.reduceEqDiff,q0]
    ·simp only [Env.find_set,reduceIte,Nat.reduceEqDiff,q1]
    ·simp only [Env.find_set,reduceIte,Nat.reduceEqDiff,q2]
    ·simp only [Env.find_set,reduceIte,Nat.reduceEqDiff,q13]
    ·simp only [Env.find_set,reduceIte,Nat.reduceEqDiff]
    ·rw [hstep];exact J.grow (yg l (by omega)) (yg pb (by omega)) (yg pf (by omega)) (yg pz (by omega))
    ·exact (yg mb (by omega)).trans gM
   | true =>
    refine ⟨_,y,ps,by
     simp (disch:=first|omega|(with_unfolding_all exact rfl)|(simp only[new_n,put_n,new_m];omega)|(refine put_m_le ?_;simp only[new_m];omega)) only [K76l0,K76r1,K76r2,K76r3,K76r4,Abs.W,reduceIte,Nat.reduceEqDiff,Nat.reduceAdd,decide_true,decide_false,kLoop_def,Nat.reduceSub,List.cons_append,List.nil_append,List.append_nil,List.length_cons,List.length_nil,Env.find_set,q0,q1,q2,q13,q14,e0,cv,h1,ga',gm',scS,kL,hnx,ex0,ex1,okt,Nat.zero_add]
     generalize hgy:St.put _ _ _=y'
     obtain rfl:y=y':=hy.trans hgy
     simp (disch:=first|omega|(with_unfolding_all exact rfl)|(simp only[new_n,put_n,new_m];omega)|(refine put_m_le ?_;simp only[new_m];omega)) only [K76r5,K76r8,u8,u7,Abs.W,reduceIte,Nat.reduceEqDiff,Nat.reduceAdd,decide_true,decide_false,kLoop_def,Nat.reduceSub,List.cons_append,List.nil_append,List.append_nil,List.length_cons,List.length_nil,Env.find_set,q0,q1,q2,q13,q14,(yg pa (by omega)).trans ga',hb,ad1,nt,Nat.zero_add]
     rfl,?_,?_,?_,?_,?_,?_,?_,gd,fun c hc _ _ _ _=>yg c hc,by omega,by omega,fun h=>by omega,by omega,.inl (yg mb (by omega)),.inl hstep⟩
    ·simp only [Env.find_set,reduceIte,Nat.reduceEqDiff,q0]
    ·simp only [Env.find_set,reduceIte,Nat.reduceEqDiff,q1]
    ·simp only [Env.find_set,reduceIte,Nat.reduceEqDiff,q2]
    ·simp only [Env.find_set,reduceIte,Nat.reduceEqDiff,q13]
    ·simp only [Env.find_set,reduceIte,Nat.reduceEqDiff]
    ·rw [hstep];exact J.grow (yg l (by omega)) (yg pb (by omega)) (yg pf (by omega)) (yg pz (by omega))
    ·exact (yg mb (by omega)).trans gM
  | true =>
   rw [hov] at hnx
   rw [hov,if_pos rfl] at hR
   subst hR
   have hb:decide ((s.most:Int)<((pop set:Nat):Int))=true:=decide_eq_true (by have:¬ pop set≤s.most:=fun h=>hgo ⟨h,hov⟩;omega)
   refine ⟨_,y,ps,by
    simp (disch:=first|omega|(with_unfolding_all exact rfl)|(simp only[new_n,put_n,new_m];omega)|(refine put_m_le ?_;simp only[new_m];omega)) only [K76l0,K76r1,K76r2,K76r3,K76r4,Abs.W,reduceIte,Nat.reduceEqDiff,Nat.reduceAdd,decide_true,decide_false,kLoop_def,Nat.reduceSub,List.cons_append,List.nil_append,List.append_nil,List.length_cons,List.length_nil,Env.find_set,q0,q1,q2,q13,q14,e0,cv,h1,ga',gm',scS,kL,hnx,ex0,ex1,okt,Nat.zero_add]
    generalize hgy:St.put _ _ _=y'
    obtain rfl:y=y':=hy.trans hgy
    simp (disch:=first|omega|(with_unfolding_all exact rfl)|(simp only[new_n,put_n,new_m];omega)|(refine put_m_le ?_;simp only[new_m];omega)) only [K76r5,K76r8,u8,u7,Abs.W,reduceIte,Nat.reduceEqDiff,Nat.reduceAdd,decide_true,decide_false,kLoop_def,Nat.reduceSub,List.cons_append,List.nil_append,List.append_nil,List.length_cons,List.length_nil,Env.find_set,q0,q1,q2,q13,q14,(yg pa (by omega)).trans ga',hb,ad1,nt,Nat.zero_add]
    rfl,?_,?_,?_,?_,?_,?_,?_,gd,fun c hc _ _ _ _=>yg c hc,by omega,by omega,fun h=>by omega,by omega,.inl (yg mb (by omega)),.inl hstep⟩
   ·simp only [Env.find_set,reduceIte,Nat.reduceEqDiff,q0]
   ·simp only [Env.find_set,reduceIte,Nat.reduceEqDiff,q1]
   ·simp only [Env.find_set,reduceIte,Nat.reduceEqDiff,q2]
   ·simp only [Env.find_set,reduceIte,Nat.reduceEqDiff,q13]
   ·simp only [Env.find_set,reduceIte,Nat.reduceEqDiff]
   ·rw [hstep];exact J.grow (yg l (by omega)) (yg pb (by omega)) (yg pf (by omega)) (yg pz (by omega))
   ·exact (yg mb (by omega)).trans gM
 case pos =>
  obtain ⟨hgp,hov⟩:=hgo
  rw [hov] at hnx
  rw [hov,if_pos rfl] at hR
  subst hR
  have hb:decide ((s.most:Int)<((pop set:Nat):Int))=false:=decide_eq_false (by omega)
  have hc:s.cand (s.opt j (d+1)) d u set=(s.opt j (d+1) (s.nx d set u)).map fun c=>(set,pop set+c.2):=by unfold Sl.cand;rw [if_pos ⟨hgp,hov⟩]
  have gay:=(yg pa (by omega)).trans ga'
  have hSy:SealAt y.h nb s vL vE:=hSt.grow (fun c hc=>yg c (by omega)) (Nat.le_refl _)
  simp (disch:=first|omega|(with_unfolding_all exact rfl)|(simp only[new_n,put_n,new_m];omega)|(refine put_m_le ?_;simp only[new_m];omega)) only [K76l0,K76r1,K76r2,K76r3,K76r4,Abs.W,reduceIte,Nat.reduceEqDiff,Nat.reduceAdd,decide_true,decide_false,kLoop_def,Nat.reduceSub,List.cons_append,List.nil_append,List.append_nil,List.length_cons,List.length_nil,Env.find_set,q0,q1,q2,q13,q14,e0,cv,h1,ga',gm',scS,kL,hnx,ex0,ex1,okt,Nat.zero_add]
  generalize hgy:St.put _ _ _=y'
  obtain rfl:y=y':=hy.trans hgy
  simp (disch:=first|omega|(with_unfolding_all exact rfl)|(simp only[new_n,put_n,new_m];omega)|(refine put_m_le ?_;simp only[new_m];omega)) only [K76r5,K76r6,u8,u7,Abs.W,reduceIte,Nat.reduceEqDiff,Nat.reduceAdd,decide_true,decide_false,kLoop_def,Nat.reduceSub,List.cons_append,List.nil_append,List.append_nil,List.length_cons,List.length_nil,Env.find_set,q0,q1,q2,q13,q14,gay,yp,scS,kL,hb,ad1,nt,Nat.zero_add]
  generalize hcc:call _ _ _ (.fn 41) _ _=rc
  obtain ⟨t2,ps2,rfl,s2,gM2,gd2,gq2⟩:=ih hcc (by omega) (by omega) (nx_bound ok (by omega) hu) hSy hnb (by omega) ((yg mb (by omega)).trans gM) gd (by omega)
  have s2n:=s2.n
  have s2l:=s2.le
  have s2m:=s2.m
  have s2u:=s2.mle
  have gs2:∀ c,c<t.n→c≠mb→t2.h.get c=t.h.get c:=fun c hc hc2=>(s2.same c (by omega) hc2).trans (yg c hc)
  have J2:=J.grow (gs2 l (by omega) (by omega)) (gs2 pb (by omega) (by omega)) (gs2 pf (by omega) (by omega)) (gs2 pz (by omega) (by omega))
  obtain ⟨o,ho⟩:∃ o,s.opt j (d+1) (s.nx d set u)=o:=⟨_,rfl⟩
  rw [ho] at hc ⊢
  obtain ⟨z,hz⟩:∃ z:St,z=(t2.new (.cells (chC none) (tag 106))).put t2.n (.cells (chC o) (tag 106)):=⟨_,rfl⟩
  have zn:z.n=t2.n+1:=by rw [hz];rfl
  have zg:∀ c,c<t2.n→z.h.get c=t2.h.get c:=fun c hc=>by rw [hz,get_put_ne' _ _ _ _ (by omega),get_new_ne _ _ _ (by omega)]
  have zp:z.h.get t2.n=some (.cells (chC o) (tag 106)):=by rw [hz];exact get_put_eq _ _ _ _ rfl (by omega)
  have zm:z.m=min t2.m t2.n:=by rw [hz];simp only [St.put,minN_eq,new_m]
  have Jz:=J2.grow (zg l (by omega)) (zg pb (by omega)) (zg pf (by omega)) (zg pz (by omega))
  have gMz:=(zg mb (by omega)).trans gM2
  have gsz:∀ c,c<t.n→c≠mb→z.h.get c=t.h.get c:=fun c hc hc2=>(zg c (by omega)).trans (gs2 c hc hc2)
  cases o with
  | none =>
   rw [show (Option.map (fun c:Nat × Nat=>(set,pop set+c.2)) none)=none from rfl] at hc
   rw [hc] at hstep
   unfold chC at hz zp ⊢
   refine ⟨_,z,ps2,by
    simp (disch:=first|omega|(with_unfolding_all exact rfl)|(simp only[new_n,put_n,new_m];omega)|(refine put_m_le ?_;simp only[new_m];omega)) only [Abs.W,reduceIte,Nat.reduceEqDiff,Nat.reduceAdd,decide_true,decide_false,kLoop_def,Nat.reduceSub,List.cons_append,List.nil_append,List.append_nil,List.length_cons,List.length_nil,Env.find_set,Nat.zero_add]
    generalize hgz:St.put _ _ _=z'
    obtain rfl:z=z':=hz.trans hgz
    simp (disch:=first|omega|(with_unfolding_all exact rfl)|(simp only[new_n,put_n,new_m];omega)|(refine put_m_le ?_;simp only[new_m];omega)) only [K76r7,K76r8,v12,v11,v10,v9,v8,v7,v6,v5,v4,Abs.W,reduceIte,Nat.reduceEqDiff,Nat.reduceAdd,decide_true,decide_false,kLoop_def,Nat.reduceSub,List.cons_append,List.nil_append,List.append_nil,List.length_cons,List.length_nil,Env.find_set,q0,q1,q2,q13,q14,zp,ad1,Nat.zero_add]
    rfl,?_,?_,?_,?_,?_,by rw [hstep];exact Jz,gMz,gd2,fun c hc h1 _ _ _=>gsz c hc h1,by omega,by omega,fun h=>by have:=s2m (by omega);omega,by omega,gq2.imp (fun h=>(zg mb (by omega)).trans (h.trans (yg mb (by omega)))) (fun h=>by omega),.inl hstep⟩
   ·simp only [Env.find_set,reduceIte,Nat.reduceEqDiff,q0]
   ·simp only [Env.find_set,reduceIte,Nat.reduceEqDiff,q1]
   ·simp only [Env.find_set,reduceIte,Nat.reduceEqDiff,q2]
   ·simp only [Env.find_set,reduceIte,Nat.reduceEqDiff,q13]
   ·simp only [Env.find_set,reduceIte,Nat.reduceEqDiff]
  | some c =>
   rw [show (Option.map (fun c:Nat × Nat=>(set,pop set+c.2)) (some c))=some (set,pop set+c.2) from rfl] at hc
   rw [hc] at hstep
   obtain ⟨t3,hy3,J3,g3,n3,n3',m3,m3',m3l⟩:=best_take N (by omega) (set,pop set+c.2) Jz f3 f5 f6 (by omega) (by omega) (by omega) (by omega) a5 a6 (by omega)
   have hc2:=opt_bound hn j (d+1) (s.nx d set u) c ho
   have cob:cellsOf 1 (.bool true)=some [.bool true]:=rfl
   have ad2:∀ st,aAdd st .i64 ((pop set:Nat):Int) (c.2:Int)=.val (.int .i64 ((pop set+c.2:Nat):Int)) st:=fun st=>by rw [aAdd_i64 st _ _ (by omega)];rfl
   unfold chC at hz zp hy3 ⊢
   refine ⟨_,t3,ps2,by
    simp (disch:=first|omega|(with_unfolding_all exact rfl)|(simp only[new_n,put_n,new_m];omega)|(refine put_m_le ?_;simp only[new_m];omega)) only [Abs.W,reduceIte,Nat.reduceEqDiff,Nat.reduceAdd,decide_true,decide_false,kLoop_def,Nat.reduceSub,List.cons_append,List.nil_append,List.append_nil,List.length_cons,List.length_nil,Env.find_set,Nat.zero_add]
    generalize hgz:St.put _ _ _=z'
    obtain rfl:z=z':=hz.trans hgz
    simp (disch:=first|omega|(with_unfolding_all exact rfl)|(simp only[new_n,put_n,new_m];omega)|(refine put_m_le ?_;simp only[new_m];omega)) only [K76r7,K76r8,v12,v11,v10,v9,v8,v7,v6,v5,v4,Abs.W,reduceIte,Nat.reduceEqDiff,Nat.reduceAdd,decide_true,decide_false,kLoop_def,Nat.reduceSub,List.cons_append,List.nil_append,List.append_nil,List.length_cons,List.length_nil,Env.find_set,q0,q1,q2,q13,q14,zp,ad1,ad2,hy3,okA_yield,nt,cob,Nat.zero_add]
    rfl,?_,?_,?_,?_,?_,by rw [hstep];exact J3,(g3 mb (by omega) (by omega) (by omega) (by omega)).trans gMz,gd2,fun c hc h1 h2 h3 h4=>(g3 c (by omega) h2 h3 h4).trans (gsz c hc h1),by omega,by omega,fun h=>by have:=s2m (by omega);exact m3 mb (by omega) (by omega),by omega,gq2.imp (fun h=>(g3 mb (by omega) (by omega) (by omega) (by omega)).trans ((zg mb (by omega)).trans (h.trans (yg mb (by omega))))) (fun h=>by omega),.inr m3l⟩
   ·simp only [Env.find_set,reduceIte,Nat.reduceEqDiff,q0]
   ·simp only [Env.find_set,reduceIte,Nat.reduceEqDiff,q1]
   ·simp only [Env.find_set,reduceIte,Nat.reduceEqDiff,q2]
   ·simp only [Env.find_set,reduceIte,Nat.reduceEqDiff,q13]
   ·simp only [Env.find_set,reduceIte,Nat.reduceEqDiff]
end Go.Proofs.Ytoolodjbfphkjaa.walk
set_option maxRecDepth 10000
namespace Go.Proofs.Ytoolodjbfphkjaa.walk
open Go.Abs Go.Proofs.Ytoolodjbfphkjaa.code
theorem kShl_def (x y:Arg) (L:Env) (s:St):kShl x y L s=shlA s (x.ev L) (y.ev L):=Eq.trans (Eq.refl _) (Eq.refl _)
theorem call_memo {P:Program} {X:FuncId→List Nat} {n:Nat} {f:FuncId} {args:List AV} {s:St} {fn:Func} {d k:Nat} {Q:AV→Prop} {R:Heap→Prop} (hf:P.funcs[f]? = some fn) (h0:R s.h)
  (h:∀ u:St,u.h=s.h→u.n=s.n→u.m=far→∃ v s',enterA P X (Abs.call P X n) f args u fn=.val v s'∧Stir d u s' k∧plain v=true∧Q v∧R s'.h∧(s'.h.get d=u.h.get d∨s'.m≤d)) (hd:d≤far) :
  ∃ v t,Abs.call P X (n+1) (.fn f) args s=.val v t∧Stir d s t k∧Q v∧R t.h∧(t.h.get d=s.h.get d∨t.m≤d):=by
 obtain ⟨v,s',h1,h2,h3,h4,h5,h6⟩:=h ⟨s.h,s.n,far⟩ rfl rfl rfl
 cases hb:Nat.ble s.n s'.m with
 | true =>
  refine ⟨v,s,?_,(Stir.refl d s).mono (Nat.zero_le _),h4,h0,.inl rfl⟩
  show callStep P X (Abs.call P X n) (.fn f) args s=_
  unfold callStep
  simp only [hf,h1]
  unfold Abs.settle
  simp only [hb,h3]
  rfl
 | false =>
  refine ⟨v,⟨s'.h,s'.n,minN s.m s'.m⟩,?_,Stir.draw (s:=s) h2 hd,h4,h5,h6.imp id fun h=>by show minN s.m s'.m≤d;rw [minN_eq];omega⟩
  show callStep P X (Abs.call P X n) (.fn f) args s=_
  unfold callStep
  simp only [hf,h1]
  unfold Abs.settle
  simp only [hb]
  rfl
theorem choices1_ex {s:Sl} (ok:s.Ok) (j:Nat) (ih:ChAt s j) (N:Nat) (hN:10 * j+11≤N) {d nb mb pa pm l pb pf pz w:Nat} {u:Int × Int} {vL vE:AV} {L0:Env} {w0:St} {ps:List (Key × Cho)} {r:ARes} (hr:call Try.prog X (N+2) (.fn 76) [.yield l,.ptr pa 0,.ptr pm 0] w0=r) (hd:d+(j+1)=s.days+1) (hu:∀ k, -10≤gk u k∧gk u k≤100) (hS:SealAt w0.h nb s vL vE) (hnb:nb≤mb)
  (ga:w0.h.get pa=some (.cells (planV s vL vE mb) (tag 100))) (gm:w0.h.get pm=some (.cells (moC d u) (tag 103))) (a1:mb<pa) (a2:pa<pb) (a3:mb<pm) (a4:pm<pb) (a5:pb<pf) (a6:pf<pz) (a7:pz<l) (a8:l<w0.n)
  (f3:L0.find 3=.ptr pb 0) (f5:L0.find 5=.ptr pf 0) (f6:L0.find 6=.ptr pz 0)
  (J:Taker w0.h l pb pf pz (bestO L0 w) none) (gM:w0.h.get mb=some (.map (mapE ps))) (gd:GoodM s ps) (hm:mb≤w0.m) (hmf:w0.m≤far) (hs:w0.n+4 * (100+chSz j)+chSz j+4000≤far) :
  ∃ t ps',r=.val (.tup []) t∧Taker t.h l pb pf pz (bestO L0 w) (s.opt (j+1) d u)∧t.h.get mb=some (.map (mapE ps'))∧GoodM s ps'∧(∀ c,c<w0.n→c≠mb→c≠l→c≠pf→c≠pz→t.h.get c=w0.h.get c)∧w0.n≤t.n∧t.n≤w0.n+4 * (100+chSz j)∧mb≤t.m∧t.m≤w0.m∧(t.h.get mb=w0.h.get mb∨t.m≤mb):=by
 have hf:far=1000000000:=rfl
 have hn:=ok.n
 have h24:2 ^ s.n≤4:=by rcases hn with hn | hn<;>rw [hn]<;>decide
 obtain ⟨v,t,m,e1,⟨rfl,hJ,⟨ps',hM,hg⟩,hsame,hn1,hn2,hm1,hm2,hq⟩,hm'⟩:=call_any (n:=N+1) (args:=[.yield l,.ptr pa 0,.ptr pm 0]) (s:=w0) (Q:=fun v h n m=>v=.tup []∧Taker h l pb pf pz (bestO L0 w) (s.opt (j+1) d u)∧(∃ ps',h.get mb=some (.map (mapE ps'))∧GoodM s ps')∧(∀ c,c<w0.n→c≠mb→c≠l→c≠pf→c≠pz→h.get c=w0.h.get c)∧w0.n≤n∧n≤w0.n+4 * (100+chSz j)∧mb≤m∧m≤far∧(h.get mb=w0.h.get mb∨m≤mb)) Try.func76 rfl (fun u' uh un um=>by
  have hSu:SealAt u'.h nb s vL vE:=by rw [uh];exact hS
  have ga':=ga
  rw [← uh] at ga'
  have kL:∀ t,okA (.val vL t)=.val vL t:=fun t=>okA_ne hS.l.ne
  have ln:=hS.lenL hn
  have sh:∀ st,shlA st (.int .i64 1) (.int .i64 (s.n:Int))=.val (.int .i64 ((2 ^ s.n:Nat):Int)) st:=fun st=>by rcases hn with hn | hn<;>rw [hn]<;>rfl
  rw [enter76]
  simp (disch:=first|omega|(with_unfolding_all exact rfl)|(simp only[new_n,put_n,new_m];omega)|(refine put_m_le ?_;simp only[new_m];omega)) only [K76,K76r0,Abs.W,reduceIte,Nat.reduceEqDiff,Nat.reduceAdd,decide_true,decide_false,kLoop_def,Nat.reduceSub,List.cons_append,List.nil_append,List.append_nil,List.length_cons,List.length_nil,Env.find_set,ga',kL,ln,kShl_def,sh,Nat.zero_add]
  generalize hlp:loopN _ rounds _ _ _ _ _=q1
  obtain ⟨e,L1,t1,rfl,rfl,⟨ps1,i1,i2⟩,i3,i4,i5,i6,i7,i8,i9,i10⟩:=loop_of hlp (fun i L t=>L.find 0=.yield l∧L.find 1=.ptr pa 0∧L.find 2=.ptr pm 0∧L.find 13=.int .i64 ((2 ^ s.n:Nat):Int)∧L.find 14=.int .i64 (i:Int)∧(∃ ps1,t.h.get mb=some (.map (mapE ps1))∧GoodM s ps1)∧Taker t.h l pb pf pz (bestO L0 w) ((candsTo s j d u i).foldl keepB none)∧(∀ c,c<w0.n→c≠mb→c≠l→c≠pf→c≠pz→t.h.get c=w0.h.get c)∧w0.n≤t.n∧t.n≤w0.n+i * (100+chSz j)∧mb≤t.m∧t.m≤far∧(t.h.get mb=w0.h.get mb∨t.m≤mb)∧((candsTo s j d u i).foldl keepB none=none∨t.m≤l))
   (fun e L t=>e=.exit 0∧(∃ ps1,t.h.get mb=some (.map (mapE ps1))∧GoodM s ps1)∧Taker t.h l pb pf pz (bestO L0 w) (s.opt (j+1) d u)∧(∀ c,c<w0.n→c≠mb→c≠l→c≠pf→c≠pz→t.h.get c=w0.h.get c)∧w0.n≤t.n∧t.n≤w0.n+4 * (100+chSz j)∧mb≤t.m∧t.m≤far∧(t.h.get mb=w0.h.get mb∨t.m≤mb)∧(s.opt (j+1) d u=none∨t.m≤l)) (2 ^ s.n) (by unfold rounds;omega)
   ⟨by simp only [find_cons,Env.find_set,reduceIte,Nat.reduceEqDiff],by simp only [find_cons,Env.find_set,reduceIte,Nat.reduceEqDiff],by simp only [find_cons,Env.find_set,reduceIte,Nat.reduceEqDiff],by simp only [find_cons,Env.find_set,reduceIte,Nat.reduceEqDiff],by simp only [find_cons,Env.find_set,reduceIte,Nat.reduceEqDiff];rfl,⟨ps,by rw [uh];exact gM,gd⟩,by rw [uh];exact J,fun c _ _ _ _ _=>by rw [uh],by omega,by omega,by omega,by omega,.inl (by rw [uh]),.inl rfl⟩
   (fun i L t hi ⟨q0,q1,q2,q13,q14,⟨ps1,gM1,gd1⟩,J1,same,tn,tk,tm,tf,tq,ta⟩=>by
    by_cases hlt:i<2 ^ s.n
    ·have c4:=Nat.mul_le_mul_right (100+chSz j) (show i+1≤4 by omega)
     have sc:(i+1) * (100+chSz j)=i * (100+chSz j)+(100+chSz j):=Nat.succ_mul _ _
     obtain ⟨L1,t1,ps2,b,b0,b1,b2,b13,b14,bJ,bM,bg,bs,bn,bk,bm,bm',bq,ba⟩:=choices_round ok j ih N hN ⟨76,none,Try.f76.ntmps,X 76⟩ hd hu hS hnb ga gm a1 a2 a3 a4 a5 a6 a7 a8 hlt f3 f5 f6 J1 gM1 gd1 same tn (by omega) q0 q1 q2 q13 q14
     refine .inl ⟨hlt,L1,t1,b,b0,b1,b2,b13,b14,⟨ps2,bM,bg⟩,bJ,fun c h1 h2 h3 h4 h5=>(bs c (by omega) h2 h3 h4 h5).trans (same c h1 h2 h3 h4 h5),by omega,by rw [sc];omega,bm tm,by omega,?_,?_⟩
     ·rcases bq with h | h
      ·exact tq.imp (fun h2=>h.trans h2) (fun h2=>by omega)
      ·exact .inr h
     ·rcases ba with h | h
      ·rw [h];exact ta.imp id (fun h2=>by omega)
      ·exact .inr h
    ·have e0:decide ((i:Int)<((2 ^ s.n:Nat):Int))=false:=decide_eq_false (by omega)
     obtain rfl:i=2 ^ s.n:=by omega
     have c4:=Nat.mul_le_mul_right (100+chSz j) h24
     rw [candsTo_end] at J1 ta
     exact .inr ⟨.exit 0,_,t,by simp,by
      simp (disch:=first|omega|(with_unfolding_all exact rfl)|(simp only[new_n,put_n,new_m];omega)|(refine put_m_le ?_;simp only[new_m];omega)) only [K76l0,K76r1,Abs.W,reduceIte,Nat.reduceEqDiff,Nat.reduceAdd,decide_true,decide_false,kLoop_def,Nat.reduceSub,List.cons_append,List.nil_append,List.append_nil,List.length_cons,List.length_nil,Env.find_set,q13,q14,e0,Nat.zero_add]
      rfl,rfl,⟨ps1,gM1,gd1⟩,J1,same,tn,by omega,tm,tf,tq,ta⟩)
  simp (disch:=first|omega|(with_unfolding_all exact rfl)|(simp only[new_n,put_n,new_m];omega)|(refine put_m_le ?_;simp only[new_m];omega)) only [res76,Abs.W,reduceIte,Nat.reduceEqDiff,Nat.reduceAdd,decide_true,decide_false,kLoop_def,Nat.reduceSub,List.cons_append,List.nil_append,List.append_nil,List.length_cons,List.length_nil,leave_nil]
  refine ⟨_,_,rfl,⟨rfl,i3,⟨ps1,i1,i2⟩,i4,i5,i6,i7,i8,i9⟩,fun _ hle=>⟨rfl,?_,⟨ps,gM,gd⟩,by simp,Nat.le_refl _,by omega,i7,i8,.inl (by simp)⟩⟩
  rcases i10 with h | h
  ·rw [h];exact J
  ·omega)
 have htm:t.m≤m∨(w0.n≤m∧t.m=w0.m):=by rcases hm' with ⟨h1,h2⟩ | ⟨_,h2⟩<;>omega
 exact ⟨t,ps',hr.symm.trans e1,hJ,hM,hg,hsame,hn1,hn2,by rcases hm' with ⟨h1,h2⟩ | ⟨_,h2⟩<;>omega,by rcases hm' with ⟨h1,h2⟩ | ⟨_,h2⟩<;>omega,hq.imp id fun h=>by omega⟩
end Go.Proofs.Ytoolodjbfphkjaa.walk
set_option maxRecDepth 10000
namespace Go.Proofs.Ytoolodjbfphkjaa.walk
open Go.Abs Go.Proofs.Ytoolodjbfphkjaa.code
theorem kFunc_defP (f:FuncId) (a b:List Arg) (L:Env) (s:St):kFunc f a b L s=.val (.func f (evs a L) (evs b L)) s:=Eq.trans (Eq.refl _) (Eq.refl _)
theorem choices_ex {N:Nat} {s:Sl} {d nb mb:Nat} {u:Int × Int} {vL vE:AV} {t:St} {r:ARes} (hr:call Try.prog X N (.fn 64) [.agg (planV s vL vE mb),.agg (moC d u)] t=r) (hN:1≤N) (hS:SealAt t.h nb s vL vE) (hs:t.n+100≤far) :
  ∃ t',r=.val (.func 76 [] [.ptr t.n 0,.ptr (t.n+1) 0]) t'∧New t t' 2∧t'.n=t.n+2∧t'.h.get t.n=some (.cells (planV s vL vE mb) (tag 100))∧t'.h.get (t.n+1)=some (.cells (moC d u) (tag 103)):=by
 obtain ⟨n,rfl⟩:∃ n,N=n+1:=⟨N - 1,by omega⟩
 have hf:far=1000000000:=rfl
 obtain ⟨v,t',e,st,rfl,h2,h3,h4⟩:=call_new (n:=n) (args:=[.agg (planV s vL vE mb),.agg (moC d u)]) (s:=t) (k:=2) (Q:=fun v h n=>v=.func 76 [] [.ptr t.n 0,.ptr (t.n+1) 0]∧n=t.n+2∧h.get t.n=some (.cells (planV s vL vE mb) (tag 100))∧h.get (t.n+1)=some (.cells (moC d u) (tag 103))) Try.func64 rfl (fun u' uh un um=>by
  rw [← un]
  rw [enter64]
  obtain ⟨y,hy⟩:∃ y:St,y=(u'.new (.cells (planV s vL vE mb) (tag 100))).new (.cells (moC d u) (tag 103)):=⟨_,rfl⟩
  have scS:=hS.scal
  have kf:∀ s,okA (.val (.func 76 [] [.ptr u'.n 0,.ptr (u'.n+1) 0]) s)=.val (.func 76 [] [.ptr u'.n 0,.ptr (u'.n+1) 0]) s:=fun _=>rfl
  simp (disch:=first|omega|(with_unfolding_all exact rfl)|(simp only[new_n,put_n,new_m];omega)|(refine put_m_le ?_;simp only[new_m];omega)) only [res64,K64r0,K64r1,K64,Abs.W,reduceIte,Nat.reduceEqDiff,Nat.reduceAdd,decide_true,decide_false,kLoop_def,Nat.reduceSub,List.cons_append,List.nil_append,List.append_nil,List.length_cons,List.length_nil,Env.find_set,kFunc_defP,scS,kf,Nat.zero_add]
  simp only [new_n]
  generalize hgy:St.new _ _=y'
  obtain rfl:y=y':=hy.trans hgy
  have yn:y.n=u'.n+2:=by rw [hy];rfl
  refine ⟨_,y,rfl,⟨fun c hc=>by rw [hy,get_new_ne _ _ _ (by rw [new_n];omega),get_new_ne _ _ _ (by omega)],by omega,by omega,by rw [hy];simp only [new_m];omega,by rw [hy];simp only [new_m];omega⟩,rfl,rfl,yn,?_,?_⟩
  ·rw [hy,get_new_ne _ _ _ (by rw [new_n];omega)];exact get_new_eq _ _ _ rfl (by omega)
  ·rw [hy];exact get_new_eq _ _ _ rfl (by rw [new_n];omega))
 exact ⟨t',hr.symm.trans e,st,h2,h3,h4⟩
theorem best_ex {s:Sl} (ok:s.Ok) (j:Nat) (ih:ChAt s j) (N:Nat) (hN:10 * j+15≤N) {d nb mb pa pm:Nat} {u:Int × Int} {vL vE:AV} {t:St} {ps:List (Key × Cho)} {r:ARes} (hr:call Try.prog X N (.fn 63) [.func 76 [] [.ptr pa 0,.ptr pm 0],.func 65 [] []] t=r) (hd:d+(j+1)=s.days+1) (hu:∀ k, -10≤gk u k∧gk u k≤100) (hS:SealAt t.h nb s vL vE) (hnb:nb≤mb)
  (ga:t.h.get pa=some (.cells (planV s vL vE mb) (tag 100))) (gm:t.h.get pm=some (.cells (moC d u) (tag 103))) (a1:mb<pa) (a2:pa<t.n) (a3:mb<pm) (a4:pm<t.n) (gM:t.h.get mb=some (.map (mapE ps))) (gd:GoodM s ps) (hs:t.n+4 * (100+chSz j)+chSz j+5000≤far) :
  ∃ t' ps',r=.val (.agg (chC (s.opt (j+1) d u))) t'∧Stir mb t t' (100+4 * (100+chSz j))∧t'.h.get mb=some (.map (mapE ps'))∧GoodM s ps'∧(t'.h.get mb=t.h.get mb∨t'.m≤mb):=by
 obtain ⟨n,rfl⟩:∃ n,N=n+3:=⟨N - 3,by omega⟩
 have hf:far=1000000000:=rfl
 have hpl:plain (.agg (chC (s.opt (j+1) d u)))=true:=by cases s.opt (j+1) d u<;>rfl
 obtain ⟨v,t',e,st,rfl,⟨ps',h2,h3⟩,h4⟩:=call_memo (n:=n+2) (args:=[.func 76 [] [.ptr pa 0,.ptr pm 0],.func 65 [] []]) (s:=t) (d:=mb) (k:=100+4 * (100+chSz j)) (Q:=fun v=>v=.agg (chC (s.opt (j+1) d u))) (R:=fun h=>∃ ps',h.get mb=some (.map (mapE ps'))∧GoodM s ps') Try.func63 ⟨ps,gM,gd⟩ (fun w wh wn wm=>by
  rw [← wh] at hS ga gm gM
  rw [← wn] at a2 a4 hs
  rw [enter63]
  obtain ⟨w1,hw1⟩:∃ y:St,y=w.new (.cells [.func 65 [] []] (tag 136)):=⟨_,rfl⟩
  obtain ⟨w2,hw2⟩:∃ y:St,y=w1.new (.cells [.int .i64 0,.int .i64 0,.bool false] (tag 106)):=⟨_,rfl⟩
  obtain ⟨w3,hw3⟩:∃ y:St,y=w2.new (.cells [.int .i64 0,.int .i64 0,.bool false] (tag 106)):=⟨_,rfl⟩
  obtain ⟨y,hy⟩:∃ y:St,y=(w3.new (.cells [.bool false] (tag 4))).put w3.n (.cells [.bool false] (tag 4)):=⟨_,rfl⟩
  have w1n:w1.n=w.n+1:=by rw [hw1];rfl
  have w2n:w2.n=w.n+2:=by rw [hw2];show w1.n+1=_;omega
  have w3n:w3.n=w.n+3:=by rw [hw3];show w2.n+1=_;omega
  have yn:y.n=w.n+4:=by rw [hy];show w3.n+1=_;omega
  have ym:y.m=min far (w.n+3):=by rw [hy];simp only [St.put,minN_eq,new_m];rw [hw3,hw2,hw1];simp only [new_m,new_n,wm]
  have g1:∀ c,c<w.n→w1.h.get c=w.h.get c:=fun c hc=>by rw [hw1,get_new_ne _ _ _ (by omega)]
  have g2:∀ c,c<w1.n→w2.h.get c=w1.h.get c:=fun c hc=>by rw [hw2,get_new_ne _ _ _ (by omega)]
  have g3:∀ c,c<w2.n→w3.h.get c=w2.h.get c:=fun c hc=>by rw [hw3,get_new_ne _ _ _ (by omega)]
  have g4:∀ c,c<w3.n→y.h.get c=w3.h.get c:=fun c hc=>by rw [hy,get_put_ne' _ _ _ _ (by omega),get_new_ne _ _ _ (by omega)]
  have yg:∀ c,c<w.n→y.h.get c=w.h.get c:=fun c hc=>(g4 c (by omega)).trans ((g3 c (by omega)).trans ((g2 c (by omega)).trans (g1 c hc)))
  have y0:y.h.get w.n=some (.cells [.func 65 [] []] (tag 136)):=(g4 _ (by omega)).trans ((g3 _ (by omega)).trans ((g2 _ (by omega)).trans (by rw [hw1];exact get_new_eq _ _ _ rfl (by omega))))
  have y1:y.h.get (w.n+1)=some (.cells (chC none) (tag 106)):=(g4 _ (by omega)).trans ((g3 _ (by omega)).trans (by rw [hw2];exact get_new_eq _ _ _ (by omega) (by omega)))
  have y2:y.h.get (w.n+2)=some (.cells (chC none) (tag 106)):=(g4 _ (by omega)).trans (by rw [hw3];exact get_new_eq _ _ _ (by omega) (by omega))
  have y3:y.h.get (w.n+3)=some (.cells [.bool false] (tag 4)):=by rw [← w3n,hy];exact get_put_eq _ _ _ _ rfl (by omega)
  have kf:∀ s,okA (.val (.func 76 [] [.ptr pa 0,.ptr pm 0]) s)=.val (.func 76 [] [.ptr pa 0,.ptr pm 0]) s:=fun _=>rfl
  have cob:cellsOf 1 (.bool false)=some [.bool false]:=rfl
  simp (disch:=first|omega|(with_unfolding_all exact rfl)|(simp only[new_n,put_n,new_m];omega)|(refine put_m_le ?_;simp only[new_m];omega)) only [K63,K63r0,K63r1,Abs.W,reduceIte,Nat.reduceEqDiff,Nat.reduceAdd,decide_true,decide_false,kLoop_def,Nat.reduceSub,List.cons_append,List.nil_append,List.append_nil,List.length_cons,List.length_nil,Env.find_set,boxA_func,kf,Nat.zero_add]
  rw [← hw1,← hw2,← hw3]
  simp (disch:=first|omega|(with_unfolding_all exact rfl)|(simp only[new_n,put_n,new_m];omega)|(refine put_m_le ?_;simp only[new_m];omega)) only [K63r2,Abs.W,reduceIte,Nat.reduceEqDiff,Nat.reduceAdd,decide_true,decide_false,kLoop_def,Nat.reduceSub,List.cons_append,List.nil_append,List.append_nil,List.length_cons,List.length_nil,Env.find_set,boxA_func,kf,cob,Nat.zero_add]
  rw [← hy,w1n,w2n,w3n]
  simp (disch:=first|omega|(with_unfolding_all exact rfl)|(simp only[new_n,put_n,new_m];omega)|(refine put_m_le ?_;simp only[new_m];omega)) only [K63r3,Abs.W,reduceIte,Nat.reduceEqDiff,Nat.reduceAdd,decide_true,decide_false,kLoop_def,Nat.reduceSub,List.cons_append,List.nil_append,List.append_nil,List.length_cons,List.length_nil,Env.find_set,boxA_func,kf,cob,Nat.zero_add]
  generalize hL:Env.cons 0 _ _=L0
  have f3:L0.find 3=.ptr w.n 0:=by rw [← hL];simp only [find_cons,Env.find_set,reduceIte,Nat.reduceEqDiff]
  have f4:L0.find 4=.ptr (w.n+1) 0:=by rw [← hL];simp only [find_cons,Env.find_set,reduceIte,Nat.reduceEqDiff]
  have f5:L0.find 5=.ptr (w.n+2) 0:=by rw [← hL];simp only [find_cons,Env.find_set,reduceIte,Nat.reduceEqDiff]
  have f6:L0.find 6=.ptr (w.n+3) 0:=by rw [← hL];simp only [find_cons,Env.find_set,reduceIte,Nat.reduceEqDiff]
  have f8:L0.find 8=.func 76 [] [.ptr pa 0,.ptr pm 0]:=by rw [← hL];simp only [find_cons,Env.find_set,reduceIte,Nat.reduceEqDiff]
  clear hL
  obtain ⟨S0,hS0⟩:∃ S0:St,S0=(y.new .dfr).new (.loop (bestO L0 y.n)):=⟨_,rfl⟩
  have s0n:S0.n=w.n+6:=by rw [hS0];show y.n+1+1=_;omega
  have s0m:S0.m=y.m:=by rw [hS0];rfl
  have s0g:∀ c,c<y.n→S0.h.get c=y.h.get c:=fun c hc=>by rw [hS0,get_new_ne _ _ _ (by rw [new_n];omega),get_new_ne _ _ _ (by omega)]
  have s0d:S0.h.get y.n=some .dfr:=by rw [hS0,get_new_ne _ _ _ (by rw [new_n];omega)];exact get_new_eq _ _ _ rfl (by omega)
  have s0l:S0.h.get (y.n+1)=some (.loop (bestO L0 y.n)):=by rw [hS0];exact get_new_eq _ _ _ rfl (by rw [new_n];omega)
  have s0u:∀ c,c<w.n→S0.h.get c=w.h.get c:=fun c hc=>(s0g c (by omega)).trans (yg c hc)
  have JT:Taker S0.h (y.n+1) w.n (w.n+2) (w.n+3) (bestO L0 y.n) none:=⟨s0l,(s0g _ (by omega)).trans y0,(s0g _ (by omega)).trans y2,(s0g _ (by omega)).trans y3⟩
  generalize hcc:call Try.prog X (n+2) (.fn 76) [.yield (y.n+1),.ptr pa 0,.ptr pm 0] S0=rc
  obtain ⟨s2,ps',rfl,J2,gM2,gd2,same2,n2,n2',m2,m2',q2⟩:=choices1_ex ok j ih n (by omega) hcc hd hu (hS.grow (fun c hc=>s0u c (by omega)) (Nat.le_refl _)) hnb ((s0u pa a2).trans ga) ((s0u pm a4).trans gm) a1 a2 a3 a4 (by omega) (by omega) (by omega) (by omega) f3 f5 f6 JT ((s0u mb (by omega)).trans gM) gd (by omega) (by omega) (by omega)
  have hcall:callV (call Try.prog X (n+2)) [.yield (y.n+1)] ((y.new .dfr).new (.loop ⟨.ready,none,63,L0,[9],(rangeAt Try.f63 0).1,(rangeAt Try.f63 0).2,y.n,Try.f63.ntmps,X 63⟩)) ((Arg.tmp 8).ev L0)=.val (.tup []) s2:=by
   rw [ev_tmp,f8,callV_func]
   rw [hS0] at hcc
   exact hcc
  have hrange:=range_to_end (ps:=[9]) (c:=⟨63,none,Try.f63.ntmps,X 63⟩) rfl hcall J2.loop rfl rfl
  rw [hrange]
  generalize hs3:St.put s2 _ _=s3
  have s3n:s3.n=s2.n:=by rw [← hs3];rfl
  have s3g:∀ x,x≠y.n+1→s3.h.get x=s2.h.get x:=fun x h3=>by rw [← hs3,get_put_ne' _ _ _ _ h3]
  have s3m:s3.m=min s2.m (y.n+1):=by rw [← hs3];simp only [St.put,minN_eq]
  have s3f:=(s3g (w.n+2) (by omega)).trans J2.found
  have s31:s3.h.get (w.n+1)=some (.cells (chC none) (tag 106)):=(s3g _ (by omega)).trans ((same2 _ (by omega) (by omega) (by omega) (by omega) (by omega)).trans ((s0g _ (by omega)).trans y1))
  have s3d:s3.h.get y.n=some .dfr:=(s3g _ (by omega)).trans ((same2 _ (by omega) (by omega) (by omega) (by omega) (by omega)).trans s0d)
  have s3M:s3.h.get mb=some (.map (mapE ps')):=(s3g _ (by omega)).trans gM2
  have fin:∀ o,s3.h.get (w.n+2)=some (.cells (chC o) (tag 106))→finA Try.prog Try.f63 (thenK (blkR 0 (.done .norm L0 [y.n] s3)) (kSeq (kRegion K63r4 []) kRet (call Try.prog X (n+2)) ⟨63,none,Try.f63.ntmps,X 63⟩))=.val (.agg (chC o)) ((s3.put (w.n+1) (.cells (chC o) (tag 106))).kill y.n):=by
   intro o ho
   cases o with
   | none =>
    unfold chC at ho s31 ⊢
    simp (disch:=first|omega|(with_unfolding_all exact rfl)|(simp only[new_n,put_n,new_m];omega)|(refine put_m_le ?_;simp only[new_m];omega)) only [K63r4,res63,Abs.W,reduceIte,Nat.reduceEqDiff,Nat.reduceAdd,decide_true,decide_false,kLoop_def,Nat.reduceSub,List.cons_append,List.nil_append,List.append_nil,List.length_cons,List.length_nil,Env.find_set,f4,f5,ho,s31,cob,Nat.zero_add]
    rw [leave_dfr _ _ _ _ _ (show (s3.put (w.n+1) _).h.get y.n=some .dfr by rw [get_put_ne' _ _ _ _ (by omega)];exact s3d)]
    exact leave_cell _ _ _ _ (sh:=some 3) (by kernel_rfl) (by
     have:((s3.put (w.n+1) (.cells [.int .i64 0,.int .i64 0,.bool false] (tag 106))).kill y.n).h.get (w.n+1)=some (.cells [.int .i64 0,.int .i64 0,.bool false] (tag 106)):=by rw [get_kill_ne _ _ _ (by omega)];exact get_put_eq _ _ _ _ rfl (by omega)
     simp (disch:=first|omega|(with_unfolding_all exact rfl)|(simp only[new_n,put_n,new_m];omega)|(refine put_m_le ?_;simp only[new_m];omega)) only [Abs.W,reduceIte,Nat.reduceEqDiff,Nat.reduceAdd,decide_true,decide_false,kLoop_def,Nat.reduceSub,List.cons_append,List.nil_append,List.append_nil,List.length_cons,List.length_nil,f4,this])
   | some c =>
    unfold chC at ho ⊢
    unfold chC at s31
    have cot:cellsOf 1 (.bool true)=some [.bool true]:=rfl
    simp (disch:=first|omega|(with_unfolding_all exact rfl)|(simp only[new_n,put_n,new_m];omega)|(refine put_m_le ?_;simp only[new_m];omega)) only [K63r4,res63,Abs.W,reduceIte,Nat.reduceEqDiff,Nat.reduceAdd,decide_true,decide_false,kLoop_def,Nat.reduceSub,List.cons_append,List.nil_append,List.append_nil,List.length_cons,List.length_nil,Env.find_set,f4,f5,ho,s31,cot,Nat.zero_add]
    rw [leave_dfr _ _ _ _ _ (show (s3.put (w.n+1) _).h.get y.n=some .dfr by rw [get_put_ne' _ _ _ _ (by omega)];exact s3d)]
    exact leave_cell _ _ _ _ (sh:=some 3) (by kernel_rfl) (by
     have:((s3.put (w.n+1) (.cells [.int .i64 c.1,.int .i64 c.2,.bool true] (tag 106))).kill y.n).h.get (w.n+1)=some (.cells [.int .i64 c.1,.int .i64 c.2,.bool true] (tag 106)):=by rw [get_kill_ne _ _ _ (by omega)];exact get_put_eq _ _ _ _ rfl (by omega)
     simp (disch:=first|omega|(with_unfolding_all exact rfl)|(simp only[new_n,put_n,new_m];omega)|(refine put_m_le ?_;simp only[new_m];omega)) only [Abs.W,reduceIte,Nat.reduceEqDiff,Nat.reduceAdd,decide_true,decide_false,kLoop_def,Nat.reduceSub,List.cons_append,List.nil_append,List.append_nil,List.length_cons,List.length_nil,f4,this])
  rw [fin _ s3f]
  obtain ⟨z,hz⟩:∃ z:St,z=(s3.put (w.n+1) (.cells (chC (s.opt (j+1) d u)) (tag 106))).kill y.n:=⟨_,rfl⟩
  rw [← hz]
  have zn:z.n=s3.n:=by rw [hz];rfl
  have zg:∀ c,c≠w.n+1→c≠y.n→z.h.get c=s3.h.get c:=fun c h1 h2=>by rw [hz,get_kill_ne _ _ _ h2,get_put_ne' _ _ _ _ h1]
  have zm:z.m=min (min s3.m (w.n+1)) y.n:=by rw [hz];simp only [St.kill,St.put,minN_eq]
  refine ⟨_,z,rfl,⟨fun c hc hne=>?_,by omega,by omega,fun _=>by omega,by omega⟩,hpl,rfl,⟨ps',(zg mb (by omega) (by omega)).trans s3M,gd2⟩,?_⟩
  ·rw [zg c (by omega) (by omega),s3g c (by omega),same2 c (by omega) hne (by omega) (by omega) (by omega)]
   exact s0u c hc
  ·rcases q2 with h | h
   ·left;rw [zg mb (by omega) (by omega),s3g mb (by omega),h];exact s0u mb (by omega)
   ·right;omega) (by omega)
 exact ⟨t',ps',hr.symm.trans e,st,h2,h3,h4⟩
end Go.Proofs.Ytoolodjbfphkjaa.walk
