/- Lists that grow; parts of lists; picks. -/
import Derived.Test.YtofkfgfbibolcaaM1
import Derived.Test.YtofkfgfbibolcaaCodes
import Derived.Test.YtofkfgfbibolcaaWalkAll
set_option linter.unusedSimpArgs false
set_option maxHeartbeats 16000000
set_option linter.unusedVariables false
set_option maxRecDepth 10000
namespace Go.Abs
structure IsAt (h:Heap) (n b w tg:Nat) (rows:List (List AV)) (v:AV):Prop where
 wide:∀ r ∈ rows,r.length=w
 is:(rows=[]∧v=.nilslice)∨(rows≠[]∧b<n∧v=.slice b 0 rows.length rows.length true∧h.get b=some (.cells rows.flatten (w+tg)))
theorem IsAt.nil (h:Heap) (n b w tg:Nat):IsAt h n b w tg [] .nilslice:=⟨fun _ hr=>(by cases hr),.inl ⟨rfl,rfl⟩⟩
theorem IsAt.mono {h h':Heap} {n n' b w tg:Nat} {rows:List (List AV)} {v:AV} (r:IsAt h n b w tg rows v) (hh:b<n→h'.get b=h.get b) (hn:n≤n'):IsAt h' n' b w tg rows v :=
 ⟨r.wide,r.is.imp id fun ⟨h1,h2,h3,h4⟩=>⟨h1,by omega,h3,by rw [hh h2];exact h4⟩⟩
theorem IsAt.rows {h:Heap} {n b w tg:Nat} {rows:List (List AV)} {v:AV} (r:IsAt h n b w tg rows v):Rows h 0 n w tg rows v :=
 ⟨r.wide,r.is.imp id fun ⟨_,h2,h3,h4⟩=>⟨b,Nat.zero_le _,h2,h3,h4⟩⟩
theorem IsAt.okA {h:Heap} {n b w tg:Nat} {rows:List (List AV)} {v:AV} (r:IsAt h n b w tg rows v) (t:St):Abs.okA (.val v t)=.val v t:=okA_ne r.rows.at_.ne
theorem IsAt.scal {h:Heap} {n b w tg:Nat} {rows:List (List AV)} {v:AV} (r:IsAt h n b w tg rows v):scalars [v]=true∧cellsOf 1 v=some [v]:=by
 rcases r.is with ⟨_,h2⟩ | ⟨_,_,h3,_⟩
 ·subst h2;exact ⟨rfl,rfl⟩
 ·subst h3;exact ⟨rfl,rfl⟩
theorem append_at {s:St} {b w bytes tg:Nat} {rows:List (List AV)} {v:AV} (r:IsAt s.h s.n b w tg rows v) {p sz:Nat} {row:List AV} (hp:s.h.get p=some (.cells row sz)) (hw:row.length=w) (hsc:scalars row=true)
  (hb:(rows.length+1) * bytes≤1000000) (htg:szOf (w+tg)=w) (hs:s.n<549755813888) :
  ∃ s',appendA false w bytes tg s v (.slice p 0 1 1 false)=.val (.slice s.n 0 (rows.length+1) (rows.length+1) true) s'∧IsAt s'.h s'.n s.n w tg (rows++[row]) (.slice s.n 0 (rows.length+1) (rows.length+1) true)∧s'.n=s.n+1∧(∀ c,c<s.n→c≠b→s'.h.get c=s.h.get c)∧(∀ k,k≤b→k≤s.n→k≤s.m→k≤s'.m)∧s'.m≤s.m:=by
 rcases r.is with ⟨h1,h2⟩ | ⟨h1,h2,h3,h4⟩
 ·obtain ⟨v',s',e1,e2,e3,e4,e5,e6,e7,e8⟩:=append_row (lo:=s.n) (bytes:=bytes) (⟨r.wide,.inl ⟨h1,h2⟩⟩:Rows s.h s.n s.n w tg rows v) hp hw hsc hb htg hs (Nat.le_refl _)
  subst e8
  refine ⟨s',e1,⟨e2.wide,.inr ⟨by simp,by omega,by simp,?_⟩⟩,e3,fun c hc _=>e4 c hc,fun k _ hk hm=>e6 k hk hm,e7⟩
  rcases e2.is with ⟨z,_⟩ | ⟨b',_,_,z2,z3⟩
  ·simp at z
  ·injection z2 with z2
   rw [z2];exact z3
 ·obtain ⟨v',s',e1,e2,e3,e4,e5,e6,e7,e8⟩:=append_row (lo:=b) (bytes:=bytes) (⟨r.wide,.inr ⟨b,Nat.le_refl _,h2,h3,h4⟩⟩:Rows s.h b s.n w tg rows v) hp hw hsc hb htg hs (by omega)
  subst e8
  refine ⟨s',e1,⟨e2.wide,.inr ⟨by simp,by omega,by simp,?_⟩⟩,e3,fun c hc hcb=>e5 c hc (by rw [h3];intro z;injection z with z;exact hcb z.symm),fun k hk _ hm=>e6 k hk hm,e7⟩
  rcases e2.is with ⟨z,_⟩ | ⟨b',_,_,z2,z3⟩
  ·simp at z
  ·injection z2 with z2
   rw [z2];exact z3
theorem kSlice_def (f:Option AV→Option AV→St→AV→ARes) (x:Arg) (lo hi:Option Arg) (L:Env) (s:St):kSlice f x lo hi L s=f (optEv lo L) (optEv hi L) s (x.ev L):=rfl
theorem optEv_some (a:Arg) (L:Env):optEv (some a) L=some (a.ev L):=rfl
theorem optEv_none (L:Env):optEv none L=none:=rfl
theorem boundA_nat (y i:Nat) (k:IntKind) (h:i≤y):boundA y (.int k (i:Int))=some i:=by
 show (match Nat.ble i y with | true=>some i | false=>none)=_
 rw [Nat.ble_eq_true_of_le h]
theorem slice_to (w:Nat) (s:St) (b o n c i:Nat) (e:Bool) (h:n≤c) (hi:i≤c) (hc:0<c):sliceVal w none (some (.int .i64 (i:Int))) s (.slice b o n c e)=.val (.slice b o i c e) s:=by
 have e1:boundsA n c none (some (.int .i64 (i:Int)))=some (0,i):=by
  unfold boundsA hiA loA
  simp only [boundA_nat _ _ _ hi]
 have e2:Nat.beq c 0=false:=nbeq_f (by omega)
 unfold sliceVal
 simp only [Nat.ble_eq_true_of_le h,e1,e2,Nat.zero_mul,Nat.add_zero,Nat.sub_zero]
theorem scal_ln {s:St} {v w:AV} (h:lenSlA s v=.val w s):v.scalar=true:=by cases v<;>first | rfl | cases h
theorem loop_start {b:K} {n:Nat} {cl:CallF} {cx:Ctx} {L:Env} {d:List Nat} {s:St} {r:R} (h:loopN b n cl cx L d s=r):∃ w L0,w=s∧L0=L∧loopN b n cl cx L0 d w=r:=⟨s,L,rfl,rfl,h⟩
end Go.Abs
namespace Go.Proofs.Ytofkfgfbibolcaa.walk
open Go.Abs
def intRows (l:List Int):List (List AV):=l.map fun x=>[.int .i64 x]
theorem intRows_len (l:List Int):(intRows l).length=l.length:=List.length_map ..
theorem intRows_snoc (l:List Int) (x:Int):intRows (l++[x])=intRows l++[[.int .i64 x]]:=by unfold intRows;rw [List.map_append];rfl
theorem intRow_at {h:Heap} {n:Nat} {l:List Int} {v:AV} (r:RowsAt h n 1 (intRows l) v) {i:Nat} (hi:i<l.length):∃ b p c sz,b<n∧(∀ s,ixsA 1 s v (.int .i64 i)=.val (.ptr b p) s)∧h.get b=some (.cells c sz)∧nth c p=.int .i64 (l.getD i 0):=by
 obtain ⟨b,p,c,sz,h1,h2,h3,h4⟩:=r.at_ i (by rw [intRows_len];exact hi)
 have e:(intRows l)[i]'(by rw [intRows_len];exact hi)=[.int .i64 (l.getD i 0)]:=by simp [intRows,List.getD,hi]
 rw [e] at h4
 exact ⟨b,p,c,sz,h1,h2,h3,cut1_nth h4⟩
def LAt (h:Heap) (n bl:Nat) (l:List Int) (v:AV):Prop:=∃ x,x≠bl∧IsAt h n x 1 (tag 3) (intRows l) v
theorem LAt.nil (h:Heap) (n bl:Nat):LAt h n bl [] .nilslice:=⟨bl+1,by omega,IsAt.nil _ _ _ _ _⟩
theorem LAt.move {h h':Heap} {n n' bl bl':Nat} {l:List Int} {v:AV} (a:LAt h n bl l v) (hh:∀ c,c<n→c≠bl→h'.get c=h.get c) (hn:n≤n') (hb:bl'=bl∨n≤bl'):LAt h' n' bl' l v:=by
 obtain ⟨x,h1,h2⟩:=a
 rcases h2.is with ⟨h3,h4⟩ | ⟨_,h3,_⟩
 ·exact ⟨bl'+1,by omega,h2.wide,.inl ⟨h3,h4⟩⟩
 ·exact ⟨x,by omega,h2.mono (fun _=>hh x h3 h1) hn⟩
theorem LAt.rows {h:Heap} {n bl:Nat} {l:List Int} {v:AV} (a:LAt h n bl l v):RowsAt h n 1 (intRows l) v:=by obtain ⟨x,_,h⟩:=a;exact h.rows.at_
def pickL:Nat→Nat→List Nat→List Nat
 | 0,_,_=>[]
 | m+1,T,l=>l.getD (T % l.length) 0::pickL m (T / l.length) (l.eraseIdx (T % l.length))
def ways:Nat→Nat→Nat
 | 0,_=>1
 | m+1,n=>n * ways m (n - 1)
theorem pickL_len:∀ (m T:Nat) (l:List Nat),(pickL m T l).length=m
 | 0,_,_=>rfl
 | m+1,T,l=>by unfold pickL;rw [List.length_cons,pickL_len m]
theorem pickL_mem:∀ (m T:Nat) (l:List Nat),m≤l.length→∀ x ∈ pickL m T l,x ∈ l
 | 0,_,_,_,x,hx=>by cases hx
 | m+1,T,l,h,x,hx=>by
  have hlt:T % l.length<l.length:=Nat.mod_lt _ (by omega)
  unfold pickL at hx
  rcases List.mem_cons.mp hx with rfl | hx
  ·simp [List.getD,hlt]
  ·exact List.mem_of_mem_eraseIdx (pickL_mem m _ _ (by rw [List.length_eraseIdx_of_lt hlt];omega) x hx)
theorem getElem_inj {l:List Nat} (hd:l.Nodup):∀ {i j:Nat} (hi:i<l.length) (hj:j<l.length),l[i]=l[j]→i=j:=by
 intro i j hi hj h
 have key:=List.pairwise_iff_getElem.mp hd
 rcases Nat.lt_trichotomy i j with c | c | c
 ·exact absurd h (key i j hi hj c)
 ·exact c
 ·exact absurd h.symm (key j i hj hi c)
theorem not_mem_eraseIdx {l:List Nat} (hd:l.Nodup) {i:Nat} (hi:i<l.length):l[i] ∉ l.eraseIdx i:=by
 intro h
 obtain ⟨j,hj,e⟩:=List.getElem_of_mem h
 rw [List.getElem_eraseIdx] at e
 have hl:=List.length_eraseIdx_of_lt hi
 split at e
 ·rename_i c
  have:=getElem_inj hd (by omega) hi e
  omega
 ·rename_i c
  have:=getElem_inj hd (by omega) hi e
  omega
theorem nodup_eraseIdx {l:List Nat} (hd:l.Nodup) (i:Nat):(l.eraseIdx i).Nodup:=List.Pairwise.sublist (List.eraseIdx_sublist l i) hd
theorem pickL_nodup:∀ (m T:Nat) (l:List Nat),m≤l.length→l.Nodup→(pickL m T l).Nodup
 | 0,_,_,_,_=>List.Pairwise.nil
 | m+1,T,l,h,hd=>by
  have hlt:T % l.length<l.length:=Nat.mod_lt _ (by omega)
  have hl:=List.length_eraseIdx_of_lt hlt
  unfold pickL
  refine List.Pairwise.cons (fun x hx e=>?_) (pickL_nodup m _ _ (by omega) (nodup_eraseIdx hd _))
  have hm:=pickL_mem m _ _ (by omega) x hx
  subst e
  have:l.getD (T % l.length) 0=l[T % l.length]:=by simp [List.getD,hlt]
  rw [this] at hm
  exact not_mem_eraseIdx hd hlt hm
theorem ways_pos:∀ (m n:Nat),m≤n→0<ways m n
 | 0,_,_=>Nat.one_pos
 | m+1,n,h=>by
  unfold ways
  exact Nat.mul_pos (by omega) (ways_pos m (n - 1) (by omega))
theorem mod_of_parts {a b k w:Nat} (h1:a % k=b % k) (h2:a / k % w=b / k % w):a % (k * w)=b % (k * w):=by
 rw [Nat.mod_mul,Nat.mod_mul,h1,h2]
theorem pickL_inj:∀ (m T U:Nat) (l:List Nat),m≤l.length→l.Nodup→pickL m T l=pickL m U l→T % ways m l.length=U % ways m l.length
 | 0,T,U,_,_,_,_=>by show T % 1=U % 1;omega
 | m+1,T,U,l,h,hd,e=>by
  have hT:T % l.length<l.length:=Nat.mod_lt _ (by omega)
  have hU:U % l.length<l.length:=Nat.mod_lt _ (by omega)
  unfold pickL at e
  injection e with e1 e2
  have eq:T % l.length=U % l.length:=getElem_inj hd hT hU (by simpa [List.getD,hT,hU] using e1)
  rw [eq] at e2
  have hl:=List.length_eraseIdx_of_lt hU
  have:=pickL_inj m _ _ _ (by omega) (nodup_eraseIdx hd _) e2
  rw [hl] at this
  show T % (l.length * ways m (l.length - 1))=U % (l.length * ways m (l.length - 1))
  exact mod_of_parts eq this
def waysUp:Nat→Nat→Nat
 | 0,_=>1
 | m+1,n=>waysUp m n * (n - m)
theorem waysUp_succ:∀ (m n:Nat),waysUp (m+1) n=n * waysUp m (n - 1)
 | 0,n=>by simp [waysUp]
 | m+1,n=>by
  show waysUp (m+1) n * (n - (m+1))=n * (waysUp m (n - 1) * (n - 1 - m))
  rw [waysUp_succ m n,Nat.mul_assoc,show n - (m+1)=n - 1 - m by omega]
theorem ways_up:∀ (m n:Nat),waysUp m n=ways m n
 | 0,_=>rfl
 | m+1,n=>by rw [waysUp_succ,ways_up m (n - 1)];rfl
theorem range_nodup (n:Nat):(List.range n).Nodup:=List.nodup_range
theorem pick_other {m n from_ i j:Nat} (hm:m≤n) (hi:i<ways m n) (hj:j<ways m n) (h:pickL m (from_+i) (List.range n)=pickL m (from_+j) (List.range n)):i=j:=by
 have e:=pickL_inj m _ _ _ (by rw [List.length_range];exact hm) (range_nodup n) h
 rw [List.length_range] at e
 have h1:=Nat.div_add_mod (from_+i) (ways m n)
 have h2:=Nat.div_add_mod (from_+j) (ways m n)
 rw [e] at h1
 rcases Nat.lt_trichotomy i j with c | c | c
 ·exfalso
  have:ways m n * ((from_+i) / ways m n)<ways m n * ((from_+j) / ways m n):=by omega
  have:=Nat.lt_of_mul_lt_mul_left this
  have h3:ways m n * ((from_+i) / ways m n+1)≤ways m n * ((from_+j) / ways m n):=Nat.mul_le_mul_left _ this
  rw [Nat.mul_succ] at h3
  omega
 ·exact c
 ·exfalso
  have:ways m n * ((from_+j) / ways m n)<ways m n * ((from_+i) / ways m n):=by omega
  have:=Nat.lt_of_mul_lt_mul_left this
  have h3:ways m n * ((from_+j) / ways m n+1)≤ways m n * ((from_+i) / ways m n):=Nat.mul_le_mul_left _ this
  rw [Nat.mul_succ] at h3
  omega
end Go.Proofs.Ytofkfgfbibolcaa.walk
set_option maxRecDepth 10000
namespace Go.Proofs.Ytofkfgfbibolcaa.walk
open Go.Abs Go.Proofs.Ytofkfgfbibolcaa.code
def Die (d:Nat) (h:Heap):Prop:=∃ f,h.get d=some (.cells [.int .u64 f] (tag 40))
theorem roll_ex {N d:Nat} {s:St} {r:ARes} (hr:call Try.prog X N (.fn 11) [.ptr d 0] s=r) (hN:1≤N) (hd:Die d s.h) (hlt:d<s.n) (hs:s.n+10≤far) :
  ∃ x t,r=.val (.int .u64 x) t∧Stir d s t 0∧Die d t.h∧0≤x∧x≤18446744073709551615:=by
 obtain ⟨n,rfl⟩:∃ n,N=n+1:=⟨N - 1,by omega⟩
 have hf:far=1000000000:=rfl
 obtain ⟨f,hg⟩:=hd
 obtain ⟨v,t,e,st,⟨x,rfl,x0,x1⟩,hd'⟩:=call_stir_plain (n:=n) (args:=[.ptr d 0]) (d:=d) (k:=0) (Q:=fun v=>∃ x,v=.int .u64 x∧0≤x∧x≤18446744073709551615) (R:=Die d) Try.func11 ⟨f,hg⟩ (fun u uh un um=>by
  rw [← uh] at hg
  rw [enter11]
  simp (disch:=first|omega|(with_unfolding_all exact rfl)|(simp only[new_n,put_n,new_m];omega)|(refine put_m_le ?_;simp only[new_m];omega)) only [res11,K11r0,K11r1,K11r2,K11r3,K11r4,K11r5,K11,Abs.W,reduceIte,Nat.reduceEqDiff,Nat.reduceAdd,decide_true,decide_false,kLoop_def,Nat.reduceSub,List.cons_append,List.nil_append,List.append_nil,List.length_cons,List.length_nil,hg,Nat.zero_add,ints_u64,kShr_def,shrA_u64,aAdd_def,aMul_def,aXor_def]
  refine ⟨_,_,rfl,(Stir.refl d u).put (by omega) _ (.inl rfl),rfl,⟨_,rfl,?_⟩,⟨_,get_put_eq _ _ _ _ rfl (by omega)⟩⟩
  exact xorI_range _ _) (by omega)
 exact ⟨x,t,hr.symm.trans e,st,hd',x0,x1⟩
theorem cast_ex {N d:Nat} {n:Int} {s:St} {r:ARes} (hr:call Try.prog X N (.fn 6) [.ptr d 0,.int .i64 n] s=r) (hN:2≤N) (hd:Die d s.h) (hlt:d<s.n) (hs:s.n+100≤far) (hn:n≤1000000000) :
  ∃ x t,r=.val (.int .i64 x) t∧Stir d s t 0∧Die d t.h∧0≤x∧(x<n∨x=0):=by
 obtain ⟨m,rfl⟩:∃ m,N=m+1:=⟨N - 1,by omega⟩
 have hf:far=1000000000:=rfl
 obtain ⟨v,t,e,st,⟨x,rfl,x0,x1⟩,hd'⟩:=call_stir_plain (n:=m) (args:=[.ptr d 0,.int .i64 n]) (d:=d) (k:=0) (Q:=fun v=>∃ x,v=.int .i64 x∧0≤x∧(x<n∨x=0)) (R:=Die d) Try.func6 hd (fun u uh un um=>by
  rw [← uh] at hd
  rw [enter6]
  by_cases hlow:n<2
  ·have e0:decide (n<2)=true:=by simpa using hlow
   simp (disch:=first|omega|(with_unfolding_all exact rfl)|(simp only[new_n,put_n,new_m];omega)|(refine put_m_le ?_;simp only[new_m];omega)) only [res6,K6r0,K6r1,K6r2,K6r3,K6,Abs.W,reduceIte,Nat.reduceEqDiff,Nat.reduceAdd,decide_true,decide_false,kLoop_def,Nat.reduceSub,List.cons_append,List.nil_append,List.append_nil,List.length_cons,List.length_nil,e0]
   exact ⟨_,_,rfl,Stir.refl d u,rfl,⟨0,rfl,by omega,.inr rfl⟩,hd⟩
  ·have e0:decide (n<2)=false:=by simpa using hlow
   simp (disch:=first|omega|(with_unfolding_all exact rfl)|(simp only[new_n,put_n,new_m];omega)|(refine put_m_le ?_;simp only[new_m];omega)) only [res6,K6r0,K6r1,K6r2,K6r3,K6,Abs.W,reduceIte,Nat.reduceEqDiff,Nat.reduceAdd,decide_true,decide_false,kLoop_def,Nat.reduceSub,List.cons_append,List.nil_append,List.append_nil,List.length_cons,List.length_nil,e0]
   generalize hc:call _ _ _ (.fn 11) _ _=r1
   obtain ⟨y,w,rfl,sw,dw,y0,y1⟩:=roll_ex hc (by omega) hd (by omega) (by omega)
   have q0:0≤shrI y 2:=shrI_nonneg _ _ y0
   have q2:0≤(shrI y 2).tmod n:=Int.tmod_nonneg _ q0
   have q3:(shrI y 2).tmod n<n:=Int.tmod_lt_of_pos _ (by omega)
   have w1:wrapA .u64 n=n:=wrap_u64 n (by omega)
   have w2:wrapA .i64 ((shrI y 2).tmod n)=(shrI y 2).tmod n:=wrap_in _ (by omega)
   have w3:∀ s,aRem s .u64 (shrI y 2) n=.val (.int .u64 ((shrI y 2).tmod n)) s:=fun s=>aRem_ne s _ _ _ (by omega)
   simp (disch:=first|omega|(with_unfolding_all exact rfl)|(simp only[new_n,put_n,new_m];omega)|(refine put_m_le ?_;simp only[new_m];omega)) only [res6,K6r0,K6r1,K6r2,K6r3,K6,Abs.W,reduceIte,Nat.reduceEqDiff,Nat.reduceAdd,decide_true,decide_false,kLoop_def,Nat.reduceSub,List.cons_append,List.nil_append,List.append_nil,List.length_cons,List.length_nil,ints_u64,kShr_def,shrA_u64,cviA_int,w1,w2,w3]
   exact ⟨_,_,rfl,sw,rfl,⟨_,rfl,q2,.inl q3⟩,dw⟩) (by omega)
 exact ⟨x,t,hr.symm.trans e,st,hd',x0,x1⟩
theorem from_ex {N d:Nat} {lo hi:Int} {s:St} {r:ARes} (hr:call Try.prog X N (.fn 12) [.ptr d 0,.int .i64 lo,.int .i64 hi] s=r) (hN:3≤N) (hd:Die d s.h) (hlt:d<s.n) (hs:s.n+200≤far)
  (h0 : -100000000≤lo) (h1:lo≤100000000) (h2 : -100000000≤hi) (h3:hi≤100000000) :
  ∃ x t,r=.val (.int .i64 x) t∧Stir d s t 0∧Die d t.h∧lo≤x∧(x≤hi∨x=lo):=by
 obtain ⟨m,rfl⟩:∃ m,N=m+1:=⟨N - 1,by omega⟩
 have hf:far=1000000000:=rfl
 obtain ⟨v,t,e,st,⟨x,rfl,x0,x1⟩,hd'⟩:=call_stir_plain (n:=m) (args:=[.ptr d 0,.int .i64 lo,.int .i64 hi]) (d:=d) (k:=0) (Q:=fun v=>∃ x,v=.int .i64 x∧lo≤x∧(x≤hi∨x=lo)) (R:=Die d) Try.func12 hd (fun u uh un um=>by
  rw [← uh] at hd
  have a1:∀ s,aSub s .i64 hi lo=.val (.int .i64 (hi - lo)) s:=fun s=>aSub_i64 s _ _ (by omega)
  have a2:∀ s,aAdd s .i64 (hi - lo) 1=.val (.int .i64 (hi - lo+1)) s:=fun s=>aAdd_i64 s _ _ (by omega)
  rw [enter12]
  simp (disch:=first|omega|(with_unfolding_all exact rfl)|(simp only[new_n,put_n,new_m];omega)|(refine put_m_le ?_;simp only[new_m];omega)) only [res12,K12r0,K12r1,K12,Abs.W,reduceIte,Nat.reduceEqDiff,Nat.reduceAdd,decide_true,decide_false,kLoop_def,Nat.reduceSub,List.cons_append,List.nil_append,List.append_nil,List.length_cons,List.length_nil,a1,a2]
  generalize hc:call _ _ _ (.fn 6) _ _=r1
  obtain ⟨y,w,rfl,sw,dw,y0,y1⟩:=cast_ex hc (by omega) hd (by omega) (by omega) (by omega)
  have a3:∀ s,aAdd s .i64 lo y=.val (.int .i64 (lo+y)) s:=fun s=>aAdd_i64 s _ _ (by omega)
  simp (disch:=first|omega|(with_unfolding_all exact rfl)|(simp only[new_n,put_n,new_m];omega)|(refine put_m_le ?_;simp only[new_m];omega)) only [res12,K12r0,K12r1,K12,Abs.W,reduceIte,Nat.reduceEqDiff,Nat.reduceAdd,decide_true,decide_false,kLoop_def,Nat.reduceSub,List.cons_append,List.nil_append,List.append_nil,List.length_cons,List.length_nil,a3]
  exact ⟨_,_,rfl,sw,rfl,⟨_,rfl,by omega,by omega⟩,dw⟩) (by omega)
 exact ⟨x,t,hr.symm.trans e,st,hd',x0,x1⟩
theorem nth_ints:∀ {l:List Int} {i:Nat},i<l.length→∃ x ∈ l,nth (l.map fun x=>AV.int .i64 x) i=.int .i64 x
 | [],i,h=>by simp at h
 | a::l,0,_=>⟨a,List.mem_cons_self ..,rfl⟩
 | a::l,i+1,h=>by
  obtain ⟨x,hx,e⟩:=nth_ints (l:=l) (i:=i) (by simpa using h)
  exact ⟨x,List.mem_cons_of_mem _ hx,e⟩
theorem one_ex {N d b:Nat} {k sz:Nat} (l:List Int) {s:St} {r:ARes} (hr:call Try.prog X N (.fn 13) [.ptr d 0,.slice b 0 k k false] s=r) (hN:3≤N) (hd:Die d s.h) (hlt:d<s.n) (hs:s.n+200≤far)
  (hb:s.h.get b=some (.cells (l.map fun x=>AV.int .i64 x) sz)) (hbn:b<s.n) (hbd:b≠d) (hl:l.length=k) (h0:0<k) (hk:k≤1000) :
  ∃ x t,r=.val (.int .i64 x) t∧Stir d s t 0∧Die d t.h∧x ∈ l:=by
 obtain ⟨m,rfl⟩:∃ m,N=m+1:=⟨N - 1,by omega⟩
 have hf:far=1000000000:=rfl
 obtain ⟨v,t,e,st,⟨x,rfl,hx⟩,hd'⟩:=call_stir_plain (n:=m) (args:=[.ptr d 0,.slice b 0 k k false]) (d:=d) (k:=0) (Q:=fun v=>∃ x,v=.int .i64 x∧x ∈ l) (R:=Die d) Try.func13 hd (fun u uh un um=>by
  rw [← uh] at hd hb
  have e0:decide ((k:Int)=0)=false:=by simp;omega
  rw [enter13]
  simp (disch:=first|omega|(with_unfolding_all exact rfl)|(simp only[new_n,put_n,new_m];omega)|(refine put_m_le ?_;simp only[new_m];omega)) only [res13,K13r0,K13r1,K13r2,K13r3,K13,Abs.W,reduceIte,Nat.reduceEqDiff,Nat.reduceAdd,decide_true,decide_false,kLoop_def,Nat.reduceSub,List.cons_append,List.nil_append,List.append_nil,List.length_cons,List.length_nil,e0]
  generalize hc:call _ _ _ (.fn 6) _ _=r1
  obtain ⟨y,w,rfl,sw,dw,y0,y1⟩:=cast_ex hc (by omega) hd (by omega) (by omega) (by omega)
  obtain ⟨i,rfl⟩:∃ i:Nat,y=i:=⟨y.toNat,by omega⟩
  have hi:i<k:=by omega
  obtain ⟨x,hx,hn⟩:=nth_ints (l:=l) (i:=i) (by omega)
  have hg:w.h.get b=some (.cells (l.map fun x=>AV.int .i64 x) sz):=by rw [sw.same b (by omega) hbd];exact hb
  simp (disch:=first|omega|(with_unfolding_all exact rfl)|(simp only[new_n,put_n,new_m];omega)|(refine put_m_le ?_;simp only[new_m];omega)) only [res13,K13r0,K13r1,K13r2,K13r3,K13,Abs.W,reduceIte,Nat.reduceEqDiff,Nat.reduceAdd,decide_true,decide_false,kLoop_def,Nat.reduceSub,List.cons_append,List.nil_append,List.append_nil,List.length_cons,List.length_nil,ixs_slice _ _ _ _ _ _ _ _ hi,Nat.mul_one,Nat.zero_add,hg,hn]
  exact ⟨_,_,rfl,sw,rfl,⟨x,rfl,hx⟩,dw⟩) (by omega)
 exact ⟨x,t,hr.symm.trans e,st,hd',hx⟩
theorem span_ex {N d:Nat} {lo hi:Int} {s:St} {r:ARes} (hr:call Try.prog X N (.fn 14) [.ptr d 0,.int .i64 lo,.int .i64 hi] s=r) (hN:4≤N) (hd:Die d s.h) (hlt:d<s.n) (hs:s.n+300≤far)
  (h0 : -1000000≤lo) (h1:lo≤hi) (h2:hi≤1000000) :
  ∃ a b t,r=.val (.agg [.int .i64 a,.int .i64 b]) t∧Stir d s t 2∧Die d t.h∧lo≤a∧a≤b∧b≤hi:=by
 obtain ⟨m,rfl⟩:∃ m,N=m+1:=⟨N - 1,by omega⟩
 have hf:far=1000000000:=rfl
 obtain ⟨v,t,e,st,⟨a,b,rfl,x0,x1,x2⟩,hd'⟩:=call_stir_plain (n:=m) (args:=[.ptr d 0,.int .i64 lo,.int .i64 hi]) (d:=d) (k:=2) (Q:=fun v=>∃ a b,v=.agg [.int .i64 a,.int .i64 b]∧lo≤a∧a≤b∧b≤hi) (R:=Die d) Try.func14 hd (fun u uh un um=>by
  rw [← uh] at hd
  have sh:shapeT Try.prog 45=some (some 2):=by kernel_rfl
  rw [enter14]
  simp (disch:=first|omega|(with_unfolding_all exact rfl)|(simp only[new_n,put_n,new_m];omega)|(refine put_m_le ?_;simp only[new_m];omega)) only [res14,K14r0,K14r1,K14r2,K14r3,K14,Abs.W,reduceIte,Nat.reduceEqDiff,Nat.reduceAdd,decide_true,decide_false,kLoop_def,Nat.reduceSub,List.cons_append,List.nil_append,List.append_nil,List.length_cons,List.length_nil]
  generalize hc:call _ _ _ (.fn 12) _ _=r1
  obtain ⟨x,w,rfl,sw,dw,y0,y1⟩:=from_ex hc (by omega) (by obtain ⟨f,hg⟩:=hd;exact ⟨f,by rw [get_new_ne _ _ _ (by omega)];exact hg⟩) (by simp only [new_n];omega) (by simp only [new_n];omega) (by omega) (by omega) (by omega) (by omega)
  have wn:=sw.n
  have wl:=sw.le
  simp only [new_n] at wn wl
  have a1:∀ s,aAdd s .i64 x 4=.val (.int .i64 (x+4)) s:=fun s=>aAdd_i64 s _ _ (by omega)
  simp (disch:=first|omega|(with_unfolding_all exact rfl)|(simp only[new_n,put_n,new_m];omega)|(refine put_m_le ?_;simp only[new_m];omega)) only [res14,K14r0,K14r1,K14r2,K14r3,K14,Abs.W,reduceIte,Nat.reduceEqDiff,Nat.reduceAdd,decide_true,decide_false,kLoop_def,Nat.reduceSub,List.cons_append,List.nil_append,List.append_nil,List.length_cons,List.length_nil,a1,kFold_def,foldA_nil,foldA_cons,minA_i64]
  generalize hc2:call _ _ _ (.fn 13) _ _=r2
  obtain ⟨y,w2,rfl,sw2,dw2,ym⟩:=one_ex [x,min hi (x+4),hi] hc2 (by omega) (by obtain ⟨f,hg⟩:=dw;exact ⟨f,by rw [get_new_ne _ _ _ (by omega)];exact hg⟩) (by simp only [new_n];omega) (by simp only [new_n];omega) (get_new_eq _ _ _ rfl (by omega)) (by simp only [new_n];omega) (by omega) rfl (by omega) (by omega)
  have wn2:=sw2.n
  have wl2:=sw2.le
  simp only [new_n] at wn2 wl2
  have ym':x≤y∧y≤hi:=by
   simp only [List.mem_cons,List.not_mem_nil,or_false] at ym
   omega
  simp (disch:=first|omega|(with_unfolding_all exact rfl)|(simp only[new_n,put_n,new_m];omega)|(refine put_m_le ?_;simp only[new_m];omega)) only [res14,K14r0,K14r1,K14r2,K14r3,K14,Abs.W,reduceIte,Nat.reduceEqDiff,Nat.reduceAdd,decide_true,decide_false,kLoop_def,Nat.reduceSub,List.cons_append,List.nil_append,List.append_nil,List.length_cons,List.length_nil]
  generalize hc3:call _ _ _ (.fn 12) _ _=r3
  obtain ⟨z,w3,rfl,sw3,dw3,z0,z1⟩:=from_ex hc3 (by omega) dw2 (by omega) (by omega) (by omega) (by omega) (by omega) (by omega)
  have wn3:=sw3.n
  have wl3:=sw3.le
  have g:w3.h.get u.n=some (.cells [.int .i64 0,.int .i64 0] (tag 45)):=by
   rw [sw3.same _ (by omega) (by omega),sw2.same _ (by simp only [new_n];omega) (by omega),get_new_ne _ _ _ (by omega),sw.same _ (by simp only [new_n];omega) (by omega)]
   exact get_new_eq _ _ _ rfl (by omega)
  simp (disch:=first|omega|(with_unfolding_all exact rfl)|(simp only[new_n,put_n,new_m];omega)|(refine put_m_le ?_;simp only[new_m];omega)) only [res14,K14r0,K14r1,K14r2,K14r3,K14,Abs.W,reduceIte,Nat.reduceEqDiff,Nat.reduceAdd,decide_true,decide_false,kLoop_def,Nat.reduceSub,List.cons_append,List.nil_append,List.append_nil,List.length_cons,List.length_nil,g]
  have S1:Stir d u w3 2:=((((((Stir.refl d u).new _).trans sw).new _).trans sw2).trans sw3)
  refine ⟨_,_,leave_cell _ _ _ _ sh ?_,S1.put (by omega) _ (.inr (Nat.le_refl _)),rfl,⟨x,z,rfl,by omega,by omega,by omega⟩,?_⟩
  ·simp (disch:=first|omega|(with_unfolding_all exact rfl)|(simp only[new_n,put_n,new_m];omega)|(refine put_m_le ?_;simp only[new_m];omega)) only [Abs.W,reduceIte,Nat.reduceEqDiff,Nat.reduceAdd,decide_true,decide_false,kLoop_def,Nat.reduceSub,List.cons_append,List.nil_append,List.append_nil,List.length_cons,List.length_nil]
  ·obtain ⟨f,hg⟩:=dw3
   exact ⟨f,by rw [get_put_ne' _ _ _ _ (by omega)];exact hg⟩) (by omega)
 exact ⟨a,b,t,hr.symm.trans e,st,hd',x0,x1,x2⟩
end Go.Proofs.Ytofkfgfbibolcaa.walk
set_option maxRecDepth 10000
namespace Go.Proofs.Ytofkfgfbibolcaa.walk
open Go.Abs Go.Proofs.Ytofkfgfbibolcaa.code
theorem Die.keep {d:Nat} {h h':Heap} (D:Die d h) (e:h'.get d=h.get d):Die d h':=by obtain ⟨f,hf⟩:=D;exact ⟨f,e.trans hf⟩
theorem call_stir2 {P:Program} {X:FuncId→List Nat} {n:Nat} {f:FuncId} {args:List AV} {s:St} {fn:Func} {d k:Nat} {Q:AV→Heap→Nat→Prop} (hf:P.funcs[f]? = some fn) (hk:keepAll=true)
  (h:∀ u:St,u.h=s.h→u.n=s.n→u.m=far→∃ v s',enterA P X (Abs.call P X n) f args u fn=.val v s'∧Stir d u s' k∧Q v s'.h s'.n∧(plain v=true→Q v s.h s.n)) (hd:d≤far) :
  ∃ v t,Abs.call P X (n+1) (.fn f) args s=.val v t∧Stir d s t k∧Q v t.h t.n:=by
 obtain ⟨v,s',h1,h2,h3,h4⟩:=h ⟨s.h,s.n,far⟩ rfl rfl rfl
 cases hb:Nat.ble s.n s'.m with
 | true =>
  cases hp:plain v with
  | true =>
   refine ⟨v,s,?_,(Stir.refl d s).mono (Nat.zero_le _),h4 hp⟩
   show callStep P X (Abs.call P X n) (.fn f) args s=_
   unfold callStep
   simp only [hf,h1]
   unfold Abs.settle
   simp only [hb,hp]
   rfl
  | false =>
   refine ⟨v,⟨s'.h,s'.n,s.m⟩,?_,⟨h2.same,h2.n,h2.le,fun h=>h,Nat.le_refl _⟩,h3⟩
   show callStep P X (Abs.call P X n) (.fn f) args s=_
   unfold callStep
   simp only [hf,h1]
   unfold Abs.settle
   simp only [hb,hp,hk]
   rfl
 | false =>
  refine ⟨v,⟨s'.h,s'.n,minN s.m s'.m⟩,?_,Stir.draw (s:=s) h2 hd,h3⟩
  show callStep P X (Abs.call P X n) (.fn f) args s=_
  unfold callStep
  simp only [hf,h1]
  unfold Abs.settle
  simp only [hb]
  rfl
structure BookJ (u t:St) (d p9:Nat) (b:Book) (v:AV) (bl kk:Nat):Prop where
 die:Die d t.h
 g9:t.h.get p9=some (.cells (bookV b v) (tag 27))
 is:IsAt t.h t.n bl 6 (tag 48) (b.sales.map Sale.cells) v
 lo:p9<bl
 same:∀ c,c<p9→c≠d→t.h.get c=u.h.get c
 n:p9<t.n
 le:t.n≤u.n+kk
 m:d≤u.m→d≤t.m
 mle:t.m≤u.m
 dp:d<p9
 ok:∀ s ∈ b.sales,s.Ok b.stalls b.goods
theorem book_round (N:Nat) (hN:5≤N) (cx:Ctx) {d p9 bl kk:Nat} {b:Book} {v:AV} {u t:St} {L:Env} {i:Nat} {gr ce:Int} (J:BookJ u t d p9 b v bl kk) (hk:1≤b.stalls∧b.stalls≤8) (hg:1≤b.goods∧b.goods≤8) (hl:b.sales.length≤40) (hs:u.n+kk+2000≤far) (hum:u.m≤far) (hi:i≤1000)
  (hgr:0≤gr∧gr≤5000) (hce:0≤ce∧ce≤2000) (q0:L.find 0=.ptr d 0) (q9:L.find 9=.ptr p9 0) (q10:L.find 10=.int .i64 gr) (q11:L.find 11=.int .i64 ce) (q12:L.find 12=.int .i64 (i+1:Nat)) :
  ∃ L1 t1 b1 v1 bl1,K5l0 (call Try.prog X N) cx L [] t=.done .norm L1 [] t1∧BookJ u t1 d p9 b1 v1 bl1 (kk+10)∧b1.stalls=b.stalls∧b1.goods=b.goods∧b1.sales.length=b.sales.length+1∧L1.find 12=.int .i64 (i:Nat)∧∀ c,c<12→L1.find c=L.find c:=by
 have hf:far=1000000000:=rfl
 obtain ⟨jd,j9,ji,jlo,js,jn,jle,jm,jml,jdp,jok⟩:=J
 have e0:decide ((0:Int)<((i+1:Nat):Int))=true:=decide_eq_true (by omega)
 have kv:∀ t,okA (.val v t)=.val v t:=ji.okA
 have sb:∀ s,aSub s .i64 ((i+1:Nat):Int) 1=.val (.int .i64 (i:Int)) s:=fun s=>by rw [aSub_i64 s _ _ (by omega)];congr 2;omega
 unfold bookV at j9
 simp (disch:=first|omega|(with_unfolding_all exact rfl)|(simp only[new_n,put_n,new_m];omega)|(refine put_m_le ?_;simp only[new_m];omega)) only [res5,K5r0,K5r1,K5r2,K5r3,K5r4,K5r5,K5r6,K5r7,K5,K5l0,Abs.W,reduceIte,Nat.reduceEqDiff,Nat.reduceAdd,decide_true,decide_false,kLoop_def,Nat.reduceSub,List.cons_append,List.nil_append,List.append_nil,List.length_cons,List.length_nil,Env.find_set,Nat.zero_add,Nat.add_zero,q0,q9,q10,q11,q12,j9,kv,e0]
 generalize hc1:call _ _ _ (.fn 6) _ _=r1
 obtain ⟨x1,t1,rfl,st1,d1,x10,x11⟩:=cast_ex hc1 (by omega) jd (by show d<t.n;omega) (by show t.n+100≤far;omega) (by omega)
 have n1:t.n≤t1.n:=st1.n
 have k1:t1.n≤t.n:=st1.le
 have g1:∀ c,c<t.n→c≠d→t1.h.get c=t.h.get c:=fun c hc hcd=>st1.same c hc hcd
 have a9:=(g1 p9 (by omega) (by omega)).trans j9
 simp (disch:=first|omega|(with_unfolding_all exact rfl)|(simp only[new_n,put_n,new_m];omega)|(refine put_m_le ?_;simp only[new_m];omega)) only [thenT_turn,Abs.W,reduceIte,Nat.reduceEqDiff,Nat.reduceAdd,decide_true,decide_false,kLoop_def,Nat.reduceSub,List.cons_append,List.nil_append,List.append_nil,List.length_cons,List.length_nil,Env.find_set,q0,q9,a9,Nat.zero_add]
 generalize hc2:call _ _ _ (.fn 6) _ _=r2
 obtain ⟨x2,t2,rfl,st2,d2,x20,x21⟩:=cast_ex hc2 (by omega) d1 (by show d<t1.n;omega) (by show t1.n+100≤far;omega) (by omega)
 have n2:t1.n≤t2.n:=st2.n
 have k2:t2.n≤t1.n:=st2.le
 have g2:∀ c,c<t.n→c≠d→t2.h.get c=t.h.get c:=fun c hc hcd=>(st2.same c (by show c<t1.n;omega) hcd).trans (g1 c hc hcd)
 simp (disch:=first|omega|(with_unfolding_all exact rfl)|(simp only[new_n,put_n,new_m];omega)|(refine put_m_le ?_;simp only[new_m];omega)) only [thenT_turn,Abs.W,reduceIte,Nat.reduceEqDiff,Nat.reduceAdd,decide_true,decide_false,kLoop_def,Nat.reduceSub,List.cons_append,List.nil_append,List.append_nil,List.length_cons,List.length_nil,Env.find_set,q0,q10,Nat.zero_add]
 generalize hc3:call _ _ _ (.fn 14) _ _=r3
 obtain ⟨y1,y2,t3,rfl,st3,d3,y10,y11,y12⟩:=span_ex hc3 (by omega) d2 (by show d<t2.n;omega) (by show t2.n+300≤far;omega) (by omega) (by omega) (by omega)
 have n3:t2.n≤t3.n:=st3.n
 have k3:t3.n≤t2.n+2:=st3.le
 have g3:∀ c,c<t.n→c≠d→t3.h.get c=t.h.get c:=fun c hc hcd=>(st3.same c (by show c<t2.n;omega) hcd).trans (g2 c hc hcd)
 simp (disch:=first|omega|(with_unfolding_all exact rfl)|(simp only[new_n,put_n,new_m];omega)|(refine put_m_le ?_;simp only[new_m];omega)) only [thenT_turn,Abs.W,reduceIte,Nat.reduceEqDiff,Nat.reduceAdd,decide_true,decide_false,kLoop_def,Nat.reduceSub,List.cons_append,List.nil_append,List.append_nil,List.length_cons,List.length_nil,Env.find_set,q0,q11,Nat.zero_add]
 generalize hc4:call _ _ _ (.fn 14) _ _=r4
 obtain ⟨z1,z2,t4,rfl,st4,d4,z10,z11,z12⟩:=span_ex hc4 (by omega) d3 (by show d<t3.n;omega) (by show t3.n+300≤far;omega) (by omega) (by omega) (by omega)
 have n4:t3.n≤t4.n:=st4.n
 have k4:t4.n≤t3.n+2:=st4.le
 have g4:∀ c,c<t.n→c≠d→t4.h.get c=t.h.get c:=fun c hc hcd=>(st4.same c (by show c<t3.n;omega) hcd).trans (g3 c hc hcd)
 simp (disch:=first|omega|(with_unfolding_all exact rfl)|(simp only[new_n,put_n,new_m];omega)|(refine put_m_le ?_;simp only[new_m];omega)) only [thenT_turn,Abs.W,reduceIte,Nat.reduceEqDiff,Nat.reduceAdd,decide_true,decide_false,kLoop_def,Nat.reduceSub,List.cons_append,List.nil_append,List.append_nil,List.length_cons,List.length_nil,Env.find_set,Nat.zero_add]
 obtain ⟨y8,hy8⟩:∃ y8:St,y8=⟨t4.h,t4.n,minN (minN (minN (minN t.m t1.m) t2.m) t3.m) t4.m⟩:=⟨_,rfl⟩
 have y8n:y8.n=t4.n:=by rw [hy8]
 have y8h:y8.h=t4.h:=by rw [hy8]
 have y8m:y8.m=min (min (min (min t.m t1.m) t2.m) t3.m) t4.m:=by rw [hy8];simp only [minN_eq]
 have m1:d≤t1.m:=st1.m (by show d≤far;omega)
 have m2:d≤t2.m:=st2.m (by show d≤far;omega)
 have m3:d≤t3.m:=st3.m (by show d≤far;omega)
 have m4:d≤t4.m:=st4.m (by show d≤far;omega)
 obtain ⟨S,hS⟩:∃ S:Sale,S=⟨x1,x2,y1,y2,z1,z2⟩:=⟨_,rfl⟩
 obtain ⟨y,hy⟩:∃ y:St,y=y8.new (.cells S.cells 0):=⟨_,rfl⟩
 have yn:y.n=t4.n+1:=by rw [hy];show y8.n+1=_;rw [y8n]
 have ym:y.m=y8.m:=by rw [hy];rfl
 have yg:∀ c,c<t4.n→y.h.get c=t4.h.get c:=fun c hc=>by rw [hy,get_new_ne _ _ _ (by omega),y8h]
 have yp:y.h.get t4.n=some (.cells S.cells 0):=by rw [hy,← y8n];exact get_new_eq _ _ _ rfl (by omega)
 have gy:∀ c,c<t.n→c≠d→y.h.get c=t.h.get c:=fun c hc hcd=>(yg c (by omega)).trans (g4 c hc hcd)
 obtain ⟨s7,e7,l7,s7n,s7g,s7m,s7l⟩:=append_at (bytes:=48) (ji.mono (h':=y.h) (n':=y.n) (fun h=>gy bl h (by omega)) (by omega)) yp rfl rfl (by rw [List.length_map];omega) (by kernel_rfl) (by omega)
 have hlen:(b.sales.map Sale.cells).length=b.sales.length:=List.length_map ..
 rw [hlen] at e7 l7
 obtain ⟨v7,hv7⟩:∃ v7,v7=AV.slice y.n 0 (b.sales.length+1) (b.sales.length+1) true:=⟨_,rfl⟩
 rw [← hv7] at e7 l7
 have e7':appendA false 6 48 (tag 48) (y8.new (.cells [.int .i64 x1,.int .i64 x2,.int .i64 y1,.int .i64 y2,.int .i64 z1,.int .i64 z2] 0)) v (.slice t4.n 0 1 1 false)=.val v7 s7:=by
  have:S.cells=[.int .i64 x1,.int .i64 x2,.int .i64 y1,.int .i64 y2,.int .i64 z1,.int .i64 z2]:=by rw [hS];rfl
  rw [hy,this] at e7
  exact e7
 rw [← hy8]
 have s9:=(s7g p9 (by omega) (by omega)).trans ((gy p9 (by omega) (by omega)).trans j9)
 have sc7:scalars [v7]=true:=by rw [hv7];rfl
 have cc7:cellsOf 1 v7=some [v7]:=by rw [hv7];rfl
 simp (disch:=first|omega|(with_unfolding_all exact rfl)|(simp only[new_n,put_n,new_m];omega)|(refine put_m_le ?_;simp only[new_m];omega)) only [Abs.W,reduceIte,Nat.reduceEqDiff,Nat.reduceAdd,decide_true,decide_false,kLoop_def,Nat.reduceSub,List.cons_append,List.nil_append,List.append_nil,List.length_cons,List.length_nil,Env.find_set,e7',q9,s9,sc7,cc7,Nat.zero_add]
 rw [endT_kept (l:=[34]) (s':=t4) (by simp only [keptAll_cons,keptAll_nil,find_cons,Env.find_set,keptV_ptr,(g3 p9 (by omega) (by omega)).trans j9,(g4 p9 (by omega) (by omega)).trans j9,sameO_cells,reduceIte,Nat.reduceEqDiff,Bool.and_self])]
 rw [endT_kept (l:=[34]) (s':=t3) (by simp only [keptAll_cons,keptAll_nil,find_cons,Env.find_set,keptV_ptr,(g2 p9 (by omega) (by omega)).trans j9,(g3 p9 (by omega) (by omega)).trans j9,sameO_cells,reduceIte,Nat.reduceEqDiff,Bool.and_self])]
 rw [endT_kept (l:=[34]) (s':=t2) (by simp only [keptAll_cons,keptAll_nil,find_cons,Env.find_set,keptV_ptr,(g1 p9 (by omega) (by omega)).trans j9,(g2 p9 (by omega) (by omega)).trans j9,sameO_cells,reduceIte,Nat.reduceEqDiff,Bool.and_self])]
 rw [endT_kept (l:=[34,41]) (s':=t1) (by simp only [keptAll_cons,keptAll_nil,find_cons,Env.find_set,keptV_ptr,j9,(g1 p9 (by omega) (by omega)).trans j9,sameO_cells,reduceIte,Nat.reduceEqDiff,Bool.and_self])]
 rw [endO_ok _ (endOk_nil _)]
 simp (disch:=first|omega|(with_unfolding_all exact rfl)|(simp only[new_n,put_n,new_m];omega)|(refine put_m_le ?_;simp only[new_m];omega)) only [res5,K5r0,K5r1,K5r2,K5r3,K5r4,K5r5,K5r6,K5r7,K5,Abs.W,reduceIte,Nat.reduceEqDiff,Nat.reduceAdd,decide_true,decide_false,kLoop_def,Nat.reduceSub,List.cons_append,List.nil_append,List.append_nil,List.length_cons,List.length_nil,Env.find_set,q12,sb,Nat.zero_add]
 have hcells:(b.sales.map Sale.cells)++[S.cells]=(b.sales++[S]).map Sale.cells:=by rw [List.map_append];rfl
 refine ⟨_,_,{ b with sales:=b.sales++[S] },v7,y.n,rfl,⟨?_,?_,?_,by omega,fun c hc hcd=>?_,by simp only [put_n];omega,by simp only [put_n];omega,fun hm=>?_,?_,jdp,fun x hx=>?_⟩,rfl,rfl,by simp,by simp only [Env.find_set,reduceIte,Nat.reduceEqDiff],fun c hc=>?_⟩
 ·exact Die.keep d4 (by rw [get_put_ne' _ _ _ _ (by omega),s7g d (by omega) (by omega),yg d (by omega)])
 ·exact get_put_eq _ _ _ _ rfl (by omega)
 ·rw [← hcells]
  exact l7.mono (fun _=>get_put_ne' _ _ _ _ (by omega)) (by simp only [put_n];omega)
 ·rw [get_put_ne' _ _ _ _ (by omega),s7g c (by omega) (by omega),gy c (by omega) hcd]
  exact js c hc hcd
 ·have:=jm hm
  have:=s7m d (by omega) (by omega) (by omega)
  simp only [St.put,minN_eq];omega
 ·simp only [St.put,minN_eq];omega
 ·rcases List.mem_append.mp hx with hx | hx
  ·exact jok x hx
  ·rw [List.mem_singleton.mp hx,hS]
   exact ⟨by simp only;omega,by simp only;omega,by simp only;omega,by simp only;omega,by simp only;omega,by simp only;omega,by simp only;omega,by simp only;omega,by simp only;omega,by simp only;omega⟩
 ·simp only [Env.find_set]
  rw [if_neg (by omega),if_neg (by omega)]
theorem book_loop (N:Nat) (hN:5≤N) {cx:Ctx} {d p9 bl kk i:Nat} {b:Book} {v:AV} {u w:St} {L:Env} {r:R} {gr ce:Int} (hr:loopN K5l0 rounds (call Try.prog X N) cx L [] w=r) (J:BookJ u w d p9 b v bl kk) (hk:1≤b.stalls∧b.stalls≤8) (hg:1≤b.goods∧b.goods≤8) (h0:b.sales.length=0) (hi:i≤39) (hs:u.n+kk+3000≤far) (hum:u.m≤far)
  (hgr:0≤gr∧gr≤5000) (hce:0≤ce∧ce≤2000) (q0:L.find 0=.ptr d 0) (q9:L.find 9=.ptr p9 0) (q10:L.find 10=.int .i64 gr) (q11:L.find 11=.int .i64 ce) (q12:L.find 12=.int .i64 (i:Int)) :
  ∃ L1 t1 b1 v1 bl1,r=.done (.exit 0) L1 [] t1∧BookJ u t1 d p9 b1 v1 bl1 (kk+400)∧b1.stalls=b.stalls∧b1.goods=b.goods∧b1.sales.length=i∧∀ c,c<12→L1.find c=L.find c:=by
 have hf:far=1000000000:=rfl
 obtain ⟨e,L1,t1,rfl,rfl,b1,v1,bl1,h1,h2,h3,h4,h5⟩:=loop_of hr (fun j L' t'=>∃ b1 v1 bl1,BookJ u t' d p9 b1 v1 bl1 (kk+10 * j)∧b1.stalls=b.stalls∧b1.goods=b.goods∧b1.sales.length=j∧L'.find 12=.int .i64 ((i - j:Nat):Int)∧∀ c,c<12→L'.find c=L.find c)
  (fun e L' t'=>e=.exit 0∧∃ b1 v1 bl1,BookJ u t' d p9 b1 v1 bl1 (kk+400)∧b1.stalls=b.stalls∧b1.goods=b.goods∧b1.sales.length=i∧∀ c,c<12→L'.find c=L.find c) i (by unfold rounds;omega)
  ⟨b,v,bl,J,rfl,rfl,h0,q12,fun _ _=>rfl⟩
  (fun j L' t' hj ⟨b1,v1,bl1,hJ,hb1,hb2,hb3,p12,g⟩=>by
   by_cases hlt:j<i
   ·obtain ⟨L2,t2,b2,v2,bl2,z1,z2,z3,z4,z5,z6,z7⟩:=book_round N hN cx (i:=i - j - 1) hJ (by omega) (by omega) (by omega) (by omega) hum (by omega) hgr hce ((g 0 (by omega)).trans q0) ((g 9 (by omega)).trans q9) ((g 10 (by omega)).trans q10) ((g 11 (by omega)).trans q11) (by rw [p12,show i - j - 1+1=i - j by omega])
    exact .inl ⟨hlt,L2,t2,z1,b2,v2,bl2,z2,z3.trans hb1,z4.trans hb2,by omega,z6.trans (by rw [show i - j - 1=i - (j+1) by omega]),fun c hc=>(z7 c hc).trans (g c hc)⟩
   ·obtain rfl:j=i:=by omega
    have e0:decide ((0:Int)<((0:Nat):Int))=false:=rfl
    rw [Nat.sub_self] at p12
    refine .inr ⟨.exit 0,L'.set 31 (.bool false),t',by simp,?_,rfl,b1,v1,bl1,?_,hb1,hb2,hb3,fun c hc=>?_⟩
    ·simp (disch:=first|omega|(with_unfolding_all exact rfl)|(simp only[new_n,put_n,new_m];omega)|(refine put_m_le ?_;simp only[new_m];omega)) only [res5,K5r0,K5r1,K5r2,K5r3,K5r4,K5r5,K5r6,K5r7,K5,K5l0,Abs.W,reduceIte,Nat.reduceEqDiff,Nat.reduceAdd,decide_true,decide_false,kLoop_def,Nat.reduceSub,List.cons_append,List.nil_append,List.append_nil,List.length_cons,List.length_nil,Env.find_set,p12,e0]
    ·obtain ⟨a1,a2,a3,a4,a5,a6,a7,a8,a9,a10,a11⟩:=hJ
     exact ⟨a1,a2,a3,a4,a5,a6,by omega,a8,a9,a10,a11⟩
    ·simp only [Env.find_set]
     rw [if_neg (by omega)]
     exact g c hc)
 exact ⟨L1,t1,b1,v1,bl1,rfl,h1,h2,h3,h4,h5⟩
theorem BookOf_ex {N d:Nat} {k g n:Nat} {s:St} {r:ARes} (hr:call Try.prog X N (.fn 5) [.ptr d 0,.int .i64 (k:Int),.int .i64 (g:Int),.int .i64 (n:Int)] s=r) (hN:6≤N) (hd:Die d s.h) (hlt:d<s.n) (hk:1≤k∧k≤8) (hg:1≤g∧g≤8) (hn:n≤39) (hs:s.n+6000≤far) :
  ∃ (b:Book) (v:AV) (bl:Nat) (t:St),r=.val (.agg (bookV b v)) t∧Stir d s t 500∧Die d t.h∧b.Ok∧b.sales.length≤n∧s.n≤bl∧IsAt t.h t.n bl 6 (tag 48) (b.sales.map Sale.cells) v:=by
 obtain ⟨m,rfl⟩:∃ m,N=m+1:=⟨N - 1,by omega⟩
 have hf:far=1000000000:=rfl
 obtain ⟨v,t,e,st,b,v',bl,rfl,hq1,hq2,hq3,hq4,hq5⟩:=call_stir2 (n:=m) (args:=[.ptr d 0,.int .i64 (k:Int),.int .i64 (g:Int),.int .i64 (n:Int)]) (d:=d) (s:=s) (k:=500) (Q:=fun w h m=>∃ (b:Book) (v:AV) (bl:Nat),w=.agg (bookV b v)∧Die d h∧b.Ok∧b.sales.length≤n∧s.n≤bl∧IsAt h m bl 6 (tag 48) (b.sales.map Sale.cells) v) Try.func5 rfl (fun u uh un um=>by
  have hd':=hd
  rw [← uh] at hd
  rw [← un] at hlt
  rw [enter5]
  simp (disch:=first|omega|(with_unfolding_all exact rfl)|(simp only[new_n,put_n,new_m];omega)|(refine put_m_le ?_;simp only[new_m];omega)) only [res5,K5r0,K5r1,K5r2,K5r3,K5r4,K5r5,K5r6,K5r7,K5,Abs.W,reduceIte,Nat.reduceEqDiff,Nat.reduceAdd,decide_true,decide_false,kLoop_def,Nat.reduceSub,List.cons_append,List.nil_append,List.append_nil,List.length_cons,List.length_nil,Env.find_set]
  obtain ⟨w0,hw0⟩:∃ w0:St,w0=u.new (.cells [.int .i64 0,.int .i64 0,.nilslice] (tag 27)):=⟨_,rfl⟩
  rw [← hw0]
  have w0n:w0.n=u.n+1:=by rw [hw0];rfl
  have w0m:w0.m=far:=by rw [hw0];exact um
  have w0g:∀ c,c<u.n→w0.h.get c=u.h.get c:=fun c hc=>by rw [hw0,get_new_ne _ _ _ (by omega)]
  have w00:w0.h.get u.n=some (.cells [.int .i64 0,.int .i64 0,.nilslice] (tag 27)):=by rw [hw0];exact get_new_eq _ _ _ rfl (by omega)
  generalize hc1:call _ _ _ (.fn 12) _ _=r1
  obtain ⟨x1,t1,rfl,st1,d1,x10,x11⟩:=from_ex hc1 (by omega) (Die.keep hd (w0g d hlt)) (by omega) (by omega) (by omega) (by omega) (by omega) (by omega)
  have n1:=st1.n
  have k1:=st1.le
  simp (disch:=first|omega|(with_unfolding_all exact rfl)|(simp only[new_n,put_n,new_m];omega)|(refine put_m_le ?_;simp only[new_m];omega)) only [Abs.W,reduceIte,Nat.reduceEqDiff,Nat.reduceAdd,decide_true,decide_false,kLoop_def,Nat.reduceSub,List.cons_append,List.nil_append,List.append_nil,List.length_cons,List.length_nil,Env.find_set]
  generalize hc2:call _ _ _ (.fn 12) _ _=r2
  obtain ⟨x2,t2,rfl,st2,d2,x20,x21⟩:=from_ex hc2 (by omega) d1 (by omega) (by omega) (by omega) (by omega) (by omega) (by omega)
  have n2:=st2.n
  have k2:=st2.le
  simp (disch:=first|omega|(with_unfolding_all exact rfl)|(simp only[new_n,put_n,new_m];omega)|(refine put_m_le ?_;simp only[new_m];omega)) only [Abs.W,reduceIte,Nat.reduceEqDiff,Nat.reduceAdd,decide_true,decide_false,kLoop_def,Nat.reduceSub,List.cons_append,List.nil_append,List.append_nil,List.length_cons,List.length_nil,Env.find_set,Nat.zero_add]
  obtain ⟨y,hy⟩:∃ y:St,y=(t2.new (.cells [.int .i64 0,.int .i64 0,.nilslice] (tag 27))).put t2.n (.cells [.int .i64 x1,.int .i64 x2,.nilslice] (tag 27)):=⟨_,rfl⟩
  have yn:y.n=t2.n+1:=by rw [hy];rfl
  have ym:y.m=min t2.m t2.n:=by rw [hy];simp only [St.put,minN_eq,new_m]
  have yg:∀ c,c<t2.n→y.h.get c=t2.h.get c:=fun c hc=>by rw [hy,get_put_ne' _ _ _ _ (by omega),get_new_ne _ _ _ (by omega)]
  have yp:y.h.get t2.n=some (.cells [.int .i64 x1,.int .i64 x2,.nilslice] (tag 27)):=by rw [hy];exact get_put_eq _ _ _ _ rfl (by omega)
  have m1:=st1.m (by omega)
  have m2:=st2.m m1
  have l1:=st1.mle
  have l2:=st2.mle
  rw [← hy]
  clear hy
  generalize hc3:call _ _ _ (.fn 13) _ _=r3
  obtain ⟨gr,t3,rfl,st3,d3,hgr⟩:=one_ex [6,100,5000] (b:=y.n) (sz:=0) hc3 (by omega) (Die.keep d2 ((get_new_ne _ _ _ (by omega)).trans (yg d (by omega)))) (by simp only [new_n];omega) (by simp only [new_n];omega) (get_new_eq _ _ _ rfl (by omega)) (by simp only [new_n];omega) (by omega) rfl (by omega) (by omega)
  have n3:y.n+1≤t3.n:=st3.n
  have k3:t3.n≤y.n+1:=st3.le
  have g3:∀ c,c<y.n→c≠d→t3.h.get c=y.h.get c:=fun c hc hcd=>(st3.same c (by show c<y.n+1;omega) hcd).trans (get_new_ne _ _ _ (by omega))
  have m3:d≤t3.m:=st3.m (by show d≤y.m;omega)
  have l3:t3.m≤y.m:=st3.mle
  simp (disch:=first|omega|(with_unfolding_all exact rfl)|(simp only[new_n,put_n,new_m];omega)|(refine put_m_le ?_;simp only[new_m];omega)) only [Abs.W,reduceIte,Nat.reduceEqDiff,Nat.reduceAdd,decide_true,decide_false,kLoop_def,Nat.reduceSub,List.cons_append,List.nil_append,List.append_nil,List.length_cons,List.length_nil,Env.find_set,Nat.zero_add]
  generalize hc4:call _ _ _ (.fn 13) _ _=r4
  obtain ⟨ce,t4,rfl,st4,d4,hce⟩:=one_ex [6,30,2000] (b:=t3.n) (sz:=0) hc4 (by omega) (Die.keep d3 (get_new_ne _ _ _ (by omega))) (by simp only [new_n];omega) (by simp only [new_n];omega) (get_new_eq _ _ _ rfl (by omega)) (by simp only [new_n];omega) (by omega) rfl (by omega) (by omega)
  have n4:t3.n+1≤t4.n:=st4.n
  have k4:t4.n≤t3.n+1:=st4.le
  have g4:∀ c,c<y.n→c≠d→t4.h.get c=y.h.get c:=fun c hc hcd=>(st4.same c (by show c<t3.n+1;omega) hcd).trans ((get_new_ne _ _ _ (by omega)).trans (g3 c hc hcd))
  have m4:d≤t4.m:=st4.m (by show d≤t3.m;omega)
  have l4:t4.m≤t3.m:=st4.mle
  have adn:∀ s,aAdd s .i64 (n:Int) 1=.val (.int .i64 ((n:Int)+1)) s:=fun s=>aAdd_i64 s _ _ (by omega)
  simp (disch:=first|omega|(with_unfolding_all exact rfl)|(simp only[new_n,put_n,new_m];omega)|(refine put_m_le ?_;simp only[new_m];omega)) only [res5,K5r0,K5r1,K5r2,K5r3,K5r4,K5r5,K5r6,K5r7,K5,Abs.W,reduceIte,Nat.reduceEqDiff,Nat.reduceAdd,decide_true,decide_false,kLoop_def,Nat.reduceSub,List.cons_append,List.nil_append,List.append_nil,List.length_cons,List.length_nil,Env.find_set,adn,Nat.zero_add]
  generalize hc5:call _ _ _ (.fn 6) _ _=r5
  obtain ⟨x5,t5,rfl,st5,d5,x50,x51⟩:=cast_ex hc5 (by omega) d4 (by omega) (by omega) (by omega)
  obtain ⟨i,rfl⟩:∃ n:Nat,x5=n:=⟨x5.toNat,by omega⟩
  obtain ⟨kk,rfl⟩:∃ n:Nat,x1=n:=⟨x1.toNat,by omega⟩
  obtain ⟨gg,rfl⟩:∃ n:Nat,x2=n:=⟨x2.toNat,by omega⟩
  have n5:=st5.n
  have k5:=st5.le
  have m5:=st5.m m4
  have l5:=st5.mle
  have g5:∀ c,c<y.n→c≠d→t5.h.get c=y.h.get c:=fun c hc hcd=>(st5.same c (by omega) hcd).trans (g4 c hc hcd)
  simp (disch:=first|omega|(with_unfolding_all exact rfl)|(simp only[new_n,put_n,new_m];omega)|(refine put_m_le ?_;simp only[new_m];omega)) only [res5,K5r0,K5r1,K5r2,K5r3,K5r4,K5r5,K5r6,K5r7,K5,Abs.W,reduceIte,Nat.reduceEqDiff,Nat.reduceAdd,decide_true,decide_false,kLoop_def,Nat.reduceSub,List.cons_append,List.nil_append,List.append_nil,List.length_cons,List.length_nil,Env.find_set,Nat.zero_add]
  generalize hlp:loopN _ rounds _ _ _ _ _=rl
  have p9:=(g5 t2.n (by omega) (by omega)).trans yp
  have hgr':0≤gr∧gr≤5000:=by simp at hgr;omega
  have hce':0≤ce∧ce≤2000:=by simp at hce;omega
  have base:∀ c,c<t2.n→c≠d→t5.h.get c=t2.h.get c:=fun c hc hcd=>(g5 c (by omega) hcd).trans (yg c hc)
  have base0:∀ c,c<u.n→c≠d→t5.h.get c=u.h.get c:=fun c hc hcd=>(base c (by omega) hcd).trans ((st2.same c (by omega) hcd).trans ((st1.same c (by omega) hcd).trans (w0g c hc)))
  have hJ:BookJ t5 t5 d t2.n ⟨kk,gg,[]⟩ .nilslice (far+1) 0:=⟨d5,p9,IsAt.nil _ _ _ _ _,by omega,fun _ _ _=>rfl,by omega,by omega,fun h=>h,Nat.le_refl _,by omega,fun s hs=>by cases hs⟩
  obtain ⟨L1,t6,b1,v1,bl1,rfl,J6,h61,h62,h63,g6⟩:=book_loop m (by omega) (i:=i) hlp hJ (by show 1≤kk∧kk≤8;omega) (by show 1≤gg∧gg≤8;omega) rfl (by omega) (by omega) (by omega) hgr' hce' (by simp only [find_cons,Env.find_set,reduceIte,Nat.reduceEqDiff]) (by simp only [find_cons,Env.find_set,reduceIte,Nat.reduceEqDiff]) (by simp only [find_cons,Env.find_set,reduceIte,Nat.reduceEqDiff]) (by simp only [find_cons,Env.find_set,reduceIte,Nat.reduceEqDiff]) (by simp only [find_cons,Env.find_set,reduceIte,Nat.reduceEqDiff])
  have f8:L1.find 8=.ptr u.n 0:=(g6 8 (by omega)).trans (by simp only [find_cons,Env.find_set,reduceIte,Nat.reduceEqDiff])
  have f9:L1.find 9=.ptr t2.n 0:=(g6 9 (by omega)).trans (by simp only [find_cons,Env.find_set,reduceIte,Nat.reduceEqDiff])
  have h61:b1.stalls=kk:=h61
  have h62:b1.goods=gg:=h62
  obtain ⟨jd,j9,ji,jlo,js,jn,jle,jm,jml,jdp,jok⟩:=J6
  have j0:t6.h.get u.n=some (.cells [.int .i64 0,.int .i64 0,.nilslice] (tag 27)):=(js u.n (by omega) (by omega)).trans ((base u.n (by omega) (by omega)).trans ((st2.same u.n (by omega) (by omega)).trans ((st1.same u.n (by omega) (by omega)).trans w00)))
  have sc1:=ji.scal.1
  have scb:scalars (bookV b1 v1)=true:=by show scalars [v1]=true;exact sc1
  unfold bookV at j9 scb
  have sh3:shapeT Try.prog 27=some (some 3):=by kernel_rfl
  simp (disch:=first|omega|(with_unfolding_all exact rfl)|(simp only[new_n,put_n,new_m];omega)|(refine put_m_le ?_;simp only[new_m];omega)) only [res5,K5r0,K5r1,K5r2,K5r3,K5r4,K5r5,K5r6,K5r7,K5,Abs.W,reduceIte,Nat.reduceEqDiff,Nat.reduceAdd,decide_true,decide_false,kLoop_def,Nat.reduceSub,List.cons_append,List.nil_append,List.append_nil,List.length_cons,List.length_nil,Env.find_set,f8,f9,j9,j0,scb,Nat.zero_add]
  have okb:b1.Ok:=⟨by omega,by omega,by omega,by omega,by omega,jok⟩
  refine ⟨.agg (bookV b1 v1),_,leave_cell _ _ _ _ sh3 ?_,⟨fun c hc hcd=>?_,by simp only [put_n];omega,by simp only [put_n];omega,fun _=>?_,?_⟩,⟨b1,v1,bl1,rfl,Die.keep jd (get_put_ne' _ _ _ _ (by omega)),okb,by omega,by omega,ji.mono (fun _=>get_put_ne' _ _ _ _ (by omega)) (by simp only [put_n];omega)⟩,fun hp=>?_⟩
  ·simp only [Env.find_set,f8,reduceIte,Nat.reduceEqDiff]
   rw [load_ptr,get_put_eq _ _ _ _ rfl (by omega),loadO_cells,partS_some]
   rfl
  ·rw [get_put_ne' _ _ _ _ (by omega),js c (by omega) hcd,base0 c hc hcd]
  ·have:=jm (by omega)
   simp only [St.put,minN_eq];omega
  ·simp only [St.put,minN_eq];omega
  ·have hv:v1=.nilslice∧b1.sales=[]:=by
    rcases ji.is with ⟨z,z2⟩ | ⟨_,_,z,_⟩
    ·exact ⟨z2,List.map_eq_nil_iff.mp z⟩
    ·subst z;simp [plain,plains,bookV] at hp
   exact ⟨b1,v1,s.n,rfl,hd',okb,by omega,Nat.le_refl _,by rw [hv.1,hv.2];exact IsAt.nil _ _ _ _ _⟩) (by omega)
 exact ⟨b,v',bl,t,hr.symm.trans e,st,hq1,hq2,hq3,hq4,hq5⟩
end Go.Proofs.Ytofkfgfbibolcaa.walk
set_option maxRecDepth 10000
namespace Go.Abs
variable {P:Program}
structure Grow (d:Nat) (u s:St) (k:Nat):Prop where
 same:∀ b,b<u.n→b≠d→s.h.get b=u.h.get b
 n:u.n≤s.n
 le:s.n≤u.n+k
 m:∀ x,x≤d→x≤u.n→x≤u.m→x≤s.m
 mle:s.m≤u.m
theorem Grow.refl (d:Nat) (u:St):Grow d u u 0:=⟨fun _ _ _=>rfl,Nat.le_refl _,Nat.le_refl _,fun _ _ _ h=>h,Nat.le_refl _⟩
theorem Grow.mono {d:Nat} {u s:St} {j k:Nat} (a:Grow d u s j) (h:j≤k):Grow d u s k:=⟨a.same,a.n,by have:=a.le;omega,a.m,a.mle⟩
theorem Grow.new {d:Nat} {u s:St} {k:Nat} (h:Grow d u s k) (o:AObj):Grow d u (s.new o) (k+1) :=
 ⟨fun b hb hd=>by rw [get_new_ne _ _ _ (by have:=h.n;omega)];exact h.same b hb hd,Nat.le_trans h.n (Nat.le_succ _),by have:=h.le;show s.n+1≤_;omega,h.m,h.mle⟩
theorem Grow.put {d:Nat} {u s:St} {k b:Nat} (h:Grow d u s k) (o:AObj) (hb:u.n≤b):Grow d u (s.put b o) k :=
 ⟨fun c hc hcd=>by rw [get_put_ne' _ _ _ _ (by omega)];exact h.same c hc hcd,h.n,h.le,fun x h1 h2 h3=>by
  show x≤minN s.m b
  rw [minN_min]
  have:=h.m x h1 h2 h3
  omega,Nat.le_trans (minN_le_left _ _) h.mle⟩
theorem Grow.after {d:Nat} {u s t:St} {j k:Nat} (a:Grow d u s j) (b:New s t k):Grow d u t (j+k) :=
 ⟨fun c hc hd=>(b.same c (by have:=a.n;omega)).trans (a.same c hc hd),Nat.le_trans a.n b.n,by have:=a.le;have:=b.le;omega,fun x h1 h2 h3=>by rw [b.m];exact a.m x h1 h2 h3,by rw [b.m];exact a.mle⟩
theorem Grow.trans {d e:Nat} {u s t:St} {j k:Nat} (a:Grow d u s j) (b:Grow e s t k) (he:e=d∨u.n≤e):Grow d u t (j+k) :=
 ⟨fun c hc hd=>(b.same c (by have:=a.n;omega) (by omega)).trans (a.same c hc hd),Nat.le_trans a.n b.n,by have:=a.le;have:=b.le;omega,fun x h1 h2 h3=>b.m x (by omega) (by have:=a.n;omega) (a.m x h1 h2 h3),Nat.le_trans b.mle a.mle⟩
theorem call_grow {X:FuncId→List Nat} {n:Nat} {f:FuncId} {args:List AV} {s:St} {fn:Func} {d k:Nat} {Q:AV→Heap→Nat→Prop} (hf:P.funcs[f]? = some fn) (hk:keepAll=true)
  (h:∀ u:St,u.h=s.h→u.n=s.n→u.m=far→∃ v s',enterA P X (call P X n) f args u fn=.val v s'∧Grow d u s' k∧Q v s'.h s'.n∧(plain v=true→Q v s.h s.n)) (hs:s.n≤far) :
  ∃ v t,call P X (n+1) (.fn f) args s=.val v t∧Grow d s t k∧Q v t.h t.n:=by
 obtain ⟨v,s',h1,h2,h3,h4⟩:=h ⟨s.h,s.n,far⟩ rfl rfl rfl
 cases hb:Nat.ble s.n s'.m with
 | true =>
  cases hp:plain v with
  | true =>
   refine ⟨v,s,?_,(Grow.refl d s).mono (Nat.zero_le _),h4 hp⟩
   show callStep P X (call P X n) (.fn f) args s=_
   unfold callStep
   simp only [hf,h1]
   unfold Abs.settle
   simp only [hb,hp]
   rfl
  | false =>
   refine ⟨v,⟨s'.h,s'.n,s.m⟩,?_,⟨h2.same,h2.n,h2.le,fun x _ _ h=>h,Nat.le_refl _⟩,h3⟩
   show callStep P X (call P X n) (.fn f) args s=_
   unfold callStep
   simp only [hf,h1]
   unfold Abs.settle
   simp only [hb,hp,hk]
   rfl
 | false =>
  refine ⟨v,⟨s'.h,s'.n,minN s.m s'.m⟩,?_,⟨h2.same,h2.n,h2.le,fun x h1 h5 h6=>?_,minN_le_left _ _⟩,h3⟩
  ·show callStep P X (call P X n) (.fn f) args s=_
   unfold callStep
   simp only [hf,h1]
   unfold Abs.settle
   simp only [hb]
   rfl
  ·show x≤minN s.m s'.m
   rw [minN_min]
   have:=h2.m x h1 h5 (show x≤far by omega)
   omega
theorem over1_eq:∀ (v c:List AV),v.length≤c.length→over1 v c=some (v++c.drop v.length)
 | [],c,_=>by rw [over1_nil];rfl
 | x::v,[],h=>by simp at h
 | x::v,a::c,h=>by rw [over1_cons,over1_eq v c (by simpa using h),consO_some];rfl
theorem over_eq:∀ (p:Nat) (v c:List AV),p+v.length≤c.length→over p v c=some (c.take p++(v++c.drop (p+v.length)))
 | 0,v,[],h=>by
  have:v=[]:=by simpa using h
  subst this;rfl
 | p+1,v,[],h=>by simp at h
 | 0,v,a::c,h=>by rw [over_cons,if_pos rfl,over1_eq v (a::c) (by omega),Nat.zero_add];rfl
 | p+1,v,a::c,h=>by
  rw [over_cons,if_neg (by omega),Nat.add_sub_cancel,over_eq p v c (by simp at h;omega),consO_some]
  rw [show p+1+v.length=p+v.length+1 by omega]
  rfl
theorem cut1_take:∀ (k:Nat) (c:List AV),k≤c.length→cut1 k c=some (c.take k)
 | 0,c,_=>by rw [cut1_zero];rfl
 | k+1,[],h=>by simp at h
 | k+1,a::c,h=>by rw [cut1_cons,cut1_take k c (by simpa using h)];rfl
theorem cut_eq:∀ (p k:Nat) (c:List AV),p+k≤c.length→cut p k c=some ((c.drop p).take k)
 | 0,k,c,h=>by rw [cut_zero,cut1_take k c (by omega)];rfl
 | p+1,k,[],h=>by simp at h
 | p+1,k,a::c,h=>by rw [cut_cons,if_neg (by omega),Nat.add_sub_cancel,cut_eq p k c (by simp at h;omega)];rfl
theorem kSlice3_def (x:Arg) (lo:Option Arg) (hi mx:Arg) (L:Env) (s:St):kSlice3 x lo hi mx L s=slice3A (optEv lo L) (hi.ev L) (mx.ev L) s (x.ev L):=rfl
theorem slice3_ok (s:St) (b o n c i j:Nat) (e:Bool) (h:n≤c) (hj:j≤n) (hi:i≤j):slice3A (some (.int .i64 (i:Int))) (.int .i64 (j:Int)) (.int .i64 (n:Int)) s (.slice b o n c e)=.val .bad s:=by
 unfold slice3A
 simp only [Nat.ble_eq_true_of_le h,boundA_nat n n .i64 (Nat.le_refl _),boundA_nat n j .i64 hj]
 show (match boundA j (.int .i64 (i:Int)) with | none=>ARes.fail | some _=>.val .bad s)=_
 rw [boundA_nat j i .i64 hi]
theorem slice_behind (s:St) (b n c j:Nat) (h:n≤c) (hj:j≤n):sliceVal 1 (some (.int .i64 (j:Int))) none s (.slice b 0 n c false)=.val (if c=j then .slice b 0 (n - j) 0 false else .slice b j (n - j) (c - j) false) s:=by
 unfold sliceVal
 have e1:boundsA n c (some (.int .i64 (j:Int))) none=some (j,n):=by
  unfold boundsA
  show (match boundA n (.int .i64 (j:Int)) with | none=>none | some l=>some (l,n))=_
  rw [show boundA n (.int .i64 (j:Int))=some j from boundA_nat n j .i64 hj]
 simp only [Nat.ble_eq_true_of_le h,e1]
 by_cases hc:c=j
 ·subst hc
  rw [if_pos rfl,Nat.beq_refl]
  rfl
 ·rw [if_neg hc,nbeq_f hc]
  simp
def ints' (l:List Nat):List AV:=l.map fun (x:Nat)=>AV.int .i64 (x:Int)
structure LeftAt (h:Heap) (n b:Nat) (l:List Nat) (c:Nat) (v:AV):Prop where
 v:v=.slice b 0 l.length c false
 le:l.length≤c
 lt:b<n
 get:∃ rest,rest.length=c - l.length∧h.get b=some (.cells (ints' l++rest) 0)
theorem ints'_len (l:List Nat):(ints' l).length=l.length:=List.length_map ..
theorem append_part {s:St} {b i j n c:Nat} {C:List AV} {sz:Nat} {x:AV} (hg:s.h.get b=some (.cells C sz)) (hC:C.length=c) (hn:n≤c) (hj:j≤n) (hi:i≤j) (hx:x=if c=j then .slice b 0 (n - j) 0 false else .slice b j (n - j) (c - j) false) (hs:scalars ((C.drop j).take (n - j))=true) :
  appendA false 1 8 (tag 3) s (.slice b 0 i c false) x=.val (.slice b 0 (i+(n - j)) c false) (s.put b (.cells (C.take i++((C.drop j).take (n - j)++C.drop (i+(n - j)))) sz)):=by
 have hl:((C.drop j).take (n - j)).length=n - j:=by rw [List.length_take,List.length_drop];omega
 have e1:lenA x=some (n - j):=by subst hx;split<;>rfl
 have e2:firstA 1 (n - j) s x=some ((C.drop j).take (n - j)):=by
  subst hx
  split
  ·have:n - j=0:=by omega
   show (match s.h.get b with | some (.cells c _)=>cut 0 ((n - j) * 1) c | some (.fam c _ k _)=>cut 0 ((n - j) * 1) (c.take k) | _=>none)=_
   rw [hg,this]
   simp only [Nat.zero_mul]
   rw [cut_eq 0 0 C (by omega)]
   rfl
  ·show (match s.h.get b with | some (.cells c _)=>cut j ((n - j) * 1) c | some (.fam c _ k _)=>cut j ((n - j) * 1) (c.take k) | _=>none)=_
   rw [hg]
   simp only [Nat.mul_one]
   rw [cut_eq j (n - j) C (by omega)]
 have e3:over (0+i * 1) ((C.drop j).take (n - j)) C=some (C.take i++((C.drop j).take (n - j)++C.drop (i+(n - j)))):=by
  rw [Nat.zero_add,Nat.mul_one,over_eq i _ C (by rw [hl];omega),hl]
 unfold appendA
 simp only [e1,e2,hl,Nat.mul_one,Nat.beq_refl,hs]
 unfold growA
 simp only [hg,Nat.ble_eq_true_of_le (show i+(n - j)≤c by omega),e3]
theorem clear_one {s:St} {b p cap:Nat} {C:List AV} {sz:Nat} (hg:s.h.get b=some (.cells C sz)) (hp:p+1≤C.length) :
  clearA [.int .i64 0] s (.slice b p 1 cap false)=.val .undef (s.put b (.cells (C.take p++(.int .i64 0::C.drop (p+1))) sz)):=by
 have e:over p (zerosA [.int .i64 0] 1) C=some (C.take p++(.int .i64 0::C.drop (p+1))):=over_eq p [.int .i64 0] C hp
 show (match Nat.beq 1 0 with | true=>ARes.val .undef s | false=>match scalars (zerosA [.int .i64 0] 1) with | false=>.fail | true=>match s.h.get b with | some (.cells c sz)=>(match over p (zerosA [.int .i64 0] 1) c with | some c=>.val .undef (s.put b (.cells c sz)) | none=>.fail) | _=>.fail)=_
 simp only [hg,e]
 rfl
end Go.Abs
namespace Go.Proofs.Ytofkfgfbibolcaa.walk
open Go.Abs Go.Proofs.Ytofkfgfbibolcaa.code
theorem ints'_scalars (l:List Nat) (k j:Nat) (rest:List AV) (h:j+k≤l.length):scalars (((ints' l++rest).drop j).take k)=true:=by
 have e:((ints' l++rest).drop j).take k=ints' ((l.drop j).take k):=by
  unfold ints'
  rw [List.drop_append_of_le_length (by rw [List.length_map];omega),List.take_append_of_le_length (by rw [List.length_drop,List.length_map];omega),← List.map_drop,← List.map_take]
 rw [e]
 unfold ints'
 generalize (l.drop j).take k=m
 induction m with
 | nil=>rfl
 | cons a m ih=>exact ih
end Go.Proofs.Ytofkfgfbibolcaa.walk
set_option maxRecDepth 10000
namespace Go.Proofs.Ytofkfgfbibolcaa.walk
open Go.Abs Go.Proofs.Ytofkfgfbibolcaa.code
theorem erase_cells (l:List Nat) (rest:List AV) {i:Nat} (hi:i<l.length) :
  (ints' l++rest).take i++(((ints' l++rest).drop (i+1)).take (l.length - (i+1))++(ints' l++rest).drop (i+(l.length - (i+1))))=ints' (l.eraseIdx i)++(ints' l++rest).drop (l.length - 1):=by
 have hl:=ints'_len l
 rw [List.take_append_of_le_length (by omega),List.drop_append_of_le_length (by omega),List.take_append_of_le_length (by rw [List.length_drop];omega),List.take_of_length_le (l:=(ints' l).drop (i+1)) (by rw [List.length_drop];omega),show i+(l.length - (i+1))=l.length - 1 by omega,← List.append_assoc]
 congr 1
 rw [List.eraseIdx_eq_take_drop_succ]
 unfold ints'
 rw [List.map_append,List.map_take,List.map_drop]
theorem Delete_ex {N b c i:Nat} {l:List Nat} {v:AV} {s:St} {r:ARes} (hr:call Try.prog X N (.fn 18) [v,.int .i64 (i:Int),.int .i64 ((i:Int)+1)] s=r) (hN:1≤N) (hL:LeftAt s.h s.n b l c v) (hi:i<l.length) (hl:l.length≤1000) (hs:s.n+100≤far) :
  ∃ v' t,r=.val v' t∧Grow b s t 0∧LeftAt t.h t.n b (l.eraseIdx i) c v':=by
 obtain ⟨n,rfl⟩:∃ n,N=n+1:=⟨N - 1,by omega⟩
 have hf:far=1000000000:=rfl
 obtain ⟨v',t,e,st,hq⟩:=call_grow (n:=n) (args:=[v,.int .i64 (i:Int),.int .i64 ((i:Int)+1)]) (d:=b) (s:=s) (k:=0) (Q:=fun w h m=>LeftAt h m b (l.eraseIdx i) c w) Try.func18 rfl (fun u uh un um=>by
  rw [← uh,← un] at hL
  obtain ⟨hv,hle,hlt,rest,hrl,hg⟩:=hL
  subst hv
  have hel:=List.length_eraseIdx_of_lt hi
  have il:=ints'_len l
  have cl:(ints' l++rest).length=c:=by rw [List.length_append];omega
  have e0:decide ((i:Int)=(i:Int)+1)=false:=decide_eq_false (by omega)
  have i1:((i:Int)+1)=((i+1:Nat):Int):=by omega
  have s3:∀ s,slice3A (some (.int .i64 (i:Int))) (.int .i64 ((i+1:Nat):Int)) (.int .i64 (l.length:Int)) s (.slice b 0 l.length c false)=.val .bad s:=fun s=>slice3_ok s b 0 l.length c i (i+1) false hle (by omega) (by omega)
  have s1:∀ s,sliceVal 1 none (some (.int .i64 (i:Int))) s (.slice b 0 l.length c false)=.val (.slice b 0 i c false) s:=fun s=>slice_to 1 s b 0 l.length c i false hle (by omega) (by omega)
  obtain ⟨x,hx⟩:∃ x:AV,x=if c=i+1 then .slice b 0 (l.length - (i+1)) 0 false else .slice b (i+1) (l.length - (i+1)) (c - (i+1)) false:=⟨_,rfl⟩
  have s2:∀ s,sliceVal 1 (some (.int .i64 ((i+1:Nat):Int))) none s (.slice b 0 l.length c false)=.val x s:=fun s=>by rw [hx];exact slice_behind s b l.length c (i+1) hle (by omega)
  obtain ⟨C1,hC1⟩:∃ C1,C1=ints' (l.eraseIdx i)++(ints' l++rest).drop (l.length - 1):=⟨_,rfl⟩
  have ap:appendA false 1 8 (tag 3) u (.slice b 0 i c false) x=.val (.slice b 0 (l.length - 1) c false) (u.put b (.cells C1 0)):=by
   have:=append_part (i:=i) (j:=i+1) (n:=l.length) hg cl hle (by omega) (by omega) hx (ints'_scalars l _ _ rest (by omega))
   rw [erase_cells l rest hi,show i+(l.length - (i+1))=l.length - 1 by omega,← hC1] at this
   exact this
  have c1l:C1.length=c:=by rw [hC1,List.length_append,ints'_len,List.length_drop];omega
  have g1:(u.put b (.cells C1 0)).h.get b=some (.cells C1 0):=get_put_eq _ _ _ _ rfl (by omega)
  have s4:∀ s,sliceVal 1 (some (.int .i64 ((l.length - 1:Nat):Int))) (some (.int .i64 (l.length:Int))) s (.slice b 0 (l.length - 1) c false)=.val (.slice b (l.length - 1) 1 (c - (l.length - 1)) false) s:=fun s=>by
   unfold sliceVal
   have e1:boundsA (l.length - 1) c (some (.int .i64 ((l.length - 1:Nat):Int))) (some (.int .i64 (l.length:Int)))=some (l.length - 1,l.length):=by
    unfold boundsA
    rw [show hiA (l.length - 1) c (some (.int .i64 (l.length:Int)))=some l.length from boundA_nat c l.length .i64 hle]
    show (match boundA l.length (.int .i64 ((l.length - 1:Nat):Int)) with | none=>none | some x=>some (x,l.length))=_
    rw [boundA_nat l.length (l.length - 1) .i64 (by omega)]
   simp only [Nat.ble_eq_true_of_le (show l.length - 1≤c by omega),e1]
   rw [nbeq_f (show c≠l.length - 1 by omega)]
   simp only [Nat.mul_one,Nat.zero_add]
   congr 2
   omega
  have cr:=clear_one (s:=u.put b (.cells C1 0)) (cap:=c - (l.length - 1)) g1 (show l.length - 1+1≤C1.length by omega)
  have lenv:∀ (s:St) (m k:Nat),lenSlA s (.slice b 0 m k false)=.val (.int .i64 (m:Int)) s:=fun _ _ _=>rfl
  rw [enter18,i1]
  rw [i1] at e0
  simp (disch:=first|omega|(with_unfolding_all exact rfl)|(simp only[new_n,put_n,new_m];omega)|(refine put_m_le ?_;simp only[new_m];omega)) only [res18,K18r0,K18r1,K18r2,K18r3,K18r4,K18r5,K18r6,K18r7,K18,Abs.W,reduceIte,Nat.reduceEqDiff,Nat.reduceAdd,decide_true,decide_false,kLoop_def,Nat.reduceSub,List.cons_append,List.nil_append,List.append_nil,List.length_cons,List.length_nil,Env.find_set,Nat.zero_add,kSlice3_def,kSlice_def,optEv_some,optEv_none,lenv,s3,e0,s1,s2,ap,s4,cr]
  have tk:C1.take (l.length - 1)=ints' (l.eraseIdx i):=by
   rw [hC1,List.take_append_of_le_length (by rw [ints'_len];omega),List.take_of_length_le (by rw [ints'_len];omega)]
  refine ⟨_,_,rfl,⟨fun d hd hdb=>by rw [get_put_ne' _ _ _ _ hdb,get_put_ne' _ _ _ _ hdb],Nat.le_refl _,Nat.le_refl _,fun x h1 h2 h3=>by simp only [St.put,minN_eq];omega,by simp only [St.put,minN_eq];omega⟩,⟨by rw [hel],by omega,hlt,.int .i64 0::C1.drop (l.length - 1+1),by rw [List.length_cons,List.length_drop];omega,?_⟩,fun hp=>by cases hp⟩
  ·rw [get_put_eq _ _ _ _ rfl (by omega),tk]) (by omega)
 exact ⟨v',t,hr.symm.trans e,st,hq⟩
end Go.Proofs.Ytofkfgfbibolcaa.walk
set_option maxRecDepth 10000
namespace Go.Proofs.Ytofkfgfbibolcaa.walk
open Go.Abs Go.Proofs.Ytofkfgfbibolcaa.code
theorem zeros1:∀ n:Nat,zerosA [AV.int .i64 0] n=List.replicate n (.int .i64 0)
 | 0=>rfl
 | n+1=>by
  show AV.int .i64 0::zerosA [AV.int .i64 0] n=_
  rw [zeros1 n,List.replicate_succ]
theorem fill_step (n i:Nat) (hi:i<n):over i [.int .i64 (i:Int)] (ints' (List.range i)++List.replicate (n - i) (.int .i64 0))=some (ints' (List.range (i+1))++List.replicate (n - (i+1)) (.int .i64 0)):=by
 have il:(ints' (List.range i)).length=i:=by rw [ints'_len,List.length_range]
 rw [over_eq i _ _ (by rw [List.length_append,il,List.length_replicate];show i+1≤_;omega)]
 have e1:(ints' (List.range i)++List.replicate (n - i) (AV.int .i64 0)).take i=ints' (List.range i):=by
  rw [List.take_append_of_le_length (by omega),List.take_of_length_le (by omega)]
 have e2:(ints' (List.range i)++List.replicate (n - i) (AV.int .i64 0)).drop (i+[AV.int .i64 (i:Int)].length)=List.replicate (n - (i+1)) (.int .i64 0):=by
  show (ints' (List.range i)++List.replicate (n - i) (AV.int .i64 0)).drop (i+1)=_
  rw [List.drop_append,List.drop_of_length_le (by omega),il,List.nil_append,List.drop_replicate]
  congr 1
  omega
 rw [e1,e2,List.range_succ]
 unfold ints'
 rw [List.map_append,List.append_assoc]
 rfl
theorem fill_loop (N:Nat) {cx:Ctx} {n b9:Nat} {w:St} {L:Env} {r:R} (hr:loopN K7l0 rounds (call Try.prog X N) cx L [] w=r) (hn:n≤40) (hb:b9<w.n) (hg:w.h.get b9=some (.cells (List.replicate n (.int .i64 0)) 0)) (hs:w.n+1000≤far) (hm:w.m≤far) (q9:L.find 9=.slice b9 0 n n false) (q33:L.find 33=.int .i64 (n:Int)) (q34:L.find 34=.int .i64 (0:Nat)) :
  ∃ L1 t,r=.done (.exit 0) L1 [] t∧t.h.get b9=some (.cells (ints' (List.range n)) 0)∧t.n=w.n∧(∀ c,c≠b9→t.h.get c=w.h.get c)∧(∀ k,k≤b9→k≤w.m→k≤t.m)∧t.m≤w.m∧∀ c,c<10→L1.find c=L.find c:=by
 have hf:far=1000000000:=rfl
 obtain ⟨e,L1,t,rfl,rfl,h1,h2,h3,h4,h5,h6⟩:=loop_of hr (fun i L' t'=>L'.find 34=.int .i64 (i:Int)∧L'.find 33=.int .i64 (n:Int)∧t'.h.get b9=some (.cells (ints' (List.range i)++List.replicate (n - i) (.int .i64 0)) 0)∧t'.n=w.n∧(∀ c,c≠b9→t'.h.get c=w.h.get c)∧(∀ k,k≤b9→k≤w.m→k≤t'.m)∧t'.m≤w.m∧∀ c,c<10→L'.find c=L.find c)
  (fun e L' t'=>e=.exit 0∧t'.h.get b9=some (.cells (ints' (List.range n)) 0)∧t'.n=w.n∧(∀ c,c≠b9→t'.h.get c=w.h.get c)∧(∀ k,k≤b9→k≤w.m→k≤t'.m)∧t'.m≤w.m∧∀ c,c<10→L'.find c=L.find c) n (by unfold rounds;omega)
  ⟨q34,q33,hg,rfl,fun _ _=>rfl,fun _ _ h=>h,Nat.le_refl _,fun _ _=>rfl⟩
  (fun i L' t' hi ⟨p34,p33,pg,pn,ps,pm,pl,g⟩=>by
   have p9:=(g 9 (by omega)).trans q9
   by_cases hlt:i<n
   ·have e0:decide ((i:Int)<(n:Int))=true:=decide_eq_true (by omega)
    have ix:∀ s,ixsA 1 s (.slice b9 0 n n false) (.int .i64 (i:Int))=.val (.ptr b9 i) s:=fun s=>by rw [ixs_slice _ _ _ _ _ _ _ _ hlt,Nat.zero_add,Nat.mul_one]
    have ov:=fill_step n i hlt
    have ad:∀ s,aAdd s .i64 (i:Int) 1=.val (.int .i64 ((i:Int)+1)) s:=fun s=>aAdd_i64 s _ _ (by omega)
    refine .inl ⟨hlt,_,_,by
     simp (disch:=first|omega|(with_unfolding_all exact rfl)|(simp only[new_n,put_n,new_m];omega)|(refine put_m_le ?_;simp only[new_m];omega)) only [res7,K7r0,K7r1,K7r2,K7r3,K7r4,K7r5,K7r6,K7r7,K7r8,K7r9,K7r10,K7r11,K7r12,K7r13,K7r14,K7r15,K7r16,K7r17,K7r18,K7,K7l0,Abs.W,reduceIte,Nat.reduceEqDiff,Nat.reduceAdd,decide_true,decide_false,kLoop_def,Nat.reduceSub,List.cons_append,List.nil_append,List.append_nil,List.length_cons,List.length_nil,Env.find_set,Nat.zero_add,Nat.add_zero,p9,p33,p34,e0,ix,pg,ov,ad]
     rfl,?_,?_,get_put_eq _ _ _ _ rfl (by omega),pn,fun c hc=>(get_put_ne' _ _ _ _ hc).trans (ps c hc),fun k h1 h2=>?_,?_,fun c hc=>?_⟩
    ·simp only [Env.find_set,reduceIte,Nat.reduceEqDiff];rfl
    ·simp only [Env.find_set,p33,reduceIte,Nat.reduceEqDiff]
    ·have:=pm k h1 h2
     simp only [St.put,minN_eq];omega
    ·simp only [St.put,minN_eq];omega
    ·simp only [Env.find_set]
     rw [if_neg (by omega),if_neg (by omega),if_neg (by omega)]
     exact g c hc
   ·obtain rfl:i=n:=by omega
    have e0:decide ((i:Int)<(i:Int))=false:=by simp
    rw [Nat.sub_self,List.replicate_zero,List.append_nil] at pg
    refine .inr ⟨.exit 0,L'.set 35 (.bool false),t',by simp,?_,rfl,pg,pn,ps,pm,pl,fun c hc=>?_⟩
    ·simp (disch:=first|omega|(with_unfolding_all exact rfl)|(simp only[new_n,put_n,new_m];omega)|(refine put_m_le ?_;simp only[new_m];omega)) only [res7,K7r0,K7r1,K7r2,K7r3,K7r4,K7r5,K7r6,K7r7,K7r8,K7r9,K7r10,K7r11,K7r12,K7r13,K7r14,K7r15,K7r16,K7r17,K7r18,K7,K7l0,Abs.W,reduceIte,Nat.reduceEqDiff,Nat.reduceAdd,decide_true,decide_false,kLoop_def,Nat.reduceSub,List.cons_append,List.nil_append,List.append_nil,List.length_cons,List.length_nil,Env.find_set,p33,p34,e0]
    ·simp only [Env.find_set]
     rw [if_neg (by omega)]
     exact g c hc)
 exact ⟨L1,t,rfl,h1,h2,h3,h4,h5,h6⟩
end Go.Proofs.Ytofkfgfbibolcaa.walk
set_option maxRecDepth 10000
namespace Go.Abs
theorem aQuo_nat (s:St) (a b:Nat) (hb:b≠0) (h:a≤9223372036854775807):aQuo s .i64 (a:Int) (b:Int)=.val (.int .i64 ((a / b:Nat):Int)) s:=by
 unfold aQuo
 rw [if_neg (by omega)]
 have e:((a:Int).tdiv (b:Int))=((a / b:Nat):Int):=rfl
 have h1:=Nat.div_le_self a b
 rw [e,wrapA_eq]
 generalize a / b=q at *
 rw [IntWalk.i64_in _ (by omega)]
theorem aRem_nat (s:St) (a b:Nat) (hb:b≠0):aRem s .i64 (a:Int) (b:Int)=.val (.int .i64 ((a % b:Nat):Int)) s:=by
 rw [aRem_ne _ _ _ _ (by omega)]
 rfl
theorem nth_ints':∀ (l:List Nat) (rest:List AV) (i:Nat) (hi:i<l.length),nth (ints' l++rest) i=.int .i64 ((l.getD i 0:Nat):Int)
 | [],_,_,h=>by simp at h
 | a::l,rest,0,_=>rfl
 | a::l,rest,i+1,h=>by
  show nth (AV.int .i64 (a:Int)::(ints' l++rest)) (i+1)=_
  rw [nth_cons,if_neg (by omega),Nat.add_sub_cancel,nth_ints' l rest i (by simpa using h)]
  rfl
theorem LeftAt.move {h h':Heap} {n n' b c:Nat} {l:List Nat} {v:AV} (a:LeftAt h n b l c v) (hh:h'.get b=h.get b) (hn:n≤n'):LeftAt h' n' b l c v :=
 ⟨a.v,a.le,by have:=a.lt;omega,by obtain ⟨rest,h1,h2⟩:=a.get;exact ⟨rest,h1,by rw [hh];exact h2⟩⟩
end Go.Abs
namespace Go.Proofs.Ytofkfgfbibolcaa.walk
open Go.Abs Go.Proofs.Ytofkfgfbibolcaa.code
abbrev natRows (l:List Nat):List (List AV):=intRows (l.map Int.ofNat)
theorem natRows_len (l:List Nat):(natRows l).length=l.length:=by rw [intRows_len,List.length_map]
structure PickJ (u t:St) (b9 c:Nat) (l:List Nat) (v9:AV) (ps:List Nat) (v11:AV) (bl kk:Nat):Prop where
 left:LeftAt t.h t.n b9 l c v9
 pk:IsAt t.h t.n bl 1 (tag 3) (natRows ps) v11
 ne:bl≠b9
 lo9:u.n≤b9
 lob:u.n≤bl
 be:Beside u t kk
theorem pick_round (N:Nat) (hN:1≤N) (cx:Ctx) {u t:St} {b9 c bl kk T many j:Nat} {l ps:List Nat} {v9 v11:AV} {L:Env} (J:PickJ u t b9 c l v9 ps v11 bl kk) (hl0:0<l.length) (hl:l.length≤40) (hp:ps.length≤40) (hT:T≤1000000000) (hj:j<many) (hm:many≤40) (hs:u.n+kk+1000≤far)
  (q1:L.find 1=.int .i64 (T:Int)) (q9:L.find 9=v9) (q11:L.find 11=v11) (q42:L.find 42=.int .i64 (many:Int)) (q43:L.find 43=.int .i64 (j:Int)) :
  ∃ L1 t1 v9' v11' bl',K7l1 (call Try.prog X N) cx L [] t=.done .norm L1 [] t1∧PickJ u t1 b9 c (l.eraseIdx (T % l.length)) v9' (ps++[l.getD (T % l.length) 0]) v11' bl' (kk+5)∧L1.find 1=.int .i64 ((T / l.length:Nat):Int)∧L1.find 9=v9'∧L1.find 11=v11'∧L1.find 42=.int .i64 (many:Int)∧L1.find 43=.int .i64 (j+1:Nat):=by
 have hf:far=1000000000:=rfl
 obtain ⟨jl,jp,jne,j9,jb,be⟩:=J
 have tn:=be.n
 have tl:=be.le
 obtain ⟨hv,hle,hlt,rest,hrl,hg⟩:=jl
 have jl:LeftAt t.h t.n b9 l c v9:=⟨hv,hle,hlt,rest,hrl,hg⟩
 have hmod:T % l.length<l.length:=Nat.mod_lt _ hl0
 have lv9:∀ s,lenSlA s v9=.val (.int .i64 (l.length:Int)) s:=fun s=>by rw [hv];rfl
 have ix:∀ s,ixsA 1 s v9 (.int .i64 ((T % l.length:Nat):Int))=.val (.ptr b9 (T % l.length)) s:=fun s=>by rw [hv,ixs_slice _ _ _ _ _ _ _ _ hmod,Nat.zero_add,Nat.mul_one]
 have ld:=nth_ints' l rest _ hmod
 have e0:decide ((j:Int)<(many:Int))=true:=decide_eq_true (by omega)
 have ad:∀ s,aAdd s .i64 (j:Int) 1=.val (.int .i64 ((j:Int)+1)) s:=fun s=>aAdd_i64 s _ _ (by omega)
 have adp:∀ s,aAdd s .i64 ((T % l.length:Nat):Int) 1=.val (.int .i64 (((T % l.length:Nat):Int)+1)) s:=fun s=>aAdd_i64 s _ _ (by omega)
 have rm:∀ s,aRem s .i64 (T:Int) (l.length:Int)=.val (.int .i64 ((T % l.length:Nat):Int)) s:=fun s=>aRem_nat s T l.length (by omega)
 have qu:∀ s,aQuo s .i64 (T:Int) (l.length:Int)=.val (.int .i64 ((T / l.length:Nat):Int)) s:=fun s=>aQuo_nat s T l.length (by omega) (by omega)
 obtain ⟨x,hx⟩:∃ x,x=l.getD (T % l.length) 0:=⟨_,rfl⟩
 rw [← hx] at ld
 obtain ⟨y,hy⟩:∃ y:St,y=t.new (.cells [.int .i64 (x:Int)] 0):=⟨_,rfl⟩
 have yn:y.n=t.n+1:=by rw [hy];rfl
 have ym:y.m=t.m:=by rw [hy];rfl
 have yg:∀ c,c<t.n→y.h.get c=t.h.get c:=fun c hc=>by rw [hy];exact get_new_ne _ _ _ (by omega)
 have yp:y.h.get t.n=some (.cells [.int .i64 (x:Int)] 0):=by rw [hy];exact get_new_eq _ _ _ rfl (by omega)
 obtain ⟨s7,e7,l7,s7n,s7g,s7m,s7l⟩:=append_at (bytes:=8) (jp.mono (h':=y.h) (n':=y.n) (fun h=>yg bl h) (by omega)) yp rfl rfl (by rw [natRows_len];omega) (by kernel_rfl) (by omega)
 rw [natRows_len] at e7 l7
 obtain ⟨v7,hv7⟩:∃ v7,v7=AV.slice y.n 0 (ps.length+1) (ps.length+1) true:=⟨_,rfl⟩
 rw [← hv7] at e7 l7
 rw [hy] at e7
 have kv9:∀ t,okA (.val v9 t)=.val v9 t:=fun t=>by rw [hv];rfl
 simp (disch:=first|omega|(with_unfolding_all exact rfl)|(simp only[new_n,put_n,new_m];omega)|(refine put_m_le ?_;simp only[new_m];omega)) only [res7,K7r0,K7r1,K7r2,K7r3,K7r4,K7r5,K7r6,K7r7,K7r8,K7r9,K7r10,K7r11,K7r12,K7r13,K7r14,K7r15,K7r16,K7r17,K7r18,K7,K7l1,Abs.W,reduceIte,Nat.reduceEqDiff,Nat.reduceAdd,decide_true,decide_false,kLoop_def,Nat.reduceSub,List.cons_append,List.nil_append,List.append_nil,List.length_cons,List.length_nil,Env.find_set,Nat.zero_add,Nat.add_zero,q1,q9,q11,q42,q43,e0,lv9,rm,qu,ix,hg,ld,e7,adp]
 generalize hc:call _ _ _ (.fn 18) _ _=rc
 have hL7:LeftAt s7.h s7.n b9 l c v9:=jl.move ((s7g b9 (by omega) (by omega)).trans (yg b9 (by omega))) (by omega)
 obtain ⟨v9',t2,rfl,st2,hL2⟩:=Delete_ex hc hN hL7 hmod (by omega) (by omega)
 have n2:=st2.n
 have k2:=st2.le
 have bm:=be.m
 have bf:=be.far
 have m7:=s7m u.n (by omega) (by omega) (by omega)
 have kv9':∀ t,okA (.val v9' t)=.val v9' t:=fun t=>by rw [hL2.v];rfl
 have m2:u.n≤t2.m:=st2.m u.n (by omega) (by omega) m7
 simp (disch:=first|omega|(with_unfolding_all exact rfl)|(simp only[new_n,put_n,new_m];omega)|(refine put_m_le ?_;simp only[new_m];omega)) only [res7,K7r0,K7r1,K7r2,K7r3,K7r4,K7r5,K7r6,K7r7,K7r8,K7r9,K7r10,K7r11,K7r12,K7r13,K7r14,K7r15,K7r16,K7r17,K7r18,K7,Abs.W,reduceIte,Nat.reduceEqDiff,Nat.reduceAdd,decide_true,decide_false,kLoop_def,Nat.reduceSub,List.cons_append,List.nil_append,List.append_nil,List.length_cons,List.length_nil,Env.find_set,q43,ad,Nat.zero_add]
 refine ⟨_,t2,v9',v7,y.n,rfl,⟨hL2,?_,by omega,j9,by omega,⟨fun d hd=>?_,by omega,by omega,m2,by have:=st2.mle;omega⟩⟩,?_,?_,?_,?_,?_⟩
 ·have:natRows (ps++[l.getD (T % l.length) 0])=natRows ps++[[.int .i64 (x:Int)]]:=by
   rw [← hx]
   show intRows _=intRows _++_
   rw [List.map_append,← intRows_snoc]
   rfl
  rw [this]
  exact l7.mono (fun _=>st2.same y.n (by omega) (by omega)) n2
 ·rw [st2.same d (by omega) (by omega),s7g d (by omega) (by omega),yg d (by omega)]
  exact be.same d hd
 ·simp only [Env.find_set,reduceIte,Nat.reduceEqDiff]
 ·simp only [Env.find_set,reduceIte,Nat.reduceEqDiff]
 ·simp only [Env.find_set,reduceIte,Nat.reduceEqDiff]
 ·simp only [Env.find_set,q42,reduceIte,Nat.reduceEqDiff]
 ·simp only [Env.find_set,reduceIte,Nat.reduceEqDiff];rfl
end Go.Proofs.Ytofkfgfbibolcaa.walk
