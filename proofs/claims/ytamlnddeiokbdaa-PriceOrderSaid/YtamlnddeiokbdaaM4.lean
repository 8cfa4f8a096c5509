/- Lists that grow; parts of lists; picks. -/
import Derived.Test.YtamlnddeiokbdaaM3
import Derived.Test.YtamlnddeiokbdaaM2
import Derived.Test.YtamlnddeiokbdaaCodes
import Derived.Test.YtamlnddeiokbdaaM1
import Derived.Test.YtamlnddeiokbdaaWalkAll
set_option linter.unusedSimpArgs false
set_option maxHeartbeats 16000000
set_option linter.unusedVariables false
set_option maxRecDepth 10000
namespace Go.Abs
structure IsAt (h:Heap) (n b w tg:Nat) (rows:List (List AV)) (v:AV):Prop where
 wide:∀ r ∈ rows,r.length=w
 is:(rows=[]∧v=.nilslice)∨(rows≠[]∧b<n∧v=.slice b 0 rows.length rows.length true∧h.get b=some (.cells rows.flatten (w+tg)))
theorem IsAt.nil (h:Heap) (n b w tg:Nat):IsAt h n b w tg [] .nilslice:=⟨fun _ hr=>(by cases hr),.inl ⟨rfl,rfl⟩⟩
theorem IsAt.mono {h h':Heap} {n n' b w tg:Nat} {rows:List (List AV)} {v:AV} (r:IsAt h n b w tg rows v) (hh:b<n→h'.get b=h.get b) (hn:n≤n'):IsAt h' n' b w tg rows v :=
 ⟨r.wide,r.is.imp id fun ⟨h1,h2,h3,h4⟩=>⟨h1,by omega,h3,by rw [hh h2];exact h4⟩⟩
theorem IsAt.rows {h:Heap} {n b w tg:Nat} {rows:List (List AV)} {v:AV} (r:IsAt h n b w tg rows v):Rows h 0 n w tg rows v :=
 ⟨r.wide,r.is.imp id fun ⟨_,h2,h3,h4⟩=>⟨b,Nat.zero_le _,h2,h3,h4⟩⟩
theorem IsAt.okA {h:Heap} {n b w tg:Nat} {rows:List (List AV)} {v:AV} (r:IsAt h n b w tg rows v) (t:St):Abs.okA (.val v t)=.val v t:=okA_ne r.rows.at_.ne
theorem IsAt.scal {h:Heap} {n b w tg:Nat} {rows:List (List AV)} {v:AV} (r:IsAt h n b w tg rows v):scalars [v]=true∧cellsOf 1 v=some [v]:=by
 rcases r.is with ⟨_,h2⟩ | ⟨_,_,h3,_⟩
 ·subst h2;exact ⟨rfl,rfl⟩
 ·subst h3;exact ⟨rfl,rfl⟩
theorem append_at {s:St} {b w bytes tg:Nat} {rows:List (List AV)} {v:AV} (r:IsAt s.h s.n b w tg rows v) {p sz:Nat} {row:List AV} (hp:s.h.get p=some (.cells row sz)) (hw:row.length=w) (hsc:scalars row=true)
  (hb:(rows.length+1) * bytes≤1000000) (htg:szOf (w+tg)=w) (hs:s.n<549755813888) :
  ∃ s',appendA false w bytes tg s v (.slice p 0 1 1 false)=.val (.slice s.n 0 (rows.length+1) (rows.length+1) true) s'∧IsAt s'.h s'.n s.n w tg (rows++[row]) (.slice s.n 0 (rows.length+1) (rows.length+1) true)∧s'.n=s.n+1∧(∀ c,c<s.n→c≠b→s'.h.get c=s.h.get c)∧(∀ k,k≤b→k≤s.n→k≤s.m→k≤s'.m)∧s'.m≤s.m:=by
 rcases r.is with ⟨h1,h2⟩ | ⟨h1,h2,h3,h4⟩
 ·obtain ⟨v',s',e1,e2,e3,e4,e5,e6,e7,e8⟩:=append_row (lo:=s.n) (bytes:=bytes) (⟨r.wide,.inl ⟨h1,h2⟩⟩:Rows s.h s.n s.n w tg rows v) hp hw hsc hb htg hs (Nat.le_refl _)
  subst e8
  refine ⟨s',e1,⟨e2.wide,.inr ⟨by simp,by omega,by simp,?_⟩⟩,e3,fun c hc _=>e4 c hc,fun k _ hk hm=>e6 k hk hm,e7⟩
  rcases e2.is with ⟨z,_⟩ | ⟨b',_,_,z2,z3⟩
  ·simp at z
  ·injection z2 with z2
   rw [z2];exact z3
 ·obtain ⟨v',s',e1,e2,e3,e4,e5,e6,e7,e8⟩:=append_row (lo:=b) (bytes:=bytes) (⟨r.wide,.inr ⟨b,Nat.le_refl _,h2,h3,h4⟩⟩:Rows s.h b s.n w tg rows v) hp hw hsc hb htg hs (by omega)
  subst e8
  refine ⟨s',e1,⟨e2.wide,.inr ⟨by simp,by omega,by simp,?_⟩⟩,e3,fun c hc hcb=>e5 c hc (by rw [h3];intro z;injection z with z;exact hcb z.symm),fun k hk _ hm=>e6 k hk hm,e7⟩
  rcases e2.is with ⟨z,_⟩ | ⟨b',_,_,z2,z3⟩
  ·simp at z
  ·injection z2 with z2
   rw [z2];exact z3
theorem kSlice_def (f:Option AV→Option AV→St→AV→ARes) (x:Arg) (lo hi:Option Arg) (L:Env) (s:St):kSlice f x lo hi L s=f (optEv lo L) (optEv hi L) s (x.ev L):=rfl
theorem optEv_some (a:Arg) (L:Env):optEv (some a) L=some (a.ev L):=rfl
theorem optEv_none (L:Env):optEv none L=none:=rfl
theorem boundA_nat (y i:Nat) (k:IntKind) (h:i≤y):boundA y (.int k (i:Int))=some i:=by
 show (match Nat.ble i y with | true=>some i | false=>none)=_
 rw [Nat.ble_eq_true_of_le h]
theorem slice_to (w:Nat) (s:St) (b o n c i:Nat) (e:Bool) (h:n≤c) (hi:i≤c) (hc:0<c):sliceVal w none (some (.int .i64 (i:Int))) s (.slice b o n c e)=.val (.slice b o i c e) s:=by
 have e1:boundsA n c none (some (.int .i64 (i:Int)))=some (0,i):=by
  unfold boundsA hiA loA
  simp only [boundA_nat _ _ _ hi]
 have e2:Nat.beq c 0=false:=nbeq_f (by omega)
 unfold sliceVal
 simp only [Nat.ble_eq_true_of_le h,e1,e2,Nat.zero_mul,Nat.add_zero,Nat.sub_zero]
theorem nth_skip:∀ (a l:List AV) (k:Nat),nth (a++l) (a.length+k)=nth l k
 | [],l,k=>by rw [List.length_nil,Nat.zero_add,List.nil_append]
 | x::a,l,k=>by rw [List.length_cons,List.cons_append,show a.length+1+k=(a.length+k)+1 by omega,nth_cons,if_neg (by omega)];exact nth_skip a l k
end Go.Abs
namespace Go.Proofs.Ytamlnddeiokbdaa.walk
open Go.Abs
def intRows (l:List Int):List (List AV):=l.map fun x=>[.int .i64 x]
theorem intRows_len (l:List Int):(intRows l).length=l.length:=List.length_map ..
def LAt (h:Heap) (n bl:Nat) (l:List Int) (v:AV):Prop:=∃ x,x≠bl∧IsAt h n x 1 (tag 3) (intRows l) v
theorem LAt.nil (h:Heap) (n bl:Nat):LAt h n bl [] .nilslice:=⟨bl+1,by omega,IsAt.nil _ _ _ _ _⟩
theorem LAt.move {h h':Heap} {n n' bl bl':Nat} {l:List Int} {v:AV} (a:LAt h n bl l v) (hh:∀ c,c<n→c≠bl→h'.get c=h.get c) (hn:n≤n') (hb:bl'=bl∨n≤bl'):LAt h' n' bl' l v:=by
 obtain ⟨x,h1,h2⟩:=a
 rcases h2.is with ⟨h3,h4⟩ | ⟨_,h3,_⟩
 ·exact ⟨bl'+1,by omega,h2.wide,.inl ⟨h3,h4⟩⟩
 ·exact ⟨x,by omega,h2.mono (fun _=>hh x h3 h1) hn⟩
theorem LAt.rows {h:Heap} {n bl:Nat} {l:List Int} {v:AV} (a:LAt h n bl l v):RowsAt h n 1 (intRows l) v:=by obtain ⟨x,_,h⟩:=a;exact h.rows.at_
end Go.Proofs.Ytamlnddeiokbdaa.walk
set_option maxRecDepth 10000
namespace Go.Proofs.Ytamlnddeiokbdaa.walk
open Go.Abs Go.Proofs.Ytamlnddeiokbdaa.code
theorem unless_ok (N:Nat) (hN:1≤N) (e:Int) (s:St) (hs:s.n≤far):call Try.prog X N (.fn 72) [.bool true,.int .i64 e] s=.val (.int .i64 0) s:=by
 obtain ⟨n,rfl⟩:∃ n,N=n+1:=⟨N - 1,by omega⟩
 refine call_plain (s':=⟨s.h,s.n,far⟩) Try.func72 ?_ rfl hs
 rw [enter72]
 simp only [res72,K72r0,K72r1,K72r2,K72r3,K72,Abs.W,reduceIte,Nat.reduceEqDiff,Nat.reduceAdd,decide_true,decide_false,kLoop_def,Nat.reduceSub,List.cons_append,List.nil_append,List.append_nil,List.length_cons,List.length_nil]
theorem step_wide (l:List Step):∀ r ∈ l.map Step.cells,r.length=2:=by
 intro r hr
 obtain ⟨f,_,rfl⟩:=List.mem_map.mp hr
 rfl
theorem step_cut {l:List Step} {i:Nat} (hi:i<l.length):cut (i * 2) 2 (l.map Step.cells).flatten=some [.int .i64 (stepAt l i).fr,.int .i64 (stepAt l i).sh]:=by
 rw [flatten_cut (step_wide l) (by simpa using hi),List.getElem_map]
 unfold stepAt
 simp only [List.getD,List.getElem?_eq_getElem hi,Option.getD_some]
 rfl
theorem step_nth {l:List Step} {i:Nat} (hi:i<l.length):nth (l.map Step.cells).flatten (i * 2)=.int .i64 (stepAt l i).fr:=by
 obtain ⟨a,t,z1,z2,z3⟩:=cut_some (step_cut hi)
 rw [z1,← z2,List.append_assoc,← Nat.add_zero a.length,nth_skip]
 rfl
theorem checkFrom_ok {N i b sz:Nat} {l:List Step} {s:St} (hN:2≤N) (ok:StepsOk l) (hi:i<l.length) (hb:s.h.get b=some (.cells (l.map Step.cells).flatten sz)) (hs:s.n+100≤far) :
  call Try.prog X N (.fn 59) [.int .i64 (stepAt l i).fr,.slice b 0 i l.length true] s=.val (.int .i64 0) s:=by
 obtain ⟨n,rfl⟩:∃ n,N=n+1:=⟨N - 1,by omega⟩
 have hf:far=1000000000:=rfl
 refine call_plain' Try.func59 (fun u uh un um=>?_) rfl
 rw [← uh] at hb
 rw [enter59]
 by_cases h0:i=0
 ·subst h0
  have f0:=ok.f0
  have e0:decide (((0:Nat):Int)=0)=true:=rfl
  have e1:decide ((0:Int)=0)=true:=rfl
  rw [f0]
  simp (disch:=first|omega|(with_unfolding_all exact rfl)|(simp only[new_n,put_n,new_m];omega)|(refine put_m_le ?_;simp only[new_m];omega)) only [res59,K59r0,K59r1,K59r2,K59r3,K59,Abs.W,reduceIte,Nat.reduceEqDiff,Nat.reduceAdd,decide_true,decide_false,kLoop_def,Nat.reduceSub,List.cons_append,List.nil_append,List.append_nil,List.length_cons,List.length_nil,Env.find_set,e0,e1,unless_ok]
  exact ⟨_,rfl,by omega⟩
 ·obtain ⟨j,rfl⟩:∃ j,i=j+1:=⟨i - 1,by omega⟩
  have e0:decide (((j+1:Nat):Int)=0)=false:=decide_eq_false (by omega)
  have sb:∀ s,aSub s .i64 ((j+1:Nat):Int) 1=.val (.int .i64 (j:Int)) s:=fun s=>by rw [aSub_i64 s _ _ (by have:=ok.n1;omega)];congr 2;omega
  have ix:∀ s,ixsA 2 s (.slice b 0 (j+1) l.length true) (.int .i64 (j:Int))=.val (.ptr b (j * 2)) s:=fun s=>by rw [ixs_slice _ _ _ _ _ _ _ _ (by omega),Nat.zero_add]
  have nt:=step_nth (l:=l) (i:=j) (by omega)
  have up:=ok.up j hi
  have e1:decide ((stepAt l (j+1)).fr > (stepAt l j).fr)=true:=decide_eq_true up
  have e2:decide ((stepAt l j).fr<(stepAt l (j+1)).fr)=true:=decide_eq_true up
  simp (disch:=first|omega|(with_unfolding_all exact rfl)|(simp only[new_n,put_n,new_m];omega)|(refine put_m_le ?_;simp only[new_m];omega)) only [res59,K59r0,K59r1,K59r2,K59r3,K59,Abs.W,reduceIte,Nat.reduceEqDiff,Nat.reduceAdd,decide_true,decide_false,kLoop_def,Nat.reduceSub,List.cons_append,List.nil_append,List.append_nil,List.length_cons,List.length_nil,Env.find_set,e0,e1,e2,sb,ix,nt,hb,unless_ok,Nat.add_zero]
  exact ⟨_,rfl,by omega⟩
theorem checkSteps_ok {N b sz:Nat} {l:List Step} {s:St} (hN:3≤N) (ok:StepsOk l) (hl:l.length≤5) (hbn:b<s.n) (hb:s.h.get b=some (.cells (l.map Step.cells).flatten sz)) (hs:s.n+1000≤far) :
  call Try.prog X N (.fn 37) [.slice b 0 l.length l.length true] s=.val (.int .i64 0) s:=by
 obtain ⟨n,rfl⟩:∃ n,N=n+1:=⟨N - 1,by omega⟩
 have hf:far=1000000000:=rfl
 refine call_plain' Try.func37 (fun u uh un um=>?_) rfl
 rw [← uh] at hb
 rw [← un] at hbn hs
 have n0:=ok.n0
 have z0:decide ((0:Int)=0)=true:=rfl
 rw [enter37]
 simp (disch:=first|omega|(with_unfolding_all exact rfl)|(simp only[new_n,put_n,new_m];omega)|(refine put_m_le ?_;simp only[new_m];omega)) only [res37,K37r0,K37r1,K37r2,K37r3,K37r4,K37r5,K37r6,K37r7,K37r8,K37r9,K37r10,K37r11,K37,Abs.W,reduceIte,Nat.reduceEqDiff,Nat.reduceAdd,decide_true,decide_false,kLoop_def,Nat.reduceSub,List.cons_append,List.nil_append,List.append_nil,List.length_cons,List.length_nil,Env.find_set,counted_ok,z0]
 generalize hl1:loopN _ rounds _ _ _ _ _=q1
 obtain ⟨e,L1,s1,rfl,rfl,hE⟩:=loop_of hl1
  (fun i L' t=>L'.find 0=.slice b 0 l.length l.length true∧L'.find 13=.slice b 0 l.length l.length true∧L'.find 14=.int .i64 l.length∧L'.find 15=.int .i64 i∧Beside u t (2 * i))
  (fun e L1 s1=>e=.exit 0∧Beside u s1 (2 * l.length))
  l.length (by unfold rounds;omega) ⟨by simp only [find_cons,Env.find_set,reduceIte,Nat.reduceEqDiff],by simp only [find_cons,Env.find_set,reduceIte,Nat.reduceEqDiff],by simp only [find_cons,Env.find_set,reduceIte,Nat.reduceEqDiff],by simp only [find_cons,Env.find_set,reduceIte,Nat.reduceEqDiff];rfl,Beside.refl u (by omega) um⟩
  (fun i L' t hi ⟨q0,q13,q14,q15,hE⟩=>by
   have tn:=hE.n
   have tl:=hE.le
   have tm:=hE.m
   have tf:=hE.far
   by_cases hlt:i<l.length
   ·have e0:decide ((i:Int)<(l.length:Int))=true:=decide_eq_true (by omega)
    have tb:=(hE.same b hbn).trans hb
    have ix:∀ s,ixsA 2 s (.slice b 0 l.length l.length true) (.int .i64 (i:Int))=.val (.ptr b (i * 2)) s:=fun s=>by rw [ixs_slice _ _ _ _ _ _ _ _ hlt,Nat.zero_add]
    have ct:=step_cut hlt
    have f1:=ok.f1 i hlt
    have s0:=ok.s0 i hlt
    have s1:=ok.s1 i hlt
    have sl:=fun s=>slice_to 2 s b 0 l.length l.length i true (Nat.le_refl _) (by omega) (by omega)
    have cf:∀ s:St,s.h.get b=some (.cells (l.map Step.cells).flatten sz)→s.n+100≤far→call Try.prog X n (.fn 59) [.int .i64 (stepAt l i).fr,.slice b 0 i l.length true] s=.val (.int .i64 0) s:=fun s h1 h2=>checkFrom_ok (by omega) ok hlt h1 h2
    have ad:∀ s,aAdd s .i64 (i:Int) 1=.val (.int .i64 ((i:Int)+1)) s:=fun s=>aAdd_i64 s _ _ (by omega)
    obtain ⟨x,hx⟩:∃ x:St,x=(t.new (.cells [.int .i64 0,.int .i64 0] (tag 75))).put t.n (.cells [.int .i64 (stepAt l i).fr,.int .i64 (stepAt l i).sh] (tag 75)):=⟨_,rfl⟩
    have xn:x.n=t.n+1:=by rw [hx];rfl
    have xg:∀ c,c<t.n→x.h.get c=t.h.get c:=fun c hc=>by rw [hx,get_put_ne' _ _ _ _ (by omega),get_new_ne _ _ _ (by omega)]
    have xt:x.h.get t.n=some (.cells [.int .i64 (stepAt l i).fr,.int .i64 (stepAt l i).sh] (tag 75)):=by rw [hx];exact get_put_eq _ _ _ _ rfl (by omega)
    have xm:u.n≤x.m∧x.m≤far:=by rw [hx];simp only [St.put,minN_eq,new_m];omega
    have hX:Beside u x (2 * i+1):=by rw [hx];exact (hE.new _).put _ tn
    have xb:=(xg b (by omega)).trans tb
    refine .inl ⟨hlt,_,_,by
     simp (disch:=first|omega|(with_unfolding_all exact rfl)|(simp only[new_n,put_n,new_m];omega)|(refine put_m_le ?_;simp only[new_m];omega)) only [K37l0,K37r5,K37r6,Abs.W,reduceIte,Nat.reduceEqDiff,Nat.reduceAdd,decide_true,decide_false,kLoop_def,Nat.reduceSub,List.cons_append,List.nil_append,List.append_nil,List.length_cons,List.length_nil,Env.find_set,q0,q13,q14,q15,e0,ix,ct,tb,Nat.zero_add]
     rw [← hx]
     simp (disch:=first|omega|(with_unfolding_all exact rfl)|(simp only[new_n,put_n,new_m];omega)|(refine put_m_le ?_;simp only[new_m];omega)) only [res37,K37r0,K37r1,K37r2,K37r3,K37r4,K37r5,K37r6,K37r7,K37r8,K37r9,K37r10,K37r11,K37,Abs.W,reduceIte,Nat.reduceEqDiff,Nat.reduceAdd,decide_true,decide_false,kLoop_def,Nat.reduceSub,List.cons_append,List.nil_append,List.append_nil,List.length_cons,List.length_nil,Env.find_set,q0,q13,q14,q15,xt,xb,kSlice_def,optEv_some,optEv_none,sl,within_ok,cf,or_new3,z0,ad,endO_nil,Nat.zero_add]
     rfl,?_,?_,?_,?_,?_⟩
    ·simp only [Env.find_set,q0,reduceIte,Nat.reduceEqDiff]
    ·simp only [Env.find_set,q13,reduceIte,Nat.reduceEqDiff]
    ·simp only [Env.find_set,q14,reduceIte,Nat.reduceEqDiff]
    ·simp only [Env.find_set,reduceIte,Nat.reduceEqDiff];rfl
    ·exact (hX.new _).mono (by omega)
   ·obtain rfl:i=l.length:=by omega
    have e0:decide ((l.length:Int)<(l.length:Int))=false:=by simp
    refine .inr ⟨.exit 0,L'.set 16 (.bool false),t,by simp,?_,rfl,hE⟩
    simp (disch:=first|omega|(with_unfolding_all exact rfl)|(simp only[new_n,put_n,new_m];omega)|(refine put_m_le ?_;simp only[new_m];omega)) only [K37l0,K37r5,Abs.W,reduceIte,Nat.reduceEqDiff,Nat.reduceAdd,decide_true,decide_false,kLoop_def,Nat.reduceSub,List.cons_append,List.nil_append,List.append_nil,List.length_cons,List.length_nil,Env.find_set,q14,q15,e0])
 simp (disch:=first|omega|(with_unfolding_all exact rfl)|(simp only[new_n,put_n,new_m];omega)|(refine put_m_le ?_;simp only[new_m];omega)) only [res37,K37r0,K37r1,K37r2,K37r3,K37r4,K37r5,K37r6,K37r7,K37r8,K37r9,K37r10,K37r11,K37,Abs.W,reduceIte,Nat.reduceEqDiff,Nat.reduceAdd,decide_true,decide_false,kLoop_def,Nat.reduceSub,List.cons_append,List.nil_append,List.append_nil,List.length_cons,List.length_nil,Env.find_set]
 refine ⟨s1,rfl,?_⟩
 have:=hE.m
 omega
theorem due_ok {N b sz:Nat} {l:List Step} {x:Int} {s:St} (hN:1≤N) (ok:StepsOk l) (hx:0≤x∧x≤1000000000) (hbn:b<s.n) (hb:s.h.get b=some (.cells (l.map Step.cells).flatten sz)) (hs:s.n+1000≤far) :
  call Try.prog X N (.fn 40) [.int .i64 x,.slice b 0 l.length l.length true] s=.val (.int .i64 (dueI l x)) s:=by
 obtain ⟨n,rfl⟩:∃ n,N=n+1:=⟨N - 1,by omega⟩
 have hf:far=1000000000:=rfl
 refine call_plain' Try.func40 (fun u uh un um=>?_) rfl
 rw [← uh] at hb
 rw [← un] at hbn hs
 have n0:=ok.n0
 have n1:=ok.n1
 rw [enter40]
 simp (disch:=first|omega|(with_unfolding_all exact rfl)|(simp only[new_n,put_n,new_m];omega)|(refine put_m_le ?_;simp only[new_m];omega)) only [res40,K40r0,K40r1,K40r2,K40r3,K40r4,K40r5,K40r6,K40r7,K40r8,K40r9,K40r10,K40,Abs.W,reduceIte,Nat.reduceEqDiff,Nat.reduceAdd,decide_true,decide_false,kLoop_def,Nat.reduceSub,List.cons_append,List.nil_append,List.append_nil,List.length_cons,List.length_nil,Env.find_set]
 generalize hl1:loopN _ rounds _ _ _ _ _=q1
 obtain ⟨e,L1,s1,rfl,rfl,hq,hE⟩:=loop_of hl1
  (fun i L' t=>L'.find 0=.int .i64 x∧L'.find 1=.slice b 0 l.length l.length true∧L'.find 5=.int .i64 (shareTo l x i)∧L'.find 9=.slice b 0 l.length l.length true∧L'.find 10=.int .i64 l.length∧L'.find 11=.int .i64 i∧Beside u t (1 * i))
  (fun e L1 s1=>e=.exit 0∧L1.find 5=.int .i64 (shareTo l x l.length)∧Beside u s1 (1 * l.length))
  l.length (by unfold rounds;omega) ⟨by simp only [find_cons,Env.find_set,reduceIte,Nat.reduceEqDiff],by simp only [find_cons,Env.find_set,reduceIte,Nat.reduceEqDiff],by simp only [find_cons,Env.find_set,reduceIte,Nat.reduceEqDiff];rfl,by simp only [find_cons,Env.find_set,reduceIte,Nat.reduceEqDiff],by simp only [find_cons,Env.find_set,reduceIte,Nat.reduceEqDiff],by simp only [find_cons,Env.find_set,reduceIte,Nat.reduceEqDiff];rfl,Beside.refl u (by omega) um⟩
  (fun i L' t hi ⟨q0,q1,q5,q9,q10,q11,hE⟩=>by
   have tn:=hE.n
   have tl:=hE.le
   have tm:=hE.m
   have tf:=hE.far
   by_cases hlt:i<l.length
   ·have e0:decide ((i:Int)<(l.length:Int))=true:=decide_eq_true (by omega)
    have tb:=(hE.same b hbn).trans hb
    have ix:∀ s,ixsA 2 s (.slice b 0 l.length l.length true) (.int .i64 (i:Int))=.val (.ptr b (i * 2)) s:=fun s=>by rw [ixs_slice _ _ _ _ _ _ _ _ hlt,Nat.zero_add]
    have ct:=step_cut hlt
    have f1:=ok.f1 i hlt
    have s0:=ok.s0 i hlt
    have s1:=ok.s1 i hlt
    have ad:∀ s,aAdd s .i64 (i:Int) 1=.val (.int .i64 ((i+1:Nat):Int)) s:=fun s=>by rw [aAdd_i64 s _ _ (by omega)];rfl
    obtain ⟨y,hy⟩:∃ y:St,y=(t.new (.cells [.int .i64 0,.int .i64 0] (tag 75))).put t.n (.cells [.int .i64 (stepAt l i).fr,.int .i64 (stepAt l i).sh] (tag 75)):=⟨_,rfl⟩
    have yn:y.n=t.n+1:=by rw [hy];rfl
    have yg:∀ c,c<t.n→y.h.get c=t.h.get c:=fun c hc=>by rw [hy,get_put_ne' _ _ _ _ (by omega),get_new_ne _ _ _ (by omega)]
    have yt:y.h.get t.n=some (.cells [.int .i64 (stepAt l i).fr,.int .i64 (stepAt l i).sh] (tag 75)):=by rw [hy];exact get_put_eq _ _ _ _ rfl (by omega)
    have hY:Beside u y (1 * (i+1)):=by rw [hy];exact ((hE.new _).put _ tn).mono (by omega)
    have yb:=(yg b (by omega)).trans tb
    obtain ⟨r0,r1⟩:=share_range ok hx.1 i (by omega)
    obtain ⟨r2,r3⟩:=share_range ok hx.1 (i+1) (by omega)
    have hS:shareTo l x (i+1)=shareTo l x i+partI l x i:=rfl
    have up0:0≤upTo l x i∧upTo l x i≤x:=by
     unfold upTo
     by_cases h:i+1<l.length
     ·have:=ok.f1 (i+1) h
      rw [if_pos h];omega
     ·rw [if_neg h];omega
    have sb:∀ s,aSub s .i64 (upTo l x i) (stepAt l i).fr=.val (.int .i64 (upTo l x i - (stepAt l i).fr)) s:=fun s=>aSub_i64 s _ _ (by omega)
    have hP:partI l x i=max 0 (upTo l x i - (stepAt l i).fr) * (stepAt l i).sh:=rfl
    have mu:∀ s,aMul s .i64 (max 0 (upTo l x i - (stepAt l i).fr)) (stepAt l i).sh=.val (.int .i64 (partI l x i)) s:=fun s=>by
     rw [aMul_def,wrapA_eq]
     congr 2
     exact IntWalk.i64_in _ (by show -9223372036854775808≤partI l x i∧partI l x i≤9223372036854775807;omega)
    have ad2:∀ s,aAdd s .i64 (shareTo l x i) (partI l x i)=.val (.int .i64 (shareTo l x (i+1))) s:=fun s=>aAdd_i64 s _ _ (by omega)
    suffices hgo:∃ L1,K40l0 (call Try.prog X n) ⟨40,none,Try.f40.ntmps,X 40⟩ L' [] t=.done .norm L1 [] y∧(L1.find 0=.int .i64 x∧L1.find 1=.slice b 0 l.length l.length true∧L1.find 5=.int .i64 (shareTo l x (i+1))∧L1.find 9=.slice b 0 l.length l.length true∧L1.find 10=.int .i64 l.length∧L1.find 11=.int .i64 ((i+1:Nat):Int)) from by
     obtain ⟨L9,z1,z2,z3,z4,z5,z6,z7⟩:=hgo
     exact .inl ⟨hlt,L9,y,z1,z2,z3,z4,z5,z6,z7,hY⟩
    simp (disch:=first|omega|(with_unfolding_all exact rfl)|(simp only[new_n,put_n,new_m];omega)|(refine put_m_le ?_;simp only[new_m];omega)) only [K40l0,K40r3,K40r4,K40r5,Abs.W,reduceIte,Nat.reduceEqDiff,Nat.reduceAdd,decide_true,decide_false,kLoop_def,Nat.reduceSub,List.cons_append,List.nil_append,List.append_nil,List.length_cons,List.length_nil,Env.find_set,q0,q1,q5,q9,q10,q11,e0,ix,ct,tb,Nat.zero_add]
    rw [← hy]
    by_cases h:i+1<l.length
    ·have e1:decide (((i+1:Nat):Int)<(l.length:Int))=true:=decide_eq_true (by omega)
     have hU:min x (stepAt l (i+1)).fr=upTo l x i:=by unfold upTo;rw [if_pos h]
     have ix1:∀ s,ixsA 2 s (.slice b 0 l.length l.length true) (.int .i64 ((i+1:Nat):Int))=.val (.ptr b ((i+1) * 2)) s:=fun s=>by rw [ixs_slice _ _ _ _ _ _ _ _ h,Nat.zero_add]
     have nt:=step_nth (l:=l) (i:=i+1) h
     simp (disch:=first|omega|(with_unfolding_all exact rfl)|(simp only[new_n,put_n,new_m];omega)|(refine put_m_le ?_;simp only[new_m];omega)) only [res40,K40r0,K40r1,K40r2,K40r3,K40r4,K40r5,K40r6,K40r7,K40r8,K40r9,K40r10,K40,Abs.W,reduceIte,Nat.reduceEqDiff,Nat.reduceAdd,decide_true,decide_false,kLoop_def,Nat.reduceSub,List.cons_append,List.nil_append,List.append_nil,List.length_cons,List.length_nil,Env.find_set,q0,q1,q5,q9,q10,q11,yt,yb,e1,ad,ix1,nt,kFold_def,foldA_nil,foldA_cons,minA_i64,maxA_i64,hU,sb,mu,ad2,Nat.zero_add,Nat.add_zero]
     refine ⟨_,rfl,?_,?_,?_,?_,?_,?_⟩<;>simp only [Env.find_set,q0,q1,q9,q10,reduceIte,Nat.reduceEqDiff]
    ·have e1:decide (((i+1:Nat):Int)<(l.length:Int))=false:=decide_eq_false (by omega)
     have hU:x=upTo l x i:=by unfold upTo;rw [if_neg h]
     have sb:∀ s,aSub s .i64 x (stepAt l i).fr=.val (.int .i64 (upTo l x i - (stepAt l i).fr)) s:=fun s=>by have:=sb s;rw [← hU] at this ⊢;exact this
     simp (disch:=first|omega|(with_unfolding_all exact rfl)|(simp only[new_n,put_n,new_m];omega)|(refine put_m_le ?_;simp only[new_m];omega)) only [res40,K40r0,K40r1,K40r2,K40r3,K40r4,K40r5,K40r6,K40r7,K40r8,K40r9,K40r10,K40,Abs.W,reduceIte,Nat.reduceEqDiff,Nat.reduceAdd,decide_true,decide_false,kLoop_def,Nat.reduceSub,List.cons_append,List.nil_append,List.append_nil,List.length_cons,List.length_nil,Env.find_set,q0,q1,q5,q9,q10,q11,yt,yb,e1,ad,kFold_def,foldA_nil,foldA_cons,minA_i64,maxA_i64,sb,mu,ad2,Nat.zero_add]
     refine ⟨_,rfl,?_,?_,?_,?_,?_,?_⟩<;>simp only [Env.find_set,q0,q1,q9,q10,reduceIte,Nat.reduceEqDiff]
   ·obtain rfl:i=l.length:=by omega
    have e0:decide ((l.length:Int)<(l.length:Int))=false:=by simp
    refine .inr ⟨.exit 0,L'.set 12 (.bool false),t,by simp,?_,rfl,by simp only [Env.find_set,q5,reduceIte,Nat.reduceEqDiff],hE⟩
    simp (disch:=first|omega|(with_unfolding_all exact rfl)|(simp only[new_n,put_n,new_m];omega)|(refine put_m_le ?_;simp only[new_m];omega)) only [K40l0,K40r3,Abs.W,reduceIte,Nat.reduceEqDiff,Nat.reduceAdd,decide_true,decide_false,kLoop_def,Nat.reduceSub,List.cons_append,List.nil_append,List.append_nil,List.length_cons,List.length_nil,Env.find_set,q10,q11,e0])
 obtain ⟨r0,r1⟩:=share_range ok hx.1 l.length (Nat.le_refl _)
 have qu:∀ s,aQuo s .i64 (shareTo l x l.length) 1000=.val (.int .i64 (dueI l x)) s:=fun s=>by
  rw [aQuo_ne _ _ _ _ (by decide),wrapA_eq,Int.tdiv_eq_ediv_of_nonneg r0]
  congr 2
  exact IntWalk.i64_in _ (by show -9223372036854775808≤shareTo l x l.length / 1000∧shareTo l x l.length / 1000≤9223372036854775807;omega)
 simp (disch:=first|omega|(with_unfolding_all exact rfl)|(simp only[new_n,put_n,new_m];omega)|(refine put_m_le ?_;simp only[new_m];omega)) only [res40,K40r0,K40r1,K40r2,K40r3,K40r4,K40r5,K40r6,K40r7,K40r8,K40r9,K40r10,K40,Abs.W,reduceIte,Nat.reduceEqDiff,Nat.reduceAdd,decide_true,decide_false,kLoop_def,Nat.reduceSub,List.cons_append,List.nil_append,List.append_nil,List.length_cons,List.length_nil,Env.find_set,hq,qu]
 refine ⟨s1,rfl,?_⟩
 have:=hE.m
 omega
end Go.Proofs.Ytamlnddeiokbdaa.walk
set_option maxRecDepth 10000
namespace Go.Proofs.Ytamlnddeiokbdaa.walk
open Go.Abs Go.Proofs.Ytamlnddeiokbdaa.code
theorem dues1_ok {N p q r sb sz st:Nat} {b:Book} {l:List Step} {v:AV} {s:St} (hi:Bool) (hN:5≤N) (ok:b.Ok) (oks:StepsOk l) (hp:s.h.get p=some (.cells (bookV b v) (tag 27))) (hq:s.h.get q=some (.cells [.int .i64 (st:Int)] (tag 3))) (hr:s.h.get r=some (.cells [.slice sb 0 l.length l.length true] (tag 29))) (hb:s.h.get sb=some (.cells (l.map Step.cells).flatten sz)) (hpn:p<s.n) (hqn:q<s.n) (hrn:r<s.n) (hbn:sb<s.n) (hB:RowsAt s.h s.n 6 (b.sales.map Sale.cells) v) (hs:s.n+6000≤far) :
  call Try.prog X N (.fn 39) (.agg (endV hi)::[.ptr p 0,.ptr q 0,.ptr r 0]) s=.val (.int .i64 (dueI l (turnOf hi b.sales st))) s:=by
 obtain ⟨n,rfl⟩:∃ n,N=n+1:=⟨N - 1,by omega⟩
 have hf:far=1000000000:=rfl
 refine call_plain' Try.func39 (fun u uh un um=>?_) rfl
 rw [← uh] at hp hq hr hb hB
 rw [← un] at hB hpn hqn hrn hbn hs
 have kv:∀ t,okA (.val v t)=.val v t:=fun t=>okA_ne hB.ne
 have scE:scalars (endV hi)=true:=by cases hi<;>rfl
 obtain ⟨w,hw⟩:∃ w:St,w=u.new (.cells (endV hi) (tag 82)):=⟨_,rfl⟩
 have wn:w.n=u.n+1:=by rw [hw];rfl
 have wm:w.m=far:=by rw [hw];exact um
 have wg:∀ c,c<u.n→w.h.get c=u.h.get c:=fun c hc=>by rw [hw,get_new_ne _ _ _ (by omega)]
 have w0:w.h.get u.n=some (.cells [hereV hi,hereV (!hi)] (tag 82)):=by rw [hw];exact get_new_eq _ _ _ rfl (by omega)
 have hR:=hB.grow wg (by omega:u.n≤w.n)
 have w1:=(wg p hpn).trans hp
 have w2:=(wg q hqn).trans hq
 have w3:=(wg r hrn).trans hr
 have w4:=(wg sb hbn).trans hb
 unfold bookV at w1
 rw [enter39]
 simp (disch:=first|omega|(with_unfolding_all exact rfl)|(simp only[new_n,put_n,new_m];omega)|(refine put_m_le ?_;simp only[new_m];omega)) only [K39,K39r0,res39,Abs.W,reduceIte,Nat.reduceEqDiff,Nat.reduceAdd,decide_true,decide_false,kLoop_def,Nat.reduceSub,List.cons_append,List.nil_append,List.append_nil,List.length_cons,List.length_nil,Env.find_set,scE,Nat.zero_add]
 rw [← hw]
 clear hw
 simp (disch:=first|omega|(with_unfolding_all exact rfl)|(simp only[new_n,put_n,new_m];omega)|(refine put_m_le ?_;simp only[new_m];omega)) only [K39r1,Abs.W,reduceIte,Nat.reduceEqDiff,Nat.reduceAdd,decide_true,decide_false,kLoop_def,Nat.reduceSub,List.cons_append,List.nil_append,List.append_nil,List.length_cons,List.length_nil,Env.find_set,w0,w1,kv,Nat.zero_add]
 generalize hc:call _ _ _ (.fn 41) _ _=r1
 obtain ⟨mb,t,rfl,st1,h1,h2,h3⟩:=turnovers_ex hi hc (by omega) ok.ok (hR) (by have:=ok.l;omega) (by show w.n+5000≤far;omega)
 have tm:t.m=far:=st1.m
 have tn:w.n≤t.n:=st1.n
 have tl:t.n≤w.n+1000:=st1.le
 rw [thenT_val _ _ _ _ _ _ _ _ (by omega)]
 have t2:=(st1.same q (by show q<w.n;omega)).trans w2
 have t3:=(st1.same r (by show r<w.n;omega)).trans w3
 have t4:=(st1.same sb (by show sb<w.n;omega)).trans w4
 have lk:∀ m,lookA .int (.int .i64 0) false ⟨t.h,t.n,m⟩ (.int .i64 (st:Int)) (.map mb)=.val (.int .i64 (turnOf hi b.sales st)) ⟨t.h,t.n,m⟩:=fun m=>by rw [look_map (sums hi b.sales) _ mb ⟨t.h,t.n,m⟩ h3,getP_sums]
 have tr:=turnOf_range hi (st:Int) b.sales ok.ok
 have bl:=ok.l
 have du:∀ m,call Try.prog X n (.fn 40) [.int .i64 (turnOf hi b.sales st),.slice sb 0 l.length l.length true] ⟨t.h,t.n,m⟩=.val (.int .i64 (dueI l (turnOf hi b.sales st))) ⟨t.h,t.n,m⟩:=fun m=>due_ok (by omega) oks (by omega) (by show sb<t.n;omega) t4 (by show t.n+1000≤far;omega)
 simp (disch:=first|omega|(with_unfolding_all exact rfl)|(simp only[new_n,put_n,new_m];omega)|(refine put_m_le ?_;simp only[new_m];omega)) only [Abs.W,reduceIte,Nat.reduceEqDiff,Nat.reduceAdd,decide_true,decide_false,kLoop_def,Nat.reduceSub,List.cons_append,List.nil_append,List.append_nil,List.length_cons,List.length_nil,Env.find_set,t2,t3,kLookE,lk,du,endO_nil,Nat.zero_add]
 refine ⟨_,rfl,?_⟩
 first | omega | (simp only [minN_eq];omega)
def dueRow (l:List Step) (sales:List Sale) (st:Nat):List AV:=[.int .i64 (dueI l (turnOf false sales st)),.int .i64 (dueI l (turnOf true sales st))]
def dueRows (l:List Step) (sales:List Sale) (k:Nat):List (List AV):=(List.range k).map (dueRow l sales)
theorem dueRows_snoc (l:List Step) (sales:List Sale) (k:Nat):dueRows l sales (k+1)=dueRows l sales k++[dueRow l sales k]:=by unfold dueRows;rw [List.range_succ,List.map_append];rfl
theorem dueRows_len (l:List Step) (sales:List Sale) (k:Nat):(dueRows l sales k).length=k:=by unfold dueRows;rw [List.length_map,List.length_range]
theorem dueRows_wide (l:List Step) (sales:List Sale) (k:Nat):∀ r ∈ dueRows l sales k,r.length=2:=by
 intro r hr
 obtain ⟨f,_,rfl⟩:=List.mem_map.mp hr
 rfl
theorem Dues_ex {N sb sz:Nat} {b:Book} {l:List Step} {v:AV} {s:St} {r:ARes} (hr:call Try.prog X N (.fn 12) [.agg (bookV b v),.slice sb 0 l.length l.length true] s=r) (hN:8≤N) (ok:b.Ok) (oks:StepsOk l) (hl:l.length≤5) (hb:s.h.get sb=some (.cells (l.map Step.cells).flatten sz)) (hbn:sb<s.n) (hB:RowsAt s.h s.n 6 (b.sales.map Sale.cells) v) (hs:s.n+8000≤far) :
  ∃ bd t,r=.val (.tup [.slice bd 0 b.stalls b.stalls false,.int .i64 0]) t∧New s t 100∧s.n≤bd∧bd<t.n∧t.h.get bd=some (.cells (dueRows l b.sales b.stalls).flatten 0):=by
 obtain ⟨n,rfl⟩:∃ n,N=n+1:=⟨N - 1,by omega⟩
 have hf:far=1000000000:=rfl
 obtain ⟨v',t,e,st,bd,rfl,h1,h2,h3⟩:=call_new (n:=n) (args:=[.agg (bookV b v),.slice sb 0 l.length l.length true]) (s:=s) (k:=100) (Q:=fun v' h m=>∃ bd,v'=.tup [.slice bd 0 b.stalls b.stalls false,.int .i64 0]∧s.n≤bd∧bd<m∧h.get bd=some (.cells (dueRows l b.sales b.stalls).flatten 0)) Try.func12 rfl (fun u uh un um=>by
  rw [← uh,← un] at hB
  rw [← uh] at hb
  rw [← un] at hs hbn
  rw [← un]
  have kv:∀ t,okA (.val v t)=.val v t:=fun t=>okA_ne hB.ne
  have scB:scalars (bookV b v)=true:=by
   have hv:v.scalar=true:=by
    have h:=hB.len u
    cases v<;>first | rfl | cases h
   show scalars [v]=true
   unfold scalars
   rw [hv]
   rfl
  have k0:=ok.k0
  have k1:=ok.k1
  have n0:=oks.n0
  obtain ⟨w,hw⟩:∃ w:St,w=(u.new (.cells (bookV b v) (tag 27))).new (.cells [.slice sb 0 l.length l.length true] (tag 29)):=⟨_,rfl⟩
  have wn:w.n=u.n+2:=by rw [hw];rfl
  have wm:w.m=far:=by rw [hw];exact um
  have wg:∀ c,c<u.n→w.h.get c=u.h.get c:=fun c hc=>by rw [hw,get_new_ne _ _ _ (by simp only [new_n];omega),get_new_ne _ _ _ (by omega)]
  have w0:w.h.get u.n=some (.cells (bookV b v) (tag 27)):=by rw [hw,get_new_ne _ _ _ (by simp only [new_n];omega)];exact get_new_eq _ _ _ rfl (by omega)
  have w1:w.h.get (u.n+1)=some (.cells [.slice sb 0 l.length l.length true] (tag 29)):=by rw [hw];exact get_new_eq _ _ _ rfl (by simp only [new_n];omega)
  have hW:Beside u w 2:=by rw [hw];exact ((Beside.refl u (by omega) um).new _).new _
  have hR:=hB.grow wg (by omega:u.n≤w.n)
  have wb:=(wg sb hbn).trans hb
  have hck:=fun m=>check_ok n (by omega) b ok v ⟨w.h,w.n,m⟩ hR (by show w.n+4000≤far;omega)
  have hcs:=fun m=>checkSteps_ok (N:=n) (s:=⟨w.h,w.n,m⟩) (by omega) oks hl (by show sb<w.n;omega) wb (by show w.n+1000≤far;omega)
  have hcs':call Try.prog X n (.fn 37) [.slice sb 0 l.length l.length true] w=.val (.int .i64 0) w:=hcs w.m
  have z0:decide ((0:Int)=0)=true:=rfl
  have w0':=w0
  unfold bookV at w0 hw scB hck
  rw [enter12]
  unfold bookV
  simp (disch:=first|omega|(with_unfolding_all exact rfl)|(simp only[new_n,put_n,new_m];omega)|(refine put_m_le ?_;simp only[new_m];omega)) only [K12,K12r0,Abs.W,reduceIte,Nat.reduceEqDiff,Nat.reduceAdd,decide_true,decide_false,kLoop_def,Nat.reduceSub,List.cons_append,List.nil_append,List.append_nil,List.length_cons,List.length_nil,scB,Nat.zero_add]
  rw [← hw]
  clear hw
  simp (disch:=first|omega|(with_unfolding_all exact rfl)|(simp only[new_n,put_n,new_m];omega)|(refine put_m_le ?_;simp only[new_m];omega)) only [K12r1,K12r2,K12r4,Abs.W,reduceIte,Nat.reduceEqDiff,Nat.reduceAdd,decide_true,decide_false,kLoop_def,Nat.reduceSub,List.cons_append,List.nil_append,List.append_nil,List.length_cons,List.length_nil,Env.find_set,new_n,w0,w1,kv,scB,hck,hck w.m,hcs,hcs',or_new2,z0,endO_nil,Nat.zero_add,kMake_def]
  have mk:=fun s=>make_rows [.int .i64 0,.int .i64 0] 16 b.stalls s (by omega) (by omega)
  simp (disch:=first|omega|(with_unfolding_all exact rfl)|(simp only[new_n,put_n,new_m];omega)|(refine put_m_le ?_;simp only[new_m];omega)) only [Abs.W,reduceIte,Nat.reduceEqDiff,Nat.reduceAdd,decide_true,decide_false,kLoop_def,Nat.reduceSub,List.cons_append,List.nil_append,List.append_nil,List.length_cons,List.length_nil,Env.find_set,mk,new_n]
  obtain ⟨x,hx⟩:∃ x:St,x=(w.new (.cells [AV.int .i64 0,.int .i64 0] 0)).new (.cells (List.replicate b.stalls [AV.int .i64 0,.int .i64 0]).flatten 0):=⟨_,rfl⟩
  rw [← hx]
  have xn:x.n=w.n+2:=by rw [hx];rfl
  have xm:x.m=far:=by rw [hx];exact wm
  have xg:∀ c,c<w.n→x.h.get c=w.h.get c:=fun c hc=>by rw [hx,get_new_ne _ _ _ (by simp only [new_n];omega),get_new_ne _ _ _ (by omega)]
  have xd:x.h.get (w.n+1)=some (.cells (fillRows b.stalls [AV.int .i64 0,.int .i64 0] (dueRows l b.sales 0)).flatten 0):=by rw [hx];exact get_new_eq _ _ _ rfl (by simp only [new_n];omega)
  have hX:Beside u x (4+1 * 0):=by rw [hx];exact ((hW.new _).new _).mono (by omega)
  clear hx
  simp (disch:=first|omega|(with_unfolding_all exact rfl)|(simp only[new_n,put_n,new_m];omega)|(refine put_m_le ?_;simp only[new_m];omega)) only [K12r5,Abs.W,reduceIte,Nat.reduceEqDiff,Nat.reduceAdd,decide_true,decide_false,kLoop_def,Nat.reduceSub,List.cons_append,List.nil_append,List.append_nil,List.length_cons,List.length_nil,Env.find_set]
  generalize hl1:loopN _ rounds _ _ _ _ _=q1
  obtain ⟨e,L1,s1,rfl,rfl,g7,hE,g1,g2⟩:=loop_of hl1
   (fun i L' t=>L'.find 2=.ptr u.n 0∧L'.find 3=.ptr (u.n+1) 0∧L'.find 7=.slice (w.n+1) 0 b.stalls b.stalls false∧L'.find 22=.int .i64 (b.stalls:Int)∧L'.find 23=.int .i64 i∧Beside u t (4+1 * i)∧w.n+1<t.n ∧
    t.h.get u.n=some (.cells [.int .i64 b.stalls,.int .i64 b.goods,v] (tag 27))∧t.h.get (u.n+1)=some (.cells [.slice sb 0 l.length l.length true] (tag 29))∧t.h.get (w.n+1)=some (.cells (fillRows b.stalls [AV.int .i64 0,.int .i64 0] (dueRows l b.sales i)).flatten 0))
   (fun e L1 s1=>e=.exit 0∧L1.find 7=.slice (w.n+1) 0 b.stalls b.stalls false∧Beside u s1 (4+1 * b.stalls)∧w.n+1<s1.n∧s1.h.get (w.n+1)=some (.cells (dueRows l b.sales b.stalls).flatten 0))
   b.stalls (by unfold rounds;omega) ⟨by simp only [find_cons,Env.find_set,reduceIte,Nat.reduceEqDiff],by simp only [find_cons,Env.find_set,reduceIte,Nat.reduceEqDiff],by simp only [find_cons,Env.find_set,reduceIte,Nat.reduceEqDiff],by simp only [find_cons,Env.find_set,reduceIte,Nat.reduceEqDiff],by simp only [find_cons,Env.find_set,reduceIte,Nat.reduceEqDiff];rfl,hX,by omega,(xg u.n (by omega)).trans w0,(xg (u.n+1) (by omega)).trans w1,xd⟩
   (fun i L' t hi ⟨q2,q3,q7,q22,q23,hE,hn,t0,t1,td⟩=>by
    have tn:=hE.n
    have tl:=hE.le
    have tm:=hE.m
    have tf:=hE.far
    by_cases hlt:i<b.stalls
    ·have e0:decide ((i:Int)<(b.stalls:Int))=true:=decide_eq_true (by omega)
     have ix:∀ s,ixsA 2 s (.slice (w.n+1) 0 b.stalls b.stalls false) (.int .i64 (i:Int))=.val (.ptr (w.n+1) (i * 2)) s:=fun s=>by rw [ixs_slice _ _ _ _ _ _ _ _ hlt,Nat.zero_add]
     have ad:∀ s,aAdd s .i64 (i:Int) 1=.val (.int .i64 ((i:Int)+1)) s:=fun s=>aAdd_i64 s _ _ (by omega)
     obtain ⟨y,hy⟩:∃ y:St,y=(t.new (.cells [.int .i64 0] (tag 3))).put t.n (.cells [.int .i64 (i:Int)] (tag 3)):=⟨_,rfl⟩
     have yn:y.n=t.n+1:=by rw [hy];rfl
     have yg:∀ c,c<t.n→y.h.get c=t.h.get c:=fun c hc=>by rw [hy,get_put_ne' _ _ _ _ (by omega),get_new_ne _ _ _ (by omega)]
     have yt:y.h.get t.n=some (.cells [.int .i64 (i:Int)] (tag 3)):=by rw [hy];exact get_put_eq _ _ _ _ rfl (by omega)
     have ym:u.n≤y.m∧y.m≤far:=by rw [hy];simp only [St.put,minN_eq,new_m];omega
     have hY:Beside u y (4+1 * (i+1)):=by rw [hy];exact ((hE.new _).put _ tn).mono (by omega)
     have yb:=(hY.same sb hbn).trans hb
     have hRy:=hB.grow hY.same hY.n
     have bt:∀ m,call Try.prog X n (.fn 38) [.func 39 [] [.ptr u.n 0,.ptr t.n 0,.ptr (u.n+1) 0]] ⟨y.h,y.n,m⟩=.val (.agg [.int .i64 (dueI l (turnOf false b.sales i)),.int .i64 (dueI l (turnOf true b.sales i))]) ⟨y.h,y.n,m⟩:=fun m =>
      between_ok _ _ (by omega) (fun e t' ht h3 h4=>by
       have h3':y.n≤t'.n:=h3
       have h4':t'.n≤y.n+10:=h4
       have hxt:∀ c,c<y.n→t'.h.get c=y.h.get c:=fun c hc=>ht c hc
       have:=dues1_ok (N:=n - 1) (p:=u.n) (q:=t.n) (r:=u.n+1) (sb:=sb) (sz:=sz) (st:=i) (s:=t') e (by omega) ok oks ((hxt u.n (by omega)).trans ((yg u.n (by omega)).trans t0)) ((hxt t.n (by omega)).trans yt) ((hxt (u.n+1) (by omega)).trans ((yg (u.n+1) (by omega)).trans t1)) ((hxt sb (by omega)).trans yb) (by omega) (by omega) (by omega) (by omega) ((hB.grow (h':=t'.h) (n':=t'.n) (fun c hc=>(hxt c (by omega)).trans (hY.same c hc)) (by omega))) (by omega)
       cases e<;>exact this) (by show y.n+100≤far;omega)
     have yd:=(yg (w.n+1) hn).trans td
     have ov:=fillRows_over (n:=b.stalls) (w:=2) (z:=[AV.int .i64 0,.int .i64 0]) (row:=dueRow l b.sales i) (l:=dueRows l b.sales i) rfl (dueRows_wide l b.sales i) rfl (by rw [dueRows_len];exact hlt)
     rw [dueRows_len,← dueRows_snoc] at ov
     unfold dueRow at ov
     suffices hgo:∃ L1 t9,K12l0 (call Try.prog X n) ⟨12,none,Try.f12.ntmps,X 12⟩ L' [] t=.done .norm L1 [] t9∧(L1.find 2=.ptr u.n 0∧L1.find 3=.ptr (u.n+1) 0∧L1.find 7=.slice (w.n+1) 0 b.stalls b.stalls false∧L1.find 22=.int .i64 (b.stalls:Int)∧L1.find 23=.int .i64 ((i+1:Nat):Int)∧Beside u t9 (4+1 * (i+1))∧w.n+1<t9.n ∧
       t9.h.get u.n=some (.cells [.int .i64 b.stalls,.int .i64 b.goods,v] (tag 27))∧t9.h.get (u.n+1)=some (.cells [.slice sb 0 l.length l.length true] (tag 29))∧t9.h.get (w.n+1)=some (.cells (fillRows b.stalls [AV.int .i64 0,.int .i64 0] (dueRows l b.sales (i+1))).flatten 0)) from by
      obtain ⟨L9,t9,z1,z2⟩:=hgo
      exact .inl ⟨hlt,L9,t9,z1,z2⟩
     simp (disch:=first|omega|(with_unfolding_all exact rfl)|(simp only[new_n,put_n,new_m];omega)|(refine put_m_le ?_;simp only[new_m];omega)) only [K12l0,K12r6,K12r7,Abs.W,reduceIte,Nat.reduceEqDiff,Nat.reduceAdd,decide_true,decide_false,kLoop_def,Nat.reduceSub,List.cons_append,List.nil_append,List.append_nil,List.length_cons,List.length_nil,Env.find_set,q2,q3,q7,q22,q23,e0,Nat.zero_add]
     rw [← hy]
     clear hy
     simp (disch:=first|omega|(with_unfolding_all exact rfl)|(simp only[new_n,put_n,new_m];omega)|(refine put_m_le ?_;simp only[new_m];omega)) only [K12r8,K12r9,Abs.W,reduceIte,Nat.reduceEqDiff,Nat.reduceAdd,decide_true,decide_false,kLoop_def,Nat.reduceSub,List.cons_append,List.nil_append,List.append_nil,List.length_cons,List.length_nil,Env.find_set,q2,q3,q7,q22,q23,yt,yd,kFuncE',okA_fnv,bt,bt y.m,ix,ov,ad,endO_nil,Nat.zero_add]
     refine ⟨_,_,rfl,?_,?_,?_,?_,?_,hY.put _ (by omega),?_,?_,?_,?_⟩
     ·simp only [Env.find_set,q2,reduceIte,Nat.reduceEqDiff]
     ·simp only [Env.find_set,q3,reduceIte,Nat.reduceEqDiff]
     ·simp only [Env.find_set,q7,reduceIte,Nat.reduceEqDiff]
     ·simp only [Env.find_set,q22,reduceIte,Nat.reduceEqDiff]
     ·simp only [Env.find_set,reduceIte,Nat.reduceEqDiff];rfl
     ·simp only [put_n];omega
     ·rw [get_put_ne' _ _ _ _ (by omega)];exact (yg u.n (by omega)).trans t0
     ·rw [get_put_ne' _ _ _ _ (by omega)];exact (yg (u.n+1) (by omega)).trans t1
     ·exact get_put_eq _ _ _ _ rfl (by omega)
    ·obtain rfl:i=b.stalls:=by omega
     have e0:decide ((b.stalls:Int)<(b.stalls:Int))=false:=by simp
     rw [fillRows_full (dueRows_len l b.sales b.stalls)] at td
     refine .inr ⟨.exit 0,L'.set 24 (.bool false),t,by simp,?_,rfl,by simp only [Env.find_set,q7,reduceIte,Nat.reduceEqDiff],hE,hn,td⟩
     simp (disch:=first|omega|(with_unfolding_all exact rfl)|(simp only[new_n,put_n,new_m];omega)|(refine put_m_le ?_;simp only[new_m];omega)) only [K12l0,K12r6,Abs.W,reduceIte,Nat.reduceEqDiff,Nat.reduceAdd,decide_true,decide_false,kLoop_def,Nat.reduceSub,List.cons_append,List.nil_append,List.append_nil,List.length_cons,List.length_nil,Env.find_set,q22,q23,e0])
  simp (disch:=first|omega|(with_unfolding_all exact rfl)|(simp only[new_n,put_n,new_m];omega)|(refine put_m_le ?_;simp only[new_m];omega)) only [res12,K12r0,K12r1,K12r2,K12r3,K12r4,K12r5,K12r6,K12r7,K12r8,K12r9,K12r10,K12,Abs.W,reduceIte,Nat.reduceEqDiff,Nat.reduceAdd,decide_true,decide_false,kLoop_def,Nat.reduceSub,List.cons_append,List.nil_append,List.append_nil,List.length_cons,List.length_nil,Env.find_set,g7]
  have hv:oneA [Env.find 4 (Env.set 5 (AV.int IntKind.i64 0) (Env.set 4 (AV.slice (w.n+1) 0 b.stalls b.stalls false) L1)),Env.find 5 (Env.set 5 (AV.int IntKind.i64 0) (Env.set 4 (AV.slice (w.n+1) 0 b.stalls b.stalls false) L1))]=AV.tup [.slice (w.n+1) 0 b.stalls b.stalls false,.int .i64 0]:=by
   simp only [Env.find_set,reduceIte,Nat.reduceEqDiff]
   rfl
  exact ⟨_,_,rfl,hE.mono (by omega),by first | rfl | (rw [hv];rfl),w.n+1,hv,by omega,g1,g2⟩)
 exact ⟨bd,t,hr.symm.trans e,st,h1,h2,h3⟩
end Go.Proofs.Ytamlnddeiokbdaa.walk
namespace Go.Proofs.Ytamlnddeiokbdaa.walk
open Go.Abs Go.Proofs.Ytamlnddeiokbdaa.code
theorem perm_range:∀ (n:Nat) (f:List Nat),f.length=n→(∀ j,j<n→j ∈ f)→List.Perm f (List.range n)
 | 0,f,h,_=>by
  have:f=[]:=List.length_eq_zero_iff.mp h
  subst this
  exact List.Perm.nil
 | n+1,f,h,ha=>by
  have hn:=ha n (Nat.lt_succ_self n)
  have h1:=List.perm_cons_erase hn
  have h2:=perm_range n (f.erase n) (by rw [List.length_erase_of_mem hn];omega) (fun j hj=>(List.mem_erase_of_ne (by omega)).mpr (ha j (by omega)))
  rw [List.range_succ]
  exact h1.trans ((List.Perm.cons n h2).trans (List.perm_append_comm (l₁:=[n]) (l₂:=List.range n)))
def saleAt (l:List Sale) (i:Nat):Sale:=l.getD i ⟨0,0,0,0,0,0⟩
theorem saleAt_eq {l:List Sale} {i:Nat} (h:i<l.length):l[i]=saleAt l i:=by simp [saleAt,List.getD,h]
theorem map_range (l:List Sale):(List.range l.length).map (saleAt l)=l:=by
 apply List.ext_getElem
 ·simp
 ·intro i h1 h2
  simp [saleAt,List.getD,h2]
theorem perm_sales {l:List Sale} {f:List Nat} (h:f.length=l.length) (ha:∀ j,j<l.length→j ∈ f):List.Perm (f.map (saleAt l)) l:=by
 have:=(perm_range l.length f h ha).map (saleAt l)
 rwa [map_range] at this
section
variable {l r:List Sale}
theorem turn_perm (hi:Bool) (k:Int) (h:List.Perm l r):turnOf hi l k=turnOf hi r k:=by
 induction h with
 | nil=>rfl
 | cons x _ ih=>show _+turnOf hi _ k=_+turnOf hi _ k;rw [ih]
 | swap x y l=>show _+(_+turnOf hi l k)=_+(_+turnOf hi l k);omega
 | trans _ _ ih1 ih2=>exact ih1.trans ih2
theorem weigh_perm (hi:Bool) (h:List.Perm l r):weighI hi l=weighI hi r:=by
 induction h with
 | nil=>rfl
 | cons x _ ih=>show _+weighI hi _=_+weighI hi _;rw [ih]
 | swap x y l=>show _+(_+weighI hi l)=_+(_+weighI hi l);omega
 | trans _ _ ih1 ih2=>exact ih1.trans ih2
theorem cheap_perm (hi:Bool) (p:Int) (h:List.Perm l r):cheapI hi p l=cheapI hi p r:=by
 induction h with
 | nil=>rfl
 | cons x _ ih=>show _+cheapI hi p _=_+cheapI hi p _;rw [ih]
 | swap x y l=>show _+(_+cheapI hi p l)=_+(_+cheapI hi p l);omega
 | trans _ _ ih1 ih2=>exact ih1.trans ih2
theorem dear_perm (hi:Bool) (p:Int) (h:List.Perm l r):dearI hi p l=dearI hi p r:=by
 induction h with
 | nil=>rfl
 | cons x _ ih=>show _+dearI hi p _=_+dearI hi p _;rw [ih]
 | swap x y l=>show _+(_+dearI hi p l)=_+(_+dearI hi p l);omega
 | trans _ _ ih1 ih2=>exact ih1.trans ih2
theorem enough_perm (hi:Bool) (p:Int) (h:List.Perm l r):enoughI hi l p=enoughI hi r p:=by unfold enoughI;rw [cheap_perm hi p h,dear_perm hi p h]
theorem price_perm_le (hi:Bool) (h:List.Perm l r) (ok:Fine l) (hl:l≠[]):priceI hi r≤priceI hi l:=by
 obtain ⟨s,h1,h2,h3⟩:=price_is hi l hl (fun s hs=>by have:=ok s hs;omega)
 rw [h3]
 exact price_least hi r s (h.mem_iff.mp h1) (by rw [← enough_perm hi _ h];exact h2)
theorem price_perm (hi:Bool) (h:List.Perm l r) (ok:Fine l):priceI hi l=priceI hi r:=by
 by_cases hl:l=[]
 ·subst hl
  have:r=[]:=List.Perm.eq_nil h.symm
  subst this;rfl
 ·have hr:r≠[]:=fun hr=>hl (by subst hr;exact List.Perm.eq_nil h)
  have ok':Fine r:=fun s hs=>ok s (h.mem_iff.mpr hs)
  have a:=price_perm_le hi h ok hl
  have b:=price_perm_le hi h.symm ok' hr
  omega
theorem sold_perm (g:Int) (h:List.Perm l r):List.Perm (soldOf l g) (soldOf r g):=h.filter _
end
end Go.Proofs.Ytamlnddeiokbdaa.walk
set_option maxRecDepth 10000
namespace Go.Proofs.Ytamlnddeiokbdaa.walk
open Go.Abs Go.Proofs.Ytamlnddeiokbdaa.code
def pairRow (l:List (Int × Int)):List (List AV):=l.map fun g=>[.int .i64 g.1,.int .i64 g.2]
theorem pairRow_len (l:List (Int × Int)):(pairRow l).length=l.length:=List.length_map ..
theorem pairRow_at (l:List (Int × Int)) (i:Nat) (h:i<(pairRow l).length) (h':i<l.length):(pairRow l)[i]=[.int .i64 l[i].1,.int .i64 l[i].2]:=by simp [pairRow]
theorem kEql_def (c:Cmp) (neg:Bool) (x y:Arg) (L:Env) (s:St):kEql c neg x y L s=eqlA c neg s (x.ev L) (y.ev L):=Eq.trans (Eq.refl _) (Eq.refl _)
theorem eqlSpan (a b:Int) (s:St):eqlA (.row [(0,none,.int),(1,none,.int)]) false s (.agg [.int .i64 a,.int .i64 b]) (.agg [.int .i64 a,.int .i64 b])=.val (.bool true) s:=by
 simp [eqlA,Cmp.eq,Cmp.eqs,partS_one,nth_cons,eqI_eq]
theorem neqSpan (a b:Int) (s:St):eqlA (.row [(0,none,.int),(1,none,.int)]) true s (.agg [.int .i64 a,.int .i64 b]) (.agg [.int .i64 a,.int .i64 b])=.val (.bool false) s:=by
 simp [eqlA,Cmp.eq,Cmp.eqs,partS_one,nth_cons,eqI_eq]
theorem sameSpans_ok (N:Nat) (hN:1≤N) {l:List (Int × Int)} {va vb:AV} {s:St} (hA:RowsAt s.h s.n 2 (pairRow l) va) (hB:RowsAt s.h s.n 2 (pairRow l) vb) (hl:l.length≤100) (hs:s.n+1000≤far) :
  call Try.prog X N (.fn 25) [va,vb] s=.val (.bool true) s:=by
 obtain ⟨n,rfl⟩:∃ n,N=n+1:=⟨N - 1,by omega⟩
 have hf:far=1000000000:=rfl
 obtain ⟨v,e,rfl⟩:=call_some (n:=n) (args:=[va,vb]) (s:=s) (k:=100) (Q:=fun v=>v=.bool true) Try.func25 (fun u uh un um=>by
  rw [← uh,← un] at hA hB
  have la:=hA.len
  rw [pairRow_len] at la
  have lb:=hB.len
  rw [pairRow_len] at lb
  have ka:∀ t,okA (.val va t)=.val va t:=fun t=>okA_ne hA.ne
  have kb:∀ t,okA (.val vb t)=.val vb t:=fun t=>okA_ne hB.ne
  have dd:decide ((l.length:Int)=(l.length:Int))=true:=by simp
  rw [enter25]
  simp (disch:=first|omega|(with_unfolding_all exact rfl)|(simp only[new_n,put_n,new_m];omega)|(refine put_m_le ?_;simp only[new_m];omega)) only [res25,K25r0,K25r1,K25r2,K25r3s6,K25r3s5,K25r3s4,K25r3s3,K25r3,K25r4,K25r5,K25r6,K25,Abs.W,reduceIte,Nat.reduceEqDiff,Nat.reduceAdd,decide_true,decide_false,kLoop_def,Nat.reduceSub,List.cons_append,List.nil_append,List.append_nil,List.length_cons,List.length_nil,Env.find_set,Nat.zero_add,ka,kb,la,lb,dd]
  generalize hlp:loopN _ rounds _ _ _ _ _=r1
  obtain ⟨e,L1,s1,rfl,rfl,rfl,f5⟩:=loop_of hlp (fun i L' t'=>t'=u∧L'.find 0=va∧L'.find 1=vb∧L'.find 5=.bool true∧L'.find 6=.int .i64 i) (fun e L' t'=>e=.exit 0∧t'=u∧L'.find 5=.bool true) l.length (by unfold rounds;omega)
   ⟨rfl,by simp only [find_cons,Env.find_set,reduceIte,Nat.reduceEqDiff],by simp only [find_cons,Env.find_set,reduceIte,Nat.reduceEqDiff],by simp only [find_cons,Env.find_set,reduceIte,Nat.reduceEqDiff],by simp only [find_cons,Env.find_set,reduceIte,Nat.reduceEqDiff];rfl⟩
   (fun i L' t' hi ⟨ht,q0,q1,q5,q6⟩=>by
    subst ht
    by_cases hlt:i<l.length
    ·have e0:decide ((i:Int)<(l.length:Int))=true:=decide_eq_true (by omega)
     obtain ⟨x0,o0,cs,sz,r1,r2,r3,r4⟩:=hA.at_ i (by rw [pairRow_len];exact hlt)
     rw [pairRow_at _ _ _ hlt] at r4
     obtain ⟨x1,o1,cs1,sz1,y1,y2,y3,y4⟩:=hB.at_ i (by rw [pairRow_len];exact hlt)
     rw [pairRow_at _ _ _ hlt] at y4
     have ad:∀ s,aAdd s .i64 (i:Int) 1=.val (.int .i64 ((i:Int)+1)) s:=fun s=>aAdd_i64 s _ _ (by omega)
     refine .inl ⟨hlt,(((L'.set 18 (.bool true)).set 5 (.bool true)).set 6 (.int .i64 ((i:Int)+1))),_,?_,rfl,?_,?_,?_,?_⟩
     ·simp (disch:=first|omega|(with_unfolding_all exact rfl)|(simp only[new_n,put_n,new_m];omega)|(refine put_m_le ?_;simp only[new_m];omega)) only [res25,K25r0,K25r1,K25r2,K25r3s6,K25r3s5,K25r3s4,K25r3s3,K25r3,K25r4,K25r5,K25r6,K25,K25l0,Abs.W,reduceIte,Nat.reduceEqDiff,Nat.reduceAdd,decide_true,decide_false,kLoop_def,Nat.reduceSub,List.cons_append,List.nil_append,List.append_nil,List.length_cons,List.length_nil,Env.find_set,q0,q1,q5,q6,ka,kb,la,lb,e0,r2,r3,r4,y2,y3,y4,kEql_def,eqlSpan,ad,Nat.zero_add]
     ·simp only [Env.find_set,q0,reduceIte,Nat.reduceEqDiff]
     ·simp only [Env.find_set,q1,reduceIte,Nat.reduceEqDiff]
     ·simp only [Env.find_set,reduceIte,Nat.reduceEqDiff]
     ·simp only [Env.find_set,reduceIte,Nat.reduceEqDiff];rfl
    ·obtain rfl:i=l.length:=by omega
     have e1:decide ((l.length:Int)<(l.length:Int))=false:=by simp
     refine .inr ⟨.exit 0,L'.set 18 (.bool false),_,by simp,?_,rfl,rfl,by simp only [Env.find_set,q5,reduceIte,Nat.reduceEqDiff]⟩
     simp (disch:=first|omega|(with_unfolding_all exact rfl)|(simp only[new_n,put_n,new_m];omega)|(refine put_m_le ?_;simp only[new_m];omega)) only [res25,K25r0,K25r1,K25r2,K25r3s6,K25r3s5,K25r3s4,K25r3s3,K25r3,K25r4,K25r5,K25r6,K25,K25l0,Abs.W,reduceIte,Nat.reduceEqDiff,Nat.reduceAdd,decide_true,decide_false,kLoop_def,Nat.reduceSub,List.cons_append,List.nil_append,List.append_nil,List.length_cons,List.length_nil,Env.find_set,q0,q5,q6,ka,la,e1,Nat.zero_add])
  simp (disch:=first|omega|(with_unfolding_all exact rfl)|(simp only[new_n,put_n,new_m];omega)|(refine put_m_le ?_;simp only[new_m];omega)) only [res25,K25r0,K25r1,K25r2,K25r3s6,K25r3s5,K25r3s4,K25r3s3,K25r3,K25r4,K25r5,K25r6,K25,Abs.W,reduceIte,Nat.reduceEqDiff,Nat.reduceAdd,decide_true,decide_false,kLoop_def,Nat.reduceSub,List.cons_append,List.nil_append,List.append_nil,List.length_cons,List.length_nil,Env.find_set,f5]
  exact ⟨_,_,rfl,(Beside.refl _ (by omega) um).mono (by omega),rfl,rfl⟩)
 exact e
end Go.Proofs.Ytamlnddeiokbdaa.walk
set_option maxRecDepth 10000
namespace Go.Proofs.Ytamlnddeiokbdaa.walk
open Go.Abs Go.Proofs.Ytamlnddeiokbdaa.code
def Die (d:Nat) (h:Heap):Prop:=∃ f,h.get d=some (.cells [.int .u64 f] (tag 69))
theorem roll_ex {N d:Nat} {s:St} {r:ARes} (hr:call Try.prog X N (.fn 30) [.ptr d 0] s=r) (hN:1≤N) (hd:Die d s.h) (hlt:d<s.n) (hs:s.n+10≤far) :
  ∃ x t,r=.val (.int .u64 x) t∧Stir d s t 0∧Die d t.h∧0≤x∧x≤18446744073709551615:=by
 obtain ⟨n,rfl⟩:∃ n,N=n+1:=⟨N - 1,by omega⟩
 have hf:far=1000000000:=rfl
 obtain ⟨f,hg⟩:=hd
 obtain ⟨v,t,e,st,⟨x,rfl,x0,x1⟩,hd'⟩:=call_stir_plain (n:=n) (args:=[.ptr d 0]) (d:=d) (k:=0) (Q:=fun v=>∃ x,v=.int .u64 x∧0≤x∧x≤18446744073709551615) (R:=Die d) Try.func30 ⟨f,hg⟩ (fun u uh un um=>by
  rw [← uh] at hg
  rw [enter30]
  simp (disch:=first|omega|(with_unfolding_all exact rfl)|(simp only[new_n,put_n,new_m];omega)|(refine put_m_le ?_;simp only[new_m];omega)) only [res30,K30r0,K30r1,K30r2,K30r3,K30r4,K30r5,K30,Abs.W,reduceIte,Nat.reduceEqDiff,Nat.reduceAdd,decide_true,decide_false,kLoop_def,Nat.reduceSub,List.cons_append,List.nil_append,List.append_nil,List.length_cons,List.length_nil,hg,Nat.zero_add,ints_u64,kShr_def,shrA_u64,aAdd_def,aMul_def,aXor_def]
  refine ⟨_,_,rfl,(Stir.refl d u).put (by omega) _ (.inl rfl),rfl,⟨_,rfl,?_⟩,⟨_,get_put_eq _ _ _ _ rfl (by omega)⟩⟩
  exact xorI_range _ _) (by omega)
 exact ⟨x,t,hr.symm.trans e,st,hd',x0,x1⟩
theorem cast_ex {N d:Nat} {n:Int} {s:St} {r:ARes} (hr:call Try.prog X N (.fn 33) [.ptr d 0,.int .i64 n] s=r) (hN:2≤N) (hd:Die d s.h) (hlt:d<s.n) (hs:s.n+100≤far) (hn:n≤1000000000) :
  ∃ x t,r=.val (.int .i64 x) t∧Stir d s t 0∧Die d t.h∧0≤x∧(x<n∨x=0):=by
 obtain ⟨m,rfl⟩:∃ m,N=m+1:=⟨N - 1,by omega⟩
 have hf:far=1000000000:=rfl
 obtain ⟨v,t,e,st,⟨x,rfl,x0,x1⟩,hd'⟩:=call_stir_plain (n:=m) (args:=[.ptr d 0,.int .i64 n]) (d:=d) (k:=0) (Q:=fun v=>∃ x,v=.int .i64 x∧0≤x∧(x<n∨x=0)) (R:=Die d) Try.func33 hd (fun u uh un um=>by
  rw [← uh] at hd
  rw [enter33]
  by_cases hlow:n<2
  ·have e0:decide (n<2)=true:=by simpa using hlow
   simp (disch:=first|omega|(with_unfolding_all exact rfl)|(simp only[new_n,put_n,new_m];omega)|(refine put_m_le ?_;simp only[new_m];omega)) only [res33,K33r0,K33r1,K33r2,K33r3,K33,Abs.W,reduceIte,Nat.reduceEqDiff,Nat.reduceAdd,decide_true,decide_false,kLoop_def,Nat.reduceSub,List.cons_append,List.nil_append,List.append_nil,List.length_cons,List.length_nil,e0]
   exact ⟨_,_,rfl,Stir.refl d u,rfl,⟨0,rfl,by omega,.inr rfl⟩,hd⟩
  ·have e0:decide (n<2)=false:=by simpa using hlow
   simp (disch:=first|omega|(with_unfolding_all exact rfl)|(simp only[new_n,put_n,new_m];omega)|(refine put_m_le ?_;simp only[new_m];omega)) only [res33,K33r0,K33r1,K33r2,K33r3,K33,Abs.W,reduceIte,Nat.reduceEqDiff,Nat.reduceAdd,decide_true,decide_false,kLoop_def,Nat.reduceSub,List.cons_append,List.nil_append,List.append_nil,List.length_cons,List.length_nil,e0]
   generalize hc:call _ _ _ (.fn 30) _ _=r1
   obtain ⟨y,w,rfl,sw,dw,y0,y1⟩:=roll_ex hc (by omega) hd (by omega) (by omega)
   have q0:0≤shrI y 2:=shrI_nonneg _ _ y0
   have q2:0≤(shrI y 2).tmod n:=Int.tmod_nonneg _ q0
   have q3:(shrI y 2).tmod n<n:=Int.tmod_lt_of_pos _ (by omega)
   have w1:wrapA .u64 n=n:=wrap_u64 n (by omega)
   have w2:wrapA .i64 ((shrI y 2).tmod n)=(shrI y 2).tmod n:=wrap_in _ (by omega)
   have w3:∀ s,aRem s .u64 (shrI y 2) n=.val (.int .u64 ((shrI y 2).tmod n)) s:=fun s=>aRem_ne s _ _ _ (by omega)
   simp (disch:=first|omega|(with_unfolding_all exact rfl)|(simp only[new_n,put_n,new_m];omega)|(refine put_m_le ?_;simp only[new_m];omega)) only [res33,K33r0,K33r1,K33r2,K33r3,K33,Abs.W,reduceIte,Nat.reduceEqDiff,Nat.reduceAdd,decide_true,decide_false,kLoop_def,Nat.reduceSub,List.cons_append,List.nil_append,List.append_nil,List.length_cons,List.length_nil,ints_u64,kShr_def,shrA_u64,cviA_int,w1,w2,w3]
   exact ⟨_,_,rfl,sw,rfl,⟨_,rfl,q2,.inl q3⟩,dw⟩) (by omega)
 exact ⟨x,t,hr.symm.trans e,st,hd',x0,x1⟩
theorem from_ex {N d:Nat} {lo hi:Int} {s:St} {r:ARes} (hr:call Try.prog X N (.fn 31) [.ptr d 0,.int .i64 lo,.int .i64 hi] s=r) (hN:3≤N) (hd:Die d s.h) (hlt:d<s.n) (hs:s.n+200≤far)
  (h0 : -100000000≤lo) (h1:lo≤100000000) (h2 : -100000000≤hi) (h3:hi≤100000000) :
  ∃ x t,r=.val (.int .i64 x) t∧Stir d s t 0∧Die d t.h∧lo≤x∧(x≤hi∨x=lo):=by
 obtain ⟨m,rfl⟩:∃ m,N=m+1:=⟨N - 1,by omega⟩
 have hf:far=1000000000:=rfl
 obtain ⟨v,t,e,st,⟨x,rfl,x0,x1⟩,hd'⟩:=call_stir_plain (n:=m) (args:=[.ptr d 0,.int .i64 lo,.int .i64 hi]) (d:=d) (k:=0) (Q:=fun v=>∃ x,v=.int .i64 x∧lo≤x∧(x≤hi∨x=lo)) (R:=Die d) Try.func31 hd (fun u uh un um=>by
  rw [← uh] at hd
  have a1:∀ s,aSub s .i64 hi lo=.val (.int .i64 (hi - lo)) s:=fun s=>aSub_i64 s _ _ (by omega)
  have a2:∀ s,aAdd s .i64 (hi - lo) 1=.val (.int .i64 (hi - lo+1)) s:=fun s=>aAdd_i64 s _ _ (by omega)
  rw [enter31]
  simp (disch:=first|omega|(with_unfolding_all exact rfl)|(simp only[new_n,put_n,new_m];omega)|(refine put_m_le ?_;simp only[new_m];omega)) only [res31,K31r0,K31r1,K31,Abs.W,reduceIte,Nat.reduceEqDiff,Nat.reduceAdd,decide_true,decide_false,kLoop_def,Nat.reduceSub,List.cons_append,List.nil_append,List.append_nil,List.length_cons,List.length_nil,a1,a2]
  generalize hc:call _ _ _ (.fn 33) _ _=r1
  obtain ⟨y,w,rfl,sw,dw,y0,y1⟩:=cast_ex hc (by omega) hd (by omega) (by omega) (by omega)
  have a3:∀ s,aAdd s .i64 lo y=.val (.int .i64 (lo+y)) s:=fun s=>aAdd_i64 s _ _ (by omega)
  simp (disch:=first|omega|(with_unfolding_all exact rfl)|(simp only[new_n,put_n,new_m];omega)|(refine put_m_le ?_;simp only[new_m];omega)) only [res31,K31r0,K31r1,K31,Abs.W,reduceIte,Nat.reduceEqDiff,Nat.reduceAdd,decide_true,decide_false,kLoop_def,Nat.reduceSub,List.cons_append,List.nil_append,List.append_nil,List.length_cons,List.length_nil,a3]
  exact ⟨_,_,rfl,sw,rfl,⟨_,rfl,by omega,by omega⟩,dw⟩) (by omega)
 exact ⟨x,t,hr.symm.trans e,st,hd',x0,x1⟩
theorem nth_ints:∀ {l:List Int} {i:Nat},i<l.length→∃ x ∈ l,nth (l.map fun x=>AV.int .i64 x) i=.int .i64 x
 | [],i,h=>by simp at h
 | a::l,0,_=>⟨a,List.mem_cons_self ..,rfl⟩
 | a::l,i+1,h=>by
  obtain ⟨x,hx,e⟩:=nth_ints (l:=l) (i:=i) (by simpa using h)
  exact ⟨x,List.mem_cons_of_mem _ hx,e⟩
theorem one_ex {N d b:Nat} {k sz:Nat} (l:List Int) {s:St} {r:ARes} (hr:call Try.prog X N (.fn 32) [.ptr d 0,.slice b 0 k k false] s=r) (hN:3≤N) (hd:Die d s.h) (hlt:d<s.n) (hs:s.n+200≤far)
  (hb:s.h.get b=some (.cells (l.map fun x=>AV.int .i64 x) sz)) (hbn:b<s.n) (hbd:b≠d) (hl:l.length=k) (h0:0<k) (hk:k≤1000) :
  ∃ x t,r=.val (.int .i64 x) t∧Stir d s t 0∧Die d t.h∧x ∈ l:=by
 obtain ⟨m,rfl⟩:∃ m,N=m+1:=⟨N - 1,by omega⟩
 have hf:far=1000000000:=rfl
 obtain ⟨v,t,e,st,⟨x,rfl,hx⟩,hd'⟩:=call_stir_plain (n:=m) (args:=[.ptr d 0,.slice b 0 k k false]) (d:=d) (k:=0) (Q:=fun v=>∃ x,v=.int .i64 x∧x ∈ l) (R:=Die d) Try.func32 hd (fun u uh un um=>by
  rw [← uh] at hd hb
  have e0:decide ((k:Int)=0)=false:=by simp;omega
  rw [enter32]
  simp (disch:=first|omega|(with_unfolding_all exact rfl)|(simp only[new_n,put_n,new_m];omega)|(refine put_m_le ?_;simp only[new_m];omega)) only [res32,K32r0,K32r1,K32r2,K32r3,K32,Abs.W,reduceIte,Nat.reduceEqDiff,Nat.reduceAdd,decide_true,decide_false,kLoop_def,Nat.reduceSub,List.cons_append,List.nil_append,List.append_nil,List.length_cons,List.length_nil,e0]
  generalize hc:call _ _ _ (.fn 33) _ _=r1
  obtain ⟨y,w,rfl,sw,dw,y0,y1⟩:=cast_ex hc (by omega) hd (by omega) (by omega) (by omega)
  obtain ⟨i,rfl⟩:∃ i:Nat,y=i:=⟨y.toNat,by omega⟩
  have hi:i<k:=by omega
  obtain ⟨x,hx,hn⟩:=nth_ints (l:=l) (i:=i) (by omega)
  have hg:w.h.get b=some (.cells (l.map fun x=>AV.int .i64 x) sz):=by rw [sw.same b (by omega) hbd];exact hb
  simp (disch:=first|omega|(with_unfolding_all exact rfl)|(simp only[new_n,put_n,new_m];omega)|(refine put_m_le ?_;simp only[new_m];omega)) only [res32,K32r0,K32r1,K32r2,K32r3,K32,Abs.W,reduceIte,Nat.reduceEqDiff,Nat.reduceAdd,decide_true,decide_false,kLoop_def,Nat.reduceSub,List.cons_append,List.nil_append,List.append_nil,List.length_cons,List.length_nil,ixs_slice _ _ _ _ _ _ _ _ hi,Nat.mul_one,Nat.zero_add,hg,hn]
  exact ⟨_,_,rfl,sw,rfl,⟨x,rfl,hx⟩,dw⟩) (by omega)
 exact ⟨x,t,hr.symm.trans e,st,hd',hx⟩
theorem span_ex {N d:Nat} {lo hi:Int} {s:St} {r:ARes} (hr:call Try.prog X N (.fn 34) [.ptr d 0,.int .i64 lo,.int .i64 hi] s=r) (hN:4≤N) (hd:Die d s.h) (hlt:d<s.n) (hs:s.n+300≤far)
  (h0 : -1000000≤lo) (h1:lo≤hi) (h2:hi≤1000000) :
  ∃ a b t,r=.val (.agg [.int .i64 a,.int .i64 b]) t∧Stir d s t 2∧Die d t.h∧lo≤a∧a≤b∧b≤hi:=by
 obtain ⟨m,rfl⟩:∃ m,N=m+1:=⟨N - 1,by omega⟩
 have hf:far=1000000000:=rfl
 obtain ⟨v,t,e,st,⟨a,b,rfl,x0,x1,x2⟩,hd'⟩:=call_stir_plain (n:=m) (args:=[.ptr d 0,.int .i64 lo,.int .i64 hi]) (d:=d) (k:=2) (Q:=fun v=>∃ a b,v=.agg [.int .i64 a,.int .i64 b]∧lo≤a∧a≤b∧b≤hi) (R:=Die d) Try.func34 hd (fun u uh un um=>by
  rw [← uh] at hd
  have sh:shapeT Try.prog 38=some (some 2):=by kernel_rfl
  rw [enter34]
  simp (disch:=first|omega|(with_unfolding_all exact rfl)|(simp only[new_n,put_n,new_m];omega)|(refine put_m_le ?_;simp only[new_m];omega)) only [res34,K34r0,K34r1,K34r2,K34r3,K34,Abs.W,reduceIte,Nat.reduceEqDiff,Nat.reduceAdd,decide_true,decide_false,kLoop_def,Nat.reduceSub,List.cons_append,List.nil_append,List.append_nil,List.length_cons,List.length_nil]
  generalize hc:call _ _ _ (.fn 31) _ _=r1
  obtain ⟨x,w,rfl,sw,dw,y0,y1⟩:=from_ex hc (by omega) (by obtain ⟨f,hg⟩:=hd;exact ⟨f,by rw [get_new_ne _ _ _ (by omega)];exact hg⟩) (by simp only [new_n];omega) (by simp only [new_n];omega) (by omega) (by omega) (by omega) (by omega)
  have wn:=sw.n
  have wl:=sw.le
  simp only [new_n] at wn wl
  have a1:∀ s,aAdd s .i64 x 4=.val (.int .i64 (x+4)) s:=fun s=>aAdd_i64 s _ _ (by omega)
  simp (disch:=first|omega|(with_unfolding_all exact rfl)|(simp only[new_n,put_n,new_m];omega)|(refine put_m_le ?_;simp only[new_m];omega)) only [res34,K34r0,K34r1,K34r2,K34r3,K34,Abs.W,reduceIte,Nat.reduceEqDiff,Nat.reduceAdd,decide_true,decide_false,kLoop_def,Nat.reduceSub,List.cons_append,List.nil_append,List.append_nil,List.length_cons,List.length_nil,a1,kFold_def,foldA_nil,foldA_cons,minA_i64]
  generalize hc2:call _ _ _ (.fn 32) _ _=r2
  obtain ⟨y,w2,rfl,sw2,dw2,ym⟩:=one_ex [x,min hi (x+4),hi] hc2 (by omega) (by obtain ⟨f,hg⟩:=dw;exact ⟨f,by rw [get_new_ne _ _ _ (by omega)];exact hg⟩) (by simp only [new_n];omega) (by simp only [new_n];omega) (get_new_eq _ _ _ rfl (by omega)) (by simp only [new_n];omega) (by omega) rfl (by omega) (by omega)
  have wn2:=sw2.n
  have wl2:=sw2.le
  simp only [new_n] at wn2 wl2
  have ym':x≤y∧y≤hi:=by
   simp only [List.mem_cons,List.not_mem_nil,or_false] at ym
   omega
  simp (disch:=first|omega|(with_unfolding_all exact rfl)|(simp only[new_n,put_n,new_m];omega)|(refine put_m_le ?_;simp only[new_m];omega)) only [res34,K34r0,K34r1,K34r2,K34r3,K34,Abs.W,reduceIte,Nat.reduceEqDiff,Nat.reduceAdd,decide_true,decide_false,kLoop_def,Nat.reduceSub,List.cons_append,List.nil_append,List.append_nil,List.length_cons,List.length_nil]
  generalize hc3:call _ _ _ (.fn 31) _ _=r3
  obtain ⟨z,w3,rfl,sw3,dw3,z0,z1⟩:=from_ex hc3 (by omega) dw2 (by omega) (by omega) (by omega) (by omega) (by omega) (by omega)
  have wn3:=sw3.n
  have wl3:=sw3.le
  have g:w3.h.get u.n=some (.cells [.int .i64 0,.int .i64 0] (tag 38)):=by
   rw [sw3.same _ (by omega) (by omega),sw2.same _ (by simp only [new_n];omega) (by omega),get_new_ne _ _ _ (by omega),sw.same _ (by simp only [new_n];omega) (by omega)]
   exact get_new_eq _ _ _ rfl (by omega)
  simp (disch:=first|omega|(with_unfolding_all exact rfl)|(simp only[new_n,put_n,new_m];omega)|(refine put_m_le ?_;simp only[new_m];omega)) only [res34,K34r0,K34r1,K34r2,K34r3,K34,Abs.W,reduceIte,Nat.reduceEqDiff,Nat.reduceAdd,decide_true,decide_false,kLoop_def,Nat.reduceSub,List.cons_append,List.nil_append,List.append_nil,List.length_cons,List.length_nil,g]
  have S1:Stir d u w3 2:=((((((Stir.refl d u).new _).trans sw).new _).trans sw2).trans sw3)
  refine ⟨_,_,leave_cell _ _ _ _ sh ?_,S1.put (by omega) _ (.inr (Nat.le_refl _)),rfl,⟨x,z,rfl,by omega,by omega,by omega⟩,?_⟩
  ·simp (disch:=first|omega|(with_unfolding_all exact rfl)|(simp only[new_n,put_n,new_m];omega)|(refine put_m_le ?_;simp only[new_m];omega)) only [Abs.W,reduceIte,Nat.reduceEqDiff,Nat.reduceAdd,decide_true,decide_false,kLoop_def,Nat.reduceSub,List.cons_append,List.nil_append,List.append_nil,List.length_cons,List.length_nil]
  ·obtain ⟨f,hg⟩:=dw3
   exact ⟨f,by rw [get_put_ne' _ _ _ _ (by omega)];exact hg⟩) (by omega)
 exact ⟨a,b,t,hr.symm.trans e,st,hd',x0,x1,x2⟩
end Go.Proofs.Ytamlnddeiokbdaa.walk
