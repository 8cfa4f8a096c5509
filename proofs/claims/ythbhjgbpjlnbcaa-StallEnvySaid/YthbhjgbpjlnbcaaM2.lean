/- Lettings that may be: stall.Check of any valid letting. -/
import Derived.Test.YthbhjgbpjlnbcaaM1
import Derived.Test.YthbhjgbpjlnbcaaCodes
import Derived.Test.YthbhjgbpjlnbcaaAbsOps
import Derived.Test.YthbhjgbpjlnbcaaWalkAll
set_option maxHeartbeats 16000000
set_option linter.unusedVariables false
set_option maxRecDepth 10000
namespace Go.Proofs.Ythbhjgbpjlnbcaa.walk
open Go.Abs Go.Proofs.Ythbhjgbpjlnbcaa.code
theorem eq3 {f g:CallF→Env→St→ORes} (h:f=g) (cl:CallF) (L:Env) (s:St):f cl L s=g cl L s:=by rw [h]
structure StallR where (rule least heir:Int)
def StallR.cells (s:StallR):List AV:=[.int .i64 s.rule,.int .i64 s.least,.int .i64 s.heir]
structure Appl where
 (years token:Int)
 (wishes bids:List Int)
structure Letting where
 stalls:List StallR
 appls:List Appl
structure StallR.Ok (m:Nat) (s:StallR):Prop where
 r0:1≤s.rule
 r1:s.rule≤3
 l0:0≤s.least
 l1:s.least≤1000
 h0 : -1≤s.heir
 h1:s.heir<m
structure Appl.Ok (k:Nat) (a:Appl):Prop where
 y0:0≤a.years
 y1:a.years≤60
 t0:0≤a.token
 t1:a.token≤1000000000
 w:∀ x ∈ a.wishes,0≤x∧x<k
 nd:a.wishes.Nodup
 wl:a.wishes.length≤8
 bl:a.bids.length=a.wishes.length
 b:∀ x ∈ a.bids,0≤x∧x≤1000000
structure Letting.Ok (l:Letting):Prop where
 k0:1≤l.stalls.length
 k1:l.stalls.length≤8
 m1:l.appls.length≤8
 st:∀ s ∈ l.stalls,s.Ok l.appls.length
 ap:∀ a ∈ l.appls,a.Ok l.stalls.length
def Appl.row (a:Appl) (w:AV × AV):List AV:=[.int .i64 a.years,.int .i64 a.token,w.1,w.2]
def rowsOf (l:List Appl) (ws:List (AV × AV)):List (List AV):=List.zipWith Appl.row l ws
theorem rowsOf_len {l:List Appl} {ws:List (AV × AV)} (h:ws.length=l.length):(rowsOf l ws).length=l.length:=by unfold rowsOf;rw [List.length_zipWith,h,Nat.min_self]
structure LetAt (no na:Nat→Prop) (h:Heap) (n:Nat) (l:Letting) (vS vA:AV):Prop where
 st:Sl no h n 3 (l.stalls.map StallR.cells) vS
 ap:∃ ws:List (AV × AV),ws.length=l.appls.length∧Sl na h n 4 (rowsOf l.appls ws) vA∧∀ i (h1:i<ws.length) (h2:i<l.appls.length),Sl no h n 1 (intRows l.appls[i].wishes) ws[i].1∧Sl no h n 1 (intRows l.appls[i].bids) ws[i].2
abbrev letV (vS vA:AV):List AV:=[vS,vA]
section
variable {no na no' na':Nat→Prop} {h h':Heap} {n n':Nat} {l:Letting} {vS vA:AV}
theorem LetAt.move (r:LetAt no na h n l vS vA) (hh:∀ b,b<n→no b→h'.get b=h.get b∧no' b) (ha:∀ b,b<n→na b→h'.get b=h.get b∧na' b) (hn:n≤n'):LetAt no' na' h' n' l vS vA:=by
 obtain ⟨s,ws,q1,q2,q3⟩:=r
 exact ⟨s.move hh hn,ws,q1,q2.move ha hn,fun i h1 h2=>⟨(q3 i h1 h2).1.move hh hn,(q3 i h1 h2).2.move hh hn⟩⟩
theorem LetAt.grow (r:LetAt no na h n l vS vA) (hh:∀ b,b<n→h'.get b=h.get b) (hn:n≤n'):LetAt no na h' n' l vS vA:=r.move (fun b h1 h2=>⟨hh b h1,h2⟩) (fun b h1 h2=>⟨hh b h1,h2⟩) hn
theorem LetAt.lenS (r:LetAt no na h n l vS vA) (s:St):lenSlA s vS=.val (.int .i64 l.stalls.length) s:=by have:=r.st.len s;rwa [List.length_map] at this
theorem LetAt.lenA (r:LetAt no na h n l vS vA) (s:St):lenSlA s vA=.val (.int .i64 l.appls.length) s:=by
 obtain ⟨_,ws,q1,q2,q3⟩:=r
 have:=q2.len s
 rwa [rowsOf_len q1] at this
theorem LetAt.okS (r:LetAt no na h n l vS vA) (t:St):okA (.val vS t)=.val vS t:=r.st.okA t
theorem LetAt.okV (r:LetAt no na h n l vS vA) (t:St):okA (.val vA t)=.val vA t:=by obtain ⟨_,ws,q1,q2,q3⟩:=r;exact q2.okA t
theorem LetAt.scal (r:LetAt no na h n l vS vA):scalars [vS,vA]=true:=by
 obtain ⟨s,ws,q1,q2,q3⟩:=r
 rw [s.scal.2.2]
 exact q2.scal.1
theorem LetAt.getA (r:LetAt no na h n l vS vA) {i:Nat} (hi:i<l.appls.length):∃ (w:AV × AV) (b p:Nat) (c:List AV) (sz:Nat),b<n∧(∀ s,ixsA 4 s vA (.int .i64 (i:Int))=.val (.ptr b p) s)∧h.get b=some (.cells c sz)∧cut p 4 c=some [.int .i64 l.appls[i].years,.int .i64 l.appls[i].token,w.1,w.2]∧Sl no h n 1 (intRows l.appls[i].wishes) w.1∧Sl no h n 1 (intRows l.appls[i].bids) w.2:=by
 obtain ⟨s,ws,q1,q2,q3⟩:=r
 have hw:i<ws.length:=by omega
 obtain ⟨b,p,c,sz,z1,z2,z3,z4⟩:=q2.at_.at_ i (by rw [rowsOf_len q1];exact hi)
 have e:(rowsOf l.appls ws)[i]'(by rw [rowsOf_len q1];exact hi)=l.appls[i].row ws[i]:=by unfold rowsOf;exact List.getElem_zipWith ..
 rw [e] at z4
 exact ⟨ws[i],b,p,c,sz,z1,z2,z3,z4,q3 i hw hi⟩
theorem LetAt.getS (r:LetAt no na h n l vS vA) {i:Nat} (hi:i<l.stalls.length):∃ (b p:Nat) (c:List AV) (sz:Nat),b<n∧(∀ s,ixsA 3 s vS (.int .i64 (i:Int))=.val (.ptr b p) s)∧h.get b=some (.cells c sz)∧cut p 3 c=some [.int .i64 l.stalls[i].rule,.int .i64 l.stalls[i].least,.int .i64 l.stalls[i].heir]:=by
 obtain ⟨b,p,c,sz,z1,z2,z3,z4⟩:=r.st.at_.at_ i (by rw [List.length_map];exact hi)
 rw [List.getElem_map] at z4
 exact ⟨b,p,c,sz,z1,z2,z3,z4⟩
theorem LetAt.getA2 (r:LetAt no na h n l vS vA) {i:Nat} (hi:i<l.appls.length):∃ (w:AV × AV) (b p:Nat) (c:List AV) (sz:Nat),(b<n∧na b)∧(∀ s,ixsA 4 s vA (.int .i64 (i:Int))=.val (.ptr b p) s)∧h.get b=some (.cells c sz)∧cut p 4 c=some [.int .i64 l.appls[i].years,.int .i64 l.appls[i].token,w.1,w.2]∧Sl no h n 1 (intRows l.appls[i].wishes) w.1∧Sl no h n 1 (intRows l.appls[i].bids) w.2:=by
 obtain ⟨s,ws,q1,q2,q3⟩:=r
 have hw:i<ws.length:=by omega
 obtain ⟨b,p,c,sz,z1,z0,z2,z3,z4⟩:=q2.get (i:=i) (by rw [rowsOf_len q1];exact hi)
 have e:(rowsOf l.appls ws)[i]'(by rw [rowsOf_len q1];exact hi)=l.appls[i].row ws[i]:=by unfold rowsOf;exact List.getElem_zipWith ..
 rw [e] at z4
 exact ⟨ws[i],b,p,c,sz,⟨z1,z0⟩,z2,z3,z4,q3 i hw hi⟩
theorem LetAt.getS2 (r:LetAt no na h n l vS vA) {i:Nat} (hi:i<l.stalls.length):∃ (b p:Nat) (c:List AV) (sz:Nat),(b<n∧no b)∧(∀ s,ixsA 3 s vS (.int .i64 (i:Int))=.val (.ptr b p) s)∧h.get b=some (.cells c sz)∧cut p 3 c=some [.int .i64 l.stalls[i].rule,.int .i64 l.stalls[i].least,.int .i64 l.stalls[i].heir]:=by
 obtain ⟨b,p,c,sz,z1,z0,z2,z3,z4⟩:=r.st.get (i:=i) (by rw [List.length_map];exact hi)
 rw [List.getElem_map] at z4
 exact ⟨b,p,c,sz,⟨z1,z0⟩,z2,z3,z4⟩
end
theorem named_neg (N:Nat) (hN:1≤N) (hi:Int) (s:St) (hs:s.n≤far):call Try.prog X N (.fn 48) [.int .i64 (-1),.int .i64 hi] s=.val (.int .i64 3) s:=by
 obtain ⟨n,rfl⟩:∃ n,N=n+1:=⟨N - 1,by omega⟩
 refine call_plain (s':=⟨s.h,s.n,far⟩) Try.func48 ?_ rfl hs
 have e0:decide ((-1:Int)<0)=true:=rfl
 rw [enter48]
 simp only [res48,K48r0,K48r1s6,K48r1s5,K48r1s4,K48r1,K48r2,K48r3,K48,Abs.W,reduceIte,Nat.reduceEqDiff,Nat.reduceAdd,e0]
/-! ### Lists of numbers -/
theorem rowInt {h:Heap} {n:Nat} {l:List Int} {v:AV} (r:RowsAt h n 1 (intRows l) v) {i:Nat} (hi:i<l.length):∃ b p c sz,b<n∧(∀ s,ixsA 1 s v (.int .i64 (i:Int))=.val (.ptr b p) s)∧h.get b=some (.cells c sz)∧nth c p=.int .i64 l[i]:=by
 obtain ⟨b,p,c,sz,h1,h2,h3,h4⟩:=intRow_at r hi
 refine ⟨b,p,c,sz,h1,h2,h3,?_⟩
 rw [h4]
 simp [List.getD,hi]
theorem rowLen {h:Heap} {n:Nat} {l:List Int} {v:AV} (r:RowsAt h n 1 (intRows l) v) (s:St):lenSlA s v=.val (.int .i64 l.length) s:=by have:=r.len s;rwa [intRows_len] at this
theorem index_ex {N:Nat} {l:List Int} {x:Int} {v:AV} {s:St} {r:ARes} (hr:call Try.prog X N (.fn 83) [v,.int .i64 x] s=r) (hN:1≤N) (hR:RowsAt s.h s.n 1 (intRows l) v) (hl:l.length≤1000) (hs:s.n+10≤far) :
  ∃ i:Int,r=.val (.int .i64 i) s∧(0≤i↔x ∈ l):=by
 obtain ⟨n,rfl⟩:∃ n,N=n+1:=⟨N - 1,by omega⟩
 obtain ⟨w,e,i,rfl,hi⟩:=call_some (n:=n) (s:=s) (k:=0) (args:=[v,.int .i64 x]) (Q:=fun w=>∃ i:Int,w=.int .i64 i∧(0≤i↔x ∈ l)) Try.func83 (fun u uh un um=>by
  rw [← uh,← un] at hR
  have kv:∀ t,okA (.val v t)=.val v t:=fun t=>okA_ne hR.ne
  have lv:=rowLen hR
  have hf:far=1000000000:=rfl
  rw [enter83]
  simp (disch:=first|omega|(with_unfolding_all exact rfl)|(simp only[new_n,put_n,new_m];omega)|(refine put_m_le ?_;simp only[new_m];omega)) only [K83r0,K83r1,K83r7,K83,Abs.W,reduceIte,Nat.reduceEqDiff,Nat.reduceAdd,kLoop_def,lv]
  generalize hlp:loopN _ rounds _ _ _ _ _=q1
  obtain ⟨e,L1,s1,rfl,rfl,hQ⟩:=loop_of hlp (fun i L t=>t=u∧L.find 0=v∧L.find 1=.int .i64 x∧L.find 7=.int .i64 l.length∧L.find 8=.int .i64 i∧x ∉ l.take i)
   (fun e L t=>t=u∧((e=.ret∧∃ i:Nat,L.find 4=.int .i64 (i:Int)∧x ∈ l)∨(e=.exit 0∧x ∉ l))) l.length (by unfold rounds;omega)
   ⟨rfl,by simp only [find_cons,reduceIte,Nat.reduceEqDiff],by simp only [find_cons,reduceIte,Nat.reduceEqDiff],by simp only [find_cons,reduceIte,Nat.reduceEqDiff],by simp only [find_cons,reduceIte,Nat.reduceEqDiff];rfl,by simp⟩
   (fun i L t hi ⟨ht,q0,q1,q7,q8,hx⟩=>by
    subst ht
    by_cases hlt:i<l.length
    ·have e0:decide ((i:Int)<(l.length:Int))=true:=decide_eq_true (by omega)
     obtain ⟨b,p,c,sz,r1,r2,r3,r4⟩:=rowInt hR hlt
     have ad:∀ s,aAdd s .i64 (i:Int) 1=.val (.int .i64 ((i:Int)+1)) s:=fun s=>aAdd_i64 s _ _ (by omega)
     by_cases he:x=l[i]
     ·have e1:decide (x=l[i])=true:=decide_eq_true he
      refine .inr ⟨.ret,_,t,by simp,by
       simp (disch:=first|omega|(with_unfolding_all exact rfl)|(simp only[new_n,put_n,new_m];omega)|(refine put_m_le ?_;simp only[new_m];omega)) only [K83r2,K83r3,K83r4,K83r5,K83r6,K83l0,Abs.W,reduceIte,Nat.reduceEqDiff,efs,q0,q1,q7,q8,e0,r2,r3,r4,e1]
       rfl,rfl,.inl ⟨rfl,i,by simp only [efs,reduceIte,Nat.reduceEqDiff],by rw [he];exact List.getElem_mem hlt⟩⟩
     ·have e1:decide (x=l[i])=false:=decide_eq_false he
      refine .inl ⟨hlt,_,t,by
       simp (disch:=first|omega|(with_unfolding_all exact rfl)|(simp only[new_n,put_n,new_m];omega)|(refine put_m_le ?_;simp only[new_m];omega)) only [K83r2,K83r3,K83r4,K83r5,K83r6,K83l0,Abs.W,reduceIte,Nat.reduceEqDiff,efs,q0,q1,q7,q8,e0,r2,r3,r4,e1,ad]
       rfl,rfl,?_,?_,?_,?_,?_⟩
      ·simp only [efs,q0,reduceIte,Nat.reduceEqDiff]
      ·simp only [efs,q1,reduceIte,Nat.reduceEqDiff]
      ·simp only [efs,q7,reduceIte,Nat.reduceEqDiff]
      ·simp only [efs,reduceIte,Nat.reduceEqDiff];rfl
      ·rw [take_snoc hlt,List.mem_append,List.mem_singleton]
       exact fun h=>h.elim hx he
    ·obtain rfl:i=l.length:=by omega
     have e0:decide ((l.length:Int)<(l.length:Int))=false:=by simp
     refine .inr ⟨.exit 0,L.set 9 (.bool false),t,by simp,?_,rfl,.inr ⟨rfl,by rwa [List.take_length] at hx⟩⟩
     simp (disch:=first|omega|(with_unfolding_all exact rfl)|(simp only[new_n,put_n,new_m];omega)|(refine put_m_le ?_;simp only[new_m];omega)) only [K83r2,K83r3,K83r4,K83r5,K83r6,K83l0,Abs.W,reduceIte,efs,q7,q8,e0])
  have hB:Beside s1 s1 0:=Beside.refl s1 (by omega) um
  rcases hQ with ⟨rfl,i,h4,hx⟩ | ⟨rfl,hx⟩
  ·simp (disch:=first|omega|(with_unfolding_all exact rfl)|(simp only[new_n,put_n,new_m];omega)|(refine put_m_le ?_;simp only[new_m];omega)) only [res83,Abs.W,h4]
   exact ⟨_,_,rfl,hB,rfl,_,rfl,by simp [hx]⟩
  ·simp (disch:=first|omega|(with_unfolding_all exact rfl)|(simp only[new_n,put_n,new_m];omega)|(refine put_m_le ?_;simp only[new_m];omega)) only [res83,Abs.W,reduceIte,efs]
   exact ⟨_,_,rfl,hB,rfl,_,rfl,by simp [hx]⟩)
 exact ⟨i,hr.symm.trans e,hi⟩
theorem contains_ok (N:Nat) (hN:2≤N) (l:List Int) (x:Int) (v:AV) (s:St) (hR:RowsAt s.h s.n 1 (intRows l) v) (hl:l.length≤1000) (hs:s.n+20≤far) :
  call Try.prog X N (.fn 60) [v,.int .i64 x] s=.val (.bool (decide (x ∈ l))) s:=by
 obtain ⟨n,rfl⟩:∃ n,N=n+1:=⟨N - 1,by omega⟩
 refine call_plain' Try.func60 (fun u uh un um=>?_) rfl
 rw [← uh,← un] at hR
 have kv:∀ t,okA (.val v t)=.val v t:=fun t=>okA_ne hR.ne
 have hf:far=1000000000:=rfl
 rw [enter60]
 simp (disch:=first|omega|(with_unfolding_all exact rfl)|(simp only[new_n,put_n,new_m];omega)|(refine put_m_le ?_;simp only[new_m];omega)) only [K60r0,K60r1,K60,Abs.W,reduceIte,Nat.reduceEqDiff,Nat.reduceAdd]
 generalize hc:call _ _ _ (.fn 83) _ _=r1
 obtain ⟨i,rfl,hi⟩:=index_ex hc (by omega) hR hl (by omega)
 have e:decide (0≤i)=decide (x ∈ l):=by
  by_cases h:x ∈ l
  ·rw [decide_eq_true h,decide_eq_true (hi.mpr h)]
  ·rw [decide_eq_false h,decide_eq_false (fun h'=>h (hi.mp h'))]
 simp (disch:=first|omega|(with_unfolding_all exact rfl)|(simp only[new_n,put_n,new_m];omega)|(refine put_m_le ?_;simp only[new_m];omega)) only [res60,Abs.W,reduceIte,Nat.reduceEqDiff,e]
 exact ⟨_,rfl,by omega⟩
end Go.Proofs.Ythbhjgbpjlnbcaa.walk
set_option maxRecDepth 10000
namespace Go.Proofs.Ythbhjgbpjlnbcaa.walk
open Go.Abs Go.Proofs.Ythbhjgbpjlnbcaa.code
theorem not_mem_take {l:List Int} (h:l.Nodup) {i:Nat} (hi:i<l.length):l[i] ∉ l.take i:=by
 intro hm
 have h1:l=l.take i++l.drop i:=(List.take_append_drop i l).symm
 have h2:l[i] ∈ l.drop i:=by
  rw [List.drop_eq_getElem_cons hi];exact List.mem_cons_self ..
 rw [h1,List.nodup_append] at h
 exact h.2.2 _ hm _ h2 rfl
theorem intRows_take (l:List Int) (i:Nat):(intRows l).take i=intRows (l.take i):=by unfold intRows;rw [List.map_take]
theorem wishes_ok (N:Nat) (hN:3≤N) {no:Nat→Prop} (l:List Int) (k:Nat) (v:AV) (s:St) (hR:Sl no s.h s.n 1 (intRows l) v) (hl:l.length≤8) (hnd:l.Nodup) (hw:∀ x ∈ l,0≤x∧x<k) (hs:s.n+30≤far) :
  call Try.prog X N (.fn 67) [v,.int .i64 (k:Int)] s=.val (.int .i64 0) s:=by
 obtain ⟨n,rfl⟩:∃ n,N=n+1:=⟨N - 1,by omega⟩
 refine call_plain' Try.func67 (fun u uh un um=>?_) rfl
 rw [← uh,← un] at hR
 have kv:=hR.okA
 have lv:=rowLen hR.at_
 have hf:far=1000000000:=rfl
 have z0:decide ((0:Int)=0)=true:=rfl
 rw [enter67]
 simp (disch:=first|omega|(with_unfolding_all exact rfl)|(simp only[new_n,put_n,new_m];omega)|(refine put_m_le ?_;simp only[new_m];omega)) only [K67r0,K67r1,K67r10,K67,Abs.W,reduceIte,Nat.reduceEqDiff,Nat.reduceAdd,kLoop_def,lv]
 generalize hlp:loopN _ rounds _ _ _ _ _=q1
 obtain ⟨e,L1,s1,rfl,rfl,rfl⟩:=loop_of hlp (fun i L t=>t=u∧L.find 0=v∧L.find 1=.int .i64 (k:Int)∧L.find 8=v∧L.find 9=.int .i64 l.length∧L.find 10=.int .i64 i)
  (fun e L t=>e=.exit 0∧t=u) l.length (by unfold rounds;omega)
  ⟨rfl,by simp only [find_cons,reduceIte,Nat.reduceEqDiff],by simp only [find_cons,reduceIte,Nat.reduceEqDiff],by simp only [find_cons,reduceIte,Nat.reduceEqDiff],by simp only [find_cons,reduceIte,Nat.reduceEqDiff],by simp only [find_cons,reduceIte,Nat.reduceEqDiff];rfl⟩
  (fun i L t hi ⟨ht,q0,q1,q8,q9,q10⟩=>by
   subst ht
   by_cases hlt:i<l.length
   ·have e0:decide ((i:Int)<(l.length:Int))=true:=decide_eq_true (by omega)
    obtain ⟨b,p,c,sz,r1,r2,r3,r4⟩:=rowInt hR.at_ hlt
    obtain ⟨x0,x1⟩:=hw _ (List.getElem_mem hlt)
    obtain ⟨v',t1,t2⟩:=hR.to (i:=i) (by rw [intRows_len];omega)
    rw [intRows_take] at t2
    have ad:∀ s,aAdd s .i64 (i:Int) 1=.val (.int .i64 ((i:Int)+1)) s:=fun s=>aAdd_i64 s _ _ (by omega)
    have hc:=contains_ok n (by omega) (l.take i) l[i] v' t t2.at_ (by rw [List.length_take];omega) (by omega)
    rw [decide_eq_false (not_mem_take hnd hlt)] at hc
    have kv':=t2.okA
    refine .inl ⟨hlt,_,t,by
     simp (disch:=first|omega|(with_unfolding_all exact rfl)|(simp only[new_n,put_n,new_m];omega)|(refine put_m_le ?_;simp only[new_m];omega)) only [K67r2,K67r3,K67r4,K67r5,K67r6,K67r7,K67r8,K67r9,K67l0,Abs.W,reduceIte,Nat.reduceEqDiff,decide_true,efs,q0,q1,q8,q9,q10,e0,r2,r3,r4,named_ok,kSlice_def,optEv_some,optEv_none,t1,hc,ad]
     rfl,rfl,?_,?_,?_,?_,?_⟩
    ·simp only [efs,q0,reduceIte,Nat.reduceEqDiff]
    ·simp only [efs,q1,reduceIte,Nat.reduceEqDiff]
    ·simp only [efs,q8,reduceIte,Nat.reduceEqDiff]
    ·simp only [efs,q9,reduceIte,Nat.reduceEqDiff]
    ·simp only [efs,reduceIte,Nat.reduceEqDiff];rfl
   ·obtain rfl:i=l.length:=by omega
    have e0:decide ((l.length:Int)<(l.length:Int))=false:=by simp
    refine .inr ⟨.exit 0,L.set 11 (.bool false),t,by simp,?_,rfl,rfl⟩
    simp (disch:=first|omega|(with_unfolding_all exact rfl)|(simp only[new_n,put_n,new_m];omega)|(refine put_m_le ?_;simp only[new_m];omega)) only [K67r2,K67r3,K67r4,K67r5,K67r6,K67r7,K67r8,K67r9,K67l0,Abs.W,reduceIte,efs,q9,q10,e0])
 simp (disch:=first|omega|(with_unfolding_all exact rfl)|(simp only[new_n,put_n,new_m];omega)|(refine put_m_le ?_;simp only[new_m];omega)) only [res67,Abs.W,reduceIte,efs]
 exact ⟨_,rfl,by omega⟩
theorem bids_ok (N:Nat) (hN:3≤N) {no:Nat→Prop} (a b:AV) (l m:List Int) (v w:AV) (s:St) (hR:Sl no s.h s.n 1 (intRows l) v) (hQ:Sl no s.h s.n 1 (intRows m) w) (hl:l.length≤8) (hm:m.length=l.length) (hw:∀ x ∈ m,0≤x∧x≤1000000) (hs:s.n+30≤far) :
  call Try.prog X N (.fn 68) [.agg [a,b,v,w]] s=.val (.int .i64 0) s:=by
 obtain ⟨n,rfl⟩:∃ n,N=n+1:=⟨N - 1,by omega⟩
 refine call_plain' Try.func68 (fun u uh un um=>?_) rfl
 rw [← uh,← un] at hR hQ
 have kv:=hR.okA
 have lv:=rowLen hR.at_
 have kw:=hQ.okA
 have lw:=rowLen hQ.at_
 have hf:far=1000000000:=rfl
 have z0:decide ((0:Int)=0)=true:=rfl
 obtain ⟨t0,ht0⟩:∃ t0:St,t0=u.new (.cells [a,b,v,w] (tag 37)):=⟨_,rfl⟩
 have tn:t0.n=u.n+1:=by rw [ht0];rfl
 have tm:t0.m=far:=by rw [ht0];exact um
 have tg:∀ c,c<u.n→t0.h.get c=u.h.get c:=fun c hc=>by rw [ht0,get_new_ne _ _ _ (by omega)]
 have t00:t0.h.get u.n=some (.cells [a,b,v,w] (tag 37)):=by rw [ht0];exact get_new_eq _ _ _ rfl (by omega)
 have hQ:=hQ.grow tg (by omega:u.n≤t0.n)
 have el:decide ((m.length:Int)=(l.length:Int))=true:=decide_eq_true (by omega)
 rw [enter68]
 simp (disch:=first|omega|(with_unfolding_all exact rfl)|(simp only[new_n,put_n,new_m];omega)|(refine put_m_le ?_;simp only[new_m];omega)) only [K68,K68r0,Abs.W,reduceIte,Nat.reduceEqDiff,Nat.reduceAdd]
 rw [← ht0]
 simp (disch:=first|omega|(with_unfolding_all exact rfl)|(simp only[new_n,put_n,new_m];omega)|(refine put_m_le ?_;simp only[new_m];omega)) only [K68r1,K68r2,K68r3,K68r10,Abs.W,reduceIte,Nat.reduceEqDiff,kLoop_def,Nat.reduceSub,t00,kv,lv,kw,lw,el,Nat.zero_add]
 generalize hlp:loopN _ rounds _ _ _ _ _=q1
 obtain ⟨e,L1,s1,rfl,rfl,rfl⟩:=loop_of hlp (fun i L t=>t=t0∧L.find 14=w∧L.find 15=.int .i64 m.length∧L.find 16=.int .i64 i)
  (fun e L t=>e=.exit 0∧t=t0) m.length (by unfold rounds;omega)
  ⟨rfl,by simp only [find_cons,reduceIte,Nat.reduceEqDiff],by simp only [find_cons,reduceIte,Nat.reduceEqDiff],by simp only [find_cons,reduceIte,Nat.reduceEqDiff];rfl⟩
  (fun i L t hi ⟨ht,q14,q15,q16⟩=>by
   subst ht
   by_cases hlt:i<m.length
   ·have e0:decide ((i:Int)<(m.length:Int))=true:=decide_eq_true (by omega)
    obtain ⟨b,p,c,sz,r1,r2,r3,r4⟩:=rowInt hQ.at_ hlt
    obtain ⟨x0,x1⟩:=hw _ (List.getElem_mem hlt)
    have ad:∀ s,aAdd s .i64 (i:Int) 1=.val (.int .i64 ((i:Int)+1)) s:=fun s=>aAdd_i64 s _ _ (by omega)
    refine .inl ⟨hlt,_,t,by
     simp (disch:=first|omega|(with_unfolding_all exact rfl)|(simp only[new_n,put_n,new_m];omega)|(refine put_m_le ?_;simp only[new_m];omega)) only [K68r4,K68r5,K68r6,K68r7,K68r8,K68r9,K68l0,Abs.W,reduceIte,Nat.reduceEqDiff,decide_true,efs,q14,q15,q16,e0,r2,r3,r4,within_ok,ad]
     rfl,rfl,?_,?_,?_⟩
    ·simp only [efs,q14,reduceIte,Nat.reduceEqDiff]
    ·simp only [efs,q15,reduceIte,Nat.reduceEqDiff]
    ·simp only [efs,reduceIte,Nat.reduceEqDiff];rfl
   ·obtain rfl:i=m.length:=by omega
    have e0:decide ((m.length:Int)<(m.length:Int))=false:=by simp
    refine .inr ⟨.exit 0,L.set 17 (.bool false),t,by simp,?_,rfl,rfl⟩
    simp (disch:=first|omega|(with_unfolding_all exact rfl)|(simp only[new_n,put_n,new_m];omega)|(refine put_m_le ?_;simp only[new_m];omega)) only [K68r4,K68r5,K68r6,K68r7,K68r8,K68r9,K68l0,Abs.W,reduceIte,efs,q15,q16,e0])
 simp (disch:=first|omega|(with_unfolding_all exact rfl)|(simp only[new_n,put_n,new_m];omega)|(refine put_m_le ?_;simp only[new_m];omega)) only [res68,Abs.W,reduceIte,efs]
 exact ⟨_,rfl,by omega⟩
theorem stalls_ok (N:Nat) (hN:3≤N) {no na:Nat→Prop} (l:Letting) (ok:l.Ok) (vS vA:AV) (s:St) (hL:LetAt no na s.h s.n l vS vA) (hs:s.n+1000≤far) :
  call Try.prog X N (.fn 51) [.agg (letV vS vA)] s=.val (.int .i64 0) s:=by
 obtain ⟨n,rfl⟩:∃ n,N=n+1:=⟨N - 1,by omega⟩
 refine call_plain' Try.func51 (fun u uh un um=>?_) rfl
 have hf:far=1000000000:=rfl
 rw [← uh,← un] at hL
 have kS:=hL.okS
 have kA:=hL.okV
 have lS:=hL.lenS
 have lA:=hL.lenA
 have z0:decide ((0:Int)=0)=true:=rfl
 have z3:decide ((3:Int)=0)=false:=rfl
 obtain ⟨w,hw⟩:∃ w:St,w=u.new (.cells [vS,vA] (tag 28)):=⟨_,rfl⟩
 have wn:w.n=u.n+1:=by rw [hw];rfl
 have wm:w.m=far:=by rw [hw];exact um
 have wg:∀ c,c<u.n→w.h.get c=u.h.get c:=fun c hc=>by rw [hw,get_new_ne _ _ _ (by omega)]
 have w0:w.h.get u.n=some (.cells [vS,vA] (tag 28)):=by rw [hw];exact get_new_eq _ _ _ rfl (by omega)
 have hM:=hL.grow wg (by omega:u.n≤w.n)
 have k0:=ok.k0
 have k1:=ok.k1
 have m1:=ok.m1
 rw [enter51]
 simp (disch:=first|omega|(with_unfolding_all exact rfl)|(simp only[new_n,put_n,new_m];omega)|(refine put_m_le ?_;simp only[new_m];omega)) only [K51,K51r0,Abs.W,reduceIte,Nat.reduceEqDiff,Nat.reduceAdd]
 rw [← hw]
 simp (disch:=first|omega|(with_unfolding_all exact rfl)|(simp only[new_n,put_n,new_m];omega)|(refine put_m_le ?_;simp only[new_m];omega)) only [K51r1,K51r2,K51r3,K51r4,K51r16,Abs.W,reduceIte,Nat.reduceEqDiff,decide_true,kLoop_def,Nat.reduceSub,w0,kS,lS,counted_ok,Nat.zero_add]
 generalize hl1:loopN _ rounds _ _ _ _ _=q1
 obtain ⟨e,L1,s1,rfl,rfl,hE⟩:=loop_of hl1
  (fun i L' t=>L'.find 1=.ptr u.n 0∧L'.find 16=vS∧L'.find 17=.int .i64 l.stalls.length∧L'.find 18=.int .i64 i∧Beside w t (10 * i))
  (fun e L1 s1=>e=.exit 0∧Beside w s1 (10 * l.stalls.length))
  l.stalls.length (by unfold rounds;omega) ⟨by simp only [find_cons,reduceIte,Nat.reduceEqDiff],by simp only [find_cons,reduceIte,Nat.reduceEqDiff],by simp only [find_cons,reduceIte,Nat.reduceEqDiff],by simp only [find_cons,reduceIte,Nat.reduceEqDiff];rfl,Beside.refl w (by omega) wm⟩
  (fun i L' t hi ⟨q1,q16,q17,q18,hE⟩=>by
   have tn:=hE.n
   have tl:=hE.le
   have tm:=hE.m
   have tf:=hE.far
   by_cases hlt:i<l.stalls.length
   ·have e0:decide ((i:Int)<(l.stalls.length:Int))=true:=decide_eq_true (by omega)
    obtain ⟨p,o,cs,sz,r1,r2,r3,r4⟩:=(hM.grow hE.same tn).getS hlt
    obtain ⟨s0,s1,d0,d1,h0,h1⟩:=ok.st _ (List.getElem_mem hlt)
    generalize l.stalls[i]=M at *
    have gg:=(hE.same u.n (by omega)).trans w0
    have ad:∀ s,aAdd s .i64 (i:Int) 1=.val (.int .i64 ((i:Int)+1)) s:=fun s=>aAdd_i64 s _ _ (by omega)
    have a1:decide (M.rule<1)=false:=decide_eq_false (by omega)
    have a2:decide ((3:Int)<M.rule)=false:=decide_eq_false (by omega)
    by_cases hh:M.heir = -1
    ·rw [hh] at r4
     have a3:decide ((-1:Int) = -1)=true:=rfl
     refine .inl ⟨hlt,_,_,by
      simp (disch:=first|omega|(with_unfolding_all exact rfl)|(simp only[new_n,put_n,new_m];omega)|(refine put_m_le ?_;simp only[new_m];omega)) only [K51r5,K51r6,K51r7s7,K51r7s6,K51r7s5,K51r7,K51r8,K51r9,K51r10,K51r11,K51r12,K51r13s6,K51r13s5,K51r13,K51r14,K51r15,K51l0,Abs.W,reduceIte,Nat.reduceEqDiff,Nat.reduceAdd,decide_true,Nat.reduceSub,efs,q1,q16,q17,q18,e0,r2,r3,r4,gg,kA,lA,a1,a2,named_neg,within_ok,ad,Nat.zero_add]
      rfl,?_,?_,?_,?_,(((hE.new _).put _ tn)).mono (by omega)⟩
     ·simp only [efs,q1,reduceIte,Nat.reduceEqDiff]
     ·simp only [efs,q16,reduceIte,Nat.reduceEqDiff]
     ·simp only [efs,q17,reduceIte,Nat.reduceEqDiff]
     ·simp only [efs,reduceIte,Nat.reduceEqDiff];rfl
    ·have a3:decide (M.heir = -1)=false:=decide_eq_false hh
     have nk:=fun (s:St) (hs:s.n≤far)=>named_ok n (by omega) M.heir (l.appls.length:Int) s (by omega) (by omega) hs
     refine .inl ⟨hlt,_,_,by
      simp (disch:=first|omega|(with_unfolding_all exact rfl)|(simp only[new_n,put_n,new_m];omega)|(refine put_m_le ?_;simp only[new_m];omega)) only [K51r5,K51r6,K51r7s7,K51r7s6,K51r7s5,K51r7,K51r8,K51r9,K51r10,K51r11,K51r12,K51r13s6,K51r13s5,K51r13,K51r14,K51r15,K51l0,Abs.W,reduceIte,Nat.reduceEqDiff,Nat.reduceAdd,decide_true,Nat.reduceSub,efs,q1,q16,q17,q18,e0,r2,r3,r4,gg,kA,lA,a1,a2,a3,nk,within_ok,ad,Nat.zero_add]
      rfl,?_,?_,?_,?_,(((hE.new _).put _ tn)).mono (by omega)⟩
     ·simp only [efs,q1,reduceIte,Nat.reduceEqDiff]
     ·simp only [efs,q16,reduceIte,Nat.reduceEqDiff]
     ·simp only [efs,q17,reduceIte,Nat.reduceEqDiff]
     ·simp only [efs,reduceIte,Nat.reduceEqDiff];rfl
   ·obtain rfl:i=l.stalls.length:=by omega
    have e0:decide ((l.stalls.length:Int)<(l.stalls.length:Int))=false:=by simp
    refine .inr ⟨.exit 0,L'.set 19 (.bool false),t,by simp,?_,rfl,hE⟩
    simp (disch:=first|omega|(with_unfolding_all exact rfl)|(simp only[new_n,put_n,new_m];omega)|(refine put_m_le ?_;simp only[new_m];omega)) only [K51r5,K51r6,K51r7s7,K51r7s6,K51r7s5,K51r7,K51r8,K51r9,K51r10,K51r11,K51r12,K51r13s6,K51r13s5,K51r13,K51r14,K51r15,K51l0,Abs.W,reduceIte,efs,q17,q18,e0])
 simp (disch:=first|omega|(with_unfolding_all exact rfl)|(simp only[new_n,put_n,new_m];omega)|(refine put_m_le ?_;simp only[new_m];omega)) only [res51,Abs.W,reduceIte,efs]
 refine ⟨s1,rfl,?_⟩
 have:=hE.m
 omega
theorem appls_ok (N:Nat) (hN:5≤N) {no na:Nat→Prop} (l:Letting) (ok:l.Ok) (vS vA:AV) (s:St) (hL:LetAt no na s.h s.n l vS vA) (hs:s.n+1000≤far) :
  call Try.prog X N (.fn 52) [.agg (letV vS vA)] s=.val (.int .i64 0) s:=by
 obtain ⟨n,rfl⟩:∃ n,N=n+1:=⟨N - 1,by omega⟩
 refine call_plain' Try.func52 (fun u uh un um=>?_) rfl
 have hf:far=1000000000:=rfl
 rw [← uh,← un] at hL
 have kS:=hL.okS
 have kA:=hL.okV
 have lS:=hL.lenS
 have lA:=hL.lenA
 have z0:decide ((0:Int)=0)=true:=rfl
 obtain ⟨w,hw⟩:∃ w:St,w=u.new (.cells [vS,vA] (tag 28)):=⟨_,rfl⟩
 have wn:w.n=u.n+1:=by rw [hw];rfl
 have wm:w.m=far:=by rw [hw];exact um
 have wg:∀ c,c<u.n→w.h.get c=u.h.get c:=fun c hc=>by rw [hw,get_new_ne _ _ _ (by omega)]
 have w0:w.h.get u.n=some (.cells [vS,vA] (tag 28)):=by rw [hw];exact get_new_eq _ _ _ rfl (by omega)
 have hM:=hL.grow wg (by omega:u.n≤w.n)
 have k0:=ok.k0
 have k1:=ok.k1
 have m1:=ok.m1
 rw [enter52]
 simp (disch:=first|omega|(with_unfolding_all exact rfl)|(simp only[new_n,put_n,new_m];omega)|(refine put_m_le ?_;simp only[new_m];omega)) only [K52,K52r0,Abs.W,reduceIte,Nat.reduceEqDiff,Nat.reduceAdd]
 rw [← hw]
 simp (disch:=first|omega|(with_unfolding_all exact rfl)|(simp only[new_n,put_n,new_m];omega)|(refine put_m_le ?_;simp only[new_m];omega)) only [K52r1,K52r2,K52r3,K52r4,K52r11,Abs.W,reduceIte,Nat.reduceEqDiff,decide_true,kLoop_def,Nat.reduceSub,w0,kA,lA,counted_ok,Nat.zero_add]
 generalize hl1:loopN _ rounds _ _ _ _ _=q1
 obtain ⟨e,L1,s1,rfl,rfl,hE⟩:=loop_of hl1
  (fun i L' t=>L'.find 1=.ptr u.n 0∧L'.find 15=vA∧L'.find 16=.int .i64 l.appls.length∧L'.find 17=.int .i64 i∧Beside w t (10 * i))
  (fun e L1 s1=>e=.exit 0∧Beside w s1 (10 * l.appls.length))
  l.appls.length (by unfold rounds;omega) ⟨by simp only [find_cons,reduceIte,Nat.reduceEqDiff],by simp only [find_cons,reduceIte,Nat.reduceEqDiff],by simp only [find_cons,reduceIte,Nat.reduceEqDiff],by simp only [find_cons,reduceIte,Nat.reduceEqDiff];rfl,Beside.refl w (by omega) wm⟩
  (fun i L' t hi ⟨q1,q15,q16,q17,hE⟩=>by
   have tn:=hE.n
   have tl:=hE.le
   have tm:=hE.m
   have tf:=hE.far
   by_cases hlt:i<l.appls.length
   ·have e0:decide ((i:Int)<(l.appls.length:Int))=true:=decide_eq_true (by omega)
    have hT:=hM.grow hE.same tn
    obtain ⟨ww,p,o,cs,sz,r1,r2,r3,r4,r5,r6⟩:=hT.getA hlt
    obtain ⟨y0,y1,t0,t1,wk,nd,wl,bl,bb⟩:=ok.ap _ (List.getElem_mem hlt)
    obtain ⟨ww1,ww2⟩:=ww
    simp only at r4 r5 r6
    have gg:=(hE.same u.n (by omega)).trans w0
    generalize l.appls[i]=M at *
    have ad:∀ s,aAdd s .i64 (i:Int) 1=.val (.int .i64 ((i:Int)+1)) s:=fun s=>aAdd_i64 s _ _ (by omega)
    obtain ⟨y,hy⟩:∃ y:St,y=(t.new (.cells [.int .i64 0,.int .i64 0,.nilslice,.nilslice] (tag 37))).put t.n (.cells [.int .i64 M.years,.int .i64 M.token,ww1,ww2] (tag 37)):=⟨_,rfl⟩
    have yn:y.n=t.n+1:=by rw [hy];rfl
    have ym:y.m=min t.m t.n:=by rw [hy];simp only [St.put,minN_eq,new_m]
    have yg:∀ c,c<t.n→y.h.get c=t.h.get c:=fun c hc=>by rw [hy,get_put_ne' _ _ _ _ (by omega),get_new_ne _ _ _ (by omega)]
    have yp:y.h.get t.n=some (.cells [.int .i64 M.years,.int .i64 M.token,ww1,ww2] (tag 37)):=by rw [hy];exact get_put_eq _ _ _ _ rfl (by omega)
    have hb:Beside w y (10 * i+1):=by rw [hy];exact (hE.new _).put _ tn
    have r5y:=r5.grow yg (by omega:t.n≤y.n)
    have r6y:=r6.grow yg (by omega:t.n≤y.n)
    have k5:=r5.okA
    have k6:=r6.okA
    have sc:scalars [.int .i64 M.years,.int .i64 M.token,ww1,ww2]=true:=by
     rw [scal_int,scal_int,r5.scal.2.2];exact r6.scal.1
    have gy:=(yg u.n (by omega)).trans gg
    have c1:=wishes_ok n (by omega) M.wishes l.stalls.length ww1 ⟨y.h,y.n,far⟩ r5y wl nd wk (by show y.n+30≤far;omega)
    have c2:=bids_ok n (by omega) (.int .i64 M.years) (.int .i64 M.token) M.wishes M.bids ww1 ww2 y r5y r6y wl bl bb (by omega)
    have co:=or_new4 n (by omega) y (by omega)
    refine .inl ⟨hlt,_,_,by
     simp (disch:=first|omega|(with_unfolding_all exact rfl)|(simp only[new_n,put_n,new_m];omega)|(refine put_m_le ?_;simp only[new_m];omega)) only [K52r5,K52r6,K52r7,K52r8,K52r9,K52r10,K52l0,Abs.W,reduceIte,Nat.reduceEqDiff,Nat.reduceAdd,Nat.reduceSub,efs,q15,q16,q17,e0,r2,r3,r4,sc,Nat.zero_add]
     rw [← hy]
     simp (disch:=first|omega|(with_unfolding_all exact rfl)|(simp only[new_n,put_n,new_m];omega)|(refine put_m_le ?_;simp only[new_m];omega)) only [Abs.W,reduceIte,Nat.reduceEqDiff,decide_true,Nat.reduceSub,efs,q1,q17,yp,gy,kS,k5,lS,c1,c2,co,within_ok,ad,Nat.zero_add]
     rfl,?_,?_,?_,?_,(hb.new _).mono (by omega)⟩
    ·simp only [efs,q1,reduceIte,Nat.reduceEqDiff]
    ·simp only [efs,q15,reduceIte,Nat.reduceEqDiff]
    ·simp only [efs,q16,reduceIte,Nat.reduceEqDiff]
    ·simp only [efs,reduceIte,Nat.reduceEqDiff];rfl
   ·obtain rfl:i=l.appls.length:=by omega
    have e0:decide ((l.appls.length:Int)<(l.appls.length:Int))=false:=by simp
    refine .inr ⟨.exit 0,L'.set 18 (.bool false),t,by simp,?_,rfl,hE⟩
    simp (disch:=first|omega|(with_unfolding_all exact rfl)|(simp only[new_n,put_n,new_m];omega)|(refine put_m_le ?_;simp only[new_m];omega)) only [K52r5,K52r6,K52r7,K52r8,K52r9,K52r10,K52l0,Abs.W,reduceIte,efs,q16,q17,e0])
 simp (disch:=first|omega|(with_unfolding_all exact rfl)|(simp only[new_n,put_n,new_m];omega)|(refine put_m_le ?_;simp only[new_m];omega)) only [res52,Abs.W,reduceIte,efs]
 refine ⟨s1,rfl,?_⟩
 have:=hE.m
 omega
theorem check_ok (N:Nat) (hN:6≤N) {no na:Nat→Prop} (l:Letting) (ok:l.Ok) (vS vA:AV) (s:St) (hL:LetAt no na s.h s.n l vS vA) (hs:s.n+2000≤far) :
  call Try.prog X N (.fn 35) [.agg (letV vS vA)] s=.val (.int .i64 0) s:=by
 obtain ⟨n,rfl⟩:∃ n,N=n+1:=⟨N - 1,by omega⟩
 refine call_plain' Try.func35 (fun u uh un um=>?_) rfl
 have hf:far=1000000000:=rfl
 rw [← uh,← un] at hL
 obtain ⟨w,hw⟩:∃ w:St,w=u.new (.cells [vS,vA] (tag 28)):=⟨_,rfl⟩
 have wn:w.n=u.n+1:=by rw [hw];rfl
 have wm:w.m=far:=by rw [hw];exact um
 have wg:∀ c,c<u.n→w.h.get c=u.h.get c:=fun c hc=>by rw [hw,get_new_ne _ _ _ (by omega)]
 have w0:w.h.get u.n=some (.cells [vS,vA] (tag 28)):=by rw [hw];exact get_new_eq _ _ _ rfl (by omega)
 have hM:=hL.grow wg (by omega:u.n≤w.n)
 have c1:=stalls_ok n (by omega) l ok vS vA w hM (by omega)
 have c2:=appls_ok n (by omega) l ok vS vA w hM (by omega)
 have z0:decide ((0:Int)=0)=true:=rfl
 rw [enter35]
 simp (disch:=first|omega|(with_unfolding_all exact rfl)|(simp only[new_n,put_n,new_m];omega)|(refine put_m_le ?_;simp only[new_m];omega)) only [K35,K35r0,Abs.W,reduceIte,Nat.reduceEqDiff,Nat.reduceAdd]
 rw [← hw]
 simp (disch:=first|omega|(with_unfolding_all exact rfl)|(simp only[new_n,put_n,new_m];omega)|(refine put_m_le ?_;simp only[new_m];omega)) only [res35,K35r1,K35r2,K35r3,K35r4,Abs.W,reduceIte,Nat.reduceEqDiff,decide_true,Nat.reduceSub,w0,c1,c2]
 exact ⟨_,rfl,by omega⟩
end Go.Proofs.Ythbhjgbpjlnbcaa.walk
set_option maxRecDepth 10000
namespace Go.Proofs.Ythbhjgbpjlnbcaa.walk
open Go.Abs Go.Proofs.Ythbhjgbpjlnbcaa.code
structure Bedd (u t:St) (l w kk:Nat) (own:Nat→Prop):Prop where
 same:∀ y,y<u.n→y≠l→¬ own y→t.h.get y=u.h.get y
 n:u.n≤t.n
 le:t.n≤u.n+kk
 m:w≤t.m
 mle:t.m≤far
def ev2 (x:Int × Int):List AV:=[.int .i64 x.1,.int .i64 x.2]
theorem take_split {α:Type} {l:List α} {i:Nat} (h:i<l.length):l.take i++l[i]::l.drop (i+1)=l:=by rw [← List.drop_eq_getElem_cons h,List.take_append_drop]
theorem exists_first {n:Nat} {R:St→Nat→Prop} {Q:St→Nat→Prop} (k:Nat) (hk:n≤k) (h:∃ s',R s' k∧Q s' k):∃ s' k1,n≤k1∧R s' k1∧Q s' k1:=by
 obtain ⟨s',h1,h2⟩:=h
 exact ⟨s',k,hk,h1,h2⟩
theorem wish_round (N:Nat) (cx:Ctx) {l k0 w rm p i kk nb k1:Nat} {own rd:Nat→Prop} {μ:List (Int × Int)→Nat→Prop} {J:List (Int × Int)→Heap→Nat→Prop} {D:List (Int × Int)→Int × Int→Nat→Heap→Nat→Prop} {wl bl:List Int} {y1 y2 wv bv:AV} {u t:St} {L:Env} (hT:Takes Try.prog X N l k0 w rm k1 own ev2 (wl.zip bl) μ J D) (hk1:k1=u.n) (hl:wl.length≤8) (hbl:bl.length=wl.length)
  (hW:Sl rd u.h nb 1 (intRows wl) wv) (hB:Sl rd u.h nb 1 (intRows bl) bv) (gp:u.h.get p=some (.cells [y1,y2,wv,bv] (tag 37))) (hp:rd p) (ho:∀ y,own y→¬ rd y∧y≤l) (hrl:¬ rd l) (hru:∀ y,rd y→y<u.n) (hlu:l<u.n) (hs:u.n+kk+rm+500≤far) (hi:i<wl.length)
  (q0:L.find 0=.yield l) (q1:L.find 1=.ptr p 0) (q6:L.find 6=wv) (q7:L.find 7=.int .i64 wl.length) (q8:L.find 8=.int .i64 i) (hD:Bedd u t l w kk own) (hz:(i=0∨t.m≤l)∧μ ((wl.zip bl).take i) t.m) (hJ:J ((wl.zip bl).take i) t.h t.n) :
  ∃ e L1 t1,K71l0 (call Try.prog X N) cx L [] t=.done e L1 [] t1∧Bedd u t1 l w (kk+k0) own∧t1.m≤l∧((e=.norm∧(J ((wl.zip bl).take (i+1)) t1.h t1.n∧μ ((wl.zip bl).take (i+1)) t1.m)∧L1.find 0=.yield l∧L1.find 1=.ptr p 0∧L1.find 6=wv∧L1.find 7=.int .i64 wl.length∧L1.find 8=.int .i64 (i+1:Nat))∨(e=.ret∧∃ x rest k,(wl.zip bl).take i++x::rest=wl.zip bl∧D ((wl.zip bl).take i) x k t1.h t1.n∧μ ((wl.zip bl).take i++[x]) t1.m)):=by
 have hf:far=1000000000:=rfl
 obtain ⟨same,tn,tk,tm,tf⟩:=hD
 have e0:decide ((i:Int)<(wl.length:Int))=true:=decide_eq_true (by omega)
 have tg:∀ y,rd y→t.h.get y=u.h.get y:=fun y hy=>same y (hru y hy) (fun e=>hrl (e▸hy)) (fun h=>(ho y h).1 hy)
 have hWt:=hW.move (h':=t.h) (n':=nb) (fun b _ h=>⟨tg b h,h⟩) (Nat.le_refl _)
 have hBt:=hB.move (h':=t.h) (n':=nb) (fun b _ h=>⟨tg b h,h⟩) (Nat.le_refl _)
 obtain ⟨b1,p1,c1,sz1,r1,r2,r3,r4⟩:=rowInt hWt.at_ hi
 obtain ⟨b2,p2,c2,sz2,s1,s2,s3,s4⟩:=rowInt hBt.at_ (show i<bl.length by omega)
 have gt:=(tg p hp).trans gp
 have kb:∀ t,okA (.val bv t)=.val bv t:=hB.okA
 have hz2:i<(wl.zip bl).length:=by rw [List.length_zip];omega
 have hx:(wl.zip bl)[i]=(wl[i],bl[i]):=List.getElem_zip
 have hsp:=take_split hz2
 rw [hx] at hsp
 have ad:∀ s,aAdd s .i64 (i:Int) 1=.val (.int .i64 ((i:Int)+1)) s:=fun s=>aAdd_i64 s _ _ (by omega)
 obtain ⟨c,s2',e2,f1,f2,f3,f4,f5,f6,f7,f8,f9⟩:=hT.take _ _ _ t hsp hJ (by omega) (by omega) tm tf hz.2
 have e2':call Try.prog X N (.yield l) [.int .i64 wl[i],.int .i64 bl[i]] t=.val (.bool c) s2':=e2
 have tks:(wl.zip bl).take (i+1)=(wl.zip bl).take i++[(wl[i],bl[i])]:=by rw [take_snoc hz2,hx]
 cases c with
 | true =>
  refine ⟨.norm,_,s2',by
   simp (disch:=first|omega|(with_unfolding_all exact rfl)|(simp only[new_n,put_n,new_m];omega)|(refine put_m_le ?_;simp only[new_m];omega)) only [K71l0,K71r1,K71r2,K71r3,K71r4,Abs.W,reduceIte,Nat.reduceEqDiff,Nat.reduceSub,efs,Nat.zero_add,q0,q1,q6,q7,q8,e0,r2,r3,r4,s2,s3,s4,gt,kb,e2',ad]
   rfl,⟨fun y hy h1 h2=>(f3 y (by omega) h1 h2).trans (same y hy h1 h2),by omega,by omega,f6,by omega⟩,f8,.inl ⟨rfl,by rw [tks];exact ⟨f1 rfl,f9⟩,?_,?_,?_,?_,?_⟩⟩
  ·simp only [efs,q0,reduceIte,Nat.reduceEqDiff]
  ·simp only [efs,q1,reduceIte,Nat.reduceEqDiff]
  ·simp only [efs,q6,reduceIte,Nat.reduceEqDiff]
  ·simp only [efs,q7,reduceIte,Nat.reduceEqDiff]
  ·simp only [efs,reduceIte,Nat.reduceEqDiff];rfl
 | false =>
  exact ⟨.ret,_,s2',by
   simp (disch:=first|omega|(with_unfolding_all exact rfl)|(simp only[new_n,put_n,new_m];omega)|(refine put_m_le ?_;simp only[new_m];omega)) only [K71l0,K71r1,K71r2,K71r3,K71r4,Abs.W,reduceIte,Nat.reduceEqDiff,Nat.reduceSub,efs,Nat.zero_add,q0,q1,q6,q7,q8,e0,r2,r3,r4,s2,s3,s4,gt,kb,e2']
   rfl,⟨fun y hy h1 h2=>(f3 y (by omega) h1 h2).trans (same y hy h1 h2),by omega,by omega,f6,by omega⟩,f8,.inr ⟨rfl,_,_,_,hsp,f2 rfl,f9⟩⟩
theorem wishes1_hands {N p nb:Nat} {wl bl:List Int} {y1 y2 wv bv:AV} {H:Heap} {rd:Nat→Prop} (hl:wl.length≤8) (hbl:bl.length=wl.length) (hW:Sl rd H nb 1 (intRows wl) wv) (hB:Sl rd H nb 1 (intRows bl) bv) (gp:H.get p=some (.cells [y1,y2,wv,bv] (tag 37))) (hp:rd p) :
  Hands Try.prog X N (N+1) 1 H rd 71 [.ptr p 0] ev2 (wl.zip bl):=by
 intro l k0 w rm own μ J0 D0 s hT0 ho hrl hH hl' hw hs hJ0 hwm hm
 have hT:=hT0 s.n (Nat.le_refl _)
 have hJ:=hJ0 s.n (Nat.le_refl _)
 refine exists_first s.n (Nat.le_refl _) ?_
 clear hT0 hJ0
 generalize J0 s.n=J at hT hJ ⊢
 generalize D0 s.n=D at hT ⊢
 have hf:far=1000000000:=rfl
 have hkm:∀ i,i≤8→k0 * i≤k0 * 8:=fun i hi=>Nat.mul_le_mul_left _ hi
 have zl:(wl.zip bl).length=wl.length:=by rw [List.length_zip];omega
 obtain ⟨v',t,mm,e,⟨rfl,a1,a2,a3,a4,a5,a6,a7⟩,hm'⟩:=call_any (n:=N) (args:=[.yield l,.ptr p 0]) (s:=s) (Q:=fun v h n m'=>v=.tup []∧Ended (wl.zip bl) μ J D h n m'∧(∀ y,y<s.n→y≠l→¬ own y→h.get y=s.h.get y)∧s.n≤n∧n≤s.n+k0 * 8∧w≤m'∧m'≤far∧(wl.zip bl=[]∨m'≤l)) Try.func71 rfl (fun u uh un um=>by
  have hWu:=hW.move (h':=u.h) (n':=nb) (no':=rd) (fun y _ hy=>⟨by rw [uh];exact (hH y hy).2,hy⟩) (Nat.le_refl _)
  have hBu:=hB.move (h':=u.h) (n':=nb) (no':=rd) (fun y _ hy=>⟨by rw [uh];exact (hH y hy).2,hy⟩) (Nat.le_refl _)
  have gpu:u.h.get p=some (.cells [y1,y2,wv,bv] (tag 37)):=by rw [uh,(hH p hp).2];exact gp
  have kv:=hWu.okA
  have lv:=rowLen hWu.at_
  rw [enter71]
  simp (disch:=first|omega|(with_unfolding_all exact rfl)|(simp only[new_n,put_n,new_m];omega)|(refine put_m_le ?_;simp only[new_m];omega)) only [K71r0,K71,Abs.W,reduceIte,Nat.reduceEqDiff,Nat.reduceAdd,kLoop_def,Nat.reduceSub,gpu,kv,lv,Nat.zero_add]
  generalize hlp:loopN _ rounds _ _ _ _ _=rl
  have h0:Bedd u u l w (k0 * 0) own:=⟨fun _ _ _ _=>rfl,Nat.le_refl _,by omega,by omega,by omega⟩
  have hJ0:J ((wl.zip bl).take 0) u.h u.n:=by rw [uh,un];exact hJ
  obtain ⟨e,L1,s1,rfl,hex,⟨d1,d2,d3,d4,d5⟩,hE,hz⟩:=loop_of hlp (fun i L' t'=>L'.find 0=.yield l∧L'.find 1=.ptr p 0∧L'.find 6=wv∧L'.find 7=.int .i64 wl.length∧L'.find 8=.int .i64 i∧Bedd u t' l w (k0 * i) own∧J ((wl.zip bl).take i) t'.h t'.n∧((i=0∨t'.m≤l)∧μ ((wl.zip bl).take i) t'.m))
   (fun e L1 t'=>(e=.exit 0∨e=.ret)∧Bedd u t' l w (k0 * 8) own∧Ended (wl.zip bl) μ J D t'.h t'.n t'.m∧(wl.zip bl=[]∨t'.m≤l)) wl.length (by unfold rounds;omega)
   ⟨by simp only [find_cons,reduceIte,Nat.reduceEqDiff],by simp only [find_cons,reduceIte,Nat.reduceEqDiff],by simp only [find_cons,reduceIte,Nat.reduceEqDiff],by simp only [find_cons,reduceIte,Nat.reduceEqDiff],by simp only [find_cons,reduceIte,Nat.reduceEqDiff];rfl,h0,hJ0,.inl rfl,hT.nil _⟩
   (fun i L' t' hi ⟨q0,q1,q6,q7,q8,hD,hJi,hz⟩=>by
    have hki:=hkm i (by omega)
    by_cases hlt:i<wl.length
    ·obtain ⟨e,L2,t2,p1,p2,p3,hcase⟩:=wish_round N ⟨71,none,Try.f71.ntmps,X 71⟩ hT un.symm hl hbl hWu hBu gpu hp ho hrl (fun y hy=>by have:=(hH y hy).1;omega) (by omega) (by omega) hlt q0 q1 q6 q7 q8 hD hz hJi
     have hki2:=hkm (i+1) (by omega)
     have p2':Bedd u t2 l w (k0 * (i+1)) own:=by rw [Nat.mul_succ];exact p2
     rcases hcase with ⟨rfl,z1,z2,z3,z4,z5,z6⟩ | ⟨rfl,x,rest,k,z1,z2,z3⟩
     ·exact .inl ⟨hlt,L2,t2,p1,z2,z3,z4,z5,z6,p2',z1.1,.inr p3,z1.2⟩
     ·exact .inr ⟨.ret,L2,t2,by simp,p1,.inr rfl,⟨p2'.same,p2'.n,by have:=p2'.le;omega,p2'.m,p2'.mle⟩,.inr ⟨_,x,rest,k,z1,z2,z3⟩,.inr p3⟩
    ·obtain rfl:i=wl.length:=by omega
     have e1:decide ((wl.length:Int)<(wl.length:Int))=false:=by simp
     have hJi':J (wl.zip bl) t'.h t'.n:=by rw [List.take_of_length_le (by omega)] at hJi;exact hJi
     obtain ⟨hz,hμ⟩:=hz
     rw [List.take_of_length_le (by omega)] at hμ
     refine .inr ⟨.exit 0,L'.set 9 (.bool false),t',by simp,?_,.inl rfl,⟨hD.same,hD.n,by have:=hD.le;omega,hD.m,hD.mle⟩,.inl ⟨hJi',hμ⟩,?_⟩
     ·simp (disch:=first|omega|(with_unfolding_all exact rfl)|(simp only[new_n,put_n,new_m];omega)|(refine put_m_le ?_;simp only[new_m];omega)) only [K71r1,K71r2,K71r3,K71r4,K71l0,Abs.W,reduceIte,efs,q7,q8,e1]
     ·rcases hz with hz | hz
      ·exact .inl (List.length_eq_zero_iff.mp (by omega))
      ·exact .inr hz)
  have hfin:∀ e:Ex,(e=.exit 0∨e=.ret)→finA Try.prog Try.f71 (blkR 0 (.done e L1 [] s1))=.val (.tup []) s1:=by
   intro e he
   rcases he with rfl | rfl
   ·simp (disch:=first|omega|(with_unfolding_all exact rfl)|(simp only[new_n,put_n,new_m];omega)|(refine put_m_le ?_;simp only[new_m];omega)) only [res71,Abs.W,leave_nil]
   ·simp (disch:=first|omega|(with_unfolding_all exact rfl)|(simp only[new_n,put_n,new_m];omega)|(refine put_m_le ?_;simp only[new_m];omega)) only [res71,Abs.W,leave_nil]
  rw [hfin e hex]
  refine ⟨_,_,rfl,⟨rfl,hE,fun y hy h1 h2=>by rw [d1 y (by omega) h1 h2,uh],by omega,by omega,d4,d5,hz⟩,fun _ hle=>⟨rfl,?_,fun _ _ _ _=>trivial,Nat.le_refl _,by omega,d4,d5,hz⟩⟩
  rcases hz with hz | hz
  ·rw [hz];exact .inl ⟨hJ,hT.nil _⟩
  ·omega)
 have hkk:=hkm 8 (Nat.le_refl _)
 have htm:t.m≤mm∨wl.zip bl=[]:=by
  rcases a7 with h | h
  ·exact .inr h
  ·rcases hm' with ⟨h1,hm'⟩ | ⟨h1,hm'⟩
   ·omega
   ·exact .inl (by omega)
 have a1':Ended (wl.zip bl) μ J D t.h t.n t.m:=by
  rcases a1 with ⟨b1,b2⟩ | ⟨p,x,rest,k,b1,b2,b3⟩
  ·rcases htm with h | h
   ·exact .inl ⟨b1,hT.mono _ _ _ h b2⟩
   ·exact .inl ⟨b1,by rw [h];exact hT.nil _⟩
  ·rcases htm with h | h
   ·exact .inr ⟨p,x,rest,k,b1,b2,hT.mono _ _ _ h b3⟩
   ·rw [h] at b1;simp at b1
 refine ⟨t,e,a1',a2,a3,by omega,?_,?_,?_⟩
 ·rcases hm' with ⟨_,hm'⟩ | ⟨_,hm'⟩<;>omega
 ·rcases hm' with ⟨_,hm'⟩ | ⟨_,hm'⟩<;>omega
 ·rcases a7 with h | h
  ·exact .inl h
  ·rcases hm' with ⟨h1,hm'⟩ | ⟨h1,hm'⟩
   ·omega
   ·exact .inr (by omega)
end Go.Proofs.Ythbhjgbpjlnbcaa.walk
set_option maxRecDepth 10000
namespace Go.Abs
theorem boxIntE (sz:Nat) (s:St) (k:IntKind) (n:Int):boxA sz s (.int k n)=.val (.ptr s.n 0) (s.new (.cells [.int k n] sz)):=Eq.trans (Eq.refl _) (Eq.refl _)
theorem boxYE (sz:Nat) (s:St) (l:Nat):boxA sz s (.yield l)=.val (.ptr s.n 0) (s.new (.cells [.yield l] sz)):=Eq.trans (Eq.refl _) (Eq.refl _)
theorem kFuncE (f:FuncId) (a b:List Arg) (L:Env) (s:St):kFunc f a b L s=.val (.func f (evs a L) (evs b L)) s:=Eq.trans (Eq.refl _) (Eq.refl _)
theorem okA_yield (l:Nat) (s:St):okA (.val (.yield l) s)=.val (.yield l) s:=Eq.trans (Eq.refl _) (Eq.refl _)
end Go.Abs
namespace Go.Proofs.Ythbhjgbpjlnbcaa.walk
open Go.Abs Go.Proofs.Ythbhjgbpjlnbcaa.code
theorem St.ext3 {s t:St} (h:s.h=t.h) (n:s.n=t.n) (m:s.m=t.m):s=t:=by
 obtain ⟨a,b,c⟩:=s
 obtain ⟨a',b',c'⟩:=t
 simp only at h n m
 subst h n m
 rfl
theorem wishes_ok' (N:Nat) (hN:1≤N) (r:List AV) (s:St) (hs:s.n+100≤far):call Try.prog X N (.fn 57) [.agg r] s=.val (.func 71 [] [.ptr s.n 0]) (s.new (.cells r (tag 37))):=by
 obtain ⟨n,rfl⟩:∃ n,N=n+1:=⟨N - 1,by omega⟩
 have hf:far=1000000000:=rfl
 obtain ⟨v,t,e,st,hv,hh⟩:=call_new (n:=n) (args:=[.agg r]) (s:=s) (k:=1) (Q:=fun v h n=>v=.func 71 [] [.ptr s.n 0]∧h=(s.new (.cells r (tag 37))).h∧n=s.n+1) Try.func57 rfl (fun u uh un um=>by
  rw [enter57]
  simp (disch:=first|omega|(with_unfolding_all exact rfl)|(simp only[new_n,put_n,new_m];omega)|(refine put_m_le ?_;simp only[new_m];omega)) only [res57,K57r0,K57r1,K57,Abs.W,reduceIte,Nat.reduceEqDiff,Nat.reduceAdd,kFuncE]
  refine ⟨_,_,rfl,((Beside.refl u (by omega) um).new _),rfl,by rw [un],?_,?_⟩
  ·show (u.new _).h=(s.new _).h
   unfold St.new
   simp only [uh,un]
  ·show u.n+1=_
   omega)
 rw [e,hv]
 congr 1
 exact St.ext3 hh.1 hh.2 st.m
theorem reach_ok (N:Nat) (hN:1≤N) (r:List AV) (a:Int) (s:St) (hs:s.n+100≤far):call Try.prog X N (.fn 42) [.agg r,.int .i64 a] s=.val (.func 56 [] [.ptr s.n 0,.ptr (s.n+1) 0]) ((s.new (.cells r (tag 28))).new (.cells [.int .i64 a] (tag 3))):=by
 obtain ⟨n,rfl⟩:∃ n,N=n+1:=⟨N - 1,by omega⟩
 have hf:far=1000000000:=rfl
 obtain ⟨v,t,e,st,hv,hh⟩:=call_new (n:=n) (args:=[.agg r,.int .i64 a]) (s:=s) (k:=2) (Q:=fun v h n=>v=.func 56 [] [.ptr s.n 0,.ptr (s.n+1) 0]∧h=((s.new (.cells r (tag 28))).new (.cells [.int .i64 a] (tag 3))).h∧n=s.n+2) Try.func42 rfl (fun u uh un um=>by
  rw [enter42]
  simp (disch:=first|omega|(with_unfolding_all exact rfl)|(simp only[new_n,put_n,new_m];omega)|(refine put_m_le ?_;simp only[new_m];omega)) only [res42,K42r0,K42r1,K42,Abs.W,reduceIte,Nat.reduceEqDiff,Nat.reduceAdd,kFuncE,boxIntE]
  refine ⟨_,_,rfl,((Beside.refl u (by omega) um).new _).new _,rfl,by simp only [new_n];rw [un],?_,?_⟩
  ·show ((u.new _).new _).h=((s.new _).new _).h
   unfold St.new
   simp only [uh,un]
  ·show u.n+1+1=_
   omega)
 rw [e,hv]
 congr 1
 exact St.ext3 hh.1 hh.2 st.m
def stallAt (ss:List StallR) (i:Int):StallR:=ss.getD i.toNat ⟨0,0,0⟩
def can (ss:List StallR) (x:Int × Int):Bool:=!(decide ((stallAt ss x.1).rule=3) && decide (x.2<(stallAt ss x.1).least))
def reachOf (ss:List StallR) (a:Appl):List (Int × Int):=(a.wishes.zip a.bids).filter (can ss)
theorem filter_snoc {α:Type} (f:α→Bool) (p:List α) (x:α):(p++[x]).filter f=p.filter f++(if f x then [x] else []):=by
 rw [List.filter_append]
 congr 1
 rw [List.filter_cons]
 rfl
theorem filter_split {α:Type} {f:α→Bool} {p:List α} {x:α} {r:List α} (h:f x=true):(p++x::r).filter f=p.filter f++x::r.filter f:=by
 rw [List.filter_append,List.filter_cons,if_pos h]
theorem zip_mem {a b:List Int} {x:Int × Int} (h:x ∈ a.zip b):x.1 ∈ a∧x.2 ∈ b:=⟨(List.of_mem_zip h).1,(List.of_mem_zip h).2⟩
theorem reach1_hands {N p1 p2 nb a:Nat} {no na:Nat→Prop} {l:Letting} {vS vA:AV} {H:Heap} {rd:Nat→Prop} (ok:l.Ok) (hL:LetAt no na H nb l vS vA) (ha:a<l.appls.length) (gp1:H.get p1=some (.cells [vS,vA] (tag 28))) (gp2:H.get p2=some (.cells [.int .i64 (a:Int)] (tag 3))) (h1:rd p1) (h2:rd p2) (hno:∀ y,no y→rd y) (hna:∀ y,na y→rd y) :
  Hands Try.prog X N (N+3) 2000 H rd 56 [.ptr p1 0,.ptr p2 0] ev2 (reachOf l.stalls l.appls[a]):=by
 intro l0 k0 w rm own μ J0 D0 s hT0 ho hrl hH hl' hw hs hJ0 hwm hm
 have hTm:=hT0 s.n (Nat.le_refl _)
 have hf:far=1000000000:=rfl
 obtain ⟨y0,y1,t0,t1,wk,nd,wl8,bl8,bb⟩:=ok.ap _ (List.getElem_mem ha)
 obtain ⟨v',t,mm,e,⟨rfl,⟨k1,hk1,a1⟩,a2,a3,a4,a5,a6,a7⟩,hm'⟩:=call_any (X:=X) (n:=N+2) (args:=[.yield l0,.ptr p1 0,.ptr p2 0]) (s:=s) (Q:=fun v h n m'=>v=.tup []∧(∃ k1,s.n≤k1∧Ended (reachOf l.stalls l.appls[a]) μ (J0 k1) (D0 k1) h n m')∧(∀ y,y<s.n→y≠l0→¬ own y→h.get y=s.h.get y)∧s.n≤n∧n≤s.n+4+10 * (k0+10)∧w≤m'∧m'≤far∧(reachOf l.stalls l.appls[a]=[]∨m'≤l0)) Try.func56 rfl (fun u uh un um=>by
  have tg:∀ y,rd y→u.h.get y=H.get y:=fun y hy=>by rw [uh];exact (hH y hy).2
  have hLu:LetAt no na u.h nb l vS vA:=hL.move (fun b _ h=>⟨tg b (hno b h),h⟩) (fun b _ h=>⟨tg b (hna b h),h⟩) (Nat.le_refl _)
  have gu1:=(tg p1 h1).trans gp1
  have gu2:=(tg p2 h2).trans gp2
  have rlt:∀ y,rd y→y<u.n:=fun y hy=>by have:=(hH y hy).1;omega
  have p1l:=rlt p1 h1
  have p2l:=rlt p2 h2
  have kS:=hLu.okS
  have kA:=hLu.okV
  obtain ⟨ww,pa,oa,ca,za,r1,r2,r3,r4,r5,r6⟩:=hLu.getA2 ha
  obtain ⟨w1,w2⟩:=ww
  simp only at r4 r5 r6
  have pal:=rlt pa (hna pa r1.2)
  generalize l.appls[a]=M at *
  obtain ⟨s0,hs0⟩:∃ s0:St,s0=(u.new (.cells [.yield l0] (tag 95))).new (.cells [.int .i64 M.years,.int .i64 M.token,w1,w2] (tag 37)):=⟨_,rfl⟩
  have s0n:s0.n=u.n+2:=by rw [hs0];rfl
  have s0m:s0.m=far:=by rw [hs0];exact um
  have s0g:∀ c,c<u.n→s0.h.get c=u.h.get c:=fun c hc=>by rw [hs0,get_new_ne _ _ _ (by rw [new_n];omega),get_new_ne _ _ _ (by omega)]
  have s00:s0.h.get u.n=some (.cells [.yield l0] (tag 95)):=by rw [hs0,get_new_ne _ _ _ (by rw [new_n];omega)];exact get_new_eq _ _ _ rfl (by omega)
  have s01:s0.h.get (u.n+1)=some (.cells [.int .i64 M.years,.int .i64 M.token,w1,w2] (tag 37)):=by rw [hs0];exact get_new_eq _ _ _ rfl (by rw [new_n];omega)
  have wo:=wishes_ok' (N+2) (by omega) [.int .i64 M.years,.int .i64 M.token,w1,w2] (u.new (.cells [.yield l0] (tag 95))) (by rw [new_n];omega)
  rw [← hs0,new_n] at wo
  rw [enter56]
  simp (disch:=first|omega|(with_unfolding_all exact rfl)|(simp only[new_n,put_n,new_m];omega)|(refine put_m_le ?_;simp only[new_m];omega)) only [K56,K56r0,K56r1,Abs.W,reduceIte,Nat.reduceEqDiff,Nat.reduceAdd,Nat.reduceSub,boxYE,gu1,gu2,kA,r2,r3,r4,wo,Nat.zero_add]
  clear wo hs0
  generalize hL0:Env.cons 0 _ _=L0
  have f1:L0.find 1=.ptr p1 0:=by rw [← hL0];simp only [find_cons,reduceIte,Nat.reduceEqDiff]
  have f3:L0.find 3=.ptr u.n 0:=by rw [← hL0];simp only [find_cons,reduceIte,Nat.reduceEqDiff]
  have f12:L0.find 12=.func 71 [] [.ptr (u.n+1) 0]:=by rw [← hL0];simp only [find_cons,reduceIte,Nat.reduceEqDiff]
  clear hL0
  have hh:=wishes1_hands (N:=N+1) (p:=u.n+1) (nb:=nb) (wl:=M.wishes) (bl:=M.bids) (y1:=.int .i64 M.years) (y2:=.int .i64 M.token) (wv:=w1) (bv:=w2) (H:=s0.h) (rd:=fun y=>y=u.n+1∨rd y) wl8 bl8
   (r5.move (fun b hb h=>⟨s0g b (rlt b (hno b h)),.inr (hno b h)⟩) (Nat.le_refl _)) (r6.move (fun b hb h=>⟨s0g b (rlt b (hno b h)),.inr (hno b h)⟩) (Nat.le_refl _)) s01 (.inl rfl)
  obtain ⟨e,s',k1,hk1,e1,hE,e3,e4,e5,e6,e7,e8⟩:=hands_range2 (P:=Try.prog) (X:=X) (M:=N) (Z:=N+2) hh (f:=.tmp 12) (ps:=[13,14]) (c:=⟨56,none,Try.f56.ntmps,X 56⟩) (L:=L0) (d:=[]) (s:=s0) rfl (by rw [ev_tmp,f12]) (fun _=>rfl) code56a0 code56b0 (k0+1) w (rm+10) (fun y=>own y∨y=l0) (fun p m=>(p.filter (can l.stalls)=[]∨m≤l0)∧μ (p.filter (can l.stalls)) m)
   (fun p m m' hm ⟨h1,h2⟩=>⟨h1.imp id (fun h=>Nat.le_trans hm h),hTm.mono _ _ _ hm h2⟩) (fun m=>⟨.inl rfl,hTm.nil m⟩)
   (fun k1 p h n=>J0 k1 (p.filter (can l.stalls)) h n) (fun k1 e p x k h n=>e=.ret∧can l.stalls x=true∧∃ k',k≤k'∧D0 k1 (p.filter (can l.stalls)) x k' h n)
   (fun y hy=>⟨hy.elim (fun h=>by omega) (fun h=>by have:=rlt y h;omega),rfl⟩) (fun y hy=>by
    rcases hy with hy | rfl
    ·have:=(ho y hy).2
     exact ⟨fun h=>h.elim (fun h=>by omega) (fun h=>(ho y hy).1 h),by omega⟩
    ·exact ⟨fun h=>h.elim (fun h=>by omega) (fun h=>hrl h),by omega⟩)
   (by omega) (by omega) (by omega) (by omega) (fun k1 hk1=>by
    show J0 k1 [] s0.h s0.n
    exact (hT0 k1 (by omega)).keep _ _ _ _ _ (fun y hy=>by rw [s0g y (by omega),uh]) (by omega) (hJ0 k1 (by omega)))
   (fun k1 p h h' n n' hk1 hb hn hp=>(hT0 k1 (by omega)).keep _ _ _ _ _ (fun y hy=>hb y (by omega)) hn hp)
   (fun k1 e p x k h h' n n' hk1 hk hb hn ⟨he,hc,k',hkk,hp⟩=>⟨he,hc,k',hkk,(hT0 k1 (by omega)).keepD _ _ _ _ _ _ _ (fun y hy=>hb y (by omega)) hn hp⟩)
   (fun k1 p x rest t hk1 ht hp hfr htn htf htm htm' hμ=>by
    have hT:=hT0 k1 (by omega)
    have hmem:x ∈ M.wishes.zip M.bids:=by rw [← ht];simp
    obtain ⟨hm1,hm2⟩:=zip_mem hmem
    obtain ⟨x0,x1⟩:=wk _ hm1
    obtain ⟨xs,xb⟩:=x
    simp only at hm1 hm2 x0 x1
    obtain ⟨k,rfl⟩:∃ k:Nat,xs=k:=⟨xs.toNat,by omega⟩
    have hk:k<l.stalls.length:=by omega
    have nown:∀ y,rd y→¬ (own y∨y=l0):=fun y hy h=>h.elim (fun h=>(ho y h).1 hy) (fun h=>hrl (h▸hy))
    have tgg:∀ y,rd y→t.h.get y=u.h.get y:=fun y hy=>(hfr y (by have:=rlt y hy;omega) (nown y hy)).trans (s0g y (rlt y hy))
    obtain ⟨z0,hz0⟩:∃ z0:St,z0=t.put (s0.n+1) (.loop { loopO ⟨56,none,Try.f56.ntmps,X 56⟩ L0 [13,14] (rangeAt Try.f56 0).1 (rangeAt Try.f56 0).2 s0 with state:=.busy }):=⟨_,rfl⟩
    have zn:z0.n=t.n:=by rw [hz0];rfl
    have zm:z0.m=min t.m (s0.n+1):=by rw [hz0];simp only [St.put,minN_eq]
    have zg:∀ c,c≠s0.n+1→z0.h.get c=t.h.get c:=fun c hc=>by rw [hz0,get_put_ne' _ _ _ _ hc]
    have zl:z0.h.get (s0.n+1)=some (.loop { loopO ⟨56,none,Try.f56.ntmps,X 56⟩ L0 [13,14] (rangeAt Try.f56 0).1 (rangeAt Try.f56 0).2 s0 with state:=.busy }):=by rw [hz0];exact get_put_eq _ _ _ _ rfl (by omega)
    have zr:∀ y,rd y→z0.h.get y=u.h.get y:=fun y hy=>(zg y (by have:=rlt y hy;omega)).trans (tgg y hy)
    have hLz:LetAt no na z0.h nb l vS vA:=hLu.move (fun b _ h=>⟨zr b (hno b h),h⟩) (fun b _ h=>⟨zr b (hna b h),h⟩) (Nat.le_refl _)
    obtain ⟨ps,os,cs,zs,⟨_,q1⟩,q2,q3,q4⟩:=hLz.getS2 hk
    have psl:=rlt ps (hno ps q1)
    have z1:=(zr p1 h1).trans gu1
    have zy:=(zg u.n (by omega)).trans ((hfr u.n (by omega) (fun h=>h.elim (fun h=>by have:=(ho _ h).2;omega) (fun h=>by omega))).trans s00)
    have hst:stallAt l.stalls ((k:Int),xb).1=l.stalls[k]:=by unfold stallAt;simp [List.getD,hk]
    have hcan:can l.stalls ((k:Int),xb)=!(decide (l.stalls[k].rule=3) && decide (xb<l.stalls[k].least)):=by unfold can;rw [hst]
    have hsn:=filter_snoc (can l.stalls) p ((k:Int),xb)
    generalize l.stalls[k]=SR at *
    obtain ⟨y,hy⟩:∃ y:St,y=(z0.new (.cells [.int .i64 0,.int .i64 0,.int .i64 0] (tag 53))).put z0.n (.cells [.int .i64 SR.rule,.int .i64 SR.least,.int .i64 SR.heir] (tag 53)):=⟨_,rfl⟩
    have yn:y.n=z0.n+1:=by rw [hy];rfl
    have yg:∀ c,c<z0.n→y.h.get c=z0.h.get c:=fun c hc=>by rw [hy,get_put_ne' _ _ _ _ (by omega),get_new_ne _ _ _ (by omega)]
    have yp:y.h.get z0.n=some (.cells [.int .i64 SR.rule,.int .i64 SR.least,.int .i64 SR.heir] (tag 53)):=by rw [hy];exact get_put_eq _ _ _ _ rfl (by omega)
    have ym:y.m=min z0.m z0.n:=by rw [hy];simp only [St.put,minN_eq,new_m]
    have yy:=(yg u.n (by omega)).trans zy
    have hJy:J0 k1 (p.filter (can l.stalls)) y.h y.n:=hT.keep _ _ _ _ _ (fun c hc=>(yg c (by omega)).trans (zg c (by omega))) (by omega) hp
    have hμy:=hT.mono _ _ y.m (by omega) hμ.2
    have hass:K56a0 (call Try.prog X N) ⟨56,some (s0.n+1),Try.f56.ntmps,X 56⟩ (setParams L0 [13,14] (ev2 ((k:Int),xb))) [] t=.done .norm ((((L0.set 13 (.int .i64 (k:Int))).set 14 (.int .i64 xb)).set 4 (.int .i64 (k:Int))).set 5 (.int .i64 xb)) [] t:=by
     simp (disch:=first|omega|(with_unfolding_all exact rfl)|(simp only[new_n,put_n,new_m];omega)|(refine put_m_le ?_;simp only[new_m];omega)) only [K56a0,K56a0r0,K56a0r1,ev2,setParams2,Abs.W,reduceIte,Nat.reduceEqDiff,efs,Nat.reduceEqDiff]
    obtain ⟨L1,hL1⟩:∃ L1,L1=((((L0.set 13 (.int .i64 (k:Int))).set 14 (.int .i64 xb)).set 4 (.int .i64 (k:Int))).set 5 (.int .i64 xb)):=⟨_,rfl⟩
    rw [← hL1] at hass
    have l1:L1.find 1=.ptr p1 0:=by rw [hL1];simp only [efs,f1,reduceIte,Nat.reduceEqDiff]
    have l3:L1.find 3=.ptr u.n 0:=by rw [hL1];simp only [efs,f3,reduceIte,Nat.reduceEqDiff]
    have l4:L1.find 4=.int .i64 (k:Int):=by rw [hL1];simp only [efs,reduceIte,Nat.reduceEqDiff]
    have l5:L1.find 5=.int .i64 xb:=by rw [hL1];simp only [efs,reduceIte,Nat.reduceEqDiff]
    clear hL1
    have base:∀ {c:Nat},c<t.n→c≠s0.n+1→y.h.get c=t.h.get c:=fun h1 h2=>(yg _ (by omega)).trans (zg _ h2)
    refine ⟨L1,t,?_⟩
    rw [hass,← hz0]
    have u1:=eq3 K56b0r1s5.eq_1
    have u2:=eq3 K56b0r1s6.eq_1
    have u3:=eq3 K56b0r1s7.eq_1
    have u4:=eq3 K56b0r1s8.eq_1
    simp (disch:=first|omega|(with_unfolding_all exact rfl)|(simp only[new_n,put_n,new_m];omega)|(refine put_m_le ?_;simp only[new_m];omega)) only [K56b0,K56b0r0,Abs.W,reduceIte,Nat.reduceEqDiff,Nat.reduceAdd,Nat.reduceSub,l1,l4,z1,kS,q2,q3,q4,Nat.zero_add]
    rw [← hy]
    obtain ⟨r3,hr3⟩:∃ b,decide (SR.rule=3)=b:=⟨_,rfl⟩
    obtain ⟨lb,hlb⟩:∃ b,decide (xb<SR.least)=b:=⟨_,rfl⟩
    rw [hr3,hlb] at hcan
    by_cases hboth:r3=true∧lb=true
    ·obtain ⟨rfl,rfl⟩:=hboth
     have hcf:can l.stalls ((k:Int),xb)=false:=hcan
     rw [hcf] at hsn
     have hsn':(p++[((k:Int),xb)]).filter (can l.stalls)=p.filter (can l.stalls):=by simpa using hsn
     simp (disch:=first|omega|(with_unfolding_all exact rfl)|(simp only[new_n,put_n,new_m];omega)|(refine put_m_le ?_;simp only[new_m];omega)) only [K56b0r1,u1,u2,u3,u4,Abs.W,reduceIte,Nat.reduceEqDiff,Nat.reduceSub,efs,l5,yp,hr3,hlb,Nat.zero_add]
     refine ⟨.norm,_,y,trivial,trivial,rfl,fun _=>by rw [hsn'];exact hJy,fun h=>absurd rfl h,(yg _ (by omega)).trans zl,fun c h1 h2 _=>base (by omega) h2,by omega,by omega,by omega,by omega,by rw [hsn'];exact ⟨hμ.1.imp id (fun h=>by omega),hμy⟩⟩
    ·have hct:can l.stalls ((k:Int),xb)=true:=by rw [hcan];cases r3<;>cases lb<;>first | rfl | exact absurd ⟨rfl,rfl⟩ hboth
     rw [hct] at hsn
     have hsn':(p++[((k:Int),xb)]).filter (can l.stalls)=p.filter (can l.stalls)++[((k:Int),xb)]:=by simpa using hsn
     have hsp:p.filter (can l.stalls)++((k:Int),xb)::rest.filter (can l.stalls)=reachOf l.stalls M:=by
      unfold reachOf
      rw [← ht,filter_split hct]
     obtain ⟨c,s2,e2,g1,g2,g3,g4,g5,g6,g7,g8,g9⟩:=hT.take _ _ _ y hsp hJy (by omega) (by omega) (by omega) (by omega) hμy
     have e2':call Try.prog X N (.yield l0) [.int .i64 (k:Int),.int .i64 xb] y=.val (.bool c) s2:=e2
     have fin:∃ e L2 t2,kCond (.tmp 33) kRet kSkip (call Try.prog X N) ⟨56,some (s0.n+1),Try.f56.ntmps,X 56⟩ (.cons 33 (.bool !c) .nil) [] s2=.done e L2 [] t2∧t2=s2∧(c=true→e=.norm)∧(c=false→e=.ret):=by
      cases c
      ·exact ⟨.ret,_,s2,rfl,rfl,fun h=>(by cases h),fun _=>rfl⟩
      ·exact ⟨.norm,_,s2,rfl,rfl,fun _=>rfl,fun h=>(by cases h)⟩
     clear fin
     have done:∀ e:Ex,((c=true∧e=.norm)∨(c=false∧e=.ret))→∀ L2,∃ e' L2' t2,(R.done e L2 [] s2=R.done e' L2' [] t2)∧(e'=.norm→J0 k1 ((p++[((k:Int),xb)]).filter (can l.stalls)) t2.h t2.n)∧(e'≠.norm→e'=.ret∧can l.stalls ((k:Int),xb)=true∧∃ k',t.n≤k'∧D0 k1 (p.filter (can l.stalls)) ((k:Int),xb) k' t2.h t2.n)∧t2.h.get (s0.n+1)=some (.loop { loopO ⟨56,none,Try.f56.ntmps,X 56⟩ L0 [13,14] (rangeAt Try.f56 0).1 (rangeAt Try.f56 0).2 s0 with state:=.busy })∧(∀ y,y<k1→y≠s0.n+1→¬ (own y∨y=l0)→t2.h.get y=t.h.get y)∧t.n≤t2.n∧t2.n≤t.n+(k0+1)∧w≤t2.m∧t2.m≤t.m∧(((p++[((k:Int),xb)]).filter (can l.stalls)=[]∨t2.m≤l0)∧μ ((p++[((k:Int),xb)]).filter (can l.stalls)) t2.m):=by
      intro e he L2
      refine ⟨e,L2,s2,rfl,fun h=>?_,fun h=>?_,?_,fun c h1 h2 h3=>?_,by omega,by omega,g6,by omega,.inr g8,by rw [hsn'];exact g9⟩
      ·rcases he with ⟨h1,_⟩ | ⟨_,h1⟩
       ·rw [hsn'];exact g1 h1
       ·rw [h1] at h;cases h
      ·rcases he with ⟨_,h1⟩ | ⟨h1,h2⟩
       ·exact absurd h1 h
       ·exact ⟨h2,hct,y.n,by omega,g2 h1⟩
      ·rw [g3 _ (by omega) (by omega) (fun h=>by have:=(ho _ h).2;omega)];exact (yg _ (by omega)).trans zl
      ·rw [g3 c (by omega) (fun h=>h3 (.inr h)) (fun h=>h3 (.inl h))];exact base (by omega) h2
     have n1:∀ s,notA s (.bool c)=.val (.bool !c) s:=fun _=>rfl
     cases r3 with
     | false =>
      cases c with
      | true =>
       simp (disch:=first|omega|(with_unfolding_all exact rfl)|(simp only[new_n,put_n,new_m];omega)|(refine put_m_le ?_;simp only[new_m];omega)) only [K56b0r1,K56b0r2,u1,u2,u3,u4,Abs.W,reduceIte,Nat.reduceEqDiff,Nat.reduceSub,efs,l3,l4,l5,yp,yy,okA_yield,e2',hr3,Nat.zero_add]
       obtain ⟨e,L2,t2,z1,z2⟩:=done .norm (.inl ⟨rfl,rfl⟩) _
       exact ⟨e,L2,t2,trivial,trivial,z1,z2⟩
      | false =>
       simp (disch:=first|omega|(with_unfolding_all exact rfl)|(simp only[new_n,put_n,new_m];omega)|(refine put_m_le ?_;simp only[new_m];omega)) only [K56b0r1,K56b0r2,u1,u2,u3,u4,Abs.W,reduceIte,Nat.reduceEqDiff,Nat.reduceSub,efs,l3,l4,l5,yp,yy,okA_yield,e2',hr3,Nat.zero_add]
       obtain ⟨e,L2,t2,z1,z2⟩:=done .ret (.inr ⟨rfl,rfl⟩) _
       exact ⟨e,L2,t2,trivial,trivial,z1,z2⟩
     | true =>
      cases lb with
      | true=>exact absurd ⟨rfl,rfl⟩ hboth
      | false =>
       cases c with
       | true =>
        simp (disch:=first|omega|(with_unfolding_all exact rfl)|(simp only[new_n,put_n,new_m];omega)|(refine put_m_le ?_;simp only[new_m];omega)) only [K56b0r1,K56b0r2,u1,u2,u3,u4,Abs.W,reduceIte,Nat.reduceEqDiff,Nat.reduceSub,efs,l3,l4,l5,yp,yy,okA_yield,e2',hr3,hlb,Nat.zero_add]
        obtain ⟨e,L2,t2,z1,z2⟩:=done .norm (.inl ⟨rfl,rfl⟩) _
        exact ⟨e,L2,t2,trivial,trivial,z1,z2⟩
       | false =>
        simp (disch:=first|omega|(with_unfolding_all exact rfl)|(simp only[new_n,put_n,new_m];omega)|(refine put_m_le ?_;simp only[new_m];omega)) only [K56b0r1,K56b0r2,u1,u2,u3,u4,Abs.W,reduceIte,Nat.reduceEqDiff,Nat.reduceSub,efs,l3,l4,l5,yp,yy,okA_yield,e2',hr3,hlb,Nat.zero_add]
        obtain ⟨e,L2,t2,z1,z2⟩:=done .ret (.inr ⟨rfl,rfl⟩) _
        exact ⟨e,L2,t2,trivial,trivial,z1,z2⟩)
  rw [e1]
  have hE':(e=.norm∨e=.ret)∧Ended (reachOf l.stalls M) μ (J0 k1) (D0 k1) s'.h s'.n s'.m∧(reachOf l.stalls M=[]∨s'.m≤l0):=by
   rcases hE with ⟨rfl,h2,h3,h4⟩ | ⟨he,p,x,rest,k,hT',hk,⟨h1,h2,k',hkk,h3⟩,h4,h5⟩
   ·exact ⟨.inl rfl,.inl ⟨h2,h4⟩,h3⟩
   ·have hsn':(p++[x]).filter (can l.stalls)=p.filter (can l.stalls)++[x]:=by rw [filter_snoc,if_pos h2]
    rw [hsn'] at h4 h5
    refine ⟨.inr h1,.inr ⟨_,x,rest.filter (can l.stalls),k',?_,h3,h5⟩,h4.imp (fun h=>by simp at h) id⟩
    unfold reachOf
    rw [← hT',filter_split h2]
  have ed:s'.h.get s0.n=some .dfr:=e4
  have hfin:∀ e:Ex,(e=.norm∨e=.ret)→finA Try.prog Try.f56 (blkR 0 (.done e L0 [s0.n] s'))=.val (.tup []) (s'.kill s0.n):=by
   intro e he
   rcases he with rfl | rfl
   ·simp (disch:=first|omega|(with_unfolding_all exact rfl)|(simp only[new_n,put_n,new_m];omega)|(refine put_m_le ?_;simp only[new_m];omega)) only [Abs.W]
    rw [leave_dfr _ _ _ _ _ ed]
    simp (disch:=first|omega|(with_unfolding_all exact rfl)|(simp only[new_n,put_n,new_m];omega)|(refine put_m_le ?_;simp only[new_m];omega)) only [res56,leave_nil]
   ·simp (disch:=first|omega|(with_unfolding_all exact rfl)|(simp only[new_n,put_n,new_m];omega)|(refine put_m_le ?_;simp only[new_m];omega)) only [Abs.W]
    rw [leave_dfr _ _ _ _ _ ed]
    simp (disch:=first|omega|(with_unfolding_all exact rfl)|(simp only[new_n,put_n,new_m];omega)|(refine put_m_le ?_;simp only[new_m];omega)) only [res56,leave_nil]
  rw [hfin e hE'.1]
  have km:(s'.kill s0.n).m=min s'.m s0.n:=by simp only [St.kill,minN_eq]
  have kn:(s'.kill s0.n).n=s'.n:=rfl
  have hT:=hT0 k1 (by omega)
  have hEk:Ended (reachOf l.stalls M) μ (J0 k1) (D0 k1) (s'.kill s0.n).h (s'.kill s0.n).n (s'.kill s0.n).m:=by
   rcases hE'.2.1 with ⟨h1,h2⟩ | ⟨p,x,rest,k,h1,h2,h3⟩
   ·exact .inl ⟨hT.keep _ _ _ _ _ (fun y hy=>get_kill_ne _ _ _ (by omega)) (Nat.le_refl _) h1,hT.mono _ _ _ (by omega) h2⟩
   ·exact .inr ⟨p,x,rest,k,h1,hT.keepD _ _ _ _ _ _ _ (fun y hy=>get_kill_ne _ _ _ (by omega)) (Nat.le_refl _) h2,hT.mono _ _ _ (by omega) h3⟩
  refine ⟨_,_,rfl,⟨rfl,⟨k1,by omega,hEk⟩,fun y hy h1 h2=>?_,by omega,by omega,by omega,by omega,hE'.2.2.imp id (fun h=>by omega)⟩,fun _ hle=>⟨rfl,?_,fun _ _ _ _=>trivial,Nat.le_refl _,by omega,by omega,by omega,hE'.2.2.imp id (fun h=>by omega)⟩⟩
  ·rw [get_kill_ne _ _ _ (by omega),e3 y (by omega) (fun h=>h.elim h2 h1),s0g y (by omega),uh]
  ·rcases hE'.2.2 with hz | hz
   ·rw [hz];exact ⟨s.n,Nat.le_refl _,.inl ⟨hJ0 s.n (Nat.le_refl _),hTm.nil _⟩⟩
   ·omega)
 have htm:t.m≤mm∨reachOf l.stalls l.appls[a]=[]:=by
  rcases a7 with h | h
  ·exact .inr h
  ·rcases hm' with ⟨h1,hm'⟩ | ⟨h1,hm'⟩
   ·omega
   ·exact .inl (by omega)
 have hT:=hT0 k1 hk1
 have a1':Ended (reachOf l.stalls l.appls[a]) μ (J0 k1) (D0 k1) t.h t.n t.m:=by
  rcases a1 with ⟨b1,b2⟩ | ⟨p,x,rest,k,b1,b2,b3⟩
  ·rcases htm with h | h
   ·exact .inl ⟨b1,hT.mono _ _ _ h b2⟩
   ·exact .inl ⟨b1,by rw [h];exact hT.nil _⟩
  ·rcases htm with h | h
   ·exact .inr ⟨p,x,rest,k,b1,b2,hT.mono _ _ _ h b3⟩
   ·rw [h] at b1;simp at b1
 refine ⟨t,k1,hk1,e,a1',a2,a3,by omega,?_,?_,?_⟩
 ·rcases hm' with ⟨_,hm'⟩ | ⟨_,hm'⟩<;>omega
 ·rcases hm' with ⟨_,hm'⟩ | ⟨_,hm'⟩<;>omega
 ·rcases a7 with h | h
  ·exact .inl h
  ·rcases hm' with ⟨h1,hm'⟩ | ⟨h1,hm'⟩
   ·omega
   ·exact .inr (by omega)
end Go.Proofs.Ythbhjgbpjlnbcaa.walk
namespace Go.Abs
def getP:List (Int × Int)→Int→Int
 | [],_=>0
 | (a,v)::r,k=>if k=a then v else getP r k
def putP:List (Int × Int)→Int→Int→List (Int × Int)
 | [],k,v=>[(k,v)]
 | (a,w)::r,k,v=>if k=a then (k,v)::r else (a,w)::putP r k v
theorem getP_putP (k v k':Int):∀ ps:List (Int × Int),getP (putP ps k v) k'=if k'=k then v else getP ps k'
 | []=>rfl
 | (a,w)::r=>by
  unfold putP
  by_cases h:k=a
  ·subst h
   rw [if_pos rfl]
   show (if k'=k then v else getP r k')=if k'=k then v else if k'=k then w else getP r k'
   by_cases h2:k'=k
   ·rw [if_pos h2,if_pos h2]
   ·rw [if_neg h2,if_neg h2,if_neg h2]
  ·rw [if_neg h]
   show (if k'=a then w else getP (putP r k v) k')=if k'=k then v else if k'=a then w else getP r k'
   rw [getP_putP k v k' r]
   by_cases h2:k'=a
   ·rw [if_pos h2,if_pos h2,if_neg (by omega)]
   ·rw [if_neg h2,if_neg h2]
def mapV (ps:List (Int × Int)):List (AV × AV):=ps.map fun p=>(.int .i64 p.1,.int .i64 p.2)
theorem eq_ints (a b:Int):Cmp.eq .int (.int .i64 a) (.int .i64 b)=some (decide (a=b)):=by
 show (if IntKind.i64=IntKind.i64 then some (eqI a b) else none)=_
 rw [if_pos rfl,eqI_eq]
 congr 1
theorem keyOk_int (k:Int):keyOk .int (.int .i64 k)=true:=by
 unfold keyOk
 rw [eq_ints,decide_eq_true rfl]
def idxP:List (Int × Int)→Int→Option Nat
 | [],_=>none
 | (a,_)::r,k=>if k=a then some 0 else (idxP r k).map (·+1)
theorem find_map (k:Int):∀ (ps:List (Int × Int)) (i:Nat),findA .int (.int .i64 k) (mapV ps) i=some ((idxP ps k).map fun j=>(i+j,.int .i64 (getP ps k)))
 | [],_=>rfl
 | (a,w)::r,i=>by
  show (match Cmp.eq .int (.int .i64 k) (.int .i64 a) with | some true=>some (some (i,AV.int .i64 w)) | some false=>findA .int (.int .i64 k) (mapV r) (Nat.succ i) | none=>none)=_
  rw [eq_ints]
  unfold idxP getP
  by_cases h:k=a
  ·rw [decide_eq_true h,if_pos h,if_pos h];rfl
  ·rw [decide_eq_false h,if_neg h,if_neg h]
   show findA .int (.int .i64 k) (mapV r) (Nat.succ i)=_
   rw [find_map k r (Nat.succ i),Option.map_map]
   congr 1
   cases idxP r k with
   | none=>rfl
   | some j =>
   show some (Nat.succ i+j,AV.int .i64 (getP r k))=some (i+(j+1),.int .i64 (getP r k))
   rw [show Nat.succ i+j=i+(j+1) by omega]
theorem idx_none (k:Int):∀ ps:List (Int × Int),idxP ps k=none→getP ps k=0∧∀ v,mapV (putP ps k v)=mapV ps++[(.int .i64 k,.int .i64 v)]
 | [],_=>⟨rfl,fun _=>rfl⟩
 | (a,w)::r,h=>by
  unfold idxP at h
  by_cases h2:k=a
  ·rw [if_pos h2] at h;cases h
  ·rw [if_neg h2] at h
   have h3:idxP r k=none:=by
    cases hh:idxP r k with
    | none=>rfl
    | some j=>rw [hh] at h;cases h
   obtain ⟨e1,e2⟩:=idx_none k r h3
   refine ⟨by unfold getP;rw [if_neg h2];exact e1,fun v=>?_⟩
   unfold putP
   rw [if_neg h2]
   show (AV.int .i64 a,AV.int .i64 w)::mapV (putP r k v)=_
   rw [e2 v]
   rfl
theorem idx_some (k:Int):∀ (ps:List (Int × Int)) (j:Nat),idxP ps k=some j→keyAt (mapV ps) j=.int .i64 k∧∀ v,mapV (putP ps k v)=setNth (mapV ps) j (.int .i64 k,.int .i64 v)
 | [],_,h=>by cases h
 | (a,w)::r,j,h=>by
  unfold idxP at h
  by_cases h2:k=a
  ·subst h2
   rw [if_pos rfl] at h
   injection h with h
   subst h
   exact ⟨rfl,fun v=>by unfold putP;rw [if_pos rfl];rfl⟩
  ·rw [if_neg h2] at h
   cases hh:idxP r k with
   | none=>rw [hh] at h;cases h
   | some i =>
    rw [hh] at h
    injection h with h
    subst h
    obtain ⟨e1,e2⟩:=idx_some k r i hh
    exact ⟨e1,fun v=>by
     unfold putP
     rw [if_neg h2]
     show (AV.int .i64 a,AV.int .i64 w)::mapV (putP r k v)=_
     rw [e2 v]
     rfl⟩
theorem look_map (ps:List (Int × Int)) (k:Int) (b:Nat) (s:St) (h:s.h.get b=some (.map (mapV ps))):lookA .int (.int .i64 0) false s (.int .i64 k) (.map b)=.val (.int .i64 (getP ps k)) s:=by
 unfold lookA
 simp only [h,keyOk_int,find_map]
 cases hh:idxP ps k with
 | none=>rw [(idx_none k ps hh).1];rfl
 | some j=>rfl
theorem sameA_int (k:Int):sameA (.int .i64 k) (.int .i64 k)=true:=by
 show (match Nat.beq (kindNo .i64) (kindNo .i64) with | true=>eqI k k | false=>false)=true
 show eqI k k=true
 rw [eqI_eq,beq_self_eq_true]
theorem upd_map (ps:List (Int × Int)) (k v:Int) (b:Nat) (s:St) (h:s.h.get b=some (.map (mapV ps))):updA .int s (.int .i64 k) (.int .i64 v) (.map b)=.val .undef (s.put b (.map (mapV (putP ps k v)))):=by
 unfold updA
 simp only [h,keyOk_int,find_map]
 cases hh:idxP ps k with
 | none=>rw [(idx_none k ps hh).2 v];rfl
 | some j =>
  obtain ⟨e1,e2⟩:=idx_some k ps j hh
  simp only [Option.map_some,Nat.zero_add,e1,sameA_int,e2 v]
theorem kLookE (c:Cmp) (z:AV) (ok:Bool) (m k:Arg) (L:Env) (s:St):kLook c z ok m k L s=lookA c z ok s (k.ev L) (m.ev L):=Eq.trans (Eq.refl _) (Eq.refl _)
noncomputable def updK (c:Cmp) (s:St) (k v m:AV):ARes:=match known v with
 | true=>updA c s k v m
 | false=>.fail
theorem kUpdE (c:Cmp) (m k v:Arg) (L:Env) (s:St):kUpd c m k v L s=updK c s (k.ev L) (v.ev L) (m.ev L):=Eq.trans (Eq.refl _) (Eq.refl _)
theorem kMapE (L:Env) (s:St):kMap L s=.val (.map s.n) (s.new (.map (mapV []))):=rfl
end Go.Abs
set_option maxRecDepth 10000
namespace Go.Abs
theorem leave_cells2 {P:Program} (a b:Nat) (t u:TypeId) (L:Env) (s:St) {sh sh':Option Nat} (hs:shapeT P t=some sh) (hs':shapeT P u=some sh') {v w:AV} (h:okA (loadA sh s (L.find a))=.val v s) (h':okA (loadA sh' s (L.find b))=.val w s):leaveA P [.cell a t,.cell b u] L [] s=.val (.tup [v,w]) s:=by
 unfold leaveA
 simp only [takeDfs,resultsA,hs,h,hs',h']
 rfl
theorem cellsOf_bool (b:Bool):cellsOf 1 (.bool b)=some [.bool b]:=Eq.trans (Eq.refl _) (Eq.refl _)
theorem okA_map (b:Nat) (s:St):okA (.val (.map b) s)=.val (.map b) s:=Eq.trans (Eq.refl _) (Eq.refl _)
end Go.Abs
namespace Go.Proofs.Ythbhjgbpjlnbcaa.walk
open Go.Abs Go.Proofs.Ythbhjgbpjlnbcaa.code
def bidOf (st:Int):List (Int × Int)→Int × Bool
 | []=>(0,false)
 | x::r=>if x.1=st then (x.2,true) else bidOf st r
theorem bidOf_app (st:Int):∀ {p:List (Int × Int)} (q:List (Int × Int)),(∀ y ∈ p,y.1≠st)→bidOf st (p++q)=bidOf st q
 | [],_,_=>rfl
 | x::p,q,h=>by
  rw [List.cons_append]
  show (if x.1=st then (x.2,true) else bidOf st (p++q))=_
  rw [if_neg (h x (List.mem_cons_self ..))]
  exact bidOf_app st q fun y hy=>h y (List.mem_cons_of_mem _ hy)
theorem LetAt.bound {no na:Nat→Prop} {h:Heap} {n:Nat} {l:Letting} {vS vA:AV} (r:LetAt no na h n l vS vA):LetAt (fun y=>no y∧y<n) (fun y=>na y∧y<n) h n l vS vA:=r.move (fun _ h1 h2=>⟨rfl,h2,h1⟩) (fun _ h1 h2=>⟨rfl,h2,h1⟩) (Nat.le_refl _)
theorem bidFor_ok (N:Nat) (hN:6≤N) {no na:Nat→Prop} {l:Letting} (ok:l.Ok) {vS vA:AV} {a:Nat} (ha:a<l.appls.length) (st:Int) {s:St} (hL:LetAt no na s.h s.n l vS vA) (hs:s.n+100000≤far) :
  call Try.prog X N (.fn 50) [.agg (letV vS vA),.int .i64 (a:Int),.int .i64 st] s=.val (.tup [.int .i64 (bidOf st (reachOf l.stalls l.appls[a])).1,.bool (bidOf st (reachOf l.stalls l.appls[a])).2]) s:=by
 obtain ⟨M,rfl⟩:∃ M,N=M+5:=⟨N - 5,by omega⟩
 have hf:far=1000000000:=rfl
 refine call_plain' (n:=M+4) Try.func50 (fun u uh un um=>?_) rfl
 rw [← uh,← un] at hL
 obtain ⟨w,hw⟩:∃ w:St,w=(((u.new (.cells [vS,vA] (tag 28))).new (.cells [.int .i64 st] (tag 3))).new (.cells [.int .i64 0] (tag 3))).new (.cells [.bool false] (tag 4)):=⟨_,rfl⟩
 have wn:w.n=u.n+4:=by rw [hw];rfl
 have wm:w.m=far:=by rw [hw];exact um
 have wg:∀ c,c<u.n→w.h.get c=u.h.get c:=fun c hc=>by rw [hw,get_new_ne _ _ _ (by simp only [new_n];omega),get_new_ne _ _ _ (by simp only [new_n];omega),get_new_ne _ _ _ (by simp only [new_n];omega),get_new_ne _ _ _ (by omega)]
 have w0:w.h.get u.n=some (.cells [vS,vA] (tag 28)):=by rw [hw,get_new_ne _ _ _ (by simp only [new_n];omega),get_new_ne _ _ _ (by simp only [new_n];omega),get_new_ne _ _ _ (by simp only [new_n];omega)];exact get_new_eq _ _ _ rfl (by omega)
 have w1:w.h.get (u.n+1)=some (.cells [.int .i64 st] (tag 3)):=by rw [hw,get_new_ne _ _ _ (by simp only [new_n];omega),get_new_ne _ _ _ (by simp only [new_n];omega)];exact get_new_eq _ _ _ rfl (by simp only [new_n];omega)
 have w2:w.h.get (u.n+2)=some (.cells [.int .i64 0] (tag 3)):=by rw [hw,get_new_ne _ _ _ (by simp only [new_n];omega)];exact get_new_eq _ _ _ rfl (by simp only [new_n];omega)
 have w3:w.h.get (u.n+3)=some (.cells [.bool false] (tag 4)):=by rw [hw];exact get_new_eq _ _ _ rfl (by simp only [new_n];omega)
 have re:=reach_ok (M+4) (by omega) [vS,vA] (a:Int) w (by omega)
 obtain ⟨s0,hs0⟩:∃ s0:St,s0=(w.new (.cells [vS,vA] (tag 28))).new (.cells [.int .i64 (a:Int)] (tag 3)):=⟨_,rfl⟩
 have s0n:s0.n=u.n+6:=by rw [hs0];show w.n+1+1=_;omega
 have s0m:s0.m=far:=by rw [hs0];exact wm
 have s0g:∀ c,c<w.n→s0.h.get c=w.h.get c:=fun c hc=>by rw [hs0,get_new_ne _ _ _ (by rw [new_n];omega),get_new_ne _ _ _ (by omega)]
 have s00:s0.h.get (u.n+4)=some (.cells [vS,vA] (tag 28)):=by rw [hs0,get_new_ne _ _ _ (by rw [new_n];omega)];exact get_new_eq _ _ _ (by omega) (by omega)
 have s01:s0.h.get (u.n+5)=some (.cells [.int .i64 (a:Int)] (tag 3)):=by rw [hs0];exact get_new_eq _ _ _ (by rw [new_n];omega) (by rw [new_n];omega)
 rw [← hs0,wn] at re
 rw [enter50]
 simp (disch:=first|omega|(with_unfolding_all exact rfl)|(simp only[new_n,put_n,new_m];omega)|(refine put_m_le ?_;simp only[new_m];omega)) only [K50,K50r0,Abs.W,reduceIte,Nat.reduceEqDiff,Nat.reduceAdd,boxIntE]
 rw [← hw]
 simp (disch:=first|omega|(with_unfolding_all exact rfl)|(simp only[new_n,put_n,new_m];omega)|(refine put_m_le ?_;simp only[new_m];omega)) only [K50r1,new_n,Abs.W,reduceIte,Nat.reduceEqDiff,Nat.reduceSub,w0,re]
 clear re hs0 hw
 generalize hL0:Env.cons 0 _ _=L0
 have f5:L0.find 5=.ptr (u.n+1) 0:=by rw [← hL0];simp only [find_cons,reduceIte,Nat.reduceEqDiff]
 have f6:L0.find 6=.ptr (u.n+2) 0:=by rw [← hL0];simp only [find_cons,reduceIte,Nat.reduceEqDiff]
 have f7:L0.find 7=.ptr (u.n+3) 0:=by rw [← hL0];simp only [find_cons,reduceIte,Nat.reduceEqDiff]
 have f12:L0.find 12=.func 56 [] [.ptr (u.n+4) 0,.ptr (u.n+5) 0]:=by rw [← hL0];simp only [find_cons,reduceIte,Nat.reduceEqDiff]
 clear hL0
 have hLb:=hL.bound.move (h':=s0.h) (n':=u.n) (no':=fun y=>no y∧y<u.n) (na':=fun y=>na y∧y<u.n) (fun b h1 h2=>⟨(s0g b (by omega)).trans (wg b h1),h2⟩) (fun b h1 h2=>⟨(s0g b (by omega)).trans (wg b h1),h2⟩) (Nat.le_refl _)
 have hh:=reach1_hands (N:=M+1) (p1:=u.n+4) (p2:=u.n+5) (H:=s0.h) (rd:=fun y=>y=u.n+4∨y=u.n+5∨(no y∧y<u.n)∨(na y∧y<u.n)) ok hLb ha s00 s01 (.inl rfl) (.inr (.inl rfl)) (fun y h=>.inr (.inr (.inl h))) (fun y h=>.inr (.inr (.inr h)))
 generalize reachOf l.stalls l.appls[a]=T at hh ⊢
 obtain ⟨e,s',e1,hE,e3,e4,e5,e6,e7,e8⟩:=hands_range (P:=Try.prog) (X:=X) (M:=M) (Z:=M+4) hh (f:=.tmp 12) (ps:=[13,14]) (c:=⟨50,none,Try.f50.ntmps,X 50⟩) (L:=L0) (d:=[]) (s:=s0) rfl (by rw [ev_tmp,f12]) (fun _=>rfl) code50a0 code50b0 10 (u.n+2) 10 (fun y=>y=u.n+2∨y=u.n+3) (fun _ _=>True) (fun _ _ _ _ _=>trivial) (fun _=>trivial)
  (fun p h n=>h.get (u.n+2)=some (.cells [.int .i64 0] (tag 3))∧h.get (u.n+3)=some (.cells [.bool false] (tag 4))∧∀ y ∈ p,y.1≠st) (fun e p x _ h n=>e=.ret∧x.1=st∧h.get (u.n+2)=some (.cells [.int .i64 x.2] (tag 3))∧h.get (u.n+3)=some (.cells [.bool true] (tag 4))∧∀ y ∈ p,y.1≠st)
  (fun y hy=>⟨by omega,rfl⟩) (fun y hy=>⟨by omega,by omega⟩) (by omega) (by omega) (by omega) (by omega) ⟨(s0g _ (by omega)).trans w2,(s0g _ (by omega)).trans w3,fun _ h=>by cases h⟩
  (fun p h h' n n' hb hn ⟨h1,h2,h3⟩=>⟨(hb _ (by omega)).trans h1,(hb _ (by omega)).trans h2,h3⟩)
  (fun e p x k h h' n n' hb hn ⟨h0,h1,h2,h3,h4⟩=>⟨h0,h1,(hb _ (by omega)).trans h2,(hb _ (by omega)).trans h3,h4⟩)
  (fun p x rest t ht ⟨p2,p3,p4⟩ hfr htn htf htm htm' _=>by
   obtain ⟨z0,hz0⟩:∃ z0:St,z0=t.put (s0.n+1) (.loop { loopO ⟨50,none,Try.f50.ntmps,X 50⟩ L0 [13,14] (rangeAt Try.f50 0).1 (rangeAt Try.f50 0).2 s0 with state:=.busy }):=⟨_,rfl⟩
   have zn:z0.n=t.n:=by rw [hz0];rfl
   have zm:z0.m=min t.m (s0.n+1):=by rw [hz0];simp only [St.put,minN_eq]
   have zg:∀ c,c≠s0.n+1→z0.h.get c=t.h.get c:=fun c hc=>by rw [hz0,get_put_ne' _ _ _ _ hc]
   have zl:z0.h.get (s0.n+1)=some (.loop { loopO ⟨50,none,Try.f50.ntmps,X 50⟩ L0 [13,14] (rangeAt Try.f50 0).1 (rangeAt Try.f50 0).2 s0 with state:=.busy }):=by rw [hz0];exact get_put_eq _ _ _ _ rfl (by omega)
   have z1:=(zg (u.n+1) (by omega)).trans ((hfr (u.n+1) (by omega) (by omega)).trans ((s0g _ (by omega)).trans w1))
   have z2:=(zg (u.n+2) (by omega)).trans p2
   have z3:=(zg (u.n+3) (by omega)).trans p3
   obtain ⟨xs,xb⟩:=x
   have hass:K50a0 (call Try.prog X M) ⟨50,some (s0.n+1),Try.f50.ntmps,X 50⟩ (setParams L0 [13,14] (ev2 (xs,xb))) [] t=.done .norm ((((L0.set 13 (.int .i64 xs)).set 14 (.int .i64 xb)).set 8 (.int .i64 xs)).set 9 (.int .i64 xb)) [] t:=by
    simp (disch:=first|omega|(with_unfolding_all exact rfl)|(simp only[new_n,put_n,new_m];omega)|(refine put_m_le ?_;simp only[new_m];omega)) only [K50a0,K50a0r0,K50a0r1,ev2,setParams2,Abs.W,reduceIte,Nat.reduceEqDiff,efs,Nat.reduceEqDiff]
   obtain ⟨L1,hL1⟩:∃ L1,L1=((((L0.set 13 (.int .i64 xs)).set 14 (.int .i64 xb)).set 8 (.int .i64 xs)).set 9 (.int .i64 xb)):=⟨_,rfl⟩
   rw [← hL1] at hass
   have l5:L1.find 5=.ptr (u.n+1) 0:=by rw [hL1];simp only [efs,f5,reduceIte,Nat.reduceEqDiff]
   have l6:L1.find 6=.ptr (u.n+2) 0:=by rw [hL1];simp only [efs,f6,reduceIte,Nat.reduceEqDiff]
   have l7:L1.find 7=.ptr (u.n+3) 0:=by rw [hL1];simp only [efs,f7,reduceIte,Nat.reduceEqDiff]
   have l8:L1.find 8=.int .i64 xs:=by rw [hL1];simp only [efs,reduceIte,Nat.reduceEqDiff]
   have l9:L1.find 9=.int .i64 xb:=by rw [hL1];simp only [efs,reduceIte,Nat.reduceEqDiff]
   clear hL1
   refine ⟨L1,t,?_⟩
   rw [hass,← hz0]
   by_cases hx:xs=st
   ·have d1:decide (xs=st)=true:=decide_eq_true hx
    simp (disch:=first|omega|(with_unfolding_all exact rfl)|(simp only[new_n,put_n,new_m];omega)|(refine put_m_le ?_;simp only[new_m];omega)) only [K50b0,K50b0r0,K50b0r1,Abs.W,reduceIte,Nat.reduceEqDiff,Nat.reduceSub,efs,l5,l6,l7,l8,l9,z1,z2,z3,d1,cellsOf_bool]
    refine ⟨.ret,_,_,trivial,trivial,rfl,fun h=>(by cases h),fun _=>⟨rfl,hx,?_,get_put_eq _ _ _ _ rfl (by omega),p4⟩,?_,fun c h1 h2 h3=>?_,by simp only [put_n];omega,by simp only [put_n];omega,?_,?_,trivial⟩
    ·rw [get_put_ne' _ _ _ _ (by omega)];exact get_put_eq _ _ _ _ rfl (by omega)
    ·rw [get_put_ne' _ _ _ _ (by omega),get_put_ne' _ _ _ _ (by omega)];exact zl
    ·rw [get_put_ne' _ _ _ _ (by omega),get_put_ne' _ _ _ _ (by omega)];exact zg c h2
    ·simp only [St.put,minN_eq];omega
    ·simp only [St.put,minN_eq];omega
   ·have d1:decide (xs=st)=false:=decide_eq_false hx
    simp (disch:=first|omega|(with_unfolding_all exact rfl)|(simp only[new_n,put_n,new_m];omega)|(refine put_m_le ?_;simp only[new_m];omega)) only [K50b0,K50b0r0,K50b0r1,Abs.W,reduceIte,Nat.reduceEqDiff,Nat.reduceSub,efs,l5,l8,z1,d1]
    refine ⟨.norm,_,_,trivial,trivial,rfl,fun _=>⟨z2,z3,fun y hy=>?_⟩,fun h=>absurd rfl h,zl,fun c h1 h2 h3=>zg c h2,by omega,by omega,by omega,by omega,trivial⟩
    rcases List.mem_append.mp hy with h | h
    ·exact p4 y h
    ·rw [List.mem_singleton.mp h];exact hx)
 rw [e1]
 have ed:s'.h.get s0.n=some .dfr:=e4
 have shI:shapeT Try.prog 3=some none:=by kernel_rfl
 have shB:shapeT Try.prog 4=some none:=by kernel_rfl
 rcases hE with ⟨rfl,⟨h1,h2,h3⟩,_⟩ | ⟨_,p,x,rest,_,hT,_,⟨rfl,h1,h2,h3,h4⟩,_⟩
 ·have hb:bidOf st T=(0,false):=by have:=bidOf_app st [] h3;rw [List.append_nil] at this;exact this
  rw [hb]
  simp (disch:=first|omega|(with_unfolding_all exact rfl)|(simp only[new_n,put_n,new_m];omega)|(refine put_m_le ?_;simp only[new_m];omega)) only [K50r2,Abs.W,reduceIte,Nat.reduceSub,f6,f7,h1,h2,cellsOf_bool]
  rw [leave_dfr _ _ _ _ _ (by rw [get_put_ne' _ _ _ _ (by omega),get_put_ne' _ _ _ _ (by omega)];exact ed),res50]
  refine ⟨_,leave_cells2 _ _ _ _ _ _ shI shB ?_ ?_,?_⟩
  ·rw [f6,load_ptr,get_kill_ne _ _ _ (by omega),get_put_ne' _ _ _ _ (by omega),get_put_eq _ _ _ _ rfl (by omega),loadO_cells,partS_one];rfl
  ·rw [f7,load_ptr,get_kill_ne _ _ _ (by omega),get_put_eq _ _ _ _ rfl (by omega),loadO_cells,partS_one];rfl
  ·simp only [St.kill,St.put,minN_eq];omega
 ·have hb:bidOf st T=(x.2,true):=by rw [← hT,bidOf_app st _ h4];show (if x.1=st then (x.2,true) else _)=_;rw [if_pos h1]
  rw [hb]
  simp (disch:=first|omega|(with_unfolding_all exact rfl)|(simp only[new_n,put_n,new_m];omega)|(refine put_m_le ?_;simp only[new_m];omega)) only [Abs.W]
  rw [leave_dfr _ _ _ _ _ ed,res50]
  refine ⟨_,leave_cells2 _ _ _ _ _ _ shI shB ?_ ?_,?_⟩
  ·rw [f6,load_ptr,get_kill_ne _ _ _ (by omega),h2,loadO_cells,partS_one];rfl
  ·rw [f7,load_ptr,get_kill_ne _ _ _ (by omega),h3,loadO_cells,partS_one];rfl
  ·simp only [St.kill,minN_eq];omega
end Go.Proofs.Ythbhjgbpjlnbcaa.walk
set_option maxRecDepth 10000
namespace Go.Proofs.Ythbhjgbpjlnbcaa.walk
open Go.Abs Go.Proofs.Ythbhjgbpjlnbcaa.code
def Die (d:Nat) (h:Heap):Prop:=∃ f,h.get d=some (.cells [.int .u64 f] (tag 63))
theorem roll_ex {N d:Nat} {s:St} {r:ARes} (hr:call Try.prog X N (.fn 32) [.ptr d 0] s=r) (hN:1≤N) (hd:Die d s.h) (hlt:d<s.n) (hs:s.n+10≤far) :
  ∃ x t,r=.val (.int .u64 x) t∧Stir d s t 0∧Die d t.h∧0≤x∧x≤18446744073709551615:=by
 obtain ⟨n,rfl⟩:∃ n,N=n+1:=⟨N - 1,by omega⟩
 have hf:far=1000000000:=rfl
 obtain ⟨f,hg⟩:=hd
 obtain ⟨v,t,e,st,⟨x,rfl,x0,x1⟩,hd'⟩:=call_stir_plain (n:=n) (args:=[.ptr d 0]) (d:=d) (k:=0) (Q:=fun v=>∃ x,v=.int .u64 x∧0≤x∧x≤18446744073709551615) (R:=Die d) Try.func32 ⟨f,hg⟩ (fun u uh un um=>by
  rw [← uh] at hg
  rw [enter32]
  simp (disch:=first|omega|(with_unfolding_all exact rfl)|(simp only[new_n,put_n,new_m];omega)|(refine put_m_le ?_;simp only[new_m];omega)) only [res32,K32r0,K32r1,K32r2,K32r3,K32r4,K32r5,K32,Abs.W,reduceIte,Nat.reduceEqDiff,Nat.reduceSub,hg,Nat.zero_add,kShr_def,shrA_u64,aAdd_def,aMul_def,aXor_def]
  refine ⟨_,_,rfl,(Stir.refl d u).put (by omega) _ (.inl rfl),rfl,⟨_,rfl,?_⟩,⟨_,get_put_eq _ _ _ _ rfl (by omega)⟩⟩
  exact xorI_range _ _) (by omega)
 exact ⟨x,t,hr.symm.trans e,st,hd',x0,x1⟩
theorem cast_ex {N d:Nat} {n:Int} {s:St} {r:ARes} (hr:call Try.prog X N (.fn 15) [.ptr d 0,.int .i64 n] s=r) (hN:2≤N) (hd:Die d s.h) (hlt:d<s.n) (hs:s.n+100≤far) (hn:n≤4000000000) :
  ∃ x t,r=.val (.int .i64 x) t∧Stir d s t 0∧Die d t.h∧0≤x∧(x<n∨x=0):=by
 obtain ⟨m,rfl⟩:∃ m,N=m+1:=⟨N - 1,by omega⟩
 have hf:far=1000000000:=rfl
 obtain ⟨v,t,e,st,⟨x,rfl,x0,x1⟩,hd'⟩:=call_stir_plain (n:=m) (args:=[.ptr d 0,.int .i64 n]) (d:=d) (k:=0) (Q:=fun v=>∃ x,v=.int .i64 x∧0≤x∧(x<n∨x=0)) (R:=Die d) Try.func15 hd (fun u uh un um=>by
  rw [← uh] at hd
  rw [enter15]
  by_cases hlow:n<2
  ·have e0:decide (n<2)=true:=by simpa using hlow
   simp (disch:=first|omega|(with_unfolding_all exact rfl)|(simp only[new_n,put_n,new_m];omega)|(refine put_m_le ?_;simp only[new_m];omega)) only [res15,K15r0,K15r1,K15r2,K15r3,K15,Abs.W,reduceIte,Nat.reduceEqDiff,Nat.reduceAdd,e0]
   exact ⟨_,_,rfl,Stir.refl d u,rfl,⟨0,rfl,by omega,.inr rfl⟩,hd⟩
  ·have e0:decide (n<2)=false:=by simpa using hlow
   simp (disch:=first|omega|(with_unfolding_all exact rfl)|(simp only[new_n,put_n,new_m];omega)|(refine put_m_le ?_;simp only[new_m];omega)) only [K15r0,K15r1,K15r2,K15r3,K15,Abs.W,reduceIte,Nat.reduceEqDiff,Nat.reduceAdd,e0]
   generalize hc:call _ _ _ (.fn 32) _ _=r1
   obtain ⟨y,w,rfl,sw,dw,y0,y1⟩:=roll_ex hc (by omega) hd (by omega) (by omega)
   have q0:0≤shrI y 2:=shrI_nonneg _ _ y0
   have q2:0≤(shrI y 2).tmod n:=Int.tmod_nonneg _ q0
   have q3:(shrI y 2).tmod n<n:=Int.tmod_lt_of_pos _ (by omega)
   have w1:wrapA .u64 n=n:=wrap_u64 n (by omega)
   have w2:wrapA .i64 ((shrI y 2).tmod n)=(shrI y 2).tmod n:=wrap_in _ (by omega)
   have w3:∀ s,aRem s .u64 (shrI y 2) n=.val (.int .u64 ((shrI y 2).tmod n)) s:=fun s=>aRem_ne s _ _ _ (by omega)
   simp (disch:=first|omega|(with_unfolding_all exact rfl)|(simp only[new_n,put_n,new_m];omega)|(refine put_m_le ?_;simp only[new_m];omega)) only [res15,Abs.W,reduceIte,Nat.reduceEqDiff,kShr_def,shrA_u64,cviA_int,w1,w2,w3]
   exact ⟨_,_,rfl,sw,rfl,⟨_,rfl,q2,.inl q3⟩,dw⟩) (by omega)
 exact ⟨x,t,hr.symm.trans e,st,hd',x0,x1⟩
theorem from_ex {N d:Nat} {lo hi:Int} {s:St} {r:ARes} (hr:call Try.prog X N (.fn 26) [.ptr d 0,.int .i64 lo,.int .i64 hi] s=r) (hN:3≤N) (hd:Die d s.h) (hlt:d<s.n) (hs:s.n+200≤far)
  (h0 : -100000000≤lo) (h1:lo≤100000000) (h2 : -100000000≤hi) (h3:hi≤100000000) :
  ∃ x t,r=.val (.int .i64 x) t∧Stir d s t 0∧Die d t.h∧lo≤x∧(x≤hi∨x=lo):=by
 obtain ⟨m,rfl⟩:∃ m,N=m+1:=⟨N - 1,by omega⟩
 have hf:far=1000000000:=rfl
 obtain ⟨v,t,e,st,⟨x,rfl,x0,x1⟩,hd'⟩:=call_stir_plain (n:=m) (args:=[.ptr d 0,.int .i64 lo,.int .i64 hi]) (d:=d) (k:=0) (Q:=fun v=>∃ x,v=.int .i64 x∧lo≤x∧(x≤hi∨x=lo)) (R:=Die d) Try.func26 hd (fun u uh un um=>by
  rw [← uh] at hd
  have a1:∀ s,aSub s .i64 hi lo=.val (.int .i64 (hi - lo)) s:=fun s=>aSub_i64 s _ _ (by omega)
  have a2:∀ s,aAdd s .i64 (hi - lo) 1=.val (.int .i64 (hi - lo+1)) s:=fun s=>aAdd_i64 s _ _ (by omega)
  rw [enter26]
  simp (disch:=first|omega|(with_unfolding_all exact rfl)|(simp only[new_n,put_n,new_m];omega)|(refine put_m_le ?_;simp only[new_m];omega)) only [K26r0,K26r1,K26,Abs.W,reduceIte,Nat.reduceEqDiff,Nat.reduceAdd,a1,a2]
  generalize hc:call _ _ _ (.fn 15) _ _=r1
  obtain ⟨y,w,rfl,sw,dw,y0,y1⟩:=cast_ex hc (by omega) hd (by omega) (by omega) (by omega)
  have a3:∀ s,aAdd s .i64 lo y=.val (.int .i64 (lo+y)) s:=fun s=>aAdd_i64 s _ _ (by omega)
  simp (disch:=first|omega|(with_unfolding_all exact rfl)|(simp only[new_n,put_n,new_m];omega)|(refine put_m_le ?_;simp only[new_m];omega)) only [res26,Abs.W,reduceIte,Nat.reduceEqDiff,a3]
  exact ⟨_,_,rfl,sw,rfl,⟨_,rfl,by omega,by omega⟩,dw⟩) (by omega)
 exact ⟨x,t,hr.symm.trans e,st,hd',x0,x1⟩
theorem nth_ints:∀ {l:List Int} {i:Nat},i<l.length→∃ x ∈ l,nth (l.map fun x=>AV.int .i64 x) i=.int .i64 x
 | [],i,h=>by simp at h
 | a::l,0,_=>⟨a,List.mem_cons_self ..,rfl⟩
 | a::l,i+1,h=>by
  obtain ⟨x,hx,e⟩:=nth_ints (l:=l) (i:=i) (by simpa using h)
  exact ⟨x,List.mem_cons_of_mem _ hx,e⟩
theorem one_ex {N d b:Nat} {k sz:Nat} (l:List Int) {s:St} {r:ARes} (hr:call Try.prog X N (.fn 33) [.ptr d 0,.slice b 0 k k false] s=r) (hN:3≤N) (hd:Die d s.h) (hlt:d<s.n) (hs:s.n+200≤far)
  (hb:s.h.get b=some (.cells (l.map fun x=>AV.int .i64 x) sz)) (hbn:b<s.n) (hbd:b≠d) (hl:l.length=k) (h0:0<k) (hk:k≤1000) :
  ∃ x t,r=.val (.int .i64 x) t∧Stir d s t 0∧Die d t.h∧x ∈ l:=by
 obtain ⟨m,rfl⟩:∃ m,N=m+1:=⟨N - 1,by omega⟩
 have hf:far=1000000000:=rfl
 obtain ⟨v,t,e,st,⟨x,rfl,hx⟩,hd'⟩:=call_stir_plain (n:=m) (args:=[.ptr d 0,.slice b 0 k k false]) (d:=d) (k:=0) (Q:=fun v=>∃ x,v=.int .i64 x∧x ∈ l) (R:=Die d) Try.func33 hd (fun u uh un um=>by
  rw [← uh] at hd hb
  have e0:decide ((k:Int)=0)=false:=by simp;omega
  rw [enter33]
  simp (disch:=first|omega|(with_unfolding_all exact rfl)|(simp only[new_n,put_n,new_m];omega)|(refine put_m_le ?_;simp only[new_m];omega)) only [K33r0,K33r1,K33r2,K33r3,K33,Abs.W,reduceIte,Nat.reduceEqDiff,Nat.reduceAdd,e0]
  generalize hc:call _ _ _ (.fn 15) _ _=r1
  obtain ⟨y,w,rfl,sw,dw,y0,y1⟩:=cast_ex hc (by omega) hd (by omega) (by omega) (by omega)
  obtain ⟨i,rfl⟩:∃ i:Nat,y=i:=⟨y.toNat,by omega⟩
  have hi:i<k:=by omega
  obtain ⟨x,hx,hn⟩:=nth_ints (l:=l) (i:=i) (by omega)
  have hg:w.h.get b=some (.cells (l.map fun x=>AV.int .i64 x) sz):=by rw [sw.same b (by omega) hbd];exact hb
  simp (disch:=first|omega|(with_unfolding_all exact rfl)|(simp only[new_n,put_n,new_m];omega)|(refine put_m_le ?_;simp only[new_m];omega)) only [res33,Abs.W,reduceIte,Nat.reduceEqDiff,ixs_slice _ _ _ _ _ _ _ _ hi,Nat.mul_one,Nat.zero_add,hg,hn]
  exact ⟨_,_,rfl,sw,rfl,⟨x,rfl,hx⟩,dw⟩) (by omega)
 exact ⟨x,t,hr.symm.trans e,st,hd',hx⟩
end Go.Proofs.Ythbhjgbpjlnbcaa.walk
