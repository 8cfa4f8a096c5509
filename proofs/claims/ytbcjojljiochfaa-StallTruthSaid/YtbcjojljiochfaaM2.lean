/- Slices that stand somewhere, but not in some blocks. -/
import Derived.Test.YtbcjojljiochfaaM1
import Derived.Test.YtbcjojljiochfaaCodes
import Derived.Test.YtbcjojljiochfaaWalkAll
set_option linter.unusedSimpArgs false
set_option maxHeartbeats 16000000
set_option linter.unusedVariables false
set_option maxRecDepth 10000
namespace Go.Abs
structure Sl (no:Nat→Prop) (h:Heap) (n w:Nat) (rows:List (List AV)) (v:AV):Prop where
 wide:∀ r ∈ rows,r.length=w
 is:(rows=[]∧v=.nilslice)∨∃ b o cap e c sz,b<n∧no b∧(rows.length≤cap∧(e=true→0<cap))∧v=.slice b o rows.length cap e∧h.get b=some (.cells c sz)∧cut o (rows.length * w) c=some rows.flatten
theorem Sl.nil (no:Nat→Prop) (h:Heap) (n w:Nat):Sl no h n w [] .nilslice:=⟨fun _ hr=>(by cases hr),.inl ⟨rfl,rfl⟩⟩
theorem Sl.seq {no:Nat→Prop} {h:Heap} {n w:Nat} {rows:List (List AV)} {v:AV} (r:Sl no h n w rows v):Seq h n w rows v :=
 ⟨r.wide,r.is.imp id fun ⟨b,o,cap,e,c,sz,h1,_,_,h4,h5,h6⟩=>⟨b,o,cap,e,c,sz,h1,h4,h5,h6⟩⟩
theorem Sl.at_ {no:Nat→Prop} {h:Heap} {n w:Nat} {rows:List (List AV)} {v:AV} (r:Sl no h n w rows v):RowsAt h n w rows v:=r.seq.at_
theorem Sl.okA {no:Nat→Prop} {h:Heap} {n w:Nat} {rows:List (List AV)} {v:AV} (r:Sl no h n w rows v) (t:St):Abs.okA (.val v t)=.val v t:=okA_ne r.at_.ne
theorem Sl.len {no:Nat→Prop} {h:Heap} {n w:Nat} {rows:List (List AV)} {v:AV} (r:Sl no h n w rows v) (s:St):lenSlA s v=.val (.int .i64 rows.length) s:=r.at_.len s
theorem Sl.move {no no':Nat→Prop} {h h':Heap} {n n' w:Nat} {rows:List (List AV)} {v:AV} (r:Sl no h n w rows v) (hh:∀ b,b<n→no b→h'.get b=h.get b∧no' b) (hn:n≤n'):Sl no' h' n' w rows v :=
 ⟨r.wide,r.is.imp id fun ⟨b,o,cap,e,c,sz,h1,h2,h3,h4,h5,h6⟩=>⟨b,o,cap,e,c,sz,by omega,(hh b h1 h2).2,h3,h4,by rw [(hh b h1 h2).1];exact h5,h6⟩⟩
theorem Sl.grow {no:Nat→Prop} {h h':Heap} {n n' w:Nat} {rows:List (List AV)} {v:AV} (r:Sl no h n w rows v) (hh:∀ b,b<n→h'.get b=h.get b) (hn:n≤n'):Sl no h' n' w rows v:=r.move (fun b h1 h2=>⟨hh b h1,h2⟩) hn
theorem Sl.scal {no:Nat→Prop} {h:Heap} {n w:Nat} {rows:List (List AV)} {v:AV} (r:Sl no h n w rows v):scalars [v]=true∧cellsOf 1 v=some [v]∧∀ l,scalars (v::l)=scalars l:=by
 rcases r.is with ⟨_,h2⟩ | ⟨b,o,cap,e,c,sz,_,_,_,h2,_⟩<;>subst h2<;>exact ⟨rfl,rfl,fun _=>rfl⟩
theorem Sl.kept {no:Nat→Prop} {h h':Heap} {n w:Nat} {rows:List (List AV)} {v:AV} (r:Sl no h n w rows v) (hh:∀ b,b<n→no b→h'.get b=h.get b):keptV h h' v=true:=by
 rcases r.is with ⟨_,h2⟩ | ⟨b,o,cap,e,c,sz,h1,h3,_,h2,h4,_⟩
 ·subst h2;rfl
 ·subst h2;rw [keptV_slice,hh b h1 h3,h4,sameO_cells]
theorem Sl.apart {no:Nat→Prop} {h:Heap} {n w c p:Nat} {rows:List (List AV)} {v:AV} (r:Sl no h n w rows v) (hc:¬ no c):apartA v (.ptr c p)=true:=by
 rcases r.is with ⟨_,h2⟩ | ⟨b,o,cap,e,q,sz,h1,h3,_,h2,h4,_⟩
 ·subst h2;rfl
 ·subst h2;exact apart_slice (fun e=>hc (e▸h3))
theorem take_snoc {α:Type} {l:List α} {i:Nat} (h:i<l.length):l.take (i+1)=l.take i++[l[i]]:=by rw [List.take_add_one];simp [h]
theorem Sl.get {no:Nat→Prop} {h:Heap} {n w:Nat} {rows:List (List AV)} {v:AV} (r:Sl no h n w rows v) {i:Nat} (hi:i<rows.length):∃ b p c sz,b<n∧no b∧(∀ s,ixsA w s v (.int .i64 (i:Int))=.val (.ptr b p) s)∧h.get b=some (.cells c sz)∧Abs.cut p w c=some rows[i]:=by
 rcases r.is with ⟨h1,_⟩ | ⟨b,o,cap,e,c,sz,h1,h2,h3,h4,h5,h6⟩
 ·subst h1;simp at hi
 ·subst h4
  exact ⟨b,o+i * w,c,sz,h1,h2,fun s=>ixs_slice _ _ _ _ _ _ _ _ hi,h5,cut_cut h6 (flatten_cut r.wide hi)⟩
theorem flatten_take {w:Nat}:∀ {rows:List (List AV)} {i:Nat},(∀ r ∈ rows,r.length=w)→i≤rows.length→(rows.take i).flatten=rows.flatten.take (i * w)
 | [],i,_,h=>by simp at h;subst h;simp
 | r::rs,0,_,_=>by simp
 | r::rs,i+1,hw,h=>by
  have h1:=hw r (List.mem_cons_self ..)
  rw [List.take_succ_cons,List.flatten_cons,List.flatten_cons,flatten_take (fun x hx=>hw x (List.mem_cons_of_mem _ hx)) (by simpa using h),show (i+1) * w=r.length+i * w by rw [h1,Nat.succ_mul];omega,List.take_length_add_append]
theorem cut_less {o k j:Nat} {c F:List AV} (h:cut o k c=some F) (hj:j≤k):cut o j c=some (F.take j):=by
 obtain ⟨a,t,h3,h4,h5⟩:=cut_some h
 have e:F=F.take j++F.drop j:=(List.take_append_drop j F).symm
 have l:(F.take j).length=j:=by rw [List.length_take];omega
 rw [h3,← h4,List.append_assoc]
 have:=cut_skip a (F++t) 0 j
 rw [Nat.add_zero] at this
 rw [this,cut_zero]
 conv=>lhs;rw [e,List.append_assoc]
 have h6:=cut1_app (F.take j) (F.drop j++t)
 rw [l] at h6
 exact h6
theorem Sl.to {no:Nat→Prop} {h:Heap} {n w i:Nat} {rows:List (List AV)} {v:AV} (r:Sl no h n w rows v) (hi:i≤rows.length):∃ v',(∀ s,sliceVal w none (some (.int .i64 (i:Int))) s v=.val v' s)∧Sl no h n w (rows.take i) v':=by
 have wd:∀ x ∈ rows.take i,x.length=w:=fun x hx=>r.wide x (List.mem_of_mem_take hx)
 rcases r.is with ⟨h1,h2⟩ | ⟨b,o,cap,e,c,sz,q1,q2,q3,q4,q5,q6⟩
 ·subst h1;subst h2
  have:i=0:=by simpa using hi
  subst this
  exact ⟨.nilslice,fun s=>rfl,wd,.inl ⟨rfl,rfl⟩⟩
 ·subst q4
  have ln:(rows.take i).length=i:=by rw [List.length_take];omega
  have e1:boundsA rows.length cap none (some (.int .i64 (i:Int)))=some (0,i):=by
   unfold boundsA hiA loA
   simp only [boundA_nat _ _ _ (by have:=q3.1;omega:i≤cap)]
  have q7:cut o (i * w) c=some (rows.take i).flatten:=by
   rw [flatten_take r.wide hi]
   exact cut_less q6 (Nat.mul_le_mul_right _ hi)
  by_cases hc:cap=0
  ·subst hc
   have hr:rows=[]:=List.length_eq_zero_iff.mp (by have:=q3.1;omega)
   subst hr
   have:i=0:=by simpa using hi
   subst this
   cases e with
   | false =>
    refine ⟨.slice b o (0 - 0) 0 false,fun s=>?_,wd,.inr ⟨b,o,0,false,c,sz,q1,q2,⟨by simp,fun h=>(by cases h)⟩,by simp,q5,q6⟩⟩
    unfold sliceVal
    simp only [Nat.ble_eq_true_of_le q3.1,e1,Nat.zero_mul,Nat.add_zero]
    rfl
   | true=>exact absurd (q3.2 rfl) (Nat.lt_irrefl 0)
  ·refine ⟨.slice b o i cap e,fun s=>?_,wd,.inr ⟨b,o,cap,e,c,sz,q1,q2,⟨by have:=q3.1;omega,q3.2⟩,by rw [ln],q5,by rw [ln];exact q7⟩⟩
   unfold sliceVal
   simp only [Nat.ble_eq_true_of_le q3.1,e1,nbeq_f hc,Nat.zero_mul,Nat.add_zero,Nat.sub_zero]
theorem Sl.of_blk {no:Nat→Prop} {h:Heap} {n b w tg:Nat} {rows:List (List AV)} {v:AV} (r:Blk h n b w tg rows v) (hb:no b) (h0:rows≠[]):Sl no h n w rows v:=by
 obtain ⟨e,sz,h1,h2,h3,h4⟩:=r.is
 exact ⟨r.wide,.inr ⟨b,0,rows.length,e,_,sz,h2,hb,⟨Nat.le_refl _,fun _=>List.length_pos_iff.mpr h0⟩,h1,h3,by rw [cut_zero,← flatten_len r.wide,cut1_all]⟩⟩
theorem Sl.of_at {no:Nat→Prop} {h:Heap} {n b w tg:Nat} {rows:List (List AV)} {v:AV} (r:IsAt h n b w tg rows v) (hb:b<n→no b):Sl no h n w rows v:=by
 rcases r.is with ⟨h1,h2⟩ | ⟨h1,h2,h3,h4⟩
 ·exact ⟨r.wide,.inl ⟨h1,h2⟩⟩
 ·exact ⟨r.wide,.inr ⟨b,0,rows.length,true,_,_,h2,hb h2,⟨Nat.le_refl _,fun _=>List.length_pos_iff.mpr h1⟩,h3,h4,by rw [cut_zero,← flatten_len r.wide,cut1_all]⟩⟩
end Go.Abs
set_option maxRecDepth 10000
namespace Go.Proofs.Ytbcjojljiochfaa.walk
open Go.Abs Go.Proofs.Ytbcjojljiochfaa.code
structure StallR where (rule least heir:Int)
def StallR.cells (s:StallR):List AV:=[.int .i64 s.rule,.int .i64 s.least,.int .i64 s.heir]
structure Appl where
 (years token:Int)
 (wishes bids:List Int)
structure Letting where
 stalls:List StallR
 appls:List Appl
structure StallR.Ok (m:Nat) (s:StallR):Prop where
 r0:1≤s.rule
 r1:s.rule≤3
 l0:0≤s.least
 l1:s.least≤1000
 h0 : -1≤s.heir
 h1:s.heir<m
structure Appl.Ok (k:Nat) (a:Appl):Prop where
 y0:0≤a.years
 y1:a.years≤60
 t0:0≤a.token
 t1:a.token≤1000000000
 w:∀ x ∈ a.wishes,0≤x∧x<k
 nd:a.wishes.Nodup
 wl:a.wishes.length≤8
 bl:a.bids.length=a.wishes.length
 b:∀ x ∈ a.bids,0≤x∧x≤1000000
structure Letting.Ok (l:Letting):Prop where
 k0:1≤l.stalls.length
 k1:l.stalls.length≤8
 m1:l.appls.length≤8
 st:∀ s ∈ l.stalls,s.Ok l.appls.length
 ap:∀ a ∈ l.appls,a.Ok l.stalls.length
def Appl.row (a:Appl) (w:AV × AV):List AV:=[.int .i64 a.years,.int .i64 a.token,w.1,w.2]
def rowsOf (l:List Appl) (ws:List (AV × AV)):List (List AV):=List.zipWith Appl.row l ws
theorem rowsOf_len {l:List Appl} {ws:List (AV × AV)} (h:ws.length=l.length):(rowsOf l ws).length=l.length:=by unfold rowsOf;rw [List.length_zipWith,h,Nat.min_self]
structure LetAt (no na:Nat→Prop) (h:Heap) (n:Nat) (l:Letting) (vS vA:AV):Prop where
 st:Sl no h n 3 (l.stalls.map StallR.cells) vS
 ap:∃ ws:List (AV × AV),ws.length=l.appls.length∧Sl na h n 4 (rowsOf l.appls ws) vA∧∀ i (h1:i<ws.length) (h2:i<l.appls.length),Sl no h n 1 (intRows l.appls[i].wishes) ws[i].1∧Sl no h n 1 (intRows l.appls[i].bids) ws[i].2
abbrev letV (vS vA:AV):List AV:=[vS,vA]
section
variable {no na no' na':Nat→Prop} {h h':Heap} {n n':Nat} {l:Letting} {vS vA:AV}
theorem LetAt.move (r:LetAt no na h n l vS vA) (hh:∀ b,b<n→no b→h'.get b=h.get b∧no' b) (ha:∀ b,b<n→na b→h'.get b=h.get b∧na' b) (hn:n≤n'):LetAt no' na' h' n' l vS vA:=by
 obtain ⟨s,ws,q1,q2,q3⟩:=r
 exact ⟨s.move hh hn,ws,q1,q2.move ha hn,fun i h1 h2=>⟨(q3 i h1 h2).1.move hh hn,(q3 i h1 h2).2.move hh hn⟩⟩
theorem LetAt.grow (r:LetAt no na h n l vS vA) (hh:∀ b,b<n→h'.get b=h.get b) (hn:n≤n'):LetAt no na h' n' l vS vA:=r.move (fun b h1 h2=>⟨hh b h1,h2⟩) (fun b h1 h2=>⟨hh b h1,h2⟩) hn
theorem LetAt.lenS (r:LetAt no na h n l vS vA) (s:St):lenSlA s vS=.val (.int .i64 l.stalls.length) s:=by have:=r.st.len s;rwa [List.length_map] at this
theorem LetAt.lenA (r:LetAt no na h n l vS vA) (s:St):lenSlA s vA=.val (.int .i64 l.appls.length) s:=by
 obtain ⟨_,ws,q1,q2,q3⟩:=r
 have:=q2.len s
 rwa [rowsOf_len q1] at this
theorem LetAt.okS (r:LetAt no na h n l vS vA) (t:St):okA (.val vS t)=.val vS t:=r.st.okA t
theorem LetAt.okV (r:LetAt no na h n l vS vA) (t:St):okA (.val vA t)=.val vA t:=by obtain ⟨_,ws,q1,q2,q3⟩:=r;exact q2.okA t
theorem LetAt.scal (r:LetAt no na h n l vS vA):scalars [vS,vA]=true:=by
 obtain ⟨s,ws,q1,q2,q3⟩:=r
 rw [s.scal.2.2]
 exact q2.scal.1
theorem LetAt.getA (r:LetAt no na h n l vS vA) {i:Nat} (hi:i<l.appls.length):∃ (w:AV × AV) (b p:Nat) (c:List AV) (sz:Nat),b<n∧(∀ s,ixsA 4 s vA (.int .i64 (i:Int))=.val (.ptr b p) s)∧h.get b=some (.cells c sz)∧cut p 4 c=some [.int .i64 l.appls[i].years,.int .i64 l.appls[i].token,w.1,w.2]∧Sl no h n 1 (intRows l.appls[i].wishes) w.1∧Sl no h n 1 (intRows l.appls[i].bids) w.2:=by
 obtain ⟨s,ws,q1,q2,q3⟩:=r
 have hw:i<ws.length:=by omega
 obtain ⟨b,p,c,sz,z1,z2,z3,z4⟩:=q2.at_.at_ i (by rw [rowsOf_len q1];exact hi)
 have e:(rowsOf l.appls ws)[i]'(by rw [rowsOf_len q1];exact hi)=l.appls[i].row ws[i]:=by unfold rowsOf;exact List.getElem_zipWith ..
 rw [e] at z4
 exact ⟨ws[i],b,p,c,sz,z1,z2,z3,z4,q3 i hw hi⟩
theorem LetAt.getS (r:LetAt no na h n l vS vA) {i:Nat} (hi:i<l.stalls.length):∃ (b p:Nat) (c:List AV) (sz:Nat),b<n∧(∀ s,ixsA 3 s vS (.int .i64 (i:Int))=.val (.ptr b p) s)∧h.get b=some (.cells c sz)∧cut p 3 c=some [.int .i64 l.stalls[i].rule,.int .i64 l.stalls[i].least,.int .i64 l.stalls[i].heir]:=by
 obtain ⟨b,p,c,sz,z1,z2,z3,z4⟩:=r.st.at_.at_ i (by rw [List.length_map];exact hi)
 rw [List.getElem_map] at z4
 exact ⟨b,p,c,sz,z1,z2,z3,z4⟩
theorem LetAt.getA2 (r:LetAt no na h n l vS vA) {i:Nat} (hi:i<l.appls.length):∃ (w:AV × AV) (b p:Nat) (c:List AV) (sz:Nat),(b<n∧na b)∧(∀ s,ixsA 4 s vA (.int .i64 (i:Int))=.val (.ptr b p) s)∧h.get b=some (.cells c sz)∧cut p 4 c=some [.int .i64 l.appls[i].years,.int .i64 l.appls[i].token,w.1,w.2]∧Sl no h n 1 (intRows l.appls[i].wishes) w.1∧Sl no h n 1 (intRows l.appls[i].bids) w.2:=by
 obtain ⟨s,ws,q1,q2,q3⟩:=r
 have hw:i<ws.length:=by omega
 obtain ⟨b,p,c,sz,z1,z0,z2,z3,z4⟩:=q2.get (i:=i) (by rw [rowsOf_len q1];exact hi)
 have e:(rowsOf l.appls ws)[i]'(by rw [rowsOf_len q1];exact hi)=l.appls[i].row ws[i]:=by unfold rowsOf;exact List.getElem_zipWith ..
 rw [e] at z4
 exact ⟨ws[i],b,p,c,sz,⟨z1,z0⟩,z2,z3,z4,q3 i hw hi⟩
theorem LetAt.getS2 (r:LetAt no na h n l vS vA) {i:Nat} (hi:i<l.stalls.length):∃ (b p:Nat) (c:List AV) (sz:Nat),(b<n∧no b)∧(∀ s,ixsA 3 s vS (.int .i64 (i:Int))=.val (.ptr b p) s)∧h.get b=some (.cells c sz)∧cut p 3 c=some [.int .i64 l.stalls[i].rule,.int .i64 l.stalls[i].least,.int .i64 l.stalls[i].heir]:=by
 obtain ⟨b,p,c,sz,z1,z0,z2,z3,z4⟩:=r.st.get (i:=i) (by rw [List.length_map];exact hi)
 rw [List.getElem_map] at z4
 exact ⟨b,p,c,sz,⟨z1,z0⟩,z2,z3,z4⟩
end
theorem named_neg (N:Nat) (hN:1≤N) (hi:Int) (s:St) (hs:s.n≤far):call Try.prog X N (.fn 48) [.int .i64 (-1),.int .i64 hi] s=.val (.int .i64 3) s:=by
 obtain ⟨n,rfl⟩:∃ n,N=n+1:=⟨N - 1,by omega⟩
 refine call_plain (s':=⟨s.h,s.n,far⟩) Try.func48 ?_ rfl hs
 have e0:decide ((-1:Int)<0)=true:=rfl
 rw [enter48]
 simp only [res48,K48r0,K48r1s6,K48r1s5,K48r1s4,K48r1,K48r2,K48r3,K48,Abs.W,reduceIte,Nat.reduceEqDiff,Nat.reduceAdd,decide_true,decide_false,kLoop_def,Nat.reduceSub,List.cons_append,List.nil_append,List.append_nil,List.length_cons,List.length_nil,e0]
/-! ### Lists of numbers -/
theorem rowInt {h:Heap} {n:Nat} {l:List Int} {v:AV} (r:RowsAt h n 1 (intRows l) v) {i:Nat} (hi:i<l.length):∃ b p c sz,b<n∧(∀ s,ixsA 1 s v (.int .i64 (i:Int))=.val (.ptr b p) s)∧h.get b=some (.cells c sz)∧nth c p=.int .i64 l[i]:=by
 obtain ⟨b,p,c,sz,h1,h2,h3,h4⟩:=intRow_at r hi
 refine ⟨b,p,c,sz,h1,h2,h3,?_⟩
 rw [h4]
 simp [List.getD,hi]
theorem rowLen {h:Heap} {n:Nat} {l:List Int} {v:AV} (r:RowsAt h n 1 (intRows l) v) (s:St):lenSlA s v=.val (.int .i64 l.length) s:=by have:=r.len s;rwa [intRows_len] at this
theorem index_ex {N:Nat} {l:List Int} {x:Int} {v:AV} {s:St} {r:ARes} (hr:call Try.prog X N (.fn 83) [v,.int .i64 x] s=r) (hN:1≤N) (hR:RowsAt s.h s.n 1 (intRows l) v) (hl:l.length≤1000) (hs:s.n+10≤far) :
  ∃ i:Int,r=.val (.int .i64 i) s∧(0≤i↔x ∈ l):=by
 obtain ⟨n,rfl⟩:∃ n,N=n+1:=⟨N - 1,by omega⟩
 obtain ⟨w,e,i,rfl,hi⟩:=call_some (n:=n) (s:=s) (k:=0) (args:=[v,.int .i64 x]) (Q:=fun w=>∃ i:Int,w=.int .i64 i∧(0≤i↔x ∈ l)) Try.func83 (fun u uh un um=>by
  rw [← uh,← un] at hR
  have kv:∀ t,okA (.val v t)=.val v t:=fun t=>okA_ne hR.ne
  have lv:=rowLen hR
  have hf:far=1000000000:=rfl
  rw [enter83]
  simp (disch:=first|omega|(with_unfolding_all exact rfl)|(simp only[new_n,put_n,new_m];omega)|(refine put_m_le ?_;simp only[new_m];omega)) only [res83,K83r0,K83r1,K83r2,K83r3,K83r4,K83r5,K83r6,K83r7,K83,Abs.W,reduceIte,Nat.reduceEqDiff,Nat.reduceAdd,decide_true,decide_false,kLoop_def,Nat.reduceSub,List.cons_append,List.nil_append,List.append_nil,List.length_cons,List.length_nil,Env.find_set,kv,lv]
  generalize hlp:loopN _ rounds _ _ _ _ _=q1
  obtain ⟨e,L1,s1,rfl,rfl,hQ⟩:=loop_of hlp (fun i L t=>t=u∧L.find 0=v∧L.find 1=.int .i64 x∧L.find 7=.int .i64 l.length∧L.find 8=.int .i64 i∧x ∉ l.take i)
   (fun e L t=>t=u∧((e=.ret∧∃ i:Nat,L.find 4=.int .i64 (i:Int)∧x ∈ l)∨(e=.exit 0∧x ∉ l))) l.length (by unfold rounds;omega)
   ⟨rfl,by simp only [find_cons,Env.find_set,reduceIte,Nat.reduceEqDiff],by simp only [find_cons,Env.find_set,reduceIte,Nat.reduceEqDiff],by simp only [find_cons,Env.find_set,reduceIte,Nat.reduceEqDiff],by simp only [find_cons,Env.find_set,reduceIte,Nat.reduceEqDiff];rfl,by simp⟩
   (fun i L t hi ⟨ht,q0,q1,q7,q8,hx⟩=>by
    subst ht
    by_cases hlt:i<l.length
    ·have e0:decide ((i:Int)<(l.length:Int))=true:=decide_eq_true (by omega)
     obtain ⟨b,p,c,sz,r1,r2,r3,r4⟩:=rowInt hR hlt
     have ad:∀ s,aAdd s .i64 (i:Int) 1=.val (.int .i64 ((i:Int)+1)) s:=fun s=>aAdd_i64 s _ _ (by omega)
     by_cases he:x=l[i]
     ·have e1:decide (x=l[i])=true:=decide_eq_true he
      refine .inr ⟨.ret,_,t,by simp,by
       simp (disch:=first|omega|(with_unfolding_all exact rfl)|(simp only[new_n,put_n,new_m];omega)|(refine put_m_le ?_;simp only[new_m];omega)) only [res83,K83r0,K83r1,K83r2,K83r3,K83r4,K83r5,K83r6,K83r7,K83,K83l0,Abs.W,reduceIte,Nat.reduceEqDiff,Nat.reduceAdd,decide_true,decide_false,kLoop_def,Nat.reduceSub,List.cons_append,List.nil_append,List.append_nil,List.length_cons,List.length_nil,Env.find_set,q0,q1,q7,q8,e0,kv,r2,r3,r4,e1]
       rfl,rfl,.inl ⟨rfl,i,by simp only [Env.find_set,reduceIte,Nat.reduceEqDiff],by rw [he];exact List.getElem_mem hlt⟩⟩
     ·have e1:decide (x=l[i])=false:=decide_eq_false he
      refine .inl ⟨hlt,_,t,by
       simp (disch:=first|omega|(with_unfolding_all exact rfl)|(simp only[new_n,put_n,new_m];omega)|(refine put_m_le ?_;simp only[new_m];omega)) only [res83,K83r0,K83r1,K83r2,K83r3,K83r4,K83r5,K83r6,K83r7,K83,K83l0,Abs.W,reduceIte,Nat.reduceEqDiff,Nat.reduceAdd,decide_true,decide_false,kLoop_def,Nat.reduceSub,List.cons_append,List.nil_append,List.append_nil,List.length_cons,List.length_nil,Env.find_set,q0,q1,q7,q8,e0,kv,r2,r3,r4,e1,ad]
       rfl,rfl,?_,?_,?_,?_,?_⟩
      ·simp only [Env.find_set,q0,reduceIte,Nat.reduceEqDiff]
      ·simp only [Env.find_set,q1,reduceIte,Nat.reduceEqDiff]
      ·simp only [Env.find_set,q7,reduceIte,Nat.reduceEqDiff]
      ·simp only [Env.find_set,reduceIte,Nat.reduceEqDiff];rfl
      ·rw [take_snoc hlt,List.mem_append,List.mem_singleton]
       exact fun h=>h.elim hx he
    ·obtain rfl:i=l.length:=by omega
     have e0:decide ((l.length:Int)<(l.length:Int))=false:=by simp
     refine .inr ⟨.exit 0,L.set 9 (.bool false),t,by simp,?_,rfl,.inr ⟨rfl,by rwa [List.take_length] at hx⟩⟩
     simp (disch:=first|omega|(with_unfolding_all exact rfl)|(simp only[new_n,put_n,new_m];omega)|(refine put_m_le ?_;simp only[new_m];omega)) only [res83,K83r0,K83r1,K83r2,K83r3,K83r4,K83r5,K83r6,K83r7,K83,K83l0,Abs.W,reduceIte,Nat.reduceEqDiff,Nat.reduceAdd,decide_true,decide_false,kLoop_def,Nat.reduceSub,List.cons_append,List.nil_append,List.append_nil,List.length_cons,List.length_nil,Env.find_set,q7,q8,e0])
  have hB:Beside s1 s1 0:=Beside.refl s1 (by omega) um
  rcases hQ with ⟨rfl,i,h4,hx⟩ | ⟨rfl,hx⟩
  ·simp (disch:=first|omega|(with_unfolding_all exact rfl)|(simp only[new_n,put_n,new_m];omega)|(refine put_m_le ?_;simp only[new_m];omega)) only [res83,K83r0,K83r1,K83r2,K83r3,K83r4,K83r5,K83r6,K83r7,K83,Abs.W,reduceIte,Nat.reduceEqDiff,Nat.reduceAdd,decide_true,decide_false,kLoop_def,Nat.reduceSub,List.cons_append,List.nil_append,List.append_nil,List.length_cons,List.length_nil,Env.find_set,h4]
   exact ⟨_,_,rfl,hB,rfl,_,rfl,by simp [hx]⟩
  ·simp (disch:=first|omega|(with_unfolding_all exact rfl)|(simp only[new_n,put_n,new_m];omega)|(refine put_m_le ?_;simp only[new_m];omega)) only [res83,K83r0,K83r1,K83r2,K83r3,K83r4,K83r5,K83r6,K83r7,K83,Abs.W,reduceIte,Nat.reduceEqDiff,Nat.reduceAdd,decide_true,decide_false,kLoop_def,Nat.reduceSub,List.cons_append,List.nil_append,List.append_nil,List.length_cons,List.length_nil,Env.find_set]
   exact ⟨_,_,rfl,hB,rfl,_,rfl,by simp [hx]⟩)
 exact ⟨i,hr.symm.trans e,hi⟩
theorem contains_ok (N:Nat) (hN:2≤N) (l:List Int) (x:Int) (v:AV) (s:St) (hR:RowsAt s.h s.n 1 (intRows l) v) (hl:l.length≤1000) (hs:s.n+20≤far) :
  call Try.prog X N (.fn 60) [v,.int .i64 x] s=.val (.bool (decide (x ∈ l))) s:=by
 obtain ⟨n,rfl⟩:∃ n,N=n+1:=⟨N - 1,by omega⟩
 refine call_plain' Try.func60 (fun u uh un um=>?_) rfl
 rw [← uh,← un] at hR
 have kv:∀ t,okA (.val v t)=.val v t:=fun t=>okA_ne hR.ne
 have hf:far=1000000000:=rfl
 rw [enter60]
 simp (disch:=first|omega|(with_unfolding_all exact rfl)|(simp only[new_n,put_n,new_m];omega)|(refine put_m_le ?_;simp only[new_m];omega)) only [res60,K60r0,K60r1,K60,Abs.W,reduceIte,Nat.reduceEqDiff,Nat.reduceAdd,decide_true,decide_false,kLoop_def,Nat.reduceSub,List.cons_append,List.nil_append,List.append_nil,List.length_cons,List.length_nil,Env.find_set,kv]
 generalize hc:call _ _ _ (.fn 83) _ _=r1
 obtain ⟨i,rfl,hi⟩:=index_ex hc (by omega) hR hl (by omega)
 have e:decide (0≤i)=decide (x ∈ l):=by
  by_cases h:x ∈ l
  ·rw [decide_eq_true h,decide_eq_true (hi.mpr h)]
  ·rw [decide_eq_false h,decide_eq_false (fun h'=>h (hi.mp h'))]
 simp (disch:=first|omega|(with_unfolding_all exact rfl)|(simp only[new_n,put_n,new_m];omega)|(refine put_m_le ?_;simp only[new_m];omega)) only [res60,K60r0,K60r1,K60,Abs.W,reduceIte,Nat.reduceEqDiff,Nat.reduceAdd,decide_true,decide_false,kLoop_def,Nat.reduceSub,List.cons_append,List.nil_append,List.append_nil,List.length_cons,List.length_nil,Env.find_set,e]
 exact ⟨_,rfl,by omega⟩
end Go.Proofs.Ytbcjojljiochfaa.walk
set_option maxRecDepth 10000
namespace Go.Proofs.Ytbcjojljiochfaa.walk
open Go.Abs Go.Proofs.Ytbcjojljiochfaa.code
theorem not_mem_take {l:List Int} (h:l.Nodup) {i:Nat} (hi:i<l.length):l[i] ∉ l.take i:=by
 intro hm
 have h1:l=l.take i++l.drop i:=(List.take_append_drop i l).symm
 have h2:l[i] ∈ l.drop i:=by
  rw [List.drop_eq_getElem_cons hi];exact List.mem_cons_self ..
 rw [h1,List.nodup_append] at h
 exact h.2.2 _ hm _ h2 rfl
theorem intRows_take (l:List Int) (i:Nat):(intRows l).take i=intRows (l.take i):=by unfold intRows;rw [List.map_take]
theorem wishes_ok (N:Nat) (hN:3≤N) {no:Nat→Prop} (l:List Int) (k:Nat) (v:AV) (s:St) (hR:Sl no s.h s.n 1 (intRows l) v) (hl:l.length≤8) (hnd:l.Nodup) (hw:∀ x ∈ l,0≤x∧x<k) (hs:s.n+30≤far) :
  call Try.prog X N (.fn 67) [v,.int .i64 (k:Int)] s=.val (.int .i64 0) s:=by
 obtain ⟨n,rfl⟩:∃ n,N=n+1:=⟨N - 1,by omega⟩
 refine call_plain' Try.func67 (fun u uh un um=>?_) rfl
 rw [← uh,← un] at hR
 have kv:=hR.okA
 have lv:=rowLen hR.at_
 have hf:far=1000000000:=rfl
 have z0:decide ((0:Int)=0)=true:=rfl
 rw [enter67]
 simp (disch:=first|omega|(with_unfolding_all exact rfl)|(simp only[new_n,put_n,new_m];omega)|(refine put_m_le ?_;simp only[new_m];omega)) only [res67,K67r0,K67r1,K67r2,K67r3,K67r4,K67r5,K67r6,K67r7,K67r8,K67r9,K67r10,K67,Abs.W,reduceIte,Nat.reduceEqDiff,Nat.reduceAdd,decide_true,decide_false,kLoop_def,Nat.reduceSub,List.cons_append,List.nil_append,List.append_nil,List.length_cons,List.length_nil,Env.find_set,kv,lv]
 generalize hlp:loopN _ rounds _ _ _ _ _=q1
 obtain ⟨e,L1,s1,rfl,rfl,rfl⟩:=loop_of hlp (fun i L t=>t=u∧L.find 0=v∧L.find 1=.int .i64 (k:Int)∧L.find 8=v∧L.find 9=.int .i64 l.length∧L.find 10=.int .i64 i)
  (fun e L t=>e=.exit 0∧t=u) l.length (by unfold rounds;omega)
  ⟨rfl,by simp only [find_cons,Env.find_set,reduceIte,Nat.reduceEqDiff],by simp only [find_cons,Env.find_set,reduceIte,Nat.reduceEqDiff],by simp only [find_cons,Env.find_set,reduceIte,Nat.reduceEqDiff],by simp only [find_cons,Env.find_set,reduceIte,Nat.reduceEqDiff],by simp only [find_cons,Env.find_set,reduceIte,Nat.reduceEqDiff];rfl⟩
  (fun i L t hi ⟨ht,q0,q1,q8,q9,q10⟩=>by
   subst ht
   by_cases hlt:i<l.length
   ·have e0:decide ((i:Int)<(l.length:Int))=true:=decide_eq_true (by omega)
    obtain ⟨b,p,c,sz,r1,r2,r3,r4⟩:=rowInt hR.at_ hlt
    obtain ⟨x0,x1⟩:=hw _ (List.getElem_mem hlt)
    obtain ⟨v',t1,t2⟩:=hR.to (i:=i) (by rw [intRows_len];omega)
    rw [intRows_take] at t2
    have ad:∀ s,aAdd s .i64 (i:Int) 1=.val (.int .i64 ((i:Int)+1)) s:=fun s=>aAdd_i64 s _ _ (by omega)
    have hc:=contains_ok n (by omega) (l.take i) l[i] v' t t2.at_ (by rw [List.length_take];omega) (by omega)
    rw [decide_eq_false (not_mem_take hnd hlt)] at hc
    have kv':=t2.okA
    refine .inl ⟨hlt,_,t,by
     simp (disch:=first|omega|(with_unfolding_all exact rfl)|(simp only[new_n,put_n,new_m];omega)|(refine put_m_le ?_;simp only[new_m];omega)) only [res67,K67r0,K67r1,K67r2,K67r3,K67r4,K67r5,K67r6,K67r7,K67r8,K67r9,K67r10,K67,K67l0,Abs.W,reduceIte,Nat.reduceEqDiff,Nat.reduceAdd,decide_true,decide_false,kLoop_def,Nat.reduceSub,List.cons_append,List.nil_append,List.append_nil,List.length_cons,List.length_nil,Env.find_set,q0,q1,q8,q9,q10,e0,kv,kv',r2,r3,r4,named_ok,z0,kSlice_def,optEv_some,optEv_none,t1,hc,ad]
     rfl,rfl,?_,?_,?_,?_,?_⟩
    ·simp only [Env.find_set,q0,reduceIte,Nat.reduceEqDiff]
    ·simp only [Env.find_set,q1,reduceIte,Nat.reduceEqDiff]
    ·simp only [Env.find_set,q8,reduceIte,Nat.reduceEqDiff]
    ·simp only [Env.find_set,q9,reduceIte,Nat.reduceEqDiff]
    ·simp only [Env.find_set,reduceIte,Nat.reduceEqDiff];rfl
   ·obtain rfl:i=l.length:=by omega
    have e0:decide ((l.length:Int)<(l.length:Int))=false:=by simp
    refine .inr ⟨.exit 0,L.set 11 (.bool false),t,by simp,?_,rfl,rfl⟩
    simp (disch:=first|omega|(with_unfolding_all exact rfl)|(simp only[new_n,put_n,new_m];omega)|(refine put_m_le ?_;simp only[new_m];omega)) only [res67,K67r0,K67r1,K67r2,K67r3,K67r4,K67r5,K67r6,K67r7,K67r8,K67r9,K67r10,K67,K67l0,Abs.W,reduceIte,Nat.reduceEqDiff,Nat.reduceAdd,decide_true,decide_false,kLoop_def,Nat.reduceSub,List.cons_append,List.nil_append,List.append_nil,List.length_cons,List.length_nil,Env.find_set,q9,q10,e0])
 simp (disch:=first|omega|(with_unfolding_all exact rfl)|(simp only[new_n,put_n,new_m];omega)|(refine put_m_le ?_;simp only[new_m];omega)) only [res67,K67r0,K67r1,K67r2,K67r3,K67r4,K67r5,K67r6,K67r7,K67r8,K67r9,K67r10,K67,Abs.W,reduceIte,Nat.reduceEqDiff,Nat.reduceAdd,decide_true,decide_false,kLoop_def,Nat.reduceSub,List.cons_append,List.nil_append,List.append_nil,List.length_cons,List.length_nil,Env.find_set]
 exact ⟨_,rfl,by omega⟩
theorem bids_ok (N:Nat) (hN:3≤N) {no:Nat→Prop} (a b:AV) (l m:List Int) (v w:AV) (s:St) (hR:Sl no s.h s.n 1 (intRows l) v) (hQ:Sl no s.h s.n 1 (intRows m) w) (hl:l.length≤8) (hm:m.length=l.length) (hw:∀ x ∈ m,0≤x∧x≤1000000) (hs:s.n+30≤far) :
  call Try.prog X N (.fn 68) [.agg [a,b,v,w]] s=.val (.int .i64 0) s:=by
 obtain ⟨n,rfl⟩:∃ n,N=n+1:=⟨N - 1,by omega⟩
 refine call_plain' Try.func68 (fun u uh un um=>?_) rfl
 rw [← uh,← un] at hR hQ
 have kv:=hR.okA
 have lv:=rowLen hR.at_
 have kw:=hQ.okA
 have lw:=rowLen hQ.at_
 have hf:far=1000000000:=rfl
 have z0:decide ((0:Int)=0)=true:=rfl
 obtain ⟨t0,ht0⟩:∃ t0:St,t0=u.new (.cells [a,b,v,w] (tag 37)):=⟨_,rfl⟩
 have tn:t0.n=u.n+1:=by rw [ht0];rfl
 have tm:t0.m=far:=by rw [ht0];exact um
 have tg:∀ c,c<u.n→t0.h.get c=u.h.get c:=fun c hc=>by rw [ht0,get_new_ne _ _ _ (by omega)]
 have t00:t0.h.get u.n=some (.cells [a,b,v,w] (tag 37)):=by rw [ht0];exact get_new_eq _ _ _ rfl (by omega)
 have hQ:=hQ.grow tg (by omega:u.n≤t0.n)
 have el:decide ((m.length:Int)=(l.length:Int))=true:=decide_eq_true (by omega)
 rw [enter68]
 simp (disch:=first|omega|(with_unfolding_all exact rfl)|(simp only[new_n,put_n,new_m];omega)|(refine put_m_le ?_;simp only[new_m];omega)) only [res68,K68,K68r0,Abs.W,reduceIte,Nat.reduceEqDiff,Nat.reduceAdd,decide_true,decide_false,kLoop_def,Nat.reduceSub,List.cons_append,List.nil_append,List.append_nil,List.length_cons,List.length_nil]
 rw [← ht0]
 simp (disch:=first|omega|(with_unfolding_all exact rfl)|(simp only[new_n,put_n,new_m];omega)|(refine put_m_le ?_;simp only[new_m];omega)) only [res68,K68r0,K68r1,K68r2,K68r3,K68r4,K68r5,K68r6,K68r7,K68r8,K68r9,K68r10,K68,Abs.W,reduceIte,Nat.reduceEqDiff,Nat.reduceAdd,decide_true,decide_false,kLoop_def,Nat.reduceSub,List.cons_append,List.nil_append,List.append_nil,List.length_cons,List.length_nil,Env.find_set,t00,kv,lv,kw,lw,el,Nat.zero_add]
 generalize hlp:loopN _ rounds _ _ _ _ _=q1
 obtain ⟨e,L1,s1,rfl,rfl,rfl⟩:=loop_of hlp (fun i L t=>t=t0∧L.find 14=w∧L.find 15=.int .i64 m.length∧L.find 16=.int .i64 i)
  (fun e L t=>e=.exit 0∧t=t0) m.length (by unfold rounds;omega)
  ⟨rfl,by simp only [find_cons,Env.find_set,reduceIte,Nat.reduceEqDiff],by simp only [find_cons,Env.find_set,reduceIte,Nat.reduceEqDiff],by simp only [find_cons,Env.find_set,reduceIte,Nat.reduceEqDiff];rfl⟩
  (fun i L t hi ⟨ht,q14,q15,q16⟩=>by
   subst ht
   by_cases hlt:i<m.length
   ·have e0:decide ((i:Int)<(m.length:Int))=true:=decide_eq_true (by omega)
    obtain ⟨b,p,c,sz,r1,r2,r3,r4⟩:=rowInt hQ.at_ hlt
    obtain ⟨x0,x1⟩:=hw _ (List.getElem_mem hlt)
    have ad:∀ s,aAdd s .i64 (i:Int) 1=.val (.int .i64 ((i:Int)+1)) s:=fun s=>aAdd_i64 s _ _ (by omega)
    refine .inl ⟨hlt,_,t,by
     simp (disch:=first|omega|(with_unfolding_all exact rfl)|(simp only[new_n,put_n,new_m];omega)|(refine put_m_le ?_;simp only[new_m];omega)) only [res68,K68r0,K68r1,K68r2,K68r3,K68r4,K68r5,K68r6,K68r7,K68r8,K68r9,K68r10,K68,K68l0,Abs.W,reduceIte,Nat.reduceEqDiff,Nat.reduceAdd,decide_true,decide_false,kLoop_def,Nat.reduceSub,List.cons_append,List.nil_append,List.append_nil,List.length_cons,List.length_nil,Env.find_set,q14,q15,q16,e0,kw,r2,r3,r4,within_ok,z0,ad]
     rfl,rfl,?_,?_,?_⟩
    ·simp only [Env.find_set,q14,reduceIte,Nat.reduceEqDiff]
    ·simp only [Env.find_set,q15,reduceIte,Nat.reduceEqDiff]
    ·simp only [Env.find_set,reduceIte,Nat.reduceEqDiff];rfl
   ·obtain rfl:i=m.length:=by omega
    have e0:decide ((m.length:Int)<(m.length:Int))=false:=by simp
    refine .inr ⟨.exit 0,L.set 17 (.bool false),t,by simp,?_,rfl,rfl⟩
    simp (disch:=first|omega|(with_unfolding_all exact rfl)|(simp only[new_n,put_n,new_m];omega)|(refine put_m_le ?_;simp only[new_m];omega)) only [res68,K68r0,K68r1,K68r2,K68r3,K68r4,K68r5,K68r6,K68r7,K68r8,K68r9,K68r10,K68,K68l0,Abs.W,reduceIte,Nat.reduceEqDiff,Nat.reduceAdd,decide_true,decide_false,kLoop_def,Nat.reduceSub,List.cons_append,List.nil_append,List.append_nil,List.length_cons,List.length_nil,Env.find_set,q15,q16,e0])
 simp (disch:=first|omega|(with_unfolding_all exact rfl)|(simp only[new_n,put_n,new_m];omega)|(refine put_m_le ?_;simp only[new_m];omega)) only [res68,K68r0,K68r1,K68r2,K68r3,K68r4,K68r5,K68r6,K68r7,K68r8,K68r9,K68r10,K68,Abs.W,reduceIte,Nat.reduceEqDiff,Nat.reduceAdd,decide_true,decide_false,kLoop_def,Nat.reduceSub,List.cons_append,List.nil_append,List.append_nil,List.length_cons,List.length_nil,Env.find_set]
 exact ⟨_,rfl,by omega⟩
theorem stalls_ok (N:Nat) (hN:3≤N) {no na:Nat→Prop} (l:Letting) (ok:l.Ok) (vS vA:AV) (s:St) (hL:LetAt no na s.h s.n l vS vA) (hs:s.n+1000≤far) :
  call Try.prog X N (.fn 51) [.agg (letV vS vA)] s=.val (.int .i64 0) s:=by
 obtain ⟨n,rfl⟩:∃ n,N=n+1:=⟨N - 1,by omega⟩
 refine call_plain' Try.func51 (fun u uh un um=>?_) rfl
 have hf:far=1000000000:=rfl
 rw [← uh,← un] at hL
 have kS:=hL.okS
 have kA:=hL.okV
 have lS:=hL.lenS
 have lA:=hL.lenA
 have z0:decide ((0:Int)=0)=true:=rfl
 have z3:decide ((3:Int)=0)=false:=rfl
 obtain ⟨w,hw⟩:∃ w:St,w=u.new (.cells [vS,vA] (tag 28)):=⟨_,rfl⟩
 have wn:w.n=u.n+1:=by rw [hw];rfl
 have wm:w.m=far:=by rw [hw];exact um
 have wg:∀ c,c<u.n→w.h.get c=u.h.get c:=fun c hc=>by rw [hw,get_new_ne _ _ _ (by omega)]
 have w0:w.h.get u.n=some (.cells [vS,vA] (tag 28)):=by rw [hw];exact get_new_eq _ _ _ rfl (by omega)
 have hM:=hL.grow wg (by omega:u.n≤w.n)
 have k0:=ok.k0
 have k1:=ok.k1
 have m1:=ok.m1
 rw [enter51]
 simp (disch:=first|omega|(with_unfolding_all exact rfl)|(simp only[new_n,put_n,new_m];omega)|(refine put_m_le ?_;simp only[new_m];omega)) only [res51,K51,K51r0,Abs.W,reduceIte,Nat.reduceEqDiff,Nat.reduceAdd,decide_true,decide_false,kLoop_def,Nat.reduceSub,List.cons_append,List.nil_append,List.append_nil,List.length_cons,List.length_nil]
 rw [← hw]
 simp (disch:=first|omega|(with_unfolding_all exact rfl)|(simp only[new_n,put_n,new_m];omega)|(refine put_m_le ?_;simp only[new_m];omega)) only [res51,K51r0,K51r1,K51r2,K51r3,K51r4,K51r5,K51r6,K51r7s7,K51r7s6,K51r7s5,K51r7,K51r8,K51r9,K51r10,K51r11,K51r12,K51r13s6,K51r13s5,K51r13,K51r14,K51r15,K51r16,K51,Abs.W,reduceIte,Nat.reduceEqDiff,Nat.reduceAdd,decide_true,decide_false,kLoop_def,Nat.reduceSub,List.cons_append,List.nil_append,List.append_nil,List.length_cons,List.length_nil,Env.find_set,w0,kS,kA,lS,lA,z0,counted_ok,Nat.zero_add]
 generalize hl1:loopN _ rounds _ _ _ _ _=q1
 obtain ⟨e,L1,s1,rfl,rfl,hE⟩:=loop_of hl1
  (fun i L' t=>L'.find 1=.ptr u.n 0∧L'.find 16=vS∧L'.find 17=.int .i64 l.stalls.length∧L'.find 18=.int .i64 i∧Beside w t (10 * i))
  (fun e L1 s1=>e=.exit 0∧Beside w s1 (10 * l.stalls.length))
  l.stalls.length (by unfold rounds;omega) ⟨by simp only [find_cons,Env.find_set,reduceIte,Nat.reduceEqDiff],by simp only [find_cons,Env.find_set,reduceIte,Nat.reduceEqDiff],by simp only [find_cons,Env.find_set,reduceIte,Nat.reduceEqDiff],by simp only [find_cons,Env.find_set,reduceIte,Nat.reduceEqDiff];rfl,Beside.refl w (by omega) wm⟩
  (fun i L' t hi ⟨q1,q16,q17,q18,hE⟩=>by
   have tn:=hE.n
   have tl:=hE.le
   have tm:=hE.m
   have tf:=hE.far
   by_cases hlt:i<l.stalls.length
   ·have e0:decide ((i:Int)<(l.stalls.length:Int))=true:=decide_eq_true (by omega)
    obtain ⟨p,o,cs,sz,r1,r2,r3,r4⟩:=(hM.grow hE.same tn).getS hlt
    obtain ⟨s0,s1,d0,d1,h0,h1⟩:=ok.st _ (List.getElem_mem hlt)
    generalize l.stalls[i]=M at *
    have gg:=(hE.same u.n (by omega)).trans w0
    have ad:∀ s,aAdd s .i64 (i:Int) 1=.val (.int .i64 ((i:Int)+1)) s:=fun s=>aAdd_i64 s _ _ (by omega)
    have a1:decide (M.rule<1)=false:=decide_eq_false (by omega)
    have a2:decide ((3:Int)<M.rule)=false:=decide_eq_false (by omega)
    by_cases hh:M.heir = -1
    ·rw [hh] at r4
     have a3:decide ((-1:Int) = -1)=true:=rfl
     refine .inl ⟨hlt,_,_,by
      simp (disch:=first|omega|(with_unfolding_all exact rfl)|(simp only[new_n,put_n,new_m];omega)|(refine put_m_le ?_;simp only[new_m];omega)) only [res51,K51r0,K51r1,K51r2,K51r3,K51r4,K51r5,K51r6,K51r7s7,K51r7s6,K51r7s5,K51r7,K51r8,K51r9,K51r10,K51r11,K51r12,K51r13s6,K51r13s5,K51r13,K51r14,K51r15,K51r16,K51,K51l0,Abs.W,reduceIte,Nat.reduceEqDiff,Nat.reduceAdd,decide_true,decide_false,kLoop_def,Nat.reduceSub,List.cons_append,List.nil_append,List.append_nil,List.length_cons,List.length_nil,Env.find_set,q1,q16,q17,q18,e0,r2,r3,r4,gg,kA,lA,a1,a2,a3,named_neg,within_ok,z0,ad,Nat.zero_add]
      rfl,?_,?_,?_,?_,(((hE.new _).put _ tn)).mono (by omega)⟩
     ·simp only [Env.find_set,q1,reduceIte,Nat.reduceEqDiff]
     ·simp only [Env.find_set,q16,reduceIte,Nat.reduceEqDiff]
     ·simp only [Env.find_set,q17,reduceIte,Nat.reduceEqDiff]
     ·simp only [Env.find_set,reduceIte,Nat.reduceEqDiff];rfl
    ·have a3:decide (M.heir = -1)=false:=decide_eq_false hh
     have nk:=fun (s:St) (hs:s.n≤far)=>named_ok n (by omega) M.heir (l.appls.length:Int) s (by omega) (by omega) hs
     refine .inl ⟨hlt,_,_,by
      simp (disch:=first|omega|(with_unfolding_all exact rfl)|(simp only[new_n,put_n,new_m];omega)|(refine put_m_le ?_;simp only[new_m];omega)) only [res51,K51r0,K51r1,K51r2,K51r3,K51r4,K51r5,K51r6,K51r7s7,K51r7s6,K51r7s5,K51r7,K51r8,K51r9,K51r10,K51r11,K51r12,K51r13s6,K51r13s5,K51r13,K51r14,K51r15,K51r16,K51,K51l0,Abs.W,reduceIte,Nat.reduceEqDiff,Nat.reduceAdd,decide_true,decide_false,kLoop_def,Nat.reduceSub,List.cons_append,List.nil_append,List.append_nil,List.length_cons,List.length_nil,Env.find_set,q1,q16,q17,q18,e0,r2,r3,r4,gg,kA,lA,a1,a2,a3,nk,within_ok,z0,ad,Nat.zero_add]
      rfl,?_,?_,?_,?_,(((hE.new _).put _ tn)).mono (by omega)⟩
     ·simp only [Env.find_set,q1,reduceIte,Nat.reduceEqDiff]
     ·simp only [Env.find_set,q16,reduceIte,Nat.reduceEqDiff]
     ·simp only [Env.find_set,q17,reduceIte,Nat.reduceEqDiff]
     ·simp only [Env.find_set,reduceIte,Nat.reduceEqDiff];rfl
   ·obtain rfl:i=l.stalls.length:=by omega
    have e0:decide ((l.stalls.length:Int)<(l.stalls.length:Int))=false:=by simp
    refine .inr ⟨.exit 0,L'.set 19 (.bool false),t,by simp,?_,rfl,hE⟩
    simp (disch:=first|omega|(with_unfolding_all exact rfl)|(simp only[new_n,put_n,new_m];omega)|(refine put_m_le ?_;simp only[new_m];omega)) only [res51,K51r0,K51r1,K51r2,K51r3,K51r4,K51r5,K51r6,K51r7s7,K51r7s6,K51r7s5,K51r7,K51r8,K51r9,K51r10,K51r11,K51r12,K51r13s6,K51r13s5,K51r13,K51r14,K51r15,K51r16,K51,K51l0,Abs.W,reduceIte,Nat.reduceEqDiff,Nat.reduceAdd,decide_true,decide_false,kLoop_def,Nat.reduceSub,List.cons_append,List.nil_append,List.append_nil,List.length_cons,List.length_nil,Env.find_set,q17,q18,e0])
 simp (disch:=first|omega|(with_unfolding_all exact rfl)|(simp only[new_n,put_n,new_m];omega)|(refine put_m_le ?_;simp only[new_m];omega)) only [res51,K51r0,K51r1,K51r2,K51r3,K51r4,K51r5,K51r6,K51r7s7,K51r7s6,K51r7s5,K51r7,K51r8,K51r9,K51r10,K51r11,K51r12,K51r13s6,K51r13s5,K51r13,K51r14,K51r15,K51r16,K51,Abs.W,reduceIte,Nat.reduceEqDiff,Nat.reduceAdd,decide_true,decide_false,kLoop_def,Nat.reduceSub,List.cons_append,List.nil_append,List.append_nil,List.length_cons,List.length_nil,Env.find_set]
 refine ⟨s1,rfl,?_⟩
 have:=hE.m
 omega
theorem appls_ok (N:Nat) (hN:5≤N) {no na:Nat→Prop} (l:Letting) (ok:l.Ok) (vS vA:AV) (s:St) (hL:LetAt no na s.h s.n l vS vA) (hs:s.n+1000≤far) :
  call Try.prog X N (.fn 52) [.agg (letV vS vA)] s=.val (.int .i64 0) s:=by
 obtain ⟨n,rfl⟩:∃ n,N=n+1:=⟨N - 1,by omega⟩
 refine call_plain' Try.func52 (fun u uh un um=>?_) rfl
 have hf:far=1000000000:=rfl
 rw [← uh,← un] at hL
 have kS:=hL.okS
 have kA:=hL.okV
 have lS:=hL.lenS
 have lA:=hL.lenA
 have z0:decide ((0:Int)=0)=true:=rfl
 obtain ⟨w,hw⟩:∃ w:St,w=u.new (.cells [vS,vA] (tag 28)):=⟨_,rfl⟩
 have wn:w.n=u.n+1:=by rw [hw];rfl
 have wm:w.m=far:=by rw [hw];exact um
 have wg:∀ c,c<u.n→w.h.get c=u.h.get c:=fun c hc=>by rw [hw,get_new_ne _ _ _ (by omega)]
 have w0:w.h.get u.n=some (.cells [vS,vA] (tag 28)):=by rw [hw];exact get_new_eq _ _ _ rfl (by omega)
 have hM:=hL.grow wg (by omega:u.n≤w.n)
 have k0:=ok.k0
 have k1:=ok.k1
 have m1:=ok.m1
 rw [enter52]
 simp (disch:=first|omega|(with_unfolding_all exact rfl)|(simp only[new_n,put_n,new_m];omega)|(refine put_m_le ?_;simp only[new_m];omega)) only [res52,K52,K52r0,Abs.W,reduceIte,Nat.reduceEqDiff,Nat.reduceAdd,decide_true,decide_false,kLoop_def,Nat.reduceSub,List.cons_append,List.nil_append,List.append_nil,List.length_cons,List.length_nil]
 rw [← hw]
 simp (disch:=first|omega|(with_unfolding_all exact rfl)|(simp only[new_n,put_n,new_m];omega)|(refine put_m_le ?_;simp only[new_m];omega)) only [res52,K52r0,K52r1,K52r2,K52r3,K52r4,K52r5,K52r6,K52r7,K52r8,K52r9,K52r10,K52r11,K52,Abs.W,reduceIte,Nat.reduceEqDiff,Nat.reduceAdd,decide_true,decide_false,kLoop_def,Nat.reduceSub,List.cons_append,List.nil_append,List.append_nil,List.length_cons,List.length_nil,Env.find_set,w0,kS,kA,lS,lA,z0,counted_ok,Nat.zero_add]
 generalize hl1:loopN _ rounds _ _ _ _ _=q1
 obtain ⟨e,L1,s1,rfl,rfl,hE⟩:=loop_of hl1
  (fun i L' t=>L'.find 1=.ptr u.n 0∧L'.find 15=vA∧L'.find 16=.int .i64 l.appls.length∧L'.find 17=.int .i64 i∧Beside w t (10 * i))
  (fun e L1 s1=>e=.exit 0∧Beside w s1 (10 * l.appls.length))
  l.appls.length (by unfold rounds;omega) ⟨by simp only [find_cons,Env.find_set,reduceIte,Nat.reduceEqDiff],by simp only [find_cons,Env.find_set,reduceIte,Nat.reduceEqDiff],by simp only [find_cons,Env.find_set,reduceIte,Nat.reduceEqDiff],by simp only [find_cons,Env.find_set,reduceIte,Nat.reduceEqDiff];rfl,Beside.refl w (by omega) wm⟩
  (fun i L' t hi ⟨q1,q15,q16,q17,hE⟩=>by
   have tn:=hE.n
   have tl:=hE.le
   have tm:=hE.m
   have tf:=hE.far
   by_cases hlt:i<l.appls.length
   ·have e0:decide ((i:Int)<(l.appls.length:Int))=true:=decide_eq_true (by omega)
    have hT:=hM.grow hE.same tn
    obtain ⟨ww,p,o,cs,sz,r1,r2,r3,r4,r5,r6⟩:=hT.getA hlt
    obtain ⟨y0,y1,t0,t1,wk,nd,wl,bl,bb⟩:=ok.ap _ (List.getElem_mem hlt)
    obtain ⟨ww1,ww2⟩:=ww
    simp only at r4 r5 r6
    have gg:=(hE.same u.n (by omega)).trans w0
    generalize l.appls[i]=M at *
    have ad:∀ s,aAdd s .i64 (i:Int) 1=.val (.int .i64 ((i:Int)+1)) s:=fun s=>aAdd_i64 s _ _ (by omega)
    obtain ⟨y,hy⟩:∃ y:St,y=(t.new (.cells [.int .i64 0,.int .i64 0,.nilslice,.nilslice] (tag 37))).put t.n (.cells [.int .i64 M.years,.int .i64 M.token,ww1,ww2] (tag 37)):=⟨_,rfl⟩
    have yn:y.n=t.n+1:=by rw [hy];rfl
    have ym:y.m=min t.m t.n:=by rw [hy];simp only [St.put,minN_eq,new_m]
    have yg:∀ c,c<t.n→y.h.get c=t.h.get c:=fun c hc=>by rw [hy,get_put_ne' _ _ _ _ (by omega),get_new_ne _ _ _ (by omega)]
    have yp:y.h.get t.n=some (.cells [.int .i64 M.years,.int .i64 M.token,ww1,ww2] (tag 37)):=by rw [hy];exact get_put_eq _ _ _ _ rfl (by omega)
    have hb:Beside w y (10 * i+1):=by rw [hy];exact (hE.new _).put _ tn
    have r5y:=r5.grow yg (by omega:t.n≤y.n)
    have r6y:=r6.grow yg (by omega:t.n≤y.n)
    have k5:=r5.okA
    have k6:=r6.okA
    have sc:scalars [.int .i64 M.years,.int .i64 M.token,ww1,ww2]=true:=by
     rw [scal_int,scal_int,r5.scal.2.2];exact r6.scal.1
    have gy:=(yg u.n (by omega)).trans gg
    have c1:=wishes_ok n (by omega) M.wishes l.stalls.length ww1 ⟨y.h,y.n,far⟩ r5y wl nd wk (by show y.n+30≤far;omega)
    have c2:=bids_ok n (by omega) (.int .i64 M.years) (.int .i64 M.token) M.wishes M.bids ww1 ww2 y r5y r6y wl bl bb (by omega)
    have co:=or_new4 n (by omega) y (by omega)
    refine .inl ⟨hlt,_,_,by
     simp (disch:=first|omega|(with_unfolding_all exact rfl)|(simp only[new_n,put_n,new_m];omega)|(refine put_m_le ?_;simp only[new_m];omega)) only [res52,K52r0,K52r1,K52r2,K52r3,K52r4,K52r5,K52r6,K52r7,K52r8,K52r9,K52r10,K52r11,K52,K52l0,Abs.W,reduceIte,Nat.reduceEqDiff,Nat.reduceAdd,decide_true,decide_false,kLoop_def,Nat.reduceSub,List.cons_append,List.nil_append,List.append_nil,List.length_cons,List.length_nil,Env.find_set,q1,q15,q16,q17,e0,r2,r3,r4,sc,Nat.zero_add]
     rw [← hy]
     simp (disch:=first|omega|(with_unfolding_all exact rfl)|(simp only[new_n,put_n,new_m];omega)|(refine put_m_le ?_;simp only[new_m];omega)) only [res52,K52r0,K52r1,K52r2,K52r3,K52r4,K52r5,K52r6,K52r7,K52r8,K52r9,K52r10,K52r11,K52,Abs.W,reduceIte,Nat.reduceEqDiff,Nat.reduceAdd,decide_true,decide_false,kLoop_def,Nat.reduceSub,List.cons_append,List.nil_append,List.append_nil,List.length_cons,List.length_nil,Env.find_set,q1,q15,q16,q17,yp,gy,kS,k5,k6,lS,c1,c2,co,within_ok,z0,ad,endO_nil,regD_ok,Nat.zero_add]
     rfl,?_,?_,?_,?_,(hb.new _).mono (by omega)⟩
    ·simp only [Env.find_set,q1,reduceIte,Nat.reduceEqDiff]
    ·simp only [Env.find_set,q15,reduceIte,Nat.reduceEqDiff]
    ·simp only [Env.find_set,q16,reduceIte,Nat.reduceEqDiff]
    ·simp only [Env.find_set,reduceIte,Nat.reduceEqDiff];rfl
   ·obtain rfl:i=l.appls.length:=by omega
    have e0:decide ((l.appls.length:Int)<(l.appls.length:Int))=false:=by simp
    refine .inr ⟨.exit 0,L'.set 18 (.bool false),t,by simp,?_,rfl,hE⟩
    simp (disch:=first|omega|(with_unfolding_all exact rfl)|(simp only[new_n,put_n,new_m];omega)|(refine put_m_le ?_;simp only[new_m];omega)) only [res52,K52r0,K52r1,K52r2,K52r3,K52r4,K52r5,K52r6,K52r7,K52r8,K52r9,K52r10,K52r11,K52,K52l0,Abs.W,reduceIte,Nat.reduceEqDiff,Nat.reduceAdd,decide_true,decide_false,kLoop_def,Nat.reduceSub,List.cons_append,List.nil_append,List.append_nil,List.length_cons,List.length_nil,Env.find_set,q16,q17,e0])
 simp (disch:=first|omega|(with_unfolding_all exact rfl)|(simp only[new_n,put_n,new_m];omega)|(refine put_m_le ?_;simp only[new_m];omega)) only [res52,K52r0,K52r1,K52r2,K52r3,K52r4,K52r5,K52r6,K52r7,K52r8,K52r9,K52r10,K52r11,K52,Abs.W,reduceIte,Nat.reduceEqDiff,Nat.reduceAdd,decide_true,decide_false,kLoop_def,Nat.reduceSub,List.cons_append,List.nil_append,List.append_nil,List.length_cons,List.length_nil,Env.find_set]
 refine ⟨s1,rfl,?_⟩
 have:=hE.m
 omega
theorem check_ok (N:Nat) (hN:6≤N) {no na:Nat→Prop} (l:Letting) (ok:l.Ok) (vS vA:AV) (s:St) (hL:LetAt no na s.h s.n l vS vA) (hs:s.n+2000≤far) :
  call Try.prog X N (.fn 35) [.agg (letV vS vA)] s=.val (.int .i64 0) s:=by
 obtain ⟨n,rfl⟩:∃ n,N=n+1:=⟨N - 1,by omega⟩
 refine call_plain' Try.func35 (fun u uh un um=>?_) rfl
 have hf:far=1000000000:=rfl
 rw [← uh,← un] at hL
 obtain ⟨w,hw⟩:∃ w:St,w=u.new (.cells [vS,vA] (tag 28)):=⟨_,rfl⟩
 have wn:w.n=u.n+1:=by rw [hw];rfl
 have wm:w.m=far:=by rw [hw];exact um
 have wg:∀ c,c<u.n→w.h.get c=u.h.get c:=fun c hc=>by rw [hw,get_new_ne _ _ _ (by omega)]
 have w0:w.h.get u.n=some (.cells [vS,vA] (tag 28)):=by rw [hw];exact get_new_eq _ _ _ rfl (by omega)
 have hM:=hL.grow wg (by omega:u.n≤w.n)
 have c1:=stalls_ok n (by omega) l ok vS vA w hM (by omega)
 have c2:=appls_ok n (by omega) l ok vS vA w hM (by omega)
 have z0:decide ((0:Int)=0)=true:=rfl
 rw [enter35]
 simp (disch:=first|omega|(with_unfolding_all exact rfl)|(simp only[new_n,put_n,new_m];omega)|(refine put_m_le ?_;simp only[new_m];omega)) only [res35,K35,K35r0,Abs.W,reduceIte,Nat.reduceEqDiff,Nat.reduceAdd,decide_true,decide_false,kLoop_def,Nat.reduceSub,List.cons_append,List.nil_append,List.append_nil,List.length_cons,List.length_nil]
 rw [← hw]
 simp (disch:=first|omega|(with_unfolding_all exact rfl)|(simp only[new_n,put_n,new_m];omega)|(refine put_m_le ?_;simp only[new_m];omega)) only [res35,K35r0,K35r1,K35r2,K35r3,K35r4,K35,Abs.W,reduceIte,Nat.reduceEqDiff,Nat.reduceAdd,decide_true,decide_false,kLoop_def,Nat.reduceSub,List.cons_append,List.nil_append,List.append_nil,List.length_cons,List.length_nil,Env.find_set,w0,c1,c2,z0,Nat.zero_add]
 exact ⟨_,rfl,by omega⟩
end Go.Proofs.Ytbcjojljiochfaa.walk
set_option maxRecDepth 10000
namespace Go.Proofs.Ytbcjojljiochfaa.walk
open Go.Abs Go.Proofs.Ytbcjojljiochfaa.code
def Die (d:Nat) (h:Heap):Prop:=∃ f,h.get d=some (.cells [.int .u64 f] (tag 63))
theorem roll_ex {N d:Nat} {s:St} {r:ARes} (hr:call Try.prog X N (.fn 32) [.ptr d 0] s=r) (hN:1≤N) (hd:Die d s.h) (hlt:d<s.n) (hs:s.n+10≤far) :
  ∃ x t,r=.val (.int .u64 x) t∧Stir d s t 0∧Die d t.h∧0≤x∧x≤18446744073709551615:=by
 obtain ⟨n,rfl⟩:∃ n,N=n+1:=⟨N - 1,by omega⟩
 have hf:far=1000000000:=rfl
 obtain ⟨f,hg⟩:=hd
 obtain ⟨v,t,e,st,⟨x,rfl,x0,x1⟩,hd'⟩:=call_stir_plain (n:=n) (args:=[.ptr d 0]) (d:=d) (k:=0) (Q:=fun v=>∃ x,v=.int .u64 x∧0≤x∧x≤18446744073709551615) (R:=Die d) Try.func32 ⟨f,hg⟩ (fun u uh un um=>by
  rw [← uh] at hg
  rw [enter32]
  simp (disch:=first|omega|(with_unfolding_all exact rfl)|(simp only[new_n,put_n,new_m];omega)|(refine put_m_le ?_;simp only[new_m];omega)) only [res32,K32r0,K32r1,K32r2,K32r3,K32r4,K32r5,K32,Abs.W,reduceIte,Nat.reduceEqDiff,Nat.reduceAdd,decide_true,decide_false,kLoop_def,Nat.reduceSub,List.cons_append,List.nil_append,List.append_nil,List.length_cons,List.length_nil,hg,Nat.zero_add,ints_u64,kShr_def,shrA_u64,aAdd_def,aMul_def,aXor_def]
  refine ⟨_,_,rfl,(Stir.refl d u).put (by omega) _ (.inl rfl),rfl,⟨_,rfl,?_⟩,⟨_,get_put_eq _ _ _ _ rfl (by omega)⟩⟩
  exact xorI_range _ _) (by omega)
 exact ⟨x,t,hr.symm.trans e,st,hd',x0,x1⟩
theorem cast_ex {N d:Nat} {n:Int} {s:St} {r:ARes} (hr:call Try.prog X N (.fn 15) [.ptr d 0,.int .i64 n] s=r) (hN:2≤N) (hd:Die d s.h) (hlt:d<s.n) (hs:s.n+100≤far) (hn:n≤4000000000) :
  ∃ x t,r=.val (.int .i64 x) t∧Stir d s t 0∧Die d t.h∧0≤x∧(x<n∨x=0):=by
 obtain ⟨m,rfl⟩:∃ m,N=m+1:=⟨N - 1,by omega⟩
 have hf:far=1000000000:=rfl
 obtain ⟨v,t,e,st,⟨x,rfl,x0,x1⟩,hd'⟩:=call_stir_plain (n:=m) (args:=[.ptr d 0,.int .i64 n]) (d:=d) (k:=0) (Q:=fun v=>∃ x,v=.int .i64 x∧0≤x∧(x<n∨x=0)) (R:=Die d) Try.func15 hd (fun u uh un um=>by
  rw [← uh] at hd
  rw [enter15]
  by_cases hlow:n<2
  ·have e0:decide (n<2)=true:=by simpa using hlow
   simp (disch:=first|omega|(with_unfolding_all exact rfl)|(simp only[new_n,put_n,new_m];omega)|(refine put_m_le ?_;simp only[new_m];omega)) only [res15,K15r0,K15r1,K15r2,K15r3,K15,Abs.W,reduceIte,Nat.reduceEqDiff,Nat.reduceAdd,decide_true,decide_false,kLoop_def,Nat.reduceSub,List.cons_append,List.nil_append,List.append_nil,List.length_cons,List.length_nil,e0]
   exact ⟨_,_,rfl,Stir.refl d u,rfl,⟨0,rfl,by omega,.inr rfl⟩,hd⟩
  ·have e0:decide (n<2)=false:=by simpa using hlow
   simp (disch:=first|omega|(with_unfolding_all exact rfl)|(simp only[new_n,put_n,new_m];omega)|(refine put_m_le ?_;simp only[new_m];omega)) only [res15,K15r0,K15r1,K15r2,K15r3,K15,Abs.W,reduceIte,Nat.reduceEqDiff,Nat.reduceAdd,decide_true,decide_false,kLoop_def,Nat.reduceSub,List.cons_append,List.nil_append,List.append_nil,List.length_cons,List.length_nil,e0]
   generalize hc:call _ _ _ (.fn 32) _ _=r1
   obtain ⟨y,w,rfl,sw,dw,y0,y1⟩:=roll_ex hc (by omega) hd (by omega) (by omega)
   have q0:0≤shrI y 2:=shrI_nonneg _ _ y0
   have q2:0≤(shrI y 2).tmod n:=Int.tmod_nonneg _ q0
   have q3:(shrI y 2).tmod n<n:=Int.tmod_lt_of_pos _ (by omega)
   have w1:wrapA .u64 n=n:=wrap_u64 n (by omega)
   have w2:wrapA .i64 ((shrI y 2).tmod n)=(shrI y 2).tmod n:=wrap_in _ (by omega)
   have w3:∀ s,aRem s .u64 (shrI y 2) n=.val (.int .u64 ((shrI y 2).tmod n)) s:=fun s=>aRem_ne s _ _ _ (by omega)
   simp (disch:=first|omega|(with_unfolding_all exact rfl)|(simp only[new_n,put_n,new_m];omega)|(refine put_m_le ?_;simp only[new_m];omega)) only [res15,K15r0,K15r1,K15r2,K15r3,K15,Abs.W,reduceIte,Nat.reduceEqDiff,Nat.reduceAdd,decide_true,decide_false,kLoop_def,Nat.reduceSub,List.cons_append,List.nil_append,List.append_nil,List.length_cons,List.length_nil,ints_u64,kShr_def,shrA_u64,cviA_int,w1,w2,w3]
   exact ⟨_,_,rfl,sw,rfl,⟨_,rfl,q2,.inl q3⟩,dw⟩) (by omega)
 exact ⟨x,t,hr.symm.trans e,st,hd',x0,x1⟩
theorem from_ex {N d:Nat} {lo hi:Int} {s:St} {r:ARes} (hr:call Try.prog X N (.fn 26) [.ptr d 0,.int .i64 lo,.int .i64 hi] s=r) (hN:3≤N) (hd:Die d s.h) (hlt:d<s.n) (hs:s.n+200≤far)
  (h0 : -100000000≤lo) (h1:lo≤100000000) (h2 : -100000000≤hi) (h3:hi≤100000000) :
  ∃ x t,r=.val (.int .i64 x) t∧Stir d s t 0∧Die d t.h∧lo≤x∧(x≤hi∨x=lo):=by
 obtain ⟨m,rfl⟩:∃ m,N=m+1:=⟨N - 1,by omega⟩
 have hf:far=1000000000:=rfl
 obtain ⟨v,t,e,st,⟨x,rfl,x0,x1⟩,hd'⟩:=call_stir_plain (n:=m) (args:=[.ptr d 0,.int .i64 lo,.int .i64 hi]) (d:=d) (k:=0) (Q:=fun v=>∃ x,v=.int .i64 x∧lo≤x∧(x≤hi∨x=lo)) (R:=Die d) Try.func26 hd (fun u uh un um=>by
  rw [← uh] at hd
  have a1:∀ s,aSub s .i64 hi lo=.val (.int .i64 (hi - lo)) s:=fun s=>aSub_i64 s _ _ (by omega)
  have a2:∀ s,aAdd s .i64 (hi - lo) 1=.val (.int .i64 (hi - lo+1)) s:=fun s=>aAdd_i64 s _ _ (by omega)
  rw [enter26]
  simp (disch:=first|omega|(with_unfolding_all exact rfl)|(simp only[new_n,put_n,new_m];omega)|(refine put_m_le ?_;simp only[new_m];omega)) only [res26,K26r0,K26r1,K26,Abs.W,reduceIte,Nat.reduceEqDiff,Nat.reduceAdd,decide_true,decide_false,kLoop_def,Nat.reduceSub,List.cons_append,List.nil_append,List.append_nil,List.length_cons,List.length_nil,a1,a2]
  generalize hc:call _ _ _ (.fn 15) _ _=r1
  obtain ⟨y,w,rfl,sw,dw,y0,y1⟩:=cast_ex hc (by omega) hd (by omega) (by omega) (by omega)
  have a3:∀ s,aAdd s .i64 lo y=.val (.int .i64 (lo+y)) s:=fun s=>aAdd_i64 s _ _ (by omega)
  simp (disch:=first|omega|(with_unfolding_all exact rfl)|(simp only[new_n,put_n,new_m];omega)|(refine put_m_le ?_;simp only[new_m];omega)) only [res26,K26r0,K26r1,K26,Abs.W,reduceIte,Nat.reduceEqDiff,Nat.reduceAdd,decide_true,decide_false,kLoop_def,Nat.reduceSub,List.cons_append,List.nil_append,List.append_nil,List.length_cons,List.length_nil,a3]
  exact ⟨_,_,rfl,sw,rfl,⟨_,rfl,by omega,by omega⟩,dw⟩) (by omega)
 exact ⟨x,t,hr.symm.trans e,st,hd',x0,x1⟩
theorem nth_ints:∀ {l:List Int} {i:Nat},i<l.length→∃ x ∈ l,nth (l.map fun x=>AV.int .i64 x) i=.int .i64 x
 | [],i,h=>by simp at h
 | a::l,0,_=>⟨a,List.mem_cons_self ..,rfl⟩
 | a::l,i+1,h=>by
  obtain ⟨x,hx,e⟩:=nth_ints (l:=l) (i:=i) (by simpa using h)
  exact ⟨x,List.mem_cons_of_mem _ hx,e⟩
theorem one_ex {N d b:Nat} {k sz:Nat} (l:List Int) {s:St} {r:ARes} (hr:call Try.prog X N (.fn 33) [.ptr d 0,.slice b 0 k k false] s=r) (hN:3≤N) (hd:Die d s.h) (hlt:d<s.n) (hs:s.n+200≤far)
  (hb:s.h.get b=some (.cells (l.map fun x=>AV.int .i64 x) sz)) (hbn:b<s.n) (hbd:b≠d) (hl:l.length=k) (h0:0<k) (hk:k≤1000) :
  ∃ x t,r=.val (.int .i64 x) t∧Stir d s t 0∧Die d t.h∧x ∈ l:=by
 obtain ⟨m,rfl⟩:∃ m,N=m+1:=⟨N - 1,by omega⟩
 have hf:far=1000000000:=rfl
 obtain ⟨v,t,e,st,⟨x,rfl,hx⟩,hd'⟩:=call_stir_plain (n:=m) (args:=[.ptr d 0,.slice b 0 k k false]) (d:=d) (k:=0) (Q:=fun v=>∃ x,v=.int .i64 x∧x ∈ l) (R:=Die d) Try.func33 hd (fun u uh un um=>by
  rw [← uh] at hd hb
  have e0:decide ((k:Int)=0)=false:=by simp;omega
  rw [enter33]
  simp (disch:=first|omega|(with_unfolding_all exact rfl)|(simp only[new_n,put_n,new_m];omega)|(refine put_m_le ?_;simp only[new_m];omega)) only [res33,K33r0,K33r1,K33r2,K33r3,K33,Abs.W,reduceIte,Nat.reduceEqDiff,Nat.reduceAdd,decide_true,decide_false,kLoop_def,Nat.reduceSub,List.cons_append,List.nil_append,List.append_nil,List.length_cons,List.length_nil,e0]
  generalize hc:call _ _ _ (.fn 15) _ _=r1
  obtain ⟨y,w,rfl,sw,dw,y0,y1⟩:=cast_ex hc (by omega) hd (by omega) (by omega) (by omega)
  obtain ⟨i,rfl⟩:∃ i:Nat,y=i:=⟨y.toNat,by omega⟩
  have hi:i<k:=by omega
  obtain ⟨x,hx,hn⟩:=nth_ints (l:=l) (i:=i) (by omega)
  have hg:w.h.get b=some (.cells (l.map fun x=>AV.int .i64 x) sz):=by rw [sw.same b (by omega) hbd];exact hb
  simp (disch:=first|omega|(with_unfolding_all exact rfl)|(simp only[new_n,put_n,new_m];omega)|(refine put_m_le ?_;simp only[new_m];omega)) only [res33,K33r0,K33r1,K33r2,K33r3,K33,Abs.W,reduceIte,Nat.reduceEqDiff,Nat.reduceAdd,decide_true,decide_false,kLoop_def,Nat.reduceSub,List.cons_append,List.nil_append,List.append_nil,List.length_cons,List.length_nil,ixs_slice _ _ _ _ _ _ _ _ hi,Nat.mul_one,Nat.zero_add,hg,hn]
  exact ⟨_,_,rfl,sw,rfl,⟨x,rfl,hx⟩,dw⟩) (by omega)
 exact ⟨x,t,hr.symm.trans e,st,hd',hx⟩
end Go.Proofs.Ytbcjojljiochfaa.walk
set_option maxRecDepth 10000
namespace Go.Proofs.Ytbcjojljiochfaa.walk
open Go.Abs Go.Proofs.Ytbcjojljiochfaa.code
theorem Die.keep {d:Nat} {h h':Heap} (D:Die d h) (e:h'.get d=h.get d):Die d h':=by obtain ⟨f,hf⟩:=D;exact ⟨f,e.trans hf⟩
theorem Die.new {d:Nat} {s:St} (h:Die d s.h) (hd:d<s.n) (o:AObj):Die d (s.new o).h:=by obtain ⟨f,hf⟩:=h;exact ⟨f,by rw [get_new_ne _ _ _ (by omega)];exact hf⟩
structure Perm (i:Nat) (f:List Nat):Prop where
 lt:∀ p,p<i→f.getD p 0<i
 all:∀ j,j<i→∃ p,p<i∧f.getD p 0=j
def mix (f:List Nat) (i k:Nat):List Nat:=(f.set i (f.getD k 0)).set k i
theorem getD_set {f:List Nat} {i x p:Nat} (hi:i<f.length):(f.set i x).getD p 0=if i=p then x else f.getD p 0:=by
 simp only [List.getD_eq_getElem?_getD,List.getElem?_set]
 by_cases h:i=p
 ·subst h;simp [hi]
 ·simp [h]
theorem mix_at {f:List Nat} {i k p:Nat} (hi:i<f.length) (hk:k<f.length):(mix f i k).getD p 0=if k=p then i else if i=p then f.getD k 0 else f.getD p 0:=by
 unfold mix
 rw [getD_set (by rw [List.length_set];exact hk),getD_set hi]
theorem Perm.step {i k:Nat} {f:List Nat} (h:Perm i f) (hi:i<f.length) (hk:k≤i):Perm (i+1) (mix f i k):=by
 refine ⟨fun p hp=>?_,fun j hj=>?_⟩
 ·rw [mix_at hi (by omega)]
  by_cases h1:k=p
  ·rw [if_pos h1];omega
  ·rw [if_neg h1]
   by_cases h2:i=p
   ·rw [if_pos h2]
    have:=h.lt k (by omega)
    omega
   ·rw [if_neg h2]
    have:=h.lt p (by omega)
    omega
 ·by_cases hji:j=i
  ·exact ⟨k,by omega,by rw [mix_at hi (by omega),if_pos rfl];exact hji.symm⟩
  ·obtain ⟨p,hp,e⟩:=h.all j (by omega)
   by_cases hpk:p=k
   ·refine ⟨i,by omega,?_⟩
    rw [mix_at hi (by omega),if_neg (by omega),if_pos rfl,← hpk]
    exact e
   ·refine ⟨p,by omega,?_⟩
    rw [mix_at hi (by omega),if_neg (by omega),if_neg (by omega)]
    exact e
def natRows (f:List Nat):List (List AV):=intRows (f.map Int.ofNat)
theorem natRows_len (f:List Nat):(natRows f).length=f.length:=by unfold natRows;rw [intRows_len,List.length_map]
theorem natRows_wide (f:List Nat):∀ r ∈ natRows f,r.length=1:=fun r hr=>by
 unfold natRows intRows at hr
 obtain ⟨x,_,rfl⟩:=List.mem_map.mp hr
 rfl
theorem natRows_at {f:List Nat} {k:Nat} (hk:k<f.length):(natRows f)[k]'(by rw [natRows_len];exact hk)=[.int .i64 (f.getD k 0:Nat)]:=by
 unfold natRows intRows
 simp [List.getD,hk]
theorem natRows_nth {f:List Nat} {k:Nat} (hk:k<f.length):nth (natRows f).flatten k=.int .i64 (f.getD k 0:Nat):=by
 have:=flatten_cut (natRows_wide f) (show k<(natRows f).length by rw [natRows_len];exact hk)
 rw [natRows_at hk,Nat.mul_one] at this
 exact cut1_nth this
theorem natRows_set (f:List Nat) (k x:Nat):(natRows f).set k [.int .i64 (x:Int)]=natRows (f.set k x):=by
 unfold natRows intRows
 rw [List.map_set,List.map_set]
 rfl
theorem natRows_over {f:List Nat} {k:Nat} (hk:k<f.length) (x:Nat):over k [.int .i64 (x:Int)] (natRows f).flatten=some (natRows (f.set k x)).flatten:=by
 have:=over_flatten (row:=[.int .i64 (x:Int)]) (natRows_wide f) (show k<(natRows f).length by rw [natRows_len];exact hk) rfl
 rw [Nat.mul_one,natRows_set] at this
 exact this
structure ShufJ (u t:St) (d m i:Nat) (f:List Nat):Prop where
 die:Die d t.h
 get:t.h.get u.n=some (.cells (natRows f).flatten 0)
 same:∀ c,c<u.n→c≠d→t.h.get c=u.h.get c
 n:t.n=u.n+1
 tm:d≤t.m
 mle:t.m≤far
 len:f.length=m
 perm:Perm i f
theorem shuf_round (N:Nat) (hN:6≤N) (cx:Ctx) {d m i:Nat} {f:List Nat} {u t:St} {L:Env} (hJ:ShufJ u t d m i f) (hi:i<m) (hm:m≤50) (hd:d<u.n) (hs:u.n+1000≤far) (q0:L.find 0=.ptr d 0) (q5:L.find 5=.slice u.n 0 m m false) (q6:L.find 6=.int .i64 i) :
  ∃ L1 t1 f1,K34l0 (call Try.prog X N) cx L [] t=.done .norm L1 [] t1∧ShufJ u t1 d m (i+1) f1∧L1.find 0=.ptr d 0∧L1.find 5=.slice u.n 0 m m false∧L1.find 6=.int .i64 (i+1:Nat):=by
 have hf:far=1000000000:=rfl
 obtain ⟨jd,jg,js,jn,jm,jl,jlen,jp⟩:=hJ
 have e0:decide ((i:Int)<(m:Int))=true:=decide_eq_true (by omega)
 have ad:∀ s,aAdd s .i64 (i:Int) 1=.val (.int .i64 ((i:Int)+1)) s:=fun s=>aAdd_i64 s _ _ (by omega)
 have okR:∀ t,okA (.val (.slice u.n 0 m m false) t)=.val (.slice u.n 0 m m false) t:=fun _=>rfl
 have lnR:∀ s,lenSlA s (.slice u.n 0 m m false)=.val (.int .i64 (m:Int)) s:=fun _=>rfl
 have ixR:∀ s k,k<m→ixsA 1 s (.slice u.n 0 m m false) (.int .i64 (k:Int))=.val (.ptr u.n k) s:=fun s k hk=>by rw [ixs_slice _ _ _ _ _ _ _ _ hk,Nat.zero_add,Nat.mul_one]
 simp (disch:=first|omega|(with_unfolding_all exact rfl)|(simp only[new_n,put_n,new_m];omega)|(refine put_m_le ?_;simp only[new_m];omega)) only [res34,K34r0,K34r1,K34r2,K34r3,K34r4,K34r5,K34r6,K34r7,K34r8,K34,K34l0,Abs.W,reduceIte,Nat.reduceEqDiff,Nat.reduceAdd,decide_true,decide_false,kLoop_def,Nat.reduceSub,List.cons_append,List.nil_append,List.append_nil,List.length_cons,List.length_nil,Env.find_set,q0,q5,q6,okR,lnR,e0,ad,Nat.zero_add]
 generalize hc:call _ _ _ (.fn 15) _ _=r
 obtain ⟨x,t1,rfl,st,d1,x0,x1⟩:=cast_ex hc (by omega) jd (by omega) (by omega) (by omega)
 obtain ⟨k,rfl⟩:∃ n:Nat,x=n:=⟨x.toNat,by omega⟩
 have n1:t.n≤t1.n:=st.n
 have k1:t1.n≤t.n:=st.le
 have g1:=(st.same u.n (by omega) (by omega)).trans jg
 have m1:=st.m jm
 have l1:=st.mle
 have nk:=natRows_nth (f:=f) (k:=k) (by omega)
 have o1:=natRows_over (f:=f) (k:=i) (by omega) (f.getD k 0)
 have o2:=natRows_over (f:=f.set i (f.getD k 0)) (k:=k) (by rw [List.length_set];omega) i
 have i1:∀ s,ixsA 1 s (.slice u.n 0 m m false) (.int .i64 (k:Int))=.val (.ptr u.n k) s:=fun s=>ixR s k (by omega)
 have i2:∀ s,ixsA 1 s (.slice u.n 0 m m false) (.int .i64 (i:Int))=.val (.ptr u.n i) s:=fun s=>ixR s i hi
 simp (disch:=first|omega|(with_unfolding_all exact rfl)|(simp only[new_n,put_n,new_m];omega)|(refine put_m_le ?_;simp only[new_m];omega)) only [res34,K34r0,K34r1,K34r2,K34r3,K34r4,K34r5,K34r6,K34r7,K34r8,K34,Abs.W,reduceIte,Nat.reduceEqDiff,Nat.reduceAdd,decide_true,decide_false,kLoop_def,Nat.reduceSub,List.cons_append,List.nil_append,List.append_nil,List.length_cons,List.length_nil,Env.find_set,q5,q6,okR,i1,i2,g1,nk,o1,o2,ad,Nat.zero_add]
 refine ⟨_,_,mix f i k,rfl,⟨d1.keep ?_,?_,fun c h1 h2=>?_,by simp only [put_n];omega,?_,?_,by unfold mix;rw [List.length_set,List.length_set];exact jlen,jp.step (by omega) (by omega)⟩,by simp only [Env.find_set,q0,reduceIte,Nat.reduceEqDiff],by simp only [Env.find_set,q5,reduceIte,Nat.reduceEqDiff],by simp only [Env.find_set,reduceIte,Nat.reduceEqDiff];rfl⟩
 ·rw [get_put_ne' _ _ _ _ (by omega),get_put_ne' _ _ _ _ (by omega)]
 ·exact get_put_eq _ _ _ _ rfl (by omega)
 ·rw [get_put_ne' _ _ _ _ (by omega),get_put_ne' _ _ _ _ (by omega),st.same c (by omega) h2]
  exact js c h1 h2
 ·simp only [St.put,minN_eq];omega
 ·simp only [St.put,minN_eq];omega
theorem Shuffle_ex {N d m:Nat} {s:St} {r:ARes} (hr:call Try.prog X N (.fn 34) [.ptr d 0,.int .i64 (m:Int)] s=r) (hN:7≤N) (hd:Die d s.h) (hlt:d<s.n) (hm:m≤50) (hs:s.n+2000≤far) :
  ∃ v f t,r=.val v t∧Stir d s t 1∧Die d t.h∧f.length=m∧Perm m f∧Blk t.h t.n s.n 1 (tag 3) (natRows f) v:=by
 obtain ⟨n,rfl⟩:∃ n,N=n+1:=⟨N - 1,by omega⟩
 have hf:far=1000000000:=rfl
 obtain ⟨v,t,e,st,f,hdt,hfl,hp,hb⟩:=call_stir (n:=n) (args:=[.ptr d 0,.int .i64 (m:Int)]) (d:=d) (s:=s) (k:=1) (Q:=fun v h n=>∃ f,Die d h∧f.length=m∧Perm m f∧Blk h n s.n 1 (tag 3) (natRows f) v) Try.func34 rfl (fun u uh un um=>by
  rw [← uh] at hd
  rw [← un] at hlt ⊢
  have mk:∀ s:St,makeA [.int .i64 0] 8 s (.int .i64 (m:Int)) (.int .i64 (m:Int))=.val (.slice s.n 0 m m false) (s.new (.cells (List.replicate m [.int .i64 0]).flatten 0)):=fun s=>make_rows [.int .i64 0] 8 m s (by omega) (by omega)
  have okR:∀ t,okA (.val (.slice u.n 0 m m false) t)=.val (.slice u.n 0 m m false) t:=fun _=>rfl
  have lnR:∀ s,lenSlA s (.slice u.n 0 m m false)=.val (.int .i64 (m:Int)) s:=fun _=>rfl
  have mx:max (0:Int) (m:Int)=(m:Int):=by omega
  rw [enter34]
  simp (disch:=first|omega|(with_unfolding_all exact rfl)|(simp only[new_n,put_n,new_m];omega)|(refine put_m_le ?_;simp only[new_m];omega)) only [res34,K34r0,K34r1,K34r2,K34r3,K34r4,K34r5,K34r6,K34r7,K34r8,K34,Abs.W,reduceIte,Nat.reduceEqDiff,Nat.reduceAdd,decide_true,decide_false,kLoop_def,Nat.reduceSub,List.cons_append,List.nil_append,List.append_nil,List.length_cons,List.length_nil,Env.find_set,Nat.zero_add,kFold_def,foldA_nil,foldA_cons,maxA_i64,mx,kMake_def,mk,okR]
  generalize hlp:loopN _ rounds _ _ _ _ _=r1
  have zr:(List.replicate m [AV.int .i64 0])=natRows (List.replicate m 0):=by unfold natRows intRows;simp
  rw [zr] at hlp
  obtain ⟨e,L1,s1,rfl,rfl,f5,f,hJ⟩:=loop_of hlp (fun i L' t'=>(∃ f,ShufJ u t' d m i f)∧L'.find 0=.ptr d 0∧L'.find 5=.slice u.n 0 m m false∧L'.find 6=.int .i64 i) (fun e L' t'=>e=.exit 0∧L'.find 5=.slice u.n 0 m m false∧∃ f,ShufJ u t' d m m f) m (by unfold rounds;omega)
   ⟨⟨List.replicate m 0,⟨hd.new hlt _,get_new_eq _ _ _ rfl (by omega),fun c h1 h2=>get_new_ne _ _ _ (by omega),rfl,by show d≤u.m;omega,by show u.m≤far;omega,List.length_replicate,⟨fun p hp=>absurd hp (Nat.not_lt_zero p),fun j hj=>absurd hj (Nat.not_lt_zero j)⟩⟩⟩,by simp only [find_cons,Env.find_set,reduceIte,Nat.reduceEqDiff],by simp only [find_cons,Env.find_set,reduceIte,Nat.reduceEqDiff],by simp only [find_cons,Env.find_set,reduceIte,Nat.reduceEqDiff];rfl⟩
   (fun i L' t' hi ⟨⟨f,hJ⟩,q0,q5,q6⟩=>by
    by_cases hlt':i<m
    ·obtain ⟨L2,t2,f1,p1,p2,p3,p4,p5⟩:=shuf_round n (by omega) ⟨34,none,Try.f34.ntmps,X 34⟩ hJ hlt' hm hlt (by omega) q0 q5 q6
     exact .inl ⟨hlt',L2,t2,p1,⟨f1,p2⟩,p3,p4,p5⟩
    ·obtain rfl:i=m:=by omega
     have e1:decide ((i:Int)<(i:Int))=false:=by simp
     refine .inr ⟨.exit 0,L'.set 14 (.bool false),t',by simp,?_,rfl,by simp only [Env.find_set,q5,reduceIte,Nat.reduceEqDiff],f,hJ⟩
     simp (disch:=first|omega|(with_unfolding_all exact rfl)|(simp only[new_n,put_n,new_m];omega)|(refine put_m_le ?_;simp only[new_m];omega)) only [res34,K34r0,K34r1,K34r2,K34r3,K34r4,K34r5,K34r6,K34r7,K34r8,K34,K34l0,Abs.W,reduceIte,Nat.reduceEqDiff,Nat.reduceAdd,decide_true,decide_false,kLoop_def,Nat.reduceSub,List.cons_append,List.nil_append,List.append_nil,List.length_cons,List.length_nil,Env.find_set,q5,q6,okR,lnR,e1,Nat.zero_add])
  simp (disch:=first|omega|(with_unfolding_all exact rfl)|(simp only[new_n,put_n,new_m];omega)|(refine put_m_le ?_;simp only[new_m];omega)) only [res34,K34r0,K34r1,K34r2,K34r3,K34r4,K34r5,K34r6,K34r7,K34r8,K34,Abs.W,reduceIte,Nat.reduceEqDiff,Nat.reduceAdd,decide_true,decide_false,kLoop_def,Nat.reduceSub,List.cons_append,List.nil_append,List.append_nil,List.length_cons,List.length_nil,Env.find_set,f5,okR]
  refine ⟨.slice u.n 0 m m false,s1,rfl,⟨fun c h1 h2=>hJ.same c h1 h2,by have:=hJ.n;omega,by have:=hJ.n;omega,fun _=>hJ.tm,by have:=hJ.mle;omega⟩,rfl,f,hJ.die,hJ.len,hJ.perm,⟨natRows_wide f,false,0,by rw [natRows_len,hJ.len],by have:=hJ.n;omega,hJ.get,fun h=>(by cases h)⟩⟩) (by omega)
 exact ⟨v,f,t,hr.symm.trans e,st,hdt,hfl,hp,hb⟩
end Go.Proofs.Ytbcjojljiochfaa.walk
