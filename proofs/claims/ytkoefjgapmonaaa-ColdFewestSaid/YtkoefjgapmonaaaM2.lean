/- What is lost in an hour, whole. -/
import Derived.Test.YtkoefjgapmonaaaM1
import Derived.Test.YtkoefjgapmonaaaWalkAll
set_option linter.unusedSimpArgs false
set_option linter.unusedVariables false
set_option maxHeartbeats 16000000
set_option linter.unusedVariables false
set_option maxRecDepth 10000
namespace Go.Proofs.Ytkoefjgapmonaaa.walk
open Go.Abs Go.Proofs.Ytkoefjgapmonaaa.code
end Go.Proofs.Ytkoefjgapmonaaa.walk
namespace Go.Abs
variable {P:Program}
theorem call_round {X:FuncId→List Nat} {n l:Nat} {args:List AV} {s s1 s2:St} {r r1 r2:ALoop} {a b:K} {L L2:Env} {d d2:List Nat} {e:Ex} (hl:s.h.get l=some (.loop r)) (hr:args.length=r.params.length)
  (ha:codeK P r.xs r.nt r.assign=some a) (hb:codeK P r.xs r.nt r.body=some b) (h1:a (call P X n) ⟨r.fn,some l,r.nt,r.xs⟩ (setParams r.tmps r.params args) [] s=.done .norm L d s1)
  (h2:s1.h.get l=some (.loop r1)) (h3:r1.state=.ready) (h4:b (call P X n) ⟨r.fn,some l,r.nt,r.xs⟩ L [] (s1.put l (.loop { r1 with state:=.busy }))=.done e L2 d2 s2) (h5:s2.h.get l=some (.loop r2)) :
  call P X (n+1) (.yield l) args s=.val (.bool (goesOn e)) (s2.put l (.loop { r2 with state:=if goesOn e then .ready else .done,pending:=jumpOf e })):=by
 have e1:loopAt s l=some r:=by unfold loopAt;rw [hl]
 have e2:loopAt s1 l=some r1:=by unfold loopAt;rw [h2]
 have e3:loopAt s2 l=some r2:=by unfold loopAt;rw [h5]
 show callStep P X (call P X n) (.yield l) args s=_
 unfold callStep
 simp only [e1]
 unfold roundA
 rw [if_neg (by simp [hr])]
 simp only [ha,hb,h1,e2,h3,h4]
 unfold endRoundA
 simp only [e3]
theorem range_eq {f:Arg} {ps:List Tmp} {a b:Code} {cl:CallF} {c:Ctx} {L:Env} {d:List Nat} {s s2:St} {v:AV} {r:ALoop} (hc:c.rnd=none)
  (h:callV cl [.yield (s.n+1)] ((s.new .dfr).new (.loop ⟨.ready,none,c.fn,L,ps,a,b,s.n,c.nt,c.xs⟩)) (f.ev L)=.val v s2) (hr:s2.h.get (s.n+1)=some (.loop r)) (hb:r.state≠.busy) :
  kRange f ps a b cl c L d s=jumpA L (s.n::d) (s2.put (s.n+1) (.loop { r with state:=.exhausted })) r.pending:=by
 have e1:enterLoopA c L d ps a b s=some (s.n::d,(s.new .dfr).new (.loop ⟨.ready,none,c.fn,L,ps,a,b,s.n,c.nt,c.xs⟩)):=by unfold enterLoopA;rw [hc]
 have e2:Nat.sub ((s.new .dfr).new (.loop ⟨.ready,none,c.fn,L,ps,a,b,s.n,c.nt,c.xs⟩)).n 1=s.n+1:=rfl
 have e3:loopAt s2 (s.n+1)=some r:=by unfold loopAt;rw [hr]
 unfold kRange
 simp only [e1]
 rw [e2,h]
 simp only
 rw [e3]
 cases hst:r.state with
 | busy=>exact absurd hst hb
 | _=>simp only [hst]
end Go.Abs
set_option maxRecDepth 10000
namespace Go.Proofs.Ytkoefjgapmonaaa.walk
open Go.Abs Go.Proofs.Ytkoefjgapmonaaa.code
def firstNot (box:Int):Nat→List Fill→Int
 | _,[] => -1
 | i,f::fs=>if f.box=box then firstNot box (i+1) fs else (i:Int)
theorem index_loop (N:Nat) (hN:1≤N) (cx:Ctx) (fs:List Fill) (v:AV) (box:Int) (q szq:Nat) (s:St) (hR:RowsAt s.h s.n 3 (fs.map Fill.cells) v) (hk:fs.length≤20) (hs:s.n+1000≤far) (hq:q<s.n) (gq:s.h.get q=some (.cells [.int .i64 box] szq)) :
  ∀ (m i fuel:Nat) (L:Env),i+m=fs.length→m<fuel→L.find 0=v→L.find 1=.func 49 [] [.ptr q 0]→L.find 7=.int .i64 fs.length→L.find 8=.int .i64 i →
  ∃ e L1,loopN K67l0 fuel (call Try.prog X N) cx L [] s=.done e L1 [] s∧((e=.ret∧L1.find 4=.int .i64 (firstNot box i (fs.drop i)))∨(e=.exit 0∧firstNot box i (fs.drop i) = -1))
 | m,i,0,L,hm,hf,h0,h1,h7,h8=>by omega
 | m,i,fuel+1,L,hm,hf,h0,h1,h7,h8=>by
  have hff:far=1000000000:=rfl
  by_cases hi:i<fs.length
  ·obtain ⟨m',rfl⟩:∃ m',m=m'+1:=⟨m - 1,by omega⟩
   obtain ⟨b,p,c,sz,hbn,hix,hg,hcut⟩:=hR.at_ i (by simpa using hi)
   rw [List.getElem_map] at hcut
   rw [List.drop_eq_getElem_cons hi]
   generalize hF:fs[i]=F at hcut
   unfold Fill.cells at hcut
   have e0:decide ((i:Int)<(fs.length:Int))=true:=by simp;omega
   have hb:=begin1_ok N hN F.box F.hour F.grams box q szq [] s hq gq (by omega)
   unfold firstNot
   by_cases hh:F.box=box
   ·rw [if_pos hh]
    rw [decide_eq_true hh] at hb
    obtain ⟨e,L1,r1,r2⟩:=index_loop N hN cx fs v box q szq s hR hk hs hq gq m' (i+1) fuel (((((L.set 9 (.bool true)).set 5 (.int .i64 i)).set 16 (.bool false)).set 8 (.int .i64 ((i:Int)+1)))) (by omega) (by omega)
     (by simp only [Env.find_set,h0,reduceIte,Nat.reduceEqDiff]) (by simp only [Env.find_set,h1,reduceIte,Nat.reduceEqDiff]) (by simp only [Env.find_set,h7,reduceIte,Nat.reduceEqDiff]) (by simp only [Env.find_set,reduceIte];rfl)
    refine ⟨e,L1,?_,r2⟩
    rw [← r1,loopN_succ]
    simp (disch:=first|omega|(with_unfolding_all exact rfl)|(simp only[new_n,put_n,new_m];omega)|(refine put_m_le ?_;simp only[new_m];omega)) only [res67,K67r0,K67r1,K67r2,K67r3,K67r4,K67r5,K67r6,K67l0,K67r7,K67,Abs.W,reduceIte,Nat.reduceEqDiff,Nat.reduceAdd,decide_true,decide_false,kLoop_def,Nat.reduceSub,List.cons_append,List.nil_append,List.append_nil,List.length_cons,List.length_nil,Env.find_set,h0,h1,h7,h8,e0,hix,hg,hcut,hb,aAdd_i64]
   ·rw [if_neg hh]
    rw [decide_eq_false hh] at hb
    refine ⟨.ret,((((L.set 9 (.bool true)).set 5 (.int .i64 i)).set 16 (.bool true)).set 4 (.int .i64 i)),?_,.inl ⟨rfl,by simp only [Env.find_set,reduceIte]⟩⟩
    rw [loopN_succ]
    simp (disch:=first|omega|(with_unfolding_all exact rfl)|(simp only[new_n,put_n,new_m];omega)|(refine put_m_le ?_;simp only[new_m];omega)) only [res67,K67r0,K67r1,K67r2,K67r3,K67r4,K67r5,K67r6,K67l0,K67r7,K67,Abs.W,reduceIte,Nat.reduceEqDiff,Nat.reduceAdd,decide_true,decide_false,kLoop_def,Nat.reduceSub,List.cons_append,List.nil_append,List.append_nil,List.length_cons,List.length_nil,Env.find_set,h0,h1,h7,h8,e0,hix,hg,hcut,hb]
  ·have hd:fs.drop i=[]:=List.drop_eq_nil_of_le (by omega)
   rw [hd]
   have e0:decide ((i:Int)<(fs.length:Int))=false:=by simp;omega
   refine ⟨.exit 0,L.set 9 (.bool false),?_,.inr ⟨rfl,rfl⟩⟩
   rw [loopN_succ]
   simp (disch:=first|omega|(with_unfolding_all exact rfl)|(simp only[new_n,put_n,new_m];omega)|(refine put_m_le ?_;simp only[new_m];omega)) only [res67,K67r0,K67r1,K67r2,K67r3,K67r4,K67r5,K67r6,K67l0,K67r7,K67,Abs.W,reduceIte,Nat.reduceEqDiff,Nat.reduceAdd,decide_true,decide_false,kLoop_def,Nat.reduceSub,List.cons_append,List.nil_append,List.append_nil,List.length_cons,List.length_nil,Env.find_set,h7,h8,e0]
theorem index_ok (N:Nat) (hN:2≤N) (fs:List Fill) (v:AV) (box:Int) (q szq:Nat) (s:St) (hR:RowsAt s.h s.n 3 (fs.map Fill.cells) v) (hk:fs.length≤20) (hs:s.n+1000≤far) (hq:q<s.n) (gq:s.h.get q=some (.cells [.int .i64 box] szq)) :
  call Try.prog X N (.fn 67) [v,.func 49 [] [.ptr q 0]] s=.val (.int .i64 (firstNot box 0 fs)) s:=by
 obtain ⟨n,rfl⟩:∃ n,N=n+1:=⟨N - 1,by omega⟩
 refine call_plain' Try.func67 (fun u uh un um=>?_) rfl
 have hff:far=1000000000:=rfl
 rw [← uh,← un] at hR
 rw [← uh] at gq
 have n3:=hR.ne
 have k3:∀ t,okA (.val v t)=.val v t:=fun t=>okA_ne n3
 have hlen:=hR.len
 rw [List.length_map] at hlen
 obtain ⟨e,L1,hL,hres⟩:=index_loop n (by omega) ⟨67,none,Try.f67.ntmps,X 67⟩ fs v box q szq u hR hk (by omega) (by omega) gq fs.length 0 rounds
  (.cons 0 v (.cons 1 (.func 49 [] [.ptr q 0]) (.cons 4 (.int .i64 0) (.cons 7 (.int .i64 fs.length) (.cons 8 (.int .i64 0) .nil))))) (by omega) (by unfold rounds;omega) rfl rfl rfl rfl
 rw [List.drop_zero] at hres
 rw [enter67]
 rcases hres with ⟨rfl,h4⟩ | ⟨rfl,h4⟩
 ·simp (disch:=first|omega|(with_unfolding_all exact rfl)|(simp only[new_n,put_n,new_m];omega)|(refine put_m_le ?_;simp only[new_m];omega)) only [res67,K67r0,K67r1,K67r2,K67r3,K67r4,K67r5,K67r6,K67r7,K67,Abs.W,reduceIte,Nat.reduceEqDiff,Nat.reduceAdd,decide_true,decide_false,kLoop_def,Nat.reduceSub,List.cons_append,List.nil_append,List.append_nil,List.length_cons,List.length_nil,k3,hlen,hL,h4]
  exact ⟨_,rfl,by omega⟩
 ·rw [h4]
  simp (disch:=first|omega|(with_unfolding_all exact rfl)|(simp only[new_n,put_n,new_m];omega)|(refine put_m_le ?_;simp only[new_m];omega)) only [res67,K67r0,K67r1,K67r2,K67r3,K67r4,K67r5,K67r6,K67r7,K67,Abs.W,reduceIte,Nat.reduceEqDiff,Nat.reduceAdd,decide_true,decide_false,kLoop_def,Nat.reduceSub,List.cons_append,List.nil_append,List.append_nil,List.length_cons,List.length_nil,Env.find_set,k3,hlen,hL]
  exact ⟨_,rfl,by omega⟩
end Go.Proofs.Ytkoefjgapmonaaa.walk
namespace Go.Abs
variable {P:Program}
structure Rows (h:Heap) (lo n w tg:Nat) (rows:List (List AV)) (v:AV):Prop where
 wide:∀ r ∈ rows,r.length=w
 is:(rows=[]∧v=.nilslice)∨(∃ b,lo≤b∧b<n∧v=.slice b 0 rows.length rows.length true∧h.get b=some (.cells rows.flatten (w+tg)))
theorem Rows.nil (h:Heap) (lo n w tg:Nat):Rows h lo n w tg [] .nilslice:=⟨fun r hr=>by (cases hr),.inl ⟨rfl,rfl⟩⟩
theorem Rows.mono {h h':Heap} {lo n n' w tg:Nat} {rows:List (List AV)} {v:AV} (r:Rows h lo n w tg rows v) (hh:∀ b,lo≤b→b<n→h'.get b=h.get b) (hn:n≤n'):Rows h' lo n' w tg rows v :=
 ⟨r.wide,r.is.imp id fun ⟨b,h0,h1,h2,h3⟩=>⟨b,h0,by omega,h2,by rw [hh b h0 h1];exact h3⟩⟩
theorem flatten_cut:∀ {rows:List (List AV)} {w i:Nat},(∀ r ∈ rows,r.length=w)→(hi:i<rows.length)→cut (i * w) w rows.flatten=some rows[i]
 | [],w,i,_,hi=>by simp at hi
 | r::rs,w,i,hw,hi=>by
  have hr:r.length=w:=hw r (List.mem_cons_self ..)
  have cut1_app:∀ (r l:List AV),cut1 r.length (r++l)=some r:=by
   intro r l
   induction r with
   | nil=>exact cut1_zero l
   | cons a r ih=>rw [List.length_cons,List.cons_append,cut1_cons,ih];rfl
  have cut_0:∀ (k:Nat) (l:List AV),cut 0 k l=cut1 k l:=by
   intro k l
   cases l with
   | nil=>rfl
   | cons a l=>rfl
  cases i with
  | zero =>
   rw [Nat.zero_mul,List.flatten_cons,cut_0,← hr,cut1_app]
   rfl
  | succ i =>
   have ih:=flatten_cut (rows:=rs) (w:=w) (i:=i) (fun x hx=>hw x (List.mem_cons_of_mem _ hx)) (by simpa using hi)
   have drop:∀ (r l:List AV) (o k:Nat),cut (o+r.length) k (r++l)=cut o k l:=by
    intro r l o k
    induction r with
    | nil=>rfl
    | cons a r ih=>rw [List.length_cons,List.cons_append,← Nat.add_assoc,cut_cons,if_neg (by omega)];exact ih
   rw [List.flatten_cons,show (i+1) * w=i * w+r.length by rw [Nat.succ_mul,hr],drop,ih]
   rfl
theorem Rows.at_ {h:Heap} {lo n w tg:Nat} {rows:List (List AV)} {v:AV} (r:Rows h lo n w tg rows v):RowsAt h n w rows v:=by
 refine ⟨fun s=>?_,fun i hi=>?_⟩
 ·rcases r.is with ⟨h1,h2⟩ | ⟨b,_,_,h2,_⟩
  ·subst h1;subst h2;rfl
  ·subst h2;rfl
 ·rcases r.is with ⟨h1,_⟩ | ⟨b,_,hb,h2,h3⟩
  ·subst h1;simp at hi
  ·subst h2
   exact ⟨b,i * w,rows.flatten,w+tg,hb,fun s=>by rw [ixs_slice _ _ _ _ _ _ _ _ hi,Nat.zero_add],h3,flatten_cut r.wide hi⟩
theorem Rows.len {h:Heap} {lo n w tg:Nat} {rows:List (List AV)} {v:AV} (r:Rows h lo n w tg rows v) (s:St):lenSlA s v=.val (.int .i64 rows.length) s:=r.at_.len s
theorem Rows.scalar {h:Heap} {lo n w tg:Nat} {rows:List (List AV)} {v:AV} (r:Rows h lo n w tg rows v):(∀ t,okA (.val v t)=.val v t)∧cellsOf 1 v=some [v]∧(∀ l,scalars (v::l)=scalars l):=by
 rcases r.is with ⟨_,h2⟩ | ⟨b,_,_,h2,_⟩<;>subst h2<;>exact ⟨fun _=>rfl,rfl,fun _=>rfl⟩
theorem flatten_len:∀ {rows:List (List AV)} {w:Nat},(∀ r ∈ rows,r.length=w)→rows.flatten.length=rows.length * w
 | [],w,_=>by simp
 | r::rs,w,hw=>by
  have:=flatten_len (rows:=rs) (w:=w) (fun x hx=>hw x (List.mem_cons_of_mem _ hx))
  rw [List.flatten_cons,List.length_append,this,hw r (List.mem_cons_self ..),List.length_cons,Nat.succ_mul,Nat.add_comm]
theorem append_row {s:St} {lo w bytes tg:Nat} {rows:List (List AV)} {v:AV} (r:Rows s.h lo s.n w tg rows v) {p sz:Nat} {row:List AV} (hp:s.h.get p=some (.cells row sz)) (hw:row.length=w) (hsc:scalars row=true)
  (hb:(rows.length+1) * bytes≤1000000) (htg:szOf (w+tg)=w) (hs:s.n<549755813888) (hlo:lo≤s.n) :
  ∃ v' s',appendA false w bytes tg s v (.slice p 0 1 1 false)=.val v' s'∧Rows s'.h lo s'.n w tg (rows++[row]) v'∧s'.n=s.n+1∧(∀ b,b<lo→s'.h.get b=s.h.get b)∧(∀ b,b<s.n→v≠.slice b 0 rows.length rows.length true→s'.h.get b=s.h.get b)∧(∀ k,k≤lo→k≤s.m→k≤s'.m)∧s'.m≤s.m∧v'=.slice s.n 0 (rows.length+1) (rows.length+1) true:=by
 have h1:∀ x,appendA false w bytes tg s x (.slice p 0 1 1 false)=growA w bytes tg 1 row s x:=by
  intro x
  have e1:firstA w 1 s (.slice p 0 1 1 false)=some row:=by
   show (match s.h.get p with | some (.cells c _)=>cut 0 (1 * w) c | some (.fam c _ k _)=>cut 0 (1 * w) (c.take k) | _=>none)=some row
   rw [hp]
   simp only [Nat.one_mul]
   have cut_0:∀ (k:Nat) (l:List AV),cut 0 k l=cut1 k l:=by
    intro k l
    cases l with
    | nil=>rfl
    | cons a l=>rfl
   have all:∀ l:List AV,cut1 l.length l=some l:=by
    intro l
    induction l with
    | nil=>rfl
    | cons a l ih=>rw [List.length_cons,cut1_cons,ih];rfl
   rw [cut_0,← hw,all]
  show (match (some 1:Option Nat) with | none=>ARes.fail | some n=>match firstA w n s (.slice p 0 1 1 false) with | none=>.fail | some new=>match Nat.beq new.length (n * w) with | false=>.fail | true=>match scalars new with | true=>(growA w bytes tg n new s x) | false=>.fail)=_
  simp only [e1,hw,Nat.one_mul,Nat.beq_refl,hsc]
 rcases r.is with ⟨h2,h3⟩ | ⟨b,hlb,hbn,h3,h4⟩
 ·subst h2;subst h3
  refine ⟨.slice s.n 0 1 1 true,s.new (.cells row (w+tg)),?_,⟨fun x hx=>?_,.inr ⟨s.n,hlo,Nat.lt_succ_self _,rfl,?_⟩⟩,rfl,fun b hb=>?_,fun b hb _=>?_,fun _ _ h=>h,Nat.le_refl _,rfl⟩
  ·rw [h1]
   show (match Nat.beq 1 0 with | true=>ARes.val .nilslice s | false=>match Nat.ble (1 * bytes) limit with | false=>.fail | true=>.val (.slice s.n 0 1 1 true) (s.new (.cells row (w+tg))))=_
   have:Nat.ble (1 * bytes) limit=true:=Nat.ble_eq_true_of_le (by unfold limit;simp at hb;omega)
   rw [this]
  ·simp at hx;subst hx;exact hw
  ·simp only [List.nil_append,List.flatten_cons,List.flatten_nil,List.append_nil]
   exact get_new_eq _ _ _ rfl hs
  ·exact get_new_ne _ _ _ (by omega)
  ·exact get_new_ne _ _ _ (by omega)
 ·subst h3
  have hfl:=flatten_len r.wide
  refine ⟨.slice s.n 0 (rows.length+1) (rows.length+1) true,(s.kill b).new (.cells (rows.flatten++row) (w+tg)),?_,⟨fun x hx=>?_,.inr ⟨s.n,hlo,Nat.lt_succ_self _,by simp,?_⟩⟩,rfl,fun c hc=>?_,fun c hc hne=>?_,fun k hk hm=>?_,minN_le_left _ _,rfl⟩
  ·rw [h1]
   unfold growA
   simp only [h4]
   have e1:Nat.ble (rows.length+1) rows.length=false:=by
    cases h:Nat.ble (rows.length+1) rows.length with
    | false=>rfl
    | true=>have:=Nat.le_of_ble_eq_true h;omega
   have e2:Nat.ble ((rows.length+1) * bytes) limit=true:=Nat.ble_eq_true_of_le hb
   simp only [e1,e2,hfl,htg,Nat.zero_add,List.drop_zero,and_self,if_true]
  ·rcases List.mem_append.mp hx with hx | hx
   ·exact r.wide x hx
   ·simp at hx;subst hx;exact hw
  ·rw [List.flatten_append,List.flatten_cons,List.flatten_nil,List.append_nil]
   exact get_new_eq _ _ _ rfl hs
  ·rw [get_new_ne _ _ _ (by show c≠s.n;omega),St.kill_h,heap_set_ne _ _ _ _ (by omega)]
  ·rw [get_new_ne _ _ _ (by show c≠s.n;omega),St.kill_h,heap_set_ne _ _ _ _ (fun e=>hne (by rw [e]))]
  ·show k≤minN s.m b
   rw [minN_min];omega
/-! ### Slices as they come in, copies, parts -/
theorem cut_zero (k:Nat) (l:List AV):cut 0 k l=cut1 k l:=by cases l<;>rfl
theorem cut1_app:∀ (r l:List AV),cut1 r.length (r++l)=some r:=by
 intro r l
 induction r with
 | nil=>exact cut1_zero l
 | cons a r ih=>rw [List.length_cons,List.cons_append,cut1_cons,ih];rfl
theorem cut1_all (l:List AV):cut1 l.length l=some l:=by have:=cut1_app l [];rwa [List.append_nil] at this
theorem cut1_some:∀ {k:Nat} {l r:List AV},cut1 k l=some r→∃ t,l=r++t∧r.length=k
 | 0,l,r,h=>by rw [cut1_zero] at h;cases h;exact ⟨l,rfl,rfl⟩
 | k+1,[],r,h=>by cases h
 | k+1,a::l,r,h=>by
  rw [cut1_cons] at h
  generalize hq:cut1 k l=q at h
  cases q with
  | none=>cases h
  | some q =>
   cases h
   obtain ⟨t,h1,h2⟩:=cut1_some hq
   exact ⟨t,by rw [h1];rfl,by rw [List.length_cons,h2]⟩
theorem cut_some:∀ {o k:Nat} {l r:List AV},cut o k l=some r→∃ a t,l=a++r++t∧a.length=o∧r.length=k
 | 0,k,l,r,h=>by
  rw [cut_zero] at h
  obtain ⟨t,h1,h2⟩:=cut1_some h
  exact ⟨[],t,by rw [h1];rfl,rfl,h2⟩
 | o+1,k,[],r,h=>by cases h
 | o+1,k,a::l,r,h=>by
  rw [cut_cons,if_neg (by omega)] at h
  obtain ⟨x,t,h1,h2,h3⟩:=cut_some h
  exact ⟨a::x,t,by rw [h1];rfl,by rw [List.length_cons,h2];omega,h3⟩
theorem cut_skip:∀ (a l:List AV) (o k:Nat),cut (a.length+o) k (a++l)=cut o k l
 | [],l,o,k=>by rw [List.length_nil,Nat.zero_add,List.nil_append]
 | x::a,l,o,k=>by
  rw [List.length_cons,List.cons_append,show a.length+1+o=(a.length+o)+1 by omega,cut_cons,if_neg (by omega)]
  exact cut_skip a l o k
theorem cut_app:∀ {o k:Nat} {l r t:List AV},cut o k l=some r→cut o k (l++t)=some r:=by
 intro o k l r t h
 obtain ⟨a,u,h1,h2,h3⟩:=cut_some h
 rw [h1,← h2,List.append_assoc,List.append_assoc]
 have:=cut_skip a (r++(u++t)) 0 k
 rw [Nat.add_zero] at this
 rw [this,cut_zero,← h3,cut1_app]
theorem cut_cut {o k i w:Nat} {c F r:List AV} (h:cut o k c=some F) (h2:cut i w F=some r):cut (o+i) w c=some r:=by
 obtain ⟨a,t,h3,h4,h5⟩:=cut_some h
 rw [h3,← h4,List.append_assoc,cut_skip]
 exact cut_app h2
structure Seq (h:Heap) (n w:Nat) (rows:List (List AV)) (v:AV):Prop where
 wide:∀ r ∈ rows,r.length=w
 is:(rows=[]∧v=.nilslice)∨∃ b o cap e c sz,b<n∧v=.slice b o rows.length cap e∧h.get b=some (.cells c sz)∧cut o (rows.length * w) c=some rows.flatten
theorem Seq.at_ {h:Heap} {n w:Nat} {rows:List (List AV)} {v:AV} (r:Seq h n w rows v):RowsAt h n w rows v:=by
 refine ⟨fun s=>?_,fun i hi=>?_⟩
 ·rcases r.is with ⟨h1,h2⟩ | ⟨b,o,cap,e,c,sz,_,h2,_⟩
  ·subst h1;subst h2;rfl
  ·subst h2;rfl
 ·rcases r.is with ⟨h1,_⟩ | ⟨b,o,cap,e,c,sz,hb,h2,h3,h4⟩
  ·subst h1;simp at hi
  ·subst h2
   exact ⟨b,o+i * w,c,sz,hb,fun s=>ixs_slice _ _ _ _ _ _ _ _ hi,h3,cut_cut h4 (flatten_cut r.wide hi)⟩
theorem Seq.grow {h h':Heap} {n n' w:Nat} {rows:List (List AV)} {v:AV} (r:Seq h n w rows v) (hh:∀ b,b<n→h'.get b=h.get b) (hn:n≤n'):Seq h' n' w rows v :=
 ⟨r.wide,r.is.imp id fun ⟨b,o,cap,e,c,sz,h1,h2,h3,h4⟩=>⟨b,o,cap,e,c,sz,by omega,h2,by rw [hh b h1];exact h3,h4⟩⟩
theorem Rows.seq {h:Heap} {lo n w tg:Nat} {rows:List (List AV)} {v:AV} (r:Rows h lo n w tg rows v):Seq h n w rows v :=
 ⟨r.wide,r.is.imp id fun ⟨b,_,h1,h2,h3⟩=>⟨b,0,_,_,_,_,h1,h2,h3,by rw [cut_zero,← flatten_len r.wide,cut1_all]⟩⟩
theorem Seq.first {s:St} {n w:Nat} {rows:List (List AV)} {v:AV} (r:Seq s.h n w rows v):lenA v=some rows.length∧firstA w rows.length s v=some rows.flatten:=by
 rcases r.is with ⟨h1,h2⟩ | ⟨b,o,cap,e,c,sz,hb,h2,h3,h4⟩
 ·subst h1;subst h2;exact ⟨rfl,rfl⟩
 ·subst h2
  refine ⟨rfl,?_⟩
  show (match s.h.get b with | some (.cells c _)=>cut o (rows.length * w) c | some (.fam c _ k _)=>cut o (rows.length * w) (c.take k) | _=>none)=_
  rw [h3]
  exact h4
theorem Seq.scalar {h:Heap} {n w:Nat} {rows:List (List AV)} {v:AV} (r:Seq h n w rows v):(∀ t,okA (.val v t)=.val v t)∧cellsOf 1 v=some [v]∧(∀ l,scalars (v::l)=scalars l):=by
 rcases r.is with ⟨_,h2⟩ | ⟨b,o,cap,e,c,sz,_,h2,_⟩<;>subst h2<;>exact ⟨fun _=>rfl,rfl,fun _=>rfl⟩
theorem scalars_append:∀ {a b:List AV},scalars a=true→scalars b=true→scalars (a++b)=true
 | [],b,_,h=>h
 | x::a,b,h1,h2=>by
  have e:∀ (x:AV) (l:List AV),scalars (x::l)=(match x.scalar with | true=>scalars l | false=>false):=fun _ _=>rfl
  rw [e] at h1
  rw [List.cons_append,e]
  split at h1
  ·exact scalars_append h1 h2
  ·cases h1
theorem scalars_flatten:∀ {rows:List (List AV)},(∀ r ∈ rows,scalars r=true)→scalars rows.flatten=true
 | [],_=>rfl
 | r::rs,h=>by rw [List.flatten_cons];exact scalars_append (h r (List.mem_cons_self ..)) (scalars_flatten fun x hx=>h x (List.mem_cons_of_mem _ hx))
structure Own (h:Heap) (lo n w tg:Nat) (rows:List (List AV)) (v:AV):Prop where
 wide:∀ r ∈ rows,r.length=w
 is:(rows=[]∧(v=.nilslice∨∃ b,lo≤b∧b<n∧v=.slice b 0 0 0 false∧h.get b=some (.cells [] 0)))∨(rows≠[]∧∃ b,lo≤b∧b<n∧v=.slice b 0 rows.length rows.length true∧h.get b=some (.cells rows.flatten (w+tg)))
theorem Own.seq {h:Heap} {lo n w tg:Nat} {rows:List (List AV)} {v:AV} (r:Own h lo n w tg rows v):Seq h n w rows v:=by
 refine ⟨r.wide,?_⟩
 rcases r.is with ⟨h1,h2 | ⟨b,_,h3,h4,h5⟩⟩ | ⟨_,b,_,h3,h4,h5⟩
 ·exact .inl ⟨h1,h2⟩
 ·subst h1;exact .inr ⟨b,0,0,false,[],0,h3,h4,h5,by rw [List.length_nil,Nat.zero_mul];rfl⟩
 ·exact .inr ⟨b,0,_,_,_,_,h3,h4,h5,by rw [cut_zero,← flatten_len r.wide,cut1_all]⟩
theorem Own.mono {h h':Heap} {lo n n' w tg:Nat} {rows:List (List AV)} {v:AV} (r:Own h lo n w tg rows v) (hh:∀ b,lo≤b→b<n→h'.get b=h.get b) (hn:n≤n'):Own h' lo n' w tg rows v:=by
 refine ⟨r.wide,?_⟩
 rcases r.is with ⟨h1,h2 | ⟨b,h0,h3,h4,h5⟩⟩ | ⟨h1,b,h0,h3,h4,h5⟩
 ·exact .inl ⟨h1,.inl h2⟩
 ·exact .inl ⟨h1,.inr ⟨b,h0,by omega,h4,by rw [hh b h0 h3];exact h5⟩⟩
 ·exact .inr ⟨h1,b,h0,by omega,h4,by rw [hh b h0 h3];exact h5⟩
theorem append_copy {s:St} {n w bytes tg p:Nat} {rows:List (List AV)} {v:AV} (r:Seq s.h n w rows v) (hp:s.h.get p=some (.cells [] 0)) (hpn:p<s.n) (hsc:∀ r ∈ rows,scalars r=true) (hb:rows.length * bytes≤1000000) (hs:s.n<549755813888) :
  ∃ v' s',appendA false w bytes tg s (.slice p 0 0 0 false) v=.val v' s'∧Own s'.h p s'.n w tg rows v'∧s.n≤s'.n∧s'.n≤s.n+1∧(∀ b,b<s.n→s'.h.get b=s.h.get b)∧(∀ k,k≤p→k≤s.m→k≤s'.m)∧s'.m≤s.m:=by
 obtain ⟨e1,e2⟩:=r.first
 have e3:Nat.beq rows.flatten.length (rows.length * w)=true:=by rw [flatten_len r.wide];exact Nat.beq_refl _
 have h1:appendA false w bytes tg s (.slice p 0 0 0 false) v=growA w bytes tg rows.length rows.flatten s (.slice p 0 0 0 false):=by
  unfold appendA
  simp only [e1,e2,e3,scalars_flatten hsc]
 rw [h1]
 unfold growA
 simp only [hp,Nat.zero_add,Nat.zero_mul]
 by_cases h0:rows=[]
 ·subst h0
  refine ⟨.slice p 0 0 0 false,s.put p (.cells [] 0),rfl,⟨fun x hx=>(by cases hx),.inl ⟨rfl,.inr ⟨p,Nat.le_refl _,hpn,rfl,get_put_eq _ _ _ _ rfl (by omega)⟩⟩⟩,Nat.le_refl _,Nat.le_succ _,fun b hb=>?_,fun k hk hm=>?_,minN_le_left _ _⟩
  ·by_cases hbp:b=p
   ·subst hbp;rw [get_put_eq _ _ _ _ rfl (by omega),hp]
   ·exact get_put_ne' _ _ _ _ hbp
  ·show k≤minN s.m p
   rw [minN_min];omega
 ·have hpos:0<rows.length:=List.length_pos_iff.mpr h0
  have e4:Nat.ble rows.length 0=false:=by
   cases h:Nat.ble rows.length 0 with
   | false=>rfl
   | true=>have:=Nat.le_of_ble_eq_true h;omega
  have e5:Nat.ble (rows.length * bytes) limit=true:=Nat.ble_eq_true_of_le hb
  have e6:cut 0 0 ([]:List AV)=some []:=rfl
  simp only [e4,e5,e6,List.nil_append]
  exact ⟨_,_,rfl,⟨r.wide,.inr ⟨h0,s.n,by omega,Nat.lt_succ_self _,rfl,get_new_eq _ _ _ rfl hs⟩⟩,Nat.le_succ _,Nat.le_refl _,fun b hb=>get_new_ne _ _ _ (by omega),fun _ _ h=>h,Nat.le_refl _⟩
end Go.Abs
set_option maxRecDepth 10000
namespace Go.Abs
theorem kEql_def (c:Cmp) (neg:Bool) (x y:Arg) (L:Env) (s:St):kEql c neg x y L s=eqlA c neg s (x.ev L) (y.ev L):=Eq.trans (Eq.refl _) (Eq.refl _)
theorem eqlNil_nil (s:St):eqlA .nilS false s .nilslice .nilslice=.val (.bool true) s:=by simp [eqlA,Cmp.eq]
theorem eqlNil_slice (s:St) (b o n c:Nat) (e:Bool):eqlA .nilS false s (.slice b o n c e) .nilslice=.val (.bool false) s:=by simp [eqlA,Cmp.eq]
theorem boundA_nat (y i:Nat) (k:IntKind) (h:i≤y):boundA y (.int k (i:Int))=some i:=by
 show (match Nat.ble i y with | true=>some i | false=>none)=_
 rw [Nat.ble_eq_true_of_le h]
theorem slice_from (w:Nat) (s:St) (b o n c i:Nat) (e:Bool) (h:n≤c) (hi:i≤n) (hc:i<c):sliceVal w (some (.int .i64 (i:Int))) none s (.slice b o n c e)=.val (.slice b (o+i * w) (n - i) (c - i) e) s:=by
 have e1:boundsA n c (some (.int .i64 (i:Int))) none=some (i,n):=by
  unfold boundsA hiA loA
  simp only [boundA_nat _ _ _ hi]
 have e2:Nat.beq c i=false:=nbeq_f (by omega)
 unfold sliceVal
 simp only [Nat.ble_eq_true_of_le h,e1,e2]
theorem slice_to (w:Nat) (s:St) (b o n c i:Nat) (e:Bool) (h:n≤c) (hi:i≤c) (hc:0<c):sliceVal w none (some (.int .i64 (i:Int))) s (.slice b o n c e)=.val (.slice b o i c e) s:=by
 have e1:boundsA n c none (some (.int .i64 (i:Int)))=some (0,i):=by
  unfold boundsA hiA loA
  simp only [boundA_nat _ _ _ hi]
 have e2:Nat.beq c 0=false:=nbeq_f (by omega)
 unfold sliceVal
 simp only [Nat.ble_eq_true_of_le h,e1,e2,Nat.zero_mul,Nat.add_zero,Nat.sub_zero]
theorem slice_end (w:Nat) (s:St) (b o n c:Nat) (h:n≤c) (hi:c≤n):sliceVal w (some (.int .i64 (c:Int))) none s (.slice b o n c true)=.val (.tail b (o+c * w)) s:=by
 have e1:boundsA n c (some (.int .i64 (c:Int))) none=some (c,n):=by
  unfold boundsA hiA loA
  simp only [boundA_nat _ _ _ hi]
 unfold sliceVal
 simp only [Nat.ble_eq_true_of_le h,e1,Nat.beq_refl,if_true]
theorem over_skip:∀ (a l vs:List AV) (o:Nat),over (a.length+o) vs (a++l)=(over o vs l).map (a++·)
 | [],l,vs,o=>by
  rw [List.length_nil,Nat.zero_add,List.nil_append]
  cases over o vs l<;>rfl
 | x::a,l,vs,o=>by
  rw [List.length_cons,List.cons_append,show a.length+1+o=(a.length+o)+1 by omega,over_cons,if_neg (by omega),show a.length+o+1 - 1=a.length+o by omega,over_skip a l vs o]
  cases over o vs l<;>rfl
theorem over_head:∀ (vs r l:List AV),vs.length=r.length→over 0 vs (r++l)=some (vs++l):=by
 have h1:∀ (vs r l:List AV),vs.length=r.length→over1 vs (r++l)=some (vs++l):=by
  intro vs
  induction vs with
  | nil=>intro r l h;cases r with
   | nil=>exact over1_nil _
   | cons _ _=>simp at h
  | cons v vs ih=>intro r l h;cases r with
   | nil=>simp at h
   | cons a r=>rw [List.cons_append,over1_cons,ih r l (by simpa using h)];rfl
 intro vs r l h
 have:over 0 vs (r++l)=over1 vs (r++l):=by
  cases hq:r++l with
  | nil=>rfl
  | cons a c=>rw [over_cons,if_pos rfl]
 rw [this,h1 vs r l h]
theorem over_flatten {rows:List (List AV)} {w j:Nat} {row:List AV} (hw:∀ r ∈ rows,r.length=w) (hj:j<rows.length) (hr:row.length=w):over (j * w) row rows.flatten=some (rows.set j row).flatten:=by
 have e:rows=rows.take j++rows[j]::rows.drop (j+1):=by rw [List.getElem_cons_drop];exact (List.take_append_drop j rows).symm
 have l1:(rows.take j).flatten.length=j * w:=by
  rw [flatten_len (w:=w) (fun r hr=>hw r (List.mem_of_mem_take hr)),List.length_take,Nat.min_eq_left (by omega)]
 rw [List.set_eq_take_append_cons_drop,if_pos hj]
 conv=>lhs;rw [e]
 rw [List.flatten_append,List.flatten_cons,List.flatten_append,List.flatten_cons]
 have:=over_skip (rows.take j).flatten (rows[j]++(rows.drop (j+1)).flatten) row 0
 rw [Nat.add_zero,l1] at this
 rw [this,over_head row rows[j] _ (by rw [hr,hw _ (List.getElem_mem hj)])]
 rfl
end Go.Abs
namespace Go.Proofs.Ytkoefjgapmonaaa.walk
open Go.Abs Go.Proofs.Ytkoefjgapmonaaa.code
theorem fill_wide (fs:List Fill):∀ r ∈ fs.map Fill.cells,r.length=3:=by
 intro r hr
 obtain ⟨f,_,rfl⟩:=List.mem_map.mp hr
 rfl
theorem fill_scalars (fs:List Fill):∀ r ∈ fs.map Fill.cells,scalars r=true:=by
 intro r hr
 obtain ⟨f,_,rfl⟩:=List.mem_map.mp hr
 rfl
theorem clone_ex {N:Nat} {s:St} {r:ARes} {v:AV} (fs:List Fill) (hr:call Try.prog X N (.fn 52) [v] s=r) (hN:1≤N) (hR:Seq s.h s.n 3 (fs.map Fill.cells) v) (hk:fs.length≤20) (hs:s.n+100≤far) :
  ∃ v' t,r=.val v' t∧New s t 2∧Own t.h s.n t.n 3 (tag 55) (fs.map Fill.cells) v':=by
 obtain ⟨n,rfl⟩:∃ n,N=n+1:=⟨N - 1,by omega⟩
 have hf:far=1000000000:=rfl
 obtain ⟨v',t,m,e,⟨q1,q2,q3,q4⟩,hm⟩:=call_any (n:=n) (args:=[v]) (s:=s) (Q:=fun v h n m=>Own h s.n n 3 (tag 55) (fs.map Fill.cells) v∧(∀ b,b<s.n→h.get b=s.h.get b)∧(s.n≤n∧n≤s.n+2)∧s.n≤m) Try.func52 rfl (fun u uh un um=>by
  rw [← uh,← un] at hR
  rw [enter52]
  rcases hR.is with ⟨h1,h2⟩ | ⟨b,o,cap,e,c,sz,hb,h2,h3,h4⟩
  ·subst h2
   simp (disch:=first|omega|(with_unfolding_all exact rfl)|(simp only[new_n,put_n,new_m];omega)|(refine put_m_le ?_;simp only[new_m];omega)) only [res52,K52r0,K52r1,K52r2,K52r3,K52,Abs.W,reduceIte,Nat.reduceEqDiff,Nat.reduceAdd,decide_true,decide_false,kLoop_def,Nat.reduceSub,List.cons_append,List.nil_append,List.append_nil,List.length_cons,List.length_nil,kEql_def,eqlNil_nil]
   rw [h1]
   have o0:∀ h a n,Own h a n 3 (tag 55) [] .nilslice:=fun h a n=>⟨fun x hx=>(by cases hx),.inl ⟨by first | rfl | trivial,.inl rfl⟩⟩
   exact ⟨_,_,rfl,⟨o0 _ _ _,fun b _=>by rw [uh],by omega,by omega⟩,fun _ _=>⟨o0 _ _ _,fun _ _=>by trivial,by omega,by omega⟩⟩
  ·subst h2
   have hR2:Seq (u.new (.cells [] 0)).h (u.new (.cells [] 0)).n 3 (fs.map Fill.cells) (.slice b o (fs.map Fill.cells).length cap e):=hR.grow (fun b hb=>get_new_ne _ _ _ (by omega)) (Nat.le_succ _)
   obtain ⟨v',s',e1,e2,e3,e4,e5,e6,e7⟩:=append_copy (bytes:=24) (tg:=tag 55) (p:=u.n) hR2 (get_new_eq _ _ _ rfl (by omega)) (Nat.lt_succ_self _) (fill_scalars fs) (by simp;omega) (by simp only [new_n];omega)
   simp only [new_n] at e3 e4 e5
   rw [List.length_map] at e1
   simp (disch:=first|omega|(with_unfolding_all exact rfl)|(simp only[new_n,put_n,new_m];omega)|(refine put_m_le ?_;simp only[new_m];omega)) only [res52,K52r0,K52r1,K52r2,K52r3,K52,Abs.W,reduceIte,Nat.reduceEqDiff,Nat.reduceAdd,decide_true,decide_false,kLoop_def,Nat.reduceSub,List.cons_append,List.nil_append,List.append_nil,List.length_cons,List.length_nil,kEql_def,eqlNil_slice,List.length_map,Bool.false_eq_true,e1]
   rw [un] at e2
   have hm:u.n≤s'.m:=e6 u.n (Nat.le_refl _) (by rw [new_m];omega)
   refine ⟨_,_,rfl,⟨e2,fun b hb=>?_,by omega,by omega⟩,fun hp _=>?_⟩
   ·rw [e5 b (by omega),get_new_ne _ _ _ (by omega),uh]
   ·rcases e2.is with ⟨z1,z2 | ⟨b',_,_,z2,_⟩⟩ | ⟨_,b',_,_,z2,_⟩
    ·rw [z1,z2]
     exact ⟨⟨fun x hx=>(by cases hx),.inl ⟨by first | rfl | trivial,.inl rfl⟩⟩,fun _ _=>by trivial,by omega,by omega⟩
    ·rw [z2] at hp;cases hp
    ·rw [z2] at hp;cases hp)
 refine ⟨v',t,hr.symm.trans e,⟨q2,q3.1,q3.2,?_⟩,q1⟩
 rcases hm with ⟨_,hm⟩ | ⟨hm,_⟩
 ·exact hm
 ·omega
end Go.Proofs.Ytkoefjgapmonaaa.walk
set_option maxRecDepth 10000
namespace Go.Proofs.Ytkoefjgapmonaaa.walk
open Go.Abs Go.Proofs.Ytkoefjgapmonaaa.code
def ofBox (box:Int) (fs:List Fill):List Fill:=fs.filter fun f=>decide (f.box=box)
theorem firstNot_spec (box:Int):∀ (fs:List Fill) (i:Nat),(firstNot box i fs = -1∧ofBox box fs=fs)∨∃ j,∃ h:j<fs.length,firstNot box i fs=((i+j:Nat):Int)∧ofBox box (fs.take j)=fs.take j∧(fs[j]).box≠box
 | [],i=>.inl ⟨rfl,rfl⟩
 | f::fs,i=>by
  unfold firstNot
  by_cases h:f.box=box
  ·rw [if_pos h]
   rcases firstNot_spec box fs (i+1) with ⟨h1,h2⟩ | ⟨j,hj,h1,h2,h3⟩
   ·exact .inl ⟨h1,by unfold ofBox at h2 ⊢;rw [List.filter_cons_of_pos (by simpa using h),h2]⟩
   ·exact .inr ⟨j+1,by simpa using hj,by rw [h1];congr 1;omega,by unfold ofBox at h2 ⊢;rw [List.take_succ_cons,List.filter_cons_of_pos (by simpa using h),h2],h3⟩
  ·rw [if_neg h]
   exact .inr ⟨0,by simp,by simp,rfl,h⟩
structure Taking (box:Int) (fs:List Fill) (b sz:Nat) (i j:Nat) (h:Heap):Prop where
 cnt:j=(ofBox box (fs.take i)).length
 lt:j<fs.length
 is:∃ rows:List (List AV),h.get b=some (.cells rows.flatten sz)∧(∀ r ∈ rows,r.length=3)∧rows.length=fs.length∧rows.take j=(ofBox box (fs.take i)).map Fill.cells∧rows.drop i=(fs.drop i).map Fill.cells
theorem delete_round (N:Nat) (hN:1≤N) (cx:Ctx) (fs:List Fill) (box:Int) (q szq b sz:Nat) (u:St) (hk:fs.length≤20) (hs:u.n+1000≤far) (hq:q<b) (hb:b<u.n) (gq:u.h.get q=some (.cells [.int .i64 box] szq))
  (i j:Nat) (L:Env) (s:St) (hi:i<fs.length) (hT:Taking box fs b sz i j s.h) (hji:j<i) (hE:Stir b u s i) (hm:b≤u.m)
  (h0:L.find 0=.slice b 0 fs.length fs.length true) (h1:L.find 1=.func 49 [] [.ptr q 0]) (h5:L.find 5=.int .i64 j) (h6:L.find 6=.int .i64 i) :
  ∃ L1 s1 j1,K51l0 (call Try.prog X N) cx L [] s=.done .norm L1 [] s1∧Taking box fs b sz (i+1) j1 s1.h∧j1<i+1∧Stir b u s1 (i+1) ∧
   L1.find 0=.slice b 0 fs.length fs.length true∧L1.find 1=.func 49 [] [.ptr q 0]∧L1.find 5=.int .i64 j1∧L1.find 6=.int .i64 ((i:Int)+1):=by
 have hf:far=1000000000:=rfl
 obtain ⟨hj,hjl,rows,hg,hw,hl,ht,hd⟩:=hT
 have hrow:∃ h:i<rows.length,rows[i]=(fs[i]).cells:=by
  refine ⟨by omega,?_⟩
  have e1:(rows.drop i)[0]? = ((fs.drop i).map Fill.cells)[0]? := by rw [hd]
  rw [List.getElem?_drop,List.getElem?_map,List.getElem?_drop,Nat.add_zero,List.getElem?_eq_getElem (by omega),List.getElem?_eq_getElem hi] at e1
  simpa using e1
 obtain ⟨hir,hrow⟩:=hrow
 have hcut:=flatten_cut hw hir
 rw [hrow] at hcut
 have hd1:rows.drop (i+1)=(fs.drop (i+1)).map Fill.cells:=by
  have:=congrArg (List.drop 1) hd
  rw [List.drop_drop,← List.map_drop,List.drop_drop] at this
  exact this
 have htk:fs.take (i+1)=fs.take i++[fs[i]]:=(List.take_append_getElem hi).symm
 have hov:=over_flatten (row:=(fs[i]).cells) hw (show j<rows.length by omega) rfl
 have e0:decide ((i:Int)<(fs.length:Int))=true:=by simp;omega
 have q1:=hE.n
 have q2:=hE.le
 have gq':s.h.get q=some (.cells [.int .i64 box] szq):=by rw [hE.same q (by omega) (by omega)];exact gq
 have a1:∀ s,aAdd s .i64 (i:Int) 1=.val (.int .i64 ((i:Int)+1)) s:=fun s=>aAdd_i64 s _ _ (by omega)
 have a2:∀ s,aAdd s .i64 (j:Int) 1=.val (.int .i64 ((j:Int)+1)) s:=fun s=>aAdd_i64 s _ _ (by omega)
 have gq2:∀ o1 o2,((s.new o1).put s.n o2).h.get q=some (.cells [.int .i64 box] szq):=fun o1 o2=>by rw [get_put_ne' _ _ _ _ (by omega),get_new_ne _ _ _ (by omega)];exact gq'
 have gb2:∀ o1 o2,((s.new o1).put s.n o2).h.get b=some (.cells rows.flatten sz):=fun o1 o2=>by rw [get_put_ne' _ _ _ _ (by omega),get_new_ne _ _ _ (by omega)];exact hg
 have hbg:∀ o1 o2,call Try.prog X N (.fn 49) [.agg [.int .i64 (fs[i]).box,.int .i64 (fs[i]).hour,.int .i64 (fs[i]).grams],.ptr q 0] ((s.new o1).put s.n o2)=.val (.bool (!decide ((fs[i]).box=box))) ((s.new o1).put s.n o2) :=
  fun o1 o2=>begin1_ok N hN _ _ _ box q szq [] _ (by simp only [put_n,new_n];omega) (gq2 _ _) (by simp only [put_n,new_n];omega)
 unfold Fill.cells at hcut hov
 by_cases hh:(fs[i]).box=box
 ·have hbg':=hbg
  rw [decide_eq_true hh] at hbg'
  have ho:ofBox box (fs.take (i+1))=ofBox box (fs.take i)++[fs[i]]:=by
   rw [htk];unfold ofBox;rw [List.filter_append];congr 1
   rw [List.filter_cons_of_pos (by simpa using hh)];rfl
  simp (disch:=first|omega|(with_unfolding_all exact rfl)|(simp only[new_n,put_n,new_m];omega)|(refine put_m_le ?_;simp only[new_m];omega)) only [res51,K51r0,K51r1,K51r2,K51r3,K51r4,K51r5,K51r6,K51r7,K51r8,K51r9,K51r10,K51l0,K51r11,K51r12,K51,Abs.W,reduceIte,Nat.reduceEqDiff,Nat.reduceAdd,decide_true,decide_false,kLoop_def,Nat.reduceSub,List.cons_append,List.nil_append,List.append_nil,List.length_cons,List.length_nil,Env.find_set,h0,h1,h5,h6,e0,ixs_slice,hg,hcut,hov,hbg',gq2,gb2,a1,a2,Nat.zero_add]
  refine ⟨_,_,j+1,rfl,⟨by rw [ho,List.length_append,← hj];rfl,by omega,rows.set j (fs[i]).cells,?_,?_,by rw [List.length_set];exact hl,?_,?_⟩,by omega,?_,?_,?_,?_,?_⟩
  ·exact get_put_eq _ _ _ _ rfl (by omega)
  ·intro r hr
   rcases List.mem_or_eq_of_mem_set hr with hr | hr
   ·exact hw r hr
   ·rw [hr];rfl
  ·rw [ho,List.map_append,← ht,List.take_add_one,List.getElem?_set_self (by omega),List.take_set_of_le (Nat.le_refl _)]
   rfl
  ·rw [List.drop_set_of_lt (by omega)];exact hd1
  ·exact ((((hE.new _).put hb _ (.inr q1)).put hb _ (.inl rfl)).mono (by omega))
  ·simp only [Env.find_set,h0,reduceIte,Nat.reduceEqDiff]
  ·simp only [Env.find_set,h1,reduceIte,Nat.reduceEqDiff]
  ·simp only [Env.find_set,reduceIte,Nat.reduceEqDiff];rfl
  ·simp only [Env.find_set,reduceIte,Nat.reduceEqDiff]
 ·have hbg':=hbg
  rw [decide_eq_false hh] at hbg'
  have ho:ofBox box (fs.take (i+1))=ofBox box (fs.take i):=by
   rw [htk];unfold ofBox;rw [List.filter_append,List.filter_cons_of_neg (by simpa using hh)];simp
  simp (disch:=first|omega|(with_unfolding_all exact rfl)|(simp only[new_n,put_n,new_m];omega)|(refine put_m_le ?_;simp only[new_m];omega)) only [res51,K51r0,K51r1,K51r2,K51r3,K51r4,K51r5,K51r6,K51r7,K51r8,K51r9,K51r10,K51l0,K51r11,K51r12,K51,Abs.W,reduceIte,Nat.reduceEqDiff,Nat.reduceAdd,decide_true,decide_false,kLoop_def,Nat.reduceSub,List.cons_append,List.nil_append,List.append_nil,List.length_cons,List.length_nil,Env.find_set,h0,h1,h5,h6,e0,ixs_slice,hg,hcut,hbg',gq2,gb2,a1,a2,Nat.zero_add]
  refine ⟨_,_,j,rfl,⟨by rw [ho];exact hj,by omega,rows,?_,hw,hl,by rw [ho];exact ht,hd1⟩,by omega,?_,?_,?_,?_,?_⟩
  ·exact gb2 _ _
  ·exact ((hE.new _).put hb _ (.inr q1))
  ·simp only [Env.find_set,h0,reduceIte,Nat.reduceEqDiff]
  ·simp only [Env.find_set,h1,reduceIte,Nat.reduceEqDiff]
  ·simp only [Env.find_set,h5,reduceIte,Nat.reduceEqDiff]
  ·simp only [Env.find_set,reduceIte,Nat.reduceEqDiff]
end Go.Proofs.Ytkoefjgapmonaaa.walk
set_option maxRecDepth 10000
namespace Go.Abs
theorem zeros_len (z:List AV):∀ n,(zerosA z n).length=n * z.length
 | 0=>by simp [zerosA]
 | n+1=>by
  show (z++zerosA z n).length=_
  rw [List.length_append,zeros_len z n,Nat.succ_mul];omega
theorem zeros_scalar (z:List AV) (h:scalars z=true):∀ n,scalars (zerosA z n)=true
 | 0=>rfl
 | n+1=>scalars_append h (zeros_scalar z h n)
theorem zeros_flatten (z:List AV):∀ n,zerosA z n=(List.replicate n z).flatten
 | 0=>rfl
 | n+1=>by
  show z++zerosA z n=_
  rw [zeros_flatten z n,List.replicate_succ,List.flatten_cons]
theorem clear_end {s:St} {b sz j:Nat} {rows:List (List AV)} {z:List AV} {e:Bool} {c:Nat} (hg:s.h.get b=some (.cells rows.flatten sz)) (hw:∀ r ∈ rows,r.length=z.length) (hj:j<rows.length) (hz:scalars z=true) :
  clearA z s (.slice b (j * z.length) (rows.length - j) c e)=.val .undef (s.put b (.cells (rows.take j++List.replicate (rows.length - j) z).flatten sz)):=by
 have e1:Nat.beq (rows.length - j) 0=false:=nbeq_f (by omega)
 have l1:(rows.take j).flatten.length=j * z.length:=by
  rw [flatten_len (w:=z.length) (fun r hr=>hw r (List.mem_of_mem_take hr)),List.length_take,Nat.min_eq_left (by omega)]
 have e2:over (j * z.length) (zerosA z (rows.length - j)) rows.flatten=some (rows.take j++List.replicate (rows.length - j) z).flatten:=by
  have hr:rows.flatten=(rows.take j).flatten++(rows.drop j).flatten:=by rw [← List.flatten_append,List.take_append_drop]
  have:=over_skip (rows.take j).flatten (rows.drop j).flatten (zerosA z (rows.length - j)) 0
  rw [Nat.add_zero,l1] at this
  rw [hr,this]
  have h2:=over_head (zerosA z (rows.length - j)) (rows.drop j).flatten [] (by
   rw [zeros_len,flatten_len (w:=z.length) (fun r hr=>hw r (List.mem_of_mem_drop hr)),List.length_drop])
  rw [List.append_nil,List.append_nil] at h2
  rw [h2,zeros_flatten,List.flatten_append]
  rfl
 show (match Nat.beq (rows.length - j) 0 with | true=>ARes.val .undef s | false=>match scalars (zerosA z (rows.length - j)) with | false=>.fail | true=>match s.h.get b with | some (.cells c sz)=>(match over (j * z.length) (zerosA z (rows.length - j)) c with | some c=>.val .undef (s.put b (.cells c sz)) | none=>.fail) | _=>.fail)=_
 simp only [e1,zeros_scalar z hz,hg,e2]
end Go.Abs
namespace Go.Proofs.Ytkoefjgapmonaaa.walk
open Go.Abs Go.Proofs.Ytkoefjgapmonaaa.code
def Kept (h:Heap) (lo n:Nat) (ks:List Fill) (v:AV):Prop :=
 (ks=[]∧(v=.nilslice∨∃ b,v=.slice b 0 0 0 false))∨∃ (b sz cap:Nat) (rows:List (List AV)),lo≤b∧b<n∧v=.slice b 0 ks.length cap true∧h.get b=some (.cells rows.flatten sz)∧(∀ r ∈ rows,r.length=3)∧rows.length=cap∧rows.take ks.length=ks.map Fill.cells∧ks.length≤cap∧0<cap
theorem Kept.mono {h h':Heap} {lo n n':Nat} {ks:List Fill} {v:AV} (r:Kept h lo n ks v) (hh:∀ b,lo≤b→b<n→h'.get b=h.get b) (hn:n≤n'):Kept h' lo n' ks v :=
 r.imp id fun ⟨b,sz,cap,rows,h1,h2,h3,h4,h5⟩=>⟨b,sz,cap,rows,h1,by omega,h3,by rw [hh b h1 h2];exact h4,h5⟩
theorem kept_own {h:Heap} {lo n tg:Nat} {fs:List Fill} {v:AV} (r:Own h lo n 3 tg (fs.map Fill.cells) v):Kept h lo n fs v:=by
 rcases r.is with ⟨h1,h2 | ⟨b,h2,h3,h4,h5⟩⟩ | ⟨h1,b,h2,h3,h4,h5⟩
 ·exact .inl ⟨List.map_eq_nil_iff.mp h1,.inl h2⟩
 ·exact .inl ⟨List.map_eq_nil_iff.mp h1,.inr ⟨b,h4⟩⟩
 ·have h6:0<fs.length:=by
   cases fs with
   | nil=>exact absurd rfl h1
   | cons _ _=>simp
  rw [List.length_map] at h4
  exact .inr ⟨b,_,fs.length,fs.map Fill.cells,h2,h3,h4,h5,fill_wide fs,List.length_map ..,by rw [List.take_of_length_le (by simp)],Nat.le_refl _,h6⟩
theorem deleteFunc_ex {N lo:Nat} {s:St} {r:ARes} {v:AV} {q szq:Nat} {box:Int} (fs:List Fill) (hr:call Try.prog X N (.fn 51) [v,.func 49 [] [.ptr q 0]] s=r) (hN:4≤N)
  (hO:Own s.h lo s.n 3 (tag 55) (fs.map Fill.cells) v) (hk:fs.length≤20) (hs:s.n+2000≤far) (hq:q<lo) (hlo:lo≤s.n) (gq:s.h.get q=some (.cells [.int .i64 box] szq)) :
  ∃ v' t,r=.val v' t∧(∀ b,b<lo→t.h.get b=s.h.get b)∧s.n≤t.n∧t.n≤s.n+20∧(lo≤s.m→lo≤t.m)∧t.m≤s.m∧Kept t.h lo t.n (ofBox box fs) v':=by
 obtain ⟨n,rfl⟩:∃ n,N=n+1:=⟨N - 1,by omega⟩
 have hf:far=1000000000:=rfl
 obtain ⟨v',t,m,e,⟨q1,q2,q3,q4,q5⟩,hm⟩:=call_any (n:=n) (args:=[v,.func 49 [] [.ptr q 0]]) (s:=s) (Q:=fun v h n m=>(∀ b,b<lo→h.get b=s.h.get b)∧s.n≤n∧n≤s.n+20∧lo≤m∧Kept h lo n (ofBox box fs) v) Try.func51 rfl (fun u uh un um=>by
  rw [← uh,← un] at hO
  rw [← uh] at gq
  have hR:=hO.seq.at_
  have hi:=index_ok n (by omega) fs v box q szq u hR hk (by omega) (by omega) gq
  have hkeep:=kept_own hO
  obtain ⟨k0,_,_⟩:=hO.seq.scalar
  rw [enter51]
  rcases firstNot_spec box fs 0 with ⟨h1,h2⟩ | ⟨i0,hi0,h1,h2,h3⟩
  ·have e0:decide ((-1:Int) = -1)=true:=rfl
   rw [h1] at hi
   simp (disch:=first|omega|(with_unfolding_all exact rfl)|(simp only[new_n,put_n,new_m];omega)|(refine put_m_le ?_;simp only[new_m];omega)) only [res51,K51r0,K51r1,K51r2,K51r3,K51r4,K51r5,K51r6,K51r7,K51r8,K51r9,K51r10,K51r11,K51r12,K51,Abs.W,reduceIte,Nat.reduceEqDiff,Nat.reduceAdd,decide_true,decide_false,kLoop_def,Nat.reduceSub,List.cons_append,List.nil_append,List.append_nil,List.length_cons,List.length_nil,hi,e0,Env.find_set]
   rw [h2]
   exact ⟨_,_,rfl,⟨fun b _=>by rw [uh],by omega,by omega,by omega,hkeep⟩,fun _ _=>⟨by first | (intros;trivial) | (intros;rfl),by omega,by omega,by omega,by rw [← uh,← un];exact hkeep⟩⟩
  ·rw [Nat.zero_add] at h1
   rw [h1] at hi
   rcases hO.is with ⟨z1,_⟩ | ⟨z1,b,hlb,hbn,hv,hg⟩
   ·have z2:=List.map_eq_nil_iff.mp z1
    subst z2
    simp at hi0
   ·subst hv
    rw [List.length_map] at hi ⊢
    have e0:decide ((i0:Int) = -1)=false:=decide_eq_false (by omega)
    have a1:∀ s,aAdd s .i64 (i0:Int) 1=.val (.int .i64 ((i0:Int)+1)) s:=fun s=>aAdd_i64 s _ _ (by omega)
    simp (disch:=first|omega|(with_unfolding_all exact rfl)|(simp only[new_n,put_n,new_m];omega)|(refine put_m_le ?_;simp only[new_m];omega)) only [res51,K51r0,K51r1,K51r2,K51r3,K51r4,K51r5,K51r6,K51r7,K51r8,K51r9,K51r10,K51r11,K51r12,K51,Abs.W,reduceIte,Nat.reduceEqDiff,Nat.reduceAdd,decide_true,decide_false,kLoop_def,Nat.reduceSub,List.cons_append,List.nil_append,List.append_nil,List.length_cons,List.length_nil,hi,e0,a1,Env.find_set]
    generalize hl:loopN _ rounds _ _ _ _ _=r1
    have t0:Taking box fs b (3+tag 55) (i0+1) i0 u.h:=by
     have htk:fs.take (i0+1)=fs.take i0++[fs[i0]]:=(List.take_append_getElem hi0).symm
     have ho:ofBox box (fs.take (i0+1))=fs.take i0:=by
      rw [htk];unfold ofBox at h2 ⊢;rw [List.filter_append,List.filter_cons_of_neg (by simpa using h3),h2,List.filter_nil,List.append_nil]
     exact ⟨by rw [ho,List.length_take];omega,hi0,fs.map Fill.cells,hg,fill_wide fs,List.length_map ..,by rw [ho,List.map_take],List.map_drop.symm⟩
    obtain ⟨e,L1,s1,rfl,rfl,j,hT,hE,g0,g5⟩:=loop_from hl (fun i L t=>∃ j:Nat,Taking box fs b (3+tag 55) i j t.h∧j<i∧Stir b u t i∧L.find 0=.slice b 0 fs.length fs.length true∧L.find 1=.func 49 [] [.ptr q 0]∧L.find 5=.int .i64 j∧L.find 6=.int .i64 i)
     (fun e L t=>e=.exit 0∧∃ j:Nat,Taking box fs b (3+tag 55) fs.length j t.h∧Stir b u t fs.length∧L.find 0=.slice b 0 fs.length fs.length true∧L.find 5=.int .i64 j) fs.length (i0+1) (by omega) (by unfold rounds;omega)
     ⟨i0,t0,by omega,(Stir.refl b u).mono (by omega),by simp only [Env.find_set,find_cons,reduceIte,Nat.reduceEqDiff],by simp only [Env.find_set,find_cons,reduceIte,Nat.reduceEqDiff],by simp only [Env.find_set,find_cons,reduceIte,Nat.reduceEqDiff],by simp only [Env.find_set,find_cons,reduceIte,Nat.reduceEqDiff];rfl⟩
     (fun i L t hi ⟨j,qT,qj,qE,q0,q1,q5,q6⟩=>by
      by_cases hlt:i<fs.length
      ·obtain ⟨L1,s1,j1,p0,p1,p2,p3,p4,p5,p6,p7⟩:=delete_round n (by omega) _ fs box q szq b _ u hk (by omega) (by omega) hbn gq i j L t hlt qT qj qE (by omega) q0 q1 q5 q6
       exact .inl ⟨hlt,L1,s1,p0,j1,p1,p2,p3,p4,p5,p6,by rw [p7];rfl⟩
      ·have hie:i=fs.length:=by omega
       subst hie
       have e0:decide ((fs.length:Int)<(fs.length:Int))=false:=by simp
       refine .inr ⟨.exit 0,L.set 19 (.bool false),t,by simp,?_,rfl,j,qT,qE,by simp only [Env.find_set,q0,reduceIte,Nat.reduceEqDiff],by simp only [Env.find_set,q5,reduceIte,Nat.reduceEqDiff]⟩
       simp (disch:=first|omega|(with_unfolding_all exact rfl)|(simp only[new_n,put_n,new_m];omega)|(refine put_m_le ?_;simp only[new_m];omega)) only [res51,K51r0,K51r1,K51r2,K51r3,K51r4,K51r5,K51r6,K51r7,K51r8,K51r9,K51r10,K51l0,K51r11,K51r12,K51,Abs.W,reduceIte,Nat.reduceEqDiff,Nat.reduceAdd,decide_true,decide_false,kLoop_def,Nat.reduceSub,List.cons_append,List.nil_append,List.append_nil,List.length_cons,List.length_nil,Env.find_set,q0,q1,q5,q6,e0])
    obtain ⟨hj,hjl,rows,tg,tw,tl,tt,td⟩:=hT
    have hcl:=clear_end (s:=s1) (j:=j) (z:=[.int .i64 0,.int .i64 0,.int .i64 0]) (e:=true) (c:=fs.length - j) tg tw (by omega) rfl
    rw [show (([AV.int .i64 0,.int .i64 0,.int .i64 0]:List AV).length)=3 from rfl,tl] at hcl
    have s1':=slice_from 3 s1 b 0 fs.length fs.length j true (Nat.le_refl _) (by omega) (by omega)
    rw [Nat.zero_add] at s1'
    have s2':∀ t,sliceVal 3 none (some (.int .i64 (j:Int))) t (.slice b 0 fs.length fs.length true)=.val (.slice b 0 j fs.length true) t:=fun t=>slice_to 3 t b 0 fs.length fs.length j true (Nat.le_refl _) (by omega) (by omega)
    simp (disch:=first|omega|(with_unfolding_all exact rfl)|(simp only[new_n,put_n,new_m];omega)|(refine put_m_le ?_;simp only[new_m];omega)) only [res51,K51r0,K51r1,K51r2,K51r3,K51r4,K51r5,K51r6,K51r7,K51r8,K51r9,K51r10,K51r11,K51r12,K51,Abs.W,reduceIte,Nat.reduceEqDiff,Nat.reduceAdd,decide_true,decide_false,kLoop_def,Nat.reduceSub,List.cons_append,List.nil_append,List.append_nil,List.length_cons,List.length_nil,Env.find_set,g0,g5,kSlice_def,optEv_some,optEv_none,s1',s2',hcl]
    have q1:=hE.n
    have q2:=hE.le
    have hE2:=hE.put hbn (.cells (rows.take j++List.replicate (fs.length - j) [AV.int .i64 0,AV.int .i64 0,AV.int .i64 0]).flatten (3+tag 55)) (.inl rfl)
    have hmm:=hE2.m (by omega)
    refine ⟨_,_,rfl,⟨fun c hc=>?_,?_,?_,Nat.le_trans hlb hmm,.inr ⟨b,_,fs.length,_,hlb,?_,?_,get_put_eq _ _ _ _ rfl (by omega),?_,?_,?_,?_,by omega⟩⟩,fun hp _=>?_⟩
    ·rw [hE2.same c (by omega) (by omega),uh]
    ·simp only [put_n];omega
    ·simp only [put_n];omega
    ·simp only [put_n];omega
    ·rw [List.take_length] at hj;rw [← hj]
    ·intro x hx
     rcases List.mem_append.mp hx with hx | hx
     ·exact tw x (List.mem_of_mem_take hx)
     ·rw [List.eq_of_mem_replicate hx];rfl
    ·rw [List.length_append,List.length_take,List.length_replicate];omega
    ·rw [List.take_length] at hj tt
     rw [← hj,List.take_append_of_le_length (by rw [List.length_take];omega),List.take_take,Nat.min_self,tt]
    ·rw [List.take_length] at hj;omega
    ·cases hp)
 refine ⟨v',t,hr.symm.trans e,q1,q2,q3,?_,?_,q5⟩
 ·rcases hm with ⟨_,hm⟩ | ⟨_,hm⟩<;>omega
 ·rcases hm with ⟨_,hm⟩ | ⟨_,hm⟩<;>omega
end Go.Proofs.Ytkoefjgapmonaaa.walk
set_option maxRecDepth 10000
namespace Go.Abs
theorem kFunc_def (f:FuncId) (first cap:List Arg) (L:Env) (s:St):kFunc f first cap L s=.val (.func f (evs first L) (evs cap L)) s:=Eq.trans (Eq.refl _) (Eq.refl _)
theorem boxA_int (sz:Nat) (s:St) (k:IntKind) (n:Int):boxA sz s (.int k n)=.val (.ptr s.n 0) (s.new (.cells [.int k n] sz)):=Eq.trans (Eq.refl _) (Eq.refl _)
theorem cellsOf_one (v:AV) (h:v.scalar=true):cellsOf 1 v=some [v]:=by cases v<;>first | rfl | cases h
end Go.Abs
namespace Go.Proofs.Ytkoefjgapmonaaa.walk
open Go.Abs Go.Proofs.Ytkoefjgapmonaaa.code
def sufV (b j cap i:Nat):AV:=if cap=i then .tail b (i * 3) else .slice b (i * 3) (j - i) (cap - i) true
theorem sufV_len (b j cap i:Nat) (h:j≤cap) (s:St) (hi:i≤j):lenSlA s (sufV b j cap i)=.val (.int .i64 ((j - i:Nat):Int)) s:=by
 unfold sufV
 by_cases e:cap=i
 ·rw [if_pos e]
  have:j - i=0:=by omega
  rw [this];rfl
 ·rw [if_neg e];rfl
theorem sufV_ok (b j cap i:Nat):(∀ t,okA (.val (sufV b j cap i) t)=.val (sufV b j cap i) t)∧cellsOf 1 (sufV b j cap i)=some [sufV b j cap i]∧scalars [sufV b j cap i]=true:=by
 unfold sufV
 by_cases e:cap=i
 ·rw [if_pos e];exact ⟨fun _=>rfl,rfl,rfl⟩
 ·rw [if_neg e];exact ⟨fun _=>rfl,rfl,rfl⟩
theorem rests_from {h:Heap} {z p b sz cap:Nat} {rows:List (List AV)} (ks:List Fill) (hp:b≠p∧b<z) (hg:h.get b=some (.cells rows.flatten sz)) (hw:∀ r ∈ rows,r.length=3) (hl:rows.length=cap) (ht:rows.take ks.length=ks.map Fill.cells) (hc:ks.length≤cap)
  (hf:∀ f ∈ ks,0≤f.grams∧f.grams≤1000000):∀ (m i:Nat),i+m=ks.length→Rests h z p (sufV b ks.length cap i) ((ks.drop i).map fun f=>(f.hour,f.grams))
 | 0,i,hm=>by
  rw [List.drop_of_length_le (by omega)]
  obtain ⟨q1,q2,q3⟩:=sufV_ok b ks.length cap i
  refine .nil _ (fun s=>?_) q1 q3
  rw [sufV_len _ _ _ _ hc s (by omega),show ks.length - i=0 by omega];rfl
 | m+1,i,hm=>by
  have hi:i<ks.length:=by omega
  rw [List.drop_eq_getElem_cons hi,List.map_cons]
  obtain ⟨q1,q2,q3⟩:=sufV_ok b ks.length cap i
  obtain ⟨r1,r2,r3⟩:=sufV_ok b ks.length cap (i+1)
  have hrow:rows[i]'(by omega)=(ks[i]).cells:=by
   have e1:(rows.take ks.length)[i]? = (ks.map Fill.cells)[i]? := by rw [ht]
   rw [List.getElem?_take_of_lt hi,List.getElem?_map,List.getElem?_eq_getElem (by omega),List.getElem?_eq_getElem hi] at e1
   simpa using e1
  have hcut:=flatten_cut hw (i:=i) (by omega)
  rw [hrow] at hcut
  have hne:¬ cap=i:=by omega
  have nths:∀ (c:List AV) (p:Nat) (x y z:AV),cut p 3 c=some [x,y,z]→nth c (p+1)=y∧nth c (p+2)=z:=by
   intro c p x y z hq
   obtain ⟨a,t,h1,h2,_⟩:=cut_some hq
   subst h1
   have nsk:∀ (a l:List AV) (k:Nat),nth (a++l) (a.length+k)=nth l k:=by
    intro a
    induction a with
    | nil=>intro l k;rw [List.length_nil,Nat.zero_add,List.nil_append]
    | cons x a ih=>intro l k;rw [List.length_cons,List.cons_append,show a.length+1+k=(a.length+k)+1 by omega,nth_cons,if_neg (by omega)];exact ih l k
   rw [← h2,List.append_assoc,nsk,nsk]
   exact ⟨rfl,rfl⟩
  obtain ⟨n1,n2⟩:=nths _ _ _ _ _ hcut
  have hix:∀ s,ixsA 3 s (sufV b ks.length cap i) (.int .i64 0)=.val (.ptr b (i * 3)) s:=fun s=>by
   unfold sufV
   rw [if_neg hne]
   exact ixs_slice 3 s b (i * 3) _ _ true 0 (by omega)
  refine .cons _ (sufV b ks.length cap (i+1)) ((ks.length - i:Nat):Int) _ _ _ ⟨fun s=>sufV_len _ _ _ _ hc s (by omega),by omega,q1,q3,r2,r3,fun s=>?_,b,i * 3,rows.flatten,sz,hp,hix,hg,n1,n2⟩ (hf _ (List.getElem_mem hi)) (rests_from ks hp hg hw hl ht hc hf m (i+1) (by omega))
  unfold sufV
  rw [if_neg hne]
  by_cases e:cap=i+1
  ·rw [if_pos e]
   have e2:cap - i=1:=by omega
   have e3:ks.length - i=1:=by omega
   rw [e2,e3]
   have:=slice_end 3 s b (i * 3) 1 1 (by omega) (by omega)
   rw [show i * 3+1 * 3=(i+1) * 3 by omega] at this
   exact this
  ·rw [if_neg e]
   have:=slice_from 3 s b (i * 3) (ks.length - i) (cap - i) 1 true (by omega) (by omega) (by omega)
   rw [show i * 3+1 * 3=(i+1) * 3 by omega,show ks.length - i - 1=ks.length - (i+1) by omega,show cap - i - 1=cap - (i+1) by omega] at this
   exact this
theorem Kept.rests {h:Heap} {lo n z p:Nat} {ks:List Fill} {v:AV} (r:Kept h lo n ks v) (hp:p<lo∨n≤p) (hz:n≤z) (hf:∀ f ∈ ks,0≤f.grams∧f.grams≤1000000):Rests h z p v (ks.map fun f=>(f.hour,f.grams)):=by
 rcases r with ⟨h1,h2⟩ | ⟨b,sz,cap,rows,h1,h2,h3,h4,h5,h6,h7,h8,h9⟩
 ·subst h1
  rcases h2 with h2 | ⟨b,h2⟩<;>subst h2<;>exact .nil _ (fun _=>rfl) (fun _=>rfl) rfl
 ·have:=rests_from (z:=z) (p:=p) ks ⟨by omega,by omega⟩ h4 h5 h6 h7 h8 hf ks.length 0 (by omega)
  rw [List.drop_zero] at this
  unfold sufV at this
  rw [if_neg (by omega),Nat.zero_mul,Nat.sub_zero,Nat.sub_zero] at this
  rw [h3];exact this
theorem Kept.scalar {h:Heap} {lo n:Nat} {ks:List Fill} {v:AV} (r:Kept h lo n ks v):v.scalar=true:=by
 rcases r with ⟨_,h2 | ⟨b,h2⟩⟩ | ⟨b,sz,cap,rows,_,_,h3,_⟩
 ·subst h2;rfl
 ·subst h2;rfl
 ·subst h3;rfl
def Box.start (B:Box):BoxNow:=⟨B.room,B.il,B.ih,B.ml,B.mh,B.cl,B.ch,B.wl,B.wh,0,B.il,B.ih⟩
theorem begin_ex {N:Nat} {s:St} {r:ARes} {hl hh:Int} {v1 v2 v3:AV} (bs:List Box) (fs:List Fill) (i:Nat) (hi:i<bs.length) (hr:call Try.prog X N (.fn 29) [.agg [.int .i64 hl,.int .i64 hh,v1,v2,v3],.int .i64 i] s=r) (hN:6≤N)
  (hR:RowsAt s.h s.n 9 (bs.map Box.cells) v1) (hF:Seq s.h s.n 3 (fs.map Fill.cells) v2) (hk:fs.length≤20) (n3:v3≠.bad) (hs:s.n+3000≤far) :
  ∃ v' t,r=.val (.agg ((bs[i]).start.cells v')) t∧New s t 30∧Kept t.h (s.n+3) t.n (ofBox i fs) v':=by
 obtain ⟨n,rfl⟩:∃ n,N=n+1:=⟨N - 1,by omega⟩
 have hf:far=1000000000:=rfl
 obtain ⟨w,t,e,st,v',rfl,hq⟩:=call_new' (n:=n) (args:=[.agg [.int .i64 hl,.int .i64 hh,v1,v2,v3],.int .i64 i]) (s:=s) (k:=30) (Q:=fun w h m=>∃ v',w=.agg ((bs[i]).start.cells v')∧Kept h (s.n+3) m (ofBox i fs) v') Try.func29 rfl (fun u uh un um=>by
  rw [← uh,← un] at hR hF
  rw [← un]
  have k1:∀ t,okA (.val v1 t)=.val v1 t:=fun t=>okA_ne hR.ne
  obtain ⟨k2,c2,sc2⟩:=hF.scalar
  obtain ⟨b,p,c,sz,hbn,hix,hgb,hcut⟩:=hR.at_ i (by simpa using hi)
  rw [List.getElem_map] at hcut
  generalize bs[i]=B at hcut
  have hcut2:cut (p+1) 2 c=some [.int .i64 B.il,.int .i64 B.ih]:=cut_cut hcut rfl
  unfold Box.cells at hcut
  have sh:shapeT Try.prog 77=some (some 13):=by kernel_rfl
  have gb:∀ o1 o2 o3,(((u.new o1).new o2).new o3).h.get b=some (.cells c sz):=fun o1 o2 o3=>by
   rw [get_new_ne _ _ _ (by simp only [new_n];omega),get_new_ne _ _ _ (by simp only [new_n];omega),get_new_ne _ _ _ (by omega)];exact hgb
  rw [enter29]
  simp (disch:=first|omega|(with_unfolding_all exact rfl)|(simp only[new_n,put_n,new_m];omega)|(refine put_m_le ?_;simp only[new_m];omega)) only [res29,K29r0,K29r1,K29r2,K29,Abs.W,reduceIte,Nat.reduceEqDiff,Nat.reduceAdd,decide_true,decide_false,kLoop_def,Nat.reduceSub,List.cons_append,List.nil_append,List.append_nil,List.length_cons,List.length_nil,kFunc_def,boxA_int,k1,k2,hix,gb,hcut,hcut2,endsOf_ok,Nat.zero_add]
  generalize hc:call _ _ _ (.fn 52) _ _=r1
  obtain ⟨v',t1,rfl,st1,own1⟩:=clone_ex fs hc (by omega) (hF.grow (fun c hc=>by
   show ((((u.new _).new _).new _)).h.get c=_
   rw [get_new_ne _ _ _ (by simp only [new_n];omega),get_new_ne _ _ _ (by simp only [new_n];omega),get_new_ne _ _ _ (by omega)]) (by simp only [new_n];omega)) hk (by simp only [new_n];omega)
  have t1n:=st1.n
  have t1l:=st1.le
  have t1m:t1.m=far:=st1.m
  simp only [new_n] at t1n t1l own1
  simp (disch:=first|omega|(with_unfolding_all exact rfl)|(simp only[new_n,put_n,new_m];omega)|(refine put_m_le ?_;simp only[new_m];omega)) only [res29,K29r0,K29r1,K29r2,K29,Abs.W,reduceIte,Nat.reduceEqDiff,Nat.reduceAdd,decide_true,decide_false,kLoop_def,Nat.reduceSub,List.cons_append,List.nil_append,List.append_nil,List.length_cons,List.length_nil,thenT_val]
  generalize hc2:call _ _ _ (.fn 51) _ _=r2
  have gq:t1.h.get (u.n+1)=some (.cells [.int .i64 i] (tag 3)):=by
   rw [st1.same _ (by simp only [new_n];omega)]
   show ((((u.new _).new _).new _)).h.get _=_
   rw [get_new_ne _ _ _ (by simp only [new_n];omega)]
   exact get_new_eq _ _ _ rfl (by simp only [new_n];omega)
  obtain ⟨v'',t2,rfl,same2,n2,l2,m2,mm2,kept⟩:=deleteFunc_ex fs hc2 (by omega) own1 hk (by show t1.n+2000≤far;omega) (show u.n+1<u.n+3 by omega) (by show u.n+3≤t1.n;omega) gq
  have n2':t1.n≤t2.n:=n2
  have l2':t2.n≤t1.n+20:=l2
  have m2':u.n+3≤t2.m:=m2 (by show u.n+3≤far;omega)
  have mm2':t2.m≤far:=mm2
  have kept':Kept t2.h (u.n+3) t2.n (ofBox i fs) v'':=kept
  have ksc:=kept.scalar
  have sc3:∀ l,scalars (v''::l)=scalars l:=fun l=>by
   show (match v''.scalar with | true=>scalars l | false=>false)=_
   rw [ksc]
  have c3:=cellsOf_one v'' ksc
  have g1:∀ c,c<u.n→t1.h.get c=u.h.get c:=fun c hc=>by
   rw [st1.same _ (by simp only [new_n];omega)]
   show ((((u.new _).new _).new _)).h.get _=_
   rw [get_new_ne _ _ _ (by simp only [new_n];omega),get_new_ne _ _ _ (by simp only [new_n];omega),get_new_ne _ _ _ (by omega)]
  have ga:t1.h.get u.n=some (.cells [.int .i64 hl,.int .i64 hh,v1,v2,v3] (tag 31)):=by
   rw [st1.same _ (by simp only [new_n];omega)]
   show ((((u.new _).new _).new _)).h.get _=_
   rw [get_new_ne _ _ _ (by simp only [new_n];omega),get_new_ne _ _ _ (by simp only [new_n];omega)]
   exact get_new_eq _ _ _ rfl (by omega)
  have gc:t1.h.get (u.n+2)=some (.cells [.int .i64 0,.int .i64 0,.int .i64 0,.int .i64 0,.int .i64 0,.int .i64 0,.int .i64 0,.int .i64 0,.int .i64 0,.int .i64 0,.int .i64 0,.int .i64 0,.nilslice] (tag 77)):=by
   rw [st1.same _ (by simp only [new_n];omega)]
   show ((((u.new _).new _).new _)).h.get _=_
   exact get_new_eq _ _ _ rfl (by simp only [new_n];omega)
  have gb1:t1.h.get b=some (.cells c sz):=by rw [g1 b hbn];exact hgb
  have h0:∀ c,c<u.n+3→t2.h.get c=t1.h.get c:=same2
  have ha2:=(h0 u.n (by omega)).trans ga
  have hq2:=(h0 (u.n+1) (by omega)).trans gq
  have hc2:=(h0 (u.n+2) (by omega)).trans gc
  have hb2:=(h0 b (by omega)).trans gb1
  have nn1:∀ o,(u.new o).n=u.n+1:=fun _=>rfl
  have nn2:∀ o1 o2,((u.new o1).new o2).n=u.n+2:=fun _ _=>rfl
  simp (disch:=first|omega|(with_unfolding_all exact rfl)|(simp only[new_n,put_n,new_m];omega)|(refine put_m_le ?_;simp only[new_m];omega)) only [res29,K29r0,K29r1,K29r2,K29,Abs.W,reduceIte,Nat.reduceEqDiff,Nat.reduceAdd,decide_true,decide_false,kLoop_def,Nat.reduceSub,List.cons_append,List.nil_append,List.append_nil,List.length_cons,List.length_nil,thenT_turn,nn1,nn2,hc2,sc3,c3]
  rw [endT_kept (by simp only [keptAll_cons,keptAll_nil,find_cons,keptV_ptr,ga,gq,gb1,ha2,hq2,hb2,sameO_cells,reduceIte,Nat.reduceEqDiff,Bool.and_self])]
  simp (disch:=first|omega|(with_unfolding_all exact rfl)|(simp only[new_n,put_n,new_m];omega)|(refine put_m_le ?_;simp only[new_m];omega)) only [Abs.W,reduceIte,Nat.reduceEqDiff,Nat.reduceAdd,decide_true,decide_false,kLoop_def,Nat.reduceSub,List.cons_append,List.nil_append,List.append_nil,List.length_cons,List.length_nil,regD_ok]
  refine ⟨.agg (B.start.cells v''),_,leave_cell _ _ _ _ sh ?_,⟨fun c hc=>?_,?_,?_,?_,?_⟩,⟨v'',rfl,?_⟩,fun hp=>⟨v'',rfl,.inl ?_⟩⟩
  ·simp (disch:=first|omega|(with_unfolding_all exact rfl)|(simp only[new_n,put_n,new_m];omega)|(refine put_m_le ?_;simp only[new_m];omega)) only [Abs.W,reduceIte,Nat.reduceEqDiff,Nat.reduceAdd,decide_true,decide_false,kLoop_def,Nat.reduceSub,List.cons_append,List.nil_append,List.append_nil,List.length_cons,List.length_nil,Box.start,BoxNow.cells]
  ·rw [get_put_ne' _ _ _ _ (by omega)]
   exact (h0 c (by omega)).trans (g1 c hc)
  ·simp only [put_n];omega
  ·simp only [put_n];omega
  ·simp only [St.put,minN_eq,t1m,new_m,um];omega
  ·simp only [St.put,minN_eq,t1m,new_m,um];omega
  ·exact kept'.mono (fun c h1 h2=>get_put_ne' _ _ _ _ (by omega)) (Nat.le_refl _)
  ·rcases kept' with ⟨z1,z2 | ⟨b',z2⟩⟩ | ⟨b',sz',cap,rows,_,_,z3,_⟩
   ·exact ⟨z1,.inl z2⟩
   ·rw [z2] at hp;cases hp
   ·rw [z3] at hp;cases hp)
 exact ⟨v',t,hr.symm.trans e,st,hq⟩
end Go.Proofs.Ytkoefjgapmonaaa.walk
set_option maxRecDepth 10000
namespace Go.Proofs.Ytkoefjgapmonaaa.walk
open Go.Abs Go.Proofs.Ytkoefjgapmonaaa.code
def BoxNow.melt (x:BoxNow):BoxNow:={x with i0:=max 0 (x.i0 - x.m1),i1:=max 0 (x.i1 - x.m0)}
def BoxNow.tick (x:BoxNow):BoxNow:={x with hour:=x.hour+1}
def BoxNow.on (x:BoxNow) (fs:List (Int × Int)):BoxNow:=(x.fill fs).melt.tick
def ices:Nat→BoxNow→List (Int × Int)→List (Int × Int)
 | 0,_,_=>[]
 | m+1,x,fs=>((x.fill fs).i0,(x.fill fs).i1)::ices m (x.on fs) (left x.hour fs)
structure BoxNow.Like (x y:BoxNow):Prop where
 a:x.room=y.room∧x.m0=y.m0∧x.m1=y.m1∧x.a5=y.a5∧x.a6=y.a6∧x.a7=y.a7∧x.a8=y.a8
theorem BoxNow.fill_like (x:BoxNow):∀ fs,(x.fill fs).Like x∧(x.fill fs).hour=x.hour
 | []=>⟨⟨rfl,rfl,rfl,rfl,rfl,rfl,rfl⟩,rfl⟩
 | (h,g)::fs=>by
  unfold BoxNow.fill
  by_cases e:h=x.hour
  ·rw [if_pos e]
   obtain ⟨⟨h1⟩,h2⟩:=BoxNow.fill_like (x.put g) fs
   exact ⟨⟨h1⟩,h2⟩
  ·rw [if_neg e];exact ⟨⟨rfl,rfl,rfl,rfl,rfl,rfl,rfl⟩,rfl⟩
theorem BoxNow.fill_fits {x:BoxNow} (h:x.Fits):∀ fs:List (Int × Int),(∀ f ∈ fs,0≤f.2∧f.2≤1000000)→(x.fill fs).Fits
 | [],_=>h
 | (hh,g)::fs,hf=>by
  unfold BoxNow.fill
  by_cases e:hh=x.hour
  ·rw [if_pos e];exact BoxNow.fill_fits (h.put (hf _ (List.mem_cons_self ..))) fs fun f hf'=>hf f (List.mem_cons_of_mem _ hf')
  ·rw [if_neg e];exact h
theorem left_sub (hour:Int):∀ fs:List (Int × Int),∀ f ∈ left hour fs,f ∈ fs
 | [],f,h=>h
 | (hh,g)::fs,f,h=>by
  unfold left at h
  by_cases e:hh=hour
  ·rw [if_pos e] at h;exact List.mem_cons_of_mem _ (left_sub hour fs f h)
  ·rw [if_neg e] at h;exact h
theorem left_len (hour:Int):∀ fs:List (Int × Int),(left hour fs).length≤fs.length
 | []=>Nat.le_refl _
 | (hh,g)::fs=>by
  unfold left
  by_cases e:hh=hour
  ·rw [if_pos e];have:=left_len hour fs;simp;omega
  ·rw [if_neg e];exact Nat.le_refl _
theorem Rests.grams {h:Heap} {z p:Nat} {v:AV} {fs:List (Int × Int)} (r:Rests h z p v fs):∀ f ∈ fs,0≤f.2∧f.2≤1000000:=by
 induction r with
 | nil=>intro f hf;cases hf
 | cons v v' len hour g fs h1 h2 _ ih =>
  intro f hf
  rcases List.mem_cons.mp hf with e | hf
  ·subst e;exact h2
  ·exact ih f hf
theorem Rests.sc {h:Heap} {z p:Nat} {v:AV} {fs:List (Int × Int)} (r:Rests h z p v fs):scalars [v]=true:=by
 cases r with
 | nil _ _ _ h3=>exact h3
 | cons _ _ _ _ _ _ h1 _ _=>exact h1.sc
theorem Kept.scalar1 {h:Heap} {lo n:Nat} {ks:List Fill} {v:AV} (r:Kept h lo n ks v):scalars [v]=true:=by
 show (match v.scalar with | true=>scalars [] | false=>false)=true
 rw [r.scalar];rfl
structure Takes (N l p sz n0 k:Nat) (top:Int) (x0:BoxNow) (J:List (Int × Int)→Heap→Nat→Prop):Prop where
 turn:∀ is h h' n,(∀ c,c≠p→h'.get c=h.get c)→J is h n→J is h' n
 take:∀ is (s:St) (x:BoxNow) (v:AV),x.hour<top→(is.length:Int)=x.hour→x.Like x0→J is s.h s.n→s.h.get p=some (.cells (x.cells v) sz)→s.n+10000≤far →
  ∃ s',call Try.prog X N (.yield l) [.int .i64 x.hour,.agg [.int .i64 x.i0,.int .i64 x.i1]] s=.val (.bool true) s'∧J (is++[(x.i0,x.i1)]) s'.h s'.n∧(∀ c,c<n0→s'.h.get c=s.h.get c)∧s.n≤s'.n∧s'.n≤s.n+k∧(p≤s.m→p≤s'.m)∧s'.m≤s.m∧s'.m≤l
theorem BoxNow.on_spec {x:BoxNow} {fs:List (Int × Int)} (hx:x.Fits) (hf:∀ f ∈ fs,0≤f.2∧f.2≤1000000) (hm:0≤x.m0∧x.m0≤1000000∧0≤x.m1∧x.m1≤1000000):(x.on fs).Fits∧(x.on fs).hour=x.hour+1∧(x.on fs).Like x:=by
 obtain ⟨⟨q1,q2,q3,q4,q5,q6,q7⟩,q8⟩:=x.fill_like fs
 obtain ⟨f1,f2,f3⟩:=BoxNow.fill_fits hx fs hf
 refine ⟨⟨f1,?_,?_⟩,?_,⟨q1,q2,q3,q4,q5,q6,q7⟩⟩
 ·show 0≤max 0 ((x.fill fs).i0 - (x.fill fs).m1)∧max 0 ((x.fill fs).i0 - (x.fill fs).m1)≤1000000
  rw [q3];omega
 ·show 0≤max 0 ((x.fill fs).i1 - (x.fill fs).m0)∧max 0 ((x.fill fs).i1 - (x.fill fs).m0)≤1000000
  rw [q2];omega
 ·show (x.fill fs).hour+1=x.hour+1
  rw [q8]
end Go.Proofs.Ytkoefjgapmonaaa.walk
set_option maxRecDepth 10000
namespace Go.Abs
variable {P:Program}
theorem setParams2 (L:Env) (t u:Tmp) (a b:AV):setParams L [t,u] [a,b]=(L.set t a).set u b:=rfl
theorem leave_dfr (P:Program) (rs:List ResultVar) (x:Nat) (L:Env) (s:St) (h:s.h.get x=some .dfr):leaveA P rs L [x] s=leaveA P rs L [] (s.kill x):=by
 unfold leaveA
 have:takeDfs s [x]=some (s.kill x):=by
  show (match s.h.get x with | some .dfr=>takeDfs (s.kill x) [] | _=>none)=_
  rw [h];rfl
 rw [this]
 rfl
theorem okA_func (f:FuncId) (x y:List AV) (s:St):okA (.val (.func f x y) s)=.val (.func f x y) s:=Eq.trans (Eq.refl _) (Eq.refl _)
theorem get_kill_ne (s:St) (b c:Nat) (h:b≠c):(s.kill c).h.get b=s.h.get b:=by rw [St.kill_h,heap_set_ne _ _ _ _ h]
theorem range_to_end {f:Arg} {ps:List Tmp} {a b:Code} {cl:CallF} {c:Ctx} {L:Env} {s s2:St} {v:AV} {r:ALoop} (hc:c.rnd=none)
  (h:callV cl [.yield (s.n+1)] ((s.new .dfr).new (.loop ⟨.ready,none,c.fn,L,ps,a,b,s.n,c.nt,c.xs⟩)) (f.ev L)=.val v s2) (hr:s2.h.get (s.n+1)=some (.loop r)) (hb:r.state=.ready) (hp:r.pending=none) :
  kRange f ps a b cl c L [] s=.done .norm L [s.n] (s2.put (s.n+1) (.loop { r with state:=.exhausted })):=by
 rw [range_eq hc h hr (by rw [hb];simp),hp]
 rfl
end Go.Abs
namespace Go.Proofs.Ytkoefjgapmonaaa.walk
open Go.Abs Go.Proofs.Ytkoefjgapmonaaa.code
def pairRow (w:Int × Int):List AV:=[.int .i64 w.1,.int .i64 w.2]
structure Gathers (p q l:Nat) (x0:BoxNow) (R:ALoop) (is:List (Int × Int)) (h:Heap) (n:Nat):Prop where
 told:h.get q=some (.cells [.func 62 [.ptr p 0] []] (tag 115))
 all:∃ v,h.get (q+1)=some (.cells [v] (tag 113))∧Abs.Rows h (q+4) n 2 (tag 75) (is.map fun j=>pairRow (x0.warmth j.1 j.2)) v
 loop:h.get (q+3)=some (.loop R)
 dfr:h.get (q+2)=some .dfr
 n:q+4≤n
 few:is.length≤240
end Go.Proofs.Ytkoefjgapmonaaa.walk
