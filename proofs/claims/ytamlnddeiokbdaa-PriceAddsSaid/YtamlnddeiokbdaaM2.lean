/- Slices that grow row by row. -/
import Derived.Test.YtamlnddeiokbdaaM1
import Derived.Test.YtamlnddeiokbdaaCodes
import Derived.Test.YtamlnddeiokbdaaWalkAll
set_option linter.unusedSimpArgs false
set_option maxHeartbeats 16000000
set_option linter.unusedVariables false
namespace Go.Abs
variable {P:Program}
structure Rows (h:Heap) (lo n w tg:Nat) (rows:List (List AV)) (v:AV):Prop where
 wide:∀ r ∈ rows,r.length=w
 is:(rows=[]∧v=.nilslice)∨(∃ b,lo≤b∧b<n∧v=.slice b 0 rows.length rows.length true∧h.get b=some (.cells rows.flatten (w+tg)))
theorem Rows.nil (h:Heap) (lo n w tg:Nat):Rows h lo n w tg [] .nilslice:=⟨fun r hr=>by (cases hr),.inl ⟨rfl,rfl⟩⟩
theorem Rows.mono {h h':Heap} {lo n n' w tg:Nat} {rows:List (List AV)} {v:AV} (r:Rows h lo n w tg rows v) (hh:∀ b,lo≤b→b<n→h'.get b=h.get b) (hn:n≤n'):Rows h' lo n' w tg rows v :=
 ⟨r.wide,r.is.imp id fun ⟨b,h0,h1,h2,h3⟩=>⟨b,h0,by omega,h2,by rw [hh b h0 h1];exact h3⟩⟩
theorem flatten_cut:∀ {rows:List (List AV)} {w i:Nat},(∀ r ∈ rows,r.length=w)→(hi:i<rows.length)→cut (i * w) w rows.flatten=some rows[i]
 | [],w,i,_,hi=>by simp at hi
 | r::rs,w,i,hw,hi=>by
  have hr:r.length=w:=hw r (List.mem_cons_self ..)
  have cut1_app:∀ (r l:List AV),cut1 r.length (r++l)=some r:=by
   intro r l
   induction r with
   | nil=>exact cut1_zero l
   | cons a r ih=>rw [List.length_cons,List.cons_append,cut1_cons,ih];rfl
  have cut_0:∀ (k:Nat) (l:List AV),cut 0 k l=cut1 k l:=by
   intro k l
   cases l with
   | nil=>rfl
   | cons a l=>rfl
  cases i with
  | zero =>
   rw [Nat.zero_mul,List.flatten_cons,cut_0,← hr,cut1_app]
   rfl
  | succ i =>
   have ih:=flatten_cut (rows:=rs) (w:=w) (i:=i) (fun x hx=>hw x (List.mem_cons_of_mem _ hx)) (by simpa using hi)
   have drop:∀ (r l:List AV) (o k:Nat),cut (o+r.length) k (r++l)=cut o k l:=by
    intro r l o k
    induction r with
    | nil=>rfl
    | cons a r ih=>rw [List.length_cons,List.cons_append,← Nat.add_assoc,cut_cons,if_neg (by omega)];exact ih
   rw [List.flatten_cons,show (i+1) * w=i * w+r.length by rw [Nat.succ_mul,hr],drop,ih]
   rfl
theorem Rows.at_ {h:Heap} {lo n w tg:Nat} {rows:List (List AV)} {v:AV} (r:Rows h lo n w tg rows v):RowsAt h n w rows v:=by
 refine ⟨fun s=>?_,fun i hi=>?_⟩
 ·rcases r.is with ⟨h1,h2⟩ | ⟨b,_,_,h2,_⟩
  ·subst h1;subst h2;rfl
  ·subst h2;rfl
 ·rcases r.is with ⟨h1,_⟩ | ⟨b,_,hb,h2,h3⟩
  ·subst h1;simp at hi
  ·subst h2
   exact ⟨b,i * w,rows.flatten,w+tg,hb,fun s=>by rw [ixs_slice _ _ _ _ _ _ _ _ hi,Nat.zero_add],h3,flatten_cut r.wide hi⟩
theorem Rows.len {h:Heap} {lo n w tg:Nat} {rows:List (List AV)} {v:AV} (r:Rows h lo n w tg rows v) (s:St):lenSlA s v=.val (.int .i64 rows.length) s:=r.at_.len s
theorem Rows.scalar {h:Heap} {lo n w tg:Nat} {rows:List (List AV)} {v:AV} (r:Rows h lo n w tg rows v):(∀ t,okA (.val v t)=.val v t)∧cellsOf 1 v=some [v]∧(∀ l,scalars (v::l)=scalars l):=by
 rcases r.is with ⟨_,h2⟩ | ⟨b,_,_,h2,_⟩<;>subst h2<;>exact ⟨fun _=>rfl,rfl,fun _=>rfl⟩
theorem flatten_len:∀ {rows:List (List AV)} {w:Nat},(∀ r ∈ rows,r.length=w)→rows.flatten.length=rows.length * w
 | [],w,_=>by simp
 | r::rs,w,hw=>by
  have:=flatten_len (rows:=rs) (w:=w) (fun x hx=>hw x (List.mem_cons_of_mem _ hx))
  rw [List.flatten_cons,List.length_append,this,hw r (List.mem_cons_self ..),List.length_cons,Nat.succ_mul,Nat.add_comm]
theorem append_row {s:St} {lo w bytes tg:Nat} {rows:List (List AV)} {v:AV} (r:Rows s.h lo s.n w tg rows v) {p sz:Nat} {row:List AV} (hp:s.h.get p=some (.cells row sz)) (hw:row.length=w) (hsc:scalars row=true)
  (hb:(rows.length+1) * bytes≤1000000) (htg:szOf (w+tg)=w) (hs:s.n<549755813888) (hlo:lo≤s.n) :
  ∃ v' s',appendA false w bytes tg s v (.slice p 0 1 1 false)=.val v' s'∧Rows s'.h lo s'.n w tg (rows++[row]) v'∧s'.n=s.n+1∧(∀ b,b<lo→s'.h.get b=s.h.get b)∧(∀ b,b<s.n→v≠.slice b 0 rows.length rows.length true→s'.h.get b=s.h.get b)∧(∀ k,k≤lo→k≤s.m→k≤s'.m)∧s'.m≤s.m∧v'=.slice s.n 0 (rows.length+1) (rows.length+1) true:=by
 have h1:∀ x,appendA false w bytes tg s x (.slice p 0 1 1 false)=growA w bytes tg 1 row s x:=by
  intro x
  have e1:firstA w 1 s (.slice p 0 1 1 false)=some row:=by
   show (match s.h.get p with | some (.cells c _)=>cut 0 (1 * w) c | some (.fam c _ k _)=>cut 0 (1 * w) (c.take k) | _=>none)=some row
   rw [hp]
   simp only [Nat.one_mul]
   have cut_0:∀ (k:Nat) (l:List AV),cut 0 k l=cut1 k l:=by
    intro k l
    cases l with
    | nil=>rfl
    | cons a l=>rfl
   have all:∀ l:List AV,cut1 l.length l=some l:=by
    intro l
    induction l with
    | nil=>rfl
    | cons a l ih=>rw [List.length_cons,cut1_cons,ih];rfl
   rw [cut_0,← hw,all]
  show (match (some 1:Option Nat) with | none=>ARes.fail | some n=>match firstA w n s (.slice p 0 1 1 false) with | none=>.fail | some new=>match Nat.beq new.length (n * w) with | false=>.fail | true=>match scalars new with | true=>(growA w bytes tg n new s x) | false=>.fail)=_
  simp only [e1,hw,Nat.one_mul,Nat.beq_refl,hsc]
 rcases r.is with ⟨h2,h3⟩ | ⟨b,hlb,hbn,h3,h4⟩
 ·subst h2;subst h3
  refine ⟨.slice s.n 0 1 1 true,s.new (.cells row (w+tg)),?_,⟨fun x hx=>?_,.inr ⟨s.n,hlo,Nat.lt_succ_self _,rfl,?_⟩⟩,rfl,fun b hb=>?_,fun b hb _=>?_,fun _ _ h=>h,Nat.le_refl _,rfl⟩
  ·rw [h1]
   show (match Nat.beq 1 0 with | true=>ARes.val .nilslice s | false=>match Nat.ble (1 * bytes) limit with | false=>.fail | true=>.val (.slice s.n 0 1 1 true) (s.new (.cells row (w+tg))))=_
   have:Nat.ble (1 * bytes) limit=true:=Nat.ble_eq_true_of_le (by unfold limit;simp at hb;omega)
   rw [this]
  ·simp at hx;subst hx;exact hw
  ·simp only [List.nil_append,List.flatten_cons,List.flatten_nil,List.append_nil]
   exact get_new_eq _ _ _ rfl hs
  ·exact get_new_ne _ _ _ (by omega)
  ·exact get_new_ne _ _ _ (by omega)
 ·subst h3
  have hfl:=flatten_len r.wide
  refine ⟨.slice s.n 0 (rows.length+1) (rows.length+1) true,(s.kill b).new (.cells (rows.flatten++row) (w+tg)),?_,⟨fun x hx=>?_,.inr ⟨s.n,hlo,Nat.lt_succ_self _,by simp,?_⟩⟩,rfl,fun c hc=>?_,fun c hc hne=>?_,fun k hk hm=>?_,minN_le_left _ _,rfl⟩
  ·rw [h1]
   unfold growA
   simp only [h4]
   have e1:Nat.ble (rows.length+1) rows.length=false:=by
    cases h:Nat.ble (rows.length+1) rows.length with
    | false=>rfl
    | true=>have:=Nat.le_of_ble_eq_true h;omega
   have e2:Nat.ble ((rows.length+1) * bytes) limit=true:=Nat.ble_eq_true_of_le hb
   simp only [e1,e2,hfl,htg,Nat.zero_add,List.drop_zero,and_self,if_true]
  ·rcases List.mem_append.mp hx with hx | hx
   ·exact r.wide x hx
   ·simp at hx;subst hx;exact hw
  ·rw [List.flatten_append,List.flatten_cons,List.flatten_nil,List.append_nil]
   exact get_new_eq _ _ _ rfl hs
  ·rw [get_new_ne _ _ _ (by show c≠s.n;omega),St.kill_h,heap_set_ne _ _ _ _ (by omega)]
  ·rw [get_new_ne _ _ _ (by show c≠s.n;omega),St.kill_h,heap_set_ne _ _ _ _ (fun e=>hne (by rw [e]))]
  ·show k≤minN s.m b
   rw [minN_min];omega
/-! ### Slices as they come in, copies, parts -/
theorem cut_zero (k:Nat) (l:List AV):cut 0 k l=cut1 k l:=by cases l<;>rfl
theorem cut1_app:∀ (r l:List AV),cut1 r.length (r++l)=some r:=by
 intro r l
 induction r with
 | nil=>exact cut1_zero l
 | cons a r ih=>rw [List.length_cons,List.cons_append,cut1_cons,ih];rfl
theorem cut1_all (l:List AV):cut1 l.length l=some l:=by have:=cut1_app l [];rwa [List.append_nil] at this
theorem cut1_some:∀ {k:Nat} {l r:List AV},cut1 k l=some r→∃ t,l=r++t∧r.length=k
 | 0,l,r,h=>by rw [cut1_zero] at h;cases h;exact ⟨l,rfl,rfl⟩
 | k+1,[],r,h=>by cases h
 | k+1,a::l,r,h=>by
  rw [cut1_cons] at h
  generalize hq:cut1 k l=q at h
  cases q with
  | none=>cases h
  | some q =>
   cases h
   obtain ⟨t,h1,h2⟩:=cut1_some hq
   exact ⟨t,by rw [h1];rfl,by rw [List.length_cons,h2]⟩
theorem cut_some:∀ {o k:Nat} {l r:List AV},cut o k l=some r→∃ a t,l=a++r++t∧a.length=o∧r.length=k
 | 0,k,l,r,h=>by
  rw [cut_zero] at h
  obtain ⟨t,h1,h2⟩:=cut1_some h
  exact ⟨[],t,by rw [h1];rfl,rfl,h2⟩
 | o+1,k,[],r,h=>by cases h
 | o+1,k,a::l,r,h=>by
  rw [cut_cons,if_neg (by omega)] at h
  obtain ⟨x,t,h1,h2,h3⟩:=cut_some h
  exact ⟨a::x,t,by rw [h1];rfl,by rw [List.length_cons,h2];omega,h3⟩
theorem cut_skip:∀ (a l:List AV) (o k:Nat),cut (a.length+o) k (a++l)=cut o k l
 | [],l,o,k=>by rw [List.length_nil,Nat.zero_add,List.nil_append]
 | x::a,l,o,k=>by
  rw [List.length_cons,List.cons_append,show a.length+1+o=(a.length+o)+1 by omega,cut_cons,if_neg (by omega)]
  exact cut_skip a l o k
theorem cut_app:∀ {o k:Nat} {l r t:List AV},cut o k l=some r→cut o k (l++t)=some r:=by
 intro o k l r t h
 obtain ⟨a,u,h1,h2,h3⟩:=cut_some h
 rw [h1,← h2,List.append_assoc,List.append_assoc]
 have:=cut_skip a (r++(u++t)) 0 k
 rw [Nat.add_zero] at this
 rw [this,cut_zero,← h3,cut1_app]
theorem cut_cut {o k i w:Nat} {c F r:List AV} (h:cut o k c=some F) (h2:cut i w F=some r):cut (o+i) w c=some r:=by
 obtain ⟨a,t,h3,h4,h5⟩:=cut_some h
 rw [h3,← h4,List.append_assoc,cut_skip]
 exact cut_app h2
structure Seq (h:Heap) (n w:Nat) (rows:List (List AV)) (v:AV):Prop where
 wide:∀ r ∈ rows,r.length=w
 is:(rows=[]∧v=.nilslice)∨∃ b o cap e c sz,b<n∧v=.slice b o rows.length cap e∧h.get b=some (.cells c sz)∧cut o (rows.length * w) c=some rows.flatten
theorem Seq.at_ {h:Heap} {n w:Nat} {rows:List (List AV)} {v:AV} (r:Seq h n w rows v):RowsAt h n w rows v:=by
 refine ⟨fun s=>?_,fun i hi=>?_⟩
 ·rcases r.is with ⟨h1,h2⟩ | ⟨b,o,cap,e,c,sz,_,h2,_⟩
  ·subst h1;subst h2;rfl
  ·subst h2;rfl
 ·rcases r.is with ⟨h1,_⟩ | ⟨b,o,cap,e,c,sz,hb,h2,h3,h4⟩
  ·subst h1;simp at hi
  ·subst h2
   exact ⟨b,o+i * w,c,sz,hb,fun s=>ixs_slice _ _ _ _ _ _ _ _ hi,h3,cut_cut h4 (flatten_cut r.wide hi)⟩
theorem Seq.grow {h h':Heap} {n n' w:Nat} {rows:List (List AV)} {v:AV} (r:Seq h n w rows v) (hh:∀ b,b<n→h'.get b=h.get b) (hn:n≤n'):Seq h' n' w rows v :=
 ⟨r.wide,r.is.imp id fun ⟨b,o,cap,e,c,sz,h1,h2,h3,h4⟩=>⟨b,o,cap,e,c,sz,by omega,h2,by rw [hh b h1];exact h3,h4⟩⟩
theorem Rows.seq {h:Heap} {lo n w tg:Nat} {rows:List (List AV)} {v:AV} (r:Rows h lo n w tg rows v):Seq h n w rows v :=
 ⟨r.wide,r.is.imp id fun ⟨b,_,h1,h2,h3⟩=>⟨b,0,_,_,_,_,h1,h2,h3,by rw [cut_zero,← flatten_len r.wide,cut1_all]⟩⟩
theorem Seq.first {s:St} {n w:Nat} {rows:List (List AV)} {v:AV} (r:Seq s.h n w rows v):lenA v=some rows.length∧firstA w rows.length s v=some rows.flatten:=by
 rcases r.is with ⟨h1,h2⟩ | ⟨b,o,cap,e,c,sz,hb,h2,h3,h4⟩
 ·subst h1;subst h2;exact ⟨rfl,rfl⟩
 ·subst h2
  refine ⟨rfl,?_⟩
  show (match s.h.get b with | some (.cells c _)=>cut o (rows.length * w) c | some (.fam c _ k _)=>cut o (rows.length * w) (c.take k) | _=>none)=_
  rw [h3]
  exact h4
theorem Seq.scalar {h:Heap} {n w:Nat} {rows:List (List AV)} {v:AV} (r:Seq h n w rows v):(∀ t,okA (.val v t)=.val v t)∧cellsOf 1 v=some [v]∧(∀ l,scalars (v::l)=scalars l):=by
 rcases r.is with ⟨_,h2⟩ | ⟨b,o,cap,e,c,sz,_,h2,_⟩<;>subst h2<;>exact ⟨fun _=>rfl,rfl,fun _=>rfl⟩
theorem scalars_append:∀ {a b:List AV},scalars a=true→scalars b=true→scalars (a++b)=true
 | [],b,_,h=>h
 | x::a,b,h1,h2=>by
  have e:∀ (x:AV) (l:List AV),scalars (x::l)=(match x.scalar with | true=>scalars l | false=>false):=fun _ _=>rfl
  rw [e] at h1
  rw [List.cons_append,e]
  split at h1
  ·exact scalars_append h1 h2
  ·cases h1
theorem scalars_flatten:∀ {rows:List (List AV)},(∀ r ∈ rows,scalars r=true)→scalars rows.flatten=true
 | [],_=>rfl
 | r::rs,h=>by rw [List.flatten_cons];exact scalars_append (h r (List.mem_cons_self ..)) (scalars_flatten fun x hx=>h x (List.mem_cons_of_mem _ hx))
structure Own (h:Heap) (lo n w tg:Nat) (rows:List (List AV)) (v:AV):Prop where
 wide:∀ r ∈ rows,r.length=w
 is:(rows=[]∧(v=.nilslice∨∃ b,lo≤b∧b<n∧v=.slice b 0 0 0 false∧h.get b=some (.cells [] 0)))∨(rows≠[]∧∃ b,lo≤b∧b<n∧v=.slice b 0 rows.length rows.length true∧h.get b=some (.cells rows.flatten (w+tg)))
theorem Own.seq {h:Heap} {lo n w tg:Nat} {rows:List (List AV)} {v:AV} (r:Own h lo n w tg rows v):Seq h n w rows v:=by
 refine ⟨r.wide,?_⟩
 rcases r.is with ⟨h1,h2 | ⟨b,_,h3,h4,h5⟩⟩ | ⟨_,b,_,h3,h4,h5⟩
 ·exact .inl ⟨h1,h2⟩
 ·subst h1;exact .inr ⟨b,0,0,false,[],0,h3,h4,h5,by rw [List.length_nil,Nat.zero_mul];rfl⟩
 ·exact .inr ⟨b,0,_,_,_,_,h3,h4,h5,by rw [cut_zero,← flatten_len r.wide,cut1_all]⟩
theorem Own.mono {h h':Heap} {lo n n' w tg:Nat} {rows:List (List AV)} {v:AV} (r:Own h lo n w tg rows v) (hh:∀ b,lo≤b→b<n→h'.get b=h.get b) (hn:n≤n'):Own h' lo n' w tg rows v:=by
 refine ⟨r.wide,?_⟩
 rcases r.is with ⟨h1,h2 | ⟨b,h0,h3,h4,h5⟩⟩ | ⟨h1,b,h0,h3,h4,h5⟩
 ·exact .inl ⟨h1,.inl h2⟩
 ·exact .inl ⟨h1,.inr ⟨b,h0,by omega,h4,by rw [hh b h0 h3];exact h5⟩⟩
 ·exact .inr ⟨h1,b,h0,by omega,h4,by rw [hh b h0 h3];exact h5⟩
theorem append_copy {s:St} {n w bytes tg p:Nat} {rows:List (List AV)} {v:AV} (r:Seq s.h n w rows v) (hp:s.h.get p=some (.cells [] 0)) (hpn:p<s.n) (hsc:∀ r ∈ rows,scalars r=true) (hb:rows.length * bytes≤1000000) (hs:s.n<549755813888) :
  ∃ v' s',appendA false w bytes tg s (.slice p 0 0 0 false) v=.val v' s'∧Own s'.h p s'.n w tg rows v'∧s.n≤s'.n∧s'.n≤s.n+1∧(∀ b,b<s.n→s'.h.get b=s.h.get b)∧(∀ k,k≤p→k≤s.m→k≤s'.m)∧s'.m≤s.m:=by
 obtain ⟨e1,e2⟩:=r.first
 have e3:Nat.beq rows.flatten.length (rows.length * w)=true:=by rw [flatten_len r.wide];exact Nat.beq_refl _
 have h1:appendA false w bytes tg s (.slice p 0 0 0 false) v=growA w bytes tg rows.length rows.flatten s (.slice p 0 0 0 false):=by
  unfold appendA
  simp only [e1,e2,e3,scalars_flatten hsc]
 rw [h1]
 unfold growA
 simp only [hp,Nat.zero_add,Nat.zero_mul]
 by_cases h0:rows=[]
 ·subst h0
  refine ⟨.slice p 0 0 0 false,s.put p (.cells [] 0),rfl,⟨fun x hx=>(by cases hx),.inl ⟨rfl,.inr ⟨p,Nat.le_refl _,hpn,rfl,get_put_eq _ _ _ _ rfl (by omega)⟩⟩⟩,Nat.le_refl _,Nat.le_succ _,fun b hb=>?_,fun k hk hm=>?_,minN_le_left _ _⟩
  ·by_cases hbp:b=p
   ·subst hbp;rw [get_put_eq _ _ _ _ rfl (by omega),hp]
   ·exact get_put_ne' _ _ _ _ hbp
  ·show k≤minN s.m p
   rw [minN_min];omega
 ·have hpos:0<rows.length:=List.length_pos_iff.mpr h0
  have e4:Nat.ble rows.length 0=false:=by
   cases h:Nat.ble rows.length 0 with
   | false=>rfl
   | true=>have:=Nat.le_of_ble_eq_true h;omega
  have e5:Nat.ble (rows.length * bytes) limit=true:=Nat.ble_eq_true_of_le hb
  have e6:cut 0 0 ([]:List AV)=some []:=rfl
  simp only [e4,e5,e6,List.nil_append]
  exact ⟨_,_,rfl,⟨r.wide,.inr ⟨h0,s.n,by omega,Nat.lt_succ_self _,rfl,get_new_eq _ _ _ rfl hs⟩⟩,Nat.le_succ _,Nat.le_refl _,fun b hb=>get_new_ne _ _ _ (by omega),fun _ _ h=>h,Nat.le_refl _⟩
end Go.Abs
namespace Go.Abs
variable {P:Program}
theorem over_skip:∀ (a l vs:List AV) (o:Nat),over (a.length+o) vs (a++l)=(over o vs l).map (a++·)
 | [],l,vs,o=>by
  rw [List.length_nil,Nat.zero_add,List.nil_append]
  cases over o vs l<;>rfl
 | x::a,l,vs,o=>by
  rw [List.length_cons,List.cons_append,show a.length+1+o=(a.length+o)+1 by omega,over_cons,if_neg (by omega),show a.length+o+1 - 1=a.length+o by omega,over_skip a l vs o]
  cases over o vs l<;>rfl
theorem over_head:∀ (vs r l:List AV),vs.length=r.length→over 0 vs (r++l)=some (vs++l):=by
 have h1:∀ (vs r l:List AV),vs.length=r.length→over1 vs (r++l)=some (vs++l):=by
  intro vs
  induction vs with
  | nil=>intro r l h;cases r with
   | nil=>exact over1_nil _
   | cons _ _=>simp at h
  | cons v vs ih=>intro r l h;cases r with
   | nil=>simp at h
   | cons a r=>rw [List.cons_append,over1_cons,ih r l (by simpa using h)];rfl
 intro vs r l h
 have:over 0 vs (r++l)=over1 vs (r++l):=by
  cases hq:r++l with
  | nil=>rfl
  | cons a c=>rw [over_cons,if_pos rfl]
 rw [this,h1 vs r l h]
theorem over_flatten {rows:List (List AV)} {w j:Nat} {row:List AV} (hw:∀ r ∈ rows,r.length=w) (hj:j<rows.length) (hr:row.length=w):over (j * w) row rows.flatten=some (rows.set j row).flatten:=by
 have e:rows=rows.take j++rows[j]::rows.drop (j+1):=by rw [List.getElem_cons_drop];exact (List.take_append_drop j rows).symm
 have l1:(rows.take j).flatten.length=j * w:=by
  rw [flatten_len (w:=w) (fun r hr=>hw r (List.mem_of_mem_take hr)),List.length_take,Nat.min_eq_left (by omega)]
 rw [List.set_eq_take_append_cons_drop,if_pos hj]
 conv=>lhs;rw [e]
 rw [List.flatten_append,List.flatten_cons,List.flatten_append,List.flatten_cons]
 have:=over_skip (rows.take j).flatten (rows[j]++(rows.drop (j+1)).flatten) row 0
 rw [Nat.add_zero,l1] at this
 rw [this,over_head row rows[j] _ (by rw [hr,hw _ (List.getElem_mem hj)])]
 rfl
theorem zeros_flatten (z:List AV):∀ n,zerosA z n=(List.replicate n z).flatten
 | 0=>rfl
 | n+1=>by
  show z++zerosA z n=_
  rw [zeros_flatten z n,List.replicate_succ,List.flatten_cons]
theorem make_rows (z:List AV) (bytes n:Nat) (s:St) (h1:n * bytes≤1000000) (h2:n≤1000000):makeA z bytes s (.int .i64 (n:Int)) (.int .i64 (n:Int))=.val (.slice s.n 0 n n false) (s.new (.cells (List.replicate n z).flatten 0)):=by
 show (match Nat.ble n n with | false=>ARes.fail | true=>match Nat.ble (n * bytes) limit with | false=>.fail | true=>match Nat.ble n limit with | false=>.fail | true=>.val (.slice s.n 0 n n false) (s.new (.cells (zerosA z n) 0)))=_
 rw [Nat.ble_eq_true_of_le (Nat.le_refl n),Nat.ble_eq_true_of_le (by unfold limit;omega:n * bytes≤limit),Nat.ble_eq_true_of_le (by unfold limit;omega:n≤limit),zeros_flatten]
theorem kMake_def (z:List AV) (bytes:Nat) (l c:Arg) (L:Env) (s:St):kMake z bytes l c L s=makeA z bytes s (l.ev L) (c.ev L):=Eq.trans (Eq.refl _) (Eq.refl _)
def fillRows (n:Nat) (z:List AV) (l:List (List AV)):List (List AV):=l++List.replicate (n - l.length) z
theorem fillRows_len {n:Nat} {z:List AV} {l:List (List AV)} (h:l.length≤n):(fillRows n z l).length=n:=by unfold fillRows;rw [List.length_append,List.length_replicate];omega
theorem fillRows_full {n:Nat} {z:List AV} {l:List (List AV)} (h:l.length=n):fillRows n z l=l:=by unfold fillRows;rw [h,Nat.sub_self,List.replicate_zero,List.append_nil]
theorem fillRows_wide {n w:Nat} {z:List AV} {l:List (List AV)} (hz:z.length=w) (hl:∀ r ∈ l,r.length=w):∀ r ∈ fillRows n z l,r.length=w:=by
 intro r hr
 rcases List.mem_append.mp hr with h | h
 ·exact hl r h
 ·rw [List.eq_of_mem_replicate h];exact hz
theorem fillRows_over {n w:Nat} {z row:List AV} {l:List (List AV)} (hz:z.length=w) (hl:∀ r ∈ l,r.length=w) (hr:row.length=w) (h:l.length<n):over (l.length * w) row (fillRows n z l).flatten=some (fillRows n z (l++[row])).flatten:=by
 rw [over_flatten (fillRows_wide hz hl) (by rw [fillRows_len (by omega)];exact h) hr]
 congr 2
 unfold fillRows
 obtain ⟨k,hk⟩:∃ k,n - l.length=k+1:=⟨n - l.length - 1,by omega⟩
 rw [List.set_append_right _ _ (Nat.le_refl _),Nat.sub_self,hk,List.replicate_succ,List.set_cons_zero,List.append_assoc,List.length_append,List.length_singleton,show n - (l.length+1)=k by omega]
 rfl
structure Turn (d:Nat) (u t:St) (k:Nat):Prop where
 same:∀ b,b<u.n→b≠d→t.h.get b=u.h.get b
 n:u.n≤t.n
 le:t.n≤u.n+k
end Go.Abs
namespace Go.Abs
variable {P:Program}
structure Blk (h:Heap) (n b w tg:Nat) (rows:List (List AV)) (v:AV):Prop where
 wide:∀ r ∈ rows,r.length=w
 is:∃ e sz,v=.slice b 0 rows.length rows.length e∧b<n∧h.get b=some (.cells rows.flatten sz)∧(e=true→sz=w+tg)
theorem Blk.mono {h h':Heap} {n n' b w tg:Nat} {rows:List (List AV)} {v:AV} (r:Blk h n b w tg rows v) (hh:h'.get b=h.get b) (hn:n≤n'):Blk h' n' b w tg rows v :=
 ⟨r.wide,by obtain ⟨e,sz,h1,h2,h3,h4⟩:=r.is;exact ⟨e,sz,h1,by omega,by rw [hh];exact h3,h4⟩⟩
theorem Blk.lt {h:Heap} {n b w tg:Nat} {rows:List (List AV)} {v:AV} (r:Blk h n b w tg rows v):b<n:=by obtain ⟨e,sz,h1,h2,h3,h4⟩:=r.is;exact h2
theorem Blk.okA {h:Heap} {n b w tg:Nat} {rows:List (List AV)} {v:AV} (r:Blk h n b w tg rows v) (t:St):Abs.okA (.val v t)=.val v t:=by obtain ⟨e,sz,h1,h2,h3,h4⟩:=r.is;subst h1;rfl
theorem Blk.scal {h:Heap} {n b w tg:Nat} {rows:List (List AV)} {v:AV} (r:Blk h n b w tg rows v):v.scalar=true:=by obtain ⟨e,sz,h1,h2,h3,h4⟩:=r.is;subst h1;rfl
theorem Blk.cells {h:Heap} {n b w tg:Nat} {rows:List (List AV)} {v:AV} (r:Blk h n b w tg rows v):cellsOf 1 v=some [v]:=by obtain ⟨e,sz,h1,h2,h3,h4⟩:=r.is;subst h1;rfl
theorem Blk.len {h:Heap} {n b w tg:Nat} {rows:List (List AV)} {v:AV} (r:Blk h n b w tg rows v) (s:St):lenSlA s v=.val (.int .i64 rows.length) s:=by obtain ⟨e,sz,h1,h2,h3,h4⟩:=r.is;subst h1;rfl
theorem Blk.get {h:Heap} {n b w tg:Nat} {rows:List (List AV)} {v:AV} (r:Blk h n b w tg rows v):∃ sz,h.get b=some (.cells rows.flatten sz):=by obtain ⟨e,sz,h1,h2,h3,h4⟩:=r.is;exact ⟨sz,h3⟩
theorem Blk.ixs {h:Heap} {n b w tg:Nat} {rows:List (List AV)} {v:AV} (r:Blk h n b w tg rows v) {i:Nat} (hi:i<rows.length) (s:St):ixsA w s v (.int .i64 i)=.val (.ptr b (i * w)) s:=by
 obtain ⟨e,sz,h1,h2,h3,h4⟩:=r.is
 subst h1
 rw [ixs_slice _ _ _ _ _ _ _ _ hi,Nat.zero_add]
theorem Blk.cut {h:Heap} {n b w tg:Nat} {rows:List (List AV)} {v:AV} (r:Blk h n b w tg rows v) {i:Nat} (hi:i<rows.length):Abs.cut (i * w) w rows.flatten=some rows[i]:=flatten_cut r.wide hi
theorem Blk.at_ {h:Heap} {n b w tg:Nat} {rows:List (List AV)} {v:AV} (r:Blk h n b w tg rows v):RowsAt h n w rows v :=
 ⟨r.len,fun i hi=>by
  obtain ⟨sz,hg⟩:=r.get
  exact ⟨b,i * w,_,sz,r.lt,fun s=>r.ixs hi s,hg,r.cut hi⟩⟩
theorem endO_ok {M:Env} {l:List (Nat × Nat)} (s:St) (h:endOk M l=true):endO l (.ok M s)=.ok M s:=by
 show (match endOk M l with | true=>ORes.ok M s | false=>.fail)=_
 rw [h]
theorem endOk_nil (M:Env):endOk M []=true:=rfl
theorem apart_slice {b c o n k p:Nat} {e:Bool} (h:b≠c):apartA (.slice b o n k e) (.ptr c p)=true:=by
 unfold apartA
 simp [blockOf,nbeq_f h]
theorem Blk.apart {h:Heap} {n b w tg c o:Nat} {rows:List (List AV)} {v:AV} (r:Blk h n b w tg rows v) (hc:b≠c):apartA v (.ptr c o)=true:=by
 obtain ⟨e,sz,h1,h2,h3,h4⟩:=r.is
 subst h1;exact apart_slice hc
end Go.Abs
set_option maxRecDepth 10000
namespace Go.Abs
structure IsAt (h:Heap) (n b w tg:Nat) (rows:List (List AV)) (v:AV):Prop where
 wide:∀ r ∈ rows,r.length=w
 is:(rows=[]∧v=.nilslice)∨(rows≠[]∧b<n∧v=.slice b 0 rows.length rows.length true∧h.get b=some (.cells rows.flatten (w+tg)))
theorem IsAt.nil (h:Heap) (n b w tg:Nat):IsAt h n b w tg [] .nilslice:=⟨fun _ hr=>(by cases hr),.inl ⟨rfl,rfl⟩⟩
theorem IsAt.mono {h h':Heap} {n n' b w tg:Nat} {rows:List (List AV)} {v:AV} (r:IsAt h n b w tg rows v) (hh:b<n→h'.get b=h.get b) (hn:n≤n'):IsAt h' n' b w tg rows v :=
 ⟨r.wide,r.is.imp id fun ⟨h1,h2,h3,h4⟩=>⟨h1,by omega,h3,by rw [hh h2];exact h4⟩⟩
theorem IsAt.rows {h:Heap} {n b w tg:Nat} {rows:List (List AV)} {v:AV} (r:IsAt h n b w tg rows v):Rows h 0 n w tg rows v :=
 ⟨r.wide,r.is.imp id fun ⟨_,h2,h3,h4⟩=>⟨b,Nat.zero_le _,h2,h3,h4⟩⟩
theorem IsAt.okA {h:Heap} {n b w tg:Nat} {rows:List (List AV)} {v:AV} (r:IsAt h n b w tg rows v) (t:St):Abs.okA (.val v t)=.val v t:=okA_ne r.rows.at_.ne
theorem IsAt.scal {h:Heap} {n b w tg:Nat} {rows:List (List AV)} {v:AV} (r:IsAt h n b w tg rows v):scalars [v]=true∧cellsOf 1 v=some [v]:=by
 rcases r.is with ⟨_,h2⟩ | ⟨_,_,h3,_⟩
 ·subst h2;exact ⟨rfl,rfl⟩
 ·subst h3;exact ⟨rfl,rfl⟩
theorem append_at {s:St} {b w bytes tg:Nat} {rows:List (List AV)} {v:AV} (r:IsAt s.h s.n b w tg rows v) {p sz:Nat} {row:List AV} (hp:s.h.get p=some (.cells row sz)) (hw:row.length=w) (hsc:scalars row=true)
  (hb:(rows.length+1) * bytes≤1000000) (htg:szOf (w+tg)=w) (hs:s.n<549755813888) :
  ∃ s',appendA false w bytes tg s v (.slice p 0 1 1 false)=.val (.slice s.n 0 (rows.length+1) (rows.length+1) true) s'∧IsAt s'.h s'.n s.n w tg (rows++[row]) (.slice s.n 0 (rows.length+1) (rows.length+1) true)∧s'.n=s.n+1∧(∀ c,c<s.n→c≠b→s'.h.get c=s.h.get c)∧(∀ k,k≤b→k≤s.n→k≤s.m→k≤s'.m)∧s'.m≤s.m:=by
 rcases r.is with ⟨h1,h2⟩ | ⟨h1,h2,h3,h4⟩
 ·obtain ⟨v',s',e1,e2,e3,e4,e5,e6,e7,e8⟩:=append_row (lo:=s.n) (bytes:=bytes) (⟨r.wide,.inl ⟨h1,h2⟩⟩:Rows s.h s.n s.n w tg rows v) hp hw hsc hb htg hs (Nat.le_refl _)
  subst e8
  refine ⟨s',e1,⟨e2.wide,.inr ⟨by simp,by omega,by simp,?_⟩⟩,e3,fun c hc _=>e4 c hc,fun k _ hk hm=>e6 k hk hm,e7⟩
  rcases e2.is with ⟨z,_⟩ | ⟨b',_,_,z2,z3⟩
  ·simp at z
  ·injection z2 with z2
   rw [z2];exact z3
 ·obtain ⟨v',s',e1,e2,e3,e4,e5,e6,e7,e8⟩:=append_row (lo:=b) (bytes:=bytes) (⟨r.wide,.inr ⟨b,Nat.le_refl _,h2,h3,h4⟩⟩:Rows s.h b s.n w tg rows v) hp hw hsc hb htg hs (by omega)
  subst e8
  refine ⟨s',e1,⟨e2.wide,.inr ⟨by simp,by omega,by simp,?_⟩⟩,e3,fun c hc hcb=>e5 c hc (by rw [h3];intro z;injection z with z;exact hcb z.symm),fun k hk _ hm=>e6 k hk hm,e7⟩
  rcases e2.is with ⟨z,_⟩ | ⟨b',_,_,z2,z3⟩
  ·simp at z
  ·injection z2 with z2
   rw [z2];exact z3
theorem kSlice_def (f:Option AV→Option AV→St→AV→ARes) (x:Arg) (lo hi:Option Arg) (L:Env) (s:St):kSlice f x lo hi L s=f (optEv lo L) (optEv hi L) s (x.ev L):=rfl
theorem optEv_some (a:Arg) (L:Env):optEv (some a) L=some (a.ev L):=rfl
theorem optEv_none (L:Env):optEv none L=none:=rfl
theorem boundA_nat (y i:Nat) (k:IntKind) (h:i≤y):boundA y (.int k (i:Int))=some i:=by
 show (match Nat.ble i y with | true=>some i | false=>none)=_
 rw [Nat.ble_eq_true_of_le h]
theorem slice_to (w:Nat) (s:St) (b o n c i:Nat) (e:Bool) (h:n≤c) (hi:i≤c) (hc:0<c):sliceVal w none (some (.int .i64 (i:Int))) s (.slice b o n c e)=.val (.slice b o i c e) s:=by
 have e1:boundsA n c none (some (.int .i64 (i:Int)))=some (0,i):=by
  unfold boundsA hiA loA
  simp only [boundA_nat _ _ _ hi]
 have e2:Nat.beq c 0=false:=nbeq_f (by omega)
 unfold sliceVal
 simp only [Nat.ble_eq_true_of_le h,e1,e2,Nat.zero_mul,Nat.add_zero,Nat.sub_zero]
theorem nth_skip:∀ (a l:List AV) (k:Nat),nth (a++l) (a.length+k)=nth l k
 | [],l,k=>by rw [List.length_nil,Nat.zero_add,List.nil_append]
 | x::a,l,k=>by rw [List.length_cons,List.cons_append,show a.length+1+k=(a.length+k)+1 by omega,nth_cons,if_neg (by omega)];exact nth_skip a l k
end Go.Abs
namespace Go.Proofs.Ytamlnddeiokbdaa.walk
open Go.Abs
def intRows (l:List Int):List (List AV):=l.map fun x=>[.int .i64 x]
def LAt (h:Heap) (n bl:Nat) (l:List Int) (v:AV):Prop:=∃ x,x≠bl∧IsAt h n x 1 (tag 3) (intRows l) v
theorem LAt.nil (h:Heap) (n bl:Nat):LAt h n bl [] .nilslice:=⟨bl+1,by omega,IsAt.nil _ _ _ _ _⟩
theorem LAt.move {h h':Heap} {n n' bl bl':Nat} {l:List Int} {v:AV} (a:LAt h n bl l v) (hh:∀ c,c<n→c≠bl→h'.get c=h.get c) (hn:n≤n') (hb:bl'=bl∨n≤bl'):LAt h' n' bl' l v:=by
 obtain ⟨x,h1,h2⟩:=a
 rcases h2.is with ⟨h3,h4⟩ | ⟨_,h3,_⟩
 ·exact ⟨bl'+1,by omega,h2.wide,.inl ⟨h3,h4⟩⟩
 ·exact ⟨x,by omega,h2.mono (fun _=>hh x h3 h1) hn⟩
theorem LAt.rows {h:Heap} {n bl:Nat} {l:List Int} {v:AV} (a:LAt h n bl l v):RowsAt h n 1 (intRows l) v:=by obtain ⟨x,_,h⟩:=a;exact h.rows.at_
end Go.Proofs.Ytamlnddeiokbdaa.walk
set_option maxRecDepth 10000
namespace Go.Proofs.Ytamlnddeiokbdaa.walk
open Go.Abs Go.Proofs.Ytamlnddeiokbdaa.code
theorem unless_ok (N:Nat) (hN:1≤N) (e:Int) (s:St) (hs:s.n≤far):call Try.prog X N (.fn 72) [.bool true,.int .i64 e] s=.val (.int .i64 0) s:=by
 obtain ⟨n,rfl⟩:∃ n,N=n+1:=⟨N - 1,by omega⟩
 refine call_plain (s':=⟨s.h,s.n,far⟩) Try.func72 ?_ rfl hs
 rw [enter72]
 simp only [res72,K72r0,K72r1,K72r2,K72r3,K72,Abs.W,reduceIte,Nat.reduceEqDiff,Nat.reduceAdd,decide_true,decide_false,kLoop_def,Nat.reduceSub,List.cons_append,List.nil_append,List.append_nil,List.length_cons,List.length_nil]
theorem step_wide (l:List Step):∀ r ∈ l.map Step.cells,r.length=2:=by
 intro r hr
 obtain ⟨f,_,rfl⟩:=List.mem_map.mp hr
 rfl
theorem step_cut {l:List Step} {i:Nat} (hi:i<l.length):cut (i * 2) 2 (l.map Step.cells).flatten=some [.int .i64 (stepAt l i).fr,.int .i64 (stepAt l i).sh]:=by
 rw [flatten_cut (step_wide l) (by simpa using hi),List.getElem_map]
 unfold stepAt
 simp only [List.getD,List.getElem?_eq_getElem hi,Option.getD_some]
 rfl
theorem step_nth {l:List Step} {i:Nat} (hi:i<l.length):nth (l.map Step.cells).flatten (i * 2)=.int .i64 (stepAt l i).fr:=by
 obtain ⟨a,t,z1,z2,z3⟩:=cut_some (step_cut hi)
 rw [z1,← z2,List.append_assoc,← Nat.add_zero a.length,nth_skip]
 rfl
theorem checkFrom_ok {N i b sz:Nat} {l:List Step} {s:St} (hN:2≤N) (ok:StepsOk l) (hi:i<l.length) (hb:s.h.get b=some (.cells (l.map Step.cells).flatten sz)) (hs:s.n+100≤far) :
  call Try.prog X N (.fn 59) [.int .i64 (stepAt l i).fr,.slice b 0 i l.length true] s=.val (.int .i64 0) s:=by
 obtain ⟨n,rfl⟩:∃ n,N=n+1:=⟨N - 1,by omega⟩
 have hf:far=1000000000:=rfl
 refine call_plain' Try.func59 (fun u uh un um=>?_) rfl
 rw [← uh] at hb
 rw [enter59]
 by_cases h0:i=0
 ·subst h0
  have f0:=ok.f0
  have e0:decide (((0:Nat):Int)=0)=true:=rfl
  have e1:decide ((0:Int)=0)=true:=rfl
  rw [f0]
  simp (disch:=first|omega|(with_unfolding_all exact rfl)|(simp only[new_n,put_n,new_m];omega)|(refine put_m_le ?_;simp only[new_m];omega)) only [res59,K59r0,K59r1,K59r2,K59r3,K59,Abs.W,reduceIte,Nat.reduceEqDiff,Nat.reduceAdd,decide_true,decide_false,kLoop_def,Nat.reduceSub,List.cons_append,List.nil_append,List.append_nil,List.length_cons,List.length_nil,Env.find_set,e0,e1,unless_ok]
  exact ⟨_,rfl,by omega⟩
 ·obtain ⟨j,rfl⟩:∃ j,i=j+1:=⟨i - 1,by omega⟩
  have e0:decide (((j+1:Nat):Int)=0)=false:=decide_eq_false (by omega)
  have sb:∀ s,aSub s .i64 ((j+1:Nat):Int) 1=.val (.int .i64 (j:Int)) s:=fun s=>by rw [aSub_i64 s _ _ (by have:=ok.n1;omega)];congr 2;omega
  have ix:∀ s,ixsA 2 s (.slice b 0 (j+1) l.length true) (.int .i64 (j:Int))=.val (.ptr b (j * 2)) s:=fun s=>by rw [ixs_slice _ _ _ _ _ _ _ _ (by omega),Nat.zero_add]
  have nt:=step_nth (l:=l) (i:=j) (by omega)
  have up:=ok.up j hi
  have e1:decide ((stepAt l (j+1)).fr > (stepAt l j).fr)=true:=decide_eq_true up
  have e2:decide ((stepAt l j).fr<(stepAt l (j+1)).fr)=true:=decide_eq_true up
  simp (disch:=first|omega|(with_unfolding_all exact rfl)|(simp only[new_n,put_n,new_m];omega)|(refine put_m_le ?_;simp only[new_m];omega)) only [res59,K59r0,K59r1,K59r2,K59r3,K59,Abs.W,reduceIte,Nat.reduceEqDiff,Nat.reduceAdd,decide_true,decide_false,kLoop_def,Nat.reduceSub,List.cons_append,List.nil_append,List.append_nil,List.length_cons,List.length_nil,Env.find_set,e0,e1,e2,sb,ix,nt,hb,unless_ok,Nat.add_zero]
  exact ⟨_,rfl,by omega⟩
theorem checkSteps_ok {N b sz:Nat} {l:List Step} {s:St} (hN:3≤N) (ok:StepsOk l) (hl:l.length≤5) (hbn:b<s.n) (hb:s.h.get b=some (.cells (l.map Step.cells).flatten sz)) (hs:s.n+1000≤far) :
  call Try.prog X N (.fn 37) [.slice b 0 l.length l.length true] s=.val (.int .i64 0) s:=by
 obtain ⟨n,rfl⟩:∃ n,N=n+1:=⟨N - 1,by omega⟩
 have hf:far=1000000000:=rfl
 refine call_plain' Try.func37 (fun u uh un um=>?_) rfl
 rw [← uh] at hb
 rw [← un] at hbn hs
 have n0:=ok.n0
 have z0:decide ((0:Int)=0)=true:=rfl
 rw [enter37]
 simp (disch:=first|omega|(with_unfolding_all exact rfl)|(simp only[new_n,put_n,new_m];omega)|(refine put_m_le ?_;simp only[new_m];omega)) only [res37,K37r0,K37r1,K37r2,K37r3,K37r4,K37r5,K37r6,K37r7,K37r8,K37r9,K37r10,K37r11,K37,Abs.W,reduceIte,Nat.reduceEqDiff,Nat.reduceAdd,decide_true,decide_false,kLoop_def,Nat.reduceSub,List.cons_append,List.nil_append,List.append_nil,List.length_cons,List.length_nil,Env.find_set,counted_ok,z0]
 generalize hl1:loopN _ rounds _ _ _ _ _=q1
 obtain ⟨e,L1,s1,rfl,rfl,hE⟩:=loop_of hl1
  (fun i L' t=>L'.find 0=.slice b 0 l.length l.length true∧L'.find 13=.slice b 0 l.length l.length true∧L'.find 14=.int .i64 l.length∧L'.find 15=.int .i64 i∧Beside u t (2 * i))
  (fun e L1 s1=>e=.exit 0∧Beside u s1 (2 * l.length))
  l.length (by unfold rounds;omega) ⟨by simp only [find_cons,Env.find_set,reduceIte,Nat.reduceEqDiff],by simp only [find_cons,Env.find_set,reduceIte,Nat.reduceEqDiff],by simp only [find_cons,Env.find_set,reduceIte,Nat.reduceEqDiff],by simp only [find_cons,Env.find_set,reduceIte,Nat.reduceEqDiff];rfl,Beside.refl u (by omega) um⟩
  (fun i L' t hi ⟨q0,q13,q14,q15,hE⟩=>by
   have tn:=hE.n
   have tl:=hE.le
   have tm:=hE.m
   have tf:=hE.far
   by_cases hlt:i<l.length
   ·have e0:decide ((i:Int)<(l.length:Int))=true:=decide_eq_true (by omega)
    have tb:=(hE.same b hbn).trans hb
    have ix:∀ s,ixsA 2 s (.slice b 0 l.length l.length true) (.int .i64 (i:Int))=.val (.ptr b (i * 2)) s:=fun s=>by rw [ixs_slice _ _ _ _ _ _ _ _ hlt,Nat.zero_add]
    have ct:=step_cut hlt
    have f1:=ok.f1 i hlt
    have s0:=ok.s0 i hlt
    have s1:=ok.s1 i hlt
    have sl:=fun s=>slice_to 2 s b 0 l.length l.length i true (Nat.le_refl _) (by omega) (by omega)
    have cf:∀ s:St,s.h.get b=some (.cells (l.map Step.cells).flatten sz)→s.n+100≤far→call Try.prog X n (.fn 59) [.int .i64 (stepAt l i).fr,.slice b 0 i l.length true] s=.val (.int .i64 0) s:=fun s h1 h2=>checkFrom_ok (by omega) ok hlt h1 h2
    have ad:∀ s,aAdd s .i64 (i:Int) 1=.val (.int .i64 ((i:Int)+1)) s:=fun s=>aAdd_i64 s _ _ (by omega)
    obtain ⟨x,hx⟩:∃ x:St,x=(t.new (.cells [.int .i64 0,.int .i64 0] (tag 75))).put t.n (.cells [.int .i64 (stepAt l i).fr,.int .i64 (stepAt l i).sh] (tag 75)):=⟨_,rfl⟩
    have xn:x.n=t.n+1:=by rw [hx];rfl
    have xg:∀ c,c<t.n→x.h.get c=t.h.get c:=fun c hc=>by rw [hx,get_put_ne' _ _ _ _ (by omega),get_new_ne _ _ _ (by omega)]
    have xt:x.h.get t.n=some (.cells [.int .i64 (stepAt l i).fr,.int .i64 (stepAt l i).sh] (tag 75)):=by rw [hx];exact get_put_eq _ _ _ _ rfl (by omega)
    have xm:u.n≤x.m∧x.m≤far:=by rw [hx];simp only [St.put,minN_eq,new_m];omega
    have hX:Beside u x (2 * i+1):=by rw [hx];exact (hE.new _).put _ tn
    have xb:=(xg b (by omega)).trans tb
    refine .inl ⟨hlt,_,_,by
     simp (disch:=first|omega|(with_unfolding_all exact rfl)|(simp only[new_n,put_n,new_m];omega)|(refine put_m_le ?_;simp only[new_m];omega)) only [K37l0,K37r5,K37r6,Abs.W,reduceIte,Nat.reduceEqDiff,Nat.reduceAdd,decide_true,decide_false,kLoop_def,Nat.reduceSub,List.cons_append,List.nil_append,List.append_nil,List.length_cons,List.length_nil,Env.find_set,q0,q13,q14,q15,e0,ix,ct,tb,Nat.zero_add]
     rw [← hx]
     simp (disch:=first|omega|(with_unfolding_all exact rfl)|(simp only[new_n,put_n,new_m];omega)|(refine put_m_le ?_;simp only[new_m];omega)) only [res37,K37r0,K37r1,K37r2,K37r3,K37r4,K37r5,K37r6,K37r7,K37r8,K37r9,K37r10,K37r11,K37,Abs.W,reduceIte,Nat.reduceEqDiff,Nat.reduceAdd,decide_true,decide_false,kLoop_def,Nat.reduceSub,List.cons_append,List.nil_append,List.append_nil,List.length_cons,List.length_nil,Env.find_set,q0,q13,q14,q15,xt,xb,kSlice_def,optEv_some,optEv_none,sl,within_ok,cf,or_new3,z0,ad,endO_nil,Nat.zero_add]
     rfl,?_,?_,?_,?_,?_⟩
    ·simp only [Env.find_set,q0,reduceIte,Nat.reduceEqDiff]
    ·simp only [Env.find_set,q13,reduceIte,Nat.reduceEqDiff]
    ·simp only [Env.find_set,q14,reduceIte,Nat.reduceEqDiff]
    ·simp only [Env.find_set,reduceIte,Nat.reduceEqDiff];rfl
    ·exact (hX.new _).mono (by omega)
   ·obtain rfl:i=l.length:=by omega
    have e0:decide ((l.length:Int)<(l.length:Int))=false:=by simp
    refine .inr ⟨.exit 0,L'.set 16 (.bool false),t,by simp,?_,rfl,hE⟩
    simp (disch:=first|omega|(with_unfolding_all exact rfl)|(simp only[new_n,put_n,new_m];omega)|(refine put_m_le ?_;simp only[new_m];omega)) only [K37l0,K37r5,Abs.W,reduceIte,Nat.reduceEqDiff,Nat.reduceAdd,decide_true,decide_false,kLoop_def,Nat.reduceSub,List.cons_append,List.nil_append,List.append_nil,List.length_cons,List.length_nil,Env.find_set,q14,q15,e0])
 simp (disch:=first|omega|(with_unfolding_all exact rfl)|(simp only[new_n,put_n,new_m];omega)|(refine put_m_le ?_;simp only[new_m];omega)) only [res37,K37r0,K37r1,K37r2,K37r3,K37r4,K37r5,K37r6,K37r7,K37r8,K37r9,K37r10,K37r11,K37,Abs.W,reduceIte,Nat.reduceEqDiff,Nat.reduceAdd,decide_true,decide_false,kLoop_def,Nat.reduceSub,List.cons_append,List.nil_append,List.append_nil,List.length_cons,List.length_nil,Env.find_set]
 refine ⟨s1,rfl,?_⟩
 have:=hE.m
 omega
theorem due_ok {N b sz:Nat} {l:List Step} {x:Int} {s:St} (hN:1≤N) (ok:StepsOk l) (hx:0≤x∧x≤1000000000) (hbn:b<s.n) (hb:s.h.get b=some (.cells (l.map Step.cells).flatten sz)) (hs:s.n+1000≤far) :
  call Try.prog X N (.fn 40) [.int .i64 x,.slice b 0 l.length l.length true] s=.val (.int .i64 (dueI l x)) s:=by
 obtain ⟨n,rfl⟩:∃ n,N=n+1:=⟨N - 1,by omega⟩
 have hf:far=1000000000:=rfl
 refine call_plain' Try.func40 (fun u uh un um=>?_) rfl
 rw [← uh] at hb
 rw [← un] at hbn hs
 have n0:=ok.n0
 have n1:=ok.n1
 rw [enter40]
 simp (disch:=first|omega|(with_unfolding_all exact rfl)|(simp only[new_n,put_n,new_m];omega)|(refine put_m_le ?_;simp only[new_m];omega)) only [res40,K40r0,K40r1,K40r2,K40r3,K40r4,K40r5,K40r6,K40r7,K40r8,K40r9,K40r10,K40,Abs.W,reduceIte,Nat.reduceEqDiff,Nat.reduceAdd,decide_true,decide_false,kLoop_def,Nat.reduceSub,List.cons_append,List.nil_append,List.append_nil,List.length_cons,List.length_nil,Env.find_set]
 generalize hl1:loopN _ rounds _ _ _ _ _=q1
 obtain ⟨e,L1,s1,rfl,rfl,hq,hE⟩:=loop_of hl1
  (fun i L' t=>L'.find 0=.int .i64 x∧L'.find 1=.slice b 0 l.length l.length true∧L'.find 5=.int .i64 (shareTo l x i)∧L'.find 9=.slice b 0 l.length l.length true∧L'.find 10=.int .i64 l.length∧L'.find 11=.int .i64 i∧Beside u t (1 * i))
  (fun e L1 s1=>e=.exit 0∧L1.find 5=.int .i64 (shareTo l x l.length)∧Beside u s1 (1 * l.length))
  l.length (by unfold rounds;omega) ⟨by simp only [find_cons,Env.find_set,reduceIte,Nat.reduceEqDiff],by simp only [find_cons,Env.find_set,reduceIte,Nat.reduceEqDiff],by simp only [find_cons,Env.find_set,reduceIte,Nat.reduceEqDiff];rfl,by simp only [find_cons,Env.find_set,reduceIte,Nat.reduceEqDiff],by simp only [find_cons,Env.find_set,reduceIte,Nat.reduceEqDiff],by simp only [find_cons,Env.find_set,reduceIte,Nat.reduceEqDiff];rfl,Beside.refl u (by omega) um⟩
  (fun i L' t hi ⟨q0,q1,q5,q9,q10,q11,hE⟩=>by
   have tn:=hE.n
   have tl:=hE.le
   have tm:=hE.m
   have tf:=hE.far
   by_cases hlt:i<l.length
   ·have e0:decide ((i:Int)<(l.length:Int))=true:=decide_eq_true (by omega)
    have tb:=(hE.same b hbn).trans hb
    have ix:∀ s,ixsA 2 s (.slice b 0 l.length l.length true) (.int .i64 (i:Int))=.val (.ptr b (i * 2)) s:=fun s=>by rw [ixs_slice _ _ _ _ _ _ _ _ hlt,Nat.zero_add]
    have ct:=step_cut hlt
    have f1:=ok.f1 i hlt
    have s0:=ok.s0 i hlt
    have s1:=ok.s1 i hlt
    have ad:∀ s,aAdd s .i64 (i:Int) 1=.val (.int .i64 ((i+1:Nat):Int)) s:=fun s=>by rw [aAdd_i64 s _ _ (by omega)];rfl
    obtain ⟨y,hy⟩:∃ y:St,y=(t.new (.cells [.int .i64 0,.int .i64 0] (tag 75))).put t.n (.cells [.int .i64 (stepAt l i).fr,.int .i64 (stepAt l i).sh] (tag 75)):=⟨_,rfl⟩
    have yn:y.n=t.n+1:=by rw [hy];rfl
    have yg:∀ c,c<t.n→y.h.get c=t.h.get c:=fun c hc=>by rw [hy,get_put_ne' _ _ _ _ (by omega),get_new_ne _ _ _ (by omega)]
    have yt:y.h.get t.n=some (.cells [.int .i64 (stepAt l i).fr,.int .i64 (stepAt l i).sh] (tag 75)):=by rw [hy];exact get_put_eq _ _ _ _ rfl (by omega)
    have hY:Beside u y (1 * (i+1)):=by rw [hy];exact ((hE.new _).put _ tn).mono (by omega)
    have yb:=(yg b (by omega)).trans tb
    obtain ⟨r0,r1⟩:=share_range ok hx.1 i (by omega)
    obtain ⟨r2,r3⟩:=share_range ok hx.1 (i+1) (by omega)
    have hS:shareTo l x (i+1)=shareTo l x i+partI l x i:=rfl
    have up0:0≤upTo l x i∧upTo l x i≤x:=by
     unfold upTo
     by_cases h:i+1<l.length
     ·have:=ok.f1 (i+1) h
      rw [if_pos h];omega
     ·rw [if_neg h];omega
    have sb:∀ s,aSub s .i64 (upTo l x i) (stepAt l i).fr=.val (.int .i64 (upTo l x i - (stepAt l i).fr)) s:=fun s=>aSub_i64 s _ _ (by omega)
    have hP:partI l x i=max 0 (upTo l x i - (stepAt l i).fr) * (stepAt l i).sh:=rfl
    have mu:∀ s,aMul s .i64 (max 0 (upTo l x i - (stepAt l i).fr)) (stepAt l i).sh=.val (.int .i64 (partI l x i)) s:=fun s=>by
     rw [aMul_def,wrapA_eq]
     congr 2
     exact IntWalk.i64_in _ (by show -9223372036854775808≤partI l x i∧partI l x i≤9223372036854775807;omega)
    have ad2:∀ s,aAdd s .i64 (shareTo l x i) (partI l x i)=.val (.int .i64 (shareTo l x (i+1))) s:=fun s=>aAdd_i64 s _ _ (by omega)
    suffices hgo:∃ L1,K40l0 (call Try.prog X n) ⟨40,none,Try.f40.ntmps,X 40⟩ L' [] t=.done .norm L1 [] y∧(L1.find 0=.int .i64 x∧L1.find 1=.slice b 0 l.length l.length true∧L1.find 5=.int .i64 (shareTo l x (i+1))∧L1.find 9=.slice b 0 l.length l.length true∧L1.find 10=.int .i64 l.length∧L1.find 11=.int .i64 ((i+1:Nat):Int)) from by
     obtain ⟨L9,z1,z2,z3,z4,z5,z6,z7⟩:=hgo
     exact .inl ⟨hlt,L9,y,z1,z2,z3,z4,z5,z6,z7,hY⟩
    simp (disch:=first|omega|(with_unfolding_all exact rfl)|(simp only[new_n,put_n,new_m];omega)|(refine put_m_le ?_;simp only[new_m];omega)) only [K40l0,K40r3,K40r4,K40r5,Abs.W,reduceIte,Nat.reduceEqDiff,Nat.reduceAdd,decide_true,decide_false,kLoop_def,Nat.reduceSub,List.cons_append,List.nil_append,List.append_nil,List.length_cons,List.length_nil,Env.find_set,q0,q1,q5,q9,q10,q11,e0,ix,ct,tb,Nat.zero_add]
    rw [← hy]
    by_cases h:i+1<l.length
    ·have e1:decide (((i+1:Nat):Int)<(l.length:Int))=true:=decide_eq_true (by omega)
     have hU:min x (stepAt l (i+1)).fr=upTo l x i:=by unfold upTo;rw [if_pos h]
     have ix1:∀ s,ixsA 2 s (.slice b 0 l.length l.length true) (.int .i64 ((i+1:Nat):Int))=.val (.ptr b ((i+1) * 2)) s:=fun s=>by rw [ixs_slice _ _ _ _ _ _ _ _ h,Nat.zero_add]
     have nt:=step_nth (l:=l) (i:=i+1) h
     simp (disch:=first|omega|(with_unfolding_all exact rfl)|(simp only[new_n,put_n,new_m];omega)|(refine put_m_le ?_;simp only[new_m];omega)) only [res40,K40r0,K40r1,K40r2,K40r3,K40r4,K40r5,K40r6,K40r7,K40r8,K40r9,K40r10,K40,Abs.W,reduceIte,Nat.reduceEqDiff,Nat.reduceAdd,decide_true,decide_false,kLoop_def,Nat.reduceSub,List.cons_append,List.nil_append,List.append_nil,List.length_cons,List.length_nil,Env.find_set,q0,q1,q5,q9,q10,q11,yt,yb,e1,ad,ix1,nt,kFold_def,foldA_nil,foldA_cons,minA_i64,maxA_i64,hU,sb,mu,ad2,Nat.zero_add,Nat.add_zero]
     refine ⟨_,rfl,?_,?_,?_,?_,?_,?_⟩<;>simp only [Env.find_set,q0,q1,q9,q10,reduceIte,Nat.reduceEqDiff]
    ·have e1:decide (((i+1:Nat):Int)<(l.length:Int))=false:=decide_eq_false (by omega)
     have hU:x=upTo l x i:=by unfold upTo;rw [if_neg h]
     have sb:∀ s,aSub s .i64 x (stepAt l i).fr=.val (.int .i64 (upTo l x i - (stepAt l i).fr)) s:=fun s=>by have:=sb s;rw [← hU] at this ⊢;exact this
     simp (disch:=first|omega|(with_unfolding_all exact rfl)|(simp only[new_n,put_n,new_m];omega)|(refine put_m_le ?_;simp only[new_m];omega)) only [res40,K40r0,K40r1,K40r2,K40r3,K40r4,K40r5,K40r6,K40r7,K40r8,K40r9,K40r10,K40,Abs.W,reduceIte,Nat.reduceEqDiff,Nat.reduceAdd,decide_true,decide_false,kLoop_def,Nat.reduceSub,List.cons_append,List.nil_append,List.append_nil,List.length_cons,List.length_nil,Env.find_set,q0,q1,q5,q9,q10,q11,yt,yb,e1,ad,kFold_def,foldA_nil,foldA_cons,minA_i64,maxA_i64,sb,mu,ad2,Nat.zero_add]
     refine ⟨_,rfl,?_,?_,?_,?_,?_,?_⟩<;>simp only [Env.find_set,q0,q1,q9,q10,reduceIte,Nat.reduceEqDiff]
   ·obtain rfl:i=l.length:=by omega
    have e0:decide ((l.length:Int)<(l.length:Int))=false:=by simp
    refine .inr ⟨.exit 0,L'.set 12 (.bool false),t,by simp,?_,rfl,by simp only [Env.find_set,q5,reduceIte,Nat.reduceEqDiff],hE⟩
    simp (disch:=first|omega|(with_unfolding_all exact rfl)|(simp only[new_n,put_n,new_m];omega)|(refine put_m_le ?_;simp only[new_m];omega)) only [K40l0,K40r3,Abs.W,reduceIte,Nat.reduceEqDiff,Nat.reduceAdd,decide_true,decide_false,kLoop_def,Nat.reduceSub,List.cons_append,List.nil_append,List.append_nil,List.length_cons,List.length_nil,Env.find_set,q10,q11,e0])
 obtain ⟨r0,r1⟩:=share_range ok hx.1 l.length (Nat.le_refl _)
 have qu:∀ s,aQuo s .i64 (shareTo l x l.length) 1000=.val (.int .i64 (dueI l x)) s:=fun s=>by
  rw [aQuo_ne _ _ _ _ (by decide),wrapA_eq,Int.tdiv_eq_ediv_of_nonneg r0]
  congr 2
  exact IntWalk.i64_in _ (by show -9223372036854775808≤shareTo l x l.length / 1000∧shareTo l x l.length / 1000≤9223372036854775807;omega)
 simp (disch:=first|omega|(with_unfolding_all exact rfl)|(simp only[new_n,put_n,new_m];omega)|(refine put_m_le ?_;simp only[new_m];omega)) only [res40,K40r0,K40r1,K40r2,K40r3,K40r4,K40r5,K40r6,K40r7,K40r8,K40r9,K40r10,K40,Abs.W,reduceIte,Nat.reduceEqDiff,Nat.reduceAdd,decide_true,decide_false,kLoop_def,Nat.reduceSub,List.cons_append,List.nil_append,List.append_nil,List.length_cons,List.length_nil,Env.find_set,hq,qu]
 refine ⟨s1,rfl,?_⟩
 have:=hE.m
 omega
end Go.Proofs.Ytamlnddeiokbdaa.walk
set_option maxRecDepth 10000
namespace Go.Proofs.Ytamlnddeiokbdaa.walk
open Go.Abs Go.Proofs.Ytamlnddeiokbdaa.code
theorem leave_ct {P:Program} (a:Nat) (t:TypeId) (b:Nat) (L:Env) (s:St) {sh:Option Nat} (hs:shapeT P t=some sh) {v:AV} (h:okA (loadA sh s (L.find a))=.val v s):leaveA P [.cell a t,.tmp b] L [] s=.val (.tup [v,L.find b]) s:=by
 unfold leaveA
 simp only [takeDfs,resultsA,hs,h]
 rfl
theorem boxIntE (sz:Nat) (s:St) (k:IntKind) (x:Int):boxA sz s (.int k x)=.val (.ptr s.n 0) (s.new (.cells [.int k x] sz)):=Eq.trans (Eq.refl _) (Eq.refl _)
def spanOf (l:List Sale) (st:Int):List AV:=[.int .i64 (turnOf false l st),.int .i64 (turnOf true l st)]
theorem Turnover_ok {N st:Nat} {b:Book} {v:AV} {s:St} (hN:8≤N) (ok:b.Ok) (hst:st<b.stalls) (hB:RowsAt s.h s.n 6 (b.sales.map Sale.cells) v) (hs:s.n+8000≤far) :
  call Try.prog X N (.fn 17) [.agg (bookV b v),.int .i64 (st:Int)] s=.val (.tup [.agg (spanOf b.sales st),.int .i64 0]) s:=by
 obtain ⟨n,rfl⟩:∃ n,N=n+1:=⟨N - 1,by omega⟩
 have hf:far=1000000000:=rfl
 have sh2:shapeT Try.prog 38=some (some 2):=by kernel_rfl
 refine call_plain' Try.func17 (fun u uh un um=>?_) rfl
 rw [← uh,← un] at hB
 rw [← un] at hs
 have kv:∀ t,okA (.val v t)=.val v t:=fun t=>okA_ne hB.ne
 have scB:scalars (bookV b v)=true:=by
  have hv:v.scalar=true:=by
   have h:=hB.len u
   cases v<;>first | rfl | cases h
  show scalars [v]=true
  unfold scalars
  rw [hv]
  rfl
 obtain ⟨w,hw⟩:∃ w:St,w=((u.new (.cells (bookV b v) (tag 27))).new (.cells [.int .i64 (st:Int)] (tag 3))).new (.cells [.int .i64 0,.int .i64 0] (tag 38)):=⟨_,rfl⟩
 have wn:w.n=u.n+3:=by rw [hw];rfl
 have wm:w.m=far:=by rw [hw];exact um
 have wg:∀ c,c<u.n→w.h.get c=u.h.get c:=fun c hc=>by rw [hw,get_new_ne _ _ _ (by simp only [new_n];omega),get_new_ne _ _ _ (by simp only [new_n];omega),get_new_ne _ _ _ (by omega)]
 have w0:w.h.get u.n=some (.cells (bookV b v) (tag 27)):=by rw [hw,get_new_ne _ _ _ (by simp only [new_n];omega),get_new_ne _ _ _ (by simp only [new_n];omega)];exact get_new_eq _ _ _ rfl (by omega)
 have w1:w.h.get (u.n+1)=some (.cells [.int .i64 (st:Int)] (tag 3)):=by rw [hw,get_new_ne _ _ _ (by simp only [new_n];omega)];exact get_new_eq _ _ _ rfl (by simp only [new_n];omega)
 have w2:w.h.get (u.n+1+1)=some (.cells [.int .i64 0,.int .i64 0] (tag 38)):=by rw [hw];exact get_new_eq _ _ _ rfl (by simp only [new_n];omega)
 have hR:=hB.grow wg (by omega:u.n≤w.n)
 have hck:=fun m=>check_ok n (by omega) b ok v ⟨w.h,w.n,m⟩ hR (by show w.n+4000≤far;omega)
 have bt:∀ x:St,(∀ c,c<w.n→x.h.get c=w.h.get c)→w.n≤x.n→x.n≤w.n+10→call Try.prog X n (.fn 38) [.func 50 [] [.ptr u.n 0,.ptr (u.n+1) 0]] x=.val (.agg [.int .i64 (turnOf false b.sales st),.int .i64 (turnOf true b.sales st)]) x:=fun x hx h1 h2 =>
  between_ok _ _ (by omega) (fun e t ht h3 h4=>by
   have hxt:∀ c,c<w.n→t.h.get c=w.h.get c:=fun c hc=>(ht c (by omega)).trans (hx c hc)
   have:=found_ok (N:=n - 1) (p:=u.n) (q:=u.n+1) (st:=st) (s:=t) e (by omega) ok ((hxt u.n (by omega)).trans w0) ((hxt (u.n+1) (by omega)).trans w1) (by omega) (by omega) (hR.grow hxt (by omega)) (by omega)
   cases e<;>exact this) (by omega)
 have bw:=bt (w.new (.cells [.int .i64 0,.int .i64 0] 0)) (fun c hc=>get_new_ne _ _ _ (by omega)) (by simp only [new_n];omega) (by simp only [new_n];omega)
 unfold bookV at w0 hw scB hck
 rw [enter17]
 unfold bookV
 simp (disch:=first|omega|(with_unfolding_all exact rfl)|(simp only[new_n,put_n,new_m];omega)|(refine put_m_le ?_;simp only[new_m];omega)) only [K17,K17r0,Abs.W,reduceIte,Nat.reduceEqDiff,Nat.reduceAdd,decide_true,decide_false,kLoop_def,Nat.reduceSub,List.cons_append,List.nil_append,List.append_nil,List.length_cons,List.length_nil,boxIntE,scB,Nat.zero_add]
 rw [← hw]
 clear hw
 have z0:decide ((0:Int)=0)=true:=rfl
 simp (disch:=first|omega|(with_unfolding_all exact rfl)|(simp only[new_n,put_n,new_m];omega)|(refine put_m_le ?_;simp only[new_m];omega)) only [res17,K17r0,K17r1,K17r2,K17r3,K17r4,K17,Abs.W,reduceIte,Nat.reduceEqDiff,Nat.reduceAdd,decide_true,decide_false,kLoop_def,Nat.reduceSub,List.cons_append,List.nil_append,List.append_nil,List.length_cons,List.length_nil,Env.find_set,new_n,w0,w1,w2,kv,scB,hck,hck w.m,named_ok,or_new2,z0,kFuncE',okA_fnv,bw,endO_nil,Nat.zero_add]
 refine ⟨_,leave_ct _ _ _ _ _ sh2 ?_,?_⟩
 ·simp only [find_cons,reduceIte,Nat.reduceEqDiff]
  rw [load_ptr,get_put_eq _ _ _ _ rfl (by omega),loadO_cells,partS_some]
  rfl
 ·simp only [St.put,minN_eq,new_m];omega
end Go.Proofs.Ytamlnddeiokbdaa.walk
