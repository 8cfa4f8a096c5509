/- Slices of its own. -/
import Derived.Test.YtanecldpcceaoaaM5
import Derived.Test.YtanecldpcceaoaaCodes
import Derived.Test.YtanecldpcceaoaaM4
import Derived.Test.YtanecldpcceaoaaAbsPiece
import Derived.Test.YtanecldpcceaoaaWalkAll
set_option linter.unusedSimpArgs false
set_option maxHeartbeats 16000000
set_option linter.unusedVariables false
set_option maxRecDepth 10000
namespace Go.Abs
theorem endO_ok {M:Env} {l:List (Nat × Nat)} (s:St) (h:endOk M l=true):endO l (.ok M s)=.ok M s:=by
 show (match endOk M l with | true=>ORes.ok M s | false=>.fail)=_
 rw [h]
theorem endOk_nil (M:Env):endOk M []=true:=rfl
theorem endOk_cons {M:Env} {t u:Nat} {r:List (Nat × Nat)} (h:apartA (M.find t) (M.find u)=true):endOk M ((t,u)::r)=endOk M r:=by
 show (match apartA (M.find t) (M.find u) with | true=>endOk M r | false=>false)=_
 rw [h]
theorem apart_slice {b c o n k p:Nat} {e:Bool} (h:b≠c):apartA (.slice b o n k e) (.ptr c p)=true:=by
 unfold apartA
 simp [blockOf,nbeq_f h]
theorem Own.move {h h':Heap} {lo lo' n n' w tg:Nat} {rows:List (List AV)} {v:AV} (r:Own h lo n w tg rows v) (hh:∀ b,lo≤b→b<n→h'.get b=h.get b) (hl:lo'≤lo) (hn:n≤n'):Own h' lo' n' w tg rows v:=by
 refine ⟨r.wide,?_⟩
 rcases r.is with ⟨h1,h2 | ⟨b,h0,h3,h4,h5⟩⟩ | ⟨h1,b,h0,h3,h4,h5⟩
 ·exact .inl ⟨h1,.inl h2⟩
 ·exact .inl ⟨h1,.inr ⟨b,by omega,by omega,h4,by rw [hh b h0 h3];exact h5⟩⟩
 ·exact .inr ⟨h1,b,by omega,by omega,h4,by rw [hh b h0 h3];exact h5⟩
theorem Own.none {h h':Heap} {lo lo' n n' w tg:Nat} {rows:List (List AV)} {v:AV} (r:Own h lo n w tg rows v) (hp:plain v=true):Own h' lo' n' w tg rows v:=by
 rcases r.is with ⟨h1,h2 | ⟨b,_,_,h4,_⟩⟩ | ⟨_,b,_,_,h4,_⟩
 ·subst h1;subst h2;exact ⟨fun x hx=>(by cases hx),.inl ⟨rfl,.inl rfl⟩⟩
 ·subst h4;cases hp
 ·subst h4;cases hp
end Go.Abs
namespace Go.Proofs.Ytanecldpcceaoaa.walk
open Go.Abs Go.Proofs.Ytanecldpcceaoaa.code
theorem box_scalars (l:List Box):∀ r ∈ l.map Box.cells,scalars r=true:=by
 intro r hr
 obtain ⟨f,_,rfl⟩:=List.mem_map.mp hr
 rfl
theorem rate_scalars (l:List Rate):∀ r ∈ l.map Rate.cells,scalars r=true:=by
 intro r hr
 obtain ⟨f,_,rfl⟩:=List.mem_map.mp hr
 rfl
end Go.Proofs.Ytanecldpcceaoaa.walk
set_option maxRecDepth 10000
namespace Go.Abs
theorem nth_skip:∀ (a l:List AV) (k:Nat),nth (a++l) (a.length+k)=nth l k
 | [],l,k=>by rw [List.length_nil,Nat.zero_add,List.nil_append]
 | x::a,l,k=>by rw [List.length_cons,List.cons_append,show a.length+1+k=(a.length+k)+1 by omega,nth_cons,if_neg (by omega)];exact nth_skip a l k
theorem nth_front:∀ (R l:List AV) (k:Nat),k<R.length→nth (R++l) k=nth R k
 | [],l,k,h=>by simp at h
 | x::R,l,0,h=>rfl
 | x::R,l,k+1,h=>by rw [List.cons_append,nth_cons,nth_cons,if_neg (by omega),if_neg (by omega),Nat.add_sub_cancel];exact nth_front R l k (by simpa using h)
theorem over_one:∀ (R l:List AV) (k:Nat) (v:AV),k<R.length→over k [v] (R++l)=some (R.set k v++l)
 | [],l,k,v,h=>by simp at h
 | a::R,l,0,v,_=>by rw [List.cons_append,over_cons,if_pos rfl,over1_cons,over1_nil];rfl
 | a::R,l,k+1,v,h=>by rw [List.cons_append,over_cons,if_neg (by omega),Nat.add_sub_cancel,over_one R l k v (by simpa using h)];rfl
theorem set_parts {rows:List (List AV)} {w i:Nat} {R:List AV} (hw:∀ r ∈ rows,r.length=w) (hi:i<rows.length):∃ a l,(rows.set i R).flatten=a++(R++l)∧a.length=i * w∧∀ R',(rows.set i R').flatten=a++(R'++l):=by
 have e:∀ R',(rows.set i R').flatten=(rows.take i).flatten++(R'++(rows.drop (i+1)).flatten):=fun R'=>by
  rw [List.set_eq_take_append_cons_drop,if_pos hi,List.flatten_append,List.flatten_cons]
 exact ⟨_,_,e R,by rw [flatten_len (w:=w) (fun r hr=>hw r (List.mem_of_mem_take hr)),List.length_take,Nat.min_eq_left (by omega)],e⟩
theorem nth_cell {rows:List (List AV)} {w i:Nat} (hw:∀ r ∈ rows,r.length=w) (hi:i<rows.length) (R:List AV) (k:Nat) (hR:R.length=w) (hk:k<w):nth (rows.set i R).flatten (i * w+k)=nth R k:=by
 obtain ⟨a,l,h1,h2,_⟩:=set_parts (R:=R) hw hi
 rw [h1,← h2,nth_skip,nth_front _ _ _ (by omega)]
theorem over_cell {rows:List (List AV)} {w i:Nat} (hw:∀ r ∈ rows,r.length=w) (hi:i<rows.length) (R:List AV) (k:Nat) (v:AV) (hR:R.length=w) (hk:k<w):over (i * w+k) [v] (rows.set i R).flatten=some (rows.set i (R.set k v)).flatten:=by
 obtain ⟨a,l,h1,h2,h3⟩:=set_parts (R:=R) hw hi
 rw [h1,← h2,over_skip,over_one _ _ _ _ (by omega),h3]
 rfl
theorem nth_cell0 {rows:List (List AV)} {w i:Nat} (hw:∀ r ∈ rows,r.length=w) (hi:i<rows.length) (R:List AV) (hR:R.length=w) (hk:0<w):nth (rows.set i R).flatten (i * w)=nth R 0:=nth_cell hw hi R 0 hR hk
theorem over_cell0 {rows:List (List AV)} {w i:Nat} (hw:∀ r ∈ rows,r.length=w) (hi:i<rows.length) (R:List AV) (v:AV) (hR:R.length=w) (hk:0<w):over (i * w) [v] (rows.set i R).flatten=some (rows.set i (R.set 0 v)).flatten:=over_cell hw hi R 0 v hR hk
end Go.Abs
namespace Go.Proofs.Ytanecldpcceaoaa.walk
open Go.Abs Go.Proofs.Ytanecldpcceaoaa.code
theorem box_wide (bs:List Box):∀ r ∈ bs.map Box.cells,r.length=9:=by
 intro r hr
 obtain ⟨f,_,rfl⟩:=List.mem_map.mp hr
 rfl
theorem own_scal {h:Heap} {lo n w tg:Nat} {rows:List (List AV)} {v:AV} (r:Own h lo n w tg rows v):v.scalar=true:=by
 rcases r.is with ⟨_,h2 | ⟨b,_,_,h2,_⟩⟩ | ⟨_,b,_,_,h2,_⟩<;>subst h2<;>rfl
end Go.Proofs.Ytanecldpcceaoaa.walk
set_option maxRecDepth 10000
namespace Go.Proofs.Ytanecldpcceaoaa.walk
open Go.Abs Go.Proofs.Ytanecldpcceaoaa.code
theorem CopyCellar_ex {N:Nat} {s:St} {r:ARes} {hl hh:Int} {v1 v2 v3:AV} (c:Cellar) (hr:call Try.prog X N (.fn 8) [.agg [.int .i64 hl,.int .i64 hh,v1,v2,v3]] s=r) (hN:1≤N)
  (S1:Seq s.h s.n 9 (c.boxes.map Box.cells) v1) (S2:Seq s.h s.n 3 (c.fills.map Fill.cells) v2) (S3:Seq s.h s.n 2 (c.rates.map Rate.cells) v3) (k1:c.boxes.length≤20) (k2:c.fills.length≤20) (k3:c.rates.length≤20) (hs:s.n+1000≤far) :
  ∃ (w1 w2 w3:AV) (t:St) (n1 n2:Nat),r=.val (.agg [.int .i64 hl,.int .i64 hh,w1,w2,w3]) t∧New s t 10∧s.n≤n1∧n1≤n2∧n2≤t.n ∧
   Own t.h s.n n1 9 (tag 42) (c.boxes.map Box.cells) w1∧Own t.h n1 n2 3 (tag 58) (c.fills.map Fill.cells) w2∧Own t.h n2 t.n 2 (tag 60) (c.rates.map Rate.cells) w3:=by
 obtain ⟨n,rfl⟩:∃ n,N=n+1:=⟨N - 1,by omega⟩
 have hf:far=1000000000:=rfl
 obtain ⟨w,t,e,st,w1,w2,w3,n1,n2,rfl,hq⟩:=call_new' (n:=n) (args:=[.agg [.int .i64 hl,.int .i64 hh,v1,v2,v3]]) (s:=s) (k:=10)
  (Q:=fun v h m=>∃ (w1 w2 w3:AV) (n1 n2:Nat),v=.agg [.int .i64 hl,.int .i64 hh,w1,w2,w3]∧s.n≤n1∧n1≤n2∧n2≤m∧Own h s.n n1 9 (tag 42) (c.boxes.map Box.cells) w1∧Own h n1 n2 3 (tag 58) (c.fills.map Fill.cells) w2∧Own h n2 m 2 (tag 60) (c.rates.map Rate.cells) w3)
  Try.func8 rfl (fun u uh un um=>by
  rw [← uh,← un] at S1 S2 S3
  rw [← un]
  obtain ⟨ok1,c1,sc1⟩:=S1.scalar
  obtain ⟨ok2,c2,sc2⟩:=S2.scalar
  obtain ⟨ok3,c3,sc3⟩:=S3.scalar
  have sh:shapeT Try.prog 31=some (some 5):=by kernel_rfl
  have nn1:∀ o,(u.new o).n=u.n+1:=fun _=>rfl
  rw [enter8]
  simp (disch:=first|omega|(with_unfolding_all exact rfl)|(simp only[new_n,put_n,new_m];omega)|(refine put_m_le ?_;simp only[new_m];omega)) only [res8,K8,K8r0,Abs.W,reduceIte,Nat.reduceEqDiff,Nat.reduceAdd,decide_true,decide_false,kLoop_def,Nat.reduceSub,List.cons_append,List.nil_append,List.append_nil,List.length_cons,List.length_nil,nn1]
  obtain ⟨w,hw⟩:∃ w:St,w=(u.new (.cells [.int .i64 hl,.int .i64 hh,v1,v2,v3] (tag 31))).new (.cells [.int .i64 0,.int .i64 0,.nilslice,.nilslice,.nilslice] (tag 31)):=⟨_,rfl⟩
  rw [← hw]
  have wn:w.n=u.n+2:=by rw [hw];rfl
  have wm:w.m=far:=by rw [hw];exact um
  have wg:∀ c,c<u.n→w.h.get c=u.h.get c:=fun c hc=>by rw [hw,get_new_ne _ _ _ (by simp only [new_n];omega),get_new_ne _ _ _ (by omega)]
  have w0:w.h.get u.n=some (.cells [.int .i64 hl,.int .i64 hh,v1,v2,v3] (tag 31)):=by
   rw [hw,get_new_ne _ _ _ (by simp only [new_n];omega)];exact get_new_eq _ _ _ rfl (by omega)
  have w1':w.h.get (u.n+1)=some (.cells [.int .i64 0,.int .i64 0,.nilslice,.nilslice,.nilslice] (tag 31)):=by rw [hw];exact get_new_eq _ _ _ rfl (by simp only [new_n];omega)
  have kl1:(c.boxes.map Box.cells).length≤20:=by rw [List.length_map];exact k1
  have kl2:(c.fills.map Fill.cells).length≤20:=by rw [List.length_map];exact k2
  have kl3:(c.rates.map Rate.cells).length≤20:=by rw [List.length_map];exact k3
  obtain ⟨x1,hx1⟩:∃ x1:St,x1=w.new (.cells [] 0):=⟨_,rfl⟩
  have x1n:x1.n=w.n+1:=by rw [hx1];rfl
  have x1m:x1.m=far:=by rw [hx1];exact wm
  have x1g:∀ c,c<w.n→x1.h.get c=w.h.get c:=fun c hc=>by rw [hx1,get_new_ne _ _ _ (by omega)]
  obtain ⟨a1,s1,e1,own1,ln1,le1,same1,m1,mm1⟩:=append_copy (bytes:=72) (tg:=tag 42) (p:=w.n) (S1.grow (h':=x1.h) (n':=x1.n) (fun b hb=>(x1g b (by omega)).trans (wg b hb)) (by omega)) (by rw [hx1];exact get_new_eq _ _ _ rfl (by omega)) (by omega) (box_scalars c.boxes) (by omega) (by omega)
  have mw1:=m1 w.n (Nat.le_refl _) (by omega)
  obtain ⟨x2,hx2⟩:∃ x2:St,x2=s1.new (.cells [] 0):=⟨_,rfl⟩
  have x2n:x2.n=s1.n+1:=by rw [hx2];rfl
  have x2m:x2.m=s1.m:=by rw [hx2];rfl
  have x2g:∀ c,c<s1.n→x2.h.get c=s1.h.get c:=fun c hc=>by rw [hx2,get_new_ne _ _ _ (by omega)]
  have b2:∀ c,c<x1.n→x2.h.get c=x1.h.get c:=fun c hc=>(x2g c (by omega)).trans (same1 c hc)
  obtain ⟨a2,s2,e2,own2,ln2,le2,same2,m2,mm2⟩:=append_copy (bytes:=24) (tg:=tag 58) (p:=s1.n) (S2.grow (h':=x2.h) (n':=x2.n) (fun b hb=>(b2 b (by omega)).trans ((x1g b (by omega)).trans (wg b hb))) (by omega)) (by rw [hx2];exact get_new_eq _ _ _ rfl (by omega)) (by omega) (fill_scalars c.fills) (by omega) (by omega)
  have mw2:=m2 w.n (by omega) (by omega)
  obtain ⟨x3,hx3⟩:∃ x3:St,x3=s2.new (.cells [] 0):=⟨_,rfl⟩
  have x3n:x3.n=s2.n+1:=by rw [hx3];rfl
  have x3m:x3.m=s2.m:=by rw [hx3];rfl
  have x3g:∀ c,c<s2.n→x3.h.get c=s2.h.get c:=fun c hc=>by rw [hx3,get_new_ne _ _ _ (by omega)]
  have b3:∀ c,c<x2.n→x3.h.get c=x2.h.get c:=fun c hc=>(x3g c (by omega)).trans (same2 c hc)
  obtain ⟨a3,s3,e3,own3,ln3,le3,same3,m3,mm3⟩:=append_copy (bytes:=16) (tg:=tag 60) (p:=s2.n) (S3.grow (h':=x3.h) (n':=x3.n) (fun b hb=>(b3 b (by omega)).trans ((b2 b (by omega)).trans ((x1g b (by omega)).trans (wg b hb)))) (by omega)) (by rw [hx3];exact get_new_eq _ _ _ rfl (by omega)) (by omega) (rate_scalars c.rates) (by omega) (by omega)
  have mw3:=m3 w.n (by omega) (by omega)
  have g1:∀ c,c<w.n→x1.h.get c=w.h.get c:=x1g
  have g2:∀ c,c<w.n→x2.h.get c=w.h.get c:=fun c hc=>(b2 c (by omega)).trans (x1g c hc)
  have g3:∀ c,c<w.n→x3.h.get c=w.h.get c:=fun c hc=>(b3 c (by omega)).trans (g2 c hc)
  have g4:∀ c,c<w.n→s3.h.get c=w.h.get c:=fun c hc=>(same3 c (by omega)).trans (g3 c hc)
  have y1:=(g1 u.n (by omega)).trans w0
  have y2:=(g2 u.n (by omega)).trans w0
  have y3:=(g3 u.n (by omega)).trans w0
  have y4:=(g4 u.n (by omega)).trans w0
  have y5:=(g4 (u.n+1) (by omega)).trans w1'
  obtain ⟨p1,q1,z1⟩:=own1.seq.scalar
  obtain ⟨p2,q2,z2⟩:=own2.seq.scalar
  obtain ⟨p3,q3,z3⟩:=own3.seq.scalar
  have z1':scalars [a1]=true:=by rw [z1];rfl
  have z2':scalars [a2]=true:=by rw [z2];rfl
  have z3':scalars [a3]=true:=by rw [z3];rfl
  have sall:∀ l,scalars (a1::a2::a3::l)=scalars l:=fun l=>by rw [z1,z2,z3]
  have gp:∀ o1 o2 o3,(((s3.put u.n o1).put u.n o2).put u.n o3).h.get (u.n+1)=some (.cells [.int .i64 0,.int .i64 0,.nilslice,.nilslice,.nilslice] (tag 31)):=fun o1 o2 o3=>by
   rw [get_put_ne' _ _ _ _ (by omega),get_put_ne' _ _ _ _ (by omega),get_put_ne' _ _ _ _ (by omega)];exact y5
  have s1u:=(same1 u.n (by omega)).trans y1
  have s2u:=(same2 u.n (by omega)).trans y2
  rw [hx1] at e1
  rw [hx2] at e2
  rw [hx3] at e3
  simp (disch:=first|omega|(with_unfolding_all exact rfl)|(simp only[new_n,put_n,new_m];omega)|(refine put_m_le ?_;simp only[new_m];omega)) only [K8r1,Abs.W,reduceIte,Nat.reduceEqDiff,Nat.reduceAdd,decide_true,decide_false,kLoop_def,Nat.reduceSub,List.cons_append,List.nil_append,List.append_nil,List.length_cons,List.length_nil,Env.find_set,w0,ok1,e1,s1u,ok2,e2,s2u,ok3,e3,y4,q1,q2,q3,z1',z2',z3',Nat.zero_add]
  rw [endO_ok _ (by
   rw [endOk_cons,endOk_cons,endOk_cons,endOk_nil]
   all_goals
    simp only [find_cons,reduceIte,Nat.reduceEqDiff]
    exact apart_slice (by omega))]
  simp (disch:=first|omega|(with_unfolding_all exact rfl)|(simp only[new_n,put_n,new_m];omega)|(refine put_m_le ?_;simp only[new_m];omega)) only [K8r2,Abs.W,reduceIte,Nat.reduceEqDiff,Nat.reduceAdd,decide_true,decide_false,kLoop_def,Nat.reduceSub,List.cons_append,List.nil_append,List.append_nil,List.length_cons,List.length_nil,Env.find_set,regD_ok,gp,sall,scal_nil,Nat.zero_add]
  have fin:∀ c,c≠u.n→c≠u.n+1→∀ o1 o2 o3 o4,((((s3.put u.n o1).put u.n o2).put u.n o3).put (u.n+1) o4).h.get c=s3.h.get c:=fun c h1 h2 o1 o2 o3 o4=>by
   rw [get_put_ne' _ _ _ _ h2,get_put_ne' _ _ _ _ h1,get_put_ne' _ _ _ _ h1,get_put_ne' _ _ _ _ h1]
  have o1:Own s3.h w.n s1.n 9 (tag 42) (c.boxes.map Box.cells) a1:=own1.move (fun b hb hb2=>(same3 b (by omega)).trans ((x3g b (by omega)).trans ((same2 b (by omega)).trans (x2g b hb2)))) (Nat.le_refl _) (Nat.le_refl _)
  have o2:Own s3.h s1.n s2.n 3 (tag 58) (c.fills.map Fill.cells) a2:=own2.move (fun b hb hb2=>(same3 b (by omega)).trans (x3g b hb2)) (Nat.le_refl _) (Nat.le_refl _)
  refine ⟨.agg [.int .i64 hl,.int .i64 hh,a1,a2,a3],_,leave_cell _ _ _ _ sh ?_,⟨fun c hc=>?_,?_,?_,?_,?_⟩,
   ⟨a1,a2,a3,s1.n,s2.n,rfl,by omega,by omega,by simp only [put_n];omega,o1.move (fun b hb hb2=>fin b (by omega) (by omega) _ _ _ _) (by omega) (Nat.le_refl _),o2.move (fun b hb hb2=>fin b (by omega) (by omega) _ _ _ _) (by omega) (Nat.le_refl _),own3.move (fun b hb hb2=>fin b (by omega) (by omega) _ _ _ _) (by omega) (Nat.le_refl _)⟩,
   fun hp=>⟨a1,a2,a3,u.n,u.n,rfl,Nat.le_refl _,Nat.le_refl _,by omega,own1.none (plains_mem hp (by simp)),own2.none (plains_mem hp (by simp)),own3.none (plains_mem hp (by simp))⟩⟩
  ·simp (disch:=first|omega|(with_unfolding_all exact rfl)|(simp only[new_n,put_n,new_m];omega)|(refine put_m_le ?_;simp only[new_m];omega)) only [Abs.W,reduceIte,Nat.reduceEqDiff,Nat.reduceAdd,decide_true,decide_false,kLoop_def,Nat.reduceSub,List.cons_append,List.nil_append,List.append_nil,List.length_cons,List.length_nil,okA_agg]
  ·rw [fin c (by omega) (by omega)];exact (g4 c (by omega)).trans (wg c hc)
  ·simp only [put_n];omega
  ·simp only [put_n];omega
  ·simp only [St.put,minN_eq];omega
  ·simp only [St.put,minN_eq];omega)
 exact ⟨w1,w2,w3,t,n1,n2,hr.symm.trans e,st,hq⟩
end Go.Proofs.Ytanecldpcceaoaa.walk
set_option maxRecDepth 10000
namespace Go.Proofs.Ytanecldpcceaoaa.walk
open Go.Abs Go.Proofs.Ytanecldpcceaoaa.code
theorem HourOf_ex {N d:Nat} {s:St} {r:ARes} {born keeps:Int} {v4:AV} (hr:call Try.prog X N (.fn 7) [.ptr d 0,.agg [.int .i64 born,.int .i64 keeps,v4]] s=r) (hN:6≤N) (hd:Die d s.h) (hdn:d<s.n) (hs:s.n+1000≤far) (hb:0≤born∧born≤240) :
  ∃ (h:Int) (t:St),r=.val (.int .i64 h) t∧Stir d s t 10∧Die d t.h∧born≤h∧h≤240:=by
 obtain ⟨n,rfl⟩:∃ n,N=n+1:=⟨N - 1,by omega⟩
 have hff:far=1000000000:=rfl
 obtain ⟨v,t,e,st,⟨h,rfl,h0,h1⟩,hd'⟩:=call_stir_plain (n:=n) (args:=[.ptr d 0,.agg [.int .i64 born,.int .i64 keeps,v4]]) (d:=d) (k:=10) (Q:=fun v=>∃ h:Int,v=.int .i64 h∧born≤h∧h≤240) (R:=Die d) Try.func7 hd (fun u uh un um=>by
  rw [← uh] at hd
  rw [enter7]
  simp (disch:=first|omega|(with_unfolding_all exact rfl)|(simp only[new_n,put_n,new_m];omega)|(refine put_m_le ?_;simp only[new_m];omega)) only [res7,K7,K7r0,Abs.W,reduceIte,Nat.reduceEqDiff,Nat.reduceAdd,decide_true,decide_false,kLoop_def,Nat.reduceSub,List.cons_append,List.nil_append,List.append_nil,List.length_cons,List.length_nil]
  obtain ⟨w,hw⟩:∃ w:St,w=u.new (.cells [.int .i64 born,.int .i64 keeps,v4] (tag 35)):=⟨_,rfl⟩
  rw [← hw]
  have wn:w.n=u.n+1:=by rw [hw];rfl
  have wm:w.m=far:=by rw [hw];exact um
  have wg:∀ c,c<u.n→w.h.get c=u.h.get c:=fun c hc=>by rw [hw,get_new_ne _ _ _ (by omega)]
  have w0:w.h.get u.n=some (.cells [.int .i64 born,.int .i64 keeps,v4] (tag 35)):=by rw [hw];exact get_new_eq _ _ _ rfl (by omega)
  have dw:Die d w.h:=by obtain ⟨f,hg⟩:=hd;exact ⟨f,by rw [wg _ (by omega)];exact hg⟩
  simp (disch:=first|omega|(with_unfolding_all exact rfl)|(simp only[new_n,put_n,new_m];omega)|(refine put_m_le ?_;simp only[new_m];omega)) only [K7r1,Abs.W,reduceIte,Nat.reduceEqDiff,Nat.reduceAdd,decide_true,decide_false,kLoop_def,Nat.reduceSub,List.cons_append,List.nil_append,List.append_nil,List.length_cons,List.length_nil,Env.find_set,w0]
  obtain ⟨y,hy⟩:∃ y:St,y=w.new (.cells [.int .i64 6,.int .i64 30,.int .i64 60] 0):=⟨_,rfl⟩
  rw [← hy]
  have yn:y.n=w.n+1:=by rw [hy];rfl
  have ym:y.m=far:=by rw [hy];exact wm
  have yg:∀ c,c<w.n→y.h.get c=w.h.get c:=fun c hc=>by rw [hy,get_new_ne _ _ _ (by omega)]
  have y0:=(yg u.n (by omega)).trans w0
  have y1:y.h.get w.n=some (.cells [.int .i64 6,.int .i64 30,.int .i64 60] 0):=by rw [hy];exact get_new_eq _ _ _ rfl (by omega)
  have dy:Die d y.h:=by obtain ⟨f,hg⟩:=dw;exact ⟨f,by rw [yg _ (by omega)];exact hg⟩
  generalize hc1:call _ _ _ (.fn 16) _ _=r1
  obtain ⟨x1,t1,rfl,st1,d1,m1⟩:=one_ex [6,30,60] hc1 (by omega) dy (by show d<y.n;omega) (by show y.n+200≤far;omega) y1 (by show w.n<y.n;omega) (by omega) rfl (by omega) (by omega)
  have x1r:x1=6∨x1=30∨x1=60:=by simpa using m1
  have n1:y.n≤t1.n:=st1.n
  have k1:t1.n≤y.n:=st1.le
  have p1:t1.h.get u.n=some (.cells [.int .i64 born,.int .i64 keeps,v4] (tag 35)):=(st1.same u.n (by show u.n<y.n;omega) (by omega)).trans y0
  simp (disch:=first|omega|(with_unfolding_all exact rfl)|(simp only[new_n,put_n,new_m];omega)|(refine put_m_le ?_;simp only[new_m];omega)) only [K7r1,Abs.W,reduceIte,Nat.reduceEqDiff,Nat.reduceAdd,decide_true,decide_false,kLoop_def,Nat.reduceSub,List.cons_append,List.nil_append,List.append_nil,List.length_cons,List.length_nil,Env.find_set,thenT_turn]
  generalize hc2:call _ _ _ (.fn 9) _ _=r2
  obtain ⟨x2,t2,rfl,st2,d2,x20,x21⟩:=cast_ex hc2 (by omega) d1 (by show d<t1.n;omega) (by show t1.n+100≤far;omega) (by omega)
  have n2:t1.n≤t2.n:=st2.n
  have k2:t2.n≤t1.n:=st2.le
  have p2:t2.h.get u.n=some (.cells [.int .i64 born,.int .i64 keeps,v4] (tag 35)):=(st2.same u.n (by show u.n<t1.n;omega) (by omega)).trans p1
  have a2:∀ s,aAdd s .i64 born x2=.val (.int .i64 (born+x2)) s:=fun s=>aAdd_i64 s _ _ (by omega)
  simp (disch:=first|omega|(with_unfolding_all exact rfl)|(simp only[new_n,put_n,new_m];omega)|(refine put_m_le ?_;simp only[new_m];omega)) only [K7r1,Abs.W,reduceIte,Nat.reduceEqDiff,Nat.reduceAdd,decide_true,decide_false,kLoop_def,Nat.reduceSub,List.cons_append,List.nil_append,List.append_nil,List.length_cons,List.length_nil,Env.find_set,thenT_turn,a2,kFold_def,foldA_nil,foldA_cons,minA_i64]
  have kp:∀ (a b:Heap) (M:Env),M.find 5=.ptr u.n 0→a.get u.n=some (.cells [.int .i64 born,.int .i64 keeps,v4] (tag 35))→b.get u.n=some (.cells [.int .i64 born,.int .i64 keeps,v4] (tag 35))→keptAll a b M [5]=true:=fun a b M h1 h2 h3=>by
   simp only [keptAll_cons,keptAll_nil,h1,keptV_ptr,h2,h3,sameO_cells,Bool.and_self]
  rw [endT_kept (s:=⟨t1.h,t1.n,minN y.m t1.m⟩) (kp _ _ _ (by simp only [find_cons,reduceIte,Nat.reduceEqDiff]) p1 p2),endT_kept (kp _ _ _ (by simp only [find_cons,reduceIte,Nat.reduceEqDiff]) y0 p1)]
  simp (disch:=first|omega|(with_unfolding_all exact rfl)|(simp only[new_n,put_n,new_m];omega)|(refine put_m_le ?_;simp only[new_m];omega)) only [res7,Abs.W,reduceIte,Nat.reduceEqDiff,Nat.reduceAdd,decide_true,decide_false,kLoop_def,Nat.reduceSub,List.cons_append,List.nil_append,List.append_nil,List.length_cons,List.length_nil,Env.find_set,endO_nil,regD_ok]
  have h1:=st1.m (show d≤far by omega)
  have h2:=st2.m (show d≤far by omega)
  refine ⟨_,_,rfl,⟨fun c hc hcd=>?_,?_,?_,fun _=>?_,?_⟩,rfl,⟨_,rfl,by omega,by omega⟩,d2⟩
  ·show t2.h.get c=_
   rw [st2.same c (by show c<t1.n;omega) hcd,st1.same c (by show c<y.n;omega) hcd]
   show y.h.get c=_
   rw [yg c (by omega),wg c hc]
  ·show u.n≤t2.n;omega
  ·show t2.n≤u.n+10;omega
  ·show d≤minN (minN y.m t1.m) t2.m;rw [minN_eq,minN_eq];omega
  ·show minN (minN y.m t1.m) t2.m≤u.m;rw [minN_eq,minN_eq];omega) (by omega)
 exact ⟨h,t,hr.symm.trans e,st,hd',h0,h1⟩
end Go.Proofs.Ytanecldpcceaoaa.walk
set_option maxRecDepth 10000
namespace Go.Proofs.Ytanecldpcceaoaa.walk
open Go.Abs
/-! ### One end of the ice -/
def fill1 (room hour:Int):Int→List (Int × Int)→Int
 | i,[]=>i
 | i,(h,g)::r=>if h=hour then fill1 room hour (min (i+g) room) r else i
def lev (room:Int) (melt:Int→Int):Nat→Int→Int→List (Int × Int)→Int
 | 0,hour,i,fs=>fill1 room hour i fs
 | k+1,hour,i,fs=>lev room melt k (hour+1) (max 0 (fill1 room hour i fs - melt hour)) (left hour fs)
theorem fill_fill1:∀ (fs:List (Int × Int)) (x:BoxNow),(x.fill fs).i0=fill1 x.room x.hour x.i0 fs∧(x.fill fs).i1=fill1 x.room x.hour x.i1 fs
 | [],x=>⟨rfl,rfl⟩
 | (h,g)::r,x=>by
  unfold BoxNow.fill fill1
  by_cases e:h=x.hour
  ·rw [if_pos e,if_pos e,if_pos e]
   exact fill_fill1 r (x.put g)
  ·rw [if_neg e,if_neg e,if_neg e]
   exact ⟨rfl,rfl⟩
theorem ices_lev:∀ (m k:Nat) (x:BoxNow) (fs:List (Int × Int)),k<m→(ices m x fs).getD k (0,0)=(lev x.room (fun _=>x.m1) k x.hour x.i0 fs,lev x.room (fun _=>x.m0) k x.hour x.i1 fs)
 | 0,k,x,fs,h=>absurd h (Nat.not_lt_zero k)
 | m+1,0,x,fs,h=>by
  obtain ⟨h1,h2⟩:=fill_fill1 fs x
  unfold ices lev
  rw [List.getD_cons_zero,h1,h2]
 | m+1,k+1,x,fs,h=>by
  obtain ⟨h1,h2⟩:=fill_fill1 fs x
  obtain ⟨⟨q1,q2,q3,_⟩,q8⟩:=x.fill_like fs
  unfold ices
  rw [List.getD_cons_succ,ices_lev m k (x.on fs) (left x.hour fs) (by omega)]
  have e1:(x.on fs).room=x.room:=q1
  have e2:(x.on fs).m1=x.m1:=q3
  have e3:(x.on fs).m0=x.m0:=q2
  have e4:(x.on fs).hour=x.hour+1:=by show (x.fill fs).hour+1=_;rw [q8]
  have e5:(x.on fs).i0=max 0 (fill1 x.room x.hour x.i0 fs - x.m1):=by show max 0 ((x.fill fs).i0 - (x.fill fs).m1)=_;rw [h1,q3]
  have e6:(x.on fs).i1=max 0 (fill1 x.room x.hour x.i1 fs - x.m0):=by show max 0 ((x.fill fs).i1 - (x.fill fs).m0)=_;rw [h2,q2]
  rw [e1,e2,e3,e4,e5,e6]
  rfl
theorem fill1_mono {room room' hour:Int} (hr:room≤room'):∀ (fs:List (Int × Int)) (i i':Int),i≤i'→fill1 room hour i fs≤fill1 room' hour i' fs
 | [],i,i',h=>h
 | (h0,g)::r,i,i',h=>by
  unfold fill1
  by_cases e:h0=hour
  ·rw [if_pos e,if_pos e]
   exact fill1_mono hr r _ _ (by omega)
  ·rw [if_neg e,if_neg e];exact h
theorem lev_mono {room room':Int} {melt melt':Int→Int} (hr:room≤room') (hm:∀ h,melt' h≤melt h):∀ (k:Nat) (hour i i':Int) (fs:List (Int × Int)),i≤i'→lev room melt k hour i fs≤lev room' melt' k hour i' fs
 | 0,hour,i,i',fs,h=>fill1_mono hr fs i i' h
 | k+1,hour,i,i',fs,h=>by
  unfold lev
  have h1:=fill1_mono (hour:=hour) hr fs i i' h
  have h2:=hm hour
  exact lev_mono hr hm k (hour+1) _ _ _ (by omega)
/-! ### A cellar's boxes, hour by hour -/
def Cellar.box (c:Cellar) (b:Nat):Box:=c.boxes.getD b noBox
def Cellar.of (c:Cellar) (b:Nat):List (Int × Int):=(ofBox b c.fills).map fun f=>(f.hour,f.grams)
def Cellar.iceLo (c:Cellar) (b k:Nat):Int:=lev (c.box b).room (fun _=>(c.box b).mh) k 0 (c.box b).il (c.of b)
def Cellar.iceHi (c:Cellar) (b k:Nat):Int:=lev (c.box b).room (fun _=>(c.box b).ml) k 0 (c.box b).ih (c.of b)
def Cellar.warm (c:Cellar) (b k:Nat):Int × Int:=(if 0<c.iceHi b k then (c.box b).cl else (c.box b).wl,if 0<c.iceLo b k then (c.box b).ch else (c.box b).wh)
theorem warmW_eq (c:Cellar) (b k:Nat) (hb:b<c.boxes.length) (hk:k<240):warmW (tabsOf c.boxes c.fills c.boxes.length) k b=c.warm b k:=by
 unfold warmW
 rw [Int.toNat_natCast,Int.toNat_natCast]
 unfold tabsOf
 have e0:((List.range c.boxes.length).map fun j=>tabOf (c.boxes.getD j noBox) c.fills j).getD b []=tabOf (c.box b) c.fills b:=by
  rw [List.getD_eq_getElem?_getD,List.getElem?_map,List.getElem?_range hb];rfl
 rw [e0]
 unfold tabOf
 have hl:k<(ices 240 (c.box b).start (c.of b)).length:=by rw [ices_len];exact hk
 have e:=ices_lev 240 k (c.box b).start (c.of b) hk
 rw [List.getD_eq_getElem?_getD,List.getElem?_eq_getElem hl] at e
 rw [List.getD_eq_getElem?_getD,List.getElem?_map]
 show (((ices 240 (c.box b).start (c.of b))[k]?.map _).getD (0,0))=_
 rw [List.getElem?_eq_getElem hl]
 simp only [Option.getD_some] at e
 simp only [Option.map_some,Option.getD_some]
 rw [e]
 rfl
def Cellar.at (c:Cellar) (l:Lot) (k:Nat):Int × Int:=match l.stays.find? (hit k) with
 | some t=>c.warm t.box.toNat k
 | none=>(c.hl,c.hh)
theorem Cellar.warmAt_eq (c:Cellar) (l:Lot) (okl:l.Ok c.boxes.length) (k:Nat) (hk:k<240):warmAt (tabsOf c.boxes c.fills c.boxes.length) l.stays c.hl c.hh k=c.at l k:=by
 unfold warmAt aroundOf Cellar.at
 cases hf:l.stays.find? (hit k) with
 | none=>rfl
 | some t =>
  have ht:=okl.sok t (List.mem_of_find?_eq_some hf)
  obtain ⟨b,hb⟩:∃ b:Nat,t.box=b:=⟨t.box.toNat,by have:=ht.b0;omega⟩
  have:=warmW_eq c b k (by have:=ht.b1;omega) hk
  simp only [hb,Int.toNat_natCast]
  exact this
/-! ### Losses -/
theorem lossFrom_up (rs:List Rate) (ro:∀ i (h:i<rs.length),(rateBefore rs i).above<(rs[i]).above∧(rateBefore rs i).loss≤(rs[i]).loss) (t t':Int) (h:t≤t') :
  ∀ m j:Nat,j+m=rs.length→(rateBefore rs j).loss≤lossFrom t' (rateBefore rs j).loss (rs.drop j)∧lossFrom t (rateBefore rs j).loss (rs.drop j)≤lossFrom t' (rateBefore rs j).loss (rs.drop j)
 | 0,j,hm=>by
  rw [List.drop_of_length_le (by omega)]
  exact ⟨Int.le_refl _,Int.le_refl _⟩
 | m+1,j,hm=>by
  have hj:j<rs.length:=by omega
  have ih:=lossFrom_up rs ro t t' h m (j+1) (by omega)
  have hb:rateBefore rs (j+1)=rs[j]:=by simp only [rateBefore,List.getElem?_eq_getElem hj]
  rw [hb] at ih
  rw [List.drop_eq_getElem_cons hj]
  have r1:=(ro j hj).2
  unfold lossFrom
  by_cases e:t'<(rs[j]).above
  ·rw [if_pos e,if_pos (by omega)]
   exact ⟨Int.le_refl _,Int.le_refl _⟩
  ·rw [if_neg e]
   by_cases e2:t<(rs[j]).above
   ·rw [if_pos e2]
    exact ⟨by omega,by omega⟩
   ·rw [if_neg e2]
    exact ⟨by omega,ih.2⟩
theorem lossFrom_mono (rs:List Rate) (ro:∀ i (h:i<rs.length),(rateBefore rs i).above<(rs[i]).above∧(rateBefore rs i).loss≤(rs[i]).loss) (t t':Int) (h:t≤t'):lossFrom t 0 rs≤lossFrom t' 0 rs:=by
 have:=(lossFrom_up rs ro t t' h rs.length 0 (by omega)).2
 rw [List.drop_zero] at this
 exact this
theorem total_le {f g:Int × Int→Int} {u v:Nat→Int × Int}:∀ m:Nat,(∀ i,i<m→f (u i)≤g (v i))→total f ((List.range m).map u)≤total g ((List.range m).map v)
 | 0,_=>Int.le_refl _
 | m+1,h=>by
  rw [List.range_succ,List.map_append,List.map_append]
  show total f (_++[u m])≤total g (_++[v m])
  rw [total_snoc,total_snoc]
  have h1:=total_le (f:=f) (g:=g) (u:=u) (v:=v) m fun i hi=>h i (by omega)
  have h2:=h m (by omega)
  omega
theorem Cellar.lost_le (c d:Cellar) (okc:c.Ok) (hr:c.rates=d.rates) (l:Lot) (okl:l.Ok c.boxes.length) (okd:l.Ok d.boxes.length) (m:Nat) (hm:l.born+m≤240) :
  ((∀ k,k<240→(c.at l k).1≤(d.at l k).1)→(c.lost l m).1≤(d.lost l m).1)∧((∀ k,k<240→(c.at l k).2≤(d.at l k).2)→(c.lost l m).2≤(d.lost l m).2):=by
 have b0:=okl.b0
 have key:∀ i:Nat,i<m→warmAt (tabsOf c.boxes c.fills c.boxes.length) l.stays c.hl c.hh (l.born+(i:Int))=c.at l (l.born+i).toNat∧warmAt (tabsOf d.boxes d.fills d.boxes.length) l.stays d.hl d.hh (l.born+(i:Int))=d.at l (l.born+i).toNat:=fun i hi=>by
  have e:l.born+(i:Int)=((l.born+i).toNat:Int):=by omega
  rw [e,Int.toNat_natCast]
  exact ⟨c.warmAt_eq l okl _ (by omega),d.warmAt_eq l okd _ (by omega)⟩
 refine ⟨fun h=>?_,fun h=>?_⟩
 ·unfold Cellar.lost Cellar.warms walk.warms lostLo
  rw [← hr]
  refine total_le m fun i hi=>?_
  rw [(key i hi).1,(key i hi).2]
  exact lossFrom_mono _ okc.ro _ _ (h _ (by omega))
 ·unfold Cellar.lost Cellar.warms walk.warms lostHi
  rw [← hr]
  refine total_le m fun i hi=>?_
  rw [(key i hi).1,(key i hi).2]
  exact lossFrom_mono _ okc.ro _ _ (h _ (by omega))
theorem Cellar.lost_up (c:Cellar) (ok:c.Ok) (l:Lot) (m:Nat):∀ k:Nat,(c.lost l m).1≤(c.lost l (m+k)).1∧(c.lost l m).2≤(c.lost l (m+k)).2
 | 0=>⟨Int.le_refl _,Int.le_refl _⟩
 | k+1=>by
  have h1:=Cellar.lost_up c ok l m k
  have hw:∃ w,c.warms l (m+k+1)=c.warms l (m+k)++[w]:=by
   unfold Cellar.warms walk.warms
   rw [List.range_succ,List.map_append]
   exact ⟨_,rfl⟩
  obtain ⟨w,hw⟩:=hw
  unfold Cellar.lost lostLo lostHi at h1 ⊢
  rw [← Nat.add_assoc,hw,total_snoc,total_snoc]
  have h2:=(lossFrom_range w.1 c.rates 0 ok.rok ⟨Int.le_refl _,by omega⟩).1
  have h3:=(lossFrom_range w.2 c.rates 0 ok.rok ⟨Int.le_refl _,by omega⟩).1
  simp only at h1 ⊢
  omega
end Go.Proofs.Ytanecldpcceaoaa.walk
set_option maxRecDepth 10000
namespace Go.Abs
theorem fld2_1 (s:St) (a:AV) (k:IntKind) (b:Int):fldA none 1 s (.agg [a,.int k b])=.val (.int k b) s:=rfl
theorem shrI_half (n:Nat):shrI (n:Int) 1=((n / 2:Nat):Int):=by
 show Int.fdiv (n:Int) _=_
 rw [Int.fdiv_eq_ediv_of_nonneg _ (by decide)]
 rfl
end Go.Abs
namespace Go.Proofs.Ytanecldpcceaoaa.walk
open Go.Abs Go.Proofs.Ytanecldpcceaoaa.code
theorem last1_ok {N p7 p3 z7 z3:Nat} {more:Int} {v1 v2 v3 v4 vb:AV} {s:St} (c:Cellar) (ok:c.Ok) (l:Lot) (okl:l.Ok c.boxes.length) (vs:List AV) (lo k:Nat) (hN:9≤N) (hm:more=k) (hk:l.born+k+1≤240) (hs:s.n+70000≤far)
  (g7:s.h.get p7=some (.cells [.int .i64 c.hl,.int .i64 c.hh,v1,v2,v3,vb] z7)) (g3:s.h.get p3=some (.cells [.int .i64 l.born,.int .i64 l.keeps,v4] z3))
  (hR:RowsAt s.h s.n 3 (l.stays.map Stay.cells) v4) (hS:Sheets s.h lo s.n (tabsOf c.boxes c.fills c.boxes.length) vs vb) (hRt:RowsAt s.h s.n 2 (c.rates.map Rate.cells) v3) :
  call Try.prog X N (.fn 24) [.int .i64 more,.ptr p7 0,.ptr p3 0] s=.val (.bool (decide (l.keeps<(c.lost l (k+1)).2))) s:=by
 obtain ⟨n,rfl⟩:∃ n,N=n+1:=⟨N - 1,by omega⟩
 refine call_plain' Try.func24 (fun u uh un um=>?_) rfl
 have hff:far=1000000000:=rfl
 rw [← uh] at g7 g3 hR hS hRt
 rw [← un] at hR hS hRt
 have b0:=okl.b0
 have hum:u.m≤far:=by omega
 have hun:u.n≤far:=by omega
 have tl:(tabsOf c.boxes c.fills c.boxes.length).length=c.boxes.length:=by unfold tabsOf;rw [List.length_map,List.length_range]
 have a1:∀ s,aAdd s .i64 l.born more=.val (.int .i64 (l.born+more)) s:=fun s=>aAdd_i64 s _ _ (by omega)
 have a2:∀ s,aAdd s .i64 (l.born+more) 1=.val (.int .i64 (l.born+more+1)) s:=fun s=>aAdd_i64 s _ _ (by omega)
 have e1:=lost_ok (N:=n) (s:=⟨u.h,u.n,far⟩) (hl:=c.hl) (hh:=c.hh) (born:=l.born) (keeps:=l.keeps) (hour:=l.born+more+1) (v1:=v1) (v2:=v2) (v3:=v3) (v4:=v4) (vb:=vb) (tabsOf c.boxes c.fills c.boxes.length) l.stays c.rates vs lo (k+1) (by omega) b0 (by omega) (by omega) (by show u.n+60000≤far;omega)
  hR okl.s hS (fun t ht=>by
   unfold tabsOf at ht
   obtain ⟨j,_,rfl⟩:=List.mem_map.mp ht
   exact tabOf_len _ _ _) (fun t ht=>by
   have:=okl.sok t ht
   rw [tl]
   exact ⟨this.b0,this.b1⟩) hRt ok.r ok.rok
 rw [enter24]
 simp (disch:=first|omega|(with_unfolding_all exact rfl)|(simp only[new_n,put_n,new_m];omega)|(refine put_m_le ?_;simp only[new_m];omega)) only [res24,K24r0,K24r1,K24,Abs.W,reduceIte,Nat.reduceEqDiff,Nat.reduceAdd,decide_true,decide_false,kLoop_def,Nat.reduceSub,List.cons_append,List.nil_append,List.append_nil,List.length_cons,List.length_nil,g7,g3,a1,a2,e1,thenT_same _ _ _ _ _ _ _ hun hum,fld2_1,endO_nil,regD_ok,Nat.zero_add]
 refine ⟨_,rfl,?_⟩
 omega
def halves (F:Nat→Bool):Nat→Nat→Nat→Nat
 | 0,i,_=>i
 | m+1,i,j=>if i<j then (if F ((i+j) / 2)=true then halves F m i ((i+j) / 2) else halves F m ((i+j) / 2+1) j) else i
theorem halves_spec (F:Nat→Bool) (n:Nat):∀ m i j:Nat,i≤j→j≤n→j - i≤m→(i=0∨F (i - 1)=false)→(j=n∨F j=true) →
  halves F m i j≤n∧(halves F m i j=0∨F (halves F m i j - 1)=false)∧(halves F m i j=n∨F (halves F m i j)=true)
 | 0,i,j,h1,h2,h3,h4,h5=>by
  have:i=j:=by omega
  subst this
  exact ⟨h2,h4,h5⟩
 | m+1,i,j,h1,h2,h3,h4,h5=>by
  unfold halves
  by_cases e:i<j
  ·rw [if_pos e]
   cases hF:F ((i+j) / 2) with
   | true =>
    rw [if_pos rfl]
    exact halves_spec F n m i _ (by omega) (by omega) (by omega) h4 (.inr hF)
   | false =>
    rw [if_neg (by decide)]
    exact halves_spec F n m _ j (by omega) h2 (by omega) (.inr (by rw [Nat.add_sub_cancel];exact hF)) h5
  ·rw [if_neg e]
   have:i=j:=by omega
   subst this
   exact ⟨h2,h4,h5⟩
theorem search_loop {N n:Nat} {f:FuncId} {cp:List AV} (F:Nat→Bool) (cx:Ctx) (s:St) (hn:n≤1000)
  (hF:∀ h:Nat,h<n→call Try.prog X N (.fn f) (.int .i64 h::cp) s=.val (.bool (F h)) s) :
  ∀ (m i j fuel:Nat) (L:Env),j - i≤m→m<fuel→j≤n→L.find 1=.func f [] cp→L.find 5=.int .i64 i→L.find 6=.int .i64 j →
   ∃ L',loopN K23l0 fuel (call Try.prog X N) cx L [] s=.done (.exit 0) L' [] s∧L'.find 5=.int .i64 (halves F m i j)
 | m,i,j,0,L,hm,hf,hj,h1,h5,h6=>by omega
 | m,i,j,fuel+1,L,hm,hf,hj,h1,h5,h6=>by
  by_cases hlt:i<j
  ·obtain ⟨m',rfl⟩:∃ m',m=m'+1:=⟨m - 1,by omega⟩
   have e0:decide ((i:Int)<(j:Int))=true:=by simp;omega
   have a1:∀ s,aAdd s .i64 (i:Int) (j:Int)=.val (.int .i64 ((i+j:Nat):Int)) s:=fun s=>by rw [aAdd_i64 s _ _ (by omega)];rfl
   have w1:wrapA .u64 ((i+j:Nat):Int)=((i+j:Nat):Int):=wrap_u64 _ (by omega)
   have w2:wrapA .i64 (((i+j) / 2:Nat):Int)=(((i+j) / 2:Nat):Int):=wrap_in _ (by omega)
   have a3:∀ s,aAdd s .i64 (((i+j) / 2:Nat):Int) 1=.val (.int .i64 (((i+j) / 2+1:Nat):Int)) s:=fun s=>by rw [aAdd_i64 s _ _ (by omega)];rfl
   have hc:=hF ((i+j) / 2) (by omega)
   rw [loopN_succ]
   unfold halves
   rw [if_pos hlt]
   cases hb:F ((i+j) / 2) with
   | true =>
    rw [hb] at hc
    simp (disch:=first|omega|(with_unfolding_all exact rfl)|(simp only[new_n,put_n,new_m];omega)|(refine put_m_le ?_;simp only[new_m];omega)) only [res23,K23r0,K23r1,K23r2,K23r3,K23r4,K23r5,K23r6,K23l0,K23r7,K23,Abs.W,reduceIte,Nat.reduceEqDiff,Nat.reduceAdd,decide_true,decide_false,kLoop_def,Nat.reduceSub,List.cons_append,List.nil_append,List.append_nil,List.length_cons,List.length_nil,Env.find_set,h1,h5,h6,e0,a1,w1,w2,a3,hc,kShr_def,shrA_u64,cviA_int,shrI_half]
    exact search_loop F cx s hn hF m' i ((i+j) / 2) fuel _ (by omega) (by omega) (by omega) (by simp only [Env.find_set,h1,reduceIte,Nat.reduceEqDiff]) (by simp only [Env.find_set,h5,reduceIte,Nat.reduceEqDiff]) (by simp only [Env.find_set,reduceIte,Nat.reduceEqDiff])
   | false =>
    rw [hb] at hc
    simp (disch:=first|omega|(with_unfolding_all exact rfl)|(simp only[new_n,put_n,new_m];omega)|(refine put_m_le ?_;simp only[new_m];omega)) only [res23,K23r0,K23r1,K23r2,K23r3,K23r4,K23r5,K23r6,K23l0,K23r7,K23,Abs.W,reduceIte,Nat.reduceEqDiff,Nat.reduceAdd,decide_true,decide_false,kLoop_def,Nat.reduceSub,List.cons_append,List.nil_append,List.append_nil,List.length_cons,List.length_nil,Env.find_set,h1,h5,h6,e0,a1,w1,w2,a3,hc,kShr_def,shrA_u64,cviA_int,shrI_half]
    exact search_loop F cx s hn hF m' ((i+j) / 2+1) j fuel _ (by omega) (by omega) (by omega) (by simp only [Env.find_set,h1,reduceIte,Nat.reduceEqDiff]) (by simp only [Env.find_set,reduceIte,Nat.reduceEqDiff]) (by simp only [Env.find_set,h6,reduceIte,Nat.reduceEqDiff])
  ·have e0:decide ((i:Int)<(j:Int))=false:=by simp;omega
   have hh:halves F m i j=i:=by
    cases m with
    | zero=>rfl
    | succ m=>unfold halves;rw [if_neg hlt]
   rw [loopN_succ,hh]
   simp (disch:=first|omega|(with_unfolding_all exact rfl)|(simp only[new_n,put_n,new_m];omega)|(refine put_m_le ?_;simp only[new_m];omega)) only [res23,K23r0,K23r1,K23r2,K23r3,K23r4,K23r5,K23r6,K23l0,K23r7,K23,Abs.W,reduceIte,Nat.reduceEqDiff,Nat.reduceAdd,decide_true,decide_false,kLoop_def,Nat.reduceSub,List.cons_append,List.nil_append,List.append_nil,List.length_cons,List.length_nil,Env.find_set,h1,h5,h6,e0]
   exact ⟨_,rfl,by simp only [Env.find_set,h5,reduceIte,Nat.reduceEqDiff]⟩
theorem search_ok {N n:Nat} {f:FuncId} {cp:List AV} (F:Nat→Bool) (s:St) (hN:1≤N) (hn:n≤1000) (hs:s.n+100≤far)
  (hF:∀ h:Nat,h<n→∀ m,call Try.prog X (N - 1) (.fn f) (.int .i64 h::cp) ⟨s.h,s.n,m⟩=.val (.bool (F h)) ⟨s.h,s.n,m⟩) :
  call Try.prog X N (.fn 23) [.int .i64 n,.func f [] cp] s=.val (.int .i64 (halves F n 0 n)) s:=by
 obtain ⟨N,rfl⟩:∃ n,N=n+1:=⟨N - 1,by omega⟩
 refine call_plain' Try.func23 (fun u uh un um=>?_) rfl
 have hff:far=1000000000:=rfl
 obtain ⟨L',hL,h5⟩:=search_loop (N:=N) F ⟨23,none,Try.f23.ntmps,X 23⟩ u hn (fun h hh=>by
  have:=hF h hh u.m
  rw [← uh,← un] at this
  exact this) n 0 n rounds
  (.cons 0 (.int .i64 n) (.cons 1 (.func f [] cp) (.cons 4 (.int .i64 0) (.cons 5 (.int .i64 0) (.cons 6 (.int .i64 n) .nil))))) (by omega) (by unfold rounds;omega) (Nat.le_refl _) rfl rfl rfl
 rw [enter23]
 simp only [res23,K23r0,K23r1,K23r2,K23r3,K23r4,K23r5,K23r6,K23r7,K23,Abs.W,reduceIte,Nat.reduceEqDiff,Nat.reduceAdd,decide_true,decide_false,kLoop_def,Nat.reduceSub,List.cons_append,List.nil_append,List.append_nil,List.length_cons,List.length_nil,hL,h5,Env.find_set]
 exact ⟨_,rfl,by omega⟩
def Cellar.last (c:Cellar) (l:Lot):Nat:=halves (fun k=>decide (l.keeps<(c.lost l (k+1)).2)) (240 - l.born).toNat 0 (240 - l.born).toNat
theorem Cellar.last_spec (c:Cellar) (l:Lot):c.last l≤(240 - l.born).toNat∧(c.last l=0∨(c.lost l (c.last l)).2≤l.keeps)∧(c.last l=(240 - l.born).toNat∨l.keeps<(c.lost l (c.last l+1)).2):=by
 obtain ⟨h1,h2,h3⟩:=halves_spec (fun k=>decide (l.keeps<(c.lost l (k+1)).2)) (240 - l.born).toNat (240 - l.born).toNat 0 (240 - l.born).toNat (Nat.zero_le _) (Nat.le_refl _) (by omega) (.inl rfl) (.inl rfl)
 refine ⟨h1,?_,?_⟩
 ·by_cases e:c.last l=0
  ·exact .inl e
  ·refine .inr ?_
   rcases h2 with h2 | h2
   ·exact absurd h2 e
   ·have h2:=of_decide_eq_false h2
    have e2:c.last l - 1+1=c.last l:=by omega
    unfold Cellar.last at e2 ⊢
    rw [e2] at h2
    omega
 ·rcases h3 with h3 | h3
  ·exact .inl h3
  ·exact .inr (of_decide_eq_true h3)
theorem Last_ok {N:Nat} {s:St} {v1 v2 v3 v4:AV} (c:Cellar) (ok:c.Ok) (l:Lot) (okl:l.Ok c.boxes.length) (hN:12≤N) (hC:CellarIn s.h s.n c v1 v2 v3) (hR:RowsAt s.h s.n 3 (l.stays.map Stay.cells) v4) (s4:v4.scalar=true) (hs:s.n+300000≤far) :
  call Try.prog X N (.fn 12) [.agg [.int .i64 c.hl,.int .i64 c.hh,v1,v2,v3],.agg [.int .i64 l.born,.int .i64 l.keeps,v4]] s=.val (.tup [.int .i64 (l.born+(c.last l:Int)),.int .i64 0]) s:=by
 obtain ⟨n,rfl⟩:∃ n,N=n+1:=⟨N - 1,by omega⟩
 refine call_plain' Try.func12 (fun u uh un um=>?_) rfl
 have hff:far=1000000000:=rfl
 rw [← uh,← un] at hC hR
 obtain ⟨w,hw⟩:∃ w:St,w=(u.new (.cells [.int .i64 c.hl,.int .i64 c.hh,v1,v2,v3] (tag 31))).new (.cells [.int .i64 l.born,.int .i64 l.keeps,v4] (tag 35)):=⟨_,rfl⟩
 have wn:w.n=u.n+2:=by rw [hw];rfl
 have wm:w.m=far:=by rw [hw];exact um
 have wg:∀ c,c<u.n→w.h.get c=u.h.get c:=fun c hc=>by rw [hw,get_new_ne _ _ _ (by simp only [new_n];omega),get_new_ne _ _ _ (by omega)]
 have w0:w.h.get u.n=some (.cells [.int .i64 c.hl,.int .i64 c.hh,v1,v2,v3] (tag 31)):=by
  rw [hw,get_new_ne _ _ _ (by simp only [new_n];omega)];exact get_new_eq _ _ _ rfl (by omega)
 have w1:w.h.get (u.n+1)=some (.cells [.int .i64 l.born,.int .i64 l.keeps,v4] (tag 35)):=by
  rw [hw];exact get_new_eq _ _ _ rfl (by simp only [new_n];omega)
 have nn1:∀ o,(u.new o).n=u.n+1:=fun _=>rfl
 have hCw:=hC.grow wg (by omega:u.n≤w.n)
 have hRw:=hR.grow wg (by omega:u.n≤w.n)
 have e1:=checkLot_ok n (by omega) c ok l okl v1 v2 v3 v4 w hCw.at_ hRw (by omega)
 have b0:=okl.b0
 have b1:=okl.b1
 have a1:∀ s,aSub s .i64 240 l.born=.val (.int .i64 (240 - l.born)) s:=fun s=>aSub_i64 s _ _ (by omega)
 rw [enter12]
 simp (disch:=first|omega|(with_unfolding_all exact rfl)|(simp only[new_n,put_n,new_m];omega)|(refine put_m_le ?_;simp only[new_m];omega)) only [res12,K12,K12r0,Abs.W,reduceIte,Nat.reduceEqDiff,Nat.reduceAdd,decide_true,decide_false,kLoop_def,Nat.reduceSub,List.cons_append,List.nil_append,List.append_nil,List.length_cons,List.length_nil,nn1]
 rw [← hw]
 simp (disch:=first|omega|(with_unfolding_all exact rfl)|(simp only[new_n,put_n,new_m];omega)|(refine put_m_le ?_;simp only[new_m];omega)) only [res12,K12r0,K12r1,K12r2,K12r3,K12r4,K12r5,K12r6,K12,Abs.W,reduceIte,Nat.reduceEqDiff,Nat.reduceAdd,decide_true,decide_false,kLoop_def,Nat.reduceSub,List.cons_append,List.nil_append,List.append_nil,List.length_cons,List.length_nil,w0,w1,e1,Nat.zero_add]
 generalize hc:call _ _ _ (.fn 21) _ _=r1
 obtain ⟨vs,vb,t1,rfl,st1,hS⟩:=larderOf_ex c.boxes c.fills c.boxes.length hc (by omega) hCw.at_.b hCw.f ok.b ok.f ok.bok ok.fok (scal_ne hC.s3) hC.s1 hC.s3 (by omega)
 have t1m:t1.m=far:=st1.m.trans wm
 have t1n:=st1.n
 have t1l:=st1.le
 have t1g:=st1.same
 have t1u:∀ c,c<u.n→t1.h.get c=u.h.get c:=fun c hc=>(t1g c (by omega)).trans (wg c hc)
 obtain ⟨f2,c2,sc2⟩:=hC.f.scalar
 have sall:scalars [v1,v2,v3,vb]=scalars [vb]:=by rw [scal_cons _ _ hC.s1,sc2,scal_cons _ _ hC.s3]
 have scb:scalars [vb]=true:=by rw [hS.rows.scalar.2.2];rfl
 have w1':=(t1g (u.n+1) (by omega)).trans w1
 obtain ⟨y,hy⟩:∃ y:St,y=(t1.new (.cells [.int .i64 0,.int .i64 0,.nilslice,.nilslice,.nilslice,.nilslice] (tag 70))).put t1.n (.cells [.int .i64 c.hl,.int .i64 c.hh,v1,v2,v3,vb] (tag 70)):=⟨_,rfl⟩
 have yn:y.n=t1.n+1:=by rw [hy];rfl
 have ym:y.m=min t1.m t1.n:=by rw [hy];simp only [St.put,minN_eq,new_m]
 have yg:∀ c,c≠t1.n→y.h.get c=t1.h.get c:=fun c hc=>by rw [hy,get_put_ne' _ _ _ _ hc,get_new_ne _ _ _ hc]
 have y7:y.h.get t1.n=some (.cells [.int .i64 c.hl,.int .i64 c.hh,v1,v2,v3,vb] (tag 70)):=by rw [hy];exact get_put_eq _ _ _ _ rfl (by omega)
 have y3:=(yg (u.n+1) (by omega)).trans w1'
 have yu:∀ c,c<u.n→y.h.get c=u.h.get c:=fun c hc=>(yg c (by omega)).trans (t1u c hc)
 have hs1:=search_ok (N:=n) (n:=(240 - l.born).toNat) (f:=24) (cp:=[.ptr t1.n 0,.ptr (u.n+1) 0]) (fun k=>decide (l.keeps<(c.lost l (k+1)).2)) y (by omega) (by omega) (by omega) (fun k hk m =>
  last1_ok (s:=⟨y.h,y.n,m⟩) c ok l okl vs (w.n+3) k (by omega) rfl (by omega) (by show y.n+70000≤far;omega) y7 y3 (hR.grow yu (by show u.n≤y.n;omega)) (hS.mono (fun b _ hb=>yg b (by omega)) (by show t1.n≤y.n;omega)) (hC.at_.r.grow yu (by show u.n≤y.n;omega)))
 have et:((240 - l.born).toNat:Int)=240 - l.born:=by omega
 rw [et] at hs1
 have hs2:halves (fun k=>decide (l.keeps<(c.lost l (k+1)).2)) (240 - l.born).toNat 0 (240 - l.born).toNat=c.last l:=rfl
 rw [hs2] at hs1
 have ll:=(c.last_spec l).1
 have a2:∀ s,aAdd s .i64 l.born (c.last l:Int)=.val (.int .i64 (l.born+(c.last l:Int))) s:=fun s=>aAdd_i64 s _ _ (by omega)
 simp (disch:=first|omega|(with_unfolding_all exact rfl)|(simp only[new_n,put_n,new_m];omega)|(refine put_m_le ?_;simp only[new_m];omega)) only [K12r4,Abs.W,reduceIte,Nat.reduceEqDiff,Nat.reduceAdd,decide_true,decide_false,kLoop_def,Nat.reduceSub,List.cons_append,List.nil_append,List.append_nil,List.length_cons,List.length_nil,sall,scb]
 rw [← hy]
 simp (disch:=first|omega|(with_unfolding_all exact rfl)|(simp only[new_n,put_n,new_m];omega)|(refine put_m_le ?_;simp only[new_m];omega)) only [res12,K12r0,K12r1,K12r2,K12r3,K12r4,K12r5,K12r6,K12,Abs.W,reduceIte,Nat.reduceEqDiff,Nat.reduceAdd,decide_true,decide_false,kLoop_def,Nat.reduceSub,List.cons_append,List.nil_append,List.append_nil,List.length_cons,List.length_nil,Env.find_set,y3,w1',a1,a2,hs1,kFunc_def,leave_tmp_tmp,Nat.zero_add]
 exact ⟨_,rfl,by omega⟩
end Go.Proofs.Ytanecldpcceaoaa.walk
set_option maxRecDepth 10000
namespace Go.Proofs.Ytanecldpcceaoaa.walk
open Go.Abs Go.Proofs.Ytanecldpcceaoaa.code
structure Box.Colder (a b:Box):Prop where
 ok:b.Ok
 room:a.room≤b.room
 il:a.il≤b.il
 ih:a.ih≤b.ih
 ml:b.ml≤a.ml
 mh:b.mh=a.mh
 w:b.cl=a.cl∧b.ch=a.ch∧b.wl=a.wl∧b.wh=a.wh
theorem colder_round (n:Nat) (hn:5≤n) (cx:Ctx) (bs:List Box) (a b:Int) (w1 w2 w3:AV) (d p7 lo n1 i:Nat) (L:Env) (s:St) (hi:i<bs.length) (hB:(bs[i]).Ok) (hB5:(bs[i]).room≤500) (hd:Die d s.h) (hdl:d<lo) (hlo:lo≤n1) (hn1:n1≤p7) (hp7:p7<s.n) (hs:s.n+1000≤far) (hk:bs.length≤6)
  (g7:s.h.get p7=some (.cells [.int .i64 a,.int .i64 b,w1,w2,w3] (tag 31))) (own:Own s.h lo n1 9 (tag 42) (bs.map Box.cells) w1)
  (l3:L.find 3=.ptr d 0) (l7:L.find 7=.ptr p7 0) (l9:L.find 9=.int .i64 i) :
  ∃ L1 s1 B,K3l0 (knows 13 (call Try.prog X n)) cx L [] s=.done .norm L1 [] s1∧(∀ t,t=3∨t=4∨t=5∨t=6∨t=7→L1.find t=L.find t)∧L1.find 9=.int .i64 ((i:Int)+1)∧(bs[i]).Colder B ∧
   Own s1.h lo n1 9 (tag 42) ((bs.set i B).map Box.cells) w1∧Die d s1.h∧(∀ c,c<s.n→c≠d→(c<lo∨n1≤c)→s1.h.get c=s.h.get c)∧s.n≤s1.n∧s1.n≤s.n+5:=by
 have hff:far=1000000000:=rfl
 have kn14:∀ args s,knows 13 (call Try.prog X n) (.fn 9) args s=call Try.prog X n (.fn 9) args s:=fun _ _=>rfl
 have kn31:∀ args s,knows 13 (call Try.prog X n) (.fn 10) args s=call Try.prog X n (.fn 10) args s:=fun _ _=>rfl
 have e0:decide ((i:Int)<(bs.length:Int))=true:=by simp;omega
 obtain ⟨bb,hb0,hb1,rfl,gb⟩:∃ bb,lo≤bb∧bb<n1∧w1=.slice bb 0 bs.length bs.length true∧s.h.get bb=some (.cells (bs.map Box.cells).flatten (9+tag 42)):=by
  rcases own.is with ⟨h,_⟩ | ⟨_,bb,h1,h2,h3,h4⟩
  ·rw [List.map_eq_nil_iff] at h;subst h;simp at hi
  ·rw [List.length_map] at h3;exact ⟨bb,h1,h2,h3,h4⟩
 have hil:i<(bs.map Box.cells).length:=by rw [List.length_map];exact hi
 have hw:=box_wide bs
 obtain ⟨room,il,ih,ml,mh,cl,ch,wl,wh,hBe⟩:∃ room il ih ml mh cl ch wl wh,bs[i]=⟨room,il,ih,ml,mh,cl,ch,wl,wh⟩:=⟨_,_,_,_,_,_,_,_,_,rfl⟩
 have hset:(bs.map Box.cells).set i [.int .i64 room,.int .i64 il,.int .i64 ih,.int .i64 ml,.int .i64 mh,.int .i64 cl,.int .i64 ch,.int .i64 wl,.int .i64 wh]=bs.map Box.cells:=by
  have:(bs.map Box.cells)[i]=[.int .i64 room,.int .i64 il,.int .i64 ih,.int .i64 ml,.int .i64 mh,.int .i64 cl,.int .i64 ch,.int .i64 wl,.int .i64 wh]:=by rw [List.getElem_map,hBe];rfl
  rw [← this,List.set_getElem_self]
 rw [hBe] at hB hB5
 obtain ⟨o1,o2,o3,o4,o5,o6,o7,o8,o9,o10,o11,o12,o13⟩:=hB
 simp only at o1 o2 o3 o4 o5 o6 o7 o8 o9 o10 o11 o12 o13 hB5
 rw [← hset] at gb
 simp (disch:=first|omega|(with_unfolding_all exact rfl)|(simp only[new_n,put_n,new_m];omega)|(refine put_m_le ?_;simp only[new_m];omega)) only [K3l0,K3r9,K3r10,K3r11,Abs.W,reduceIte,Nat.reduceEqDiff,Nat.reduceAdd,decide_true,decide_false,kLoop_def,Nat.reduceSub,List.cons_append,List.nil_append,List.append_nil,List.length_cons,List.length_nil,Env.find_set,l3,l7,l9,g7,e0,kn14,ixs_slice _ _ _ _ _ _ _ _ hi,Nat.zero_add]
 generalize hc1:call _ _ _ (.fn 9) _ _=r1
 obtain ⟨x,t1,rfl,st1,d1,x0,x1⟩:=cast_ex hc1 (by omega) hd (by omega) (by omega) (by omega)
 have n1':s.n≤t1.n:=st1.n
 have k1:t1.n≤s.n:=st1.le
 have gb1:=(st1.same bb (by omega) (by omega)).trans gb
 have a1:∀ s,aAdd s .i64 room x=.val (.int .i64 (room+x)) s:=fun s=>aAdd_i64 s _ _ (by omega)
 have a2:∀ s,aAdd s .i64 il x=.val (.int .i64 (il+x)) s:=fun s=>aAdd_i64 s _ _ (by omega)
 have a3:∀ s,aAdd s .i64 ih x=.val (.int .i64 (ih+x)) s:=fun s=>aAdd_i64 s _ _ (by omega)
 have a4:∀ s,aAdd s .i64 (i:Int) 1=.val (.int .i64 ((i:Int)+1)) s:=fun s=>aAdd_i64 s _ _ (by omega)
 simp (disch:=first|omega|(with_unfolding_all exact rfl)|(simp only[new_n,put_n,new_m];omega)|(refine put_m_le ?_;simp only[new_m];omega)) only [K3r12,Abs.W,reduceIte,Nat.reduceEqDiff,Nat.reduceAdd,decide_true,decide_false,kLoop_def,Nat.reduceSub,List.cons_append,List.nil_append,List.append_nil,List.length_cons,List.length_nil,Env.find_set,l3,l7,l9,gb1,a1,a2,a3,nth_cell hw hil,nth_cell0 hw hil,over_cell hw hil,over_cell0 hw hil,List.set_cons_zero,List.set_cons_succ,Nat.add_assoc,Nat.reduceAdd,Nat.add_zero,Nat.zero_add,endO_nil,regD_ok]
 generalize hy:St.put (St.put (St.put t1 bb _) bb _) bb _=y
 have yn:y.n=t1.n:=by rw [← hy];rfl
 have yg:∀ c,c≠bb→y.h.get c=t1.h.get c:=fun c hc=>by rw [← hy,get_put_ne' _ _ _ _ hc,get_put_ne' _ _ _ _ hc,get_put_ne' _ _ _ _ hc]
 have yb:y.h.get bb=some (.cells ((bs.map Box.cells).set i [.int .i64 (room+x),.int .i64 (il+x),.int .i64 (ih+x),.int .i64 ml,.int .i64 mh,.int .i64 cl,.int .i64 ch,.int .i64 wl,.int .i64 wh]).flatten (9+tag 42)):=by rw [← hy];exact get_put_eq _ _ _ _ rfl (by omega)
 have dy:Die d y.h:=by obtain ⟨f,hf'⟩:=d1;exact ⟨f,by rw [yg _ (by omega)];exact hf'⟩
 clear hy
 simp (disch:=first|omega|(with_unfolding_all exact rfl)|(simp only[new_n,put_n,new_m];omega)|(refine put_m_le ?_;simp only[new_m];omega)) only [K3r13,Abs.W,reduceIte,Nat.reduceEqDiff,Nat.reduceAdd,decide_true,decide_false,kLoop_def,Nat.reduceSub,List.cons_append,List.nil_append,List.append_nil,List.length_cons,List.length_nil,Env.find_set,l3,kn31,yb,nth_cell hw hil,nth_cell0 hw hil,Nat.add_assoc,Nat.reduceAdd,Nat.add_zero,Nat.zero_add]
 generalize hc2:call _ _ _ (.fn 10) _ _=r2
 obtain ⟨ml',t2,rfl,st2,d2,m0,m1⟩:=from_ex hc2 (by omega) dy (by omega) (by omega) (by omega) (by omega) (by omega) (by omega)
 have n2':y.n≤t2.n:=st2.n
 have k2:t2.n≤y.n:=st2.le
 have gb2:=(st2.same bb (by omega) (by omega)).trans yb
 simp (disch:=first|omega|(with_unfolding_all exact rfl)|(simp only[new_n,put_n,new_m];omega)|(refine put_m_le ?_;simp only[new_m];omega)) only [K3r14,Abs.W,reduceIte,Nat.reduceEqDiff,Nat.reduceAdd,decide_true,decide_false,kLoop_def,Nat.reduceSub,List.cons_append,List.nil_append,List.append_nil,List.length_cons,List.length_nil,Env.find_set,l3,l7,l9,gb2,a4,over_cell hw hil,over_cell0 hw hil,List.set_cons_zero,List.set_cons_succ,Nat.add_assoc,Nat.reduceAdd,Nat.add_zero,Nat.zero_add]
 refine ⟨_,_,⟨room+x,il+x,ih+x,ml',mh,cl,ch,wl,wh⟩,rfl,fun t ht=>?_,?_,?_,⟨?_,.inr ⟨?_,bb,hb0,hb1,?_,?_⟩⟩,?_,fun c hc hcd hcl=>?_,?_,?_⟩
 ·rcases ht with rfl | rfl | rfl | rfl | rfl<;>simp only [Env.find_set,reduceIte,Nat.reduceEqDiff]
 ·simp only [Env.find_set,reduceIte,Nat.reduceEqDiff]
 ·rw [hBe]
  exact ⟨⟨by simp only;omega,by simp only;omega,by simp only;omega,by simp only;omega,by simp only;omega,by simp only;omega,by simp only;omega,o8,o9,o10,o11,o12,o13⟩,by simp only;omega,by simp only;omega,by simp only;omega,by simp only;omega,rfl,rfl,rfl,rfl,rfl⟩
 ·exact box_wide _
 ·intro h
  have:=congrArg List.length h
  rw [List.length_map,List.length_set,List.length_nil] at this
  omega
 ·rw [List.length_map,List.length_set]
 ·rw [List.map_set]
  exact get_put_eq _ _ _ _ rfl (by omega)
 ·obtain ⟨f,hf'⟩:=d2
  exact ⟨f,by rw [get_put_ne' _ _ _ _ (by omega)];exact hf'⟩
 ·rw [get_put_ne' _ _ _ _ (by omega),st2.same c (by omega) hcd,yg c (by omega),st1.same c hc hcd]
 ·simp only [put_n];omega
 ·simp only [put_n];omega
end Go.Proofs.Ytanecldpcceaoaa.walk
