/- Who can have a stall, the one first that is ahead of all others. -/
import Derived.Test.YtbcjojljiochfaaM5
import Derived.Test.YtbcjojljiochfaaCodes
import Derived.Test.YtbcjojljiochfaaAbsOps
import Derived.Test.YtbcjojljiochfaaWalkAll
set_option linter.unusedSimpArgs false
set_option maxHeartbeats 16000000
set_option linter.unusedVariables false
set_option maxRecDepth 10000
namespace Go.Proofs.Ytbcjojljiochfaa.walk
open Go.Abs Go.Proofs.Ytbcjojljiochfaa.code
theorem perm_ix:∀ {l:List Nat} {i:Nat} (h:i<l.length),List.Perm (l[i]::l.eraseIdx i) l
 | a::r,0,_=>List.Perm.refl _
 | a::r,i+1,h=>by
  show List.Perm (r[i]'(by simpa using h)::a::r.eraseIdx i) (a::r)
  exact (List.Perm.swap a _ _).trans ((perm_ix (by simpa using h)).cons a)
theorem pickL_perm:∀ (m T:Nat) (l:List Nat),l.length=m→List.Perm (pickL m T l) l
 | 0,_,l,h=>by rw [List.length_eq_zero_iff.mp h];exact List.Perm.nil
 | m+1,T,l,h=>by
  have hp:T % l.length<l.length:=Nat.mod_lt _ (by omega)
  unfold pickL
  have e:l.getD (T % l.length) 0=l[T % l.length]:=by simp [List.getD,hp]
  rw [e]
  exact (List.Perm.cons _ (pickL_perm m _ _ (by rw [List.length_eraseIdx_of_lt hp];omega))).trans (perm_ix hp)
theorem drawL_perm (l:Letting):List.Perm (drawL l) (List.range l.appls.length):=pickL_perm _ _ _ List.length_range
theorem drawL_nd (l:Letting):(drawL l).Nodup:=(drawL_perm l).nodup_iff.mpr List.nodup_range
theorem drawL_mem (l:Letting) {a:Nat}:a ∈ drawL l↔a<l.appls.length:=(drawL_perm l).mem_iff.trans List.mem_range
def drI (l:Letting):Int→Int:=getP (plAll (drawL l))
theorem drI_at (l:Letting) {a:Nat} (ha:a<l.appls.length):∃ i,i<l.appls.length∧at0 (drawL l) i=a∧drI l a=i:=by
 obtain ⟨i,h1,h2⟩:=mem_at.mp ((drawL_mem l).mpr ha)
 refine ⟨i,by rw [← drawL_len l];exact h1,h2,?_⟩
 rw [← h2];exact plAll_at (drawL_nd l) h1
theorem drI_lt {l:Letting} (ok:l.Ok) {a:Nat} (ha:a<l.appls.length):0≤drI l a∧drI l a≤7:=by
 obtain ⟨i,h1,_,h2⟩:=drI_at l ha
 have:=ok.m1
 omega
theorem drI_ne {l:Letting} {a b:Nat} (ha:a<l.appls.length) (hb:b<l.appls.length) (h:a≠b):drI l a≠drI l b:=by
 obtain ⟨i,_,h1,h2⟩:=drI_at l ha
 obtain ⟨j,_,h3,h4⟩:=drI_at l hb
 intro e
 have:i=j:=by omega
 subst this
 exact h (h1.symm.trans h3)
def canI (l:Letting) (st a:Nat):Bool:=(bidI l st a).2
def keyL (l:Letting) (st:Nat):Nat→Int:=keyI l st (drI l)
theorem keyL_ne {l:Letting} (ok:l.Ok) (st:Nat) {a b:Nat} (ha:a<l.appls.length) (hb:b<l.appls.length) (h:a≠b):keyL l st a≠keyL l st b:=(ahead_key ok st ha hb h (drI_lt ok ha) (drI_lt ok hb) (drI_ne ha hb h)).2
def ableL (l:Letting) (st:Nat):List Nat:=(List.range l.appls.length).filter (canI l st)
theorem ableL_mem {l:Letting} {st a:Nat}:a ∈ ableL l st↔a<l.appls.length∧canI l st a=true:=by
 unfold ableL;rw [List.mem_filter,List.mem_range]
theorem ableL_len {l:Letting} (ok:l.Ok) (st:Nat):(ableL l st).length≤8:=by
 have h1:=List.length_filter_le (canI l st) (List.range l.appls.length)
 rw [List.length_range] at h1
 have:=ok.m1
 unfold ableL;omega
structure RankOf (l:Letting) (st:Nat) (g:List Nat):Prop where
 same:Same (ableL l st) g (ableL l st).length
 up:Upto (keyL l st) g (ableL l st).length
theorem rows_take {h:Heap} {n b m k sz:Nat} {g:List Nat} (hg:h.get b=some (.cells (natRows g).flatten sz)) (hb:b<n) (hm:g.length=m) (hk:k≤m):RowsAt h n 1 (natRows (g.take k)) (.slice b 0 k m false):=by
 have hl:(natRows (g.take k)).length=k:=by rw [natRows_len,List.length_take];omega
 refine ⟨fun s=>by rw [hl];rfl,fun i hi=>⟨b,i,_,_,hb,fun s=>?_,hg,?_⟩⟩
 ·rw [hl] at hi
  rw [ixs_slice 1 s b 0 k m false i hi,Nat.zero_add,Nat.mul_one]
 ·rw [hl] at hi
  have hi2:i<(natRows g).length:=by rw [natRows_len];omega
  have:=flatten_cut (natRows_wide g) hi2
  rw [Nat.mul_one] at this
  rw [this]
  congr 1
  rw [natRows_at (show i<g.length by omega),natRows_at (show i<(g.take k).length by rw [List.length_take];omega)]
  simp [List.getD,hi]
theorem ranks_ex {N:Nat} {no na:Nat→Prop} {l:Letting} {vS vA:AV} {st:Nat} {s:St} {r:ARes} (hr:call Try.prog X N (.fn 49) [.agg (letV vS vA),.int .i64 (st:Int)] s=r) (hN:14≤N) (ok:l.Ok) (hst:st<l.stalls.length) (hL:LetAt no na s.h s.n l vS vA) (hs:s.n+600000≤far) :
  ∃ w bd g t,r=.val w t∧New s t 3000∧s.n≤bd∧IsAt t.h t.n bd 1 (tag 3) (natRows g) w∧RankOf l st g:=by
 obtain ⟨N,rfl⟩:∃ n,N=n+7:=⟨N - 7,by omega⟩
 have hf:far=1000000000:=rfl
 obtain ⟨w',t,e,st',bd,g,hq⟩:=call_new' (n:=N+6) (args:=[.agg (letV vS vA),.int .i64 (st:Int)]) (s:=s) (k:=3000) (Q:=fun w h n=>∃ bd g,s.n≤bd∧IsAt h n bd 1 (tag 3) (natRows g) w∧RankOf l st g) Try.func49 rfl (fun u uh un um=>by
  rw [← uh,← un] at hL
  rw [← un]
  have m1:=ok.m1
  have kA:=hL.okV
  have kS:=hL.okS
  have lA:=hL.lenA
  obtain ⟨ws,_,qA,_⟩:=hL.ap
  have sA:=qA.scal
  have sS:=hL.st.scal
  obtain ⟨w,hw⟩:∃ w:St,w=(u.new (.cells [vS,vA] (tag 28))).new (.cells [.int .i64 (st:Int)] (tag 3)):=⟨_,rfl⟩
  have wn:w.n=u.n+2:=by rw [hw];rfl
  have wm:w.m=far:=by rw [hw];exact um
  have wg:∀ c,c<u.n→w.h.get c=u.h.get c:=fun c hc=>by rw [hw,get_new_ne _ _ _ (by rw [new_n];omega),get_new_ne _ _ _ (by omega)]
  have w0:w.h.get u.n=some (.cells [vS,vA] (tag 28)):=by rw [hw,get_new_ne _ _ _ (by rw [new_n];omega)];exact get_new_eq _ _ _ rfl (by omega)
  have w1:w.h.get (u.n+1)=some (.cells [.int .i64 (st:Int)] (tag 3)):=by rw [hw];exact get_new_eq _ _ _ rfl (by rw [new_n];omega)
  have hM:=hL.grow wg (by omega:u.n≤w.n)
  have c2:=draw_ok (N+6) (by omega) l ok vS vA w hM (by omega)
  have l8:(drawL l++List.replicate (8 - l.appls.length) 0).length=8:=by rw [List.length_append,List.length_replicate,drawL_len];omega
  obtain ⟨df,hdf⟩:∃ df,df=drawL l++List.replicate (8 - l.appls.length) 0:=⟨_,rfl⟩
  rw [← hdf] at c2 l8
  have ao:=arr_overAll (f:=List.replicate 8 0) (g:=df) rfl l8
  have asx:=arr_scal df
  have aln:=arr_len df
  have sl:=fun s=>sliceArr_to s w.n l.appls.length (by omega)
  have okr:∀ s,okA (.val (.agg (arr df)) s)=.val (.agg (arr df)) s:=fun _=>rfl
  rw [enter49]
  simp (disch:=first|omega|(with_unfolding_all exact rfl)|(simp only[new_n,put_n,new_m];omega)|(refine put_m_le ?_;simp only[new_m];omega)) only [K49,K49r0,Abs.W,reduceIte,Nat.reduceEqDiff,Nat.reduceAdd,decide_true,decide_false,kLoop_def,Nat.reduceSub,List.cons_append,List.nil_append,List.append_nil,List.length_cons,List.length_nil,boxIntE,new_n]
  rw [← hw]
  simp (disch:=first|omega|(with_unfolding_all exact rfl)|(simp only[new_n,put_n,new_m];omega)|(refine put_m_le ?_;simp only[new_m];omega)) only [K49r1,Abs.W,reduceIte,Nat.reduceEqDiff,Nat.reduceAdd,decide_true,decide_false,kLoop_def,Nat.reduceSub,List.cons_append,List.nil_append,List.append_nil,List.length_cons,List.length_nil,Env.find_set,w0,c2,kA,kS,ao,asx,aln,l8,arr_zero,Nat.zero_add]
  generalize hy:St.put _ _ _=y
  have yn:y.n=u.n+3:=by rw [← hy,put_n,new_n];omega
  have yg:∀ c,c<w.n→y.h.get c=w.h.get c:=fun c hc=>by rw [← hy,get_put_ne' _ _ _ _ (by omega),get_new_ne _ _ _ (by omega)]
  have yd:∃ z,y.h.get w.n=some (.cells (arr df) z):=⟨_,by rw [← hy];exact get_put_eq _ _ _ _ rfl (by omega)⟩
  have ym:u.n≤y.m:=by rw [← hy];simp only [St.put,minN_eq,new_m];omega
  have ym2:y.m≤far:=by rw [← hy];simp only [St.put,minN_eq,new_m];omega
  obtain ⟨z,yd⟩:=yd
  have y0:=(yg u.n (by omega)).trans w0
  have y1:=(yg (u.n+1) (by omega)).trans w1
  simp (disch:=first|omega|(with_unfolding_all exact rfl)|(simp only[new_n,put_n,new_m];omega)|(refine put_m_le ?_;simp only[new_m];omega)) only [K49r2,Abs.W,reduceIte,Nat.reduceEqDiff,Nat.reduceAdd,decide_true,decide_false,kLoop_def,Nat.reduceSub,List.cons_append,List.nil_append,List.append_nil,List.length_cons,List.length_nil,Env.find_set,y0,y1,kA,kS,lA,kSlice_def,optEv_some,optEv_none,sl,Nat.zero_add]
  generalize hc:call _ _ _ (.fn 54) _ _=rc
  have etk:df.take l.appls.length=drawL l:=by rw [hdf,← drawL_len l];simp
  have hRd:=rows_take (k:=l.appls.length) (n:=y.n) yd (by omega) l8 (by omega)
  rw [etk] at hRd
  obtain ⟨t1,rfl,s1,n1,g1⟩:=places_ex (f:=drawL l) hc (by omega) hRd (by rw [drawL_len];omega) (by show y.n+100≤far;omega)
  have n1':t1.n=y.n+1:=n1
  have k1:t1.m=far:=s1.m
  have h1:∀ c,c<y.n→t1.h.get c=y.h.get c:=s1.same
  have g1':t1.h.get y.n=some (.map (mapV (plAll (drawL l)))):=g1
  have scM:∀ b l,scalars (.map b::l)=scalars l:=fun _ _=>rfl
  have ceM:∀ b,cellsOf 1 (.map b)=some [.map b]:=fun _=>rfl
  simp (disch:=first|omega|(with_unfolding_all exact rfl)|(simp only[new_n,put_n,new_m];omega)|(refine put_m_le ?_;simp only[new_m];omega)) only [thenT_val,Abs.W,reduceIte,Nat.reduceEqDiff,Nat.reduceAdd,decide_true,decide_false,kLoop_def,Nat.reduceSub,List.cons_append,List.nil_append,List.append_nil,List.length_cons,List.length_nil,Env.find_set,scM,ceM,sS.1,sS.2.1,sS.2.2,sA.1,sA.2.1,sA.2.2,Nat.zero_add]
  generalize hq:St.put _ _ _=q
  have qn:q.n=u.n+5:=by rw [← hq,put_n,new_n];show t1.n+1=_;omega
  have qg:∀ c,c<t1.n→q.h.get c=t1.h.get c:=fun c hc=>by rw [← hq,get_put_ne' _ _ _ _ (by omega)];exact get_new_ne _ _ _ (by show c≠t1.n;omega)
  have qq:∃ z,q.h.get t1.n=some (.cells [vS,vA,.int .i64 (st:Int),.map y.n] z):=⟨_,by rw [← hq];exact get_put_eq _ _ _ _ rfl (by omega)⟩
  have qm:u.n≤q.m∧q.m≤far:=by rw [← hq];simp only [St.put,minN_eq,new_m];omega
  obtain ⟨z2,qq⟩:=qq
  have qgu:∀ c,c<u.n→q.h.get c=u.h.get c:=fun c hc=>(qg c (by omega)).trans ((h1 c (by omega)).trans ((yg c (by omega)).trans (wg c hc)))
  have q0:=(qg u.n (by omega)).trans ((h1 u.n (by omega)).trans y0)
  have q1:=(qg (u.n+1) (by omega)).trans ((h1 (u.n+1) (by omega)).trans y1)
  have qmp:=(qg y.n (by omega)).trans g1'
  have hLq:=hL.grow qgu (by omega:u.n≤q.n)
  simp (disch:=first|omega|(with_unfolding_all exact rfl)|(simp only[new_n,put_n,new_m];omega)|(refine put_m_le ?_;simp only[new_m];omega)) only [K49r3,Abs.W,reduceIte,Nat.reduceEqDiff,Nat.reduceAdd,decide_true,decide_false,kLoop_def,Nat.reduceSub,List.cons_append,List.nil_append,List.append_nil,List.length_cons,List.length_nil,Env.find_set,q0,kA,kS,Nat.zero_add]
  generalize hc2:call _ _ _ (.fn 41) _ _=rc
  obtain ⟨t2,rfl,s2,n2,g2⟩:=everybody_ex hc2 (by omega) ok hLq (by omega)
  have m2:=s2.m
  have h2:=s2.same
  simp (disch:=first|omega|(with_unfolding_all exact rfl)|(simp only[new_n,put_n,new_m];omega)|(refine put_m_le ?_;simp only[new_m];omega)) only [Abs.W,reduceIte,Nat.reduceEqDiff,Nat.reduceAdd,decide_true,decide_false,kLoop_def,Nat.reduceSub,List.cons_append,List.nil_append,List.append_nil,List.length_cons,List.length_nil,Env.find_set,kFuncE]
  generalize hc3:call _ _ _ (.fn 61) _ _=rc
  have hD:∀ M,N+4≤M→Dels M q.n (.func 62 [] [.ptr u.n 0,.ptr (u.n+1) 0]) (fun y=>y<q.n) t2.h (fun a=>!canI l st a) (List.range l.appls.length):=fun M hM s hs hn hfar a ha=>by
   rw [callV_func]
   have hLs:=hLq.bound.move (h':=s.h) (n':=s.n) (no':=fun y=>no y∧y<q.n) (na':=fun y=>na y∧y<q.n) (fun b h1 h2'=>⟨(hs b h1).trans (h2 b h1),h2'⟩) (fun b h1 h2'=>⟨(hs b h1).trans (h2 b h1),h2'⟩) hn
   exact able_ok M (by omega) ok (List.mem_range.mp ha) hLs ((hs u.n (by omega)).trans ((h2 u.n (by omega)).trans q0)) ((hs (u.n+1) (by omega)).trans ((h2 (u.n+1) (by omega)).trans q1)) (by omega)
  obtain ⟨g3,k3,t3,rfl,d1,d2,d3,d4,d5,d6,d7,d8⟩:=delete_ex (N:=N+4) hc3 hD rfl (by omega) g2 List.length_range m1 (by omega) (by omega) (by omega) (by omega)
  have eab:(List.range l.appls.length).filter (fun a=>!(!canI l st a))=ableL l st:=by unfold ableL;simp
  rw [eab] at d3 d4
  have hk3:k3≤l.appls.length:=by
   have:=List.length_filter_le (canI l st) (List.range l.appls.length)
   rw [List.length_range] at this
   rw [d4];exact this
  have hRt:=rows_take (n:=t3.n) d1 (by omega) d2 hk3
  rw [d3] at hRt
  have t3g:∀ c,c<q.n→t3.h.get c=q.h.get c:=fun c hc=>(d5 c (by omega)).trans (h2 c hc)
  have t3q:=(t3g t1.n (by omega)).trans qq
  have t3m:=(t3g y.n (by omega)).trans qmp
  simp (disch:=first|omega|(with_unfolding_all exact rfl)|(simp only[new_n,put_n,new_m];omega)|(refine put_m_le ?_;simp only[new_m];omega)) only [K49r4,Abs.W,reduceIte,Nat.reduceEqDiff,Nat.reduceAdd,decide_true,decide_false,kLoop_def,Nat.reduceSub,List.cons_append,List.nil_append,List.append_nil,List.length_cons,List.length_nil,Env.find_set,kFuncE,t3q,sS.1,sS.2.1,sS.2.2,sA.1,sA.2.1,sA.2.2,kA,kS]
  generalize hc4:call _ _ _ (.fn 63) _ _=rc
  have hLt:=hLq.bound.move (h':=t3.h) (n':=q.n) (no':=fun y=>no y∧y<q.n) (na':=fun y=>na y∧y<q.n) (fun b h1 h2'=>⟨t3g b h1,h2'⟩) (fun b h1 h2'=>⟨t3g b h1,h2'⟩) (Nat.le_refl _)
  obtain ⟨v4,bd,g,t4,rfl,s4,hbd,hI,hS,hU⟩:=sorted_ex (N:=N) (nb:=q.n) (f:=ableL l st) hc4 (by omega) ok hst hLt t3m (by omega) (by omega) (fun a ha=>⟨(ableL_mem.mp ha).1,drI_lt ok (ableL_mem.mp ha).1⟩) (fun a ha b hb hab=>drI_ne (ableL_mem.mp ha).1 (ableL_mem.mp hb).1 hab) hRt (List.nodup_range.sublist List.filter_sublist) (ableL_len ok st) (by omega)
  have n4:=s4.n
  have l4:=s4.le
  have m4:=s4.m
  have kv4:∀ t,okA (.val v4 t)=.val v4 t:=fun t=>hI.okA t
  simp (disch:=first|omega|(with_unfolding_all exact rfl)|(simp only[new_n,put_n,new_m];omega)|(refine put_m_le ?_;simp only[new_m];omega)) only [Abs.W,reduceIte,Nat.reduceEqDiff,Nat.reduceAdd,decide_true,decide_false,kLoop_def,Nat.reduceSub,List.cons_append,List.nil_append,List.append_nil,List.length_cons,List.length_nil,Env.find_set,res49,kv4]
  refine ⟨_,_,rfl,⟨fun c hc=>(s4.same c (by omega)).trans ((t3g c (by omega)).trans (qgu c hc)),by omega,by omega,by omega,by omega⟩,⟨bd,g,by omega,hI,hS,hU⟩,fun hp=>?_⟩
  rcases hI.is with ⟨z1,z2⟩ | ⟨_,_,z,_⟩
  ·exact ⟨u.n,g,Nat.le_refl _,by rw [z1,z2];exact IsAt.nil _ _ _ _ _,hS,hU⟩
  ·subst z;cases hp)
 exact ⟨w',bd,g,t,hr.symm.trans e,st',hq⟩
end Go.Proofs.Ytbcjojljiochfaa.walk
set_option maxRecDepth 10000
namespace Go.Proofs.Ytbcjojljiochfaa.walk
open Go.Abs Go.Proofs.Ytbcjojljiochfaa.code
def RkS (h:Heap) (n bm lo:Nat) (l:Letting) (k:Nat) (v:AV):Prop :=
 ∃ ms:List Nat,ms.length=k∧IsAt h n bm 1 (tag 91) (ms.map fun m=>[.map m]) v∧∀ j (hj:j<ms.length),lo≤ms[j]∧ms[j]<n∧ms[j]≠bm∧∃ g,RankOf l j g∧h.get ms[j]=some (.map (mapV (plAll g)))
section
variable {h h':Heap} {n n' bm lo k:Nat} {l:Letting} {v:AV}
theorem RkS.nil (h:Heap) (n bm lo:Nat) (l:Letting):RkS h n bm lo l 0 .nilslice:=⟨[],rfl,IsAt.nil _ _ _ _ _,fun j hj=>by simp at hj⟩
theorem RkS.move (a:RkS h n bm lo l k v) (hb:bm<n→lo≤bm) (hh:∀ c,c<n→lo≤c→h'.get c=h.get c) (hn:n≤n'):RkS h' n' bm lo l k v:=by
 obtain ⟨ms,h1,h2,h3⟩:=a
 refine ⟨ms,h1,h2.mono (fun h=>hh _ h (hb h)) hn,fun j hj=>?_⟩
 obtain ⟨a1,a2,a3,g,a4,a5⟩:=h3 j hj
 exact ⟨a1,by omega,a3,g,a4,by rw [hh _ a2 a1];exact a5⟩
theorem RkS.weak {lo':Nat} (a:RkS h n bm lo l k v) (hl:lo'≤lo):RkS h n bm lo' l k v:=by
 obtain ⟨ms,h1,h2,h3⟩:=a
 refine ⟨ms,h1,h2,fun j hj=>?_⟩
 obtain ⟨a1,a2⟩:=h3 j hj
 exact ⟨by omega,a2⟩
theorem RkS.okA (a:RkS h n bm lo l k v) (t:St):Abs.okA (.val v t)=.val v t:=by obtain ⟨_,_,h2,_⟩:=a;exact h2.okA t
theorem RkS.get (a:RkS h n bm lo l k v) {j:Nat} (hj:j<k) :
  ∃ m p c sz g,(∀ s,ixsA 1 s v (.int .i64 (j:Int))=.val (.ptr bm p) s)∧h.get bm=some (.cells c sz)∧nth c p=.map m∧RankOf l j g∧h.get m=some (.map (mapV (plAll g)))∧bm<n∧m<n:=by
 obtain ⟨ms,h1,h2,h3⟩:=a
 have hr:j<ms.length:=by omega
 obtain ⟨a1,a2,a3,g,a4,a5⟩:=h3 j hr
 rcases h2.is with ⟨z,_⟩ | ⟨_,z1,z2,z3⟩
 ·rw [List.map_eq_nil_iff] at z
  subst z
  simp at hr
 ·refine ⟨ms[j],0+j * 1,_,_,g,fun s=>by rw [z2];exact ixs_slice 1 s bm 0 _ _ true j (by rw [List.length_map];exact hr),z3,?_,a4,a5,z1,a2⟩
  rw [Nat.zero_add]
  have:=flatten_cut (rows:=ms.map fun m=>[AV.map m]) (w:=1) (i:=j) h2.wide (by rw [List.length_map];exact hr)
  exact cut1_nth (this.trans (by simp))
theorem RkS.slice (a:RkS h n bm lo l k v) (hk:0<k):v=.slice bm 0 k k true∧bm<n:=by
 obtain ⟨ms,h1,h2,h3⟩:=a
 rcases h2.is with ⟨z,_⟩ | ⟨_,z1,z2,z3⟩
 ·rw [List.map_eq_nil_iff] at z
  subst z
  simp at h1;omega
 ·rw [List.length_map,h1] at z2
  exact ⟨z2,z1⟩
end
theorem RkS.push {s:St} {bm lo k m:Nat} {l:Letting} {v:AV} {g:List Nat} (a:RkS s.h s.n bm lo l k v) (hg:RankOf l k g) (hm:s.h.get m=some (.map (mapV (plAll g)))) (hlo:lo≤m) (hmn:m<s.n) (hmb:m≠bm) {p sz:Nat} (hp:s.h.get p=some (.cells [.map m] sz)) (hl:k+1≤1000) (hs:s.n+10≤far) :
  ∃ v' s',appendA false 1 8 (tag 91) s v (.slice p 0 1 1 false)=.val v' s'∧RkS s'.h s'.n s.n lo l (k+1) v'∧s'.n=s.n+1∧(∀ c,c<s.n→c≠bm→s'.h.get c=s.h.get c)∧(∀ k,k≤bm→k≤s.n→k≤s.m→k≤s'.m)∧s'.m≤s.m:=by
 have hf:far=1000000000:=rfl
 obtain ⟨ms,h1,h2,h3⟩:=a
 obtain ⟨s',e1,e2,e3,e4,e5,e6⟩:=append_at (bytes:=8) h2 hp rfl rfl (by rw [List.length_map];omega) (by kernel_rfl) (by omega)
 refine ⟨_,s',e1,⟨ms++[m],by simp [h1],by rw [List.map_append];exact e2,fun j hj=>?_⟩,e3,e4,e5,e6⟩
 by_cases e:j<ms.length
 ·obtain ⟨a1,a2,a3,g',a4,a5⟩:=h3 j e
  rw [List.getElem_append_left e]
  exact ⟨a1,by omega,by omega,g',a4,by rw [e4 _ a2 a3];exact a5⟩
 ·have hj:j=ms.length:=by rw [List.length_append,List.length_singleton] at hj;omega
  subst hj
  rw [List.getElem_append_right (Nat.le_refl _)]
  simp only [Nat.sub_self,List.getElem_singleton]
  rw [h1]
  exact ⟨hlo,by omega,by omega,g,hg,by rw [e4 _ hmn hmb];exact hm⟩
theorem rank_ex {N:Nat} {no na:Nat→Prop} {l:Letting} {vS vA:AV} {s:St} {r:ARes} (hr:call Try.prog X N (.fn 39) [.agg (letV vS vA)] s=r) (hN:15≤N) (ok:l.Ok) (hL:LetAt no na s.h s.n l vS vA) (hs:s.n+700000≤far) :
  ∃ v t bm,r=.val v t∧New s t 30000∧RkS t.h t.n bm s.n l l.stalls.length v∧s.n≤bm:=by
 obtain ⟨n,rfl⟩:∃ n,N=n+1:=⟨N - 1,by omega⟩
 have hf:far=1000000000:=rfl
 obtain ⟨v,t,e,st,bm,hq⟩:=call_new (n:=n) (args:=[.agg (letV vS vA)]) (s:=s) (k:=30000) (Q:=fun v h n=>∃ bm,RkS h n bm s.n l l.stalls.length v∧s.n≤bm) Try.func39 rfl (fun u uh un um=>by
  rw [← uh,← un] at hL
  rw [← un]
  have k0:=ok.k0
  have k1:=ok.k1
  have kA:=hL.okV
  have kS:=hL.okS
  have lS:=hL.lenS
  obtain ⟨m,hm⟩:∃ m,m=l.stalls.length:=⟨_,rfl⟩
  obtain ⟨w,hw⟩:∃ w:St,w=u.new (.cells [vS,vA] (tag 28)):=⟨_,rfl⟩
  have wn:w.n=u.n+1:=by rw [hw];rfl
  have wm:w.m=far:=by rw [hw];exact um
  have wg:∀ c,c<u.n→w.h.get c=u.h.get c:=fun c hc=>by rw [hw,get_new_ne _ _ _ (by omega)]
  have w0:w.h.get u.n=some (.cells [vS,vA] (tag 28)):=by rw [hw];exact get_new_eq _ _ _ rfl (by omega)
  rw [← hm] at lS k0 k1 ⊢
  rw [enter39]
  simp (disch:=first|omega|(with_unfolding_all exact rfl)|(simp only[new_n,put_n,new_m];omega)|(refine put_m_le ?_;simp only[new_m];omega)) only [K39,K39r0,Abs.W,reduceIte,Nat.reduceEqDiff,Nat.reduceAdd,decide_true,decide_false,kLoop_def,Nat.reduceSub,List.cons_append,List.nil_append,List.append_nil,List.length_cons,List.length_nil]
  rw [← hw]
  simp (disch:=first|omega|(with_unfolding_all exact rfl)|(simp only[new_n,put_n,new_m];omega)|(refine put_m_le ?_;simp only[new_m];omega)) only [K39r1,K39r2,Abs.W,reduceIte,Nat.reduceEqDiff,Nat.reduceAdd,decide_true,decide_false,kLoop_def,Nat.reduceSub,List.cons_append,List.nil_append,List.append_nil,List.length_cons,List.length_nil,Env.find_set,w0,kS,lS,Nat.zero_add]
  generalize hlp:loopN _ rounds _ _ _ _ _=q1
  obtain ⟨e,L1,s1,rfl,rfl,v,bm,f3,hR,hb,hn1,hn2,hs1,hm1,hm2⟩:=loop_of hlp (fun i L t=>∃ v bm,L.find 1=.ptr u.n 0∧L.find 3=v∧L.find 7=.int .i64 (m:Int)∧L.find 8=.int .i64 (i:Nat)∧RkS t.h t.n bm (u.n+1) l i v∧u.n+1≤bm∧(bm<t.n∨far≤bm)∧w.n≤t.n∧t.n≤w.n+3003 * i∧(∀ c,c<w.n→t.h.get c=w.h.get c)∧u.n≤t.m∧t.m≤far)
   (fun e L t=>e=.exit 0∧∃ v bm,L.find 3=v∧RkS t.h t.n bm (u.n+1) l m v∧u.n+1≤bm∧w.n≤t.n∧t.n≤w.n+3003 * m∧(∀ c,c<w.n→t.h.get c=w.h.get c)∧u.n≤t.m∧t.m≤far) m (by unfold rounds;omega)
   ⟨.nilslice,far,by simp only [find_cons,Env.find_set,reduceIte,Nat.reduceEqDiff],by simp only [find_cons,Env.find_set,reduceIte,Nat.reduceEqDiff],by simp only [find_cons,Env.find_set,reduceIte,Nat.reduceEqDiff],by simp only [find_cons,Env.find_set,reduceIte,Nat.reduceEqDiff];rfl,RkS.nil _ _ _ _ _,by omega,.inr (Nat.le_refl _),by omega,by omega,fun _ _=>rfl,by omega,by omega⟩
   (fun i L t hi ⟨v,bm,q1,q3,q7,q8,hR,hb,hbn,hn1,hn2,hsm,hm1,hm2⟩=>by
    by_cases hlt:i<m
    ·have e0:decide ((i:Int)<(m:Int))=true:=decide_eq_true (by omega)
     have t0:=(hsm u.n (by omega)).trans w0
     have kv:=hR.okA
     have hLt:=hL.grow (h':=t.h) (n':=t.n) (fun c hc=>(hsm c (by omega)).trans (wg c hc)) (by omega)
     have ad:∀ s,aAdd s .i64 (i:Int) 1=.val (.int .i64 ((i:Int)+1)) s:=fun s=>aAdd_i64 s _ _ (by omega)
     simp (disch:=first|omega|(with_unfolding_all exact rfl)|(simp only[new_n,put_n,new_m];omega)|(refine put_m_le ?_;simp only[new_m];omega)) only [K39l0,K39r3,K39r4,K39r5,K39r6,Abs.W,reduceIte,Nat.reduceEqDiff,Nat.reduceAdd,decide_true,decide_false,kLoop_def,Nat.reduceSub,List.cons_append,List.nil_append,List.append_nil,List.length_cons,List.length_nil,Env.find_set,q1,q3,q7,q8,e0,t0,kA,kS,kv,Nat.zero_add]
     generalize hc:call _ _ _ (.fn 49) _ _=rc
     obtain ⟨v1,bd,g,t1,rfl,s1,hbd,hI,hG⟩:=ranks_ex hc (by omega) ok (by omega) hLt (by omega)
     have s1n:=s1.n
     have s1l:=s1.le
     have s1m:=s1.m
     simp (disch:=first|omega|(with_unfolding_all exact rfl)|(simp only[new_n,put_n,new_m];omega)|(refine put_m_le ?_;simp only[new_m];omega)) only [Abs.W,reduceIte,Nat.reduceEqDiff,Nat.reduceAdd,decide_true,decide_false,kLoop_def,Nat.reduceSub,List.cons_append,List.nil_append,List.append_nil,List.length_cons,List.length_nil,Env.find_set]
     generalize hc2:call _ _ _ (.fn 54) _ _=rc
     have gl:g.length≤8:=by rw [hG.same.len];exact ableL_len ok i
     obtain ⟨t2,rfl,s2,n2,g2⟩:=places_ex hc2 (by omega) hI.rows.at_ gl (by omega)
     have s2m:=s2.m
     obtain ⟨y,hy⟩:∃ y:St,y=t2.new (.cells [.map t1.n] 0):=⟨_,rfl⟩
     have yn:y.n=t2.n+1:=by rw [hy];rfl
     have ym:y.m=t2.m:=by rw [hy];rfl
     have yg:∀ c,c<t2.n→y.h.get c=t2.h.get c:=fun c hc=>by rw [hy,get_new_ne _ _ _ (by omega)]
     have yp:y.h.get t2.n=some (.cells [.map t1.n] 0):=by rw [hy];exact get_new_eq _ _ _ rfl (by omega)
     have yt:∀ c,c<t.n→y.h.get c=t.h.get c:=fun c hc=>(yg c (by omega)).trans ((s2.same c (by omega)).trans (s1.same c hc))
     have hRy:RkS y.h y.n bm (u.n+1) l i v:=hR.move (fun _=>hb) (fun c hc _=>yt c hc) (by omega)
     have ymp:y.h.get t1.n=some (.map (mapV (plAll g))):=(yg t1.n (by omega)).trans g2
     obtain ⟨v',s',e3,hR',n3,h3,hb3,m3⟩:=hRy.push hG ymp (by omega) (by omega) (by omega) yp (by omega) (by omega)
     rw [hy] at e3
     have ceM:∀ b,cellsOf 1 (.map b)=some [.map b]:=fun _=>rfl
     refine .inl ⟨hlt,_,_,by
      simp (disch:=first|omega|(with_unfolding_all exact rfl)|(simp only[new_n,put_n,new_m];omega)|(refine put_m_le ?_;simp only[new_m];omega)) only [Abs.W,reduceIte,Nat.reduceEqDiff,Nat.reduceAdd,decide_true,decide_false,kLoop_def,Nat.reduceSub,List.cons_append,List.nil_append,List.append_nil,List.length_cons,List.length_nil,Env.find_set,q8,ceM,e3,ad,Nat.zero_add]
      rfl,v',y.n,?_,?_,?_,?_,hR',by omega,.inl (by omega),by omega,by omega,fun c hc=>(h3 c (by omega) (by omega)).trans ((yt c (by omega)).trans (hsm c hc)),?_,by omega⟩
     ·simp only [Env.find_set,q1,reduceIte,Nat.reduceEqDiff]
     ·simp only [Env.find_set,reduceIte,Nat.reduceEqDiff]
     ·simp only [Env.find_set,q7,reduceIte,Nat.reduceEqDiff]
     ·simp only [Env.find_set,reduceIte,Nat.reduceEqDiff];rfl
     ·exact hb3 u.n (by omega) (by omega) (by omega)
    ·obtain rfl:i=m:=by omega
     have e0:decide ((i:Int)<(i:Int))=false:=by simp
     refine .inr ⟨.exit 0,L.set 9 (.bool false),t,by simp,?_,rfl,v,bm,?_,hR,hb,hn1,hn2,hsm,hm1,hm2⟩
     ·simp (disch:=first|omega|(with_unfolding_all exact rfl)|(simp only[new_n,put_n,new_m];omega)|(refine put_m_le ?_;simp only[new_m];omega)) only [K39l0,K39r3,Abs.W,reduceIte,Nat.reduceEqDiff,Nat.reduceAdd,decide_true,decide_false,kLoop_def,Nat.reduceSub,List.cons_append,List.nil_append,List.append_nil,List.length_cons,List.length_nil,Env.find_set,q7,q8,e0]
     ·simp only [Env.find_set,q3,reduceIte,Nat.reduceEqDiff])
  have kv:=hR.okA
  obtain ⟨hv,_⟩:=hR.slice (by omega)
  simp (disch:=first|omega|(with_unfolding_all exact rfl)|(simp only[new_n,put_n,new_m];omega)|(refine put_m_le ?_;simp only[new_m];omega)) only [K39r7,res39,Abs.W,reduceIte,Nat.reduceEqDiff,Nat.reduceAdd,decide_true,decide_false,kLoop_def,Nat.reduceSub,List.cons_append,List.nil_append,List.append_nil,List.length_cons,List.length_nil,Env.find_set,f3,kv]
  exact ⟨_,_,rfl,⟨fun c hc=>(hs1 c (by omega)).trans (wg c hc),by omega,by omega,hm1,hm2⟩,by rw [hv];rfl,bm,hR.weak (by omega),by omega⟩)
 exact ⟨v,t,bm,hr.symm.trans e,st,hq⟩
end Go.Proofs.Ytbcjojljiochfaa.walk
set_option maxRecDepth 10000
namespace Go.Proofs.Ytbcjojljiochfaa.walk
open Go.Abs Go.Proofs.Ytbcjojljiochfaa.code
theorem RankOf.lt {l:Letting} {st:Nat} {g:List Nat} (r:RankOf l st g) {a b:Nat} (ha:a ∈ ableL l st) (hb:b ∈ ableL l st):getP (plAll g) a<getP (plAll g) b↔keyL l st a<keyL l st b:=by
 obtain ⟨i,i1,i2⟩:=mem_at.mp ((r.same.mem a).mpr ha)
 obtain ⟨j,j1,j2⟩:=mem_at.mp ((r.same.mem b).mpr hb)
 have li:=r.same.len
 subst i2 j2
 rw [plAll_at r.same.nd i1,plAll_at r.same.nd j1]
 rcases Nat.lt_trichotomy i j with h | h | h
 ·have:=r.up i j h (by omega)
  exact ⟨fun _=>this,fun _=>by omega⟩
 ·subst h
  exact ⟨fun h=>by omega,fun h=>by omega⟩
 ·have:=r.up j i h (by omega)
  exact ⟨fun h=>by omega,fun h=>by omega⟩
def betterB (l:Letting) (st a:Nat) (h:Int):Bool:=decide (h = -1) || decide (keyL l st a<keyL l st h.toNat)
theorem better_ok (N:Nat) (hN:1≤N) {l:Letting} {bm lo k st a:Nat} {h:Int} {v:AV} {s:St} (hR:RkS s.h s.n bm lo l k v) (hst:st<k) (ha:a ∈ ableL l st) (hh:h = -1∨∃ b:Nat,h=b∧b ∈ ableL l st) (hs:s.n+100≤far) :
  call Try.prog X N (.fn 43) [v,.int .i64 (st:Int),.int .i64 (a:Int),.int .i64 h] s=.val (.bool (betterB l st a h)) s:=by
 obtain ⟨n,rfl⟩:∃ n,N=n+1:=⟨N - 1,by omega⟩
 refine call_plain' Try.func43 (fun u uh un um=>?_) rfl
 have hf:far=1000000000:=rfl
 rw [← uh,← un] at hR
 have kv:=hR.okA
 obtain ⟨m,p,c,sz,g,r1,r2,r3,r4,r5,r6,r7⟩:=hR.get hst
 have la:=look_map (plAll g) (a:Int) m u r5
 have lb:=look_map (plAll g) h m u r5
 rw [enter43]
 unfold betterB
 have okm:∀ b t,okA (.val (.map b) t)=.val (.map b) t:=fun _ _=>rfl
 rcases hh with rfl | ⟨b,rfl,hb⟩
 ·have e0:decide ((-1:Int) = -1)=true:=rfl
  rw [e0]
  simp (disch:=first|omega|(with_unfolding_all exact rfl)|(simp only[new_n,put_n,new_m];omega)|(refine put_m_le ?_;simp only[new_m];omega)) only [res43,K43r0,K43r1s16,K43r1s15,K43r1s14,K43r1s13,K43r1s12,K43r1s11,K43r1s10,K43r1s9,K43r1s8,K43r1s7,K43r1s6,K43r1s5,K43r1s4,K43r1,K43,Abs.W,reduceIte,Nat.reduceEqDiff,Nat.reduceAdd,decide_true,decide_false,kLoop_def,Nat.reduceSub,List.cons_append,List.nil_append,List.append_nil,List.length_cons,List.length_nil,Env.find_set,e0,Bool.true_or]
  exact ⟨_,rfl,by omega⟩
 ·have e0:decide ((b:Int) = -1)=false:=decide_eq_false (by omega)
  have e1:decide (getP (plAll g) a<getP (plAll g) b)=decide (keyL l st a<keyL l st b):=by
   simp only [r4.lt ha hb]
  rw [e0]
  simp (disch:=first|omega|(with_unfolding_all exact rfl)|(simp only[new_n,put_n,new_m];omega)|(refine put_m_le ?_;simp only[new_m];omega)) only [res43,K43r0,K43r1s16,K43r1s15,K43r1s14,K43r1s13,K43r1s12,K43r1s11,K43r1s10,K43r1s9,K43r1s8,K43r1s7,K43r1s6,K43r1s5,K43r1s4,K43r1,K43,Abs.W,reduceIte,Nat.reduceEqDiff,Nat.reduceAdd,decide_true,decide_false,kLoop_def,Nat.reduceSub,List.cons_append,List.nil_append,List.append_nil,List.length_cons,List.length_nil,Env.find_set,e0,Bool.false_or,kv,r1,r2,r3,okm,kLookE,la,lb,e1,Int.toNat_natCast,Nat.zero_add]
  exact ⟨_,rfl,by omega⟩
theorem mul64_ok (N:Nat) (hN:1≤N) (k:Nat) (hk:k≤8) (s:St) (hs:s.n≤far):call Try.prog X N (.fn 70) [.int .u64 1,.int .u64 (k:Int)] s=.val (.tup [.int .u64 0,.int .u64 (k:Int)]) s:=by
 obtain ⟨n,rfl⟩:∃ n,N=n+1:=⟨N - 1,by omega⟩
 have:∀ u:St,enterA Try.prog X (call Try.prog X n) 70 [.int .u64 1,.int .u64 (k:Int)] u Try.f70=.val (.tup [.int .u64 0,.int .u64 (k:Int)]) u:=by
  have:k=0∨k=1∨k=2∨k=3∨k=4∨k=5∨k=6∨k=7∨k=8:=by omega
  rcases this with rfl | rfl | rfl | rfl | rfl | rfl | rfl | rfl | rfl<;>exact fun u=>by rw [enter70];kernel_rfl
 exact call_plain (s':=⟨s.h,s.n,far⟩) Try.func70 (this _) rfl hs
theorem mul_ok (N:Nat) (hN:2≤N) (k:Nat) (hk:k≤8) (s:St) (hs:s.n≤far):call Try.prog X N (.fn 55) [.int .u64 1,.int .u64 (k:Int)] s=.val (.tup [.int .u64 0,.int .u64 (k:Int)]) s:=by
 obtain ⟨n,rfl⟩:∃ n,N=n+1:=⟨N - 1,by omega⟩
 refine call_plain' Try.func55 (fun u uh un um=>?_) rfl
 have hf:far=1000000000:=rfl
 have c1:=mul64_ok n (by omega) k hk u (by omega)
 have ex0:∀ (a b:AV) (s:St),extA 0 s (.tup [a,b])=.val a s:=fun _ _ _=>rfl
 have ex1:∀ (a b:AV) (s:St),extA 1 s (.tup [a,b])=.val b s:=fun _ _ _=>rfl
 have okt:∀ (a b:AV) (s:St),okA (.val (.tup [a,b]) s)=.val (.tup [a,b]) s:=fun _ _ _=>rfl
 rw [enter55]
 simp (disch:=first|omega|(with_unfolding_all exact rfl)|(simp only[new_n,put_n,new_m];omega)|(refine put_m_le ?_;simp only[new_m];omega)) only [res55,K55r0,K55r1,K55r2,K55r3,K55r4,K55,Abs.W,reduceIte,Nat.reduceEqDiff,Nat.reduceAdd,decide_true,decide_false,kLoop_def,Nat.reduceSub,List.cons_append,List.nil_append,List.append_nil,List.length_cons,List.length_nil,Env.find_set,c1,ex0,ex1,okt]
 exact ⟨_,rfl,by omega⟩
def repA (n k:Nat):List AV:=List.replicate n (.int .i64 (-1))++List.replicate (k - n) (.int .i64 0)
theorem repA_over {n m k:Nat} (h:n+m≤k):over n (List.replicate m (.int .i64 (-1))) (repA n k)=some (repA (n+m) k):=by
 have:=over_skip (List.replicate n (.int .i64 (-1))) (List.replicate (k - n) (.int .i64 0)) (List.replicate m (.int .i64 (-1))) 0
 rw [Nat.add_zero,List.length_replicate] at this
 unfold repA
 rw [this,show k - n=m+(k - (n+m)) by omega,← List.replicate_append_replicate,over_head _ _ _ (by rw [List.length_replicate,List.length_replicate])]
 show some (_++(_++_))=_
 rw [← List.append_assoc,List.replicate_append_replicate]
theorem repA_cut {n m k:Nat} (h:m≤n):cut 0 m (repA n k)=some (List.replicate m (.int .i64 (-1))):=by
 unfold repA
 rw [show n=m+(n - m) by omega,← List.replicate_append_replicate,List.append_assoc,cut_zero]
 have:=cut1_app (List.replicate m (AV.int .i64 (-1))) (List.replicate (n - m) (.int .i64 (-1))++List.replicate (k - (m+(n - m))) (.int .i64 0))
 rwa [List.length_replicate] at this
theorem rep_scal (n:Nat):scalars (List.replicate n (.int .i64 (-1)))=true:=by
 induction n with
 | zero=>rfl
 | succ n ih=>rw [List.replicate_succ];exact ih
theorem copy_rep {b n k sz:Nat} {w:St} (hg:w.h.get b=some (.cells (repA n k) sz)) (h0:0<n) (h:n<k) :
  copyA 1 w (.slice b n (k - n) (k - n) false) (.slice b 0 n k false)=.val (.int .i64 ((min n (k - n):Nat):Int)) (w.put b (.cells (repA (n+min n (k - n)) k) sz)):=by
 have e1:Nat.min n (k - n)=min n (k - n):=rfl
 have e2:firstA 1 (min n (k - n)) w (.slice b 0 n k false)=some (List.replicate (min n (k - n)) (.int .i64 (-1))):=by
  show (match w.h.get b with | some (.cells c _)=>Abs.cut 0 (min n (k - n) * 1) c | some (.fam c _ q _)=>Abs.cut 0 (min n (k - n) * 1) (c.take q) | _=>none)=_
  rw [hg]
  simp only [Nat.mul_one]
  exact repA_cut (by omega)
 have e3:=repA_over (n:=n) (m:=min n (k - n)) (k:=k) (by omega)
 unfold copyA
 simp only [lenA,e1,e2,rep_scal,hg,e3]
theorem copy_one {b p k sz sz2:Nat} {e:Bool} {w:St} (hg:w.h.get b=some (.cells (repA 0 k) sz)) (hp:w.h.get p=some (.cells [.int .i64 (-1)] sz2)) (h0:0<k) :
  copyA 1 w (.slice b 0 k k false) (.slice p 0 1 1 e)=.val (.int .i64 ((1:Nat):Int)) (w.put b (.cells (repA 1 k) sz)):=by
 have e1:Nat.min 1 k=1:=Nat.min_eq_left (by omega)
 have e2:firstA 1 1 w (.slice p 0 1 1 e)=some (List.replicate 1 (.int .i64 (-1))):=by
  show (match w.h.get p with | some (.cells c _)=>Abs.cut 0 (1 * 1) c | some (.fam c _ q _)=>Abs.cut 0 (1 * 1) (c.take q) | _=>none)=_
  rw [hp]
  rfl
 have e3:=repA_over (n:=0) (m:=1) (k:=k) (by omega)
 rw [Nat.zero_add] at e3
 unfold copyA
 simp only [lenA,e1,e2,rep_scal,hg,e3]
theorem repeat_ex {N p k sz:Nat} {e:Bool} {s:St} {r:ARes} (hr:call Try.prog X N (.fn 40) [.slice p 0 1 1 e,.int .i64 (k:Int)] s=r) (hN:4≤N) (hk0:1≤k) (hk:k≤8) (hg:s.h.get p=some (.cells [.int .i64 (-1)] sz)) (hp:p<s.n) (hs:s.n+100≤far) :
  ∃ t,r=.val (.slice s.n 0 k k false) t∧New s t 1∧t.n=s.n+1∧t.h.get s.n=some (.cells (repA k k) 0):=by
 obtain ⟨n,rfl⟩:∃ n,N=n+1:=⟨N - 1,by omega⟩
 have hf:far=1000000000:=rfl
 obtain ⟨v,t,e,st,rfl,hq,hg⟩:=call_new (n:=n) (args:=[.slice p 0 1 1 e,.int .i64 (k:Int)]) (s:=s) (k:=1) (Q:=fun v h n=>v=.slice s.n 0 k k false∧n=s.n+1∧h.get s.n=some (.cells (repA k k) 0)) Try.func40 rfl (fun u uh un um=>by
  rw [← uh] at hg
  rw [← un] at hp
  rw [← un]
  have c1:=mul_ok n (by omega) k hk u (by omega)
  have ex0:∀ (a b:AV) (s:St),extA 0 s (.tup [a,b])=.val a s:=fun _ _ _=>rfl
  have ex1:∀ (a b:AV) (s:St),extA 1 s (.tup [a,b])=.val b s:=fun _ _ _=>rfl
  have okt:∀ (a b:AV) (s:St),okA (.val (.tup [a,b]) s)=.val (.tup [a,b]) s:=fun _ _ _=>rfl
  have e0:decide ((k:Int)<0)=false:=decide_eq_false (by omega)
  have e1:∀ s,cviA .u64 s (.int .i64 (k:Int))=.val (.int .u64 (k:Int)) s:=fun s=>by
   have:k=0∨k=1∨k=2∨k=3∨k=4∨k=5∨k=6∨k=7∨k=8:=by omega
   rcases this with rfl | rfl | rfl | rfl | rfl | rfl | rfl | rfl | rfl<;>rfl
  have e1':∀ s,cviA .u64 s (.int .i64 ((1:Nat):Int))=.val (.int .u64 1) s:=fun s=>rfl
  have e2:∀ s,cviA .i64 s (.int .u64 (k:Int))=.val (.int .i64 (k:Int)) s:=fun s=>by
   have:k=0∨k=1∨k=2∨k=3∨k=4∨k=5∨k=6∨k=7∨k=8:=by omega
   rcases this with rfl | rfl | rfl | rfl | rfl | rfl | rfl | rfl | rfl<;>rfl
  have g0:∀ s,gtrA s .u64 0 (.int .u64 0)=.val (.bool false) s:=fun s=>rfl
  have g1:∀ s,gtrA s .u64 (k:Int) (.int .u64 9223372036854775807)=.val (.bool false) s:=fun s=>by
   have:k=0∨k=1∨k=2∨k=3∨k=4∨k=5∨k=6∨k=7∨k=8:=by omega
   rcases this with rfl | rfl | rfl | rfl | rfl | rfl | rfl | rfl | rfl<;>rfl
  have mk:∀ s:St,makeA [.int .i64 0] 8 s (.int .i64 (k:Int)) (.int .i64 (k:Int))=.val (.slice s.n 0 k k false) (s.new (.cells (List.replicate k [.int .i64 0]).flatten 0)):=fun s=>make_rows [.int .i64 0] 8 k s (by omega) (by omega)
  have zr:(List.replicate k [AV.int .i64 0]).flatten=repA 0 k:=by unfold repA;simp
  rw [zr] at mk
  have u4:=fun cl L s=>congrFun (congrFun (congrFun K40r4s4.eq_1 cl) L) s
  have u5:=fun cl L s=>congrFun (congrFun (congrFun K40r4s5.eq_1 cl) L) s
  obtain ⟨w,hw⟩:∃ w:St,w=u.new (.cells (repA 0 k) 0):=⟨_,rfl⟩
  have wn:w.n=u.n+1:=by rw [hw];rfl
  have wm:w.m=far:=by rw [hw];exact um
  have wg:∀ c,c<u.n→w.h.get c=u.h.get c:=fun c hc=>by rw [hw,get_new_ne _ _ _ (by omega)]
  have w0:w.h.get u.n=some (.cells (repA 0 k) 0):=by rw [hw];exact get_new_eq _ _ _ rfl (by omega)
  have cp:=copy_one (e:=e) w0 ((wg p hp).trans hg) (by omega)
  rw [enter40]
  simp (disch:=first|omega|(with_unfolding_all exact rfl)|(simp only[new_n,put_n,new_m];omega)|(refine put_m_le ?_;simp only[new_m];omega)) only [K40,K40r0,K40r1,K40r3,K40r4,K40r6,u4,u5,Abs.W,reduceIte,Nat.reduceEqDiff,Nat.reduceAdd,decide_true,decide_false,kLoop_def,Nat.reduceSub,List.cons_append,List.nil_append,List.append_nil,List.length_cons,List.length_nil,Env.find_set,e0,e1,e1',e2,c1,ex0,ex1,okt,g0,g1,kMake_def,mk,Nat.zero_add]
  rw [← hw]
  simp (disch:=first|omega|(with_unfolding_all exact rfl)|(simp only[new_n,put_n,new_m];omega)|(refine put_m_le ?_;simp only[new_m];omega)) only [K40r7,Abs.W,reduceIte,Nat.reduceEqDiff,Nat.reduceAdd,decide_true,decide_false,kLoop_def,Nat.reduceSub,List.cons_append,List.nil_append,List.append_nil,List.length_cons,List.length_nil,Env.find_set,cp]
  generalize hy:St.put _ _ _=y
  have yn:y.n=w.n:=by rw [← hy,put_n]
  have yg:∀ c,c<u.n→y.h.get c=u.h.get c:=fun c hc=>by rw [← hy,get_put_ne' _ _ _ _ (by omega)];exact wg c hc
  have yp:y.h.get u.n=some (.cells (repA 1 k) 0):=by rw [← hy];exact get_put_eq _ _ _ _ rfl (by omega)
  have ym:u.n≤y.m∧y.m≤far:=by rw [← hy];simp only [St.put,minN_eq];omega
  generalize hlp:loopN _ rounds _ _ _ _ _=q1
  obtain ⟨e,L1,s1,rfl,rfl,f7,hg,hn,hs1,hm1,hm2⟩:=loop_of hlp (fun i L t=>∃ c:Nat,L.find 7=.slice u.n 0 k k false∧L.find 8=.int .i64 (c:Int)∧1≤c∧c≤k∧(i+1≤c∨c=k)∧t.h.get u.n=some (.cells (repA c k) 0)∧t.n=u.n+1∧(∀ c,c<u.n→t.h.get c=u.h.get c)∧u.n≤t.m∧t.m≤far)
   (fun e L t=>e=.exit 0∧L.find 7=.slice u.n 0 k k false∧t.h.get u.n=some (.cells (repA k k) 0)∧t.n=u.n+1∧(∀ c,c<u.n→t.h.get c=u.h.get c)∧u.n≤t.m∧t.m≤far) k (by unfold rounds;omega)
   ⟨1,by simp only [find_cons,Env.find_set,reduceIte,Nat.reduceEqDiff],by simp only [find_cons,Env.find_set,reduceIte,Nat.reduceEqDiff],by omega,by omega,by omega,yp,by omega,yg,ym.1,ym.2⟩
   (fun i L t hi ⟨c,q7,q8,h1,h2,h3,hg,hn,hsm,hm1,hm2⟩=>by
    have lk:∀ s,lenSlA s (.slice u.n 0 k k false)=.val (.int .i64 (k:Int)) s:=fun s=>rfl
    by_cases hlt:c<k
    ·have e0:decide ((c:Int)<(k:Int))=true:=decide_eq_true (by omega)
     have sl1:=fun s=>slice_from 1 s u.n 0 k k c false (Nat.le_refl _) h2 hlt
     have sl2:=fun s=>slice_all s u.n k c h2 (by omega)
     have cp:=copy_rep hg (by omega) hlt
     have ad:∀ s,aAdd s .i64 (c:Int) ((min c (k - c):Nat):Int)=.val (.int .i64 ((c+min c (k - c):Nat):Int)) s:=fun s=>by rw [aAdd_i64 s _ _ (by omega)];rfl
     refine .inl ⟨by omega,_,_,by
      simp (disch:=first|omega|(with_unfolding_all exact rfl)|(simp only[new_n,put_n,new_m];omega)|(refine put_m_le ?_;simp only[new_m];omega)) only [K40l0,K40r8,K40r9,Abs.W,reduceIte,Nat.reduceEqDiff,Nat.reduceAdd,decide_true,decide_false,kLoop_def,Nat.reduceSub,List.cons_append,List.nil_append,List.append_nil,List.length_cons,List.length_nil,Env.find_set,q7,q8,e0,lk,kSlice_def,optEv_some,optEv_none,sl1,sl2,cp,ad,Nat.zero_add,Nat.mul_one]
      rfl,c+min c (k - c),?_,?_,by omega,by omega,by omega,get_put_eq _ _ _ _ rfl (by omega),by rw [put_n];exact hn,fun c hc=>by rw [get_put_ne' _ _ _ _ (by omega)];exact hsm c hc,by simp only [St.put,minN_eq];omega,by simp only [St.put,minN_eq];omega⟩
     ·simp only [Env.find_set,q7,reduceIte,Nat.reduceEqDiff]
     ·simp only [Env.find_set,reduceIte,Nat.reduceEqDiff]
    ·obtain rfl:c=k:=by omega
     have e0:decide ((c:Int)<(c:Int))=false:=by simp
     refine .inr ⟨.exit 0,L.set 37 (.bool false),t,by simp,?_,rfl,?_,hg,hn,hsm,hm1,hm2⟩
     ·simp (disch:=first|omega|(with_unfolding_all exact rfl)|(simp only[new_n,put_n,new_m];omega)|(refine put_m_le ?_;simp only[new_m];omega)) only [K40l0,K40r8,Abs.W,reduceIte,Nat.reduceEqDiff,Nat.reduceAdd,decide_true,decide_false,kLoop_def,Nat.reduceSub,List.cons_append,List.nil_append,List.append_nil,List.length_cons,List.length_nil,Env.find_set,q7,q8,lk,e0]
     ·simp only [Env.find_set,q7,reduceIte,Nat.reduceEqDiff])
  simp (disch:=first|omega|(with_unfolding_all exact rfl)|(simp only[new_n,put_n,new_m];omega)|(refine put_m_le ?_;simp only[new_m];omega)) only [K40r10,res40,Abs.W,reduceIte,Nat.reduceEqDiff,Nat.reduceAdd,decide_true,decide_false,kLoop_def,Nat.reduceSub,List.cons_append,List.nil_append,List.append_nil,List.length_cons,List.length_nil,Env.find_set,f7]
  exact ⟨_,_,rfl,⟨hs1,by omega,by omega,hm1,hm2⟩,rfl,rfl,hn,hg⟩)
 exact ⟨t,hr.symm.trans e,st,hq,hg⟩
end Go.Proofs.Ytbcjojljiochfaa.walk
set_option maxRecDepth 10000
namespace Go.Proofs.Ytbcjojljiochfaa.walk
open Go.Abs Go.Proofs.Ytbcjojljiochfaa.code
def QAt (h:Heap) (n b:Nat) (q:List Nat) (v:AV):Prop :=
 b<n∧∃ o c sz,h.get b=some (.cells c sz) ∧
  ((v=.slice b o q.length q.length false∧cut o q.length c=some (arr q)) ∨
  (q≠[]∧v=.slice b o q.length q.length true∧c.length=o+q.length∧c.drop o=arr q∧szOf sz=1) ∨
  (q=[]∧v=.tail b o∧c.length=o∧szOf sz=1))
section
variable {h h':Heap} {n n' b:Nat} {q:List Nat} {v:AV}
theorem QAt.move (a:QAt h n b q v) (hh:h'.get b=h.get b) (hn:n≤n'):QAt h' n' b q v:=by
 obtain ⟨h1,o,c,sz,h2,h3⟩:=a
 exact ⟨by omega,o,c,sz,hh.trans h2,h3⟩
theorem QAt.okA (a:QAt h n b q v) (t:St):Abs.okA (.val v t)=.val v t:=by
 obtain ⟨h1,o,c,sz,h2,⟨rfl,_⟩ | ⟨_,rfl,_⟩ | ⟨_,rfl,_⟩⟩:=a<;>rfl
theorem QAt.scal (a:QAt h n b q v):scalars [v]=true∧cellsOf 1 v=some [v]:=by
 obtain ⟨h1,o,c,sz,h2,⟨rfl,_⟩ | ⟨_,rfl,_⟩ | ⟨_,rfl,_⟩⟩:=a<;>exact ⟨rfl,rfl⟩
theorem QAt.len (a:QAt h n b q v) (s:St):lenSlA s v=.val (.int .i64 (q.length:Int)) s:=by
 obtain ⟨h1,o,c,sz,h2,⟨rfl,_⟩ | ⟨_,rfl,_⟩ | ⟨rfl,rfl,_⟩⟩:=a<;>rfl
theorem cut_drop {c:List AV} {o k:Nat} {l:List AV} (h:cut o k c=some l):l=(c.drop o).take k∧l.length=k:=by
 induction o generalizing c with
 | zero =>
  rw [cut_zero] at h
  obtain ⟨t,h1,h2⟩:=cut1_some h
  subst h1
  exact ⟨by rw [List.drop_zero,← h2,List.take_left],h2⟩
 | succ o ih =>
  cases c with
  | nil=>cases k<;>cases h<;>first | exact ⟨rfl,rfl⟩ | skip
  | cons x c=>rw [List.drop_succ_cons];exact ih h
theorem QAt.head {a:Nat} {r:List Nat} (x:QAt h n b (a::r) v):∃ o c sz,(∀ s,ixsA 1 s v (.int .i64 0)=.val (.ptr b o) s)∧h.get b=some (.cells c sz)∧nth c o=.int .i64 (a:Nat):=by
 obtain ⟨h1,o,c,sz,h2,h3⟩:=x
 have key:∀ {l:List AV},l=(.int .i64 (a:Int))::arr r→(∃ t,c.drop o=l++t)→nth c o=.int .i64 (a:Nat):=fun {l} hl ⟨t,ht⟩=>by
  have e:c=c.take o++c.drop o:=(List.take_append_drop o c).symm
  have ol:o≤c.length:=by
   rcases Nat.lt_or_ge c.length o with h | h
   ·rw [List.drop_eq_nil_of_le (by omega),hl] at ht
    cases ht
   ·exact h
  have:cut o 1 c=some [.int .i64 (a:Int)]:=by
   have h1:=cut_skip (c.take o) (c.drop o) 0 1
   rw [Nat.add_zero,List.length_take,Nat.min_eq_left ol,← e] at h1
   rw [h1,ht,hl]
   rfl
  exact cut1_nth this
 rcases h3 with ⟨rfl,h4⟩ | ⟨_,rfl,h4,h5,_⟩ | ⟨h4,_⟩
 ·refine ⟨o,c,sz,fun s=>by have:=ixs_slice 1 s b o (a::r).length (a::r).length false 0 (by simp);rwa [Nat.zero_mul,Nat.add_zero] at this,h2,key (l:=arr (a::r)) rfl ⟨(c.drop o).drop (a::r).length,?_⟩⟩
  rw [(cut_drop h4).1,List.take_append_drop]
 ·exact ⟨o,c,sz,fun s=>by have:=ixs_slice 1 s b o (a::r).length (a::r).length true 0 (by simp);rwa [Nat.zero_mul,Nat.add_zero] at this,h2,key (l:=arr (a::r)) rfl ⟨[],by rw [h5,List.append_nil]⟩⟩
 ·cases h4
theorem QAt.tail {a:Nat} {r:List Nat} (x:QAt h n b (a::r) v):∃ v',(∀ s,sliceVal 1 (some (.int .i64 1)) none s v=.val v' s)∧QAt h n b r v':=by
 obtain ⟨h1,o,c,sz,h2,h3⟩:=x
 rcases h3 with ⟨rfl,h4⟩ | ⟨_,rfl,h4,h5,h6⟩ | ⟨h4,_⟩
 ·cases r with
  | nil=>exact ⟨.slice b o 0 0 false,fun s=>rfl,h1,o,c,sz,h2,.inl ⟨rfl,by
    obtain ⟨e1,e2⟩:=cut_drop h4
    have ol:o≤c.length:=by
     rcases Nat.lt_or_ge c.length o with h | h
     ·rw [List.drop_eq_nil_of_le (by omega)] at e1
      rw [e1] at e2;simp at e2
     ·exact h
    have h1:=cut_skip (c.take o) (c.drop o) 0 0
    rw [Nat.add_zero,List.length_take,Nat.min_eq_left ol,List.take_append_drop] at h1
    show cut o 0 c=_
    rw [h1,cut_zero]
    cases c.drop o<;>rfl⟩⟩
  | cons x r =>
   refine ⟨.slice b (o+1 * 1) ((a::x::r).length - 1) ((a::x::r).length - 1) false,fun s=>slice_from 1 s b o _ _ 1 false (Nat.le_refl _) (by simp) (by simp),h1,o+1 * 1,c,sz,h2,.inl ⟨rfl,?_⟩⟩
   obtain ⟨e1,e2⟩:=cut_drop h4
   have ol:o+1≤c.length:=by
    have:=congrArg List.length e1
    rw [e2,List.length_take,List.length_drop] at this
    simp at this;omega
   have h1:=cut_skip (c.take (o+1)) (c.drop (o+1)) 0 (x::r).length
   rw [Nat.add_zero,List.length_take,Nat.min_eq_left ol,List.take_append_drop] at h1
   rw [Nat.one_mul,h1,cut_zero]
   have e3:c.drop (o+1)=arr (x::r)++(c.drop (o+1)).drop (x::r).length:=by
    have e4:(c.drop o).take (a::x::r).length=arr (a::x::r):=e1.symm
    have e5:(c.drop (o+1)).take (x::r).length=arr (x::r):=by
     have:=congrArg (List.drop 1) e4
     rw [List.drop_take,List.drop_drop] at this
     exact this
    rw [← e5,List.take_append_drop]
   rw [e3]
   have:=cut1_app (arr (x::r)) ((c.drop (o+1)).drop (x::r).length)
   rwa [arr_len] at this
 ·cases r with
  | nil=>exact ⟨.tail b (o+1 * 1),fun s=>rfl,h1,o+1 * 1,c,sz,h2,.inr (.inr ⟨rfl,rfl,by simpa using h4,h6⟩)⟩
  | cons x r =>
   refine ⟨.slice b (o+1 * 1) ((a::x::r).length - 1) ((a::x::r).length - 1) true,fun s=>slice_from 1 s b o _ _ 1 true (Nat.le_refl _) (by simp) (by simp),h1,o+1 * 1,c,sz,h2,.inr (.inl ⟨by simp,rfl,by simp at h4 ⊢;omega,?_,h6⟩)⟩
   have:=congrArg (List.drop 1) h5
   rw [List.drop_drop] at this
   exact this
 ·cases h4
end
theorem app_grow {s:St} {w bytes tg p sz:Nat} {row:List AV} (hp:s.h.get p=some (.cells row sz)) (hw:row.length=w) (hsc:scalars row=true) (x:AV):appendA false w bytes tg s x (.slice p 0 1 1 false)=growA w bytes tg 1 row s x:=by
 have e1:firstA w 1 s (.slice p 0 1 1 false)=some row:=by
  show (match s.h.get p with | some (.cells c _)=>Abs.cut 0 (1 * w) c | some (.fam c _ k _)=>Abs.cut 0 (1 * w) (c.take k) | _=>none)=some row
  rw [hp]
  simp only [Nat.one_mul]
  rw [cut_zero,← hw,cut1_all]
 show (match (some 1:Option Nat) with | none=>ARes.fail | some n=>match firstA w n s (.slice p 0 1 1 false) with | none=>.fail | some new=>match Nat.beq new.length (n * w) with | false=>.fail | true=>match scalars new with | true=>growA w bytes tg n new s x | false=>.fail)=_
 simp only [e1,hw,Nat.one_mul,Nat.beq_refl,hsc]
theorem QAt.push {s:St} {b:Nat} {q:List Nat} {v:AV} (a:QAt s.h s.n b q v) {x p sz:Nat} (hp:s.h.get p=some (.cells [.int .i64 (x:Int)] sz)) (hq:q.length≤1000) (hs:s.n+10≤far) :
  ∃ v' s',appendA false 1 8 (tag 3) s v (.slice p 0 1 1 false)=.val v' s'∧QAt s'.h s'.n s.n (q++[x]) v'∧s'.n=s.n+1∧(∀ c,c<s.n→c≠b→s'.h.get c=s.h.get c)∧min s.m b≤s'.m∧s'.m≤s.m:=by
 have hf:far=1000000000:=rfl
 obtain ⟨h1,o,c,sz,h2,h3⟩:=a
 have e0:Nat.ble (q.length+1) q.length=false:=by
  cases h:Nat.ble (q.length+1) q.length with
  | false=>rfl
  | true=>have:=Nat.le_of_ble_eq_true h;omega
 have e2:Nat.ble ((q.length+1) * 8) limit=true:=Nat.ble_eq_true_of_le (by unfold limit;omega)
 have ql:(q++[x]).length=q.length+1:=by simp
 have qa:arr (q++[x])=arr q++[.int .i64 (x:Int)]:=arr_app q [x]
 rw [app_grow (w:=1) (bytes:=8) (tg:=tag 3) hp rfl rfl v]
 rcases h3 with ⟨rfl,h4⟩ | ⟨h0,rfl,h4,h5,h6⟩ | ⟨rfl,rfl,h4,h5⟩
 ·refine ⟨.slice s.n 0 (q.length+1) (q.length+1) true,s.new (.cells (arr q++[.int .i64 (x:Int)]) (1+tag 3)),?_,⟨by rw [new_n];omega,0,_,_,get_new_eq _ _ _ rfl (by omega),.inr (.inl ⟨by simp,by rw [ql],by rw [← qa,arr_len,Nat.zero_add],by rw [qa];rfl,by kernel_rfl⟩)⟩,rfl,fun c hc _=>get_new_ne _ _ _ (by omega),by rw [new_m];omega,by rw [new_m];omega⟩
  unfold growA
  simp only [h2,e0,e2,Nat.mul_one,h4]
 ·refine ⟨.slice s.n 0 (q.length+1) (q.length+1) true,(s.kill b).new (.cells (arr q++[.int .i64 (x:Int)]) (if o=0∧sz=1+tag 3 then sz else 1)),?_,⟨by show s.n<s.n+1;omega,0,_,_,get_new_eq _ _ _ rfl (by show s.n<_;omega),.inr (.inl ⟨by simp,by rw [ql],by rw [← qa,arr_len,Nat.zero_add],by rw [qa];rfl,?_⟩)⟩,rfl,fun c hc hb=>?_,?_,?_⟩
  ·unfold growA
   simp only [h2,e0,e2,Nat.mul_one,h4,h5,h6,true_and,and_self,if_true]
  ·split
   ·exact h6
   ·kernel_rfl
  ·rw [get_new_ne _ _ _ (by show c≠s.n;omega),get_kill_ne _ _ _ hb]
  ·rw [new_m];simp only [St.kill,minN_eq];omega
  ·rw [new_m];simp only [St.kill,minN_eq];omega
 ·refine ⟨.slice s.n 0 1 1 true,(s.kill b).new (.cells [.int .i64 (x:Int)] 1),?_,⟨by show s.n<s.n+1;omega,0,_,_,get_new_eq _ _ _ rfl (by show s.n<_;omega),.inr (.inl ⟨by simp,rfl,rfl,rfl,by kernel_rfl⟩)⟩,rfl,fun c hc hb=>?_,?_,?_⟩
  ·have e3:Nat.ble (1 * 8) limit=true:=by kernel_rfl
   have e4:Nat.beq 1 0=false:=rfl
   unfold growA
   simp only [h2,e3,e4,h4,h5,and_self,if_true]
  ·rw [get_new_ne _ _ _ (by show c≠s.n;omega),get_kill_ne _ _ _ hb]
  ·rw [new_m];simp only [St.kill,minN_eq];omega
  ·rw [new_m];simp only [St.kill,minN_eq];omega
end Go.Proofs.Ytbcjojljiochfaa.walk
set_option maxRecDepth 10000
namespace Go.Proofs.Ytbcjojljiochfaa.walk
structure Mkt where
 n:Nat
 k:Nat
 R:Nat→List Nat
 key:Nat→Nat→Int
structure Mkt.Ok (m:Mkt):Prop where
 nd:∀ a,a<m.n→(m.R a).Nodup
 lt:∀ a,a<m.n→∀ s ∈ m.R a,s<m.k
 ne:∀ s a b,a<m.n→b<m.n→a≠b→m.key s a≠m.key s b
namespace Mkt
variable (m:Mkt)
def pos (a s:Nat):Nat:=(m.R a).idxOf s
def Better (s a:Nat) (h:Int):Prop:=h = -1∨m.key s a<m.key s h.toNat
instance (s a:Nat) (h:Int):Decidable (m.Better s a h):=by unfold Better;infer_instance
variable {m}
theorem pos_lt {a s:Nat} (h:s ∈ m.R a):m.pos a s<(m.R a).length:=List.idxOf_lt_length_of_mem h
theorem pos_inj {a s t:Nat} (hs:s ∈ m.R a) (ht:t ∈ m.R a) (e:m.pos a s=m.pos a t):s=t:=by
 have h1:=List.getElem_idxOf (pos_lt hs)
 have h2:=List.getElem_idxOf (pos_lt ht)
 unfold pos at e
 rw [← h1,← h2]
 congr 1
theorem pos_app {a s t:Nat} {p r:List Nat} (h:m.R a=p++s::r) (hs:s ∉ p) (ht:t ∈ m.R a):t ∈ p↔m.pos a t<m.pos a s:=by
 unfold pos
 rw [h,List.idxOf_append,List.idxOf_append,if_neg hs,List.idxOf_cons_self]
 constructor
 ·intro h;rw [if_pos h];have:=List.idxOf_lt_length_of_mem h;omega
 ·intro h2
  by_cases h3:t ∈ p
  ·exact h3
  ·rw [if_neg h3] at h2;omega
variable (m)
structure Fair (μ:Nat→Int):Prop where
 form:∀ s,μ s = -1∨∃ a:Nat,μ s=a
 hold:∀ s (a:Nat),μ s=a→a<m.n∧s ∈ m.R a
 inj:∀ s t (a:Nat),μ s=a→μ t=a→s=t
 fair:∀ a,a<m.n→∀ s ∈ m.R a,(∃ t,μ t=a∧m.pos a t≤m.pos a s)∨μ s = -1∨¬ m.key s a<m.key s (μ s).toNat
structure Inv (H:Nat→Int) (q:List Nat):Prop where
 form:∀ s,H s = -1∨∃ a:Nat,H s=a
 hold:∀ s (a:Nat),H s=a→a<m.n∧s ∈ m.R a
 inj:∀ s t (a:Nat),H s=a→H t=a→s=t
 qn:∀ a ∈ q,a<m.n∧∀ s,H s≠a
 qd:q.Nodup
 stab:∀ a,a<m.n→a ∉ q→∀ s ∈ m.R a,(∃ t,H t=a∧m.pos a t≤m.pos a s)∨¬ m.Better s a (H s)
 opt:∀ μ,m.Fair μ→∀ s t (a:Nat),H s=a→μ t=a→m.pos a s≤m.pos a t
variable {m}
def upd (H:Nat→Int) (s:Nat) (a:Int):Nat→Int:=fun t=>if t=s then a else H t
theorem upd_at (H:Nat→Int) (s:Nat) (a:Int):upd H s a s=a:=if_pos rfl
theorem upd_ne (H:Nat→Int) {s t:Nat} (a:Int) (h:t≠s):upd H s a t=H t:=if_neg h
theorem Inv.notref {H:Nat→Int} {q:List Nat} (ok:m.Ok) (I:m.Inv H q) {μ:Nat→Int} (F:m.Fair μ) {a t:Nat} (ha:a<m.n) (hμ:μ t=a) (hn:∀ s,H s≠a) (hb:¬ m.Better t a (H t)):False:=by
 rcases I.form t with h0 | ⟨h,hh⟩
 ·exact hb (.inl h0)
 ·have hne:h≠a:=fun e=>hn t (by rw [hh,e])
  obtain ⟨hlt,hmem⟩:=I.hold t h hh
  have hk:m.key t h<m.key t a:=by
   have h1:¬ m.key t a<m.key t h:=fun h2=>hb (.inr (by rw [hh];exact h2))
   have h2:=ok.ne t h a hlt ha hne
   omega
  rcases F.fair h hlt t hmem with ⟨t',h1,h2⟩ | h1 | h1
  ·have h3:=I.opt μ F t t' h hh h1
   have:t'=t:=pos_inj (F.hold t' h h1).2 hmem (by omega)
   subst this
   rw [hμ] at h1
   exact hne (by omega)
  ·rw [hμ] at h1;omega
  ·rw [hμ] at h1;exact h1 hk
theorem Inv.refuse {H:Nat→Int} {q:List Nat} {a:Nat} (I:m.Inv H (a::q)) (hb:∀ s ∈ m.R a,¬ m.Better s a (H s)):m.Inv H q :=
 ⟨I.form,I.hold,I.inj,fun b h=>I.qn b (List.mem_cons_of_mem _ h),(List.nodup_cons.mp I.qd).2,fun b h1 h2 s hs=>by
  by_cases e:b=a
  ·subst e;exact .inr (hb s hs)
  ·exact I.stab b h1 (fun h=>(List.mem_cons.mp h).elim e h2) s hs,I.opt⟩
def behind (q:List Nat) (h:Int):List Nat:=if h = -1 then q else q++[h.toNat]
theorem Inv.take {H:Nat→Int} {q:List Nat} {a s:Nat} {p r:List Nat} (ok:m.Ok) (I:m.Inv H (a::q)) (hR:m.R a=p++s::r) (hp:∀ t ∈ p,¬ m.Better t a (H t)) (hb:m.Better s a (H s)):m.Inv (upd H s a) (behind q (H s)):=by
 obtain ⟨ha,hna⟩:=I.qn a (List.mem_cons_self ..)
 have nd:=ok.nd a ha
 have hsp:s ∉ p:=by
  rw [hR] at nd
  intro h
  have:=(List.nodup_append.mp nd).2.2 s h s (List.mem_cons_self ..)
  exact this rfl
 have hsR:s ∈ m.R a:=by rw [hR];simp
 have haq:a ∉ q:=(List.nodup_cons.mp I.qd).1
 have hqm:∀ {b:Nat},b ∉ behind q (H s)→b ∉ q∧H s≠b:=fun {b} h=>by
  unfold behind at h
  split at h
  ·rename_i e;exact ⟨h,by rw [e];omega⟩
  ·rename_i e
   refine ⟨fun h2=>h (List.mem_append_left _ h2),fun h2=>h (List.mem_append_right _ ?_)⟩
   rw [h2];simp
 refine ⟨fun t=>?_,fun t b h=>?_,fun t t' b h1 h2=>?_,fun b hb'=>?_,?_,fun b hb1 hb2 t ht=>?_,fun μ F t t' b h1 h2=>?_⟩
 ·by_cases e:t=s
  ·subst e;rw [upd_at];exact .inr ⟨a,rfl⟩
  ·rw [upd_ne _ _ e];exact I.form t
 ·by_cases e:t=s
  ·subst e;rw [upd_at] at h
   have:b=a:=by omega
   subst this;exact ⟨ha,hsR⟩
  ·rw [upd_ne _ _ e] at h;exact I.hold t b h
 ·by_cases e1:t=s
  ·by_cases e2:t'=s
   ·rw [e1,e2]
   ·subst e1
    rw [upd_at] at h1;rw [upd_ne _ _ e2] at h2
    exact absurd h2 (by rw [← h1];exact hna t')
  ·by_cases e2:t'=s
   ·subst e2
    rw [upd_at] at h2;rw [upd_ne _ _ e1] at h1
    exact absurd h1 (by rw [← h2];exact hna t)
   ·rw [upd_ne _ _ e1] at h1;rw [upd_ne _ _ e2] at h2
    exact I.inj t t' b h1 h2
 ·unfold behind at hb'
  have old:b ∈ q→b<m.n∧∀ t,upd H s a t≠b:=fun h=>by
   obtain ⟨x1,x2⟩:=I.qn b (List.mem_cons_of_mem _ h)
   refine ⟨x1,fun t=>?_⟩
   by_cases e:t=s
   ·subst e;rw [upd_at];intro h3;exact haq (by rw [show a=b by omega];exact h)
   ·rw [upd_ne _ _ e];exact x2 t
  split at hb'
  ·exact old hb'
  ·rename_i e
   rcases List.mem_append.mp hb' with h | h
   ·exact old h
   ·rw [List.mem_singleton] at h
    subst h
    rcases I.form s with h0 | ⟨c,hc⟩
    ·exact absurd h0 e
    ·have hcb:(H s).toNat=c:=by rw [hc];exact Int.toNat_natCast c
     rw [hcb]
     refine ⟨(I.hold s c hc).1,fun t=>?_⟩
     by_cases e:t=s
     ·subst e;rw [upd_at];intro h3
      exact hna t (by rw [hc];omega)
     ·rw [upd_ne _ _ e];exact fun h3=>e (I.inj t s c h3 hc)
 ·unfold behind
  split
  ·exact (List.nodup_cons.mp I.qd).2
  ·rename_i e
   refine List.nodup_append.mpr ⟨(List.nodup_cons.mp I.qd).2,by simp,fun x hx y hy=>?_⟩
   rw [List.mem_singleton] at hy
   subst hy
   rcases I.form s with h0 | ⟨c,hc⟩
   ·exact absurd h0 e
   ·rw [hc,Int.toNat_natCast]
    intro h3
    subst h3
    exact (I.qn x (List.mem_cons_of_mem _ hx)).2 s hc
 ·by_cases e:b=a
  ·subst e
   by_cases e2:m.pos b t<m.pos b s
   ·have htp:=(pos_app hR hsp ht).mpr e2
    have:t≠s:=fun e3=>hsp (e3▸htp)
    exact .inr (by rw [upd_ne _ _ this];exact hp t htp)
   ·exact .inl ⟨s,upd_at _ _ _,by omega⟩
  ·obtain ⟨c1,c2⟩:=hqm hb2
   rcases I.stab b hb1 (fun h=>(List.mem_cons.mp h).elim e c1) t ht with ⟨t',h1,h2⟩ | h1
   ·have:t'≠s:=fun e3=>c2 (by rw [← e3];exact h1)
    exact .inl ⟨t',by rw [upd_ne _ _ this];exact h1,h2⟩
   ·by_cases e2:t=s
    ·subst e2
     rw [upd_at]
     refine .inr fun h2=>?_
     rcases h2 with h2 | h2
     ·omega
     ·rw [Int.toNat_natCast] at h2
      rcases hb with h3 | h3
      ·exact h1 (.inl h3)
      ·exact h1 (.inr (by omega))
    ·exact .inr (by rw [upd_ne _ _ e2];exact h1)
 ·by_cases e:t=s
  ·subst e
   rw [upd_at] at h1
   have:b=a:=by omega
   subst this
   rcases Nat.lt_or_ge (m.pos b t') (m.pos b t) with h3 | h3
   ·exact (I.notref ok F ha h2 hna (hp t' ((pos_app hR hsp (F.hold t' b h2).2).mpr h3))).elim
   ·exact h3
  ·rw [upd_ne _ _ e] at h1
   exact I.opt μ F t t' b h1 h2
theorem Inv.start (ok:m.Ok):m.Inv (fun _ => -1) (List.range m.n) :=
 ⟨fun _=>.inl rfl,fun s a h=>by omega,fun s t a h=>by omega,fun a h=>⟨List.mem_range.mp h,fun s=>by omega⟩,List.nodup_range,fun a h1 h2=>absurd (List.mem_range.mpr h1) h2,fun μ _ s t a h=>by omega⟩
theorem Inv.fair {H:Nat→Int} (I:m.Inv H []):m.Fair H:=⟨I.form,I.hold,I.inj,fun a ha s hs=>(I.stab a ha (by simp) s hs).imp id fun h=>.inr fun h2=>h (.inr h2)⟩
/-! ### How long it can go on -/
def sumTo (f:Nat→Nat):Nat→Nat
 | 0=>0
 | k+1=>sumTo f k+f k
theorem sumTo_same {f g:Nat→Nat}:∀ {k:Nat},(∀ t,t<k→f t=g t)→sumTo f k=sumTo g k
 | 0,_=>rfl
 | k+1,h=>by
  show sumTo f k+f k=sumTo g k+g k
  rw [sumTo_same fun t ht=>h t (by omega),h k (by omega)]
theorem sumTo_lt {f g:Nat→Nat} {s:Nat} (hs:f s<g s):∀ {k:Nat},s<k→(∀ t,t≠s→f t=g t)→sumTo f k<sumTo g k
 | 0,h,_=>by omega
 | k+1,h,he=>by
  show sumTo f k+f k<sumTo g k+g k
  by_cases e:s=k
  ·subst e
   rw [sumTo_same (f:=f) (g:=g) fun t ht=>he t (by omega)]
   omega
  ·have:=sumTo_lt hs (k:=k) (by omega) he
   rw [he k (by omega)]
   omega
theorem sumTo_le {f:Nat→Nat} {c:Nat} (h:∀ s,f s≤c):∀ k:Nat,sumTo f k≤k * c
 | 0=>by simp [sumTo]
 | k+1=>by
  show sumTo f k+f k≤(k+1) * c
  have h1:=sumTo_le h k
  have h2:=h k
  rw [Nat.succ_mul]
  omega
variable (m)
def wt (s:Nat) (h:Int):Nat:=if h = -1 then m.n else ((List.range m.n).filter (fun b=>m.key s b<m.key s h.toNat)).length
def meas (H:Nat→Int) (q:List Nat):Nat:=sumTo (fun s=>m.wt s (H s)) m.k+q.length
variable {m}
theorem wt_le (s:Nat) (h:Int):m.wt s h≤m.n:=by
 unfold wt
 split
 ·exact Nat.le_refl _
 ·have:=List.length_filter_le (fun b=>decide (m.key s b<m.key s h.toNat)) (List.range m.n)
  rwa [List.length_range] at this
theorem filter_less {p q:Nat→Bool} (hpq:∀ x,p x=true→q x=true):∀ {l:List Nat} {a:Nat},a ∈ l→q a=true→p a=false→(l.filter p).length<(l.filter q).length
 | x::l,a,ha,hq,hp=>by
  have le:∀ l:List Nat,(l.filter p).length≤(l.filter q).length:=fun l=>by
   induction l with
   | nil=>simp
   | cons y l ih =>
    cases h:p y with
    | true=>rw [List.filter_cons_of_pos h,List.filter_cons_of_pos (hpq y h)];simpa using ih
    | false =>
     rw [List.filter_cons_of_neg (by simp [h])]
     cases h2:q y with
     | true=>rw [List.filter_cons_of_pos h2];simp;omega
     | false=>rw [List.filter_cons_of_neg (by simp [h2])];exact ih
  rcases List.mem_cons.mp ha with rfl | ha
  ·rw [List.filter_cons_of_neg (by simp [hp]),List.filter_cons_of_pos hq]
   have:=le l
   simp;omega
  ·have ih:=filter_less hpq ha hq hp
   cases h:p x with
   | true=>rw [List.filter_cons_of_pos h,List.filter_cons_of_pos (hpq x h)];simpa using ih
   | false =>
    rw [List.filter_cons_of_neg (by simp [h])]
    cases h2:q x with
    | true=>rw [List.filter_cons_of_pos h2];simp;omega
    | false=>rw [List.filter_cons_of_neg (by simp [h2])];exact ih
theorem wt_less {s a:Nat} {h:Int} (ha:a<m.n) (hb:m.Better s a h):m.wt s a<m.wt s h:=by
 unfold wt
 rw [if_neg (show ¬ ((a:Int) = -1) by omega),Int.toNat_natCast]
 by_cases e:h = -1
 ·rw [if_pos e]
  have:=filter_less (p:=fun b=>decide (m.key s b<m.key s a)) (q:=fun _=>true) (fun _ _=>rfl) (List.mem_range.mpr ha) rfl (by simp)
  rw [List.filter_eq_self.mpr (fun _ _=>rfl),List.length_range] at this
  exact this
 ·rw [if_neg e]
  have hk:m.key s a<m.key s h.toNat:=hb.resolve_left e
  exact filter_less (fun x hx=>by have:=of_decide_eq_true hx;exact decide_eq_true (by omega)) (List.mem_range.mpr ha) (decide_eq_true hk) (by simp)
theorem meas_refuse (H:Nat→Int) (a:Nat) (q:List Nat):m.meas H q+1=m.meas H (a::q):=by unfold meas;rw [List.length_cons];omega
theorem meas_take {H:Nat→Int} {q:List Nat} {a s:Nat} (ha:a<m.n) (hs:s<m.k) (hb:m.Better s a (H s)):m.meas (upd H s a) (behind q (H s))+1≤m.meas H (a::q):=by
 have h1:sumTo (fun t=>m.wt t (upd H s a t)) m.k<sumTo (fun t=>m.wt t (H t)) m.k:=sumTo_lt (s:=s) (by show m.wt s (upd H s a s)<m.wt s (H s);rw [upd_at];exact wt_less ha hb) hs (fun t ht=>by show m.wt t (upd H s a t)=m.wt t (H t);rw [upd_ne _ _ ht])
 have h2:(behind q (H s)).length≤q.length+1:=by
  unfold behind;split
  ·omega
  ·rw [List.length_append,List.length_singleton];omega
 unfold meas
 rw [List.length_cons]
 omega
theorem meas_start:m.meas (fun _ => -1) (List.range m.n)≤m.k * m.n+m.n:=by
 have:=sumTo_le (f:=fun s=>m.wt s (-1)) (c:=m.n) (fun s=>wt_le s (-1)) m.k
 show sumTo (fun s=>m.wt s (-1)) m.k+(List.range m.n).length≤_
 rw [List.length_range]
 omega
theorem first_of (P:Nat→Prop) [DecidablePred P]:∀ l:List Nat,(∀ x ∈ l,¬ P x)∨∃ p s r,l=p++s::r∧P s∧∀ t ∈ p,¬ P t
 | []=>.inl fun x h=>by cases h
 | x::l=>by
  by_cases e:P x
  ·exact .inr ⟨[],x,l,rfl,e,fun t h=>by cases h⟩
  ·rcases first_of P l with h | ⟨p,s,r,h1,h2,h3⟩
   ·exact .inl fun y hy=>(List.mem_cons.mp hy).elim (fun h2=>h2▸e) (h y)
   ·exact .inr ⟨x::p,s,r,by rw [h1];rfl,h2,fun t ht=>(List.mem_cons.mp ht).elim (fun h2=>h2▸e) (h3 t)⟩
theorem ends (ok:m.Ok):∀ (c:Nat) (H:Nat→Int) (q:List Nat),m.Inv H q→m.meas H q≤c→∃ H',m.Inv H' []
 | c,H,[],I,_=>⟨H,I⟩
 | 0,H,a::q,_,h=>by unfold meas at h;rw [List.length_cons] at h;omega
 | c+1,H,a::q,I,h=>by
  have ha:=(I.qn a (List.mem_cons_self ..)).1
  rcases first_of (fun s=>m.Better s a (H s)) (m.R a) with h1 | ⟨p,s,r,h1,h2,h3⟩
  ·exact ends ok c H q (I.refuse h1) (by have:=meas_refuse (m:=m) H a q;omega)
  ·exact ends ok c _ _ (I.take ok h1 h3 h2) (by have:=meas_take (q:=q) ha (ok.lt a ha s (by rw [h1];simp)) h2;omega)
end Mkt
end Go.Proofs.Ytbcjojljiochfaa.walk
set_option maxRecDepth 10000
namespace Go.Proofs.Ytbcjojljiochfaa.walk
open Go.Abs Go.Proofs.Ytbcjojljiochfaa.code
def applAt (l:Letting) (a:Nat):Appl:=l.appls.getD a ⟨0,0,[],[]⟩
def mktOf (l:Letting):Mkt:=⟨l.appls.length,l.stalls.length,fun a=>(reachOf l.stalls (applAt l a)).map fun x=>x.1.toNat,keyL l⟩
theorem applAt_of {l:Letting} {a:Nat} (ha:a<l.appls.length):applAt l a=l.appls[a]:=applOf ha
theorem reach_mem {l:Letting} (ok:l.Ok) {a:Nat} (ha:a<l.appls.length) {x:Int × Int} (h:x ∈ reachOf l.stalls (applAt l a)):∃ k:Nat,x.1=k∧k<l.stalls.length∧x.1 ∈ l.appls[a].wishes:=by
 rw [applAt_of ha] at h
 unfold reachOf at h
 obtain ⟨h1,_⟩:=zip_mem (List.mem_filter.mp h).1
 obtain ⟨h2,h3⟩:=(ok.ap _ (List.getElem_mem ha)).w _ h1
 exact ⟨x.1.toNat,by omega,by omega,h1⟩
theorem zip_fst:∀ {a b:List Int},b.length=a.length→(a.zip b).map Prod.fst=a
 | [],_,_=>rfl
 | x::a,[],h=>by simp at h
 | x::a,y::b,h=>by
  rw [List.zip_cons_cons,List.map_cons,zip_fst (by simpa using h)]
theorem reach_nodup {l:Letting} (ok:l.Ok) {a:Nat} (ha:a<l.appls.length):((reachOf l.stalls (applAt l a)).map Prod.fst).Nodup:=by
 have A:=ok.ap _ (List.getElem_mem ha)
 rw [applAt_of ha]
 unfold reachOf
 have h1:((l.appls[a].wishes.zip l.appls[a].bids).filter (can l.stalls)).map Prod.fst |>.Sublist ((l.appls[a].wishes.zip l.appls[a].bids).map Prod.fst):=List.filter_sublist.map _
 rw [zip_fst A.bl] at h1
 exact A.nd.sublist h1
theorem nodup_toNat:∀ {l:List Int},(∀ x ∈ l,0≤x)→l.Nodup→(l.map Int.toNat).Nodup
 | [],_,_=>List.nodup_nil
 | x::l,h,hd=>by
  obtain ⟨h1,h2⟩:=List.nodup_cons.mp hd
  rw [List.map_cons]
  refine List.nodup_cons.mpr ⟨fun hm=>?_,nodup_toNat (fun y hy=>h y (List.mem_cons_of_mem _ hy)) h2⟩
  obtain ⟨y,y1,y2⟩:=List.mem_map.mp hm
  have a1:=h y (List.mem_cons_of_mem _ y1)
  have a2:=h x (List.mem_cons_self ..)
  exact h1 (by rw [show x=y by omega];exact y1)
theorem mktOf_ok {l:Letting} (ok:l.Ok):(mktOf l).Ok:=by
 refine ⟨fun a ha=>?_,fun a ha s hs=>?_,fun s a b ha hb h=>keyL_ne ok s ha hb h⟩
 ·show ((reachOf l.stalls (applAt l a)).map fun x=>x.1.toNat).Nodup
  have e:(reachOf l.stalls (applAt l a)).map (fun x=>x.1.toNat)=((reachOf l.stalls (applAt l a)).map Prod.fst).map Int.toNat:=by rw [List.map_map];rfl
  rw [e]
  refine nodup_toNat (fun x hx=>?_) (reach_nodup ok ha)
  obtain ⟨y,y1,y2⟩:=List.mem_map.mp hx
  obtain ⟨k,k1,_⟩:=reach_mem ok ha y1
  omega
 ·obtain ⟨y,y1,y2⟩:=List.mem_map.mp hs
  obtain ⟨k,k1,k2,_⟩:=reach_mem ok ha y1
  show s<l.stalls.length
  omega
theorem bidOf_iff (st:Int):∀ T:List (Int × Int),(bidOf st T).2=true↔∃ x ∈ T,x.1=st
 | []=>by simp [bidOf]
 | x::T=>by
  unfold bidOf
  by_cases h:x.1=st
  ·rw [if_pos h];simp [h]
  ·rw [if_neg h,bidOf_iff st T];simp [h]
theorem canI_iff {l:Letting} (ok:l.Ok) {a st:Nat} (ha:a<l.appls.length):canI l st a=true↔st ∈ (mktOf l).R a:=by
 unfold canI bidI
 show (bidOf (st:Int) (reachOf l.stalls (applAt l a))).2=true↔_
 rw [bidOf_iff]
 show _↔st ∈ (reachOf l.stalls (applAt l a)).map fun x=>x.1.toNat
 rw [List.mem_map]
 constructor
 ·rintro ⟨x,h1,h2⟩;exact ⟨x,h1,by rw [h2];exact Int.toNat_natCast st⟩
 ·rintro ⟨x,h1,h2⟩
  obtain ⟨k,k1,_⟩:=reach_mem ok ha h1
  exact ⟨x,h1,by omega⟩
theorem able_iff {l:Letting} (ok:l.Ok) {a st:Nat} (ha:a<l.appls.length):a ∈ ableL l st↔st ∈ (mktOf l).R a:=by
 rw [ableL_mem,← canI_iff ok ha];exact ⟨fun h=>h.2,fun h=>⟨ha,h⟩⟩
theorem betterB_iff (l:Letting) (st a:Nat) (h:Int):betterB l st a h=true↔(mktOf l).Better st a h:=by
 unfold betterB Mkt.Better
 simp only [Bool.or_eq_true,decide_eq_true_eq]
 rfl
end Go.Proofs.Ytbcjojljiochfaa.walk
