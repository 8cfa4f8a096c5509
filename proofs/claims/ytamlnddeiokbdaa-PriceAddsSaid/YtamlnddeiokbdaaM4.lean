/- Copies of books. -/
import Derived.Test.YtamlnddeiokbdaaM3
import Derived.Test.YtamlnddeiokbdaaM2
import Derived.Test.YtamlnddeiokbdaaCodes
import Derived.Test.YtamlnddeiokbdaaProg
import Derived.Tactics
import Derived.Tactics2
import Derived.WalkKit
import Derived.OpenShut
import Derived.Below
import Derived.Lib.Hide
import Derived.KernelRfl
import Derived.Deep.RegionHeld3
import Derived.OwnWalk
import Derived.StillTailTactics
import Derived.Test.YtamlnddeiokbdaaAbsTop
import Derived.Test.YtamlnddeiokbdaaAbsWalk
import Derived.Test.YtamlnddeiokbdaaAwake
import Derived.Test.YtamlnddeiokbdaaWalkAll
set_option linter.unusedSimpArgs false
set_option maxHeartbeats 16000000
set_option linter.unusedVariables false
set_option maxRecDepth 10000
namespace Go.Abs
theorem Own.move {h h':Heap} {lo lo' n n' w tg:Nat} {rows:List (List AV)} {v:AV} (r:Own h lo n w tg rows v) (hh:∀ b,lo≤b→b<n→h'.get b=h.get b) (hl:lo'≤lo) (hn:n≤n'):Own h' lo' n' w tg rows v:=by
 refine ⟨r.wide,?_⟩
 rcases r.is with ⟨h1,h2 | ⟨b,h0,h3,h4,h5⟩⟩ | ⟨h1,b,h0,h3,h4,h5⟩
 ·exact .inl ⟨h1,.inl h2⟩
 ·exact .inl ⟨h1,.inr ⟨b,by omega,by omega,h4,by rw [hh b h0 h3];exact h5⟩⟩
 ·exact .inr ⟨h1,b,by omega,by omega,h4,by rw [hh b h0 h3];exact h5⟩
theorem Own.none {h h':Heap} {lo lo' n n' w tg:Nat} {rows:List (List AV)} {v:AV} (r:Own h lo n w tg rows v) (hp:plain v=true):Own h' lo' n' w tg rows v:=by
 rcases r.is with ⟨h1,h2 | ⟨b,_,_,h4,_⟩⟩ | ⟨_,b,_,_,h4,_⟩
 ·subst h1;subst h2;exact ⟨fun x hx=>(by cases hx),.inl ⟨rfl,.inl rfl⟩⟩
 ·subst h4;cases hp
 ·subst h4;cases hp
end Go.Abs
namespace Go.Proofs.Ytamlnddeiokbdaa.walk
open Go.Abs Go.Proofs.Ytamlnddeiokbdaa.code
theorem sale_scalars (l:List Sale):∀ r ∈ l.map Sale.cells,scalars r=true:=by
 intro r hr
 obtain ⟨f,_,rfl⟩:=List.mem_map.mp hr
 rfl
theorem CopyBook_ex {N:Nat} {b:Book} {v:AV} {s:St} {r:ARes} (hr:call Try.prog X N (.fn 29) [.agg (bookV b v)] s=r) (hN:1≤N) (hv:Seq s.h s.n 6 (b.sales.map Sale.cells) v) (hl:b.sales.length≤1000) (hs:s.n+100≤far) :
  ∃ v' t,r=.val (.agg (bookV b v')) t∧New s t 10∧Own t.h s.n t.n 6 (tag 51) (b.sales.map Sale.cells) v':=by
 obtain ⟨n,rfl⟩:∃ n,N=n+1:=⟨N - 1,by omega⟩
 have hf:far=1000000000:=rfl
 obtain ⟨w',t,e,st,v',rfl,hq⟩:=call_new' (n:=n) (args:=[.agg (bookV b v)]) (s:=s) (k:=10) (Q:=fun w' h m=>∃ v',w'=.agg (bookV b v')∧Own h s.n m 6 (tag 51) (b.sales.map Sale.cells) v') Try.func29 rfl (fun u uh un um=>by
  rw [← uh,← un] at hv
  rw [← un]
  obtain ⟨kv,qv,yv⟩:=hv.scalar
  have scB:scalars (bookV b v)=true:=by show scalars [v]=true;rw [yv];rfl
  obtain ⟨w,hw⟩:∃ w:St,w=(u.new (.cells (bookV b v) (tag 27))).new (.cells [.int .i64 0,.int .i64 0,.nilslice] (tag 27)):=⟨_,rfl⟩
  have wn:w.n=u.n+2:=by rw [hw];rfl
  have wm:w.m=far:=by rw [hw];exact um
  have wg:∀ c,c<u.n→w.h.get c=u.h.get c:=fun c hc=>by rw [hw,get_new_ne _ _ _ (by rw [new_n];omega),get_new_ne _ _ _ (by omega)]
  have w0:w.h.get u.n=some (.cells (bookV b v) (tag 27)):=by rw [hw,get_new_ne _ _ _ (by rw [new_n];omega)];exact get_new_eq _ _ _ rfl (by omega)
  have w1:w.h.get (u.n+1)=some (.cells [.int .i64 0,.int .i64 0,.nilslice] (tag 27)):=by rw [hw];exact get_new_eq _ _ _ rfl (by rw [new_n];omega)
  obtain ⟨x,hx⟩:∃ x:St,x=w.new (.cells [] 0):=⟨_,rfl⟩
  have xn:x.n=w.n+1:=by rw [hx];rfl
  have xm:x.m=far:=by rw [hx];exact wm
  have xg:∀ c,c<w.n→x.h.get c=w.h.get c:=fun c hc=>by rw [hx,get_new_ne _ _ _ (by omega)]
  obtain ⟨a1,s1,e1,own1,ln1,le1,same1,m1,mm1⟩:=append_copy (bytes:=48) (tg:=tag 51) (p:=w.n) (hv.grow (h':=x.h) (n':=x.n) (fun c hc=>(xg c (by omega)).trans (wg c hc)) (by omega)) (by rw [hx];exact get_new_eq _ _ _ rfl (by omega)) (by omega) (sale_scalars b.sales) (by rw [List.length_map];omega) (by omega)
  obtain ⟨p1,q1,z1⟩:=own1.seq.scalar
  have y0:=(same1 u.n (by omega)).trans ((xg u.n (by omega)).trans w0)
  have y1:=(same1 (u.n+1) (by omega)).trans ((xg (u.n+1) (by omega)).trans w1)
  have z1':scalars [a1]=true:=by rw [z1];rfl
  have mw:=m1 w.n (Nat.le_refl _) (by omega)
  have sh3:shapeT Try.prog 27=some (some 3):=by kernel_rfl
  have w0':=w0
  unfold bookV at w0 hw scB y0
  rw [hx] at e1
  rw [enter29]
  unfold bookV
  simp (disch:=first|omega|(with_unfolding_all exact rfl)|(simp only[new_n,put_n,new_m];omega)|(refine put_m_le ?_;simp only[new_m];omega)) only [res29,K29,K29r0,Abs.W,reduceIte,Nat.reduceEqDiff,Nat.reduceAdd,decide_true,decide_false,kLoop_def,Nat.reduceSub,List.cons_append,List.nil_append,List.append_nil,List.length_cons,List.length_nil,scB]
  rw [← hw]
  clear hw
  simp (disch:=first|omega|(with_unfolding_all exact rfl)|(simp only[new_n,put_n,new_m];omega)|(refine put_m_le ?_;simp only[new_m];omega)) only [K29r1,Abs.W,reduceIte,Nat.reduceEqDiff,Nat.reduceAdd,decide_true,decide_false,kLoop_def,Nat.reduceSub,List.cons_append,List.nil_append,List.append_nil,List.length_cons,List.length_nil,Env.find_set,w0,kv,e1,p1,y0,z1',q1,Nat.zero_add]
  have scA:scalars [AV.int .i64 b.stalls,.int .i64 b.goods,a1]=true:=by show scalars [a1]=true;exact z1'
  simp (disch:=first|omega|(with_unfolding_all exact rfl)|(simp only[new_n,put_n,new_m];omega)|(refine put_m_le ?_;simp only[new_m];omega)) only [K29r2,Abs.W,reduceIte,Nat.reduceEqDiff,Nat.reduceAdd,decide_true,decide_false,kLoop_def,Nat.reduceSub,List.cons_append,List.nil_append,List.append_nil,List.length_cons,List.length_nil,Env.find_set,new_n,y0,y1,scA,z1',p1,Nat.zero_add]
  refine ⟨.agg (bookV b a1),_,leave_cell _ _ _ _ sh3 ?_,⟨fun c hc=>?_,by simp only [put_n];omega,by simp only [put_n];omega,?_,?_⟩,⟨a1,rfl,?_⟩,fun hp=>?_⟩
  ·simp only [Env.find_set,find_cons,reduceIte,Nat.reduceEqDiff]
   rw [load_ptr,get_put_eq _ _ _ _ rfl (by omega),loadO_cells,partS_some]
   rfl
  ·rw [get_put_ne' _ _ _ _ (by omega),get_put_ne' _ _ _ _ (by omega)]
   exact (same1 c (by omega)).trans ((xg c (by omega)).trans (wg c hc))
  ·simp only [St.put,minN_eq];omega
  ·simp only [St.put,minN_eq];omega
  ·exact own1.move (fun c hc1 hc2=>by rw [get_put_ne' _ _ _ _ (by omega),get_put_ne' _ _ _ _ (by omega)]) (by omega) (Nat.le_refl _)
  ·have hp:(match plain a1 with | true=>plains [] | false=>false)=true:=hp
   have ha:plain a1=true:=by
    cases h:plain a1 with
    | true=>rfl
    | false=>rw [h] at hp;cases hp
   exact ⟨a1,rfl,own1.none ha⟩)
 exact ⟨v',t,hr.symm.trans e,st,hq⟩
end Go.Proofs.Ytamlnddeiokbdaa.walk
set_option maxRecDepth 10000
namespace Go.Proofs.Ytamlnddeiokbdaa.walk
open Go.Abs Go.Proofs.Ytamlnddeiokbdaa.code
theorem extE0 (a b:AV) (s:St):extA 0 s (.tup [a,b])=.val a s:=Eq.trans (Eq.refl _) (Eq.refl _)
theorem extE1 (a b:AV) (s:St):extA 1 s (.tup [a,b])=.val b s:=Eq.trans (Eq.refl _) (Eq.refl _)
theorem okA_tupE (a b:AV) (s:St):okA (.val (.tup [a,b]) s)=.val (.tup [a,b]) s:=Eq.trans (Eq.refl _) (Eq.refl _)
theorem due_range {l:List Step} (ok:StepsOk l) {t:Int} (ht:0≤t):0≤dueI l t∧dueI l t≤t:=by
 have:=share_range ok ht l.length (Nat.le_refl _)
 unfold dueI
 omega
theorem dueRows_cut (l:List Step) (sales:List Sale) {k i:Nat} (hi:i<k):cut (i * 2) 2 (dueRows l sales k).flatten=some (dueRow l sales i):=by
 rw [flatten_cut (dueRows_wide l sales k) (by rw [dueRows_len];exact hi)]
 unfold dueRows
 simp
theorem dueRows_lo (l:List Step) (sales:List Sale) {k i:Nat} (hi:i<k):nth (dueRows l sales k).flatten (i * 2)=.int .i64 (dueI l (turnOf false sales i)):=by
 obtain ⟨a,t,z1,z2,z3⟩:=cut_some (dueRows_cut l sales hi)
 rw [z1,← z2,List.append_assoc,← Nat.add_zero a.length,nth_skip]
 rfl
theorem dueRows_hi (l:List Step) (sales:List Sale) {k i:Nat} (hi:i<k):nth (dueRows l sales k).flatten (i * 2+1)=.int .i64 (dueI l (turnOf true sales i)):=by
 obtain ⟨a,t,z1,z2,z3⟩:=cut_some (dueRows_cut l sales hi)
 rw [z1,← z2,List.append_assoc,nth_skip]
 rfl
theorem ada_round (n:Nat) (hn:9≤n) (cx:Ctx) {A B:List Sale} {l:List Step} {v1 v2 v3:AV} {u t:St} {L:Env} {p4 p5 p6 bd1 bd2 i kk:Nat} (okA':(⟨3,3,A⟩:Book).Ok) (okB:(⟨3,3,B⟩:Book).Ok) (okC:(⟨3,3,A++B⟩:Book).Ok) (oks:StepsOk l)
  (g4:u.h.get p4=some (.cells [.int .i64 3,.int .i64 3,v1] (tag 27))) (g5:u.h.get p5=some (.cells [.int .i64 3,.int .i64 3,v2] (tag 27))) (g6:u.h.get p6=some (.cells [.int .i64 3,.int .i64 3,v3] (tag 27)))
  (gd1:u.h.get bd1=some (.cells (dueRows l A 3).flatten 0)) (gd2:u.h.get bd2=some (.cells (dueRows l (A++B) 3).flatten 0)) (b4:p4<u.n) (b5:p5<u.n) (b6:p6<u.n) (c1:bd1<u.n) (c2:bd2<u.n)
  (R1:RowsAt u.h u.n 6 (A.map Sale.cells) v1) (R2:RowsAt u.h u.n 6 (B.map Sale.cells) v2) (R3:RowsAt u.h u.n 6 ((A++B).map Sale.cells) v3)
  (hE:Past u t kk) (hs:u.n+kk+20000≤far) (hi:i<3)
  (q4:L.find 4=.ptr p4 0) (q5:L.find 5=.ptr p5 0) (q6:L.find 6=.ptr p6 0) (q8:L.find 8=.slice bd1 0 3 3 false) (q10:L.find 10=.slice bd2 0 3 3 false) (q12:L.find 12=.int .i64 (i:Int)) :
  ∃ L1 t1,K7l0 (knows 20 (call Try.prog X n)) cx L [] t=.done .norm L1 [] t1∧Past u t1 (kk+3)∧L1.find 4=.ptr p4 0∧L1.find 5=.ptr p5 0∧L1.find 6=.ptr p6 0∧L1.find 8=.slice bd1 0 3 3 false∧L1.find 10=.slice bd2 0 3 3 false∧L1.find 12=.int .i64 ((i+1:Nat):Int):=by
 have hf:far=1000000000:=rfl
 have knT:∀ args s,knows 20 (call Try.prog X n) (.fn 17) args s=call Try.prog X n (.fn 17) args s:=fun _ _=>rfl
 have tn:=hE.n
 have tl:=hE.le
 have e0:decide ((i:Int)<3)=true:=decide_eq_true (by omega)
 have z0:decide ((0:Int)=0)=true:=rfl
 have ix1:∀ s,ixsA 2 s (.slice bd1 0 3 3 false) (.int .i64 (i:Int))=.val (.ptr bd1 (i * 2)) s:=fun s=>by rw [ixs_slice _ _ _ _ _ _ _ _ hi,Nat.zero_add]
 have ix2:∀ s,ixsA 2 s (.slice bd2 0 3 3 false) (.int .i64 (i:Int))=.val (.ptr bd2 (i * 2)) s:=fun s=>by rw [ixs_slice _ _ _ _ _ _ _ _ hi,Nat.zero_add]
 have ad:∀ s,aAdd s .i64 (i:Int) 1=.val (.int .i64 ((i+1:Nat):Int)) s:=fun s=>by rw [aAdd_i64 s _ _ (by omega)];rfl
 have la:=okA'.l
 have lb:=okB.l
 have la':A.length≤40:=la
 have lb':B.length≤40:=lb
 obtain ⟨xl0,xl1⟩:=turnOf_range false (i:Int) A okA'.ok
 obtain ⟨xh0,xh1⟩:=turnOf_range true (i:Int) A okA'.ok
 obtain ⟨yl0,yl1⟩:=turnOf_range false (i:Int) B okB.ok
 obtain ⟨yh0,yh1⟩:=turnOf_range true (i:Int) B okB.ok
 have zl:=turnOf_app false (i:Int) A B
 have zh:=turnOf_app true (i:Int) A B
 have T:∀ (S:List Sale) (v:AV) (w:St) (k:Nat),(⟨3,3,S⟩:Book).Ok→RowsAt u.h u.n 6 (S.map Sale.cells) v→Past u w (kk+k)→k≤10→call Try.prog X n (.fn 17) [.agg [.int .i64 3,.int .i64 3,v],.int .i64 (i:Int)] w=.val (.tup [.agg [.int .i64 (turnOf false S i),.int .i64 (turnOf true S i)],.int .i64 0]) w:=fun S v w k ok hR hw hk=>Turnover_ok (b:=⟨3,3,S⟩) (by omega) ok hi (hR.grow hw.same hw.n) (by have:=hw.le;omega)
 have ov1:∀ t,okA (.val v1 t)=.val v1 t:=fun t=>okA_ne R1.ne
 have ov2:∀ t,okA (.val v2 t)=.val v2 t:=fun t=>okA_ne R2.ne
 have ov3:∀ t,okA (.val v3 t)=.val v3 t:=fun t=>okA_ne R3.ne
 have T1:=T A v1 t 0 okA' R1 hE (by omega)
 have t4:=(hE.same p4 b4).trans g4
 obtain ⟨x,hx⟩:∃ x:St,x=(t.new (.cells [.int .i64 0,.int .i64 0] (tag 38))).put t.n (.cells [.int .i64 (turnOf false A i),.int .i64 (turnOf true A i)] (tag 38)):=⟨_,rfl⟩
 have xn:x.n=t.n+1:=by rw [hx];rfl
 have xt:x.h.get t.n=some (.cells [.int .i64 (turnOf false A i),.int .i64 (turnOf true A i)] (tag 38)):=by rw [hx];exact get_put_eq _ _ _ _ rfl (by omega)
 have hX:Past u x (kk+1):=by rw [hx];exact (hE.new _).put _ tn
 have T2:=T B v2 x 1 okB R2 hX (by omega)
 have x5:=(hX.same p5 b5).trans g5
 simp (disch:=first|omega|(with_unfolding_all exact rfl)|(simp only[new_n,put_n,new_m];omega)|(refine put_m_le ?_;simp only[new_m];omega)) only [K7l0,K7r12,K7r13,Abs.W,reduceIte,Nat.reduceEqDiff,Nat.reduceAdd,decide_true,decide_false,kLoop_def,Nat.reduceSub,List.cons_append,List.nil_append,List.append_nil,List.length_cons,List.length_nil,Env.find_set,q4,q5,q6,q8,q10,q12,e0,t4,knT,T1,extE0,extE1,okA_tupE,Nat.zero_add]
 rw [← hx]
 obtain ⟨y,hy⟩:∃ y:St,y=(x.new (.cells [.int .i64 0,.int .i64 0] (tag 38))).put x.n (.cells [.int .i64 (turnOf false B i),.int .i64 (turnOf true B i)] (tag 38)):=⟨_,rfl⟩
 have yn:y.n=x.n+1:=by rw [hy];rfl
 have yt:y.h.get x.n=some (.cells [.int .i64 (turnOf false B i),.int .i64 (turnOf true B i)] (tag 38)):=by rw [hy];exact get_put_eq _ _ _ _ rfl (by omega)
 have yx:y.h.get t.n=some (.cells [.int .i64 (turnOf false A i),.int .i64 (turnOf true A i)] (tag 38)):=by rw [hy,get_put_ne' _ _ _ _ (by omega),get_new_ne _ _ _ (by omega)];exact xt
 have hY:Past u y (kk+2):=by rw [hy];exact (hX.new _).put _ (by omega)
 have T3:=T (A++B) v3 y 2 okC R3 hY (by omega)
 have y6:=(hY.same p6 b6).trans g6
 simp (disch:=first|omega|(with_unfolding_all exact rfl)|(simp only[new_n,put_n,new_m];omega)|(refine put_m_le ?_;simp only[new_m];omega)) only [K7r14,Abs.W,reduceIte,Nat.reduceEqDiff,Nat.reduceAdd,decide_true,decide_false,kLoop_def,Nat.reduceSub,List.cons_append,List.nil_append,List.append_nil,List.length_cons,List.length_nil,Env.find_set,q4,q5,q6,q8,q10,q12,x5,knT,T2,extE0,extE1,okA_tupE,Nat.zero_add]
 rw [← hy]
 obtain ⟨z,hz⟩:∃ z:St,z=(y.new (.cells [.int .i64 0,.int .i64 0] (tag 38))).put y.n (.cells [.int .i64 (turnOf false (A++B) i),.int .i64 (turnOf true (A++B) i)] (tag 38)):=⟨_,rfl⟩
 have zn:z.n=y.n+1:=by rw [hz];rfl
 have zt:z.h.get y.n=some (.cells [.int .i64 (turnOf false (A++B) i),.int .i64 (turnOf true (A++B) i)] (tag 38)):=by rw [hz];exact get_put_eq _ _ _ _ rfl (by omega)
 have zy:z.h.get x.n=some (.cells [.int .i64 (turnOf false B i),.int .i64 (turnOf true B i)] (tag 38)):=by rw [hz,get_put_ne' _ _ _ _ (by omega),get_new_ne _ _ _ (by omega)];exact yt
 have zx:z.h.get t.n=some (.cells [.int .i64 (turnOf false A i),.int .i64 (turnOf true A i)] (tag 38)):=by rw [hz,get_put_ne' _ _ _ _ (by omega),get_new_ne _ _ _ (by omega)];exact yx
 have hZ:Past u z (kk+3):=by rw [hz];exact (hY.new _).put _ (by omega)
 simp (disch:=first|omega|(with_unfolding_all exact rfl)|(simp only[new_n,put_n,new_m];omega)|(refine put_m_le ?_;simp only[new_m];omega)) only [K7r15,Abs.W,reduceIte,Nat.reduceEqDiff,Nat.reduceAdd,decide_true,decide_false,kLoop_def,Nat.reduceSub,List.cons_append,List.nil_append,List.append_nil,List.length_cons,List.length_nil,Env.find_set,q4,q5,q6,q8,q10,q12,y6,knT,T3,extE0,extE1,okA_tupE,Nat.zero_add]
 rw [← hz]
 clear hx hy hz T1 T2 T3 T
 have d1:=(hZ.same bd1 c1).trans gd1
 have d2:=(hZ.same bd2 c2).trans gd2
 have n1:=dueRows_lo l A hi
 have n2:=dueRows_hi l A hi
 have n3:=dueRows_lo l (A++B) hi
 have n4:=dueRows_hi l (A++B) hi
 have o1:=due_grows oks xl0 (y:=turnOf false (A++B) i) (by omega)
 have o2:=due_grows oks xh0 (y:=turnOf true (A++B) i) (by omega)
 have o3:=due_range oks xl0
 have o4:=due_range oks xh0
 have o5:=due_range oks (t:=turnOf false (A++B) i) (by omega)
 have o6:=due_range oks (t:=turnOf true (A++B) i) (by omega)
 generalize hp1:turnOf false A (i:Int)=xl at *
 generalize hp2:turnOf true A (i:Int)=xh at *
 generalize hp3:turnOf false B (i:Int)=yl at *
 generalize hp4:turnOf true B (i:Int)=yh at *
 generalize hp5:turnOf false (A++B) (i:Int)=zl' at *
 generalize hp6:turnOf true (A++B) (i:Int)=zh' at *
 generalize hp7:dueI l xl=pl at *
 generalize hp8:dueI l xh=ph at *
 generalize hp9:dueI l zl'=ql at *
 generalize hp10:dueI l zh'=qh at *
 clear hp1 hp2 hp3 hp4 hp5 hp6 hp7 hp8 hp9 hp10
 have a1:∀ s,aAdd s .i64 xl yl=.val (.int .i64 zl') s:=fun s=>by rw [zl];exact aAdd_i64 s _ _ (by omega)
 have a2:∀ s,aAdd s .i64 xh yh=.val (.int .i64 zh') s:=fun s=>by rw [zh];exact aAdd_i64 s _ _ (by omega)
 have w1:decide (zl'=zl')=true:=decide_eq_true rfl
 have w2:decide (zh'=zh')=true:=decide_eq_true rfl
 have w3:decide (ql<pl)=false:=decide_eq_false (by omega)
 have w4:decide (qh<ph)=false:=decide_eq_false (by omega)
 have a3:∀ s,aSub s .i64 ql pl=.val (.int .i64 (ql - pl)) s:=fun s=>aSub_i64 s _ _ (by omega)
 have a4:∀ s,aSub s .i64 qh ph=.val (.int .i64 (qh - ph)) s:=fun s=>aSub_i64 s _ _ (by omega)
 have w5:decide (yl<ql - pl)=false:=decide_eq_false (by omega)
 have w6:decide (yh<qh - ph)=false:=decide_eq_false (by omega)
 have u16s4:=fun cl L s=>congrFun (congrFun (congrFun K7r16s4.eq_1 cl) L) s
 have u16s5:=fun cl L s=>congrFun (congrFun (congrFun K7r16s5.eq_1 cl) L) s
 have u16s8:=fun cl L s=>congrFun (congrFun (congrFun K7r16s8.eq_1 cl) L) s
 have u16s9:=fun cl L s=>congrFun (congrFun (congrFun K7r16s9.eq_1 cl) L) s
 have u16s12:=fun cl L s=>congrFun (congrFun (congrFun K7r16s12.eq_1 cl) L) s
 have u16s13:=fun cl L s=>congrFun (congrFun (congrFun K7r16s13.eq_1 cl) L) s
 have u16s14:=fun cl L s=>congrFun (congrFun (congrFun K7r16s14.eq_1 cl) L) s
 have u16s15:=fun cl L s=>congrFun (congrFun (congrFun K7r16s15.eq_1 cl) L) s
 have u16s16:=fun cl L s=>congrFun (congrFun (congrFun K7r16s16.eq_1 cl) L) s
 have u16s17:=fun cl L s=>congrFun (congrFun (congrFun K7r16s17.eq_1 cl) L) s
 have u16s18:=fun cl L s=>congrFun (congrFun (congrFun K7r16s18.eq_1 cl) L) s
 have u16s19:=fun cl L s=>congrFun (congrFun (congrFun K7r16s19.eq_1 cl) L) s
 have u16s22:=fun cl L s=>congrFun (congrFun (congrFun K7r16s22.eq_1 cl) L) s
 have u16s23:=fun cl L s=>congrFun (congrFun (congrFun K7r16s23.eq_1 cl) L) s
 have u16s24:=fun cl L s=>congrFun (congrFun (congrFun K7r16s24.eq_1 cl) L) s
 have u16s25:=fun cl L s=>congrFun (congrFun (congrFun K7r16s25.eq_1 cl) L) s
 have u16s26:=fun cl L s=>congrFun (congrFun (congrFun K7r16s26.eq_1 cl) L) s
 have u16s27:=fun cl L s=>congrFun (congrFun (congrFun K7r16s27.eq_1 cl) L) s
 have u16s28:=fun cl L s=>congrFun (congrFun (congrFun K7r16s28.eq_1 cl) L) s
 have u16s29:=fun cl L s=>congrFun (congrFun (congrFun K7r16s29.eq_1 cl) L) s
 simp (config:={ maxSteps:=3000000 }) (disch:=first|omega|(with_unfolding_all exact rfl)|(simp only[new_n,put_n,new_m];omega)|(refine put_m_le ?_;simp only[new_m];omega)) only [K7r16,u16s4,u16s5,u16s8,u16s9,u16s12,u16s13,u16s14,u16s15,u16s16,u16s17,u16s18,u16s19,u16s22,u16s23,u16s24,u16s25,u16s26,u16s27,u16s28,u16s29,Abs.W,reduceIte,Nat.reduceEqDiff,Nat.reduceAdd,decide_true,decide_false,kLoop_def,Nat.reduceSub,List.cons_append,List.nil_append,List.append_nil,List.length_cons,List.length_nil,Env.find_set,q4,q5,q6,q8,q10,q12,zx,zy,zt,z0,a1,a2,w1,w2,Nat.zero_add]
 have u18s13:=fun cl L s=>congrFun (congrFun (congrFun K7r18s13.eq_1 cl) L) s
 have u18s14:=fun cl L s=>congrFun (congrFun (congrFun K7r18s14.eq_1 cl) L) s
 have u18s15:=fun cl L s=>congrFun (congrFun (congrFun K7r18s15.eq_1 cl) L) s
 have u18s16:=fun cl L s=>congrFun (congrFun (congrFun K7r18s16.eq_1 cl) L) s
 have u18s17:=fun cl L s=>congrFun (congrFun (congrFun K7r18s17.eq_1 cl) L) s
 have u18s18:=fun cl L s=>congrFun (congrFun (congrFun K7r18s18.eq_1 cl) L) s
 have u18s19:=fun cl L s=>congrFun (congrFun (congrFun K7r18s19.eq_1 cl) L) s
 have u18s20:=fun cl L s=>congrFun (congrFun (congrFun K7r18s20.eq_1 cl) L) s
 have u18s21:=fun cl L s=>congrFun (congrFun (congrFun K7r18s21.eq_1 cl) L) s
 have u18s22:=fun cl L s=>congrFun (congrFun (congrFun K7r18s22.eq_1 cl) L) s
 have u18s23:=fun cl L s=>congrFun (congrFun (congrFun K7r18s23.eq_1 cl) L) s
 have u18s26:=fun cl L s=>congrFun (congrFun (congrFun K7r18s26.eq_1 cl) L) s
 have u18s27:=fun cl L s=>congrFun (congrFun (congrFun K7r18s27.eq_1 cl) L) s
 have u18s28:=fun cl L s=>congrFun (congrFun (congrFun K7r18s28.eq_1 cl) L) s
 have u18s29:=fun cl L s=>congrFun (congrFun (congrFun K7r18s29.eq_1 cl) L) s
 have u18s30:=fun cl L s=>congrFun (congrFun (congrFun K7r18s30.eq_1 cl) L) s
 have u18s31:=fun cl L s=>congrFun (congrFun (congrFun K7r18s31.eq_1 cl) L) s
 have u18s32:=fun cl L s=>congrFun (congrFun (congrFun K7r18s32.eq_1 cl) L) s
 have u18s33:=fun cl L s=>congrFun (congrFun (congrFun K7r18s33.eq_1 cl) L) s
 have u18s34:=fun cl L s=>congrFun (congrFun (congrFun K7r18s34.eq_1 cl) L) s
 have u18s35:=fun cl L s=>congrFun (congrFun (congrFun K7r18s35.eq_1 cl) L) s
 have u18s36:=fun cl L s=>congrFun (congrFun (congrFun K7r18s36.eq_1 cl) L) s
 have u18s37:=fun cl L s=>congrFun (congrFun (congrFun K7r18s37.eq_1 cl) L) s
 have u18s38:=fun cl L s=>congrFun (congrFun (congrFun K7r18s38.eq_1 cl) L) s
 have u18s39:=fun cl L s=>congrFun (congrFun (congrFun K7r18s39.eq_1 cl) L) s
 have u18s42:=fun cl L s=>congrFun (congrFun (congrFun K7r18s42.eq_1 cl) L) s
 have u18s43:=fun cl L s=>congrFun (congrFun (congrFun K7r18s43.eq_1 cl) L) s
 have u18s44:=fun cl L s=>congrFun (congrFun (congrFun K7r18s44.eq_1 cl) L) s
 have u18s45:=fun cl L s=>congrFun (congrFun (congrFun K7r18s45.eq_1 cl) L) s
 have u18s46:=fun cl L s=>congrFun (congrFun (congrFun K7r18s46.eq_1 cl) L) s
 have u18s47:=fun cl L s=>congrFun (congrFun (congrFun K7r18s47.eq_1 cl) L) s
 have u18s48:=fun cl L s=>congrFun (congrFun (congrFun K7r18s48.eq_1 cl) L) s
 have u18s49:=fun cl L s=>congrFun (congrFun (congrFun K7r18s49.eq_1 cl) L) s
 have u18s50:=fun cl L s=>congrFun (congrFun (congrFun K7r18s50.eq_1 cl) L) s
 have u18s51:=fun cl L s=>congrFun (congrFun (congrFun K7r18s51.eq_1 cl) L) s
 have u18s52:=fun cl L s=>congrFun (congrFun (congrFun K7r18s52.eq_1 cl) L) s
 have u18s53:=fun cl L s=>congrFun (congrFun (congrFun K7r18s53.eq_1 cl) L) s
 have u18s54:=fun cl L s=>congrFun (congrFun (congrFun K7r18s54.eq_1 cl) L) s
 have u18s55:=fun cl L s=>congrFun (congrFun (congrFun K7r18s55.eq_1 cl) L) s
 simp (config:={ maxSteps:=3000000 }) (disch:=first|omega|(with_unfolding_all exact rfl)|(simp only[new_n,put_n,new_m];omega)|(refine put_m_le ?_;simp only[new_m];omega)) only [K7r18,u18s13,u18s14,u18s15,u18s16,u18s17,u18s18,u18s19,u18s20,u18s21,u18s22,u18s23,u18s26,u18s27,u18s28,u18s29,u18s30,u18s31,u18s32,u18s33,u18s34,u18s35,u18s36,u18s37,u18s38,u18s39,u18s42,u18s43,u18s44,u18s45,u18s46,u18s47,u18s48,u18s49,u18s50,u18s51,u18s52,u18s53,u18s54,u18s55,Abs.W,reduceIte,Nat.reduceEqDiff,Nat.reduceAdd,decide_true,decide_false,kLoop_def,Nat.reduceSub,List.cons_append,List.nil_append,List.append_nil,List.length_cons,List.length_nil,Env.find_set,q4,q5,q6,q8,q10,q12,zx,zy,zt,ix1,ix2,d1,d2,n1,n2,n3,n4,a3,a4,w3,w4,w5,w6,endO_nil,Nat.zero_add,Nat.add_zero]
 simp (disch:=first|omega|(with_unfolding_all exact rfl)|(simp only[new_n,put_n,new_m];omega)|(refine put_m_le ?_;simp only[new_m];omega)) only [K7r20,Abs.W,reduceIte,Nat.reduceEqDiff,Nat.reduceAdd,decide_true,decide_false,kLoop_def,Nat.reduceSub,List.cons_append,List.nil_append,List.append_nil,List.length_cons,List.length_nil,Env.find_set,q12,ad]
 refine ⟨_,_,rfl,hZ,?_,?_,?_,?_,?_,?_⟩<;>simp only [Env.find_set,q4,q5,q6,q8,q10,reduceIte,Nat.reduceEqDiff]
end Go.Proofs.Ytamlnddeiokbdaa.walk
set_option maxRecDepth 10000
namespace Go.Proofs.Ytamlnddeiokbdaa.walk
open Go.Abs Go.Proofs.Ytamlnddeiokbdaa.code
theorem Book.wider {b:Book} (ok:b.Ok) (hk:b.stalls≤3) (hg:b.goods≤3):∀ s ∈ b.sales,s.Ok 3 3:=fun s hs=>by
 obtain ⟨s0,s1,d0,d1,g0,g1,g2,c0,c1,c2⟩:=ok.ok s hs
 exact ⟨s0,by omega,d0,by omega,g0,g1,g2,c0,c1,c2⟩
noncomputable def adaRest:K:=(kSeq (kRegion K7r2 [4,5]) (kSeq (kRegion K7r3 []) (kSeq (kRegion K7r4 [6]) (kSeq (kRegion K7r5 []) (kSeq (kRegion K7r6 [7]) (kSeq (kRegion K7r7 [8,9]) (kSeq (kRegion K7r8 [10,11]) (kSeq (kSeq (kRegion K7r9 [66]) (kCond (.tmp 66) (kSeq (kRegion K7r10 [2]) kRet) kSkip)) (kSeq (kSeq (kRegion K7r11 [12]) (kBlock 0 (kLoop K7l0))) (kSeq (kRegion K7r21 [2]) kRet))))))))))
theorem ada_body (n:Nat) (hn:13≤n) (cx:Ctx) (s:St) (d:Nat) (hd:Die d s.h) (hdn:d<s.n) (hs:s.n+9000000≤far) (hm:s.m=far) :
  ∃ s',finA Try.prog Try.f7 (adaRest (knows 20 (call Try.prog X n)) cx (.cons 3 (.ptr d 0) .nil) [] s)=.val (.bool true) s':=by
 have hf:far=1000000000:=rfl
 have knB:∀ args s,knows 20 (call Try.prog X n) (.fn 10) args s=call Try.prog X n (.fn 10) args s:=fun _ _=>rfl
 have knY:∀ args s,knows 20 (call Try.prog X n) (.fn 29) args s=call Try.prog X n (.fn 29) args s:=fun _ _=>rfl
 have knS:∀ args s,knows 20 (call Try.prog X n) (.fn 11) args s=call Try.prog X n (.fn 11) args s:=fun _ _=>rfl
 have knD:∀ args s,knows 20 (call Try.prog X n) (.fn 12) args s=call Try.prog X n (.fn 12) args s:=fun _ _=>rfl
 have knA:∀ s,knows 20 (call Try.prog X n) (.fn 20) [] s=.val (.bool true) s:=fun _=>rfl
 unfold adaRest
 simp (disch:=first|omega|(with_unfolding_all exact rfl)|(simp only[new_n,put_n,new_m];omega)|(refine put_m_le ?_;simp only[new_m];omega)) only [K7r2,Abs.W,reduceIte,Nat.reduceEqDiff,Nat.reduceAdd,decide_true,decide_false,kLoop_def,Nat.reduceSub,List.cons_append,List.nil_append,List.append_nil,List.length_cons,List.length_nil,Env.find_set,knB]
 generalize hc1:call _ _ _ (.fn 10) _ _=r1
 obtain ⟨a,v1,bl1,t1,rfl,st1,d1,⟨ok1,ak,ag⟩,len1,hbl1,hI1⟩:=BookOf_ex3 (k:=3) (g:=3) (n:=8) hc1 (by omega) hd hdn (by omega) (by omega) (by omega) (by omega)
 have n1:=st1.n
 have k1:=st1.le
 have sc1:scalars (bookV a v1)=true:=by show scalars [v1]=true;exact hI1.scal.1
 unfold bookV at sc1
 simp (disch:=first|omega|(with_unfolding_all exact rfl)|(simp only[new_n,put_n,new_m];omega)|(refine put_m_le ?_;simp only[new_m];omega)) only [Abs.W,reduceIte,Nat.reduceEqDiff,Nat.reduceAdd,decide_true,decide_false,kLoop_def,Nat.reduceSub,List.cons_append,List.nil_append,List.append_nil,List.length_cons,List.length_nil,Env.find_set,knB,sc1,Nat.zero_add]
 generalize hc2:call _ _ _ (.fn 10) _ _=r2
 obtain ⟨b,v2,bl2,t2,rfl,st2,d2,⟨ok2,bk,bg⟩,len2,hbl2,hI2⟩:=BookOf_ex3 (k:=3) (g:=3) (n:=8) hc2 (by omega) d1 (by omega) (by omega) (by omega) (by omega) (by omega)
 have n2:=st2.n
 have k2:=st2.le
 have hI1':=hI1.mono (h':=t2.h) (n':=t2.n) (fun h=>st2.same bl1 h (by omega)) (by omega)
 have sc2:scalars (bookV b v2)=true:=by show scalars [v2]=true;exact hI2.scal.1
 have kv1:∀ t,okA (.val v1 t)=.val v1 t:=hI1.okA
 have kv2:∀ t,okA (.val v2 t)=.val v2 t:=hI2.okA
 unfold bookV at sc2
 simp (disch:=first|omega|(with_unfolding_all exact rfl)|(simp only[new_n,put_n,new_m];omega)|(refine put_m_le ?_;simp only[new_m];omega)) only [Abs.W,reduceIte,Nat.reduceEqDiff,Nat.reduceAdd,decide_true,decide_false,kLoop_def,Nat.reduceSub,List.cons_append,List.nil_append,List.append_nil,List.length_cons,List.length_nil,Env.find_set,sc1,sc2,Nat.zero_add]
 simp only [new_n]
 obtain ⟨y,hy⟩:∃ y:St,y=(((t2.new (.cells [.int .i64 0,.int .i64 0,.nilslice] (tag 27))).new (.cells [.int .i64 0,.int .i64 0,.nilslice] (tag 27))).put t2.n (.cells (bookV a v1) (tag 27))).put (t2.n+1) (.cells (bookV b v2) (tag 27)):=⟨_,rfl⟩
 have yn:y.n=t2.n+2:=by rw [hy];rfl
 have yg:∀ c,c<t2.n→y.h.get c=t2.h.get c:=fun c hc=>by rw [hy,get_put_ne' _ _ _ _ (by omega),get_put_ne' _ _ _ _ (by omega),get_new_ne _ _ _ (by rw [new_n];omega),get_new_ne _ _ _ (by omega)]
 have y4:y.h.get t2.n=some (.cells (bookV a v1) (tag 27)):=by rw [hy,get_put_ne' _ _ _ _ (by omega)];exact get_put_eq _ _ _ _ rfl (by omega)
 have y5:y.h.get (t2.n+1)=some (.cells (bookV b v2) (tag 27)):=by rw [hy];exact get_put_eq _ _ _ _ rfl (by omega)
 unfold bookV at hy y4 y5
 rw [← hy]
 clear hy
 have scv1:scalars [v1]=true:=hI1.scal.1
 have scv2:scalars [v2]=true:=hI2.scal.1
 simp (disch:=first|omega|(with_unfolding_all exact rfl)|(simp only[new_n,put_n,new_m];omega)|(refine put_m_le ?_;simp only[new_m];omega)) only [K7r3,Abs.W,reduceIte,Nat.reduceEqDiff,Nat.reduceAdd,decide_true,decide_false,kLoop_def,Nat.reduceSub,List.cons_append,List.nil_append,List.append_nil,List.length_cons,List.length_nil,Env.find_set,y4,y5,Nat.zero_add]
 obtain ⟨z,hz⟩:∃ z:St,z=(((y.put t2.n (.cells [.int .i64 3,.int .i64 a.goods,v1] (tag 27))).put t2.n (.cells [.int .i64 3,.int .i64 3,v1] (tag 27))).put (t2.n+1) (.cells [.int .i64 3,.int .i64 b.goods,v2] (tag 27))).put (t2.n+1) (.cells [.int .i64 3,.int .i64 3,v2] (tag 27)):=⟨_,rfl⟩
 rw [← hz]
 have zn:z.n=t2.n+2:=by rw [hz];exact yn
 have zg:∀ c,c<t2.n→z.h.get c=t2.h.get c:=fun c hc=>by rw [hz,get_put_ne' _ _ _ _ (by omega),get_put_ne' _ _ _ _ (by omega),get_put_ne' _ _ _ _ (by omega),get_put_ne' _ _ _ _ (by omega)];exact yg c hc
 have z4:z.h.get t2.n=some (.cells [.int .i64 3,.int .i64 3,v1] (tag 27)):=by rw [hz,get_put_ne' _ _ _ _ (by omega),get_put_ne' _ _ _ _ (by omega)];exact get_put_eq _ _ _ _ rfl (by omega)
 have z5:z.h.get (t2.n+1)=some (.cells [.int .i64 3,.int .i64 3,v2] (tag 27)):=by rw [hz];exact get_put_eq _ _ _ _ rfl (by omega)
 clear hz
 have hA:∀ s ∈ a.sales,s.Ok 3 3:=a.wider ok1 ak ag
 have hB:∀ s ∈ b.sales,s.Ok 3 3:=b.wider ok2 bk bg
 have okA':(⟨3,3,a.sales⟩:Book).Ok:=⟨by show 1≤3;omega,by show 3≤8;omega,by show 1≤3;omega,by show 3≤8;omega,by show a.sales.length≤40;omega,hA⟩
 have okB':(⟨3,3,b.sales⟩:Book).Ok:=⟨by show 1≤3;omega,by show 3≤8;omega,by show 1≤3;omega,by show 3≤8;omega,by show b.sales.length≤40;omega,hB⟩
 have okC:(⟨3,3,a.sales++b.sales⟩:Book).Ok:=⟨by show 1≤3;omega,by show 3≤8;omega,by show 1≤3;omega,by show 3≤8;omega,by show (a.sales++b.sales).length≤40;rw [List.length_append];omega,fun s hs=>by
  rcases List.mem_append.mp hs with hs | hs
  ·exact hA s hs
  ·exact hB s hs⟩
 have I1:IsAt z.h z.n bl1 6 (tag 51) (a.sales.map Sale.cells) v1:=hI1'.mono (fun h=>zg bl1 h) (by omega)
 have I2:IsAt z.h z.n bl2 6 (tag 51) (b.sales.map Sale.cells) v2:=hI2.mono (fun h=>zg bl2 h) (by omega)
 simp (disch:=first|omega|(with_unfolding_all exact rfl)|(simp only[new_n,put_n,new_m];omega)|(refine put_m_le ?_;simp only[new_m];omega)) only [K7r4,Abs.W,reduceIte,Nat.reduceEqDiff,Nat.reduceAdd,decide_true,decide_false,kLoop_def,Nat.reduceSub,List.cons_append,List.nil_append,List.append_nil,List.length_cons,List.length_nil,Env.find_set,z4,knY,kv1,scv1,Nat.zero_add]
 generalize hc3:call _ _ _ (.fn 29) _ _=r3
 obtain ⟨v3,t3,rfl,st3,own⟩:=CopyBook_ex (b:=⟨3,3,a.sales⟩) (v:=v1) hc3 (by omega) I1.rows.seq (by show a.sales.length≤1000;omega) (by omega)
 have n3:=st3.n
 have k3:=st3.le
 obtain ⟨kv3,cc3,sx3⟩:=own.seq.scalar
 have sc3:scalars [v3]=true:=by rw [sx3];rfl
 simp (disch:=first|omega|(with_unfolding_all exact rfl)|(simp only[new_n,put_n,new_m];omega)|(refine put_m_le ?_;simp only[new_m];omega)) only [Abs.W,reduceIte,Nat.reduceEqDiff,Nat.reduceAdd,decide_true,decide_false,kLoop_def,Nat.reduceSub,List.cons_append,List.nil_append,List.append_nil,List.length_cons,List.length_nil,Env.find_set,bookV,sc3,Nat.zero_add]
 obtain ⟨x,hx⟩:∃ x:St,x=(t3.new (.cells [.int .i64 0,.int .i64 0,.nilslice] (tag 27))).put t3.n (.cells [.int .i64 ((3:Nat):Int),.int .i64 ((3:Nat):Int),v3] (tag 27)):=⟨_,rfl⟩
 have xn:x.n=t3.n+1:=by rw [hx];rfl
 have xg:∀ c,c<t3.n→x.h.get c=t3.h.get c:=fun c hc=>by rw [hx,get_put_ne' _ _ _ _ (by omega),get_new_ne _ _ _ (by omega)]
 have x6:x.h.get t3.n=some (.cells [.int .i64 3,.int .i64 3,v3] (tag 27)):=by rw [hx];exact get_put_eq _ _ _ _ rfl (by omega)
 have xz:∀ c,c<z.n→x.h.get c=z.h.get c:=fun c hc=>(xg c (by omega)).trans (st3.same c hc)
 have x5:=(xz (t2.n+1) (by omega)).trans z5
 first | rw [← hx] | skip
 have ownx:Own x.h z.n x.n 6 (tag 51) (a.sales.map Sale.cells) v3:=own.mono (fun c _ hc=>xg c hc) (by omega)
 have I2x:=I2.mono (h':=x.h) (n':=x.n) (fun h=>xz bl2 h) (by omega)
 obtain ⟨v4,t4,e4,own4,n4,k4,s4,m4,m4',f4,b4'⟩:=append_own (bytes:=48) ownx I2x.rows.seq (sale_scalars b.sales) (by rw [List.length_map,List.length_map];omega) (by kernel_rfl) (by omega) (by omega)
 obtain ⟨kv4,cc4,sx4⟩:=own4.seq.scalar
 have sc4:scalars [v4]=true:=by rw [sx4];rfl
 have ne3:∀ c,t3.n≤c→∀ o n k e,v3≠.slice c o n k e:=fun c hc o n k e h=>by
  subst h
  rcases own.is with ⟨_,h2 | ⟨q,_,h3,h4,_⟩⟩ | ⟨_,q,_,h3,h4,_⟩
  ·cases h2
  ·injection h4 with h4;omega
  ·injection h4 with h4;omega
 have s46:=(f4 t3.n (by omega) (ne3 _ (Nat.le_refl _))).trans x6
 simp (disch:=first|omega|(with_unfolding_all exact rfl)|(simp only[new_n,put_n,new_m];omega)|(refine put_m_le ?_;simp only[new_m];omega)) only [K7r5,Abs.W,reduceIte,Nat.reduceEqDiff,Nat.reduceAdd,decide_true,decide_false,kLoop_def,Nat.reduceSub,List.cons_append,List.nil_append,List.append_nil,List.length_cons,List.length_nil,Env.find_set,x5,x6,kv2,kv3,e4,kv4,cc4,sc4,s46,Nat.zero_add]
 obtain ⟨w,hw⟩:∃ w:St,w=t4.put t3.n (.cells [.int .i64 3,.int .i64 3,v4] (tag 27)):=⟨_,rfl⟩
 rw [← hw]
 have wn:w.n=t4.n:=by rw [hw];rfl
 have w6:w.h.get t3.n=some (.cells [.int .i64 3,.int .i64 3,v4] (tag 27)):=by rw [hw];exact get_put_eq _ _ _ _ rfl (by omega)
 have wg:∀ c,c≠t3.n→w.h.get c=t4.h.get c:=fun c hc=>by rw [hw,get_put_ne' _ _ _ _ hc]
 clear hw
 have wz:∀ c,c<z.n→w.h.get c=z.h.get c:=fun c hc=>(wg c (by omega)).trans ((s4 c hc).trans (xz c hc))
 have dw:Die d w.h:=Die.keep d2 ((wz d (by omega)).trans (zg d (by omega)))
 have O4:Own w.h z.n w.n 6 (tag 51) ((a.sales++b.sales).map Sale.cells) v4:=by
  rw [List.map_append]
  have bq:∀ q o n k e,v4=.slice q o n k e→q≠t3.n:=fun q o n k e h=>by
   rcases b4' q o n k e h with h | ⟨o,n,k,e,h⟩
   ·omega
   ·intro hq
    exact ne3 q (by omega) o n k e h
  refine ⟨own4.wide,?_⟩
  rcases own4.is with ⟨h1,h2 | ⟨q,h0,h3,h4,h5⟩⟩ | ⟨h1,q,h0,h3,h4,h5⟩
  ·exact .inl ⟨h1,.inl h2⟩
  ·exact .inl ⟨h1,.inr ⟨q,h0,by omega,h4,by rw [wg q (bq _ _ _ _ _ h4)];exact h5⟩⟩
  ·exact .inr ⟨h1,q,h0,by omega,h4,by rw [wg q (bq _ _ _ _ _ h4)];exact h5⟩
 simp (disch:=first|omega|(with_unfolding_all exact rfl)|(simp only[new_n,put_n,new_m];omega)|(refine put_m_le ?_;simp only[new_m];omega)) only [K7r6,Abs.W,reduceIte,Nat.reduceEqDiff,Nat.reduceAdd,decide_true,decide_false,kLoop_def,Nat.reduceSub,List.cons_append,List.nil_append,List.append_nil,List.length_cons,List.length_nil,Env.find_set,knS,Nat.zero_add]
 generalize hc5:call _ _ _ (.fn 11) _ _=r5
 obtain ⟨l,sb,t5,rfl,st5,d5,oks,hl,sb0,sb1,hsb⟩:=StepsOf_ex hc5 (by omega) dw (by omega) (by omega)
 have n5:=st5.n
 have k5:=st5.le
 have g5:∀ c,c<w.n→c≠d→t5.h.get c=w.h.get c:=fun c hc hcd=>st5.same c hc hcd
 have p4:=(g5 t2.n (by omega) (by omega)).trans ((wz t2.n (by omega)).trans z4)
 have p5:=(g5 (t2.n+1) (by omega) (by omega)).trans ((wz (t2.n+1) (by omega)).trans z5)
 have p6:=(g5 t3.n (by omega) (by omega)).trans w6
 have O5:Own t5.h z.n t5.n 6 (tag 51) ((a.sales++b.sales).map Sale.cells) v4:=O4.mono (fun c hc1 hc2=>g5 c hc2 (by omega)) n5
 have J1:IsAt t5.h t5.n bl1 6 (tag 51) (a.sales.map Sale.cells) v1:=I1.mono (fun h=>(g5 bl1 (by omega) (by omega)).trans (wz bl1 h)) (by omega)
 have J2:IsAt t5.h t5.n bl2 6 (tag 51) (b.sales.map Sale.cells) v2:=I2.mono (fun h=>(g5 bl2 (by omega) (by omega)).trans (wz bl2 h)) (by omega)
 have kvs:∀ t,okA (.val (.slice sb 0 l.length l.length true) t)=.val (.slice sb 0 l.length l.length true) t:=fun _=>rfl
 simp (disch:=first|omega|(with_unfolding_all exact rfl)|(simp only[new_n,put_n,new_m];omega)|(refine put_m_le ?_;simp only[new_m];omega)) only [K7r7,Abs.W,reduceIte,Nat.reduceEqDiff,Nat.reduceAdd,decide_true,decide_false,kLoop_def,Nat.reduceSub,List.cons_append,List.nil_append,List.append_nil,List.length_cons,List.length_nil,Env.find_set,p4,kv1,knD,Nat.zero_add]
 generalize hc6:call _ _ _ (.fn 12) _ _=r6
 obtain ⟨bd1,t6,rfl,st6,bd10,bd11,hbd1⟩:=Dues_ex (b:=⟨3,3,a.sales⟩) (v:=v1) hc6 (by omega) okA' oks (by omega) hsb sb1 J1.rows.at_ (by omega)
 have n6:=st6.n
 have k6:=st6.le
 have g6:=st6.same
 have q6:=(g6 t3.n (by omega)).trans p6
 simp (disch:=first|omega|(with_unfolding_all exact rfl)|(simp only[new_n,put_n,new_m];omega)|(refine put_m_le ?_;simp only[new_m];omega)) only [K7r8,Abs.W,reduceIte,Nat.reduceEqDiff,Nat.reduceAdd,decide_true,decide_false,kLoop_def,Nat.reduceSub,List.cons_append,List.nil_append,List.append_nil,List.length_cons,List.length_nil,Env.find_set,okA_tupE,extE0,extE1,q6,kv4,knD,Nat.zero_add]
 generalize hc7:call _ _ _ (.fn 12) _ _=r7
 obtain ⟨bd2,t7,rfl,st7,bd20,bd21,hbd2⟩:=Dues_ex (b:=⟨3,3,a.sales++b.sales⟩) (v:=v4) hc7 (by omega) okC oks (by omega) ((g6 sb sb1).trans hsb) (by omega) (O5.seq.at_.grow g6 n6) (by omega)
 have n7:=st7.n
 have k7:=st7.le
 have g7:=st7.same
 have gg:∀ c,c<t5.n→t7.h.get c=t5.h.get c:=fun c hc=>(g7 c (by omega)).trans (g6 c hc)
 have e0:decide ((0:Int)=0)=true:=rfl
 have e3:decide ((3:Int)=3)=true:=rfl
 have e3':decide (((3:Nat):Int)=3)=true:=rfl
 have u9s4:=fun cl L s=>congrFun (congrFun (congrFun K7r9s4.eq_1 cl) L) s
 have u9s5:=fun cl L s=>congrFun (congrFun (congrFun K7r9s5.eq_1 cl) L) s
 have u9s8:=fun cl L s=>congrFun (congrFun (congrFun K7r9s8.eq_1 cl) L) s
 have u9s9:=fun cl L s=>congrFun (congrFun (congrFun K7r9s9.eq_1 cl) L) s
 have u9s10:=fun cl L s=>congrFun (congrFun (congrFun K7r9s10.eq_1 cl) L) s
 have u9s13:=fun cl L s=>congrFun (congrFun (congrFun K7r9s13.eq_1 cl) L) s
 have u9s14:=fun cl L s=>congrFun (congrFun (congrFun K7r9s14.eq_1 cl) L) s
 have u9s15:=fun cl L s=>congrFun (congrFun (congrFun K7r9s15.eq_1 cl) L) s
 simp (config:={ maxSteps:=3000000 }) (disch:=first|omega|(with_unfolding_all exact rfl)|(simp only[new_n,put_n,new_m];omega)|(refine put_m_le ?_;simp only[new_m];omega)) only [K7r9,u9s4,u9s5,u9s8,u9s9,u9s10,u9s13,u9s14,u9s15,K7r11,Abs.W,reduceIte,Nat.reduceEqDiff,Nat.reduceAdd,decide_true,decide_false,kLoop_def,Nat.reduceSub,List.cons_append,List.nil_append,List.append_nil,List.length_cons,List.length_nil,Env.find_set,okA_tupE,extE0,extE1,e0,e3,e3',Nat.zero_add]
 generalize hl1:loopN _ rounds _ _ _ _ _=q1
 have hU:Past t7 t7 (3 * 0):=Past.refl t7
 obtain ⟨e,L1,s1,rfl,rfl⟩:=loop_of hl1
  (fun i L' t=>L'.find 4=.ptr t2.n 0∧L'.find 5=.ptr (t2.n+1) 0∧L'.find 6=.ptr t3.n 0∧L'.find 8=.slice bd1 0 3 3 false∧L'.find 10=.slice bd2 0 3 3 false∧L'.find 12=.int .i64 (i:Int)∧Past t7 t (3 * i))
  (fun e L1 s1=>e=.exit 0)
  3 (by unfold rounds;omega) ⟨by simp only [find_cons,Env.find_set,reduceIte,Nat.reduceEqDiff],by simp only [find_cons,Env.find_set,reduceIte,Nat.reduceEqDiff],by simp only [find_cons,Env.find_set,reduceIte,Nat.reduceEqDiff],by simp only [find_cons,Env.find_set,reduceIte,Nat.reduceEqDiff],by simp only [find_cons,Env.find_set,reduceIte,Nat.reduceEqDiff],by simp only [find_cons,Env.find_set,reduceIte,Nat.reduceEqDiff];rfl,hU⟩
  (fun i L' t hi ⟨q4,q5,q6,q8,q10,q12,hE⟩=>by
   by_cases hlt:i<3
   ·obtain ⟨L2,t2',z1,z2,y4,y5,y6,y8,y10,y12⟩:=ada_round n (by omega) _ okA' okB' okC oks ((gg t2.n (by omega)).trans p4) ((gg (t2.n+1) (by omega)).trans p5) ((gg t3.n (by omega)).trans p6) ((g7 bd1 bd11).trans hbd1) hbd2 (by omega) (by omega) (by omega) (by omega) (by omega) (J1.rows.at_.grow gg (by omega)) (J2.rows.at_.grow gg (by omega)) (O5.seq.at_.grow gg (by omega)) hE (by omega) hlt q4 q5 q6 q8 q10 q12
    exact .inl ⟨hlt,L2,t2',z1,y4,y5,y6,y8,y10,y12,z2.mono (by omega)⟩
   ·obtain rfl:i=3:=by omega
    have e0:decide (((3:Nat):Int)<3)=false:=rfl
    refine .inr ⟨.exit 0,L'.set 68 (.bool false),t,by simp,?_,rfl⟩
    simp (disch:=first|omega|(with_unfolding_all exact rfl)|(simp only[new_n,put_n,new_m];omega)|(refine put_m_le ?_;simp only[new_m];omega)) only [K7l0,K7r12,Abs.W,reduceIte,Nat.reduceEqDiff,Nat.reduceAdd,decide_true,decide_false,kLoop_def,Nat.reduceSub,List.cons_append,List.nil_append,List.append_nil,List.length_cons,List.length_nil,Env.find_set,q12,e0])
 simp (disch:=first|omega|(with_unfolding_all exact rfl)|(simp only[new_n,put_n,new_m];omega)|(refine put_m_le ?_;simp only[new_m];omega)) only [K7r21,res7,Abs.W,reduceIte,Nat.reduceEqDiff,Nat.reduceAdd,decide_true,decide_false,kLoop_def,Nat.reduceSub,List.cons_append,List.nil_append,List.append_nil,List.length_cons,List.length_nil,Env.find_set,knA]
 exact ⟨_,rfl⟩
end Go.Proofs.Ytamlnddeiokbdaa.walk
set_option maxRecDepth 10000
namespace Go.Proofs.Ytamlnddeiokbdaa.walk
open Go.Abs Go.Proofs.Ytamlnddeiokbdaa.code
end Go.Proofs.Ytamlnddeiokbdaa.walk
namespace Go.Proofs.Ytamlnddeiokbdaa.mdie
open Go.RowKit
def Die (b:Nat) (w:World):Prop:=∃ s,w.heap[b]? = some (.cells #[.int .u64 s] 69 (0,0))
theorem Die.old {b:Nat} {w:World} (h:Die b w):(∃ s,w.cell? ⟨b,0,none⟩=some (.int .u64 s))∧w.frozen? ⟨b,0,none⟩=false:=by
 obtain ⟨s,hs⟩:=h
 refine ⟨⟨s,?_⟩,?_⟩
 ·unfold World.cell?;simp [hs]
 ·unfold World.frozen?;simp [hs]
structure Stir (b:Nat) (w w':World):Prop where
 below:Below b w w'
 rest:∀ p:Addr,p.block≠b→p.block<w.heap.size→w'.cell? p=w.cell? p∧w'.frozen? p=w.frozen? p
 die:Die b w'
def Gives (b:Nat) (k:IntKind) (Q:Int→Prop) (w:World) (e:Ending) (w':World):Prop:=∃ r,Q r∧e=.returned (.int k r)∧Stir b w w'
theorem bits_nonneg (op:BinOp) (x y:Int):0≤bits op .u64 x y:=by
 have:=bounds_u64 (wf_bits (k:=.u64) (op:=op) (x:=x) (y:=y))
 exact this.1
theorem Stir.set {b:Nat} {w:World} (h:Die b w) (s:Int):Stir b w (w.setCell ⟨b,0,none⟩ (.int .u64 s)):=by
 obtain ⟨t,ht⟩:=h
 refine ⟨(Below.refl b w).setCell (p:=⟨b,0,none⟩) (Nat.le_refl b) _,fun p hp _=>⟨World.cell?_of_block (Below.heap_setCell _ _ _ _ hp),World.frozen?_of_block (Below.heap_setCell _ _ _ _ hp)⟩,⟨s,?_⟩⟩
 unfold World.setCell
 simp [Array.getElem?_modify,ht]
theorem roll (b:Nat) (w:World) (h:Die b w):Calls Try.prog 30 #[.pointer (some ⟨b,0,none⟩)] w (Gives b .u64 (fun r=>0≤r) w):=by
 have h':=Lib.hid h
 obtain ⟨⟨s,hs⟩,hf⟩:=h.old
 clear h
 go_enter Try.func30,Try.ntmps30
 go_wp2
 go_ret
 exact ⟨_,bits_nonneg _ _ _,rfl,Stir.set h'.out _⟩
theorem Stir.refl {b:Nat} {w:World} (h:Die b w):Stir b w w:=⟨Below.refl _ _,fun _ _ _=>⟨rfl,rfl⟩,h⟩
theorem Stir.trans {b:Nat} {u v w:World} (h:Stir b u v) (k:Stir b v w):Stir b u w :=
 ⟨h.below.trans k.below,fun p hp hb=>⟨(k.rest p hp (Nat.lt_of_lt_of_le hb h.below.size)).1.trans (h.rest p hp hb).1,(k.rest p hp (Nat.lt_of_lt_of_le hb h.below.size)).2.trans (h.rest p hp hb).2⟩,k.die⟩
theorem Die.lt {b:Nat} {w:World} (h:Die b w):b<w.heap.size:=by obtain ⟨⟨s,hs⟩,_⟩:=h.old;exact World.block_lt_of_cell? w _ hs
theorem Stir.drew {b:Nat} {w w':World} (h:Stir b w w'):Stir b w w'.drew:=h.trans ⟨⟨rfl,rfl,rfl,Nat.le_refl _,fun _ _=>rfl⟩,fun _ _ _=>⟨rfl,rfl⟩,h.die⟩
def Born (w:World) (e:Ending) (w':World):Prop:=e=.returned (.pointer (some ⟨w.heap.size,0,none⟩))∧Below w.heap.size w w'∧Die w.heap.size w'∧w.heap.size<w'.heap.size
theorem Die.born (w:World) (s:Int):Die w.heap.size (w.alloc (.cells #[.int .u64 s] 69)):=⟨s,by show (w.heap.push _)[w.heap.size]? = _;rw [Array.getElem?_push,if_pos rfl]⟩
set_option maxRecDepth 100000 in
theorem born (x:Option Addr) (n c:Nat) (w:World) (hn:n≤maxLen) (hc:∀ i,i<n→∃ b o,x=some ⟨b,o,none⟩∧∃ v,w.cell? ⟨b,o+i,none⟩=some (.int .i64 v)) :
  Calls Try.prog 9 #[.slice x n c] w (Born w):=by
 unfold maxLen at hn
 have HC:=Lib.hid hc
 clear hc
 have hdie:=Lib.hid (Die.born w 2611923443488327891)
 go_enter Try.func9,Try.ntmps9
 go_wp2
 go_loopw [4] (fun i wr=>∃ k:Nat,k≤n∧i=.int .i64 k∧Stir w.heap.size (w.alloc (.cells #[.int .u64 2611923443488327891] 69)) wr) (fun i _=>n - (intOf i).toNat)
 case atStart=>exact ⟨0,Nat.zero_le _,rfl,Stir.refl hdie.out⟩
 case round =>
  obtain ⟨k,hk,rfl,hs⟩:=hrel
  by_cases hlt:k<n
  ·obtain ⟨b,o,rfl,v,hv⟩:=HC.out k hlt
   have hb:=World.block_lt_of_cell? _ _ hv
   simp only at hb
   have hv1:wr.cell? ⟨b,o+k,none⟩=some (.int .i64 v):=((hs.rest ⟨b,o+k,none⟩ (Nat.ne_of_lt hb) (by simp;omega)).1.trans (World.cell?_of_block (Below.heap_alloc _ _ _ hb))).trans hv
   clear hv
   obtain ⟨⟨s,hd⟩,hf⟩:=hs.die.old
   have hst:=Lib.hid (fun s1:Int=>(hs.drew).trans (Stir.set hs.drew.die s1))
   have hlt':(k:Int)<(n:Int):=by omega
   have hk0:(0:Int)≤(k:Int):=by omega
   go_wp2
   go_still_tail 12,(by kernel_rfl)
   change wpList _ _ _ _ _ wr.drew
   go_wp2_with (go_at_call 30;refine (roll _ _ ?_).mono ?_;exact (hst.out _).die;rintro e w1 ⟨r,hr,rfl,hs1⟩;(have hs2:=(hst.out _).trans hs1))
   go_roundw
   case rel=>exact ⟨k+1,by omega,by go_num,hs2⟩
   case measure=>simp [intOf];omega
  ·go_wp2
   go_ret
   exact ⟨rfl,((Below.refl w.heap.size w).alloc (Nat.le_refl _) _).trans hs.below,hs.die,by have:=hs.below.size;simp at this;omega⟩
end Go.Proofs.Ytamlnddeiokbdaa.mdie
namespace Go.Abs
open Go.RowKit
variable {P:Program}
theorem mid_calls {cl:CallF} (hc:CallSound P cl) {f:FuncId} {fn:Func} (hf:P.funcs[f]? = some fn) {c0 c1 rest:Code} (hb:fn.body=some (.seq c0 (.seq c1 rest))) {X:FuncId→List Nat} {k:K} {A:Array Value} {W:World} {R:Ending→World→Prop}
  (h:c0.wp P (Exit.then (fun a w=>c1.wp P (Exit.then (fun a w=>∃ ρ L s v s',ActRel ρ fn.ntmps L [] a∧Clean (X f) L∧SRel ρ s w∧finA P fn (k cl ⟨f,none,fn.ntmps,X f⟩ L [] s)=.val v s'∧∀ ρ' V W',After ρ s w ρ' s' W'→VRel ρ' v V→R (.returned V) W') fun _ _ _=>False) a w) fun _ _ _=>False)
   { tmps:=A++Array.replicate (fn.ntmps - A.size) undef,defers:=[] } W)
  (hk:codeK P (X f) fn.ntmps rest=some k):Calls P f A W R:=by
 intro cs
 obtain ⟨b,hbd⟩:∃ b:Frame,b={ (default:Frame) with fn:=f,kind:=.normal }:=⟨_,rfl⟩
 have hr:b.roundOf=none:=by rw [hbd];rfl
 have henter:Frame.enter P f A .normal=b.at { tmps:=A++Array.replicate (fn.ntmps - A.size) undef,defers:=[] } [.code (.seq c0 (.seq c1 rest))]:=by
  rw [hbd];simp [Frame.enter,Frame.at,hf,hb]
 obtain ⟨e0,a0,w0,q0,ar0⟩:=h b [.code (.seq c1 rest)] cs
 cases e0<;>simp only [Exit.then] at q0
 obtain ⟨e1,a1,w1,q1,ar1⟩:=q0 b [.code rest] cs
 cases e1<;>simp only [Exit.then] at q1
 obtain ⟨ρ,L,s,v,s',hact,hclean,hs,hfin,hR⟩:=q1
 have st1:Steps P (lone (Frame.enter P f A .normal) cs W) (lone (b.atR a1 [.code rest]) cs w1):=by
  rw [henter,Frame.atR_of_none hr]
  exact (Steps.head step_seq ar0).trans (Steps.head step_seq ar1)
 have hctx:CtxRel ρ ⟨f,none,fn.ntmps,X f⟩ b:=⟨by rw [hbd],by rw [hbd],fun _=>hr,fun l e=>by cases e⟩
 generalize hr2:k cl ⟨f,none,fn.ntmps,X f⟩ L [] s=r at hfin
 cases r with
 | fail=>cases hfin
 | done e L1 d s₁ =>
  obtain ⟨ρ₁,a₁,W₁,af,ha₁,_,_,st⟩:=codeK_sound rest hk hc rfl rfl hctx hact hclean hs hr2
  have fin:∀ (hle:leaveA P fn.results.toList L1 d s₁=.val v s') (hst:∃ t,Steps P (lone (Frame.enter P f A .normal) cs W) (lone (back b a₁ t) cs W₁)),
    ∃ V w' fr,R (.returned V) w'∧Steps P (lone (Frame.enter P f A .normal) cs W) (lone fr cs w')∧fr.fn=f∧fr.leaving P w' (.returned V):=by
   intro hle hst
   obtain ⟨V,W₂,af₂,hv,st₂⟩:=leaveA_calls ha₁ af.rel hle
   obtain ⟨t,st₁⟩:=hst
   obtain ⟨fr,h1,h2,h3⟩:=st₂ b (by rw [hbd]) (by rw [hbd];exact hf) t cs
   exact ⟨V,W₂,fr,hR _ _ _ (af.trans af₂) hv,Steps.trans st₁ h1,by rw [h2,hbd],h3⟩
  cases e with
  | exit id=>cases hfin
  | norm =>
   have z:=st [] cs
   obtain ⟨V,w',fr,h1,h2,h3,h4⟩:=fin hfin ⟨[],st1.trans (Steps.trans z (.one (stepR_end hr)))⟩
   exact ⟨.returned V,w',fr,h1,h2,h3,h4⟩
  | ret =>
   obtain ⟨k0,z⟩:=st [] cs
   obtain ⟨V,w',fr,h1,h2,h3,h4⟩:=fin hfin ⟨.code .ret::k0,st1.trans (z.trans (.one (stepR_ret hr)))⟩
   exact ⟨.returned V,w',fr,h1,h2,h3,h4⟩
end Go.Abs
set_option maxRecDepth 10000
namespace Go.Proofs.Ytamlnddeiokbdaa.walk
open Go.Abs Go.RowKit Go.Proofs.Ytamlnddeiokbdaa.code
noncomputable def die0 (F:Int):St:=St.new ⟨.nil,0,far⟩ (.cells [.int .u64 F] (tag 69))
def rho0 (d:Nat):Rho:=fun b=>if b=0 then some (d,(0,0)) else none
theorem die0_get {F:Int} {b:Nat} {o:AObj} (h:(die0 F).h.get b=some o):b=0∧o=.cells [.int .u64 F] (tag 69):=by
 by_cases e:b=0
 ·subst e
  have:(die0 F).h.get 0=some (.cells [.int .u64 F] (tag 69)):=get_new_eq _ _ _ rfl (by decide)
  rw [this] at h
  exact ⟨rfl,(Option.some.inj h).symm⟩
 ·unfold die0 at h
  rw [get_new_ne _ _ _ e] at h
  cases h
theorem die0_has {F:Int} {b x:Nat} {o:AObj} (h:Has (die0 F).h b x o):b=0∧x=0∧o=.cells [.int .u64 F] (tag 69):=by
 obtain ⟨y,hy,hp⟩:=h
 obtain ⟨rfl,rfl⟩:=die0_get hy
 have hl:AObj.lone (.cells [.int .u64 F] (tag 69)):=trivial
 rw [parts_lone hl] at hp
 have:=List.mem_singleton.mp hp
 cases this
 exact ⟨rfl,rfl,rfl⟩
theorem die0_rel {F:Int} {d:Nat} {W:World} (h:W.heap[d]? = some (.cells #[.int .u64 F] 69 (0,0))):SRel (rho0 d) (die0 F) W:=by
 refine ⟨⟨fun b o hb=>?_,fun b x o hb=>?_,fun b b' x x' o o' c e e' hb hb' _ _=>?_,fun g cs hg=>(by cases hg),fun b x o c e hb hr=>rfl,fun b x x' o o' c e e' hb hb' hr hr'=>?_⟩,fun b hb=>?_⟩
 ·rw [(die0_get hb).1];decide
 ·obtain ⟨rfl,rfl,rfl⟩:=die0_has hb
  exact ⟨d,(0,0),_,if_pos rfl,h,.cells rfl (.cons (.int _ _) .nil) (Typed.tag _)⟩
 ·rw [(die0_has hb).1,(die0_has hb').1]
 ·obtain ⟨_,rfl,_⟩:=die0_has hb
  obtain ⟨_,rfl,_⟩:=die0_has hb'
  rw [hr] at hr'
  cases hr'
  rfl
 ·have:1≤b:=hb
  exact if_neg (by omega)
end Go.Proofs.Ytamlnddeiokbdaa.walk
set_option maxRecDepth 10000
namespace Go.Proofs.Ytamlnddeiokbdaa.walk
open Go.Abs Go.RowKit Go.Proofs.Ytamlnddeiokbdaa.code
set_option maxRecDepth 100000 in
theorem ada_calls (a:Option Addr) (n c:Nat) (w:World) (hn:n≤maxLen) (hc:∀ i,i<n→∃ b o,a=some ⟨b,o,none⟩∧∃ v,w.cell? ⟨b,o+i,none⟩=some (.int .i64 v)) :
  Calls Try.prog 7 #[.slice a n c] w fun e w'=>e=.returned (.bool true)∧Below w.heap.size w w':=by
 have HC:=Lib.hid hc
 clear hc
 refine mid_calls (cl:=knows 20 (call Try.prog X 20)) (knows_sound (call_sound 200) Try.func20 awake.entered (call_sound 20)) Try.func7 rfl (X:=X) (k:=adaRest) ?_ (by kernel_rfl)
 simp only [Try.ntmps7,List.size_toArray,List.length_cons,List.length_nil,Nat.reduceAdd,Nat.reduceSub,Array.replicate_succ,Array.replicate_zero,List.push_toArray,List.append_toArray,List.nil_append,List.cons_append]
 go_wp2_with (go_at_call 9;((with_reducible refine (mdie.born _ _ _ _ hn HC.out).mono ?_);rintro e w1 ⟨rfl,hB1,⟨F,hF⟩,hg1⟩))
 have hd0:walk.Die 0 (die0 F).h:=⟨F,get_new_eq _ _ _ rfl (by decide)⟩
 obtain ⟨s',hs'⟩:=ada_body 20 (by omega) ⟨7,none,Try.f7.ntmps,X 7⟩ (die0 F) 0 hd0 (by show 0<1;omega) (by show 1+9000000≤1000000000;omega) rfl
 refine ⟨rho0 w.heap.size,.cons 3 (.ptr 0 0) .nil,die0 F,.bool true,s',⟨fun t=>?_,rfl,.nil⟩,fun t ht=>?_,die0_rel hF,hs',fun ρ' V W' af hv=>?_⟩
 ·by_cases e:t=3
  ·subst e
   exact .ptr (e:=(0,0)) (if_pos rfl)
  ·rw [show (Env.cons 3 (.ptr 0 0) .nil).find t=AV.bad by rw [find_cons,if_neg (by omega)];rfl]
   exact .bad _
 ·by_cases e:t=3
  ·subst e
   have hx:(X 7).contains 3=true:=by kernel_rfl
   rw [hx] at ht
   cases ht
  ·rw [find_cons,if_neg (by omega)];rfl
 ·cases hv
  refine ⟨rfl,hB1.trans ⟨af.os,af.tape,af.output,af.size,fun k hk=>af.frame k (by omega) fun b x o e hb hr=>?_⟩⟩
  obtain ⟨_,rfl,_⟩:=die0_has hb
  have hr:some (w.heap.size,(0,0))=some (k,e):=hr
  injection hr with hr
  injection hr with hr _
  omega
end Go.Proofs.Ytamlnddeiokbdaa.walk
