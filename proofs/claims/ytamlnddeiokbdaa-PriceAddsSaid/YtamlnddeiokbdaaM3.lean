/- Dues: for each stall, from the low end to the high one. -/
import Derived.Test.YtamlnddeiokbdaaM2
import Derived.Test.YtamlnddeiokbdaaM1
import Derived.Test.YtamlnddeiokbdaaCodes
import Derived.Test.YtamlnddeiokbdaaWalkAll
set_option linter.unusedSimpArgs false
set_option maxHeartbeats 16000000
set_option linter.unusedVariables false
set_option maxRecDepth 10000
namespace Go.Proofs.Ytamlnddeiokbdaa.walk
open Go.Abs Go.Proofs.Ytamlnddeiokbdaa.code
theorem dues1_ok {N p q r sb sz st:Nat} {b:Book} {l:List Step} {v:AV} {s:St} (hi:Bool) (hN:5≤N) (ok:b.Ok) (oks:StepsOk l) (hp:s.h.get p=some (.cells (bookV b v) (tag 27))) (hq:s.h.get q=some (.cells [.int .i64 (st:Int)] (tag 3))) (hr:s.h.get r=some (.cells [.slice sb 0 l.length l.length true] (tag 29))) (hb:s.h.get sb=some (.cells (l.map Step.cells).flatten sz)) (hpn:p<s.n) (hqn:q<s.n) (hrn:r<s.n) (hbn:sb<s.n) (hB:RowsAt s.h s.n 6 (b.sales.map Sale.cells) v) (hs:s.n+6000≤far) :
  call Try.prog X N (.fn 39) (.agg (endV hi)::[.ptr p 0,.ptr q 0,.ptr r 0]) s=.val (.int .i64 (dueI l (turnOf hi b.sales st))) s:=by
 obtain ⟨n,rfl⟩:∃ n,N=n+1:=⟨N - 1,by omega⟩
 have hf:far=1000000000:=rfl
 refine call_plain' Try.func39 (fun u uh un um=>?_) rfl
 rw [← uh] at hp hq hr hb hB
 rw [← un] at hB hpn hqn hrn hbn hs
 have kv:∀ t,okA (.val v t)=.val v t:=fun t=>okA_ne hB.ne
 have scE:scalars (endV hi)=true:=by cases hi<;>rfl
 obtain ⟨w,hw⟩:∃ w:St,w=u.new (.cells (endV hi) (tag 82)):=⟨_,rfl⟩
 have wn:w.n=u.n+1:=by rw [hw];rfl
 have wm:w.m=far:=by rw [hw];exact um
 have wg:∀ c,c<u.n→w.h.get c=u.h.get c:=fun c hc=>by rw [hw,get_new_ne _ _ _ (by omega)]
 have w0:w.h.get u.n=some (.cells [hereV hi,hereV (!hi)] (tag 82)):=by rw [hw];exact get_new_eq _ _ _ rfl (by omega)
 have hR:=hB.grow wg (by omega:u.n≤w.n)
 have w1:=(wg p hpn).trans hp
 have w2:=(wg q hqn).trans hq
 have w3:=(wg r hrn).trans hr
 have w4:=(wg sb hbn).trans hb
 unfold bookV at w1
 rw [enter39]
 simp (disch:=first|omega|(with_unfolding_all exact rfl)|(simp only[new_n,put_n,new_m];omega)|(refine put_m_le ?_;simp only[new_m];omega)) only [K39,K39r0,res39,Abs.W,reduceIte,Nat.reduceEqDiff,Nat.reduceAdd,decide_true,decide_false,kLoop_def,Nat.reduceSub,List.cons_append,List.nil_append,List.append_nil,List.length_cons,List.length_nil,Env.find_set,scE,Nat.zero_add]
 rw [← hw]
 clear hw
 simp (disch:=first|omega|(with_unfolding_all exact rfl)|(simp only[new_n,put_n,new_m];omega)|(refine put_m_le ?_;simp only[new_m];omega)) only [K39r1,Abs.W,reduceIte,Nat.reduceEqDiff,Nat.reduceAdd,decide_true,decide_false,kLoop_def,Nat.reduceSub,List.cons_append,List.nil_append,List.append_nil,List.length_cons,List.length_nil,Env.find_set,w0,w1,kv,Nat.zero_add]
 generalize hc:call _ _ _ (.fn 41) _ _=r1
 obtain ⟨mb,t,rfl,st1,h1,h2,h3⟩:=turnovers_ex hi hc (by omega) ok.ok (hR) (by have:=ok.l;omega) (by show w.n+5000≤far;omega)
 have tm:t.m=far:=st1.m
 have tn:w.n≤t.n:=st1.n
 have tl:t.n≤w.n+1000:=st1.le
 rw [thenT_val _ _ _ _ _ _ _ _ (by omega)]
 have t2:=(st1.same q (by show q<w.n;omega)).trans w2
 have t3:=(st1.same r (by show r<w.n;omega)).trans w3
 have t4:=(st1.same sb (by show sb<w.n;omega)).trans w4
 have lk:∀ m,lookA .int (.int .i64 0) false ⟨t.h,t.n,m⟩ (.int .i64 (st:Int)) (.map mb)=.val (.int .i64 (turnOf hi b.sales st)) ⟨t.h,t.n,m⟩:=fun m=>by rw [look_map (sums hi b.sales) _ mb ⟨t.h,t.n,m⟩ h3,getP_sums]
 have tr:=turnOf_range hi (st:Int) b.sales ok.ok
 have bl:=ok.l
 have du:∀ m,call Try.prog X n (.fn 40) [.int .i64 (turnOf hi b.sales st),.slice sb 0 l.length l.length true] ⟨t.h,t.n,m⟩=.val (.int .i64 (dueI l (turnOf hi b.sales st))) ⟨t.h,t.n,m⟩:=fun m=>due_ok (by omega) oks (by omega) (by show sb<t.n;omega) t4 (by show t.n+1000≤far;omega)
 simp (disch:=first|omega|(with_unfolding_all exact rfl)|(simp only[new_n,put_n,new_m];omega)|(refine put_m_le ?_;simp only[new_m];omega)) only [Abs.W,reduceIte,Nat.reduceEqDiff,Nat.reduceAdd,decide_true,decide_false,kLoop_def,Nat.reduceSub,List.cons_append,List.nil_append,List.append_nil,List.length_cons,List.length_nil,Env.find_set,t2,t3,kLookE,lk,du,endO_nil,Nat.zero_add]
 refine ⟨_,rfl,?_⟩
 first | omega | (simp only [minN_eq];omega)
def dueRow (l:List Step) (sales:List Sale) (st:Nat):List AV:=[.int .i64 (dueI l (turnOf false sales st)),.int .i64 (dueI l (turnOf true sales st))]
def dueRows (l:List Step) (sales:List Sale) (k:Nat):List (List AV):=(List.range k).map (dueRow l sales)
theorem dueRows_snoc (l:List Step) (sales:List Sale) (k:Nat):dueRows l sales (k+1)=dueRows l sales k++[dueRow l sales k]:=by unfold dueRows;rw [List.range_succ,List.map_append];rfl
theorem dueRows_len (l:List Step) (sales:List Sale) (k:Nat):(dueRows l sales k).length=k:=by unfold dueRows;rw [List.length_map,List.length_range]
theorem dueRows_wide (l:List Step) (sales:List Sale) (k:Nat):∀ r ∈ dueRows l sales k,r.length=2:=by
 intro r hr
 obtain ⟨f,_,rfl⟩:=List.mem_map.mp hr
 rfl
theorem Dues_ex {N sb sz:Nat} {b:Book} {l:List Step} {v:AV} {s:St} {r:ARes} (hr:call Try.prog X N (.fn 12) [.agg (bookV b v),.slice sb 0 l.length l.length true] s=r) (hN:8≤N) (ok:b.Ok) (oks:StepsOk l) (hl:l.length≤5) (hb:s.h.get sb=some (.cells (l.map Step.cells).flatten sz)) (hbn:sb<s.n) (hB:RowsAt s.h s.n 6 (b.sales.map Sale.cells) v) (hs:s.n+8000≤far) :
  ∃ bd t,r=.val (.tup [.slice bd 0 b.stalls b.stalls false,.int .i64 0]) t∧New s t 100∧s.n≤bd∧bd<t.n∧t.h.get bd=some (.cells (dueRows l b.sales b.stalls).flatten 0):=by
 obtain ⟨n,rfl⟩:∃ n,N=n+1:=⟨N - 1,by omega⟩
 have hf:far=1000000000:=rfl
 obtain ⟨v',t,e,st,bd,rfl,h1,h2,h3⟩:=call_new (n:=n) (args:=[.agg (bookV b v),.slice sb 0 l.length l.length true]) (s:=s) (k:=100) (Q:=fun v' h m=>∃ bd,v'=.tup [.slice bd 0 b.stalls b.stalls false,.int .i64 0]∧s.n≤bd∧bd<m∧h.get bd=some (.cells (dueRows l b.sales b.stalls).flatten 0)) Try.func12 rfl (fun u uh un um=>by
  rw [← uh,← un] at hB
  rw [← uh] at hb
  rw [← un] at hs hbn
  rw [← un]
  have kv:∀ t,okA (.val v t)=.val v t:=fun t=>okA_ne hB.ne
  have scB:scalars (bookV b v)=true:=by
   have hv:v.scalar=true:=by
    have h:=hB.len u
    cases v<;>first | rfl | cases h
   show scalars [v]=true
   unfold scalars
   rw [hv]
   rfl
  have k0:=ok.k0
  have k1:=ok.k1
  have n0:=oks.n0
  obtain ⟨w,hw⟩:∃ w:St,w=(u.new (.cells (bookV b v) (tag 27))).new (.cells [.slice sb 0 l.length l.length true] (tag 29)):=⟨_,rfl⟩
  have wn:w.n=u.n+2:=by rw [hw];rfl
  have wm:w.m=far:=by rw [hw];exact um
  have wg:∀ c,c<u.n→w.h.get c=u.h.get c:=fun c hc=>by rw [hw,get_new_ne _ _ _ (by simp only [new_n];omega),get_new_ne _ _ _ (by omega)]
  have w0:w.h.get u.n=some (.cells (bookV b v) (tag 27)):=by rw [hw,get_new_ne _ _ _ (by simp only [new_n];omega)];exact get_new_eq _ _ _ rfl (by omega)
  have w1:w.h.get (u.n+1)=some (.cells [.slice sb 0 l.length l.length true] (tag 29)):=by rw [hw];exact get_new_eq _ _ _ rfl (by simp only [new_n];omega)
  have hW:Beside u w 2:=by rw [hw];exact ((Beside.refl u (by omega) um).new _).new _
  have hR:=hB.grow wg (by omega:u.n≤w.n)
  have wb:=(wg sb hbn).trans hb
  have hck:=fun m=>check_ok n (by omega) b ok v ⟨w.h,w.n,m⟩ hR (by show w.n+4000≤far;omega)
  have hcs:=fun m=>checkSteps_ok (N:=n) (s:=⟨w.h,w.n,m⟩) (by omega) oks hl (by show sb<w.n;omega) wb (by show w.n+1000≤far;omega)
  have hcs':call Try.prog X n (.fn 37) [.slice sb 0 l.length l.length true] w=.val (.int .i64 0) w:=hcs w.m
  have z0:decide ((0:Int)=0)=true:=rfl
  have w0':=w0
  unfold bookV at w0 hw scB hck
  rw [enter12]
  unfold bookV
  simp (disch:=first|omega|(with_unfolding_all exact rfl)|(simp only[new_n,put_n,new_m];omega)|(refine put_m_le ?_;simp only[new_m];omega)) only [K12,K12r0,Abs.W,reduceIte,Nat.reduceEqDiff,Nat.reduceAdd,decide_true,decide_false,kLoop_def,Nat.reduceSub,List.cons_append,List.nil_append,List.append_nil,List.length_cons,List.length_nil,scB,Nat.zero_add]
  rw [← hw]
  clear hw
  simp (disch:=first|omega|(with_unfolding_all exact rfl)|(simp only[new_n,put_n,new_m];omega)|(refine put_m_le ?_;simp only[new_m];omega)) only [K12r1,K12r2,K12r4,Abs.W,reduceIte,Nat.reduceEqDiff,Nat.reduceAdd,decide_true,decide_false,kLoop_def,Nat.reduceSub,List.cons_append,List.nil_append,List.append_nil,List.length_cons,List.length_nil,Env.find_set,new_n,w0,w1,kv,scB,hck,hck w.m,hcs,hcs',or_new2,z0,endO_nil,Nat.zero_add,kMake_def]
  have mk:=fun s=>make_rows [.int .i64 0,.int .i64 0] 16 b.stalls s (by omega) (by omega)
  simp (disch:=first|omega|(with_unfolding_all exact rfl)|(simp only[new_n,put_n,new_m];omega)|(refine put_m_le ?_;simp only[new_m];omega)) only [Abs.W,reduceIte,Nat.reduceEqDiff,Nat.reduceAdd,decide_true,decide_false,kLoop_def,Nat.reduceSub,List.cons_append,List.nil_append,List.append_nil,List.length_cons,List.length_nil,Env.find_set,mk,new_n]
  obtain ⟨x,hx⟩:∃ x:St,x=(w.new (.cells [AV.int .i64 0,.int .i64 0] 0)).new (.cells (List.replicate b.stalls [AV.int .i64 0,.int .i64 0]).flatten 0):=⟨_,rfl⟩
  rw [← hx]
  have xn:x.n=w.n+2:=by rw [hx];rfl
  have xm:x.m=far:=by rw [hx];exact wm
  have xg:∀ c,c<w.n→x.h.get c=w.h.get c:=fun c hc=>by rw [hx,get_new_ne _ _ _ (by simp only [new_n];omega),get_new_ne _ _ _ (by omega)]
  have xd:x.h.get (w.n+1)=some (.cells (fillRows b.stalls [AV.int .i64 0,.int .i64 0] (dueRows l b.sales 0)).flatten 0):=by rw [hx];exact get_new_eq _ _ _ rfl (by simp only [new_n];omega)
  have hX:Beside u x (4+1 * 0):=by rw [hx];exact ((hW.new _).new _).mono (by omega)
  clear hx
  simp (disch:=first|omega|(with_unfolding_all exact rfl)|(simp only[new_n,put_n,new_m];omega)|(refine put_m_le ?_;simp only[new_m];omega)) only [K12r5,Abs.W,reduceIte,Nat.reduceEqDiff,Nat.reduceAdd,decide_true,decide_false,kLoop_def,Nat.reduceSub,List.cons_append,List.nil_append,List.append_nil,List.length_cons,List.length_nil,Env.find_set]
  generalize hl1:loopN _ rounds _ _ _ _ _=q1
  obtain ⟨e,L1,s1,rfl,rfl,g7,hE,g1,g2⟩:=loop_of hl1
   (fun i L' t=>L'.find 2=.ptr u.n 0∧L'.find 3=.ptr (u.n+1) 0∧L'.find 7=.slice (w.n+1) 0 b.stalls b.stalls false∧L'.find 22=.int .i64 (b.stalls:Int)∧L'.find 23=.int .i64 i∧Beside u t (4+1 * i)∧w.n+1<t.n ∧
    t.h.get u.n=some (.cells [.int .i64 b.stalls,.int .i64 b.goods,v] (tag 27))∧t.h.get (u.n+1)=some (.cells [.slice sb 0 l.length l.length true] (tag 29))∧t.h.get (w.n+1)=some (.cells (fillRows b.stalls [AV.int .i64 0,.int .i64 0] (dueRows l b.sales i)).flatten 0))
   (fun e L1 s1=>e=.exit 0∧L1.find 7=.slice (w.n+1) 0 b.stalls b.stalls false∧Beside u s1 (4+1 * b.stalls)∧w.n+1<s1.n∧s1.h.get (w.n+1)=some (.cells (dueRows l b.sales b.stalls).flatten 0))
   b.stalls (by unfold rounds;omega) ⟨by simp only [find_cons,Env.find_set,reduceIte,Nat.reduceEqDiff],by simp only [find_cons,Env.find_set,reduceIte,Nat.reduceEqDiff],by simp only [find_cons,Env.find_set,reduceIte,Nat.reduceEqDiff],by simp only [find_cons,Env.find_set,reduceIte,Nat.reduceEqDiff],by simp only [find_cons,Env.find_set,reduceIte,Nat.reduceEqDiff];rfl,hX,by omega,(xg u.n (by omega)).trans w0,(xg (u.n+1) (by omega)).trans w1,xd⟩
   (fun i L' t hi ⟨q2,q3,q7,q22,q23,hE,hn,t0,t1,td⟩=>by
    have tn:=hE.n
    have tl:=hE.le
    have tm:=hE.m
    have tf:=hE.far
    by_cases hlt:i<b.stalls
    ·have e0:decide ((i:Int)<(b.stalls:Int))=true:=decide_eq_true (by omega)
     have ix:∀ s,ixsA 2 s (.slice (w.n+1) 0 b.stalls b.stalls false) (.int .i64 (i:Int))=.val (.ptr (w.n+1) (i * 2)) s:=fun s=>by rw [ixs_slice _ _ _ _ _ _ _ _ hlt,Nat.zero_add]
     have ad:∀ s,aAdd s .i64 (i:Int) 1=.val (.int .i64 ((i:Int)+1)) s:=fun s=>aAdd_i64 s _ _ (by omega)
     obtain ⟨y,hy⟩:∃ y:St,y=(t.new (.cells [.int .i64 0] (tag 3))).put t.n (.cells [.int .i64 (i:Int)] (tag 3)):=⟨_,rfl⟩
     have yn:y.n=t.n+1:=by rw [hy];rfl
     have yg:∀ c,c<t.n→y.h.get c=t.h.get c:=fun c hc=>by rw [hy,get_put_ne' _ _ _ _ (by omega),get_new_ne _ _ _ (by omega)]
     have yt:y.h.get t.n=some (.cells [.int .i64 (i:Int)] (tag 3)):=by rw [hy];exact get_put_eq _ _ _ _ rfl (by omega)
     have ym:u.n≤y.m∧y.m≤far:=by rw [hy];simp only [St.put,minN_eq,new_m];omega
     have hY:Beside u y (4+1 * (i+1)):=by rw [hy];exact ((hE.new _).put _ tn).mono (by omega)
     have yb:=(hY.same sb hbn).trans hb
     have hRy:=hB.grow hY.same hY.n
     have bt:∀ m,call Try.prog X n (.fn 38) [.func 39 [] [.ptr u.n 0,.ptr t.n 0,.ptr (u.n+1) 0]] ⟨y.h,y.n,m⟩=.val (.agg [.int .i64 (dueI l (turnOf false b.sales i)),.int .i64 (dueI l (turnOf true b.sales i))]) ⟨y.h,y.n,m⟩:=fun m =>
      between_ok _ _ (by omega) (fun e t' ht h3 h4=>by
       have h3':y.n≤t'.n:=h3
       have h4':t'.n≤y.n+10:=h4
       have hxt:∀ c,c<y.n→t'.h.get c=y.h.get c:=fun c hc=>ht c hc
       have:=dues1_ok (N:=n - 1) (p:=u.n) (q:=t.n) (r:=u.n+1) (sb:=sb) (sz:=sz) (st:=i) (s:=t') e (by omega) ok oks ((hxt u.n (by omega)).trans ((yg u.n (by omega)).trans t0)) ((hxt t.n (by omega)).trans yt) ((hxt (u.n+1) (by omega)).trans ((yg (u.n+1) (by omega)).trans t1)) ((hxt sb (by omega)).trans yb) (by omega) (by omega) (by omega) (by omega) ((hB.grow (h':=t'.h) (n':=t'.n) (fun c hc=>(hxt c (by omega)).trans (hY.same c hc)) (by omega))) (by omega)
       cases e<;>exact this) (by show y.n+100≤far;omega)
     have yd:=(yg (w.n+1) hn).trans td
     have ov:=fillRows_over (n:=b.stalls) (w:=2) (z:=[AV.int .i64 0,.int .i64 0]) (row:=dueRow l b.sales i) (l:=dueRows l b.sales i) rfl (dueRows_wide l b.sales i) rfl (by rw [dueRows_len];exact hlt)
     rw [dueRows_len,← dueRows_snoc] at ov
     unfold dueRow at ov
     suffices hgo:∃ L1 t9,K12l0 (call Try.prog X n) ⟨12,none,Try.f12.ntmps,X 12⟩ L' [] t=.done .norm L1 [] t9∧(L1.find 2=.ptr u.n 0∧L1.find 3=.ptr (u.n+1) 0∧L1.find 7=.slice (w.n+1) 0 b.stalls b.stalls false∧L1.find 22=.int .i64 (b.stalls:Int)∧L1.find 23=.int .i64 ((i+1:Nat):Int)∧Beside u t9 (4+1 * (i+1))∧w.n+1<t9.n ∧
       t9.h.get u.n=some (.cells [.int .i64 b.stalls,.int .i64 b.goods,v] (tag 27))∧t9.h.get (u.n+1)=some (.cells [.slice sb 0 l.length l.length true] (tag 29))∧t9.h.get (w.n+1)=some (.cells (fillRows b.stalls [AV.int .i64 0,.int .i64 0] (dueRows l b.sales (i+1))).flatten 0)) from by
      obtain ⟨L9,t9,z1,z2⟩:=hgo
      exact .inl ⟨hlt,L9,t9,z1,z2⟩
     simp (disch:=first|omega|(with_unfolding_all exact rfl)|(simp only[new_n,put_n,new_m];omega)|(refine put_m_le ?_;simp only[new_m];omega)) only [K12l0,K12r6,K12r7,Abs.W,reduceIte,Nat.reduceEqDiff,Nat.reduceAdd,decide_true,decide_false,kLoop_def,Nat.reduceSub,List.cons_append,List.nil_append,List.append_nil,List.length_cons,List.length_nil,Env.find_set,q2,q3,q7,q22,q23,e0,Nat.zero_add]
     rw [← hy]
     clear hy
     simp (disch:=first|omega|(with_unfolding_all exact rfl)|(simp only[new_n,put_n,new_m];omega)|(refine put_m_le ?_;simp only[new_m];omega)) only [K12r8,K12r9,Abs.W,reduceIte,Nat.reduceEqDiff,Nat.reduceAdd,decide_true,decide_false,kLoop_def,Nat.reduceSub,List.cons_append,List.nil_append,List.append_nil,List.length_cons,List.length_nil,Env.find_set,q2,q3,q7,q22,q23,yt,yd,kFuncE',okA_fnv,bt,bt y.m,ix,ov,ad,endO_nil,Nat.zero_add]
     refine ⟨_,_,rfl,?_,?_,?_,?_,?_,hY.put _ (by omega),?_,?_,?_,?_⟩
     ·simp only [Env.find_set,q2,reduceIte,Nat.reduceEqDiff]
     ·simp only [Env.find_set,q3,reduceIte,Nat.reduceEqDiff]
     ·simp only [Env.find_set,q7,reduceIte,Nat.reduceEqDiff]
     ·simp only [Env.find_set,q22,reduceIte,Nat.reduceEqDiff]
     ·simp only [Env.find_set,reduceIte,Nat.reduceEqDiff];rfl
     ·simp only [put_n];omega
     ·rw [get_put_ne' _ _ _ _ (by omega)];exact (yg u.n (by omega)).trans t0
     ·rw [get_put_ne' _ _ _ _ (by omega)];exact (yg (u.n+1) (by omega)).trans t1
     ·exact get_put_eq _ _ _ _ rfl (by omega)
    ·obtain rfl:i=b.stalls:=by omega
     have e0:decide ((b.stalls:Int)<(b.stalls:Int))=false:=by simp
     rw [fillRows_full (dueRows_len l b.sales b.stalls)] at td
     refine .inr ⟨.exit 0,L'.set 24 (.bool false),t,by simp,?_,rfl,by simp only [Env.find_set,q7,reduceIte,Nat.reduceEqDiff],hE,hn,td⟩
     simp (disch:=first|omega|(with_unfolding_all exact rfl)|(simp only[new_n,put_n,new_m];omega)|(refine put_m_le ?_;simp only[new_m];omega)) only [K12l0,K12r6,Abs.W,reduceIte,Nat.reduceEqDiff,Nat.reduceAdd,decide_true,decide_false,kLoop_def,Nat.reduceSub,List.cons_append,List.nil_append,List.append_nil,List.length_cons,List.length_nil,Env.find_set,q22,q23,e0])
  simp (disch:=first|omega|(with_unfolding_all exact rfl)|(simp only[new_n,put_n,new_m];omega)|(refine put_m_le ?_;simp only[new_m];omega)) only [res12,K12r0,K12r1,K12r2,K12r3,K12r4,K12r5,K12r6,K12r7,K12r8,K12r9,K12r10,K12,Abs.W,reduceIte,Nat.reduceEqDiff,Nat.reduceAdd,decide_true,decide_false,kLoop_def,Nat.reduceSub,List.cons_append,List.nil_append,List.append_nil,List.length_cons,List.length_nil,Env.find_set,g7]
  have hv:oneA [Env.find 4 (Env.set 5 (AV.int IntKind.i64 0) (Env.set 4 (AV.slice (w.n+1) 0 b.stalls b.stalls false) L1)),Env.find 5 (Env.set 5 (AV.int IntKind.i64 0) (Env.set 4 (AV.slice (w.n+1) 0 b.stalls b.stalls false) L1))]=AV.tup [.slice (w.n+1) 0 b.stalls b.stalls false,.int .i64 0]:=by
   simp only [Env.find_set,reduceIte,Nat.reduceEqDiff]
   rfl
  exact ⟨_,_,rfl,hE.mono (by omega),by first | rfl | (rw [hv];rfl),w.n+1,hv,by omega,g1,g2⟩)
 exact ⟨bd,t,hr.symm.trans e,st,h1,h2,h3⟩
end Go.Proofs.Ytamlnddeiokbdaa.walk
set_option maxRecDepth 10000
namespace Go.Proofs.Ytamlnddeiokbdaa.walk
open Go.Abs Go.Proofs.Ytamlnddeiokbdaa.code
def Die (d:Nat) (h:Heap):Prop:=∃ f,h.get d=some (.cells [.int .u64 f] (tag 69))
theorem roll_ex {N d:Nat} {s:St} {r:ARes} (hr:call Try.prog X N (.fn 30) [.ptr d 0] s=r) (hN:1≤N) (hd:Die d s.h) (hlt:d<s.n) (hs:s.n+10≤far) :
  ∃ x t,r=.val (.int .u64 x) t∧Stir d s t 0∧Die d t.h∧0≤x∧x≤18446744073709551615:=by
 obtain ⟨n,rfl⟩:∃ n,N=n+1:=⟨N - 1,by omega⟩
 have hf:far=1000000000:=rfl
 obtain ⟨f,hg⟩:=hd
 obtain ⟨v,t,e,st,⟨x,rfl,x0,x1⟩,hd'⟩:=call_stir_plain (n:=n) (args:=[.ptr d 0]) (d:=d) (k:=0) (Q:=fun v=>∃ x,v=.int .u64 x∧0≤x∧x≤18446744073709551615) (R:=Die d) Try.func30 ⟨f,hg⟩ (fun u uh un um=>by
  rw [← uh] at hg
  rw [enter30]
  simp (disch:=first|omega|(with_unfolding_all exact rfl)|(simp only[new_n,put_n,new_m];omega)|(refine put_m_le ?_;simp only[new_m];omega)) only [res30,K30r0,K30r1,K30r2,K30r3,K30r4,K30r5,K30,Abs.W,reduceIte,Nat.reduceEqDiff,Nat.reduceAdd,decide_true,decide_false,kLoop_def,Nat.reduceSub,List.cons_append,List.nil_append,List.append_nil,List.length_cons,List.length_nil,hg,Nat.zero_add,ints_u64,kShr_def,shrA_u64,aAdd_def,aMul_def,aXor_def]
  refine ⟨_,_,rfl,(Stir.refl d u).put (by omega) _ (.inl rfl),rfl,⟨_,rfl,?_⟩,⟨_,get_put_eq _ _ _ _ rfl (by omega)⟩⟩
  exact xorI_range _ _) (by omega)
 exact ⟨x,t,hr.symm.trans e,st,hd',x0,x1⟩
theorem cast_ex {N d:Nat} {n:Int} {s:St} {r:ARes} (hr:call Try.prog X N (.fn 33) [.ptr d 0,.int .i64 n] s=r) (hN:2≤N) (hd:Die d s.h) (hlt:d<s.n) (hs:s.n+100≤far) (hn:n≤1000000000) :
  ∃ x t,r=.val (.int .i64 x) t∧Stir d s t 0∧Die d t.h∧0≤x∧(x<n∨x=0):=by
 obtain ⟨m,rfl⟩:∃ m,N=m+1:=⟨N - 1,by omega⟩
 have hf:far=1000000000:=rfl
 obtain ⟨v,t,e,st,⟨x,rfl,x0,x1⟩,hd'⟩:=call_stir_plain (n:=m) (args:=[.ptr d 0,.int .i64 n]) (d:=d) (k:=0) (Q:=fun v=>∃ x,v=.int .i64 x∧0≤x∧(x<n∨x=0)) (R:=Die d) Try.func33 hd (fun u uh un um=>by
  rw [← uh] at hd
  rw [enter33]
  by_cases hlow:n<2
  ·have e0:decide (n<2)=true:=by simpa using hlow
   simp (disch:=first|omega|(with_unfolding_all exact rfl)|(simp only[new_n,put_n,new_m];omega)|(refine put_m_le ?_;simp only[new_m];omega)) only [res33,K33r0,K33r1,K33r2,K33r3,K33,Abs.W,reduceIte,Nat.reduceEqDiff,Nat.reduceAdd,decide_true,decide_false,kLoop_def,Nat.reduceSub,List.cons_append,List.nil_append,List.append_nil,List.length_cons,List.length_nil,e0]
   exact ⟨_,_,rfl,Stir.refl d u,rfl,⟨0,rfl,by omega,.inr rfl⟩,hd⟩
  ·have e0:decide (n<2)=false:=by simpa using hlow
   simp (disch:=first|omega|(with_unfolding_all exact rfl)|(simp only[new_n,put_n,new_m];omega)|(refine put_m_le ?_;simp only[new_m];omega)) only [res33,K33r0,K33r1,K33r2,K33r3,K33,Abs.W,reduceIte,Nat.reduceEqDiff,Nat.reduceAdd,decide_true,decide_false,kLoop_def,Nat.reduceSub,List.cons_append,List.nil_append,List.append_nil,List.length_cons,List.length_nil,e0]
   generalize hc:call _ _ _ (.fn 30) _ _=r1
   obtain ⟨y,w,rfl,sw,dw,y0,y1⟩:=roll_ex hc (by omega) hd (by omega) (by omega)
   have q0:0≤shrI y 2:=shrI_nonneg _ _ y0
   have q2:0≤(shrI y 2).tmod n:=Int.tmod_nonneg _ q0
   have q3:(shrI y 2).tmod n<n:=Int.tmod_lt_of_pos _ (by omega)
   have w1:wrapA .u64 n=n:=wrap_u64 n (by omega)
   have w2:wrapA .i64 ((shrI y 2).tmod n)=(shrI y 2).tmod n:=wrap_in _ (by omega)
   have w3:∀ s,aRem s .u64 (shrI y 2) n=.val (.int .u64 ((shrI y 2).tmod n)) s:=fun s=>aRem_ne s _ _ _ (by omega)
   simp (disch:=first|omega|(with_unfolding_all exact rfl)|(simp only[new_n,put_n,new_m];omega)|(refine put_m_le ?_;simp only[new_m];omega)) only [res33,K33r0,K33r1,K33r2,K33r3,K33,Abs.W,reduceIte,Nat.reduceEqDiff,Nat.reduceAdd,decide_true,decide_false,kLoop_def,Nat.reduceSub,List.cons_append,List.nil_append,List.append_nil,List.length_cons,List.length_nil,ints_u64,kShr_def,shrA_u64,cviA_int,w1,w2,w3]
   exact ⟨_,_,rfl,sw,rfl,⟨_,rfl,q2,.inl q3⟩,dw⟩) (by omega)
 exact ⟨x,t,hr.symm.trans e,st,hd',x0,x1⟩
theorem from_ex {N d:Nat} {lo hi:Int} {s:St} {r:ARes} (hr:call Try.prog X N (.fn 31) [.ptr d 0,.int .i64 lo,.int .i64 hi] s=r) (hN:3≤N) (hd:Die d s.h) (hlt:d<s.n) (hs:s.n+200≤far)
  (h0 : -100000000≤lo) (h1:lo≤100000000) (h2 : -100000000≤hi) (h3:hi≤100000000) :
  ∃ x t,r=.val (.int .i64 x) t∧Stir d s t 0∧Die d t.h∧lo≤x∧(x≤hi∨x=lo):=by
 obtain ⟨m,rfl⟩:∃ m,N=m+1:=⟨N - 1,by omega⟩
 have hf:far=1000000000:=rfl
 obtain ⟨v,t,e,st,⟨x,rfl,x0,x1⟩,hd'⟩:=call_stir_plain (n:=m) (args:=[.ptr d 0,.int .i64 lo,.int .i64 hi]) (d:=d) (k:=0) (Q:=fun v=>∃ x,v=.int .i64 x∧lo≤x∧(x≤hi∨x=lo)) (R:=Die d) Try.func31 hd (fun u uh un um=>by
  rw [← uh] at hd
  have a1:∀ s,aSub s .i64 hi lo=.val (.int .i64 (hi - lo)) s:=fun s=>aSub_i64 s _ _ (by omega)
  have a2:∀ s,aAdd s .i64 (hi - lo) 1=.val (.int .i64 (hi - lo+1)) s:=fun s=>aAdd_i64 s _ _ (by omega)
  rw [enter31]
  simp (disch:=first|omega|(with_unfolding_all exact rfl)|(simp only[new_n,put_n,new_m];omega)|(refine put_m_le ?_;simp only[new_m];omega)) only [res31,K31r0,K31r1,K31,Abs.W,reduceIte,Nat.reduceEqDiff,Nat.reduceAdd,decide_true,decide_false,kLoop_def,Nat.reduceSub,List.cons_append,List.nil_append,List.append_nil,List.length_cons,List.length_nil,a1,a2]
  generalize hc:call _ _ _ (.fn 33) _ _=r1
  obtain ⟨y,w,rfl,sw,dw,y0,y1⟩:=cast_ex hc (by omega) hd (by omega) (by omega) (by omega)
  have a3:∀ s,aAdd s .i64 lo y=.val (.int .i64 (lo+y)) s:=fun s=>aAdd_i64 s _ _ (by omega)
  simp (disch:=first|omega|(with_unfolding_all exact rfl)|(simp only[new_n,put_n,new_m];omega)|(refine put_m_le ?_;simp only[new_m];omega)) only [res31,K31r0,K31r1,K31,Abs.W,reduceIte,Nat.reduceEqDiff,Nat.reduceAdd,decide_true,decide_false,kLoop_def,Nat.reduceSub,List.cons_append,List.nil_append,List.append_nil,List.length_cons,List.length_nil,a3]
  exact ⟨_,_,rfl,sw,rfl,⟨_,rfl,by omega,by omega⟩,dw⟩) (by omega)
 exact ⟨x,t,hr.symm.trans e,st,hd',x0,x1⟩
theorem nth_ints:∀ {l:List Int} {i:Nat},i<l.length→∃ x ∈ l,nth (l.map fun x=>AV.int .i64 x) i=.int .i64 x
 | [],i,h=>by simp at h
 | a::l,0,_=>⟨a,List.mem_cons_self ..,rfl⟩
 | a::l,i+1,h=>by
  obtain ⟨x,hx,e⟩:=nth_ints (l:=l) (i:=i) (by simpa using h)
  exact ⟨x,List.mem_cons_of_mem _ hx,e⟩
theorem one_ex {N d b:Nat} {k sz:Nat} (l:List Int) {s:St} {r:ARes} (hr:call Try.prog X N (.fn 32) [.ptr d 0,.slice b 0 k k false] s=r) (hN:3≤N) (hd:Die d s.h) (hlt:d<s.n) (hs:s.n+200≤far)
  (hb:s.h.get b=some (.cells (l.map fun x=>AV.int .i64 x) sz)) (hbn:b<s.n) (hbd:b≠d) (hl:l.length=k) (h0:0<k) (hk:k≤1000) :
  ∃ x t,r=.val (.int .i64 x) t∧Stir d s t 0∧Die d t.h∧x ∈ l:=by
 obtain ⟨m,rfl⟩:∃ m,N=m+1:=⟨N - 1,by omega⟩
 have hf:far=1000000000:=rfl
 obtain ⟨v,t,e,st,⟨x,rfl,hx⟩,hd'⟩:=call_stir_plain (n:=m) (args:=[.ptr d 0,.slice b 0 k k false]) (d:=d) (k:=0) (Q:=fun v=>∃ x,v=.int .i64 x∧x ∈ l) (R:=Die d) Try.func32 hd (fun u uh un um=>by
  rw [← uh] at hd hb
  have e0:decide ((k:Int)=0)=false:=by simp;omega
  rw [enter32]
  simp (disch:=first|omega|(with_unfolding_all exact rfl)|(simp only[new_n,put_n,new_m];omega)|(refine put_m_le ?_;simp only[new_m];omega)) only [res32,K32r0,K32r1,K32r2,K32r3,K32,Abs.W,reduceIte,Nat.reduceEqDiff,Nat.reduceAdd,decide_true,decide_false,kLoop_def,Nat.reduceSub,List.cons_append,List.nil_append,List.append_nil,List.length_cons,List.length_nil,e0]
  generalize hc:call _ _ _ (.fn 33) _ _=r1
  obtain ⟨y,w,rfl,sw,dw,y0,y1⟩:=cast_ex hc (by omega) hd (by omega) (by omega) (by omega)
  obtain ⟨i,rfl⟩:∃ i:Nat,y=i:=⟨y.toNat,by omega⟩
  have hi:i<k:=by omega
  obtain ⟨x,hx,hn⟩:=nth_ints (l:=l) (i:=i) (by omega)
  have hg:w.h.get b=some (.cells (l.map fun x=>AV.int .i64 x) sz):=by rw [sw.same b (by omega) hbd];exact hb
  simp (disch:=first|omega|(with_unfolding_all exact rfl)|(simp only[new_n,put_n,new_m];omega)|(refine put_m_le ?_;simp only[new_m];omega)) only [res32,K32r0,K32r1,K32r2,K32r3,K32,Abs.W,reduceIte,Nat.reduceEqDiff,Nat.reduceAdd,decide_true,decide_false,kLoop_def,Nat.reduceSub,List.cons_append,List.nil_append,List.append_nil,List.length_cons,List.length_nil,ixs_slice _ _ _ _ _ _ _ _ hi,Nat.mul_one,Nat.zero_add,hg,hn]
  exact ⟨_,_,rfl,sw,rfl,⟨x,rfl,hx⟩,dw⟩) (by omega)
 exact ⟨x,t,hr.symm.trans e,st,hd',hx⟩
theorem span_ex {N d:Nat} {lo hi:Int} {s:St} {r:ARes} (hr:call Try.prog X N (.fn 34) [.ptr d 0,.int .i64 lo,.int .i64 hi] s=r) (hN:4≤N) (hd:Die d s.h) (hlt:d<s.n) (hs:s.n+300≤far)
  (h0 : -1000000≤lo) (h1:lo≤hi) (h2:hi≤1000000) :
  ∃ a b t,r=.val (.agg [.int .i64 a,.int .i64 b]) t∧Stir d s t 2∧Die d t.h∧lo≤a∧a≤b∧b≤hi:=by
 obtain ⟨m,rfl⟩:∃ m,N=m+1:=⟨N - 1,by omega⟩
 have hf:far=1000000000:=rfl
 obtain ⟨v,t,e,st,⟨a,b,rfl,x0,x1,x2⟩,hd'⟩:=call_stir_plain (n:=m) (args:=[.ptr d 0,.int .i64 lo,.int .i64 hi]) (d:=d) (k:=2) (Q:=fun v=>∃ a b,v=.agg [.int .i64 a,.int .i64 b]∧lo≤a∧a≤b∧b≤hi) (R:=Die d) Try.func34 hd (fun u uh un um=>by
  rw [← uh] at hd
  have sh:shapeT Try.prog 38=some (some 2):=by kernel_rfl
  rw [enter34]
  simp (disch:=first|omega|(with_unfolding_all exact rfl)|(simp only[new_n,put_n,new_m];omega)|(refine put_m_le ?_;simp only[new_m];omega)) only [res34,K34r0,K34r1,K34r2,K34r3,K34,Abs.W,reduceIte,Nat.reduceEqDiff,Nat.reduceAdd,decide_true,decide_false,kLoop_def,Nat.reduceSub,List.cons_append,List.nil_append,List.append_nil,List.length_cons,List.length_nil]
  generalize hc:call _ _ _ (.fn 31) _ _=r1
  obtain ⟨x,w,rfl,sw,dw,y0,y1⟩:=from_ex hc (by omega) (by obtain ⟨f,hg⟩:=hd;exact ⟨f,by rw [get_new_ne _ _ _ (by omega)];exact hg⟩) (by simp only [new_n];omega) (by simp only [new_n];omega) (by omega) (by omega) (by omega) (by omega)
  have wn:=sw.n
  have wl:=sw.le
  simp only [new_n] at wn wl
  have a1:∀ s,aAdd s .i64 x 4=.val (.int .i64 (x+4)) s:=fun s=>aAdd_i64 s _ _ (by omega)
  simp (disch:=first|omega|(with_unfolding_all exact rfl)|(simp only[new_n,put_n,new_m];omega)|(refine put_m_le ?_;simp only[new_m];omega)) only [res34,K34r0,K34r1,K34r2,K34r3,K34,Abs.W,reduceIte,Nat.reduceEqDiff,Nat.reduceAdd,decide_true,decide_false,kLoop_def,Nat.reduceSub,List.cons_append,List.nil_append,List.append_nil,List.length_cons,List.length_nil,a1,kFold_def,foldA_nil,foldA_cons,minA_i64]
  generalize hc2:call _ _ _ (.fn 32) _ _=r2
  obtain ⟨y,w2,rfl,sw2,dw2,ym⟩:=one_ex [x,min hi (x+4),hi] hc2 (by omega) (by obtain ⟨f,hg⟩:=dw;exact ⟨f,by rw [get_new_ne _ _ _ (by omega)];exact hg⟩) (by simp only [new_n];omega) (by simp only [new_n];omega) (get_new_eq _ _ _ rfl (by omega)) (by simp only [new_n];omega) (by omega) rfl (by omega) (by omega)
  have wn2:=sw2.n
  have wl2:=sw2.le
  simp only [new_n] at wn2 wl2
  have ym':x≤y∧y≤hi:=by
   simp only [List.mem_cons,List.not_mem_nil,or_false] at ym
   omega
  simp (disch:=first|omega|(with_unfolding_all exact rfl)|(simp only[new_n,put_n,new_m];omega)|(refine put_m_le ?_;simp only[new_m];omega)) only [res34,K34r0,K34r1,K34r2,K34r3,K34,Abs.W,reduceIte,Nat.reduceEqDiff,Nat.reduceAdd,decide_true,decide_false,kLoop_def,Nat.reduceSub,List.cons_append,List.nil_append,List.append_nil,List.length_cons,List.length_nil]
  generalize hc3:call _ _ _ (.fn 31) _ _=r3
  obtain ⟨z,w3,rfl,sw3,dw3,z0,z1⟩:=from_ex hc3 (by omega) dw2 (by omega) (by omega) (by omega) (by omega) (by omega) (by omega)
  have wn3:=sw3.n
  have wl3:=sw3.le
  have g:w3.h.get u.n=some (.cells [.int .i64 0,.int .i64 0] (tag 38)):=by
   rw [sw3.same _ (by omega) (by omega),sw2.same _ (by simp only [new_n];omega) (by omega),get_new_ne _ _ _ (by omega),sw.same _ (by simp only [new_n];omega) (by omega)]
   exact get_new_eq _ _ _ rfl (by omega)
  simp (disch:=first|omega|(with_unfolding_all exact rfl)|(simp only[new_n,put_n,new_m];omega)|(refine put_m_le ?_;simp only[new_m];omega)) only [res34,K34r0,K34r1,K34r2,K34r3,K34,Abs.W,reduceIte,Nat.reduceEqDiff,Nat.reduceAdd,decide_true,decide_false,kLoop_def,Nat.reduceSub,List.cons_append,List.nil_append,List.append_nil,List.length_cons,List.length_nil,g]
  have S1:Stir d u w3 2:=((((((Stir.refl d u).new _).trans sw).new _).trans sw2).trans sw3)
  refine ⟨_,_,leave_cell _ _ _ _ sh ?_,S1.put (by omega) _ (.inr (Nat.le_refl _)),rfl,⟨x,z,rfl,by omega,by omega,by omega⟩,?_⟩
  ·simp (disch:=first|omega|(with_unfolding_all exact rfl)|(simp only[new_n,put_n,new_m];omega)|(refine put_m_le ?_;simp only[new_m];omega)) only [Abs.W,reduceIte,Nat.reduceEqDiff,Nat.reduceAdd,decide_true,decide_false,kLoop_def,Nat.reduceSub,List.cons_append,List.nil_append,List.append_nil,List.length_cons,List.length_nil]
  ·obtain ⟨f,hg⟩:=dw3
   exact ⟨f,by rw [get_put_ne' _ _ _ _ (by omega)];exact hg⟩) (by omega)
 exact ⟨a,b,t,hr.symm.trans e,st,hd',x0,x1,x2⟩
end Go.Proofs.Ytamlnddeiokbdaa.walk
set_option maxRecDepth 10000
namespace Go.Proofs.Ytamlnddeiokbdaa.walk
open Go.Abs Go.Proofs.Ytamlnddeiokbdaa.code
theorem Die.keep {d:Nat} {h h':Heap} (D:Die d h) (e:h'.get d=h.get d):Die d h':=by obtain ⟨f,hf⟩:=D;exact ⟨f,e.trans hf⟩
theorem call_stir2 {P:Program} {X:FuncId→List Nat} {n:Nat} {f:FuncId} {args:List AV} {s:St} {fn:Func} {d k:Nat} {Q:AV→Heap→Nat→Prop} (hf:P.funcs[f]? = some fn) (hk:keepAll=true)
  (h:∀ u:St,u.h=s.h→u.n=s.n→u.m=far→∃ v s',enterA P X (Abs.call P X n) f args u fn=.val v s'∧Stir d u s' k∧Q v s'.h s'.n∧(plain v=true→Q v s.h s.n)) (hd:d≤far) :
  ∃ v t,Abs.call P X (n+1) (.fn f) args s=.val v t∧Stir d s t k∧Q v t.h t.n:=by
 obtain ⟨v,s',h1,h2,h3,h4⟩:=h ⟨s.h,s.n,far⟩ rfl rfl rfl
 cases hb:Nat.ble s.n s'.m with
 | true =>
  cases hp:plain v with
  | true =>
   refine ⟨v,s,?_,(Stir.refl d s).mono (Nat.zero_le _),h4 hp⟩
   show callStep P X (Abs.call P X n) (.fn f) args s=_
   unfold callStep
   simp only [hf,h1]
   unfold Abs.settle
   simp only [hb,hp]
   rfl
  | false =>
   refine ⟨v,⟨s'.h,s'.n,s.m⟩,?_,⟨h2.same,h2.n,h2.le,fun h=>h,Nat.le_refl _⟩,h3⟩
   show callStep P X (Abs.call P X n) (.fn f) args s=_
   unfold callStep
   simp only [hf,h1]
   unfold Abs.settle
   simp only [hb,hp,hk]
   rfl
 | false =>
  refine ⟨v,⟨s'.h,s'.n,minN s.m s'.m⟩,?_,Stir.draw (s:=s) h2 hd,h3⟩
  show callStep P X (Abs.call P X n) (.fn f) args s=_
  unfold callStep
  simp only [hf,h1]
  unfold Abs.settle
  simp only [hb]
  rfl
structure BookJ (u t:St) (d p9:Nat) (b:Book) (v:AV) (bl kk:Nat):Prop where
 die:Die d t.h
 g9:t.h.get p9=some (.cells (bookV b v) (tag 27))
 is:IsAt t.h t.n bl 6 (tag 51) (b.sales.map Sale.cells) v
 lo:p9<bl
 same:∀ c,c<p9→c≠d→t.h.get c=u.h.get c
 n:p9<t.n
 le:t.n≤u.n+kk
 m:d≤u.m→d≤t.m
 mle:t.m≤u.m
 dp:d<p9
 ok:∀ s ∈ b.sales,s.Ok b.stalls b.goods
theorem book_round (N:Nat) (hN:5≤N) (cx:Ctx) {d p9 bl kk:Nat} {b:Book} {v:AV} {u t:St} {L:Env} {i:Nat} {gr ce:Int} (J:BookJ u t d p9 b v bl kk) (hk:1≤b.stalls∧b.stalls≤8) (hg:1≤b.goods∧b.goods≤8) (hl:b.sales.length≤40) (hs:u.n+kk+2000≤far) (hum:u.m≤far) (hi:i≤1000)
  (hgr:0≤gr∧gr≤5000) (hce:0≤ce∧ce≤2000) (q0:L.find 0=.ptr d 0) (q9:L.find 9=.ptr p9 0) (q10:L.find 10=.int .i64 gr) (q11:L.find 11=.int .i64 ce) (q12:L.find 12=.int .i64 (i+1:Nat)) :
  ∃ L1 t1 b1 v1 bl1,K10l0 (call Try.prog X N) cx L [] t=.done .norm L1 [] t1∧BookJ u t1 d p9 b1 v1 bl1 (kk+10)∧b1.stalls=b.stalls∧b1.goods=b.goods∧b1.sales.length=b.sales.length+1∧L1.find 12=.int .i64 (i:Nat)∧∀ c,c<12→L1.find c=L.find c:=by
 have hf:far=1000000000:=rfl
 obtain ⟨jd,j9,ji,jlo,js,jn,jle,jm,jml,jdp,jok⟩:=J
 have e0:decide ((0:Int)<((i+1:Nat):Int))=true:=decide_eq_true (by omega)
 have kv:∀ t,okA (.val v t)=.val v t:=ji.okA
 have sb:∀ s,aSub s .i64 ((i+1:Nat):Int) 1=.val (.int .i64 (i:Int)) s:=fun s=>by rw [aSub_i64 s _ _ (by omega)];congr 2;omega
 unfold bookV at j9
 simp (disch:=first|omega|(with_unfolding_all exact rfl)|(simp only[new_n,put_n,new_m];omega)|(refine put_m_le ?_;simp only[new_m];omega)) only [res10,K10r0,K10r1,K10r2,K10r3,K10r4,K10r5,K10r6,K10r7,K10,K10l0,Abs.W,reduceIte,Nat.reduceEqDiff,Nat.reduceAdd,decide_true,decide_false,kLoop_def,Nat.reduceSub,List.cons_append,List.nil_append,List.append_nil,List.length_cons,List.length_nil,Env.find_set,Nat.zero_add,Nat.add_zero,q0,q9,q10,q11,q12,j9,kv,e0]
 generalize hc1:call _ _ _ (.fn 33) _ _=r1
 obtain ⟨x1,t1,rfl,st1,d1,x10,x11⟩:=cast_ex hc1 (by omega) jd (by show d<t.n;omega) (by show t.n+100≤far;omega) (by omega)
 have n1:t.n≤t1.n:=st1.n
 have k1:t1.n≤t.n:=st1.le
 have g1:∀ c,c<t.n→c≠d→t1.h.get c=t.h.get c:=fun c hc hcd=>st1.same c hc hcd
 have a9:=(g1 p9 (by omega) (by omega)).trans j9
 simp (disch:=first|omega|(with_unfolding_all exact rfl)|(simp only[new_n,put_n,new_m];omega)|(refine put_m_le ?_;simp only[new_m];omega)) only [thenT_turn,Abs.W,reduceIte,Nat.reduceEqDiff,Nat.reduceAdd,decide_true,decide_false,kLoop_def,Nat.reduceSub,List.cons_append,List.nil_append,List.append_nil,List.length_cons,List.length_nil,Env.find_set,q0,q9,a9,Nat.zero_add]
 generalize hc2:call _ _ _ (.fn 33) _ _=r2
 obtain ⟨x2,t2,rfl,st2,d2,x20,x21⟩:=cast_ex hc2 (by omega) d1 (by show d<t1.n;omega) (by show t1.n+100≤far;omega) (by omega)
 have n2:t1.n≤t2.n:=st2.n
 have k2:t2.n≤t1.n:=st2.le
 have g2:∀ c,c<t.n→c≠d→t2.h.get c=t.h.get c:=fun c hc hcd=>(st2.same c (by show c<t1.n;omega) hcd).trans (g1 c hc hcd)
 simp (disch:=first|omega|(with_unfolding_all exact rfl)|(simp only[new_n,put_n,new_m];omega)|(refine put_m_le ?_;simp only[new_m];omega)) only [thenT_turn,Abs.W,reduceIte,Nat.reduceEqDiff,Nat.reduceAdd,decide_true,decide_false,kLoop_def,Nat.reduceSub,List.cons_append,List.nil_append,List.append_nil,List.length_cons,List.length_nil,Env.find_set,q0,q10,Nat.zero_add]
 generalize hc3:call _ _ _ (.fn 34) _ _=r3
 obtain ⟨y1,y2,t3,rfl,st3,d3,y10,y11,y12⟩:=span_ex hc3 (by omega) d2 (by show d<t2.n;omega) (by show t2.n+300≤far;omega) (by omega) (by omega) (by omega)
 have n3:t2.n≤t3.n:=st3.n
 have k3:t3.n≤t2.n+2:=st3.le
 have g3:∀ c,c<t.n→c≠d→t3.h.get c=t.h.get c:=fun c hc hcd=>(st3.same c (by show c<t2.n;omega) hcd).trans (g2 c hc hcd)
 simp (disch:=first|omega|(with_unfolding_all exact rfl)|(simp only[new_n,put_n,new_m];omega)|(refine put_m_le ?_;simp only[new_m];omega)) only [thenT_turn,Abs.W,reduceIte,Nat.reduceEqDiff,Nat.reduceAdd,decide_true,decide_false,kLoop_def,Nat.reduceSub,List.cons_append,List.nil_append,List.append_nil,List.length_cons,List.length_nil,Env.find_set,q0,q11,Nat.zero_add]
 generalize hc4:call _ _ _ (.fn 34) _ _=r4
 obtain ⟨z1,z2,t4,rfl,st4,d4,z10,z11,z12⟩:=span_ex hc4 (by omega) d3 (by show d<t3.n;omega) (by show t3.n+300≤far;omega) (by omega) (by omega) (by omega)
 have n4:t3.n≤t4.n:=st4.n
 have k4:t4.n≤t3.n+2:=st4.le
 have g4:∀ c,c<t.n→c≠d→t4.h.get c=t.h.get c:=fun c hc hcd=>(st4.same c (by show c<t3.n;omega) hcd).trans (g3 c hc hcd)
 simp (disch:=first|omega|(with_unfolding_all exact rfl)|(simp only[new_n,put_n,new_m];omega)|(refine put_m_le ?_;simp only[new_m];omega)) only [thenT_turn,Abs.W,reduceIte,Nat.reduceEqDiff,Nat.reduceAdd,decide_true,decide_false,kLoop_def,Nat.reduceSub,List.cons_append,List.nil_append,List.append_nil,List.length_cons,List.length_nil,Env.find_set,Nat.zero_add]
 obtain ⟨y8,hy8⟩:∃ y8:St,y8=⟨t4.h,t4.n,minN (minN (minN (minN t.m t1.m) t2.m) t3.m) t4.m⟩:=⟨_,rfl⟩
 have y8n:y8.n=t4.n:=by rw [hy8]
 have y8h:y8.h=t4.h:=by rw [hy8]
 have y8m:y8.m=min (min (min (min t.m t1.m) t2.m) t3.m) t4.m:=by rw [hy8];simp only [minN_eq]
 have m1:d≤t1.m:=st1.m (by show d≤far;omega)
 have m2:d≤t2.m:=st2.m (by show d≤far;omega)
 have m3:d≤t3.m:=st3.m (by show d≤far;omega)
 have m4:d≤t4.m:=st4.m (by show d≤far;omega)
 obtain ⟨S,hS⟩:∃ S:Sale,S=⟨x1,x2,y1,y2,z1,z2⟩:=⟨_,rfl⟩
 obtain ⟨y,hy⟩:∃ y:St,y=y8.new (.cells S.cells 0):=⟨_,rfl⟩
 have yn:y.n=t4.n+1:=by rw [hy];show y8.n+1=_;rw [y8n]
 have ym:y.m=y8.m:=by rw [hy];rfl
 have yg:∀ c,c<t4.n→y.h.get c=t4.h.get c:=fun c hc=>by rw [hy,get_new_ne _ _ _ (by omega),y8h]
 have yp:y.h.get t4.n=some (.cells S.cells 0):=by rw [hy,← y8n];exact get_new_eq _ _ _ rfl (by omega)
 have gy:∀ c,c<t.n→c≠d→y.h.get c=t.h.get c:=fun c hc hcd=>(yg c (by omega)).trans (g4 c hc hcd)
 obtain ⟨s7,e7,l7,s7n,s7g,s7m,s7l⟩:=append_at (bytes:=48) (ji.mono (h':=y.h) (n':=y.n) (fun h=>gy bl h (by omega)) (by omega)) yp rfl rfl (by rw [List.length_map];omega) (by kernel_rfl) (by omega)
 have hlen:(b.sales.map Sale.cells).length=b.sales.length:=List.length_map ..
 rw [hlen] at e7 l7
 obtain ⟨v7,hv7⟩:∃ v7,v7=AV.slice y.n 0 (b.sales.length+1) (b.sales.length+1) true:=⟨_,rfl⟩
 rw [← hv7] at e7 l7
 have e7':appendA false 6 48 (tag 51) (y8.new (.cells [.int .i64 x1,.int .i64 x2,.int .i64 y1,.int .i64 y2,.int .i64 z1,.int .i64 z2] 0)) v (.slice t4.n 0 1 1 false)=.val v7 s7:=by
  have:S.cells=[.int .i64 x1,.int .i64 x2,.int .i64 y1,.int .i64 y2,.int .i64 z1,.int .i64 z2]:=by rw [hS];rfl
  rw [hy,this] at e7
  exact e7
 rw [← hy8]
 have s9:=(s7g p9 (by omega) (by omega)).trans ((gy p9 (by omega) (by omega)).trans j9)
 have sc7:scalars [v7]=true:=by rw [hv7];rfl
 have cc7:cellsOf 1 v7=some [v7]:=by rw [hv7];rfl
 simp (disch:=first|omega|(with_unfolding_all exact rfl)|(simp only[new_n,put_n,new_m];omega)|(refine put_m_le ?_;simp only[new_m];omega)) only [Abs.W,reduceIte,Nat.reduceEqDiff,Nat.reduceAdd,decide_true,decide_false,kLoop_def,Nat.reduceSub,List.cons_append,List.nil_append,List.append_nil,List.length_cons,List.length_nil,Env.find_set,e7',q9,s9,sc7,cc7,Nat.zero_add]
 rw [endT_kept (l:=[34]) (s':=t4) (by simp only [keptAll_cons,keptAll_nil,find_cons,Env.find_set,keptV_ptr,(g3 p9 (by omega) (by omega)).trans j9,(g4 p9 (by omega) (by omega)).trans j9,sameO_cells,reduceIte,Nat.reduceEqDiff,Bool.and_self])]
 rw [endT_kept (l:=[34]) (s':=t3) (by simp only [keptAll_cons,keptAll_nil,find_cons,Env.find_set,keptV_ptr,(g2 p9 (by omega) (by omega)).trans j9,(g3 p9 (by omega) (by omega)).trans j9,sameO_cells,reduceIte,Nat.reduceEqDiff,Bool.and_self])]
 rw [endT_kept (l:=[34]) (s':=t2) (by simp only [keptAll_cons,keptAll_nil,find_cons,Env.find_set,keptV_ptr,(g1 p9 (by omega) (by omega)).trans j9,(g2 p9 (by omega) (by omega)).trans j9,sameO_cells,reduceIte,Nat.reduceEqDiff,Bool.and_self])]
 rw [endT_kept (l:=[34,41]) (s':=t1) (by simp only [keptAll_cons,keptAll_nil,find_cons,Env.find_set,keptV_ptr,j9,(g1 p9 (by omega) (by omega)).trans j9,sameO_cells,reduceIte,Nat.reduceEqDiff,Bool.and_self])]
 rw [endO_ok _ (endOk_nil _)]
 simp (disch:=first|omega|(with_unfolding_all exact rfl)|(simp only[new_n,put_n,new_m];omega)|(refine put_m_le ?_;simp only[new_m];omega)) only [res10,K10r0,K10r1,K10r2,K10r3,K10r4,K10r5,K10r6,K10r7,K10,Abs.W,reduceIte,Nat.reduceEqDiff,Nat.reduceAdd,decide_true,decide_false,kLoop_def,Nat.reduceSub,List.cons_append,List.nil_append,List.append_nil,List.length_cons,List.length_nil,Env.find_set,q12,sb,Nat.zero_add]
 have hcells:(b.sales.map Sale.cells)++[S.cells]=(b.sales++[S]).map Sale.cells:=by rw [List.map_append];rfl
 refine ⟨_,_,{ b with sales:=b.sales++[S] },v7,y.n,rfl,⟨?_,?_,?_,by omega,fun c hc hcd=>?_,by simp only [put_n];omega,by simp only [put_n];omega,fun hm=>?_,?_,jdp,fun x hx=>?_⟩,rfl,rfl,by simp,by simp only [Env.find_set,reduceIte,Nat.reduceEqDiff],fun c hc=>?_⟩
 ·exact Die.keep d4 (by rw [get_put_ne' _ _ _ _ (by omega),s7g d (by omega) (by omega),yg d (by omega)])
 ·exact get_put_eq _ _ _ _ rfl (by omega)
 ·rw [← hcells]
  exact l7.mono (fun _=>get_put_ne' _ _ _ _ (by omega)) (by simp only [put_n];omega)
 ·rw [get_put_ne' _ _ _ _ (by omega),s7g c (by omega) (by omega),gy c (by omega) hcd]
  exact js c hc hcd
 ·have:=jm hm
  have:=s7m d (by omega) (by omega) (by omega)
  simp only [St.put,minN_eq];omega
 ·simp only [St.put,minN_eq];omega
 ·rcases List.mem_append.mp hx with hx | hx
  ·exact jok x hx
  ·rw [List.mem_singleton.mp hx,hS]
   exact ⟨by simp only;omega,by simp only;omega,by simp only;omega,by simp only;omega,by simp only;omega,by simp only;omega,by simp only;omega,by simp only;omega,by simp only;omega,by simp only;omega⟩
 ·simp only [Env.find_set]
  rw [if_neg (by omega),if_neg (by omega)]
theorem book_loop (N:Nat) (hN:5≤N) {cx:Ctx} {d p9 bl kk i:Nat} {b:Book} {v:AV} {u w:St} {L:Env} {r:R} {gr ce:Int} (hr:loopN K10l0 rounds (call Try.prog X N) cx L [] w=r) (J:BookJ u w d p9 b v bl kk) (hk:1≤b.stalls∧b.stalls≤8) (hg:1≤b.goods∧b.goods≤8) (h0:b.sales.length=0) (hi:i≤39) (hs:u.n+kk+3000≤far) (hum:u.m≤far)
  (hgr:0≤gr∧gr≤5000) (hce:0≤ce∧ce≤2000) (q0:L.find 0=.ptr d 0) (q9:L.find 9=.ptr p9 0) (q10:L.find 10=.int .i64 gr) (q11:L.find 11=.int .i64 ce) (q12:L.find 12=.int .i64 (i:Int)) :
  ∃ L1 t1 b1 v1 bl1,r=.done (.exit 0) L1 [] t1∧BookJ u t1 d p9 b1 v1 bl1 (kk+400)∧b1.stalls=b.stalls∧b1.goods=b.goods∧b1.sales.length=i∧∀ c,c<12→L1.find c=L.find c:=by
 have hf:far=1000000000:=rfl
 obtain ⟨e,L1,t1,rfl,rfl,b1,v1,bl1,h1,h2,h3,h4,h5⟩:=loop_of hr (fun j L' t'=>∃ b1 v1 bl1,BookJ u t' d p9 b1 v1 bl1 (kk+10 * j)∧b1.stalls=b.stalls∧b1.goods=b.goods∧b1.sales.length=j∧L'.find 12=.int .i64 ((i - j:Nat):Int)∧∀ c,c<12→L'.find c=L.find c)
  (fun e L' t'=>e=.exit 0∧∃ b1 v1 bl1,BookJ u t' d p9 b1 v1 bl1 (kk+400)∧b1.stalls=b.stalls∧b1.goods=b.goods∧b1.sales.length=i∧∀ c,c<12→L'.find c=L.find c) i (by unfold rounds;omega)
  ⟨b,v,bl,J,rfl,rfl,h0,q12,fun _ _=>rfl⟩
  (fun j L' t' hj ⟨b1,v1,bl1,hJ,hb1,hb2,hb3,p12,g⟩=>by
   by_cases hlt:j<i
   ·obtain ⟨L2,t2,b2,v2,bl2,z1,z2,z3,z4,z5,z6,z7⟩:=book_round N hN cx (i:=i - j - 1) hJ (by omega) (by omega) (by omega) (by omega) hum (by omega) hgr hce ((g 0 (by omega)).trans q0) ((g 9 (by omega)).trans q9) ((g 10 (by omega)).trans q10) ((g 11 (by omega)).trans q11) (by rw [p12,show i - j - 1+1=i - j by omega])
    exact .inl ⟨hlt,L2,t2,z1,b2,v2,bl2,z2,z3.trans hb1,z4.trans hb2,by omega,z6.trans (by rw [show i - j - 1=i - (j+1) by omega]),fun c hc=>(z7 c hc).trans (g c hc)⟩
   ·obtain rfl:j=i:=by omega
    have e0:decide ((0:Int)<((0:Nat):Int))=false:=rfl
    rw [Nat.sub_self] at p12
    refine .inr ⟨.exit 0,L'.set 31 (.bool false),t',by simp,?_,rfl,b1,v1,bl1,?_,hb1,hb2,hb3,fun c hc=>?_⟩
    ·simp (disch:=first|omega|(with_unfolding_all exact rfl)|(simp only[new_n,put_n,new_m];omega)|(refine put_m_le ?_;simp only[new_m];omega)) only [res10,K10r0,K10r1,K10r2,K10r3,K10r4,K10r5,K10r6,K10r7,K10,K10l0,Abs.W,reduceIte,Nat.reduceEqDiff,Nat.reduceAdd,decide_true,decide_false,kLoop_def,Nat.reduceSub,List.cons_append,List.nil_append,List.append_nil,List.length_cons,List.length_nil,Env.find_set,p12,e0]
    ·obtain ⟨a1,a2,a3,a4,a5,a6,a7,a8,a9,a10,a11⟩:=hJ
     exact ⟨a1,a2,a3,a4,a5,a6,by omega,a8,a9,a10,a11⟩
    ·simp only [Env.find_set]
     rw [if_neg (by omega)]
     exact g c hc)
 exact ⟨L1,t1,b1,v1,bl1,rfl,h1,h2,h3,h4,h5⟩
theorem BookOf_ex3 {N d:Nat} {k g n:Nat} {s:St} {r:ARes} (hr:call Try.prog X N (.fn 10) [.ptr d 0,.int .i64 (k:Int),.int .i64 (g:Int),.int .i64 (n:Int)] s=r) (hN:6≤N) (hd:Die d s.h) (hlt:d<s.n) (hk:1≤k∧k≤8) (hg:1≤g∧g≤8) (hn:n≤39) (hs:s.n+6000≤far) :
  ∃ (b:Book) (v:AV) (bl:Nat) (t:St),r=.val (.agg (bookV b v)) t∧Stir d s t 500∧Die d t.h∧(b.Ok∧b.stalls≤k∧b.goods≤g)∧b.sales.length≤n∧s.n≤bl∧IsAt t.h t.n bl 6 (tag 51) (b.sales.map Sale.cells) v:=by
 obtain ⟨m,rfl⟩:∃ m,N=m+1:=⟨N - 1,by omega⟩
 have hf:far=1000000000:=rfl
 obtain ⟨v,t,e,st,b,v',bl,rfl,hq1,hq2,hq3,hq4,hq5⟩:=call_stir2 (n:=m) (args:=[.ptr d 0,.int .i64 (k:Int),.int .i64 (g:Int),.int .i64 (n:Int)]) (d:=d) (s:=s) (k:=500) (Q:=fun w h m=>∃ (b:Book) (v:AV) (bl:Nat),w=.agg (bookV b v)∧Die d h∧(b.Ok∧b.stalls≤k∧b.goods≤g)∧b.sales.length≤n∧s.n≤bl∧IsAt h m bl 6 (tag 51) (b.sales.map Sale.cells) v) Try.func10 rfl (fun u uh un um=>by
  have hd':=hd
  rw [← uh] at hd
  rw [← un] at hlt
  rw [enter10]
  simp (disch:=first|omega|(with_unfolding_all exact rfl)|(simp only[new_n,put_n,new_m];omega)|(refine put_m_le ?_;simp only[new_m];omega)) only [res10,K10r0,K10r1,K10r2,K10r3,K10r4,K10r5,K10r6,K10r7,K10,Abs.W,reduceIte,Nat.reduceEqDiff,Nat.reduceAdd,decide_true,decide_false,kLoop_def,Nat.reduceSub,List.cons_append,List.nil_append,List.append_nil,List.length_cons,List.length_nil,Env.find_set]
  obtain ⟨w0,hw0⟩:∃ w0:St,w0=u.new (.cells [.int .i64 0,.int .i64 0,.nilslice] (tag 27)):=⟨_,rfl⟩
  rw [← hw0]
  have w0n:w0.n=u.n+1:=by rw [hw0];rfl
  have w0m:w0.m=far:=by rw [hw0];exact um
  have w0g:∀ c,c<u.n→w0.h.get c=u.h.get c:=fun c hc=>by rw [hw0,get_new_ne _ _ _ (by omega)]
  have w00:w0.h.get u.n=some (.cells [.int .i64 0,.int .i64 0,.nilslice] (tag 27)):=by rw [hw0];exact get_new_eq _ _ _ rfl (by omega)
  generalize hc1:call _ _ _ (.fn 31) _ _=r1
  obtain ⟨x1,t1,rfl,st1,d1,x10,x11⟩:=from_ex hc1 (by omega) (Die.keep hd (w0g d hlt)) (by omega) (by omega) (by omega) (by omega) (by omega) (by omega)
  have n1:=st1.n
  have k1:=st1.le
  simp (disch:=first|omega|(with_unfolding_all exact rfl)|(simp only[new_n,put_n,new_m];omega)|(refine put_m_le ?_;simp only[new_m];omega)) only [Abs.W,reduceIte,Nat.reduceEqDiff,Nat.reduceAdd,decide_true,decide_false,kLoop_def,Nat.reduceSub,List.cons_append,List.nil_append,List.append_nil,List.length_cons,List.length_nil,Env.find_set]
  generalize hc2:call _ _ _ (.fn 31) _ _=r2
  obtain ⟨x2,t2,rfl,st2,d2,x20,x21⟩:=from_ex hc2 (by omega) d1 (by omega) (by omega) (by omega) (by omega) (by omega) (by omega)
  have n2:=st2.n
  have k2:=st2.le
  simp (disch:=first|omega|(with_unfolding_all exact rfl)|(simp only[new_n,put_n,new_m];omega)|(refine put_m_le ?_;simp only[new_m];omega)) only [Abs.W,reduceIte,Nat.reduceEqDiff,Nat.reduceAdd,decide_true,decide_false,kLoop_def,Nat.reduceSub,List.cons_append,List.nil_append,List.append_nil,List.length_cons,List.length_nil,Env.find_set,Nat.zero_add]
  obtain ⟨y,hy⟩:∃ y:St,y=(t2.new (.cells [.int .i64 0,.int .i64 0,.nilslice] (tag 27))).put t2.n (.cells [.int .i64 x1,.int .i64 x2,.nilslice] (tag 27)):=⟨_,rfl⟩
  have yn:y.n=t2.n+1:=by rw [hy];rfl
  have ym:y.m=min t2.m t2.n:=by rw [hy];simp only [St.put,minN_eq,new_m]
  have yg:∀ c,c<t2.n→y.h.get c=t2.h.get c:=fun c hc=>by rw [hy,get_put_ne' _ _ _ _ (by omega),get_new_ne _ _ _ (by omega)]
  have yp:y.h.get t2.n=some (.cells [.int .i64 x1,.int .i64 x2,.nilslice] (tag 27)):=by rw [hy];exact get_put_eq _ _ _ _ rfl (by omega)
  have m1:=st1.m (by omega)
  have m2:=st2.m m1
  have l1:=st1.mle
  have l2:=st2.mle
  rw [← hy]
  clear hy
  generalize hc3:call _ _ _ (.fn 32) _ _=r3
  obtain ⟨gr,t3,rfl,st3,d3,hgr⟩:=one_ex [6,100,5000] (b:=y.n) (sz:=0) hc3 (by omega) (Die.keep d2 ((get_new_ne _ _ _ (by omega)).trans (yg d (by omega)))) (by simp only [new_n];omega) (by simp only [new_n];omega) (get_new_eq _ _ _ rfl (by omega)) (by simp only [new_n];omega) (by omega) rfl (by omega) (by omega)
  have n3:y.n+1≤t3.n:=st3.n
  have k3:t3.n≤y.n+1:=st3.le
  have g3:∀ c,c<y.n→c≠d→t3.h.get c=y.h.get c:=fun c hc hcd=>(st3.same c (by show c<y.n+1;omega) hcd).trans (get_new_ne _ _ _ (by omega))
  have m3:d≤t3.m:=st3.m (by show d≤y.m;omega)
  have l3:t3.m≤y.m:=st3.mle
  simp (disch:=first|omega|(with_unfolding_all exact rfl)|(simp only[new_n,put_n,new_m];omega)|(refine put_m_le ?_;simp only[new_m];omega)) only [Abs.W,reduceIte,Nat.reduceEqDiff,Nat.reduceAdd,decide_true,decide_false,kLoop_def,Nat.reduceSub,List.cons_append,List.nil_append,List.append_nil,List.length_cons,List.length_nil,Env.find_set,Nat.zero_add]
  generalize hc4:call _ _ _ (.fn 32) _ _=r4
  obtain ⟨ce,t4,rfl,st4,d4,hce⟩:=one_ex [6,30,2000] (b:=t3.n) (sz:=0) hc4 (by omega) (Die.keep d3 (get_new_ne _ _ _ (by omega))) (by simp only [new_n];omega) (by simp only [new_n];omega) (get_new_eq _ _ _ rfl (by omega)) (by simp only [new_n];omega) (by omega) rfl (by omega) (by omega)
  have n4:t3.n+1≤t4.n:=st4.n
  have k4:t4.n≤t3.n+1:=st4.le
  have g4:∀ c,c<y.n→c≠d→t4.h.get c=y.h.get c:=fun c hc hcd=>(st4.same c (by show c<t3.n+1;omega) hcd).trans ((get_new_ne _ _ _ (by omega)).trans (g3 c hc hcd))
  have m4:d≤t4.m:=st4.m (by show d≤t3.m;omega)
  have l4:t4.m≤t3.m:=st4.mle
  have adn:∀ s,aAdd s .i64 (n:Int) 1=.val (.int .i64 ((n:Int)+1)) s:=fun s=>aAdd_i64 s _ _ (by omega)
  simp (disch:=first|omega|(with_unfolding_all exact rfl)|(simp only[new_n,put_n,new_m];omega)|(refine put_m_le ?_;simp only[new_m];omega)) only [res10,K10r0,K10r1,K10r2,K10r3,K10r4,K10r5,K10r6,K10r7,K10,Abs.W,reduceIte,Nat.reduceEqDiff,Nat.reduceAdd,decide_true,decide_false,kLoop_def,Nat.reduceSub,List.cons_append,List.nil_append,List.append_nil,List.length_cons,List.length_nil,Env.find_set,adn,Nat.zero_add]
  generalize hc5:call _ _ _ (.fn 33) _ _=r5
  obtain ⟨x5,t5,rfl,st5,d5,x50,x51⟩:=cast_ex hc5 (by omega) d4 (by omega) (by omega) (by omega)
  obtain ⟨i,rfl⟩:∃ n:Nat,x5=n:=⟨x5.toNat,by omega⟩
  obtain ⟨kk,rfl⟩:∃ n:Nat,x1=n:=⟨x1.toNat,by omega⟩
  obtain ⟨gg,rfl⟩:∃ n:Nat,x2=n:=⟨x2.toNat,by omega⟩
  have n5:=st5.n
  have k5:=st5.le
  have m5:=st5.m m4
  have l5:=st5.mle
  have g5:∀ c,c<y.n→c≠d→t5.h.get c=y.h.get c:=fun c hc hcd=>(st5.same c (by omega) hcd).trans (g4 c hc hcd)
  simp (disch:=first|omega|(with_unfolding_all exact rfl)|(simp only[new_n,put_n,new_m];omega)|(refine put_m_le ?_;simp only[new_m];omega)) only [res10,K10r0,K10r1,K10r2,K10r3,K10r4,K10r5,K10r6,K10r7,K10,Abs.W,reduceIte,Nat.reduceEqDiff,Nat.reduceAdd,decide_true,decide_false,kLoop_def,Nat.reduceSub,List.cons_append,List.nil_append,List.append_nil,List.length_cons,List.length_nil,Env.find_set,Nat.zero_add]
  generalize hlp:loopN _ rounds _ _ _ _ _=rl
  have p9:=(g5 t2.n (by omega) (by omega)).trans yp
  have hgr':0≤gr∧gr≤5000:=by simp at hgr;omega
  have hce':0≤ce∧ce≤2000:=by simp at hce;omega
  have base:∀ c,c<t2.n→c≠d→t5.h.get c=t2.h.get c:=fun c hc hcd=>(g5 c (by omega) hcd).trans (yg c hc)
  have base0:∀ c,c<u.n→c≠d→t5.h.get c=u.h.get c:=fun c hc hcd=>(base c (by omega) hcd).trans ((st2.same c (by omega) hcd).trans ((st1.same c (by omega) hcd).trans (w0g c hc)))
  have hJ:BookJ t5 t5 d t2.n ⟨kk,gg,[]⟩ .nilslice (far+1) 0:=⟨d5,p9,IsAt.nil _ _ _ _ _,by omega,fun _ _ _=>rfl,by omega,by omega,fun h=>h,Nat.le_refl _,by omega,fun s hs=>by cases hs⟩
  obtain ⟨L1,t6,b1,v1,bl1,rfl,J6,h61,h62,h63,g6⟩:=book_loop m (by omega) (i:=i) hlp hJ (by show 1≤kk∧kk≤8;omega) (by show 1≤gg∧gg≤8;omega) rfl (by omega) (by omega) (by omega) hgr' hce' (by simp only [find_cons,Env.find_set,reduceIte,Nat.reduceEqDiff]) (by simp only [find_cons,Env.find_set,reduceIte,Nat.reduceEqDiff]) (by simp only [find_cons,Env.find_set,reduceIte,Nat.reduceEqDiff]) (by simp only [find_cons,Env.find_set,reduceIte,Nat.reduceEqDiff]) (by simp only [find_cons,Env.find_set,reduceIte,Nat.reduceEqDiff])
  have f8:L1.find 8=.ptr u.n 0:=(g6 8 (by omega)).trans (by simp only [find_cons,Env.find_set,reduceIte,Nat.reduceEqDiff])
  have f9:L1.find 9=.ptr t2.n 0:=(g6 9 (by omega)).trans (by simp only [find_cons,Env.find_set,reduceIte,Nat.reduceEqDiff])
  have h61:b1.stalls=kk:=h61
  have h62:b1.goods=gg:=h62
  obtain ⟨jd,j9,ji,jlo,js,jn,jle,jm,jml,jdp,jok⟩:=J6
  have j0:t6.h.get u.n=some (.cells [.int .i64 0,.int .i64 0,.nilslice] (tag 27)):=(js u.n (by omega) (by omega)).trans ((base u.n (by omega) (by omega)).trans ((st2.same u.n (by omega) (by omega)).trans ((st1.same u.n (by omega) (by omega)).trans w00)))
  have sc1:=ji.scal.1
  have scb:scalars (bookV b1 v1)=true:=by show scalars [v1]=true;exact sc1
  unfold bookV at j9 scb
  have sh3:shapeT Try.prog 27=some (some 3):=by kernel_rfl
  simp (disch:=first|omega|(with_unfolding_all exact rfl)|(simp only[new_n,put_n,new_m];omega)|(refine put_m_le ?_;simp only[new_m];omega)) only [res10,K10r0,K10r1,K10r2,K10r3,K10r4,K10r5,K10r6,K10r7,K10,Abs.W,reduceIte,Nat.reduceEqDiff,Nat.reduceAdd,decide_true,decide_false,kLoop_def,Nat.reduceSub,List.cons_append,List.nil_append,List.append_nil,List.length_cons,List.length_nil,Env.find_set,f8,f9,j9,j0,scb,Nat.zero_add]
  have okb:b1.Ok∧b1.stalls≤k∧b1.goods≤g:=⟨⟨by omega,by omega,by omega,by omega,by omega,jok⟩,by omega,by omega⟩
  refine ⟨.agg (bookV b1 v1),_,leave_cell _ _ _ _ sh3 ?_,⟨fun c hc hcd=>?_,by simp only [put_n];omega,by simp only [put_n];omega,fun _=>?_,?_⟩,⟨b1,v1,bl1,rfl,Die.keep jd (get_put_ne' _ _ _ _ (by omega)),okb,by omega,by omega,ji.mono (fun _=>get_put_ne' _ _ _ _ (by omega)) (by simp only [put_n];omega)⟩,fun hp=>?_⟩
  ·simp only [Env.find_set,f8,reduceIte,Nat.reduceEqDiff]
   rw [load_ptr,get_put_eq _ _ _ _ rfl (by omega),loadO_cells,partS_some]
   rfl
  ·rw [get_put_ne' _ _ _ _ (by omega),js c (by omega) hcd,base0 c hc hcd]
  ·have:=jm (by omega)
   simp only [St.put,minN_eq];omega
  ·simp only [St.put,minN_eq];omega
  ·have hv:v1=.nilslice∧b1.sales=[]:=by
    rcases ji.is with ⟨z,z2⟩ | ⟨_,_,z,_⟩
    ·exact ⟨z2,List.map_eq_nil_iff.mp z⟩
    ·subst z;simp [plain,plains,bookV] at hp
   exact ⟨b1,v1,s.n,rfl,hd',okb,by omega,Nat.le_refl _,by rw [hv.1,hv.2];exact IsAt.nil _ _ _ _ _⟩) (by omega)
 exact ⟨b,v',bl,t,hr.symm.trans e,st,hq1,hq2,hq3,hq4,hq5⟩
end Go.Proofs.Ytamlnddeiokbdaa.walk
set_option maxRecDepth 10000
namespace Go.Abs
structure StepsTo (l:List Step) (f:Int):Prop where
 f0:l.length=0→f=0
 z:0<l.length→(stepAt l 0).fr=0
 up:∀ i,i+1<l.length→(stepAt l i).fr<(stepAt l (i+1)).fr
 lt:∀ i,i<l.length→0≤(stepAt l i).fr∧(stepAt l i).fr<f
 p:0≤f
 le:f≤5000 * l.length
 s0:∀ i,i<l.length→0≤(stepAt l i).sh
 s1:∀ i,i<l.length→(stepAt l i).sh≤1000
theorem StepsTo.nil:StepsTo [] 0:=⟨fun _=>rfl,fun h=>absurd h (by simp),fun i h=>absurd h (by simp),fun i h=>absurd h (by simp),Int.le_refl _,by simp,fun i h=>absurd h (by simp),fun i h=>absurd h (by simp)⟩
theorem stepAt_old (l:List Step) (m:Step) {i:Nat} (h:i<l.length):stepAt (l++[m]) i=stepAt l i:=by
 unfold stepAt
 simp only [List.getD,List.getElem?_append_left h]
theorem stepAt_end (l:List Step) (m:Step):stepAt (l++[m]) l.length=m:=by
 unfold stepAt
 simp [List.getD]
theorem StepsTo.snoc {l:List Step} {f c x:Int} (h:StepsTo l f) (hc:0≤c∧c≤1000) (hx:1≤x∧x≤5000):StepsTo (l++[⟨f,c⟩]) (f+x):=by
 obtain ⟨f0,z,up,lt,p,le,s0,s1⟩:=h
 have hl:(l++[(⟨f,c⟩:Step)]).length=l.length+1:=by simp
 have last:∀ i,i<(l++[(⟨f,c⟩:Step)]).length→¬ i<l.length→i=l.length:=fun i h1 h2=>by omega
 refine ⟨fun h=>by omega,fun _=>?_,fun i hi=>?_,fun i hi=>?_,by omega,by omega,fun i hi=>?_,fun i hi=>?_⟩
 ·by_cases h:0<l.length
  ·rw [stepAt_old l _ h];exact z h
  ·have e:l=[]:=List.length_eq_zero_iff.mp (by omega)
   subst e
   show f=0
   exact f0 rfl
 ·by_cases h:i+1<l.length
  ·rw [stepAt_old l _ h,stepAt_old l _ (by omega)];exact up i h
  ·have e:i+1=l.length:=by omega
   rw [stepAt_old l _ (by omega),e,stepAt_end]
   exact (lt i (by omega)).2
 ·by_cases h:i<l.length
  ·rw [stepAt_old l _ h];have:=lt i h;omega
  ·rw [last i hi h,stepAt_end];show 0≤f∧f<f+x;omega
 ·by_cases h:i<l.length
  ·rw [stepAt_old l _ h];exact s0 i h
  ·rw [last i hi h,stepAt_end];exact hc.1
 ·by_cases h:i<l.length
  ·rw [stepAt_old l _ h];exact s1 i h
  ·rw [last i hi h,stepAt_end];exact hc.2
theorem StepsTo.ok {l:List Step} {f:Int} (h:StepsTo l f) (h0:1≤l.length) (h1:l.length≤4):StepsOk l :=
 ⟨h0,by omega,h.z (by omega),h.up,fun i hi=>by have:=h.lt i hi;have:=h.le;omega,h.s0,h.s1⟩
end Go.Abs
namespace Go.Proofs.Ytamlnddeiokbdaa.walk
open Go.Abs Go.Proofs.Ytamlnddeiokbdaa.code
structure StepsJ (u t:St) (d:Nat) (l:List Step) (v:AV) (bl kk:Nat):Prop where
 die:Die d t.h
 is:IsAt t.h t.n bl 2 (tag 75) (l.map Step.cells) v
 lo:u.n≤bl
 same:∀ c,c<u.n→c≠d→t.h.get c=u.h.get c
 n:u.n≤t.n
 le:t.n≤u.n+kk
 m:d≤t.m
 mle:t.m≤u.m
theorem steps_round (N:Nat) (hN:4≤N) (cx:Ctx) {d bl kk i:Nat} {l:List Step} {v:AV} {f:Int} {u t:St} {L:Env} (J:StepsJ u t d l v bl kk) (hT:StepsTo l f) (hl:l.length≤10) (hdu:d<u.n) (hs:u.n+kk+2000≤far) (hum:u.m≤far) (hi:i≤1000)
  (q0:L.find 0=.ptr d 0) (q5:L.find 5=v) (q6:L.find 6=.int .i64 f) (q7:L.find 7=.int .i64 (i+1:Nat)) :
  ∃ L1 t1 l1 v1 bl1 f1,K11l0 (call Try.prog X N) cx L [] t=.done .norm L1 [] t1∧StepsJ u t1 d l1 v1 bl1 (kk+5)∧StepsTo l1 f1∧l1.length=l.length+1∧L1.find 0=.ptr d 0∧L1.find 5=v1∧L1.find 6=.int .i64 f1∧L1.find 7=.int .i64 (i:Nat):=by
 have hf:far=1000000000:=rfl
 obtain ⟨jd,ji,jlo,js,jn,jle,jm,jml⟩:=J
 have tp:=hT.p
 have tle:=hT.le
 have e0:decide ((0:Int)<((i+1:Nat):Int))=true:=decide_eq_true (by omega)
 have kv:∀ t,okA (.val v t)=.val v t:=ji.okA
 have sb:∀ s,aSub s .i64 ((i+1:Nat):Int) 1=.val (.int .i64 (i:Int)) s:=fun s=>by rw [aSub_i64 s _ _ (by omega)];congr 2;omega
 simp (disch:=first|omega|(with_unfolding_all exact rfl)|(simp only[new_n,put_n,new_m];omega)|(refine put_m_le ?_;simp only[new_m];omega)) only [K11l0,K11r4,K11r5,Abs.W,reduceIte,Nat.reduceEqDiff,Nat.reduceAdd,decide_true,decide_false,kLoop_def,Nat.reduceSub,List.cons_append,List.nil_append,List.append_nil,List.length_cons,List.length_nil,Env.find_set,Nat.zero_add,q0,q5,q6,q7,kv,e0]
 generalize hc1:call _ _ _ (.fn 33) _ _=r1
 obtain ⟨c,t1,rfl,st1,d1,c0,c1⟩:=cast_ex hc1 (by omega) jd (by omega) (by omega) (by omega)
 have n1:t.n≤t1.n:=st1.n
 have k1:t1.n≤t.n:=st1.le
 have m1:d≤t1.m:=st1.m jm
 have l1:t1.m≤t.m:=st1.mle
 have g1:∀ c,c<t.n→c≠d→t1.h.get c=t.h.get c:=fun c hc hcd=>st1.same c hc hcd
 simp (disch:=first|omega|(with_unfolding_all exact rfl)|(simp only[new_n,put_n,new_m];omega)|(refine put_m_le ?_;simp only[new_m];omega)) only [Abs.W,reduceIte,Nat.reduceEqDiff,Nat.reduceAdd,decide_true,decide_false,kLoop_def,Nat.reduceSub,List.cons_append,List.nil_append,List.append_nil,List.length_cons,List.length_nil,Env.find_set,q0,q5,q6,q7,kv,Nat.zero_add]
 obtain ⟨y,hy⟩:∃ y:St,y=t1.new (.cells [.int .i64 f,.int .i64 c] 0):=⟨_,rfl⟩
 have yn:y.n=t1.n+1:=by rw [hy];rfl
 have ym:y.m=t1.m:=by rw [hy];rfl
 have yg:∀ c,c<t1.n→y.h.get c=t1.h.get c:=fun c hc=>by rw [hy,get_new_ne _ _ _ (by omega)]
 have yp:y.h.get t1.n=some (.cells [.int .i64 f,.int .i64 c] 0):=by rw [hy];exact get_new_eq _ _ _ rfl (by omega)
 have gy:∀ c,c<t.n→c≠d→y.h.get c=t.h.get c:=fun c hc hcd=>(yg c (by omega)).trans (g1 c hc hcd)
 obtain ⟨s7,e7,l7,s7n,s7g,s7m,s7l⟩:=append_at (bytes:=16) (ji.mono (h':=y.h) (n':=y.n) (fun h=>gy bl h (by omega)) (by omega)) yp rfl rfl (by rw [List.length_map];omega) (by kernel_rfl) (by omega)
 have hlen:(l.map Step.cells).length=l.length:=List.length_map ..
 rw [hlen] at e7 l7
 obtain ⟨v7,hv7⟩:∃ v7,v7=AV.slice y.n 0 (l.length+1) (l.length+1) true:=⟨_,rfl⟩
 rw [← hv7] at e7 l7
 rw [← hy]
 have kv7:∀ t,okA (.val v7 t)=.val v7 t:=fun t=>by rw [hv7];rfl
 simp (disch:=first|omega|(with_unfolding_all exact rfl)|(simp only[new_n,put_n,new_m];omega)|(refine put_m_le ?_;simp only[new_m];omega)) only [Abs.W,reduceIte,Nat.reduceEqDiff,Nat.reduceAdd,decide_true,decide_false,kLoop_def,Nat.reduceSub,List.cons_append,List.nil_append,List.append_nil,List.length_cons,List.length_nil,Env.find_set,e7,kv7,q0,q5,q6,q7,K11r6,Nat.zero_add]
 have d7:Die d s7.h:=Die.keep d1 ((s7g d (by omega) (by omega)).trans (yg d (by omega)))
 have m7:=s7m d (by omega) (by omega) (by omega)
 generalize hc2:call _ _ _ (.fn 32) _ _=r2
 obtain ⟨w,t2,rfl,st2,d2,hw⟩:=one_ex [5,100,5000] (b:=s7.n) (sz:=0) hc2 (by omega) (Die.keep d7 (get_new_ne _ _ _ (by omega))) (by rw [new_n];omega) (by rw [new_n];omega) (get_new_eq _ _ _ rfl (by omega)) (by rw [new_n];omega) (by omega) rfl (by omega) (by omega)
 have hw':5≤w∧w≤5000:=by simp at hw;omega
 have n2:s7.n+1≤t2.n:=st2.n
 have k2:t2.n≤s7.n+1+0:=st2.le
 have m2:d≤t2.m:=st2.m (by show d≤s7.m;omega)
 have l2:t2.m≤s7.m:=st2.mle
 have g2:∀ c,c<s7.n→c≠d→t2.h.get c=s7.h.get c:=fun c hc hcd=>(st2.same c (by rw [new_n];omega) hcd).trans (get_new_ne _ _ _ (by omega))
 simp (disch:=first|omega|(with_unfolding_all exact rfl)|(simp only[new_n,put_n,new_m];omega)|(refine put_m_le ?_;simp only[new_m];omega)) only [Abs.W,reduceIte,Nat.reduceEqDiff,Nat.reduceAdd,decide_true,decide_false,kLoop_def,Nat.reduceSub,List.cons_append,List.nil_append,List.append_nil,List.length_cons,List.length_nil,Env.find_set,q0,q6,Nat.zero_add]
 generalize hc3:call _ _ _ (.fn 31) _ _=r3
 obtain ⟨x,t3,rfl,st3,d3,x0,x1⟩:=from_ex hc3 (by omega) d2 (by omega) (by omega) (by omega) (by omega) (by omega) (by omega)
 have n3:t2.n≤t3.n:=st3.n
 have k3:t3.n≤t2.n+0:=st3.le
 have m3:d≤t3.m:=st3.m m2
 have l3:t3.m≤t2.m:=st3.mle
 have g3:∀ c,c<s7.n→c≠d→t3.h.get c=s7.h.get c:=fun c hc hcd=>(st3.same c (by omega) hcd).trans (g2 c hc hcd)
 have ad:∀ s,aAdd s .i64 f x=.val (.int .i64 (f+x)) s:=fun s=>aAdd_i64 s _ _ (by omega)
 simp (disch:=first|omega|(with_unfolding_all exact rfl)|(simp only[new_n,put_n,new_m];omega)|(refine put_m_le ?_;simp only[new_m];omega)) only [res11,K11r0,K11r1,K11r2,K11r3,K11r4,K11r5,K11r6,K11r7,K11r8,K11,Abs.W,reduceIte,Nat.reduceEqDiff,Nat.reduceAdd,decide_true,decide_false,kLoop_def,Nat.reduceSub,List.cons_append,List.nil_append,List.append_nil,List.length_cons,List.length_nil,Env.find_set,q6,q7,ad,sb,Nat.zero_add]
 have hcells:(l.map Step.cells)++[[.int .i64 f,.int .i64 c]]=(l++[(⟨f,c⟩:Step)]).map Step.cells:=by rw [List.map_append];rfl
 refine ⟨_,_,l++[⟨f,c⟩],v7,y.n,f+x,rfl,⟨d3,?_,by omega,fun c hc hcd=>?_,by omega,by omega,m3,by omega⟩,hT.snoc (by omega) (by omega),by simp,?_,?_,?_,?_⟩
 ·rw [← hcells]
  exact l7.mono (fun h=>g3 _ (by omega) (by omega)) (by omega)
 ·rw [g3 c (by omega) hcd,s7g c (by omega) (by omega),gy c (by omega) hcd]
  exact js c hc hcd
 ·simp only [Env.find_set,q0,reduceIte,Nat.reduceEqDiff]
 ·simp only [Env.find_set,reduceIte,Nat.reduceEqDiff]
 ·simp only [Env.find_set,reduceIte,Nat.reduceEqDiff]
 ·simp only [Env.find_set,reduceIte,Nat.reduceEqDiff]
theorem StepsOf_ex {N d:Nat} {s:St} {r:ARes} (hr:call Try.prog X N (.fn 11) [.ptr d 0,.int .i64 4] s=r) (hN:6≤N) (hd:Die d s.h) (hlt:d<s.n) (hs:s.n+6000≤far) :
  ∃ (l:List Step) (bl:Nat) (t:St),r=.val (.slice bl 0 l.length l.length true) t∧Stir d s t 100∧Die d t.h∧StepsOk l∧l.length≤4∧s.n≤bl∧bl<t.n∧t.h.get bl=some (.cells (l.map Step.cells).flatten (2+tag 75)):=by
 obtain ⟨m,rfl⟩:∃ m,N=m+1:=⟨N - 1,by omega⟩
 have hf:far=1000000000:=rfl
 obtain ⟨v,t,e,st,l,bl,rfl,hq1,hq2,hq3,hq4,hq5,hq6⟩:=call_stir (n:=m) (args:=[.ptr d 0,.int .i64 4]) (d:=d) (s:=s) (k:=100) (Q:=fun w h m=>∃ (l:List Step) (bl:Nat),w=.slice bl 0 l.length l.length true∧Die d h∧StepsOk l∧l.length≤4∧s.n≤bl∧bl<m∧h.get bl=some (.cells (l.map Step.cells).flatten (2+tag 75))) Try.func11 rfl (fun u uh un um=>by
  rw [← uh] at hd
  rw [← un] at hlt
  rw [enter11]
  simp (disch:=first|omega|(with_unfolding_all exact rfl)|(simp only[new_n,put_n,new_m];omega)|(refine put_m_le ?_;simp only[new_m];omega)) only [res11,K11r0,K11r1,K11r2,K11r3,K11r4,K11r5,K11r6,K11r7,K11r8,K11,Abs.W,reduceIte,Nat.reduceEqDiff,Nat.reduceAdd,decide_true,decide_false,kLoop_def,Nat.reduceSub,List.cons_append,List.nil_append,List.append_nil,List.length_cons,List.length_nil,Env.find_set]
  generalize hc1:call _ _ _ (.fn 31) _ _=r1
  obtain ⟨x1,t1,rfl,st1,d1,x10,x11⟩:=from_ex hc1 (by omega) hd (by omega) (by omega) (by omega) (by omega) (by omega) (by omega)
  have n1:=st1.n
  have k1:=st1.le
  have m1:=st1.m (by omega)
  have l1:=st1.mle
  obtain ⟨i,rfl⟩:∃ n:Nat,x1=n:=⟨x1.toNat,by omega⟩
  simp (disch:=first|omega|(with_unfolding_all exact rfl)|(simp only[new_n,put_n,new_m];omega)|(refine put_m_le ?_;simp only[new_m];omega)) only [res11,K11r0,K11r1,K11r2,K11r3,K11r4,K11r5,K11r6,K11r7,K11r8,K11,Abs.W,reduceIte,Nat.reduceEqDiff,Nat.reduceAdd,decide_true,decide_false,kLoop_def,Nat.reduceSub,List.cons_append,List.nil_append,List.append_nil,List.length_cons,List.length_nil,Env.find_set,Nat.zero_add]
  generalize hlp:loopN _ rounds _ _ _ _ _=rl
  have hJ:StepsJ t1 t1 d [] .nilslice t1.n (5 * 0):=⟨d1,IsAt.nil _ _ _ _ _,Nat.le_refl _,fun _ _ _=>rfl,Nat.le_refl _,by omega,m1,Nat.le_refl _⟩
  obtain ⟨e,L1,t2,rfl,rfl,l,v,bl,f,J,hT,hl,f5⟩:=loop_of hlp (fun j L' t'=>∃ l v bl f,StepsJ t1 t' d l v bl (5 * j)∧StepsTo l f∧l.length=j∧L'.find 0=.ptr d 0∧L'.find 5=v∧L'.find 6=.int .i64 f∧L'.find 7=.int .i64 ((i - j:Nat):Int))
   (fun e L' t'=>e=.exit 0∧∃ l v bl f,StepsJ t1 t' d l v bl (5 * i)∧StepsTo l f∧l.length=i∧L'.find 5=v) i (by unfold rounds;omega)
   ⟨[],.nilslice,t1.n,0,hJ,StepsTo.nil,rfl,by simp only [find_cons,Env.find_set,reduceIte,Nat.reduceEqDiff],by simp only [find_cons,Env.find_set,reduceIte,Nat.reduceEqDiff],by simp only [find_cons,Env.find_set,reduceIte,Nat.reduceEqDiff],by simp only [find_cons,Env.find_set,reduceIte,Nat.reduceEqDiff];rfl⟩
   (fun j L' t' hj ⟨l,v,bl,f,hJ,hT,hl,q0,q5,q6,q7⟩=>by
    by_cases hlt:j<i
    ·obtain ⟨L2,t2,l2,v2,bl2,f2,z1,z2,z3,z4,z5,z6,z7,z8⟩:=steps_round m (by omega) _ (i:=i - j - 1) hJ hT (by omega) (by omega) (by omega) (by omega) (by omega) q0 q5 q6 (by rw [q7,show i - j - 1+1=i - j by omega])
     exact .inl ⟨hlt,L2,t2,z1,l2,v2,bl2,f2,z2,z3,by omega,z5,z6,z7,z8.trans (by rw [show i - j - 1=i - (j+1) by omega])⟩
    ·obtain rfl:j=i:=by omega
     have e0:decide ((0:Int)<((0:Nat):Int))=false:=rfl
     rw [Nat.sub_self] at q7
     refine .inr ⟨.exit 0,L'.set 12 (.bool false),t',by simp,?_,rfl,l,v,bl,f,hJ,hT,hl,by simp only [Env.find_set,q5,reduceIte,Nat.reduceEqDiff]⟩
     simp (disch:=first|omega|(with_unfolding_all exact rfl)|(simp only[new_n,put_n,new_m];omega)|(refine put_m_le ?_;simp only[new_m];omega)) only [res11,K11r0,K11r1,K11r2,K11r3,K11r4,K11r5,K11r6,K11r7,K11r8,K11,K11l0,Abs.W,reduceIte,Nat.reduceEqDiff,Nat.reduceAdd,decide_true,decide_false,kLoop_def,Nat.reduceSub,List.cons_append,List.nil_append,List.append_nil,List.length_cons,List.length_nil,Env.find_set,q7,e0])
  obtain ⟨jd,ji,jlo,js,jn,jle,jm,jml⟩:=J
  have hne:l.map Step.cells≠[]:=fun h=>by
   have:l.length=0:=by rw [← List.length_map (f:=Step.cells),h];rfl
   omega
  obtain ⟨i1,i2,i3⟩:bl<t2.n∧v=.slice bl 0 l.length l.length true∧t2.h.get bl=some (.cells (l.map Step.cells).flatten (2+tag 75)):=by
   rcases ji.is with ⟨z,_⟩ | ⟨_,z1,z2,z3⟩
   ·exact absurd z hne
   ·rw [List.length_map] at z2;exact ⟨z1,z2,z3⟩
  subst i2
  simp (disch:=first|omega|(with_unfolding_all exact rfl)|(simp only[new_n,put_n,new_m];omega)|(refine put_m_le ?_;simp only[new_m];omega)) only [res11,K11r0,K11r1,K11r2,K11r3,K11r4,K11r5,K11r6,K11r7,K11r8,K11,Abs.W,reduceIte,Nat.reduceEqDiff,Nat.reduceAdd,decide_true,decide_false,kLoop_def,Nat.reduceSub,List.cons_append,List.nil_append,List.append_nil,List.length_cons,List.length_nil,Env.find_set,f5,Nat.zero_add]
  exact ⟨_,_,rfl,⟨fun c hc hcd=>(js c (by omega) hcd).trans (st1.same c hc hcd),by omega,by omega,fun _=>jm,by omega⟩,rfl,l,bl,rfl,jd,hT.ok (by omega) (by omega),by omega,by omega,i1,i3⟩) (by omega)
 exact ⟨l,bl,t,hr.symm.trans e,st,hq1,hq2,hq3,hq4,hq5,hq6⟩
end Go.Proofs.Ytamlnddeiokbdaa.walk
set_option maxRecDepth 10000
namespace Go.Abs
theorem over_none:∀ (o:Nat) (c:List AV),o≤c.length→over o [] c=some c
 | 0,c,_=>by cases c<;>rfl
 | o+1,[],h=>by simp at h
 | o+1,a::c,h=>by
  rw [over_cons]
  have ih:=over_none o c (by simpa using h)
  first | (rw [ih];rfl) | (rw [if_neg (by omega),show o+1 - 1=o by omega,ih];rfl)
theorem append_own {s:St} {m lo w bytes tg:Nat} {rows1 rows2:List (List AV)} {v1 v2:AV} (r1:Own s.h lo s.n w tg rows1 v1) (r2:Seq s.h m w rows2 v2) (hsc:∀ r ∈ rows2,scalars r=true) (hb:(rows1.length+rows2.length) * bytes≤1000000) (htg:szOf (w+tg)=w) (hs:s.n<549755813888) (hlo:lo≤s.n) :
  ∃ v' s',appendA false w bytes tg s v1 v2=.val v' s'∧Own s'.h lo s'.n w tg (rows1++rows2) v'∧s.n≤s'.n∧s'.n≤s.n+1∧(∀ c,c<lo→s'.h.get c=s.h.get c)∧(∀ k,k≤lo→k≤s.m→k≤s'.m)∧s'.m≤s.m∧(∀ c,c<s.n→(∀ o n k e,v1≠.slice c o n k e)→s'.h.get c=s.h.get c)∧(∀ q o n k e,v'=.slice q o n k e→q=s.n∨∃ o n k e,v1=.slice q o n k e):=by
 obtain ⟨e1,e2⟩:=r2.first
 have e3:Nat.beq rows2.flatten.length (rows2.length * w)=true:=by rw [flatten_len r2.wide];exact Nat.beq_refl _
 have h1:∀ x,appendA false w bytes tg s x v2=growA w bytes tg rows2.length rows2.flatten s x:=fun x=>by
  unfold appendA
  simp only [e1,e2,e3,scalars_flatten hsc]
 have wide:∀ x ∈ rows1++rows2,x.length=w:=fun x hx=>by
  rcases List.mem_append.mp hx with hx | hx
  ·exact r1.wide x hx
  ·exact r2.wide x hx
 rw [h1]
 rcases r1.is with ⟨rfl,rfl | ⟨p,h0,h3,rfl,h5⟩⟩ | ⟨hne,p,h0,h3,rfl,h5⟩
 ·by_cases h0:rows2=[]
  ·subst h0
   exact ⟨.nilslice,s,rfl,⟨wide,.inl ⟨rfl,.inl rfl⟩⟩,Nat.le_refl _,Nat.le_succ _,fun _ _=>rfl,fun _ _ h=>h,Nat.le_refl _,fun _ _ _=>rfl,fun _ _ _ _ _ h=>by cases h⟩
  ·have hpos:0<rows2.length:=List.length_pos_iff.mpr h0
   have e4:Nat.beq rows2.length 0=false:=nbeq_f (by omega)
   have e5:Nat.ble (rows2.length * bytes) limit=true:=Nat.ble_eq_true_of_le (by unfold limit;simpa using hb)
   unfold growA
   simp only [e4,e5,List.nil_append]
   exact ⟨_,_,rfl,⟨fun x hx=>r2.wide x hx,.inr ⟨h0,s.n,hlo,Nat.lt_succ_self _,rfl,get_new_eq _ _ _ rfl hs⟩⟩,Nat.le_succ _,Nat.le_refl _,fun b hb=>get_new_ne _ _ _ (by omega),fun _ _ h=>h,Nat.le_refl _,fun c hc _=>get_new_ne _ _ _ (by omega),fun _ _ _ _ _ h=>.inl (by injection h with h;exact h.symm)⟩
 ·unfold growA
  simp only [h5,Nat.zero_add,Nat.zero_mul]
  by_cases h0:rows2=[]
  ·subst h0
   refine ⟨.slice p 0 0 0 false,s.put p (.cells [] 0),rfl,⟨wide,.inl ⟨rfl,.inr ⟨p,by omega,h3,rfl,get_put_eq _ _ _ _ rfl (by omega)⟩⟩⟩,Nat.le_refl _,Nat.le_succ _,fun b hb=>?_,fun k hk hm=>?_,minN_le_left _ _,fun c hc hne=>get_put_ne' _ _ _ _ (fun e=>by subst e;exact hne _ _ _ _ rfl),fun _ _ _ _ _ h=>.inr (by injection h with h;subst h;exact ⟨_,_,_,_,rfl⟩)⟩
   ·exact get_put_ne' _ _ _ _ (by omega)
   ·show k≤minN s.m p
    rw [minN_min];omega
  ·have hpos:0<rows2.length:=List.length_pos_iff.mpr h0
   have e4:Nat.ble rows2.length 0=false:=by
    cases h:Nat.ble rows2.length 0 with
    | false=>rfl
    | true=>have:=Nat.le_of_ble_eq_true h;omega
   have e5:Nat.ble (rows2.length * bytes) limit=true:=Nat.ble_eq_true_of_le (by unfold limit;simpa using hb)
   have e6:cut 0 0 ([]:List AV)=some []:=rfl
   simp only [e4,e5,e6,List.nil_append]
   exact ⟨_,_,rfl,⟨fun x hx=>r2.wide x hx,.inr ⟨h0,s.n,by omega,Nat.lt_succ_self _,rfl,get_new_eq _ _ _ rfl hs⟩⟩,Nat.le_succ _,Nat.le_refl _,fun b hb=>get_new_ne _ _ _ (by omega),fun _ _ h=>h,Nat.le_refl _,fun c hc _=>get_new_ne _ _ _ (by omega),fun _ _ _ _ _ h=>.inl (by injection h with h;exact h.symm)⟩
 ·have hfl:=flatten_len r1.wide
  unfold growA
  simp only [h5]
  by_cases h0':rows2=[]
  ·subst h0'
   have e1:Nat.ble (rows1.length+([]:List (List AV)).length) rows1.length=true:=Nat.ble_eq_true_of_le (by simp)
   have e2:=over_none (0+rows1.length * w) rows1.flatten (by omega)
   simp only [e1,List.flatten_nil,e2]
   refine ⟨_,_,rfl,⟨wide,.inr ⟨by simpa using hne,p,by omega,h3,by simp,?_⟩⟩,Nat.le_refl _,Nat.le_succ _,fun b hb=>?_,fun k hk hm=>?_,minN_le_left _ _,fun c hc hne=>get_put_ne' _ _ _ _ (fun e=>by subst e;exact hne _ _ _ _ rfl),fun _ _ _ _ _ h=>.inr (by injection h with h;subst h;exact ⟨_,_,_,_,rfl⟩)⟩
   ·rw [List.append_nil];exact get_put_eq _ _ _ _ rfl (by omega)
   ·exact get_put_ne' _ _ _ _ (by omega)
   ·show k≤minN s.m p
    rw [minN_min];omega
  ·have hpos:0<rows2.length:=List.length_pos_iff.mpr h0'
   have e1:Nat.ble (rows1.length+rows2.length) rows1.length=false:=by
    cases h:Nat.ble (rows1.length+rows2.length) rows1.length with
    | false=>rfl
    | true=>have:=Nat.le_of_ble_eq_true h;omega
   have e2:Nat.ble ((rows1.length+rows2.length) * bytes) limit=true:=Nat.ble_eq_true_of_le hb
   simp only [e1,e2,hfl,htg,Nat.zero_add,List.drop_zero,and_self,if_true]
   refine ⟨_,_,rfl,⟨wide,.inr ⟨by simp [hne],s.n,hlo,Nat.lt_succ_self _,by simp,?_⟩⟩,Nat.le_succ _,Nat.le_refl _,fun c hc=>?_,fun k hk hm=>?_,minN_le_left _ _,fun c hc hne=>by rw [get_new_ne _ _ _ (by show c≠s.n;omega),St.kill_h,heap_set_ne _ _ _ _ (fun e=>by subst e;exact hne _ _ _ _ rfl)],fun _ _ _ _ _ h=>.inl (by injection h with h;exact h.symm)⟩
   ·rw [List.flatten_append];exact get_new_eq _ _ _ rfl hs
   ·rw [get_new_ne _ _ _ (by show c≠s.n;omega),St.kill_h,heap_set_ne _ _ _ _ (by omega)]
   ·show k≤minN s.m p
    rw [minN_min];omega
structure Past (u t:St) (k:Nat):Prop where
 same:∀ c,c<u.n→t.h.get c=u.h.get c
 n:u.n≤t.n
 le:t.n≤u.n+k
theorem Past.refl (u:St):Past u u 0:=⟨fun _ _=>rfl,Nat.le_refl _,Nat.le_refl _⟩
theorem Past.new {u t:St} {k:Nat} (h:Past u t k) (o:AObj):Past u (t.new o) (k+1):=⟨fun c hc=>by have:=h.n;rw [get_new_ne _ _ _ (by omega)];exact h.same c hc,by have:=h.n;rw [new_n];omega,by have:=h.le;rw [new_n];omega⟩
theorem Past.put {u t:St} {k b:Nat} (h:Past u t k) (o:AObj) (hb:u.n≤b):Past u (t.put b o) k:=⟨fun c hc=>by rw [get_put_ne' _ _ _ _ (by omega)];exact h.same c hc,h.n,h.le⟩
theorem Past.mono {u t:St} {j k:Nat} (h:Past u t j) (hk:j≤k):Past u t k:=⟨h.same,h.n,by have:=h.le;omega⟩
end Go.Abs
namespace Go.Proofs.Ytamlnddeiokbdaa.walk
open Go.Abs Go.Proofs.Ytamlnddeiokbdaa.code
theorem turnOf_app (hi:Bool) (k:Int):∀ (l r:List Sale),turnOf hi (l++r) k=turnOf hi l k+turnOf hi r k
 | [],r=>by show turnOf hi r k=0+turnOf hi r k;omega
 | M::l,r=>by
  show (if M.st=k then M.turn hi else 0)+turnOf hi (l++r) k=(if M.st=k then M.turn hi else 0)+turnOf hi l k+turnOf hi r k
  rw [turnOf_app hi k l r];omega
end Go.Proofs.Ytamlnddeiokbdaa.walk
