/- Dues: for each stall, from the low end to the high one. -/
import Derived.Test.YtamlnddeiokbdaaM2
import Derived.Test.YtamlnddeiokbdaaM1
import Derived.Test.YtamlnddeiokbdaaCodes
import Derived.Test.YtamlnddeiokbdaaWalkAll
set_option linter.unusedSimpArgs false
set_option maxHeartbeats 16000000
set_option linter.unusedVariables false
set_option maxRecDepth 10000
namespace Go.Proofs.Ytamlnddeiokbdaa.walk
open Go.Abs Go.Proofs.Ytamlnddeiokbdaa.code
theorem dues1_ok {N p q r sb sz st:Nat} {b:Book} {l:List Step} {v:AV} {s:St} (hi:Bool) (hN:5≤N) (ok:b.Ok) (oks:StepsOk l) (hp:s.h.get p=some (.cells (bookV b v) (tag 27))) (hq:s.h.get q=some (.cells [.int .i64 (st:Int)] (tag 3))) (hr:s.h.get r=some (.cells [.slice sb 0 l.length l.length true] (tag 29))) (hb:s.h.get sb=some (.cells (l.map Step.cells).flatten sz)) (hpn:p<s.n) (hqn:q<s.n) (hrn:r<s.n) (hbn:sb<s.n) (hB:RowsAt s.h s.n 6 (b.sales.map Sale.cells) v) (hs:s.n+6000≤far) :
  call Try.prog X N (.fn 39) (.agg (endV hi)::[.ptr p 0,.ptr q 0,.ptr r 0]) s=.val (.int .i64 (dueI l (turnOf hi b.sales st))) s:=by
 obtain ⟨n,rfl⟩:∃ n,N=n+1:=⟨N - 1,by omega⟩
 have hf:far=1000000000:=rfl
 refine call_plain' Try.func39 (fun u uh un um=>?_) rfl
 rw [← uh] at hp hq hr hb hB
 rw [← un] at hB hpn hqn hrn hbn hs
 have kv:∀ t,okA (.val v t)=.val v t:=fun t=>okA_ne hB.ne
 have scE:scalars (endV hi)=true:=by cases hi<;>rfl
 obtain ⟨w,hw⟩:∃ w:St,w=u.new (.cells (endV hi) (tag 82)):=⟨_,rfl⟩
 have wn:w.n=u.n+1:=by rw [hw];rfl
 have wm:w.m=far:=by rw [hw];exact um
 have wg:∀ c,c<u.n→w.h.get c=u.h.get c:=fun c hc=>by rw [hw,get_new_ne _ _ _ (by omega)]
 have w0:w.h.get u.n=some (.cells [hereV hi,hereV (!hi)] (tag 82)):=by rw [hw];exact get_new_eq _ _ _ rfl (by omega)
 have hR:=hB.grow wg (by omega:u.n≤w.n)
 have w1:=(wg p hpn).trans hp
 have w2:=(wg q hqn).trans hq
 have w3:=(wg r hrn).trans hr
 have w4:=(wg sb hbn).trans hb
 unfold bookV at w1
 rw [enter39]
 simp (disch:=first|omega|(with_unfolding_all exact rfl)|(simp only[new_n,put_n,new_m];omega)|(refine put_m_le ?_;simp only[new_m];omega)) only [K39,K39r0,res39,Abs.W,reduceIte,Nat.reduceEqDiff,Nat.reduceAdd,decide_true,decide_false,kLoop_def,Nat.reduceSub,List.cons_append,List.nil_append,List.append_nil,List.length_cons,List.length_nil,Env.find_set,scE,Nat.zero_add]
 rw [← hw]
 clear hw
 simp (disch:=first|omega|(with_unfolding_all exact rfl)|(simp only[new_n,put_n,new_m];omega)|(refine put_m_le ?_;simp only[new_m];omega)) only [K39r1,Abs.W,reduceIte,Nat.reduceEqDiff,Nat.reduceAdd,decide_true,decide_false,kLoop_def,Nat.reduceSub,List.cons_append,List.nil_append,List.append_nil,List.length_cons,List.length_nil,Env.find_set,w0,w1,kv,Nat.zero_add]
 generalize hc:call _ _ _ (.fn 41) _ _=r1
 obtain ⟨mb,t,rfl,st1,h1,h2,h3⟩:=turnovers_ex hi hc (by omega) ok.ok (hR) (by have:=ok.l;omega) (by show w.n+5000≤far;omega)
 have tm:t.m=far:=st1.m
 have tn:w.n≤t.n:=st1.n
 have tl:t.n≤w.n+1000:=st1.le
 rw [thenT_val _ _ _ _ _ _ _ _ (by omega)]
 have t2:=(st1.same q (by show q<w.n;omega)).trans w2
 have t3:=(st1.same r (by show r<w.n;omega)).trans w3
 have t4:=(st1.same sb (by show sb<w.n;omega)).trans w4
 have lk:∀ m,lookA .int (.int .i64 0) false ⟨t.h,t.n,m⟩ (.int .i64 (st:Int)) (.map mb)=.val (.int .i64 (turnOf hi b.sales st)) ⟨t.h,t.n,m⟩:=fun m=>by rw [look_map (sums hi b.sales) _ mb ⟨t.h,t.n,m⟩ h3,getP_sums]
 have tr:=turnOf_range hi (st:Int) b.sales ok.ok
 have bl:=ok.l
 have du:∀ m,call Try.prog X n (.fn 40) [.int .i64 (turnOf hi b.sales st),.slice sb 0 l.length l.length true] ⟨t.h,t.n,m⟩=.val (.int .i64 (dueI l (turnOf hi b.sales st))) ⟨t.h,t.n,m⟩:=fun m=>due_ok (by omega) oks (by omega) (by show sb<t.n;omega) t4 (by show t.n+1000≤far;omega)
 simp (disch:=first|omega|(with_unfolding_all exact rfl)|(simp only[new_n,put_n,new_m];omega)|(refine put_m_le ?_;simp only[new_m];omega)) only [Abs.W,reduceIte,Nat.reduceEqDiff,Nat.reduceAdd,decide_true,decide_false,kLoop_def,Nat.reduceSub,List.cons_append,List.nil_append,List.append_nil,List.length_cons,List.length_nil,Env.find_set,t2,t3,kLookE,lk,du,endO_nil,Nat.zero_add]
 refine ⟨_,rfl,?_⟩
 first | omega | (simp only [minN_eq];omega)
def dueRow (l:List Step) (sales:List Sale) (st:Nat):List AV:=[.int .i64 (dueI l (turnOf false sales st)),.int .i64 (dueI l (turnOf true sales st))]
def dueRows (l:List Step) (sales:List Sale) (k:Nat):List (List AV):=(List.range k).map (dueRow l sales)
theorem dueRows_snoc (l:List Step) (sales:List Sale) (k:Nat):dueRows l sales (k+1)=dueRows l sales k++[dueRow l sales k]:=by unfold dueRows;rw [List.range_succ,List.map_append];rfl
theorem dueRows_len (l:List Step) (sales:List Sale) (k:Nat):(dueRows l sales k).length=k:=by unfold dueRows;rw [List.length_map,List.length_range]
theorem dueRows_wide (l:List Step) (sales:List Sale) (k:Nat):∀ r ∈ dueRows l sales k,r.length=2:=by
 intro r hr
 obtain ⟨f,_,rfl⟩:=List.mem_map.mp hr
 rfl
theorem Dues_ex {N sb sz:Nat} {b:Book} {l:List Step} {v:AV} {s:St} {r:ARes} (hr:call Try.prog X N (.fn 12) [.agg (bookV b v),.slice sb 0 l.length l.length true] s=r) (hN:8≤N) (ok:b.Ok) (oks:StepsOk l) (hl:l.length≤5) (hb:s.h.get sb=some (.cells (l.map Step.cells).flatten sz)) (hbn:sb<s.n) (hB:RowsAt s.h s.n 6 (b.sales.map Sale.cells) v) (hs:s.n+8000≤far) :
  ∃ bd t,r=.val (.tup [.slice bd 0 b.stalls b.stalls false,.int .i64 0]) t∧New s t 100∧s.n≤bd∧bd<t.n∧t.h.get bd=some (.cells (dueRows l b.sales b.stalls).flatten 0):=by
 obtain ⟨n,rfl⟩:∃ n,N=n+1:=⟨N - 1,by omega⟩
 have hf:far=1000000000:=rfl
 obtain ⟨v',t,e,st,bd,rfl,h1,h2,h3⟩:=call_new (n:=n) (args:=[.agg (bookV b v),.slice sb 0 l.length l.length true]) (s:=s) (k:=100) (Q:=fun v' h m=>∃ bd,v'=.tup [.slice bd 0 b.stalls b.stalls false,.int .i64 0]∧s.n≤bd∧bd<m∧h.get bd=some (.cells (dueRows l b.sales b.stalls).flatten 0)) Try.func12 rfl (fun u uh un um=>by
  rw [← uh,← un] at hB
  rw [← uh] at hb
  rw [← un] at hs hbn
  rw [← un]
  have kv:∀ t,okA (.val v t)=.val v t:=fun t=>okA_ne hB.ne
  have scB:scalars (bookV b v)=true:=by
   have hv:v.scalar=true:=by
    have h:=hB.len u
    cases v<;>first | rfl | cases h
   show scalars [v]=true
   unfold scalars
   rw [hv]
   rfl
  have k0:=ok.k0
  have k1:=ok.k1
  have n0:=oks.n0
  obtain ⟨w,hw⟩:∃ w:St,w=(u.new (.cells (bookV b v) (tag 27))).new (.cells [.slice sb 0 l.length l.length true] (tag 29)):=⟨_,rfl⟩
  have wn:w.n=u.n+2:=by rw [hw];rfl
  have wm:w.m=far:=by rw [hw];exact um
  have wg:∀ c,c<u.n→w.h.get c=u.h.get c:=fun c hc=>by rw [hw,get_new_ne _ _ _ (by simp only [new_n];omega),get_new_ne _ _ _ (by omega)]
  have w0:w.h.get u.n=some (.cells (bookV b v) (tag 27)):=by rw [hw,get_new_ne _ _ _ (by simp only [new_n];omega)];exact get_new_eq _ _ _ rfl (by omega)
  have w1:w.h.get (u.n+1)=some (.cells [.slice sb 0 l.length l.length true] (tag 29)):=by rw [hw];exact get_new_eq _ _ _ rfl (by simp only [new_n];omega)
  have hW:Beside u w 2:=by rw [hw];exact ((Beside.refl u (by omega) um).new _).new _
  have hR:=hB.grow wg (by omega:u.n≤w.n)
  have wb:=(wg sb hbn).trans hb
  have hck:=fun m=>check_ok n (by omega) b ok v ⟨w.h,w.n,m⟩ hR (by show w.n+4000≤far;omega)
  have hcs:=fun m=>checkSteps_ok (N:=n) (s:=⟨w.h,w.n,m⟩) (by omega) oks hl (by show sb<w.n;omega) wb (by show w.n+1000≤far;omega)
  have hcs':call Try.prog X n (.fn 37) [.slice sb 0 l.length l.length true] w=.val (.int .i64 0) w:=hcs w.m
  have z0:decide ((0:Int)=0)=true:=rfl
  have w0':=w0
  unfold bookV at w0 hw scB hck
  rw [enter12]
  unfold bookV
  simp (disch:=first|omega|(with_unfolding_all exact rfl)|(simp only[new_n,put_n,new_m];omega)|(refine put_m_le ?_;simp only[new_m];omega)) only [K12,K12r0,Abs.W,reduceIte,Nat.reduceEqDiff,Nat.reduceAdd,decide_true,decide_false,kLoop_def,Nat.reduceSub,List.cons_append,List.nil_append,List.append_nil,List.length_cons,List.length_nil,scB,Nat.zero_add]
  rw [← hw]
  clear hw
  simp (disch:=first|omega|(with_unfolding_all exact rfl)|(simp only[new_n,put_n,new_m];omega)|(refine put_m_le ?_;simp only[new_m];omega)) only [K12r1,K12r2,K12r4,Abs.W,reduceIte,Nat.reduceEqDiff,Nat.reduceAdd,decide_true,decide_false,kLoop_def,Nat.reduceSub,List.cons_append,List.nil_append,List.append_nil,List.length_cons,List.length_nil,Env.find_set,new_n,w0,w1,kv,scB,hck,hck w.m,hcs,hcs',or_new2,z0,endO_nil,Nat.zero_add,kMake_def]
  have mk:=fun s=>make_rows [.int .i64 0,.int .i64 0] 16 b.stalls s (by omega) (by omega)
  simp (disch:=first|omega|(with_unfolding_all exact rfl)|(simp only[new_n,put_n,new_m];omega)|(refine put_m_le ?_;simp only[new_m];omega)) only [Abs.W,reduceIte,Nat.reduceEqDiff,Nat.reduceAdd,decide_true,decide_false,kLoop_def,Nat.reduceSub,List.cons_append,List.nil_append,List.append_nil,List.length_cons,List.length_nil,Env.find_set,mk,new_n]
  obtain ⟨x,hx⟩:∃ x:St,x=(w.new (.cells [AV.int .i64 0,.int .i64 0] 0)).new (.cells (List.replicate b.stalls [AV.int .i64 0,.int .i64 0]).flatten 0):=⟨_,rfl⟩
  rw [← hx]
  have xn:x.n=w.n+2:=by rw [hx];rfl
  have xm:x.m=far:=by rw [hx];exact wm
  have xg:∀ c,c<w.n→x.h.get c=w.h.get c:=fun c hc=>by rw [hx,get_new_ne _ _ _ (by simp only [new_n];omega),get_new_ne _ _ _ (by omega)]
  have xd:x.h.get (w.n+1)=some (.cells (fillRows b.stalls [AV.int .i64 0,.int .i64 0] (dueRows l b.sales 0)).flatten 0):=by rw [hx];exact get_new_eq _ _ _ rfl (by simp only [new_n];omega)
  have hX:Beside u x (4+1 * 0):=by rw [hx];exact ((hW.new _).new _).mono (by omega)
  clear hx
  simp (disch:=first|omega|(with_unfolding_all exact rfl)|(simp only[new_n,put_n,new_m];omega)|(refine put_m_le ?_;simp only[new_m];omega)) only [K12r5,Abs.W,reduceIte,Nat.reduceEqDiff,Nat.reduceAdd,decide_true,decide_false,kLoop_def,Nat.reduceSub,List.cons_append,List.nil_append,List.append_nil,List.length_cons,List.length_nil,Env.find_set]
  generalize hl1:loopN _ rounds _ _ _ _ _=q1
  obtain ⟨e,L1,s1,rfl,rfl,g7,hE,g1,g2⟩:=loop_of hl1
   (fun i L' t=>L'.find 2=.ptr u.n 0∧L'.find 3=.ptr (u.n+1) 0∧L'.find 7=.slice (w.n+1) 0 b.stalls b.stalls false∧L'.find 22=.int .i64 (b.stalls:Int)∧L'.find 23=.int .i64 i∧Beside u t (4+1 * i)∧w.n+1<t.n ∧
    t.h.get u.n=some (.cells [.int .i64 b.stalls,.int .i64 b.goods,v] (tag 27))∧t.h.get (u.n+1)=some (.cells [.slice sb 0 l.length l.length true] (tag 29))∧t.h.get (w.n+1)=some (.cells (fillRows b.stalls [AV.int .i64 0,.int .i64 0] (dueRows l b.sales i)).flatten 0))
   (fun e L1 s1=>e=.exit 0∧L1.find 7=.slice (w.n+1) 0 b.stalls b.stalls false∧Beside u s1 (4+1 * b.stalls)∧w.n+1<s1.n∧s1.h.get (w.n+1)=some (.cells (dueRows l b.sales b.stalls).flatten 0))
   b.stalls (by unfold rounds;omega) ⟨by simp only [find_cons,Env.find_set,reduceIte,Nat.reduceEqDiff],by simp only [find_cons,Env.find_set,reduceIte,Nat.reduceEqDiff],by simp only [find_cons,Env.find_set,reduceIte,Nat.reduceEqDiff],by simp only [find_cons,Env.find_set,reduceIte,Nat.reduceEqDiff],by simp only [find_cons,Env.find_set,reduceIte,Nat.reduceEqDiff];rfl,hX,by omega,(xg u.n (by omega)).trans w0,(xg (u.n+1) (by omega)).trans w1,xd⟩
   (fun i L' t hi ⟨q2,q3,q7,q22,q23,hE,hn,t0,t1,td⟩=>by
    have tn:=hE.n
    have tl:=hE.le
    have tm:=hE.m
    have tf:=hE.far
    by_cases hlt:i<b.stalls
    ·have e0:decide ((i:Int)<(b.stalls:Int))=true:=decide_eq_true (by omega)
     have ix:∀ s,ixsA 2 s (.slice (w.n+1) 0 b.stalls b.stalls false) (.int .i64 (i:Int))=.val (.ptr (w.n+1) (i * 2)) s:=fun s=>by rw [ixs_slice _ _ _ _ _ _ _ _ hlt,Nat.zero_add]
     have ad:∀ s,aAdd s .i64 (i:Int) 1=.val (.int .i64 ((i:Int)+1)) s:=fun s=>aAdd_i64 s _ _ (by omega)
     obtain ⟨y,hy⟩:∃ y:St,y=(t.new (.cells [.int .i64 0] (tag 3))).put t.n (.cells [.int .i64 (i:Int)] (tag 3)):=⟨_,rfl⟩
     have yn:y.n=t.n+1:=by rw [hy];rfl
     have yg:∀ c,c<t.n→y.h.get c=t.h.get c:=fun c hc=>by rw [hy,get_put_ne' _ _ _ _ (by omega),get_new_ne _ _ _ (by omega)]
     have yt:y.h.get t.n=some (.cells [.int .i64 (i:Int)] (tag 3)):=by rw [hy];exact get_put_eq _ _ _ _ rfl (by omega)
     have ym:u.n≤y.m∧y.m≤far:=by rw [hy];simp only [St.put,minN_eq,new_m];omega
     have hY:Beside u y (4+1 * (i+1)):=by rw [hy];exact ((hE.new _).put _ tn).mono (by omega)
     have yb:=(hY.same sb hbn).trans hb
     have hRy:=hB.grow hY.same hY.n
     have bt:∀ m,call Try.prog X n (.fn 38) [.func 39 [] [.ptr u.n 0,.ptr t.n 0,.ptr (u.n+1) 0]] ⟨y.h,y.n,m⟩=.val (.agg [.int .i64 (dueI l (turnOf false b.sales i)),.int .i64 (dueI l (turnOf true b.sales i))]) ⟨y.h,y.n,m⟩:=fun m =>
      between_ok _ _ (by omega) (fun e t' ht h3 h4=>by
       have h3':y.n≤t'.n:=h3
       have h4':t'.n≤y.n+10:=h4
       have hxt:∀ c,c<y.n→t'.h.get c=y.h.get c:=fun c hc=>ht c hc
       have:=dues1_ok (N:=n - 1) (p:=u.n) (q:=t.n) (r:=u.n+1) (sb:=sb) (sz:=sz) (st:=i) (s:=t') e (by omega) ok oks ((hxt u.n (by omega)).trans ((yg u.n (by omega)).trans t0)) ((hxt t.n (by omega)).trans yt) ((hxt (u.n+1) (by omega)).trans ((yg (u.n+1) (by omega)).trans t1)) ((hxt sb (by omega)).trans yb) (by omega) (by omega) (by omega) (by omega) ((hB.grow (h':=t'.h) (n':=t'.n) (fun c hc=>(hxt c (by omega)).trans (hY.same c hc)) (by omega))) (by omega)
       cases e<;>exact this) (by show y.n+100≤far;omega)
     have yd:=(yg (w.n+1) hn).trans td
     have ov:=fillRows_over (n:=b.stalls) (w:=2) (z:=[AV.int .i64 0,.int .i64 0]) (row:=dueRow l b.sales i) (l:=dueRows l b.sales i) rfl (dueRows_wide l b.sales i) rfl (by rw [dueRows_len];exact hlt)
     rw [dueRows_len,← dueRows_snoc] at ov
     unfold dueRow at ov
     suffices hgo:∃ L1 t9,K12l0 (call Try.prog X n) ⟨12,none,Try.f12.ntmps,X 12⟩ L' [] t=.done .norm L1 [] t9∧(L1.find 2=.ptr u.n 0∧L1.find 3=.ptr (u.n+1) 0∧L1.find 7=.slice (w.n+1) 0 b.stalls b.stalls false∧L1.find 22=.int .i64 (b.stalls:Int)∧L1.find 23=.int .i64 ((i+1:Nat):Int)∧Beside u t9 (4+1 * (i+1))∧w.n+1<t9.n ∧
       t9.h.get u.n=some (.cells [.int .i64 b.stalls,.int .i64 b.goods,v] (tag 27))∧t9.h.get (u.n+1)=some (.cells [.slice sb 0 l.length l.length true] (tag 29))∧t9.h.get (w.n+1)=some (.cells (fillRows b.stalls [AV.int .i64 0,.int .i64 0] (dueRows l b.sales (i+1))).flatten 0)) from by
      obtain ⟨L9,t9,z1,z2⟩:=hgo
      exact .inl ⟨hlt,L9,t9,z1,z2⟩
     simp (disch:=first|omega|(with_unfolding_all exact rfl)|(simp only[new_n,put_n,new_m];omega)|(refine put_m_le ?_;simp only[new_m];omega)) only [K12l0,K12r6,K12r7,Abs.W,reduceIte,Nat.reduceEqDiff,Nat.reduceAdd,decide_true,decide_false,kLoop_def,Nat.reduceSub,List.cons_append,List.nil_append,List.append_nil,List.length_cons,List.length_nil,Env.find_set,q2,q3,q7,q22,q23,e0,Nat.zero_add]
     rw [← hy]
     clear hy
     simp (disch:=first|omega|(with_unfolding_all exact rfl)|(simp only[new_n,put_n,new_m];omega)|(refine put_m_le ?_;simp only[new_m];omega)) only [K12r8,K12r9,Abs.W,reduceIte,Nat.reduceEqDiff,Nat.reduceAdd,decide_true,decide_false,kLoop_def,Nat.reduceSub,List.cons_append,List.nil_append,List.append_nil,List.length_cons,List.length_nil,Env.find_set,q2,q3,q7,q22,q23,yt,yd,kFuncE',okA_fnv,bt,bt y.m,ix,ov,ad,endO_nil,Nat.zero_add]
     refine ⟨_,_,rfl,?_,?_,?_,?_,?_,hY.put _ (by omega),?_,?_,?_,?_⟩
     ·simp only [Env.find_set,q2,reduceIte,Nat.reduceEqDiff]
     ·simp only [Env.find_set,q3,reduceIte,Nat.reduceEqDiff]
     ·simp only [Env.find_set,q7,reduceIte,Nat.reduceEqDiff]
     ·simp only [Env.find_set,q22,reduceIte,Nat.reduceEqDiff]
     ·simp only [Env.find_set,reduceIte,Nat.reduceEqDiff];rfl
     ·simp only [put_n];omega
     ·rw [get_put_ne' _ _ _ _ (by omega)];exact (yg u.n (by omega)).trans t0
     ·rw [get_put_ne' _ _ _ _ (by omega)];exact (yg (u.n+1) (by omega)).trans t1
     ·exact get_put_eq _ _ _ _ rfl (by omega)
    ·obtain rfl:i=b.stalls:=by omega
     have e0:decide ((b.stalls:Int)<(b.stalls:Int))=false:=by simp
     rw [fillRows_full (dueRows_len l b.sales b.stalls)] at td
     refine .inr ⟨.exit 0,L'.set 24 (.bool false),t,by simp,?_,rfl,by simp only [Env.find_set,q7,reduceIte,Nat.reduceEqDiff],hE,hn,td⟩
     simp (disch:=first|omega|(with_unfolding_all exact rfl)|(simp only[new_n,put_n,new_m];omega)|(refine put_m_le ?_;simp only[new_m];omega)) only [K12l0,K12r6,Abs.W,reduceIte,Nat.reduceEqDiff,Nat.reduceAdd,decide_true,decide_false,kLoop_def,Nat.reduceSub,List.cons_append,List.nil_append,List.append_nil,List.length_cons,List.length_nil,Env.find_set,q22,q23,e0])
  simp (disch:=first|omega|(with_unfolding_all exact rfl)|(simp only[new_n,put_n,new_m];omega)|(refine put_m_le ?_;simp only[new_m];omega)) only [res12,K12r0,K12r1,K12r2,K12r3,K12r4,K12r5,K12r6,K12r7,K12r8,K12r9,K12r10,K12,Abs.W,reduceIte,Nat.reduceEqDiff,Nat.reduceAdd,decide_true,decide_false,kLoop_def,Nat.reduceSub,List.cons_append,List.nil_append,List.append_nil,List.length_cons,List.length_nil,Env.find_set,g7]
  have hv:oneA [Env.find 4 (Env.set 5 (AV.int IntKind.i64 0) (Env.set 4 (AV.slice (w.n+1) 0 b.stalls b.stalls false) L1)),Env.find 5 (Env.set 5 (AV.int IntKind.i64 0) (Env.set 4 (AV.slice (w.n+1) 0 b.stalls b.stalls false) L1))]=AV.tup [.slice (w.n+1) 0 b.stalls b.stalls false,.int .i64 0]:=by
   simp only [Env.find_set,reduceIte,Nat.reduceEqDiff]
   rfl
  exact ⟨_,_,rfl,hE.mono (by omega),by first | rfl | (rw [hv];rfl),w.n+1,hv,by omega,g1,g2⟩)
 exact ⟨bd,t,hr.symm.trans e,st,h1,h2,h3⟩
end Go.Proofs.Ytamlnddeiokbdaa.walk
namespace Go.Proofs.Ytamlnddeiokbdaa.walk
open Go.Abs Go.Proofs.Ytamlnddeiokbdaa.code
theorem perm_range:∀ (n:Nat) (f:List Nat),f.length=n→(∀ j,j<n→j ∈ f)→List.Perm f (List.range n)
 | 0,f,h,_=>by
  have:f=[]:=List.length_eq_zero_iff.mp h
  subst this
  exact List.Perm.nil
 | n+1,f,h,ha=>by
  have hn:=ha n (Nat.lt_succ_self n)
  have h1:=List.perm_cons_erase hn
  have h2:=perm_range n (f.erase n) (by rw [List.length_erase_of_mem hn];omega) (fun j hj=>(List.mem_erase_of_ne (by omega)).mpr (ha j (by omega)))
  rw [List.range_succ]
  exact h1.trans ((List.Perm.cons n h2).trans (List.perm_append_comm (l₁:=[n]) (l₂:=List.range n)))
section
variable {l r:List Sale}
end
end Go.Proofs.Ytamlnddeiokbdaa.walk
namespace Go.Proofs.Ytamlnddeiokbdaa.walk
open Go.Abs Go.Proofs.Ytamlnddeiokbdaa.code
abbrev Sold:=Sale × (Int × Int)
def allG (g:Int):List Sold→Int
 | []=>0
 | z::r=>(if z.1.gd=g then z.2.1 else 0)+allG g r
def uptoZ (g p:Int):List Sold→Int
 | []=>0
 | z::r=>(if z.1.gd=g∧z.2.2≤p then z.2.1 else 0)+uptoZ g p r
def takeZ (k:Int):List Sold→Int
 | []=>0
 | z::r=>(if z.1.st=k then z.2.1 * z.2.2 / 1000 else 0)+takeZ k r
def fairStep (g all:Int) (Z:List Sold) (st:Int × Bool) (z:Sold):Int × Bool :=
 if z.1.gd≠g∨(st.2=true∧st.1≤z.2.2) then st else if all≤2 * uptoZ g z.2.2 Z then (z.2.2,true) else st
def fairTo (g:Int) (Z:List Sold) (l:List Sold):Int × Bool:=l.foldl (fairStep g (allG g Z) Z) (0,false)
def fairI (g:Int) (Z:List Sold):Int × Bool:=if allG g Z=0 then (0,false) else fairTo g Z Z
structure Sold.Ok (z:Sold):Prop where
 g0:0≤z.1.gl
 g1:z.1.gl≤z.2.1
 g2:z.2.1≤z.1.gh
 g3:z.1.gh≤5000
 c0:0≤z.1.cl
 c1:z.1.cl≤z.2.2
 c2:z.2.2≤z.1.ch
 c3:z.1.ch≤2000
def AllOk (Z:List Sold):Prop:=∀ z ∈ Z,Sold.Ok z
theorem AllOk.tail {z:Sold} {Z:List Sold} (h:AllOk (z::Z)):AllOk Z:=fun x hx=>h x (List.mem_cons_of_mem _ hx)
theorem AllOk.left {l r:List Sold} (h:AllOk (l++r)):AllOk l:=fun x hx=>h x (List.mem_append_left _ hx)
theorem all_range (g:Int):∀ Z:List Sold,AllOk Z→0≤allG g Z∧allG g Z≤5000 * Z.length
 | [],_=>by unfold allG;simp
 | z::r,h=>by
  obtain ⟨a,b⟩:=all_range g r h.tail
  have:=h z (List.mem_cons_self ..)
  obtain ⟨g0,g1,g2,g3,_,_,_,_⟩:=this
  unfold allG
  rw [List.length_cons]
  split<;>omega
theorem upto_mono (g:Int) {p q:Int} (hpq:p≤q):∀ Z:List Sold,AllOk Z→uptoZ g p Z≤uptoZ g q Z
 | [],_=>Int.le_refl _
 | z::r,h=>by
  have a:=upto_mono g hpq r h.tail
  obtain ⟨g0,g1,g2,g3,_,_,_,_⟩:=h z (List.mem_cons_self ..)
  unfold uptoZ
  by_cases h1:z.1.gd=g
  ·by_cases h2:z.2.2≤p
   ·rw [if_pos ⟨h1,h2⟩,if_pos ⟨h1,by omega⟩];omega
   ·rw [if_neg (fun h=>h2 h.2)]
    split<;>omega
  ·rw [if_neg (fun h=>h1 h.1),if_neg (fun h=>h1 h.1)];omega
theorem upto_same (g:Int) {p q:Int}:∀ Z:List Sold,(∀ z ∈ Z,z.1.gd=g→(z.2.2≤p↔z.2.2≤q))→uptoZ g p Z=uptoZ g q Z
 | [],_=>rfl
 | z::r,h=>by
  have a:=upto_same g r (fun x hx=>h x (List.mem_cons_of_mem _ hx))
  have c:=h z (List.mem_cons_self ..)
  unfold uptoZ
  rw [a]
  congr 1
  by_cases h1:z.1.gd=g
  ·by_cases h2:z.2.2≤p
   ·rw [if_pos ⟨h1,h2⟩,if_pos ⟨h1,(c h1).mp h2⟩]
   ·rw [if_neg (fun h=>h2 h.2),if_neg (fun h=>h2 ((c h1).mpr h.2))]
  ·rw [if_neg (fun h=>h1 h.1),if_neg (fun h=>h1 h.1)]
theorem upto_some (g p:Int):∀ Z:List Sold,AllOk Z→0<uptoZ g p Z→∃ z ∈ Z,z.1.gd=g∧z.2.2≤p∧0<z.2.1
 | [],_,h=>absurd h (by unfold uptoZ;omega)
 | z::r,ok,h=>by
  unfold uptoZ at h
  by_cases h1:z.1.gd=g∧z.2.2≤p∧0<z.2.1
  ·exact ⟨z,List.mem_cons_self ..,h1⟩
  ·obtain ⟨g0,g1,g2,g3,_,_,_,_⟩:=ok z (List.mem_cons_self ..)
   have:(if z.1.gd=g∧z.2.2≤p then z.2.1 else 0)≤0:=by
    split
    ·rename_i h2
     have:¬ 0<z.2.1:=fun h3=>h1 ⟨h2.1,h2.2,h3⟩
     omega
    ·omega
   obtain ⟨x,hx,hh⟩:=upto_some g p r ok.tail (by omega)
   exact ⟨x,List.mem_cons_of_mem _ hx,hh⟩
theorem fair_fold (g all:Int) (Z:List Sold):∀ (r:List Sold) (st:Int × Bool),
  (st.2=true→(r.foldl (fairStep g all Z) st).2=true∧(r.foldl (fairStep g all Z) st).1≤st.1) ∧
  (∀ z ∈ r,z.1.gd=g→all≤2 * uptoZ g z.2.2 Z→(r.foldl (fairStep g all Z) st).2=true∧(r.foldl (fairStep g all Z) st).1≤z.2.2) ∧
  (r.foldl (fairStep g all Z) st=st∨∃ z ∈ r,z.1.gd=g∧all≤2 * uptoZ g z.2.2 Z∧r.foldl (fairStep g all Z) st=(z.2.2,true))
 | [],st=>⟨fun h=>⟨h,Int.le_refl _⟩,fun z hz=>absurd hz (by simp),Or.inl rfl⟩
 | a::r,st=>by
  obtain ⟨h1,h2,h3⟩:=fair_fold g all Z r (fairStep g all Z st a)
  rw [List.foldl_cons]
  have k1:st.2=true→(fairStep g all Z st a).2=true∧(fairStep g all Z st a).1≤st.1:=fun h=>by
   unfold fairStep
   by_cases c:a.1.gd≠g∨(st.2=true∧st.1≤a.2.2)
   ·rw [if_pos c];exact ⟨h,Int.le_refl _⟩
   ·rw [if_neg c]
    have:¬ st.1≤a.2.2:=fun hh=>c (.inr ⟨h,hh⟩)
    split
    ·exact ⟨rfl,by show a.2.2≤st.1;omega⟩
    ·exact ⟨h,Int.le_refl _⟩
  have k2:a.1.gd=g→all≤2 * uptoZ g a.2.2 Z→(fairStep g all Z st a).2=true∧(fairStep g all Z st a).1≤a.2.2:=fun h hh=>by
   unfold fairStep
   by_cases c:a.1.gd≠g∨(st.2=true∧st.1≤a.2.2)
   ·rw [if_pos c]
    rcases c with c | c
    ·exact absurd h c
    ·exact c
   ·rw [if_neg c,if_pos hh];exact ⟨rfl,Int.le_refl _⟩
  refine ⟨fun h=>?_,fun z hz hg hh=>?_,?_⟩
  ·obtain ⟨a1,a2⟩:=k1 h
   obtain ⟨b1,b2⟩:=h1 a1
   exact ⟨b1,Int.le_trans b2 a2⟩
  ·rcases List.mem_cons.mp hz with rfl | hz
   ·obtain ⟨a1,a2⟩:=k2 hg hh
    obtain ⟨b1,b2⟩:=h1 a1
    exact ⟨b1,Int.le_trans b2 a2⟩
   ·exact h2 z hz hg hh
  ·rcases h3 with h3 | ⟨z,hz,q1,q2,q3⟩
   ·rw [h3]
    unfold fairStep
    by_cases c:a.1.gd≠g∨(st.2=true∧st.1≤a.2.2)
    ·rw [if_pos c];exact .inl rfl
    ·rw [if_neg c]
     by_cases hh:all≤2 * uptoZ g a.2.2 Z
     ·rw [if_pos hh]
      have:a.1.gd=g:=Decidable.byContradiction fun h=>c (.inl h)
      exact .inr ⟨a,List.mem_cons_self ..,this,hh,rfl⟩
     ·rw [if_neg hh];exact .inl rfl
   ·exact .inr ⟨z,List.mem_cons_of_mem _ hz,q1,q2,q3⟩
theorem greatest_z (f:Sold→Int):∀ (l:List Sold),l≠[]→∃ s ∈ l,∀ t ∈ l,f t≤f s
 | [],h=>absurd rfl h
 | [a],_=>⟨a,List.mem_cons_self ..,fun t ht=>by rw [List.mem_singleton.mp ht];exact Int.le_refl _⟩
 | a::b::r,_=>by
  obtain ⟨s,hs,h⟩:=greatest_z f (b::r) (by simp)
  by_cases g:f s≤f a
  ·exact ⟨a,List.mem_cons_self ..,fun t ht=>by
    rcases List.mem_cons.mp ht with rfl | ht
    ·exact Int.le_refl _
    ·exact Int.le_trans (h t ht) g⟩
  ·exact ⟨s,List.mem_cons_of_mem _ hs,fun t ht=>by
    rcases List.mem_cons.mp ht with rfl | ht
    ·omega
    ·exact h t ht⟩
theorem fair_upTo {g:Int} {Z:List Sold} (ok:AllOk Z) (ha:0<allG g Z) {q:Int} (h:allG g Z≤2 * uptoZ g q Z):(fairI g Z).2=true∧(fairI g Z).1≤q:=by
 obtain ⟨z,hz,z1,z2,_⟩:=upto_some g q Z ok (by omega)
 have hm:z ∈ Z.filter (fun t=>decide (t.1.gd=g) && decide (t.2.2≤q)):=List.mem_filter.mpr ⟨hz,by rw [decide_eq_true z1,decide_eq_true z2];rfl⟩
 obtain ⟨m,mm,mg⟩:=greatest_z (fun t=>t.2.2) (Z.filter (fun t=>decide (t.1.gd=g) && decide (t.2.2≤q))) (fun h0=>by rw [h0] at hm;cases hm)
 obtain ⟨m1,m2⟩:=List.mem_filter.mp mm
 obtain ⟨m3,m4⟩:=Bool.and_eq_true_iff.mp m2
 have m3:=of_decide_eq_true m3
 have m4:=of_decide_eq_true m4
 have e:=upto_same g (p:=m.2.2) (q:=q) Z (fun t ht hg=>⟨fun h=>Int.le_trans h m4,fun h=>mg t (List.mem_filter.mpr ⟨ht,by rw [decide_eq_true hg,decide_eq_true h];rfl⟩)⟩)
 obtain ⟨a1,a2⟩:=(fair_fold g (allG g Z) Z Z (0,false)).2.1 m m1 m3 (by rw [e];exact h)
 unfold fairI
 rw [if_neg (by omega)]
 exact ⟨a1,Int.le_trans a2 m4⟩
theorem upto_all (g q:Int):∀ Z:List Sold,(∀ z ∈ Z,z.2.2≤q)→uptoZ g q Z=allG g Z
 | [],_=>rfl
 | z::r,h=>by
  unfold uptoZ allG
  rw [upto_all g q r (fun x hx=>h x (List.mem_cons_of_mem _ hx))]
  have:=h z (List.mem_cons_self ..)
  by_cases h1:z.1.gd=g
  ·rw [if_pos ⟨h1,this⟩,if_pos h1]
  ·rw [if_neg (fun h=>h1 h.1),if_neg h1]
theorem fair_is {g:Int} {Z:List Sold} (ok:AllOk Z) (ha:0<allG g Z):(fairI g Z).2=true∧allG g Z≤2 * uptoZ g (fairI g Z).1 Z:=by
 have h:=fair_upTo ok ha (q:=2000) (by rw [upto_all g 2000 Z (fun z hz=>by have:=ok z hz;obtain ⟨_,_,_,_,_,_,c2,c3⟩:=this;omega)];omega)
 refine ⟨h.1,?_⟩
 have h1:=h.1
 unfold fairI at h1 ⊢
 rw [if_neg (by omega)] at h1 ⊢
 rcases (fair_fold g (allG g Z) Z Z (0,false)).2.2 with e | ⟨z,_,_,q2,q3⟩
 ·unfold fairTo at h1
  rw [e] at h1;cases h1
 ·unfold fairTo
  rw [q3];exact q2
theorem sold_cons (s:Sale) (l:List Sale) (g:Int):soldOf (s::l) g=if s.gd=g∧0<s.gh then s::soldOf l g else soldOf l g:=by
 unfold soldOf
 rw [List.filter_cons]
 by_cases h:s.gd=g∧0<s.gh
 ·rw [if_pos h,if_pos (by rw [decide_eq_true h.1,decide_eq_true h.2];rfl)]
 ·rw [if_neg h]
  have:¬ (decide (s.gd=g) && decide (0<s.gh))=true:=fun hh=>h ⟨of_decide_eq_true (Bool.and_eq_true_iff.mp hh).1,of_decide_eq_true (Bool.and_eq_true_iff.mp hh).2⟩
  rw [if_neg this]
abbrev salesZ (Z:List Sold):List Sale:=Z.map Prod.fst
theorem low_high (g p:Int):∀ Z:List Sold,AllOk Z →
  uptoZ g p Z≤cheapI false p (soldOf (salesZ Z) g)∧dearI false p (soldOf (salesZ Z) g)≤allG g Z - uptoZ g p Z ∧
  cheapI true p (soldOf (salesZ Z) g)≤uptoZ g p Z∧allG g Z - uptoZ g p Z≤dearI true p (soldOf (salesZ Z) g) ∧
  weighI false (soldOf (salesZ Z) g)≤allG g Z∧allG g Z≤weighI true (soldOf (salesZ Z) g)
 | [],_=>by
  show (0:Int)≤0∧(0:Int)≤0 - 0∧(0:Int)≤0∧(0:Int) - 0≤0∧(0:Int)≤0∧(0:Int)≤0
  omega
 | z::r,h=>by
  obtain ⟨a,b,c,d,e,f⟩:=low_high g p r h.tail
  obtain ⟨g0,g1,g2,g3,c0,c1,c2,c3⟩:=h z (List.mem_cons_self ..)
  have e1:(if z.1.gd=g∧z.2.2≤p then z.2.1 else 0)=if z.1.gd=g then (if z.2.2≤p then z.2.1 else 0) else 0:=by
   by_cases h1:z.1.gd=g
   ·by_cases h3:z.2.2≤p
    ·rw [if_pos ⟨h1,h3⟩,if_pos h1,if_pos h3]
    ·rw [if_neg (fun h=>h3 h.2),if_pos h1,if_neg h3]
   ·rw [if_neg (fun h=>h1 h.1),if_neg h1]
  have eS:=sold_cons z.1 (salesZ r) g
  have eU:uptoZ g p (z::r)=(if z.1.gd=g∧z.2.2≤p then z.2.1 else 0)+uptoZ g p r:=rfl
  have eA:allG g (z::r)=(if z.1.gd=g then z.2.1 else 0)+allG g r:=rfl
  rw [eU,eA,e1,show salesZ (z::r)=z.1::salesZ r from rfl,eS]
  generalize soldOf (salesZ r) g=S at *
  by_cases h1:z.1.gd=g
  ·by_cases h2:0<z.1.gh
   ·rw [if_pos (⟨h1,h2⟩:z.1.gd=g∧0<z.1.gh),if_pos h1,if_pos h1]
    show (if z.2.2≤p then z.2.1 else 0)+uptoZ g p r≤(if z.1.cl≤p then z.1.gh else 0)+cheapI false p S∧(if z.1.cl≤p then 0 else z.1.gl)+dearI false p S≤z.2.1+allG g r - ((if z.2.2≤p then z.2.1 else 0)+uptoZ g p r)∧(if z.1.ch≤p then z.1.gl else 0)+cheapI true p S≤(if z.2.2≤p then z.2.1 else 0)+uptoZ g p r∧z.2.1+allG g r - ((if z.2.2≤p then z.2.1 else 0)+uptoZ g p r)≤(if z.1.ch≤p then 0 else z.1.gh)+dearI true p S∧z.1.gl+weighI false S≤z.2.1+allG g r∧z.2.1+allG g r≤z.1.gh+weighI true S
    by_cases q1:z.2.2≤p<;>by_cases q2:z.1.cl≤p<;>by_cases q3:z.1.ch≤p<;>simp only [q1,q2,q3,if_true,if_false]<;>omega
   ·rw [if_neg (fun h:z.1.gd=g∧0<z.1.gh=>h2 h.2),if_pos h1,if_pos h1]
    have:z.2.1=0:=by omega
    rw [this]
    split<;>omega
  ·rw [if_neg (fun h:z.1.gd=g∧0<z.1.gh=>h1 h.1),if_neg h1,if_neg h1];omega
theorem sold_mem {Z:List Sold} {g:Int} {z:Sold} (hz:z ∈ Z) (hg:z.1.gd=g) (hh:0<z.1.gh):z.1 ∈ soldOf (salesZ Z) g :=
 List.mem_filter.mpr ⟨List.mem_map.mpr ⟨z,hz,rfl⟩,by rw [decide_eq_true hg,decide_eq_true hh];rfl⟩
theorem sold_of {Z:List Sold} {g:Int} {s:Sale} (hs:s ∈ soldOf (salesZ Z) g):∃ z ∈ Z,z.1=s∧s.gd=g∧0<s.gh:=by
 obtain ⟨h1,h2⟩:=List.mem_filter.mp hs
 obtain ⟨z,hz,e⟩:=List.mem_map.mp h1
 obtain ⟨h3,h4⟩:=Bool.and_eq_true_iff.mp h2
 exact ⟨z,hz,e,of_decide_eq_true h3,of_decide_eq_true h4⟩
theorem fineZ {Z:List Sold} (ok:AllOk Z) (g:Int):Fine (soldOf (salesZ Z) g):=fun s hs=>by
 obtain ⟨z,hz,e,_,_⟩:=sold_of hs
 obtain ⟨g0,g1,g2,g3,c0,c1,c2,c3⟩:=ok z hz
 subst e
 omega
theorem fair_between {g:Int} {Z:List Sold} (ok:AllOk Z) (ha:0<allG g Z):priceI false (soldOf (salesZ Z) g)≤(fairI g Z).1∧(fairI g Z).1≤priceI true (soldOf (salesZ Z) g):=by
 have hF:=fineZ ok g
 obtain ⟨_,h2⟩:=fair_is ok ha
 obtain ⟨z,hz,z1,z2,z3⟩:=upto_some g (fairI g Z).1 Z ok (by omega)
 have zk:=ok z hz
 obtain ⟨g0,g1,g2,g3,c0,c1,c2,c3⟩:=zk
 have hm:=sold_mem hz z1 (by omega)
 constructor
 ·obtain ⟨a,b,_⟩:=low_high g (fairI g Z).1 Z ok
  exact price_upTo false _ (by omega) hm (by show z.1.cl≤_;omega)
 ·obtain ⟨s,hs,he,hp⟩:=price_is true (soldOf (salesZ Z) g) (fun h0=>by rw [h0] at hm;cases hm) (fun s hs=>by have:=hF s hs;omega)
  obtain ⟨_,_,c,d,_⟩:=low_high g (priceI true (soldOf (salesZ Z) g)) Z ok
  rw [← hp] at he
  have he:dearI true (priceI true (soldOf (salesZ Z) g)) (soldOf (salesZ Z) g)≤cheapI true (priceI true (soldOf (salesZ Z) g)) (soldOf (salesZ Z) g):=of_decide_eq_true he
  exact (fair_upTo ok ha (by omega)).2
theorem take_between (k:Int):∀ Z:List Sold,AllOk Z→turnOf false (salesZ Z) k≤takeZ k Z∧takeZ k Z≤turnOf true (salesZ Z) k
 | [],_=>⟨Int.le_refl _,Int.le_refl _⟩
 | z::r,h=>by
  obtain ⟨a,b⟩:=take_between k r h.tail
  obtain ⟨g0,g1,g2,g3,c0,c1,c2,c3⟩:=h z (List.mem_cons_self ..)
  show (if z.1.st=k then z.1.turn false else 0)+turnOf false (salesZ r) k≤(if z.1.st=k then z.2.1 * z.2.2 / 1000 else 0)+takeZ k r∧(if z.1.st=k then z.2.1 * z.2.2 / 1000 else 0)+takeZ k r≤(if z.1.st=k then z.1.turn true else 0)+turnOf true (salesZ r) k
  have e1:z.1.gl * z.1.cl≤z.2.1 * z.2.2:=Int.mul_le_mul g1 c1 c0 (by omega)
  have e2:z.2.1 * z.2.2≤z.1.gh * z.1.ch:=Int.mul_le_mul g2 c2 (by omega) (by omega)
  have t1:z.1.turn false=z.1.gl * z.1.cl / 1000:=rfl
  have t2:z.1.turn true=z.1.gh * z.1.ch / 1000:=rfl
  by_cases hk:z.1.st=k
  ·rw [if_pos hk,if_pos hk,if_pos hk,t1,t2];omega
  ·rw [if_neg hk,if_neg hk,if_neg hk];omega
end Go.Proofs.Ytamlnddeiokbdaa.walk
set_option maxRecDepth 10000
namespace Go.Abs
theorem nth_app:∀ {r t:List AV} {j:Nat},j<r.length→nth (r++t) j=nth r j
 | [],_,_,h=>by simp at h
 | a::r,t,0,_=>by rw [List.cons_append,nth_cons,nth_cons];rfl
 | a::r,t,j+1,h=>by
  rw [List.cons_append,nth_cons,nth_cons,if_neg (by omega),if_neg (by omega)]
  exact nth_app (by simpa using h)
theorem nth_cut {o k j:Nat} {c r:List AV} (h:cut o k c=some r) (hj:j<r.length):nth c (o+j)=nth r j:=by
 obtain ⟨a,t,z1,z2,z3⟩:=cut_some h
 rw [z1,← z2,List.append_assoc,nth_skip,nth_app hj]
end Go.Abs
namespace Go.Proofs.Ytamlnddeiokbdaa.walk
open Go.Abs Go.Proofs.Ytamlnddeiokbdaa.code
def truthRows (Z:List Sold):List (List AV):=Z.map fun z=>[.int .i64 z.2.1,.int .i64 z.2.2]
end Go.Proofs.Ytamlnddeiokbdaa.walk
set_option maxRecDepth 10000
namespace Go.Proofs.Ytamlnddeiokbdaa.walk
open Go.Abs Go.Proofs.Ytamlnddeiokbdaa.code
structure Fnd where
 sale:Nat
 gr:Int
 ce:Int
def Fnd.cells (f:Fnd):List AV:=[.int .i64 (f.sale:Int),.int .i64 f.gr,.int .i64 f.ce]
structure FindsOk (S:List Sale) (F:List Fnd):Prop where
 lt:∀ i (h:i<F.length),F[i].sale<S.length
 gr:∀ i (h:i<F.length) (h':F[i].sale<S.length),S[F[i].sale].gl≤F[i].gr∧F[i].gr≤S[F[i].sale].gh
 ce:∀ i (h:i<F.length) (h':F[i].sale<S.length),S[F[i].sale].cl≤F[i].ce∧F[i].ce≤S[F[i].sale].ch
 ne:∀ i j (hi:i<F.length) (hj:j<i),F[j].sale≠F[i].sale
theorem fnd_cut {F:List Fnd} {j:Nat} (h:j<F.length):cut (j * 3) 3 (F.map Fnd.cells).flatten=some F[j].cells:=by
 have:=flatten_cut (rows:=F.map Fnd.cells) (w:=3) (i:=j) (fun r hr=>by obtain ⟨f,_,rfl⟩:=List.mem_map.mp hr;rfl) (by rw [List.length_map];exact h)
 rw [this,List.getElem_map]
theorem checkTrue_ok (N:Nat) (hN:2≤N) (x lo hi:Int) (s:St) (h:lo≤x∧x≤hi) (hs:s.n+100≤far) :
  call Try.prog X N (.fn 77) [.int .i64 x,.agg [.int .i64 lo,.int .i64 hi]] s=.val (.int .i64 0) s:=by
 obtain ⟨n,rfl⟩:∃ n,N=n+1:=⟨N - 1,by omega⟩
 have hf:far=1000000000:=rfl
 refine call_plain' Try.func77 (fun u uh un um=>?_) rfl
 have e1:decide (lo≤x)=true:=decide_eq_true h.1
 have e2:decide (x≤hi)=true:=decide_eq_true h.2
 rw [enter77]
 simp (disch:=first|omega|(with_unfolding_all exact rfl)|(simp only[new_n,put_n,new_m];omega)|(refine put_m_le ?_;simp only[new_m];omega)) only [res77,K77r0,K77r1s9,K77r1s8,K77r1s7,K77r1s6,K77r1,K77,res77,Abs.W,reduceIte,Nat.reduceEqDiff,Nat.reduceAdd,decide_true,decide_false,kLoop_def,Nat.reduceSub,List.cons_append,List.nil_append,List.append_nil,List.length_cons,List.length_nil,Env.find_set,e1,e2,unless_ok,Nat.zero_add]
 exact ⟨_,rfl,by simp only [new_m];omega⟩
theorem other_ok (N:Nat) (hN:1≤N) (f g:Fnd) (q:Nat) (s:St) (hq:s.h.get q=some (.cells g.cells (tag 66))) (hqn:q<s.n) (hne:f.sale≠g.sale) (hs:s.n+100≤far) :
  call Try.prog X N (.fn 76) [.agg f.cells,.ptr q 0] s=.val (.bool false) s:=by
 obtain ⟨n,rfl⟩:∃ n,N=n+1:=⟨N - 1,by omega⟩
 have hf:far=1000000000:=rfl
 refine call_plain' Try.func76 (fun u uh un um=>?_) rfl
 rw [← uh] at hq
 rw [← un] at hqn hs
 have e1:decide ((f.sale:Int)=(g.sale:Int))=false:=decide_eq_false (by omega)
 have sc:scalars f.cells=true:=rfl
 obtain ⟨w,hw⟩:∃ w:St,w=u.new (.cells f.cells (tag 66)):=⟨_,rfl⟩
 have wn:w.n=u.n+1:=by rw [hw];rfl
 have wm:w.m=far:=by rw [hw];exact um
 have w0:w.h.get u.n=some (.cells f.cells (tag 66)):=by rw [hw];exact get_new_eq _ _ _ rfl (by omega)
 have wq:w.h.get q=some (.cells g.cells (tag 66)):=by rw [hw,get_new_ne _ _ _ (by omega)];exact hq
 rw [enter76]
 simp (disch:=first|omega|(with_unfolding_all exact rfl)|(simp only[new_n,put_n,new_m];omega)|(refine put_m_le ?_;simp only[new_m];omega)) only [K76,K76r0,res76,Abs.W,reduceIte,Nat.reduceEqDiff,Nat.reduceAdd,decide_true,decide_false,kLoop_def,Nat.reduceSub,List.cons_append,List.nil_append,List.append_nil,List.length_cons,List.length_nil,Env.find_set,sc,Nat.zero_add]
 rw [← hw]
 clear hw
 unfold Fnd.cells at w0 wq
 simp (disch:=first|omega|(with_unfolding_all exact rfl)|(simp only[new_n,put_n,new_m];omega)|(refine put_m_le ?_;simp only[new_m];omega)) only [K76r1,Abs.W,reduceIte,Nat.reduceEqDiff,Nat.reduceAdd,decide_true,decide_false,kLoop_def,Nat.reduceSub,List.cons_append,List.nil_append,List.append_nil,List.length_cons,List.length_nil,Env.find_set,w0,wq,e1,Nat.zero_add]
 exact ⟨_,rfl,by omega⟩
theorem index_ok (N:Nat) (hN:2≤N) {F:List Fnd} {g:Fnd} {fb i q sz:Nat} {s:St} (hb:s.h.get fb=some (.cells (F.map Fnd.cells).flatten sz)) (hi:i≤F.length) (hl:F.length≤40) (hq:s.h.get q=some (.cells g.cells (tag 66))) (hqn:q<s.n) (hne:∀ j (h:j<F.length),j<i→F[j].sale≠g.sale) (hs:s.n+1000≤far) :
  call Try.prog X N (.fn 78) [.slice fb 0 i F.length true,.func 76 [] [.ptr q 0]] s=.val (.int .i64 (-1)) s:=by
 obtain ⟨n,rfl⟩:∃ n,N=n+1:=⟨N - 1,by omega⟩
 have hf:far=1000000000:=rfl
 refine call_plain' Try.func78 (fun u uh un um=>?_) rfl
 rw [← uh] at hb hq
 rw [← un] at hqn hs
 rw [enter78]
 simp (disch:=first|omega|(with_unfolding_all exact rfl)|(simp only[new_n,put_n,new_m];omega)|(refine put_m_le ?_;simp only[new_m];omega)) only [K78,K78r0,K78r1,Abs.W,reduceIte,Nat.reduceEqDiff,Nat.reduceAdd,decide_true,decide_false,kLoop_def,Nat.reduceSub,List.cons_append,List.nil_append,List.append_nil,List.length_cons,List.length_nil,Env.find_set,Nat.zero_add]
 generalize hlp:loopN _ rounds _ _ _ _ _=rl
 obtain ⟨e,L1,t2,rfl,rfl,rfl⟩:=loop_of hlp
  (fun j L' t'=>t'=u∧L'.find 0=.slice fb 0 i F.length true∧L'.find 1=.func 76 [] [.ptr q 0]∧L'.find 7=.int .i64 (i:Int)∧L'.find 8=.int .i64 (j:Int))
  (fun e L' t'=>e=.exit 0∧t'=u) i (by unfold rounds;omega)
  ⟨rfl,by simp only [find_cons,Env.find_set,reduceIte,Nat.reduceEqDiff],by simp only [find_cons,Env.find_set,reduceIte,Nat.reduceEqDiff],by simp only [find_cons,Env.find_set,reduceIte,Nat.reduceEqDiff],by simp only [find_cons,Env.find_set,reduceIte,Nat.reduceEqDiff];rfl⟩
  (fun j L' t' hj ⟨h1,q0,q1,q7,q8⟩=>by
   subst h1
   by_cases hlt:j<i
   ·have e0:decide ((j:Int)<(i:Int))=true:=decide_eq_true (by omega)
    have hjF:j<F.length:=by omega
    have ix:∀ s,ixsA 3 s (.slice fb 0 i F.length true) (.int .i64 (j:Int))=.val (.ptr fb (j * 3)) s:=fun s=>by rw [ixs_slice _ _ _ _ _ _ _ _ hlt,Nat.zero_add]
    have ct:cut (j * 3) 3 (F.map Fnd.cells).flatten=some [.int .i64 (F[j].sale:Int),.int .i64 F[j].gr,.int .i64 F[j].ce]:=fnd_cut hjF
    have oc:call Try.prog X n (.fn 76) [.agg F[j].cells,.ptr q 0] t'=.val (.bool false) t':=other_ok n (by omega) F[j] g q t' hq hqn (hne j hjF hlt) (by omega)
    have ad:∀ s,aAdd s .i64 (j:Int) 1=.val (.int .i64 ((j+1:Nat):Int)) s:=fun s=>by rw [aAdd_i64 s _ _ (by omega)];rfl
    unfold Fnd.cells at oc
    refine .inl ⟨hlt,_,_,by
     simp (disch:=first|omega|(with_unfolding_all exact rfl)|(simp only[new_n,put_n,new_m];omega)|(refine put_m_le ?_;simp only[new_m];omega)) only [K78l0,K78r2,K78r3,K78r4,K78r6,Abs.W,reduceIte,Nat.reduceEqDiff,Nat.reduceAdd,decide_true,decide_false,kLoop_def,Nat.reduceSub,List.cons_append,List.nil_append,List.append_nil,List.length_cons,List.length_nil,Env.find_set,q0,q1,q7,q8,e0,ix,hb,ct,oc,ad,okA_fnv,Nat.zero_add]
     rfl,rfl,?_,?_,?_,?_⟩<;>simp only [Env.find_set,q0,q1,q7,reduceIte,Nat.reduceEqDiff]
   ·obtain rfl:j=i:=by omega
    have e0:decide ((j:Int)<(j:Int))=false:=by simp
    refine .inr ⟨.exit 0,L'.set 9 (.bool false),_,by simp,?_,rfl,rfl⟩
    simp (disch:=first|omega|(with_unfolding_all exact rfl)|(simp only[new_n,put_n,new_m];omega)|(refine put_m_le ?_;simp only[new_m];omega)) only [K78l0,K78r2,Abs.W,reduceIte,Nat.reduceEqDiff,Nat.reduceAdd,decide_true,decide_false,kLoop_def,Nat.reduceSub,List.cons_append,List.nil_append,List.append_nil,List.length_cons,List.length_nil,Env.find_set,q7,q8,e0])
 simp (disch:=first|omega|(with_unfolding_all exact rfl)|(simp only[new_n,put_n,new_m];omega)|(refine put_m_le ?_;simp only[new_m];omega)) only [K78r7,res78,Abs.W,reduceIte,Nat.reduceEqDiff,Nat.reduceAdd,decide_true,decide_false,kLoop_def,Nat.reduceSub,List.cons_append,List.nil_append,List.append_nil,List.length_cons,List.length_nil,Env.find_set]
 exact ⟨_,rfl,by omega⟩
theorem contains_ok (N:Nat) (hN:3≤N) {F:List Fnd} {g:Fnd} {fb i q sz:Nat} {s:St} (hb:s.h.get fb=some (.cells (F.map Fnd.cells).flatten sz)) (hi:i≤F.length) (hl:F.length≤40) (hq:s.h.get q=some (.cells g.cells (tag 66))) (hqn:q<s.n) (hne:∀ j (h:j<F.length),j<i→F[j].sale≠g.sale) (hs:s.n+1000≤far) :
  call Try.prog X N (.fn 75) [.slice fb 0 i F.length true,.func 76 [] [.ptr q 0]] s=.val (.bool false) s:=by
 obtain ⟨n,rfl⟩:∃ n,N=n+1:=⟨N - 1,by omega⟩
 have hf:far=1000000000:=rfl
 refine call_plain' Try.func75 (fun u uh un um=>?_) rfl
 rw [← uh] at hb hq
 rw [← un] at hqn hs
 have ic:=index_ok n (by omega) hb hi hl hq hqn hne hs
 have e1:decide ((-1:Int) ≥ 0)=false:=rfl
 have e2:decide ((0:Int) ≤ -1)=false:=rfl
 rw [enter75]
 simp (disch:=first|omega|(with_unfolding_all exact rfl)|(simp only[new_n,put_n,new_m];omega)|(refine put_m_le ?_;simp only[new_m];omega)) only [res75,K75r0,K75r1,K75,res75,Abs.W,reduceIte,Nat.reduceEqDiff,Nat.reduceAdd,decide_true,decide_false,kLoop_def,Nat.reduceSub,List.cons_append,List.nil_append,List.append_nil,List.length_cons,List.length_nil,Env.find_set,ic,e1,e2,okA_fnv]
 exact ⟨_,rfl,by omega⟩
theorem checkFind_ok (N:Nat) (hN:4≤N) {F:List Fnd} {S:List Sale} {fb i sz:Nat} {vs:AV} {s:St} (ok:FindsOk S F) (hi:i<F.length) (hl:F.length≤40) (hS:S.length≤40) (hb:s.h.get fb=some (.cells (F.map Fnd.cells).flatten sz)) (hbn:fb<s.n) (RS:RowsAt s.h s.n 6 (S.map Sale.cells) vs) (hs:s.n+2000≤far) :
  call Try.prog X N (.fn 70) [vs,.agg F[i].cells,.slice fb 0 i F.length true] s=.val (.int .i64 0) s:=by
 obtain ⟨n,rfl⟩:∃ n,N=n+1:=⟨N - 1,by omega⟩
 have hf:far=1000000000:=rfl
 refine call_plain' Try.func70 (fun u uh un um=>?_) rfl
 rw [← uh] at hb RS
 rw [← un] at hbn RS hs
 have k1:=ok.lt i hi
 have k2:=ok.gr i hi k1
 have k3:=ok.ce i hi k1
 have k4:=ok.ne i
 have kv:∀ t,okA (.val vs t)=.val vs t:=fun t=>okA_ne RS.ne
 have lv:=RS.len
 rw [List.length_map] at lv
 obtain ⟨x0,o0,cs,csz,r1,r2,r3,r4⟩:=RS.at_ F[i].sale (by rw [List.length_map];exact k1)
 rw [List.getElem_map] at r4
 have hnd:∀ j (h:j<F.length),j<i→F[j].sale≠F[i].sale:=fun j _ hj=>k4 j hi hj
 generalize S[F[i].sale]=M at *
 generalize F[i]=f at *
 unfold Sale.cells at r4
 have sc:scalars f.cells=true:=rfl
 obtain ⟨w,hw⟩:∃ w:St,w=u.new (.cells f.cells (tag 66)):=⟨_,rfl⟩
 have wn:w.n=u.n+1:=by rw [hw];rfl
 have wm:w.m=far:=by rw [hw];exact um
 have wg:∀ c,c<u.n→w.h.get c=u.h.get c:=fun c hc=>by rw [hw,get_new_ne _ _ _ (by omega)]
 have w0:w.h.get u.n=some (.cells f.cells (tag 66)):=by rw [hw];exact get_new_eq _ _ _ rfl (by omega)
 have wx:=(wg x0 r1).trans r3
 have wb:=(wg fb hbn).trans hb
 rw [enter70]
 simp (disch:=first|omega|(with_unfolding_all exact rfl)|(simp only[new_n,put_n,new_m];omega)|(refine put_m_le ?_;simp only[new_m];omega)) only [K70,K70r0,res70,Abs.W,reduceIte,Nat.reduceEqDiff,Nat.reduceAdd,decide_true,decide_false,kLoop_def,Nat.reduceSub,List.cons_append,List.nil_append,List.append_nil,List.length_cons,List.length_nil,Env.find_set,sc,Nat.zero_add]
 rw [← hw]
 clear hw
 have z0:decide ((0:Int)=0)=true:=rfl
 obtain ⟨x,hx⟩:∃ x:St,x=(w.new (.cells [.int .i64 0,.int .i64 0,.int .i64 0,.int .i64 0,.int .i64 0,.int .i64 0] (tag 51))).put w.n (.cells [.int .i64 M.st,.int .i64 M.gd,.int .i64 M.gl,.int .i64 M.gh,.int .i64 M.cl,.int .i64 M.ch] (tag 51)):=⟨_,rfl⟩
 have xn:x.n=w.n+1:=by rw [hx];rfl
 have xm:x.m≤far:=by rw [hx];simp only [St.put,minN_eq,new_m];omega
 have xm2:u.n≤x.m:=by rw [hx];simp only [St.put,minN_eq,new_m];omega
 have xg:∀ c,c<w.n→x.h.get c=w.h.get c:=fun c hc=>by rw [hx,get_put_ne' _ _ _ _ (by omega),get_new_ne _ _ _ (by omega)]
 have x8:x.h.get w.n=some (.cells [.int .i64 M.st,.int .i64 M.gd,.int .i64 M.gl,.int .i64 M.gh,.int .i64 M.cl,.int .i64 M.ch] (tag 51)):=by rw [hx];exact get_put_eq _ _ _ _ rfl (by omega)
 have x4:=(xg u.n (by omega)).trans w0
 have cn:=contains_ok n (by omega) (g:=f) (q:=u.n) (s:=x) ((xg fb (by omega)).trans wb) (by omega:i≤F.length) hl x4 (by omega) hnd (by omega)
 unfold Fnd.cells at w0 x4
 have nm:call Try.prog X n (.fn 43) [.int .i64 (f.sale:Int),.int .i64 (S.length:Int)] w=.val (.int .i64 0) w:=named_ok n (by omega) _ _ w (by omega) (by omega) (by omega)
 simp (disch:=first|omega|(with_unfolding_all exact rfl)|(simp only[new_n,put_n,new_m];omega)|(refine put_m_le ?_;simp only[new_m];omega)) only [K70r1,K70r2,K70r4,Abs.W,reduceIte,Nat.reduceEqDiff,Nat.reduceAdd,decide_true,decide_false,kLoop_def,Nat.reduceSub,List.cons_append,List.nil_append,List.append_nil,List.length_cons,List.length_nil,Env.find_set,kv,lv,w0,wx,nm,z0,r2,r4,Nat.zero_add]
 rw [← hx]
 clear hx
 simp (disch:=first|omega|(with_unfolding_all exact rfl)|(simp only[new_n,put_n,new_m];omega)|(refine put_m_le ?_;simp only[new_m];omega)) only [K70r5,Abs.W,reduceIte,Nat.reduceEqDiff,Nat.reduceAdd,decide_true,decide_false,kLoop_def,Nat.reduceSub,List.cons_append,List.nil_append,List.append_nil,List.length_cons,List.length_nil,Env.find_set,kFuncE',okA_fnv,cn,Nat.zero_add]
 have c1:∀ m,call Try.prog X n (.fn 77) [.int .i64 f.gr,.agg [.int .i64 M.gl,.int .i64 M.gh]] ⟨x.h,x.n,m⟩=.val (.int .i64 0) ⟨x.h,x.n,m⟩:=fun m=>checkTrue_ok n (by omega) _ _ _ _ k2 (by show x.n+100≤far;omega)
 have c2:call Try.prog X n (.fn 77) [.int .i64 f.ce,.agg [.int .i64 M.cl,.int .i64 M.ch]] x=.val (.int .i64 0) x:=checkTrue_ok n (by omega) _ _ _ _ k3 (by omega)
 simp (disch:=first|omega|(with_unfolding_all exact rfl)|(simp only[new_n,put_n,new_m];omega)|(refine put_m_le ?_;simp only[new_m];omega)) only [K70r6,Abs.W,reduceIte,Nat.reduceEqDiff,Nat.reduceAdd,decide_true,decide_false,kLoop_def,Nat.reduceSub,List.cons_append,List.nil_append,List.append_nil,List.length_cons,List.length_nil,Env.find_set,x4,x8,unless_ok,c1,c2,or_new3,endO_nil,Nat.zero_add]
 exact ⟨_,rfl,by simp only [new_m];omega⟩
end Go.Proofs.Ytamlnddeiokbdaa.walk
set_option maxRecDepth 10000
namespace Go.Proofs.Ytamlnddeiokbdaa.walk
open Go.Abs Go.Proofs.Ytamlnddeiokbdaa.code
theorem salesOf_ok (N:Nat) (hN:1≤N) (l:List AV) (g:Int) (s:St) (hsc:scalars l=true) (hs:s.n+100≤far):call Try.prog X N (.fn 44) [.agg l,.int .i64 g] s=.val (.func 64 [] [.ptr s.n 0,.ptr (s.n+1) 0]) ((s.new (.cells l (tag 27))).new (.cells [.int .i64 g] (tag 3))):=by
 obtain ⟨n,rfl⟩:∃ n,N=n+1:=⟨N - 1,by omega⟩
 have hf:far=1000000000:=rfl
 obtain ⟨v,t,e,st,hv,hh⟩:=call_new (n:=n) (args:=[.agg l,.int .i64 g]) (s:=s) (k:=2) (Q:=fun v h n=>v=.func 64 [] [.ptr s.n 0,.ptr (s.n+1) 0]∧h=((s.new (.cells l (tag 27))).new (.cells [.int .i64 g] (tag 3))).h∧n=s.n+2) Try.func44 rfl (fun u uh un um=>by
  rw [enter44]
  simp (disch:=first|omega|(with_unfolding_all exact rfl)|(simp only[new_n,put_n,new_m];omega)|(refine put_m_le ?_;simp only[new_m];omega)) only [res44,K44r0,K44r1,K44,Abs.W,reduceIte,Nat.reduceEqDiff,Nat.reduceAdd,decide_true,decide_false,kLoop_def,Nat.reduceSub,List.cons_append,List.nil_append,List.append_nil,List.length_cons,List.length_nil,hsc,boxIntE,kFuncE',okA_fnv]
  refine ⟨_,_,rfl,((Beside.refl u (by omega) um).new _).new _,rfl,by simp only [new_n];rw [un],?_,?_⟩
  ·show ((u.new _).new _).h=((s.new _).new _).h
   unfold St.new
   simp only [uh,un]
  ·show u.n+1+1=_
   omega)
 rw [e,hv]
 congr 1
 obtain ⟨th,tn,tm⟩:=t
 have m1:tm=s.m:=st.m
 obtain ⟨h1,h2⟩:=hh
 simp only at h1 h2
 subst h1 h2 m1
 rfl
section
variable {M nb cb p8 z8:Nat} {H:Heap} {g:FuncId} {cap:List AV} {T:List Sale} {s:St}
theorem priceA_ok (hi:Bool) (hM:2≤M) (hh:∀ N,Hands Try.prog X N (N+1) nb cb H g cap (fun s:Sale=>.agg s.cells) T) (hF:Fine T) (hl:T.length≤40) (hcb:cb≤100) (hH:∀ y,y<nb→s.h.get y=H.get y) (hnb:nb≤s.n) (h8:s.h.get p8=some (.cells [.func g [] cap] z8)) (n8:p8<s.n) (hs:s.n+300000≤far) :
  call Try.prog X (M+4) (.fn 45) (.agg (endV hi)::[.ptr p8 0]) s=.val (.int .i64 (weighI hi T)) s:=by
 have hff:far=1000000000:=rfl
 refine call_plain' (n:=M+3) Try.func45 (fun u uh un um=>?_) rfl
 have scE:=endV_cells hi
 obtain ⟨w,hw⟩:∃ w:St,w=u.new (.cells (endV hi) (tag 82)):=⟨_,rfl⟩
 have wn:w.n=u.n+1:=by rw [hw];rfl
 have wm:w.m=far:=by rw [hw];exact um
 have wg:∀ c,c<u.n→w.h.get c=u.h.get c:=fun c hc=>by rw [hw,get_new_ne _ _ _ (by omega)]
 have w0:w.h.get u.n=some (.cells [hereV hi,hereV (!hi)] (tag 82)):=by rw [hw];exact get_new_eq _ _ _ rfl (by omega)
 have w8:w.h.get p8=some (.cells [.func g [] cap] z8):=by rw [wg p8 (by omega),uh];exact h8
 have we:=weighs_ok (M:=M) (s:=w) hi hM (hh (M+1)) hF hl hcb (fun y hy=>by rw [wg y (by omega),uh];exact hH y hy) (by omega) (by omega)
 unfold endV at we
 rw [enter45]
 simp (disch:=first|omega|(with_unfolding_all exact rfl)|(simp only[new_n,put_n,new_m];omega)|(refine put_m_le ?_;simp only[new_m];omega)) only [K45,K45r0,res45,Abs.W,reduceIte,Nat.reduceEqDiff,Nat.reduceAdd,decide_true,decide_false,kLoop_def,Nat.reduceSub,List.cons_append,List.nil_append,List.append_nil,List.length_cons,List.length_nil,Env.find_set,scE,Nat.zero_add]
 rw [← hw]
 clear hw
 simp (disch:=first|omega|(with_unfolding_all exact rfl)|(simp only[new_n,put_n,new_m];omega)|(refine put_m_le ?_;simp only[new_m];omega)) only [K45r1,Abs.W,reduceIte,Nat.reduceEqDiff,Nat.reduceAdd,decide_true,decide_false,kLoop_def,Nat.reduceSub,List.cons_append,List.nil_append,List.append_nil,List.length_cons,List.length_nil,Env.find_set,w0,w8,okA_end,okA_fnv,we,Nat.zero_add]
 exact ⟨_,rfl,by omega⟩
theorem priceB_ok (hi:Bool) (hM:7≤M) (hh:∀ N,Hands Try.prog X N (N+1) nb cb H g cap (fun s:Sale=>.agg s.cells) T) (hF:Fine T) (hl:T.length≤40) (hcb:cb≤100) (hH:∀ y,y<nb→s.h.get y=H.get y) (hnb:nb≤s.n) (h8:s.h.get p8=some (.cells [.func g [] cap] z8)) (n8:p8<s.n) (hs:s.n+2100000≤far) :
  call Try.prog X (M+7) (.fn 47) (.agg (endV hi)::[.ptr p8 0]) s=.val (.int .i64 (priceI hi T)) s:=by
 have hff:far=1000000000:=rfl
 refine call_plain' (n:=M+6) Try.func47 (fun u uh un um=>?_) rfl
 have scE:=endV_cells hi
 obtain ⟨w,hw⟩:∃ w:St,w=u.new (.cells (endV hi) (tag 82)):=⟨_,rfl⟩
 have wn:w.n=u.n+1:=by rw [hw];rfl
 have wm:w.m=far:=by rw [hw];exact um
 have wg:∀ c,c<u.n→w.h.get c=u.h.get c:=fun c hc=>by rw [hw,get_new_ne _ _ _ (by omega)]
 have w0:w.h.get u.n=some (.cells [hereV hi,hereV (!hi)] (tag 82)):=by rw [hw];exact get_new_eq _ _ _ rfl (by omega)
 have w8:w.h.get p8=some (.cells [.func g [] cap] z8):=by rw [wg p8 (by omega),uh];exact h8
 have we:=price_ok (M:=M) (s:=w) hi hM hh hF hl hcb (fun y hy=>by rw [wg y (by omega),uh];exact hH y hy) (by omega) (by omega)
 unfold endV at we
 rw [enter47]
 simp (disch:=first|omega|(with_unfolding_all exact rfl)|(simp only[new_n,put_n,new_m];omega)|(refine put_m_le ?_;simp only[new_m];omega)) only [K47,K47r0,res47,Abs.W,reduceIte,Nat.reduceEqDiff,Nat.reduceAdd,decide_true,decide_false,kLoop_def,Nat.reduceSub,List.cons_append,List.nil_append,List.append_nil,List.length_cons,List.length_nil,Env.find_set,scE,Nat.zero_add]
 rw [← hw]
 clear hw
 simp (disch:=first|omega|(with_unfolding_all exact rfl)|(simp only[new_n,put_n,new_m];omega)|(refine put_m_le ?_;simp only[new_m];omega)) only [K47r1,Abs.W,reduceIte,Nat.reduceEqDiff,Nat.reduceAdd,decide_true,decide_false,kLoop_def,Nat.reduceSub,List.cons_append,List.nil_append,List.append_nil,List.length_cons,List.length_nil,Env.find_set,w0,w8,okA_end,okA_fnv,we,Nat.zero_add]
 exact ⟨_,rfl,by omega⟩
end
def verdI (best worst:Bool):Int:=if worst then 1 else if best then 3 else 2
theorem verd_ok (N:Nat) (hN:1≤N) (a b:Bool) (s:St) (hs:s.n≤far):call Try.prog X N (.fn 49) [.bool a,.bool b] s=.val (.int .i64 (verdI a b)) s:=by
 obtain ⟨n,rfl⟩:∃ n,N=n+1:=⟨N - 1,by omega⟩
 refine call_plain' Try.func49 (fun u uh un um=>?_) rfl
 rw [enter49]
 cases a<;>cases b
 all_goals
  simp (disch:=first|omega|(with_unfolding_all exact rfl)|(simp only[new_n,put_n,new_m];omega)|(refine put_m_le ?_;simp only[new_m];omega)) only [res49,K49r0,K49r1,K49r2,K49r3,K49r4,K49r5,K49,Abs.W,reduceIte,Nat.reduceEqDiff,Nat.reduceAdd,decide_true,decide_false,kLoop_def,Nat.reduceSub,List.cons_append,List.nil_append,List.append_nil,List.length_cons,List.length_nil,Env.find_set]
  exact ⟨_,rfl,by omega⟩
theorem leave_tct {P:Program} (a b:Nat) (t:TypeId) (c:Nat) (L:Env) (s:St) {sh:Option Nat} (hs:shapeT P t=some sh) {v:AV} (h:okA (loadA sh s (L.find b))=.val v s):leaveA P [.tmp a,.cell b t,.tmp c] L [] s=.val (.tup [L.find a,v,L.find c]) s:=by
 unfold leaveA
 simp only [takeDfs,resultsA,hs,h]
 rfl
theorem sold_fine {b:Book} (ok:b.Ok) (good:Int):Fine (soldOf b.sales good):=fun s hs=>by
 obtain ⟨h1,_⟩:=List.mem_filter.mp hs
 obtain ⟨s0,s1,d0,d1,g0,g1,g2,c0,c1,c2⟩:=ok.ok s h1
 exact ⟨g0,g1,g2,c0,c1,c2⟩
theorem sold_len {b:Book} (ok:b.Ok) (good:Int):(soldOf b.sales good).length≤40:=Nat.le_trans (List.length_filter_le ..) ok.l
def verdOf (l:List Sale):Int:=verdI (decide (0<weighI true l)) (decide (0<weighI false l))
def priceV (l:List Sale):AV:=.tup [.int .i64 (verdOf l),.agg [.int .i64 (priceI false l),.int .i64 (priceI true l)],.int .i64 0]
theorem Price_ok {N good:Nat} {b:Book} {v:AV} {s:St} (hN:16≤N) (ok:b.Ok) (hg:good<b.goods) (hB:RowsAt s.h s.n 6 (b.sales.map Sale.cells) v) (hs:s.n+3000000≤far) :
  call Try.prog X N (.fn 14) [.agg (bookV b v),.int .i64 (good:Int)] s=.val (priceV (soldOf b.sales good)) s:=by
 obtain ⟨n,rfl⟩:∃ n,N=n+1:=⟨N - 1,by omega⟩
 have hf:far=1000000000:=rfl
 have sh2:shapeT Try.prog 38=some (some 2):=by kernel_rfl
 refine call_plain' Try.func14 (fun u uh un um=>?_) rfl
 rw [← uh,← un] at hB
 rw [← un] at hs
 have kv:∀ t,okA (.val v t)=.val v t:=fun t=>okA_ne hB.ne
 have scB:scalars (bookV b v)=true:=by
  have hv:v.scalar=true:=by
   have h:=hB.len u
   cases v<;>first | rfl | cases h
  show scalars [v]=true
  unfold scalars
  rw [hv]
  rfl
 obtain ⟨w,hw⟩:∃ w:St,w=(u.new (.cells (bookV b v) (tag 27))).new (.cells [.int .i64 0,.int .i64 0] (tag 38)):=⟨_,rfl⟩
 have wn:w.n=u.n+2:=by rw [hw];rfl
 have wm:w.m=far:=by rw [hw];exact um
 have wg:∀ c,c<u.n→w.h.get c=u.h.get c:=fun c hc=>by rw [hw,get_new_ne _ _ _ (by simp only [new_n];omega),get_new_ne _ _ _ (by omega)]
 have w0:w.h.get u.n=some (.cells (bookV b v) (tag 27)):=by rw [hw,get_new_ne _ _ _ (by simp only [new_n];omega)];exact get_new_eq _ _ _ rfl (by omega)
 have w1:w.h.get (u.n+1)=some (.cells [.int .i64 0,.int .i64 0] (tag 38)):=by rw [hw];exact get_new_eq _ _ _ rfl (by simp only [new_n];omega)
 have hR:=hB.grow wg (by omega:u.n≤w.n)
 have hck:=fun m=>check_ok n (by omega) b ok v ⟨w.h,w.n,m⟩ hR (by show w.n+4000≤far;omega)
 have hFi:=sold_fine ok (good:Int)
 have hle:=sold_len ok (good:Int)
 have z0:decide ((0:Int)=0)=true:=rfl
 have w0':=w0
 have scB':=scB
 unfold bookV at w0 hw scB hck
 rw [enter14]
 unfold bookV
 simp (disch:=first|omega|(with_unfolding_all exact rfl)|(simp only[new_n,put_n,new_m];omega)|(refine put_m_le ?_;simp only[new_m];omega)) only [K14,K14r0,Abs.W,reduceIte,Nat.reduceEqDiff,Nat.reduceAdd,decide_true,decide_false,kLoop_def,Nat.reduceSub,List.cons_append,List.nil_append,List.append_nil,List.length_cons,List.length_nil,scB,Nat.zero_add]
 try simp only [new_n]
 rw [← hw]
 clear hw
 simp (disch:=first|omega|(with_unfolding_all exact rfl)|(simp only[new_n,put_n,new_m];omega)|(refine put_m_le ?_;simp only[new_m];omega)) only [K14r1,K14r2,Abs.W,reduceIte,Nat.reduceEqDiff,Nat.reduceAdd,decide_true,decide_false,kLoop_def,Nat.reduceSub,List.cons_append,List.nil_append,List.append_nil,List.length_cons,List.length_nil,Env.find_set,new_n,w0,kv,scB,hck,hck w.m,named_ok,or_new2,z0,endO_nil,Nat.zero_add]
 obtain ⟨w2,hw2⟩:∃ w2:St,w2=w.new (.cells [AV.int .i64 0,.int .i64 0] 0):=⟨_,rfl⟩
 rw [← hw2]
 have w2n:w2.n=w.n+1:=by rw [hw2];rfl
 have w2m:w2.m=far:=by rw [hw2];exact wm
 have w2g:∀ c,c<w.n→w2.h.get c=w.h.get c:=fun c hc=>by rw [hw2,get_new_ne _ _ _ (by omega)]
 clear hw2
 have a0:=(w2g u.n (by omega)).trans w0
 have so:=fun s hs=>salesOf_ok n (by omega) [.int .i64 b.stalls,.int .i64 b.goods,v] (good:Int) s scB hs
 simp (disch:=first|omega|(with_unfolding_all exact rfl)|(simp only[new_n,put_n,new_m];omega)|(refine put_m_le ?_;simp only[new_m];omega)) only [K14r4,Abs.W,reduceIte,Nat.reduceEqDiff,Nat.reduceAdd,decide_true,decide_false,kLoop_def,Nat.reduceSub,List.cons_append,List.nil_append,List.append_nil,List.length_cons,List.length_nil,Env.find_set,a0,kv,so,okA_fnv,cellsFn,Nat.zero_add]
 obtain ⟨x,hx⟩:∃ x:St,x=(((w2.new (.cells [.int .i64 b.stalls,.int .i64 b.goods,v] (tag 27))).new (.cells [.int .i64 (good:Int)] (tag 3))).new (.cells [.nilfunc] (tag 89))).put (w2.n+2) (.cells [.func 64 [] [.ptr w2.n 0,.ptr (w2.n+1) 0]] (tag 89)):=⟨_,rfl⟩
 have xn:x.n=w2.n+3:=by rw [hx];rfl
 have xm:x.m=min far (w2.n+2):=by rw [hx];simp only [St.put,minN_eq,new_m,w2m]
 have xg:∀ c,c<w2.n→x.h.get c=w2.h.get c:=fun c hc=>by rw [hx,get_put_ne' _ _ _ _ (by omega),get_new_ne _ _ _ (by simp only [new_n];omega),get_new_ne _ _ _ (by simp only [new_n];omega),get_new_ne _ _ _ (by omega)]
 have x0:x.h.get w2.n=some (.cells [.int .i64 b.stalls,.int .i64 b.goods,v] (tag 27)):=by rw [hx,get_put_ne' _ _ _ _ (by omega),get_new_ne _ _ _ (by simp only [new_n];omega),get_new_ne _ _ _ (by simp only [new_n];omega)];exact get_new_eq _ _ _ rfl (by omega)
 have x1:x.h.get (w2.n+1)=some (.cells [.int .i64 (good:Int)] (tag 3)):=by rw [hx,get_put_ne' _ _ _ _ (by omega),get_new_ne _ _ _ (by simp only [new_n];omega)];exact get_new_eq _ _ _ rfl (by simp only [new_n];omega)
 have x2:x.h.get (w2.n+2)=some (.cells [.func 64 [] [.ptr w2.n 0,.ptr (w2.n+1) 0]] (tag 89)):=by rw [hx];exact get_put_eq _ _ _ _ rfl (by omega)
 try simp only [new_n]
 first | rw [← hx] | skip
 have xw:∀ c,c<w.n→x.h.get c=w.h.get c:=fun c hc=>(xg c (by omega)).trans (w2g c hc)
 have hRx:RowsAt x.h x.n 6 (b.sales.map Sale.cells) v:=hR.grow xw (by omega)
 have hh:∀ N,Hands Try.prog X N (N+1) x.n 10 x.h 64 [.ptr w2.n 0,.ptr (w2.n+1) 0] (fun s:Sale=>.agg s.cells) (soldOf b.sales good):=fun N=>salesOf1_hands ok hRx x0 x1 (by omega) (by omega)
 obtain ⟨n',rfl⟩:∃ n',n=n'+9:=⟨n - 9,by omega⟩
 have b1:∀ y:St,(∀ c,c<x.n→y.h.get c=x.h.get c)→x.n≤y.n→y.n+2200000≤far→call Try.prog X (n'+9) (.fn 38) [.func 45 [] [.ptr (w2.n+2) 0]] y=.val (.agg [.int .i64 (weighI false (soldOf b.sales good)),.int .i64 (weighI true (soldOf b.sales good))]) y:=fun y hy hyn hyf=>between_ok _ _ (by omega) (fun e t ht h3 h4=>by
  have:=priceA_ok (M:=n'+4) (s:=t) (p8:=w2.n+2) e (by omega) hh hFi hle (by omega) (fun c hc=>(ht c (by omega)).trans (hy c hc)) (by omega) ((ht _ (by omega)).trans ((hy _ (by omega)).trans x2)) (by omega) (by omega)
  cases e<;>exact this) (by omega)
 have b2:∀ y:St,(∀ c,c<x.n→y.h.get c=x.h.get c)→x.n≤y.n→y.n+2200000≤far→call Try.prog X (n'+9) (.fn 38) [.func 47 [] [.ptr (w2.n+2) 0]] y=.val (.agg [.int .i64 (priceI false (soldOf b.sales good)),.int .i64 (priceI true (soldOf b.sales good))]) y:=fun y hy hyn hyf=>between_ok _ _ (by omega) (fun e t ht h3 h4=>by
  have:=priceB_ok (M:=n'+1) (s:=t) (p8:=w2.n+2) e (by omega) hh hFi hle (by omega) (fun c hc=>(ht c (by omega)).trans (hy c hc)) (by omega) ((ht _ (by omega)).trans ((hy _ (by omega)).trans x2)) (by omega) (by omega)
  cases e<;>exact this) (by omega)
 have b1x:=b1 x (fun _ _=>rfl) (Nat.le_refl _) (by omega)
 simp (disch:=first|omega|(with_unfolding_all exact rfl)|(simp only[new_n,put_n,new_m];omega)|(refine put_m_le ?_;simp only[new_m];omega)) only [K14r5,Abs.W,reduceIte,Nat.reduceEqDiff,Nat.reduceAdd,decide_true,decide_false,kLoop_def,Nat.reduceSub,List.cons_append,List.nil_append,List.append_nil,List.length_cons,List.length_nil,Env.find_set,kFuncE',okA_fnv,b1x,Nat.zero_add]
 obtain ⟨y,hy⟩:∃ y:St,y=(x.new (.cells [.int .i64 0,.int .i64 0] (tag 38))).put x.n (.cells [.int .i64 (weighI false (soldOf b.sales good)),.int .i64 (weighI true (soldOf b.sales good))] (tag 38)):=⟨_,rfl⟩
 have yn:y.n=x.n+1:=by rw [hy];rfl
 have ym:y.m=min x.m x.n:=by rw [hy];simp only [St.put,minN_eq,new_m]
 have yg:∀ c,c<x.n→y.h.get c=x.h.get c:=fun c hc=>by rw [hy,get_put_ne' _ _ _ _ (by omega),get_new_ne _ _ _ (by omega)]
 have yx:y.h.get x.n=some (.cells [.int .i64 (weighI false (soldOf b.sales good)),.int .i64 (weighI true (soldOf b.sales good))] (tag 38)):=by rw [hy];exact get_put_eq _ _ _ _ rfl (by omega)
 rw [← hy]
 clear hy
 have b2y:=b2 y yg (by omega) (by omega)
 have y5:=(yg (u.n+1) (by omega)).trans ((xw (u.n+1) (by omega)).trans w1)
 simp (disch:=first|omega|(with_unfolding_all exact rfl)|(simp only[new_n,put_n,new_m];omega)|(refine put_m_le ?_;simp only[new_m];omega)) only [K14r6,Abs.W,reduceIte,Nat.reduceEqDiff,Nat.reduceAdd,decide_true,decide_false,kLoop_def,Nat.reduceSub,List.cons_append,List.nil_append,List.append_nil,List.length_cons,List.length_nil,Env.find_set,kFuncE',okA_fnv,b2y,y5,Nat.zero_add]
 obtain ⟨z,hz⟩:∃ z:St,z=y.put (u.n+1) (.cells [.int .i64 (priceI false (soldOf b.sales good)),.int .i64 (priceI true (soldOf b.sales good))] (tag 38)):=⟨_,rfl⟩
 have zn:z.n=y.n:=by rw [hz];rfl
 have zm:z.m=min y.m (u.n+1):=by rw [hz];simp only [St.put,minN_eq]
 have zx:z.h.get x.n=some (.cells [.int .i64 (weighI false (soldOf b.sales good)),.int .i64 (weighI true (soldOf b.sales good))] (tag 38)):=by rw [hz,get_put_ne' _ _ _ _ (by omega)];exact yx
 have z5:z.h.get (u.n+1)=some (.cells [.int .i64 (priceI false (soldOf b.sales good)),.int .i64 (priceI true (soldOf b.sales good))] (tag 38)):=by rw [hz];exact get_put_eq _ _ _ _ rfl (by omega)
 rw [← hz]
 clear hz
 have zf:z.m≤far:=by omega
 simp (disch:=first|omega|(with_unfolding_all exact rfl)|(simp only[new_n,put_n,new_m];omega)|(refine put_m_le ?_;simp only[new_m];omega)) only [K14r7,res14,Abs.W,reduceIte,Nat.reduceEqDiff,Nat.reduceAdd,decide_true,decide_false,kLoop_def,Nat.reduceSub,List.cons_append,List.nil_append,List.append_nil,List.length_cons,List.length_nil,Env.find_set,zx,z5,verd_ok,endO_nil,Nat.zero_add]
 refine ⟨_,leave_tct _ _ _ _ _ _ sh2 ?_,?_⟩
 ·simp only [find_cons,reduceIte,Nat.reduceEqDiff]
  rw [load_ptr,get_put_eq _ _ _ _ rfl (by omega),loadO_cells,partS_some]
  rfl
 ·simp only [St.put,minN_eq];omega
end Go.Proofs.Ytamlnddeiokbdaa.walk
set_option maxRecDepth 10000
namespace Go.Proofs.Ytamlnddeiokbdaa.walk
open Go.Abs Go.Proofs.Ytamlnddeiokbdaa.code
end Go.Proofs.Ytamlnddeiokbdaa.walk
set_option maxRecDepth 10000
namespace Go.Proofs.Ytamlnddeiokbdaa.walk
open Go.Abs Go.Proofs.Ytamlnddeiokbdaa.code
def Die (d:Nat) (h:Heap):Prop:=∃ f,h.get d=some (.cells [.int .u64 f] (tag 69))
theorem roll_ex {N d:Nat} {s:St} {r:ARes} (hr:call Try.prog X N (.fn 30) [.ptr d 0] s=r) (hN:1≤N) (hd:Die d s.h) (hlt:d<s.n) (hs:s.n+10≤far) :
  ∃ x t,r=.val (.int .u64 x) t∧Stir d s t 0∧Die d t.h∧0≤x∧x≤18446744073709551615:=by
 obtain ⟨n,rfl⟩:∃ n,N=n+1:=⟨N - 1,by omega⟩
 have hf:far=1000000000:=rfl
 obtain ⟨f,hg⟩:=hd
 obtain ⟨v,t,e,st,⟨x,rfl,x0,x1⟩,hd'⟩:=call_stir_plain (n:=n) (args:=[.ptr d 0]) (d:=d) (k:=0) (Q:=fun v=>∃ x,v=.int .u64 x∧0≤x∧x≤18446744073709551615) (R:=Die d) Try.func30 ⟨f,hg⟩ (fun u uh un um=>by
  rw [← uh] at hg
  rw [enter30]
  simp (disch:=first|omega|(with_unfolding_all exact rfl)|(simp only[new_n,put_n,new_m];omega)|(refine put_m_le ?_;simp only[new_m];omega)) only [res30,K30r0,K30r1,K30r2,K30r3,K30r4,K30r5,K30,Abs.W,reduceIte,Nat.reduceEqDiff,Nat.reduceAdd,decide_true,decide_false,kLoop_def,Nat.reduceSub,List.cons_append,List.nil_append,List.append_nil,List.length_cons,List.length_nil,hg,Nat.zero_add,ints_u64,kShr_def,shrA_u64,aAdd_def,aMul_def,aXor_def]
  refine ⟨_,_,rfl,(Stir.refl d u).put (by omega) _ (.inl rfl),rfl,⟨_,rfl,?_⟩,⟨_,get_put_eq _ _ _ _ rfl (by omega)⟩⟩
  exact xorI_range _ _) (by omega)
 exact ⟨x,t,hr.symm.trans e,st,hd',x0,x1⟩
theorem cast_ex {N d:Nat} {n:Int} {s:St} {r:ARes} (hr:call Try.prog X N (.fn 33) [.ptr d 0,.int .i64 n] s=r) (hN:2≤N) (hd:Die d s.h) (hlt:d<s.n) (hs:s.n+100≤far) (hn:n≤1000000000) :
  ∃ x t,r=.val (.int .i64 x) t∧Stir d s t 0∧Die d t.h∧0≤x∧(x<n∨x=0):=by
 obtain ⟨m,rfl⟩:∃ m,N=m+1:=⟨N - 1,by omega⟩
 have hf:far=1000000000:=rfl
 obtain ⟨v,t,e,st,⟨x,rfl,x0,x1⟩,hd'⟩:=call_stir_plain (n:=m) (args:=[.ptr d 0,.int .i64 n]) (d:=d) (k:=0) (Q:=fun v=>∃ x,v=.int .i64 x∧0≤x∧(x<n∨x=0)) (R:=Die d) Try.func33 hd (fun u uh un um=>by
  rw [← uh] at hd
  rw [enter33]
  by_cases hlow:n<2
  ·have e0:decide (n<2)=true:=by simpa using hlow
   simp (disch:=first|omega|(with_unfolding_all exact rfl)|(simp only[new_n,put_n,new_m];omega)|(refine put_m_le ?_;simp only[new_m];omega)) only [res33,K33r0,K33r1,K33r2,K33r3,K33,Abs.W,reduceIte,Nat.reduceEqDiff,Nat.reduceAdd,decide_true,decide_false,kLoop_def,Nat.reduceSub,List.cons_append,List.nil_append,List.append_nil,List.length_cons,List.length_nil,e0]
   exact ⟨_,_,rfl,Stir.refl d u,rfl,⟨0,rfl,by omega,.inr rfl⟩,hd⟩
  ·have e0:decide (n<2)=false:=by simpa using hlow
   simp (disch:=first|omega|(with_unfolding_all exact rfl)|(simp only[new_n,put_n,new_m];omega)|(refine put_m_le ?_;simp only[new_m];omega)) only [res33,K33r0,K33r1,K33r2,K33r3,K33,Abs.W,reduceIte,Nat.reduceEqDiff,Nat.reduceAdd,decide_true,decide_false,kLoop_def,Nat.reduceSub,List.cons_append,List.nil_append,List.append_nil,List.length_cons,List.length_nil,e0]
   generalize hc:call _ _ _ (.fn 30) _ _=r1
   obtain ⟨y,w,rfl,sw,dw,y0,y1⟩:=roll_ex hc (by omega) hd (by omega) (by omega)
   have q0:0≤shrI y 2:=shrI_nonneg _ _ y0
   have q2:0≤(shrI y 2).tmod n:=Int.tmod_nonneg _ q0
   have q3:(shrI y 2).tmod n<n:=Int.tmod_lt_of_pos _ (by omega)
   have w1:wrapA .u64 n=n:=wrap_u64 n (by omega)
   have w2:wrapA .i64 ((shrI y 2).tmod n)=(shrI y 2).tmod n:=wrap_in _ (by omega)
   have w3:∀ s,aRem s .u64 (shrI y 2) n=.val (.int .u64 ((shrI y 2).tmod n)) s:=fun s=>aRem_ne s _ _ _ (by omega)
   simp (disch:=first|omega|(with_unfolding_all exact rfl)|(simp only[new_n,put_n,new_m];omega)|(refine put_m_le ?_;simp only[new_m];omega)) only [res33,K33r0,K33r1,K33r2,K33r3,K33,Abs.W,reduceIte,Nat.reduceEqDiff,Nat.reduceAdd,decide_true,decide_false,kLoop_def,Nat.reduceSub,List.cons_append,List.nil_append,List.append_nil,List.length_cons,List.length_nil,ints_u64,kShr_def,shrA_u64,cviA_int,w1,w2,w3]
   exact ⟨_,_,rfl,sw,rfl,⟨_,rfl,q2,.inl q3⟩,dw⟩) (by omega)
 exact ⟨x,t,hr.symm.trans e,st,hd',x0,x1⟩
theorem from_ex {N d:Nat} {lo hi:Int} {s:St} {r:ARes} (hr:call Try.prog X N (.fn 31) [.ptr d 0,.int .i64 lo,.int .i64 hi] s=r) (hN:3≤N) (hd:Die d s.h) (hlt:d<s.n) (hs:s.n+200≤far)
  (h0 : -100000000≤lo) (h1:lo≤100000000) (h2 : -100000000≤hi) (h3:hi≤100000000) :
  ∃ x t,r=.val (.int .i64 x) t∧Stir d s t 0∧Die d t.h∧lo≤x∧(x≤hi∨x=lo):=by
 obtain ⟨m,rfl⟩:∃ m,N=m+1:=⟨N - 1,by omega⟩
 have hf:far=1000000000:=rfl
 obtain ⟨v,t,e,st,⟨x,rfl,x0,x1⟩,hd'⟩:=call_stir_plain (n:=m) (args:=[.ptr d 0,.int .i64 lo,.int .i64 hi]) (d:=d) (k:=0) (Q:=fun v=>∃ x,v=.int .i64 x∧lo≤x∧(x≤hi∨x=lo)) (R:=Die d) Try.func31 hd (fun u uh un um=>by
  rw [← uh] at hd
  have a1:∀ s,aSub s .i64 hi lo=.val (.int .i64 (hi - lo)) s:=fun s=>aSub_i64 s _ _ (by omega)
  have a2:∀ s,aAdd s .i64 (hi - lo) 1=.val (.int .i64 (hi - lo+1)) s:=fun s=>aAdd_i64 s _ _ (by omega)
  rw [enter31]
  simp (disch:=first|omega|(with_unfolding_all exact rfl)|(simp only[new_n,put_n,new_m];omega)|(refine put_m_le ?_;simp only[new_m];omega)) only [res31,K31r0,K31r1,K31,Abs.W,reduceIte,Nat.reduceEqDiff,Nat.reduceAdd,decide_true,decide_false,kLoop_def,Nat.reduceSub,List.cons_append,List.nil_append,List.append_nil,List.length_cons,List.length_nil,a1,a2]
  generalize hc:call _ _ _ (.fn 33) _ _=r1
  obtain ⟨y,w,rfl,sw,dw,y0,y1⟩:=cast_ex hc (by omega) hd (by omega) (by omega) (by omega)
  have a3:∀ s,aAdd s .i64 lo y=.val (.int .i64 (lo+y)) s:=fun s=>aAdd_i64 s _ _ (by omega)
  simp (disch:=first|omega|(with_unfolding_all exact rfl)|(simp only[new_n,put_n,new_m];omega)|(refine put_m_le ?_;simp only[new_m];omega)) only [res31,K31r0,K31r1,K31,Abs.W,reduceIte,Nat.reduceEqDiff,Nat.reduceAdd,decide_true,decide_false,kLoop_def,Nat.reduceSub,List.cons_append,List.nil_append,List.append_nil,List.length_cons,List.length_nil,a3]
  exact ⟨_,_,rfl,sw,rfl,⟨_,rfl,by omega,by omega⟩,dw⟩) (by omega)
 exact ⟨x,t,hr.symm.trans e,st,hd',x0,x1⟩
theorem nth_ints:∀ {l:List Int} {i:Nat},i<l.length→∃ x ∈ l,nth (l.map fun x=>AV.int .i64 x) i=.int .i64 x
 | [],i,h=>by simp at h
 | a::l,0,_=>⟨a,List.mem_cons_self ..,rfl⟩
 | a::l,i+1,h=>by
  obtain ⟨x,hx,e⟩:=nth_ints (l:=l) (i:=i) (by simpa using h)
  exact ⟨x,List.mem_cons_of_mem _ hx,e⟩
theorem one_ex {N d b:Nat} {k sz:Nat} (l:List Int) {s:St} {r:ARes} (hr:call Try.prog X N (.fn 32) [.ptr d 0,.slice b 0 k k false] s=r) (hN:3≤N) (hd:Die d s.h) (hlt:d<s.n) (hs:s.n+200≤far)
  (hb:s.h.get b=some (.cells (l.map fun x=>AV.int .i64 x) sz)) (hbn:b<s.n) (hbd:b≠d) (hl:l.length=k) (h0:0<k) (hk:k≤1000) :
  ∃ x t,r=.val (.int .i64 x) t∧Stir d s t 0∧Die d t.h∧x ∈ l:=by
 obtain ⟨m,rfl⟩:∃ m,N=m+1:=⟨N - 1,by omega⟩
 have hf:far=1000000000:=rfl
 obtain ⟨v,t,e,st,⟨x,rfl,hx⟩,hd'⟩:=call_stir_plain (n:=m) (args:=[.ptr d 0,.slice b 0 k k false]) (d:=d) (k:=0) (Q:=fun v=>∃ x,v=.int .i64 x∧x ∈ l) (R:=Die d) Try.func32 hd (fun u uh un um=>by
  rw [← uh] at hd hb
  have e0:decide ((k:Int)=0)=false:=by simp;omega
  rw [enter32]
  simp (disch:=first|omega|(with_unfolding_all exact rfl)|(simp only[new_n,put_n,new_m];omega)|(refine put_m_le ?_;simp only[new_m];omega)) only [res32,K32r0,K32r1,K32r2,K32r3,K32,Abs.W,reduceIte,Nat.reduceEqDiff,Nat.reduceAdd,decide_true,decide_false,kLoop_def,Nat.reduceSub,List.cons_append,List.nil_append,List.append_nil,List.length_cons,List.length_nil,e0]
  generalize hc:call _ _ _ (.fn 33) _ _=r1
  obtain ⟨y,w,rfl,sw,dw,y0,y1⟩:=cast_ex hc (by omega) hd (by omega) (by omega) (by omega)
  obtain ⟨i,rfl⟩:∃ i:Nat,y=i:=⟨y.toNat,by omega⟩
  have hi:i<k:=by omega
  obtain ⟨x,hx,hn⟩:=nth_ints (l:=l) (i:=i) (by omega)
  have hg:w.h.get b=some (.cells (l.map fun x=>AV.int .i64 x) sz):=by rw [sw.same b (by omega) hbd];exact hb
  simp (disch:=first|omega|(with_unfolding_all exact rfl)|(simp only[new_n,put_n,new_m];omega)|(refine put_m_le ?_;simp only[new_m];omega)) only [res32,K32r0,K32r1,K32r2,K32r3,K32,Abs.W,reduceIte,Nat.reduceEqDiff,Nat.reduceAdd,decide_true,decide_false,kLoop_def,Nat.reduceSub,List.cons_append,List.nil_append,List.append_nil,List.length_cons,List.length_nil,ixs_slice _ _ _ _ _ _ _ _ hi,Nat.mul_one,Nat.zero_add,hg,hn]
  exact ⟨_,_,rfl,sw,rfl,⟨x,rfl,hx⟩,dw⟩) (by omega)
 exact ⟨x,t,hr.symm.trans e,st,hd',hx⟩
theorem span_ex {N d:Nat} {lo hi:Int} {s:St} {r:ARes} (hr:call Try.prog X N (.fn 34) [.ptr d 0,.int .i64 lo,.int .i64 hi] s=r) (hN:4≤N) (hd:Die d s.h) (hlt:d<s.n) (hs:s.n+300≤far)
  (h0 : -1000000≤lo) (h1:lo≤hi) (h2:hi≤1000000) :
  ∃ a b t,r=.val (.agg [.int .i64 a,.int .i64 b]) t∧Stir d s t 2∧Die d t.h∧lo≤a∧a≤b∧b≤hi:=by
 obtain ⟨m,rfl⟩:∃ m,N=m+1:=⟨N - 1,by omega⟩
 have hf:far=1000000000:=rfl
 obtain ⟨v,t,e,st,⟨a,b,rfl,x0,x1,x2⟩,hd'⟩:=call_stir_plain (n:=m) (args:=[.ptr d 0,.int .i64 lo,.int .i64 hi]) (d:=d) (k:=2) (Q:=fun v=>∃ a b,v=.agg [.int .i64 a,.int .i64 b]∧lo≤a∧a≤b∧b≤hi) (R:=Die d) Try.func34 hd (fun u uh un um=>by
  rw [← uh] at hd
  have sh:shapeT Try.prog 38=some (some 2):=by kernel_rfl
  rw [enter34]
  simp (disch:=first|omega|(with_unfolding_all exact rfl)|(simp only[new_n,put_n,new_m];omega)|(refine put_m_le ?_;simp only[new_m];omega)) only [res34,K34r0,K34r1,K34r2,K34r3,K34,Abs.W,reduceIte,Nat.reduceEqDiff,Nat.reduceAdd,decide_true,decide_false,kLoop_def,Nat.reduceSub,List.cons_append,List.nil_append,List.append_nil,List.length_cons,List.length_nil]
  generalize hc:call _ _ _ (.fn 31) _ _=r1
  obtain ⟨x,w,rfl,sw,dw,y0,y1⟩:=from_ex hc (by omega) (by obtain ⟨f,hg⟩:=hd;exact ⟨f,by rw [get_new_ne _ _ _ (by omega)];exact hg⟩) (by simp only [new_n];omega) (by simp only [new_n];omega) (by omega) (by omega) (by omega) (by omega)
  have wn:=sw.n
  have wl:=sw.le
  simp only [new_n] at wn wl
  have a1:∀ s,aAdd s .i64 x 4=.val (.int .i64 (x+4)) s:=fun s=>aAdd_i64 s _ _ (by omega)
  simp (disch:=first|omega|(with_unfolding_all exact rfl)|(simp only[new_n,put_n,new_m];omega)|(refine put_m_le ?_;simp only[new_m];omega)) only [res34,K34r0,K34r1,K34r2,K34r3,K34,Abs.W,reduceIte,Nat.reduceEqDiff,Nat.reduceAdd,decide_true,decide_false,kLoop_def,Nat.reduceSub,List.cons_append,List.nil_append,List.append_nil,List.length_cons,List.length_nil,a1,kFold_def,foldA_nil,foldA_cons,minA_i64]
  generalize hc2:call _ _ _ (.fn 32) _ _=r2
  obtain ⟨y,w2,rfl,sw2,dw2,ym⟩:=one_ex [x,min hi (x+4),hi] hc2 (by omega) (by obtain ⟨f,hg⟩:=dw;exact ⟨f,by rw [get_new_ne _ _ _ (by omega)];exact hg⟩) (by simp only [new_n];omega) (by simp only [new_n];omega) (get_new_eq _ _ _ rfl (by omega)) (by simp only [new_n];omega) (by omega) rfl (by omega) (by omega)
  have wn2:=sw2.n
  have wl2:=sw2.le
  simp only [new_n] at wn2 wl2
  have ym':x≤y∧y≤hi:=by
   simp only [List.mem_cons,List.not_mem_nil,or_false] at ym
   omega
  simp (disch:=first|omega|(with_unfolding_all exact rfl)|(simp only[new_n,put_n,new_m];omega)|(refine put_m_le ?_;simp only[new_m];omega)) only [res34,K34r0,K34r1,K34r2,K34r3,K34,Abs.W,reduceIte,Nat.reduceEqDiff,Nat.reduceAdd,decide_true,decide_false,kLoop_def,Nat.reduceSub,List.cons_append,List.nil_append,List.append_nil,List.length_cons,List.length_nil]
  generalize hc3:call _ _ _ (.fn 31) _ _=r3
  obtain ⟨z,w3,rfl,sw3,dw3,z0,z1⟩:=from_ex hc3 (by omega) dw2 (by omega) (by omega) (by omega) (by omega) (by omega) (by omega)
  have wn3:=sw3.n
  have wl3:=sw3.le
  have g:w3.h.get u.n=some (.cells [.int .i64 0,.int .i64 0] (tag 38)):=by
   rw [sw3.same _ (by omega) (by omega),sw2.same _ (by simp only [new_n];omega) (by omega),get_new_ne _ _ _ (by omega),sw.same _ (by simp only [new_n];omega) (by omega)]
   exact get_new_eq _ _ _ rfl (by omega)
  simp (disch:=first|omega|(with_unfolding_all exact rfl)|(simp only[new_n,put_n,new_m];omega)|(refine put_m_le ?_;simp only[new_m];omega)) only [res34,K34r0,K34r1,K34r2,K34r3,K34,Abs.W,reduceIte,Nat.reduceEqDiff,Nat.reduceAdd,decide_true,decide_false,kLoop_def,Nat.reduceSub,List.cons_append,List.nil_append,List.append_nil,List.length_cons,List.length_nil,g]
  have S1:Stir d u w3 2:=((((((Stir.refl d u).new _).trans sw).new _).trans sw2).trans sw3)
  refine ⟨_,_,leave_cell _ _ _ _ sh ?_,S1.put (by omega) _ (.inr (Nat.le_refl _)),rfl,⟨x,z,rfl,by omega,by omega,by omega⟩,?_⟩
  ·simp (disch:=first|omega|(with_unfolding_all exact rfl)|(simp only[new_n,put_n,new_m];omega)|(refine put_m_le ?_;simp only[new_m];omega)) only [Abs.W,reduceIte,Nat.reduceEqDiff,Nat.reduceAdd,decide_true,decide_false,kLoop_def,Nat.reduceSub,List.cons_append,List.nil_append,List.append_nil,List.length_cons,List.length_nil]
  ·obtain ⟨f,hg⟩:=dw3
   exact ⟨f,by rw [get_put_ne' _ _ _ _ (by omega)];exact hg⟩) (by omega)
 exact ⟨a,b,t,hr.symm.trans e,st,hd',x0,x1,x2⟩
end Go.Proofs.Ytamlnddeiokbdaa.walk
