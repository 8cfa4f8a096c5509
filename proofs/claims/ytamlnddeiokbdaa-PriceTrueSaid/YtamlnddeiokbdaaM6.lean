/- The die: numbers of a span, and how it is born. -/
import Derived.Test.YtamlnddeiokbdaaM5
import Derived.Test.YtamlnddeiokbdaaCodes
import Derived.Test.YtamlnddeiokbdaaM3
import Derived.Test.YtamlnddeiokbdaaM1
import Derived.Test.YtamlnddeiokbdaaM4
import Derived.Test.YtamlnddeiokbdaaM2
import Derived.Test.YtamlnddeiokbdaaWalkAll
set_option linter.unusedSimpArgs false
set_option maxHeartbeats 16000000
set_option linter.unusedVariables false
set_option maxRecDepth 10000
namespace Go.Proofs.Ytamlnddeiokbdaa.walk
open Go.Abs Go.Proofs.Ytamlnddeiokbdaa.code
end Go.Proofs.Ytamlnddeiokbdaa.walk
set_option maxRecDepth 10000
namespace Go.Proofs.Ytamlnddeiokbdaa.walk
open Go.Abs Go.Proofs.Ytamlnddeiokbdaa.code
theorem true_ex {N d:Nat} {lo hi:Int} {s:St} {r:ARes} (hr:call Try.prog X N (.fn 42) [.ptr d 0,.agg [.int .i64 lo,.int .i64 hi]] s=r) (hN:5≤N) (hd:Die d s.h) (hlt:d<s.n) (hs:s.n+600≤far)
  (h0 : -1000000≤lo) (h1:lo≤hi) (h2:hi≤1000000) :
  ∃ a t,r=.val (.int .i64 a) t∧Stir d s t 3∧Die d t.h∧lo≤a∧a≤hi:=by
 obtain ⟨n,rfl⟩:∃ n,N=n+1:=⟨N - 1,by omega⟩
 have hff:far=1000000000:=rfl
 obtain ⟨v,t,e,st,⟨x,rfl,q0,q1⟩,hd'⟩:=call_stir_plain (n:=n) (args:=[.ptr d 0,.agg [.int .i64 lo,.int .i64 hi]]) (d:=d) (k:=3) (Q:=fun v=>∃ x:Int,v=.int .i64 x∧lo≤x∧x≤hi) (R:=Die d) Try.func42 hd (fun u uh un um=>by
  rw [← uh] at hd
  rw [enter42]
  simp (disch:=first|omega|(with_unfolding_all exact rfl)|(simp only[new_n,put_n,new_m];omega)|(refine put_m_le ?_;simp only[new_m];omega)) only [res42,K42,K42r0,Abs.W,reduceIte,Nat.reduceEqDiff,Nat.reduceAdd,decide_true,decide_false,kLoop_def,Nat.reduceSub,List.cons_append,List.nil_append,List.append_nil,List.length_cons,List.length_nil]
  obtain ⟨y,hy⟩:∃ y:St,y=u.new (.cells [.int .i64 lo,.int .i64 hi] (tag 38)):=⟨_,rfl⟩
  rw [← hy]
  have yn:y.n=u.n+1:=by rw [hy];rfl
  have ym:y.m=far:=by rw [hy];exact um
  have yg:∀ c,c<u.n→y.h.get c=u.h.get c:=fun c hc=>by rw [hy,get_new_ne _ _ _ (by omega)]
  have y0:y.h.get u.n=some (.cells [.int .i64 lo,.int .i64 hi] (tag 38)):=by rw [hy];exact get_new_eq _ _ _ rfl (by omega)
  have dy:Die d y.h:=by obtain ⟨f,hg⟩:=hd;exact ⟨f,by rw [yg _ (by omega)];exact hg⟩
  simp (disch:=first|omega|(with_unfolding_all exact rfl)|(simp only[new_n,put_n,new_m];omega)|(refine put_m_le ?_;simp only[new_m];omega)) only [K42r1,Abs.W,reduceIte,Nat.reduceEqDiff,Nat.reduceAdd,decide_true,decide_false,kLoop_def,Nat.reduceSub,List.cons_append,List.nil_append,List.append_nil,List.length_cons,List.length_nil,Env.find_set,y0,Nat.reduceAdd,Nat.zero_add]
  generalize hc1:call _ _ _ (.fn 31) _ _=r1
  obtain ⟨x1,t1,rfl,st1,d1,x10,x11⟩:=from_ex hc1 (by omega) dy (by show d<y.n;omega) (by show y.n+200≤far;omega) (by omega) (by omega) (by omega) (by omega)
  have n1:y.n≤t1.n:=st1.n
  have k1:t1.n≤y.n:=st1.le
  have p1:t1.h.get u.n=some (.cells [.int .i64 lo,.int .i64 hi] (tag 38)):=(st1.same u.n (by show u.n<y.n;omega) (by omega)).trans y0
  simp (disch:=first|omega|(with_unfolding_all exact rfl)|(simp only[new_n,put_n,new_m];omega)|(refine put_m_le ?_;simp only[new_m];omega)) only [K42r1,Abs.W,reduceIte,Nat.reduceEqDiff,Nat.reduceAdd,decide_true,decide_false,kLoop_def,Nat.reduceSub,List.cons_append,List.nil_append,List.append_nil,List.length_cons,List.length_nil,Env.find_set,thenT_turn,p1,Nat.reduceAdd,Nat.zero_add]
  generalize hc2:call _ _ _ (.fn 31) _ _=r2
  obtain ⟨x2,t2,rfl,st2,d2,x20,x21⟩:=from_ex hc2 (by omega) d1 (by show d<t1.n;omega) (by show t1.n+200≤far;omega) (by omega) (by omega) (by omega) (by omega)
  have n2:t1.n≤t2.n:=st2.n
  have k2:t2.n≤t1.n:=st2.le
  have p2:t2.h.get u.n=some (.cells [.int .i64 lo,.int .i64 hi] (tag 38)):=(st2.same u.n (by show u.n<t1.n;omega) (by omega)).trans p1
  simp (disch:=first|omega|(with_unfolding_all exact rfl)|(simp only[new_n,put_n,new_m];omega)|(refine put_m_le ?_;simp only[new_m];omega)) only [K42r1,Abs.W,reduceIte,Nat.reduceEqDiff,Nat.reduceAdd,decide_true,decide_false,kLoop_def,Nat.reduceSub,List.cons_append,List.nil_append,List.append_nil,List.length_cons,List.length_nil,Env.find_set,thenT_turn,Nat.reduceAdd,Nat.zero_add]
  generalize hc3:call _ _ _ (.fn 32) _ _=r3
  obtain ⟨x3,t3,rfl,st3,d3,m3⟩:=one_ex [lo,hi,x1,x2] hc3 (by omega) (by obtain ⟨f,hg⟩:=d2;exact ⟨f,by rw [get_new_ne _ _ _ (by show d≠t2.n;omega)];exact hg⟩) (by show d<t2.n+1;omega) (by show t2.n+1+200≤far;omega) (get_new_eq _ _ _ rfl (by show t2.n<_;omega)) (by show t2.n<t2.n+1;omega) (by show t2.n≠d;omega) rfl (by omega) (by omega)
  have x3r:lo≤x3∧x3≤hi:=by
   simp only [List.mem_cons,List.not_mem_nil,or_false] at m3
   omega
  have n3:t2.n+1≤t3.n:=st3.n
  have k3:t3.n≤t2.n+1:=st3.le
  simp (disch:=first|omega|(with_unfolding_all exact rfl)|(simp only[new_n,put_n,new_m];omega)|(refine put_m_le ?_;simp only[new_m];omega)) only [K42r1,Abs.W,reduceIte,Nat.reduceEqDiff,Nat.reduceAdd,decide_true,decide_false,kLoop_def,Nat.reduceSub,List.cons_append,List.nil_append,List.append_nil,List.length_cons,List.length_nil,Env.find_set,thenT_turn]
  have kp:∀ (a b:Heap) (M:Env),a.get u.n=some (.cells [.int .i64 lo,.int .i64 hi] (tag 38))→b.get u.n=some (.cells [.int .i64 lo,.int .i64 hi] (tag 38))→M.find 6=.ptr u.n 0→M.find 8=.ptr u.n 1→keptAll a b M [6,8]=true:=fun a b M h2 h3 h1 h4=>by
   simp only [keptAll_cons,keptAll_nil,h1,h4,keptV_ptr,h2,h3,sameO_cells,Bool.and_self]
  have kp4:∀ (a b:Heap) (M:Env),a.get u.n=some (.cells [.int .i64 lo,.int .i64 hi] (tag 38))→b.get u.n=some (.cells [.int .i64 lo,.int .i64 hi] (tag 38))→M.find 6=.ptr u.n 0→M.find 8=.ptr u.n 1→M.find 17=.ptr u.n 0→M.find 19=.ptr u.n 1→keptAll a b M [6,8,17,19]=true:=fun a b M h2 h3 h1 h4 h5 h6=>by
   simp only [keptAll_cons,keptAll_nil,h1,h4,h5,h6,keptV_ptr,h2,h3,sameO_cells,Bool.and_self]
  rw [endT_kept (s:=⟨t1.h,t1.n,minN y.m t1.m⟩) (kp _ _ _ p1 p2 (by simp only [find_cons,reduceIte,Nat.reduceEqDiff]) (by simp only [find_cons,reduceIte,Nat.reduceEqDiff])),endT_kept (kp4 _ _ _ y0 p1 (by simp only [find_cons,reduceIte,Nat.reduceEqDiff]) (by simp only [find_cons,reduceIte,Nat.reduceEqDiff]) (by simp only [find_cons,reduceIte,Nat.reduceEqDiff]) (by simp only [find_cons,reduceIte,Nat.reduceEqDiff]))]
  simp (disch:=first|omega|(with_unfolding_all exact rfl)|(simp only[new_n,put_n,new_m];omega)|(refine put_m_le ?_;simp only[new_m];omega)) only [res42,Abs.W,reduceIte,Nat.reduceEqDiff,Nat.reduceAdd,decide_true,decide_false,kLoop_def,Nat.reduceSub,List.cons_append,List.nil_append,List.append_nil,List.length_cons,List.length_nil,Env.find_set,endO_nil,regD_ok]
  have h1:=st1.m (show d≤far by omega)
  have h2:=st2.m (show d≤far by omega)
  have h3:=st3.m (show d≤minN (minN y.m t1.m) t2.m by rw [minN_eq,minN_eq];omega)
  have h4:t3.m≤minN (minN y.m t1.m) t2.m:=st3.mle
  rw [minN_eq,minN_eq] at h4
  refine ⟨_,_,rfl,⟨fun c hc hcd=>?_,?_,?_,fun _=>?_,?_⟩,rfl,⟨_,rfl,x3r.1,x3r.2⟩,d3⟩
  ·rw [st3.same c (by show c<t2.n+1;omega) hcd,get_new_ne _ _ _ (by show c≠t2.n;omega)]
   show t2.h.get c=_
   rw [st2.same c (by show c<t1.n;omega) hcd,st1.same c (by show c<y.n;omega) hcd]
   show y.h.get c=_
   rw [yg c hc]
  ·omega
  ·omega
  ·exact h3
  ·omega) (by omega)
 exact ⟨x,t,hr.symm.trans e,st,hd',q0,q1⟩
structure TruJ (u t:St) (d:Nat) (S:List Sale) (Z:List Sold) (v:AV) (bl kk:Nat):Prop where
 die:Die d t.h
 is:IsAt t.h t.n bl 2 (tag 64) (truthRows Z) v
 lo:u.n≤bl
 same:∀ c,c<u.n→c≠d→t.h.get c=u.h.get c
 n:u.n≤t.n
 le:t.n≤u.n+kk
 m:d≤t.m
 mle:t.m≤far
 sal:salesZ Z=S
 ok:AllOk Z
theorem truthRows_snoc (Z:List Sold) (z:Sold):truthRows (Z++[z])=truthRows Z++[[.int .i64 z.2.1,.int .i64 z.2.2]]:=by unfold truthRows;rw [List.map_append];rfl
theorem truth_round (N:Nat) (hN:5≤N) (cx:Ctx) {d p3 nb bl kk i:Nat} {ks kg vb v:AV} {S:List Sale} {Z:List Sold} {u t:St} {L:Env} (J:TruJ u t d (S.take i) Z v bl kk) (hB:RowsAt u.h nb 6 (S.map Sale.cells) vb) (hnb:nb≤u.n) (hF:Fine S)
  (g3:u.h.get p3=some (.cells [ks,kg,vb] (tag 27))) (n3:p3<u.n) (h3:p3≠d) (hd:d<u.n) (hxd:∀ (i:Nat) (hi:i<(S.map Sale.cells).length),∃ b p c sz,b<nb∧b≠d∧(∀ s,ixsA 6 s vb (.int .i64 i)=.val (.ptr b p) s)∧u.h.get b=some (.cells c sz)∧cut p 6 c=some (S.map Sale.cells)[i])
  (hl:S.length≤40) (hs:u.n+kk+2000≤far) (hi:i<S.length)
  (q0:L.find 0=.ptr d 0) (q3:L.find 3=.ptr p3 0) (q5:L.find 5=v) (q6:L.find 6=.int .i64 i) :
  ∃ L1 t1 Z1 v1 bl1,K13l0 (call Try.prog X N) cx L [] t=.done .norm L1 [] t1∧TruJ u t1 d (S.take (i+1)) Z1 v1 bl1 (kk+10)∧L1.find 0=.ptr d 0∧L1.find 3=.ptr p3 0∧L1.find 5=v1∧L1.find 6=.int .i64 (i+1:Nat):=by
 have hf:far=1000000000:=rfl
 obtain ⟨jd,ji,jlo,js,jn,jle,jm,jml,jsal,jok⟩:=J
 have e0:decide ((i:Int)<(S.length:Int))=true:=decide_eq_true (by omega)
 have kv:∀ t,okA (.val v t)=.val v t:=ji.okA
 have kb:∀ t,okA (.val vb t)=.val vb t:=fun t=>okA_ne hB.ne
 have lb:=hB.len
 rw [List.length_map] at lb
 have zl:Z.length=i:=by rw [← List.length_map (f:=Prod.fst),show Z.map Prod.fst=salesZ Z from rfl,jsal,List.length_take];omega
 obtain ⟨x0,o0,cs,sz,r1,r1',r2,r3,r4⟩:=hxd i (by simpa using hi)
 rw [List.getElem_map] at r4
 have hM:=hF _ (List.getElem_mem hi)
 have hst:S.take (i+1)=S.take i++[S[i]]:=List.take_succ_eq_append_getElem hi
 generalize S[i]=M at *
 obtain ⟨m0,m1,m2,m3,m4,m5⟩:=hM
 have c2:cut (o0+2) 2 cs=some [.int .i64 M.gl,.int .i64 M.gh]:=cut_cut r4 rfl
 have c4:cut (o0+4) 2 cs=some [.int .i64 M.cl,.int .i64 M.ch]:=cut_cut r4 rfl
 have t3:=(js p3 n3 h3).trans g3
 have tx:=(js x0 (by omega) r1').trans r3
 have ad:∀ s,aAdd s .i64 (i:Int) 1=.val (.int .i64 ((i:Int)+1)) s:=fun s=>aAdd_i64 s _ _ (by omega)
 simp (disch:=first|omega|(with_unfolding_all exact rfl)|(simp only[new_n,put_n,new_m];omega)|(refine put_m_le ?_;simp only[new_m];omega)) only [K13l0,K13r3,K13r4,Abs.W,reduceIte,Nat.reduceEqDiff,Nat.reduceAdd,decide_true,decide_false,kLoop_def,Nat.reduceSub,List.cons_append,List.nil_append,List.append_nil,List.length_cons,List.length_nil,Env.find_set,q0,q3,q5,q6,kv,kb,lb,e0,t3,tx,r2,c2,Nat.zero_add]
 generalize hc1:call _ _ _ (.fn 42) _ _=rr1
 obtain ⟨a,t1,rfl,st1,d1,a0,a1⟩:=true_ex hc1 (by omega) jd (by show d<t.n;omega) (by show t.n+600≤far;omega) (by omega) (by omega) (by omega)
 have n1:t.n≤t1.n:=st1.n
 have k1:t1.n≤t.n+3:=st1.le
 have g1:∀ c,c<t.n→c≠d→t1.h.get c=t.h.get c:=fun c hc hcd=>st1.same c hc hcd
 have mm1:d≤t1.m:=st1.m (by show d≤far;omega)
 have b3:=(g1 p3 (by omega) h3).trans t3
 have bx:=(g1 x0 (by omega) r1').trans tx
 simp (disch:=first|omega|(with_unfolding_all exact rfl)|(simp only[new_n,put_n,new_m];omega)|(refine put_m_le ?_;simp only[new_m];omega)) only [thenT_turn,Abs.W,reduceIte,Nat.reduceEqDiff,Nat.reduceAdd,decide_true,decide_false,kLoop_def,Nat.reduceSub,List.cons_append,List.nil_append,List.append_nil,List.length_cons,List.length_nil,Env.find_set,q0,q3,q6,kb,b3,bx,r2,c4,Nat.zero_add]
 generalize hc2:call _ _ _ (.fn 42) _ _=rr2
 obtain ⟨c,t2,rfl,st2,d2,a2,a3⟩:=true_ex hc2 (by omega) d1 (by show d<t1.n;omega) (by show t1.n+600≤far;omega) (by omega) (by omega) (by omega)
 have n2:t1.n≤t2.n:=st2.n
 have k2:t2.n≤t1.n+3:=st2.le
 have g2:∀ c,c<t.n→c≠d→t2.h.get c=t.h.get c:=fun c hc hcd=>(st2.same c (by show c<t1.n;omega) hcd).trans (g1 c hc hcd)
 have mm2:d≤t2.m:=st2.m (by simp only [minN_eq];omega)
 have ml2:t2.m≤minN t.m t1.m:=st2.mle
 rw [minN_eq] at ml2
 obtain ⟨y,hy⟩:∃ y:St,y=t2.new (.cells [.int .i64 a,.int .i64 c] 0):=⟨_,rfl⟩
 have yn:y.n=t2.n+1:=by rw [hy];rfl
 have ym:y.m=t2.m:=by rw [hy];rfl
 have yg:∀ c,c<t2.n→y.h.get c=t2.h.get c:=fun c hc=>by rw [hy,get_new_ne _ _ _ (by omega)]
 have yp:y.h.get t2.n=some (.cells [.int .i64 a,.int .i64 c] 0):=by rw [hy];exact get_new_eq _ _ _ rfl (by omega)
 obtain ⟨s7,e7,l7,s7n,s7g,s7m,s7l⟩:=append_at (bytes:=16) (ji.mono (h':=y.h) (n':=y.n) (fun h=>(yg bl (by omega)).trans (g2 bl (by omega) (by omega))) (by omega)) yp rfl rfl (by rw [truthRows_len];omega) (by kernel_rfl) (by omega)
 rw [truthRows_len] at e7 l7
 obtain ⟨v7,hv7⟩:∃ v7,v7=AV.slice y.n 0 (Z.length+1) (Z.length+1) true:=⟨_,rfl⟩
 rw [← hv7] at e7 l7
 have kv7:∀ t,okA (.val v7 t)=.val v7 t:=fun t=>by rw [hv7];rfl
 simp (disch:=first|omega|(with_unfolding_all exact rfl)|(simp only[new_n,put_n,new_m];omega)|(refine put_m_le ?_;simp only[new_m];omega)) only [Abs.W,reduceIte,Nat.reduceEqDiff,Nat.reduceAdd,decide_true,decide_false,kLoop_def,Nat.reduceSub,List.cons_append,List.nil_append,List.append_nil,List.length_cons,List.length_nil,Env.find_set,q5,kv,← hy,e7,kv7,Nat.zero_add]
 rw [endT_kept (l:=[24,28]) (s':=t1) (by simp only [keptAll_cons,keptAll_nil,find_cons,Env.find_set,keptV_ptr,t3,b3,tx,bx,sameO_cells,reduceIte,Nat.reduceEqDiff,Bool.and_self])]
 rw [endO_ok _ (endOk_nil _)]
 simp (disch:=first|omega|(with_unfolding_all exact rfl)|(simp only[new_n,put_n,new_m];omega)|(refine put_m_le ?_;simp only[new_m];omega)) only [res13,K13r0,K13r1,K13r2,K13r3,K13r4,K13r5,K13r6,K13,Abs.W,reduceIte,Nat.reduceEqDiff,Nat.reduceAdd,decide_true,decide_false,kLoop_def,Nat.reduceSub,List.cons_append,List.nil_append,List.append_nil,List.length_cons,List.length_nil,Env.find_set,q6,ad,Nat.zero_add]
 have dm:=s7m d (by omega) (by omega) (by omega)
 refine ⟨_,_,Z++[(M,(a,c))],v7,y.n,rfl,⟨d2.keep ?_,?_,by omega,fun c hc hcd=>?_,by omega,by omega,dm,by omega,?_,?_⟩,?_,?_,?_,?_⟩
 ·rw [s7g d (by omega) (by omega),yg d (by omega)]
 ·rw [truthRows_snoc];exact l7
 ·rw [s7g c (by omega) (by omega),yg c (by omega),g2 c (by omega) hcd];exact js c hc hcd
 ·rw [hst,← jsal];simp [salesZ]
 ·intro z hz
  rcases List.mem_append.mp hz with hz | hz
  ·exact jok z hz
  ·rw [List.mem_singleton.mp hz]
   exact ⟨m0,a0,a1,m2,m3,a2,a3,m5⟩
 ·simp only [Env.find_set,q0,reduceIte,Nat.reduceEqDiff]
 ·simp only [Env.find_set,q3,reduceIte,Nat.reduceEqDiff]
 ·simp only [Env.find_set,reduceIte,Nat.reduceEqDiff]
 ·simp only [Env.find_set,reduceIte,Nat.reduceEqDiff];rfl
end Go.Proofs.Ytamlnddeiokbdaa.walk
set_option maxRecDepth 10000
namespace Go.Proofs.Ytamlnddeiokbdaa.walk
open Go.Abs Go.Proofs.Ytamlnddeiokbdaa.code
theorem salesOf_ok (N:Nat) (hN:1≤N) (l:List AV) (g:Int) (s:St) (hsc:scalars l=true) (hs:s.n+100≤far):call Try.prog X N (.fn 44) [.agg l,.int .i64 g] s=.val (.func 64 [] [.ptr s.n 0,.ptr (s.n+1) 0]) ((s.new (.cells l (tag 27))).new (.cells [.int .i64 g] (tag 3))):=by
 obtain ⟨n,rfl⟩:∃ n,N=n+1:=⟨N - 1,by omega⟩
 have hf:far=1000000000:=rfl
 obtain ⟨v,t,e,st,hv,hh⟩:=call_new (n:=n) (args:=[.agg l,.int .i64 g]) (s:=s) (k:=2) (Q:=fun v h n=>v=.func 64 [] [.ptr s.n 0,.ptr (s.n+1) 0]∧h=((s.new (.cells l (tag 27))).new (.cells [.int .i64 g] (tag 3))).h∧n=s.n+2) Try.func44 rfl (fun u uh un um=>by
  rw [enter44]
  simp (disch:=first|omega|(with_unfolding_all exact rfl)|(simp only[new_n,put_n,new_m];omega)|(refine put_m_le ?_;simp only[new_m];omega)) only [res44,K44r0,K44r1,K44,Abs.W,reduceIte,Nat.reduceEqDiff,Nat.reduceAdd,decide_true,decide_false,kLoop_def,Nat.reduceSub,List.cons_append,List.nil_append,List.append_nil,List.length_cons,List.length_nil,hsc,boxIntE,kFuncE',okA_fnv]
  refine ⟨_,_,rfl,((Beside.refl u (by omega) um).new _).new _,rfl,by simp only [new_n];rw [un],?_,?_⟩
  ·show ((u.new _).new _).h=((s.new _).new _).h
   unfold St.new
   simp only [uh,un]
  ·show u.n+1+1=_
   omega)
 rw [e,hv]
 congr 1
 obtain ⟨th,tn,tm⟩:=t
 have m1:tm=s.m:=st.m
 obtain ⟨h1,h2⟩:=hh
 simp only at h1 h2
 subst h1 h2 m1
 rfl
section
variable {M nb cb p8 z8:Nat} {H:Heap} {g:FuncId} {cap:List AV} {T:List Sale} {s:St}
theorem priceA_ok (hi:Bool) (hM:2≤M) (hh:∀ N,Hands Try.prog X N (N+1) nb cb H g cap (fun s:Sale=>.agg s.cells) T) (hF:Fine T) (hl:T.length≤40) (hcb:cb≤100) (hH:∀ y,y<nb→s.h.get y=H.get y) (hnb:nb≤s.n) (h8:s.h.get p8=some (.cells [.func g [] cap] z8)) (n8:p8<s.n) (hs:s.n+300000≤far) :
  call Try.prog X (M+4) (.fn 45) (.agg (endV hi)::[.ptr p8 0]) s=.val (.int .i64 (weighI hi T)) s:=by
 have hff:far=1000000000:=rfl
 refine call_plain' (n:=M+3) Try.func45 (fun u uh un um=>?_) rfl
 have scE:=endV_cells hi
 obtain ⟨w,hw⟩:∃ w:St,w=u.new (.cells (endV hi) (tag 82)):=⟨_,rfl⟩
 have wn:w.n=u.n+1:=by rw [hw];rfl
 have wm:w.m=far:=by rw [hw];exact um
 have wg:∀ c,c<u.n→w.h.get c=u.h.get c:=fun c hc=>by rw [hw,get_new_ne _ _ _ (by omega)]
 have w0:w.h.get u.n=some (.cells [hereV hi,hereV (!hi)] (tag 82)):=by rw [hw];exact get_new_eq _ _ _ rfl (by omega)
 have w8:w.h.get p8=some (.cells [.func g [] cap] z8):=by rw [wg p8 (by omega),uh];exact h8
 have we:=weighs_ok (M:=M) (s:=w) hi hM (hh (M+1)) hF hl hcb (fun y hy=>by rw [wg y (by omega),uh];exact hH y hy) (by omega) (by omega)
 unfold endV at we
 rw [enter45]
 simp (disch:=first|omega|(with_unfolding_all exact rfl)|(simp only[new_n,put_n,new_m];omega)|(refine put_m_le ?_;simp only[new_m];omega)) only [K45,K45r0,res45,Abs.W,reduceIte,Nat.reduceEqDiff,Nat.reduceAdd,decide_true,decide_false,kLoop_def,Nat.reduceSub,List.cons_append,List.nil_append,List.append_nil,List.length_cons,List.length_nil,Env.find_set,scE,Nat.zero_add]
 rw [← hw]
 clear hw
 simp (disch:=first|omega|(with_unfolding_all exact rfl)|(simp only[new_n,put_n,new_m];omega)|(refine put_m_le ?_;simp only[new_m];omega)) only [K45r1,Abs.W,reduceIte,Nat.reduceEqDiff,Nat.reduceAdd,decide_true,decide_false,kLoop_def,Nat.reduceSub,List.cons_append,List.nil_append,List.append_nil,List.length_cons,List.length_nil,Env.find_set,w0,w8,okA_end,okA_fnv,we,Nat.zero_add]
 exact ⟨_,rfl,by omega⟩
theorem priceB_ok (hi:Bool) (hM:7≤M) (hh:∀ N,Hands Try.prog X N (N+1) nb cb H g cap (fun s:Sale=>.agg s.cells) T) (hF:Fine T) (hl:T.length≤40) (hcb:cb≤100) (hH:∀ y,y<nb→s.h.get y=H.get y) (hnb:nb≤s.n) (h8:s.h.get p8=some (.cells [.func g [] cap] z8)) (n8:p8<s.n) (hs:s.n+2100000≤far) :
  call Try.prog X (M+7) (.fn 47) (.agg (endV hi)::[.ptr p8 0]) s=.val (.int .i64 (priceI hi T)) s:=by
 have hff:far=1000000000:=rfl
 refine call_plain' (n:=M+6) Try.func47 (fun u uh un um=>?_) rfl
 have scE:=endV_cells hi
 obtain ⟨w,hw⟩:∃ w:St,w=u.new (.cells (endV hi) (tag 82)):=⟨_,rfl⟩
 have wn:w.n=u.n+1:=by rw [hw];rfl
 have wm:w.m=far:=by rw [hw];exact um
 have wg:∀ c,c<u.n→w.h.get c=u.h.get c:=fun c hc=>by rw [hw,get_new_ne _ _ _ (by omega)]
 have w0:w.h.get u.n=some (.cells [hereV hi,hereV (!hi)] (tag 82)):=by rw [hw];exact get_new_eq _ _ _ rfl (by omega)
 have w8:w.h.get p8=some (.cells [.func g [] cap] z8):=by rw [wg p8 (by omega),uh];exact h8
 have we:=price_ok (M:=M) (s:=w) hi hM hh hF hl hcb (fun y hy=>by rw [wg y (by omega),uh];exact hH y hy) (by omega) (by omega)
 unfold endV at we
 rw [enter47]
 simp (disch:=first|omega|(with_unfolding_all exact rfl)|(simp only[new_n,put_n,new_m];omega)|(refine put_m_le ?_;simp only[new_m];omega)) only [K47,K47r0,res47,Abs.W,reduceIte,Nat.reduceEqDiff,Nat.reduceAdd,decide_true,decide_false,kLoop_def,Nat.reduceSub,List.cons_append,List.nil_append,List.append_nil,List.length_cons,List.length_nil,Env.find_set,scE,Nat.zero_add]
 rw [← hw]
 clear hw
 simp (disch:=first|omega|(with_unfolding_all exact rfl)|(simp only[new_n,put_n,new_m];omega)|(refine put_m_le ?_;simp only[new_m];omega)) only [K47r1,Abs.W,reduceIte,Nat.reduceEqDiff,Nat.reduceAdd,decide_true,decide_false,kLoop_def,Nat.reduceSub,List.cons_append,List.nil_append,List.append_nil,List.length_cons,List.length_nil,Env.find_set,w0,w8,okA_end,okA_fnv,we,Nat.zero_add]
 exact ⟨_,rfl,by omega⟩
end
def verdI (best worst:Bool):Int:=if worst then 1 else if best then 3 else 2
theorem verd_ok (N:Nat) (hN:1≤N) (a b:Bool) (s:St) (hs:s.n≤far):call Try.prog X N (.fn 49) [.bool a,.bool b] s=.val (.int .i64 (verdI a b)) s:=by
 obtain ⟨n,rfl⟩:∃ n,N=n+1:=⟨N - 1,by omega⟩
 refine call_plain' Try.func49 (fun u uh un um=>?_) rfl
 rw [enter49]
 cases a<;>cases b
 all_goals
  simp (disch:=first|omega|(with_unfolding_all exact rfl)|(simp only[new_n,put_n,new_m];omega)|(refine put_m_le ?_;simp only[new_m];omega)) only [res49,K49r0,K49r1,K49r2,K49r3,K49r4,K49r5,K49,Abs.W,reduceIte,Nat.reduceEqDiff,Nat.reduceAdd,decide_true,decide_false,kLoop_def,Nat.reduceSub,List.cons_append,List.nil_append,List.append_nil,List.length_cons,List.length_nil,Env.find_set]
  exact ⟨_,rfl,by omega⟩
theorem leave_tct {P:Program} (a b:Nat) (t:TypeId) (c:Nat) (L:Env) (s:St) {sh:Option Nat} (hs:shapeT P t=some sh) {v:AV} (h:okA (loadA sh s (L.find b))=.val v s):leaveA P [.tmp a,.cell b t,.tmp c] L [] s=.val (.tup [L.find a,v,L.find c]) s:=by
 unfold leaveA
 simp only [takeDfs,resultsA,hs,h]
 rfl
theorem sold_fine {b:Book} (ok:b.Ok) (good:Int):Fine (soldOf b.sales good):=fun s hs=>by
 obtain ⟨h1,_⟩:=List.mem_filter.mp hs
 obtain ⟨s0,s1,d0,d1,g0,g1,g2,c0,c1,c2⟩:=ok.ok s h1
 exact ⟨g0,g1,g2,c0,c1,c2⟩
theorem sold_len {b:Book} (ok:b.Ok) (good:Int):(soldOf b.sales good).length≤40:=Nat.le_trans (List.length_filter_le ..) ok.l
def verdOf (l:List Sale):Int:=verdI (decide (0<weighI true l)) (decide (0<weighI false l))
def priceV (l:List Sale):AV:=.tup [.int .i64 (verdOf l),.agg [.int .i64 (priceI false l),.int .i64 (priceI true l)],.int .i64 0]
theorem Price_ok {N good:Nat} {b:Book} {v:AV} {s:St} (hN:16≤N) (ok:b.Ok) (hg:good<b.goods) (hB:RowsAt s.h s.n 6 (b.sales.map Sale.cells) v) (hs:s.n+3000000≤far) :
  call Try.prog X N (.fn 14) [.agg (bookV b v),.int .i64 (good:Int)] s=.val (priceV (soldOf b.sales good)) s:=by
 obtain ⟨n,rfl⟩:∃ n,N=n+1:=⟨N - 1,by omega⟩
 have hf:far=1000000000:=rfl
 have sh2:shapeT Try.prog 38=some (some 2):=by kernel_rfl
 refine call_plain' Try.func14 (fun u uh un um=>?_) rfl
 rw [← uh,← un] at hB
 rw [← un] at hs
 have kv:∀ t,okA (.val v t)=.val v t:=fun t=>okA_ne hB.ne
 have scB:scalars (bookV b v)=true:=by
  have hv:v.scalar=true:=by
   have h:=hB.len u
   cases v<;>first | rfl | cases h
  show scalars [v]=true
  unfold scalars
  rw [hv]
  rfl
 obtain ⟨w,hw⟩:∃ w:St,w=(u.new (.cells (bookV b v) (tag 27))).new (.cells [.int .i64 0,.int .i64 0] (tag 38)):=⟨_,rfl⟩
 have wn:w.n=u.n+2:=by rw [hw];rfl
 have wm:w.m=far:=by rw [hw];exact um
 have wg:∀ c,c<u.n→w.h.get c=u.h.get c:=fun c hc=>by rw [hw,get_new_ne _ _ _ (by simp only [new_n];omega),get_new_ne _ _ _ (by omega)]
 have w0:w.h.get u.n=some (.cells (bookV b v) (tag 27)):=by rw [hw,get_new_ne _ _ _ (by simp only [new_n];omega)];exact get_new_eq _ _ _ rfl (by omega)
 have w1:w.h.get (u.n+1)=some (.cells [.int .i64 0,.int .i64 0] (tag 38)):=by rw [hw];exact get_new_eq _ _ _ rfl (by simp only [new_n];omega)
 have hR:=hB.grow wg (by omega:u.n≤w.n)
 have hck:=fun m=>check_ok n (by omega) b ok v ⟨w.h,w.n,m⟩ hR (by show w.n+4000≤far;omega)
 have hFi:=sold_fine ok (good:Int)
 have hle:=sold_len ok (good:Int)
 have z0:decide ((0:Int)=0)=true:=rfl
 have w0':=w0
 have scB':=scB
 unfold bookV at w0 hw scB hck
 rw [enter14]
 unfold bookV
 simp (disch:=first|omega|(with_unfolding_all exact rfl)|(simp only[new_n,put_n,new_m];omega)|(refine put_m_le ?_;simp only[new_m];omega)) only [K14,K14r0,Abs.W,reduceIte,Nat.reduceEqDiff,Nat.reduceAdd,decide_true,decide_false,kLoop_def,Nat.reduceSub,List.cons_append,List.nil_append,List.append_nil,List.length_cons,List.length_nil,scB,Nat.zero_add]
 try simp only [new_n]
 rw [← hw]
 clear hw
 simp (disch:=first|omega|(with_unfolding_all exact rfl)|(simp only[new_n,put_n,new_m];omega)|(refine put_m_le ?_;simp only[new_m];omega)) only [K14r1,K14r2,Abs.W,reduceIte,Nat.reduceEqDiff,Nat.reduceAdd,decide_true,decide_false,kLoop_def,Nat.reduceSub,List.cons_append,List.nil_append,List.append_nil,List.length_cons,List.length_nil,Env.find_set,new_n,w0,kv,scB,hck,hck w.m,named_ok,or_new2,z0,endO_nil,Nat.zero_add]
 obtain ⟨w2,hw2⟩:∃ w2:St,w2=w.new (.cells [AV.int .i64 0,.int .i64 0] 0):=⟨_,rfl⟩
 rw [← hw2]
 have w2n:w2.n=w.n+1:=by rw [hw2];rfl
 have w2m:w2.m=far:=by rw [hw2];exact wm
 have w2g:∀ c,c<w.n→w2.h.get c=w.h.get c:=fun c hc=>by rw [hw2,get_new_ne _ _ _ (by omega)]
 clear hw2
 have a0:=(w2g u.n (by omega)).trans w0
 have so:=fun s hs=>salesOf_ok n (by omega) [.int .i64 b.stalls,.int .i64 b.goods,v] (good:Int) s scB hs
 simp (disch:=first|omega|(with_unfolding_all exact rfl)|(simp only[new_n,put_n,new_m];omega)|(refine put_m_le ?_;simp only[new_m];omega)) only [K14r4,Abs.W,reduceIte,Nat.reduceEqDiff,Nat.reduceAdd,decide_true,decide_false,kLoop_def,Nat.reduceSub,List.cons_append,List.nil_append,List.append_nil,List.length_cons,List.length_nil,Env.find_set,a0,kv,so,okA_fnv,cellsFn,Nat.zero_add]
 obtain ⟨x,hx⟩:∃ x:St,x=(((w2.new (.cells [.int .i64 b.stalls,.int .i64 b.goods,v] (tag 27))).new (.cells [.int .i64 (good:Int)] (tag 3))).new (.cells [.nilfunc] (tag 89))).put (w2.n+2) (.cells [.func 64 [] [.ptr w2.n 0,.ptr (w2.n+1) 0]] (tag 89)):=⟨_,rfl⟩
 have xn:x.n=w2.n+3:=by rw [hx];rfl
 have xm:x.m=min far (w2.n+2):=by rw [hx];simp only [St.put,minN_eq,new_m,w2m]
 have xg:∀ c,c<w2.n→x.h.get c=w2.h.get c:=fun c hc=>by rw [hx,get_put_ne' _ _ _ _ (by omega),get_new_ne _ _ _ (by simp only [new_n];omega),get_new_ne _ _ _ (by simp only [new_n];omega),get_new_ne _ _ _ (by omega)]
 have x0:x.h.get w2.n=some (.cells [.int .i64 b.stalls,.int .i64 b.goods,v] (tag 27)):=by rw [hx,get_put_ne' _ _ _ _ (by omega),get_new_ne _ _ _ (by simp only [new_n];omega),get_new_ne _ _ _ (by simp only [new_n];omega)];exact get_new_eq _ _ _ rfl (by omega)
 have x1:x.h.get (w2.n+1)=some (.cells [.int .i64 (good:Int)] (tag 3)):=by rw [hx,get_put_ne' _ _ _ _ (by omega),get_new_ne _ _ _ (by simp only [new_n];omega)];exact get_new_eq _ _ _ rfl (by simp only [new_n];omega)
 have x2:x.h.get (w2.n+2)=some (.cells [.func 64 [] [.ptr w2.n 0,.ptr (w2.n+1) 0]] (tag 89)):=by rw [hx];exact get_put_eq _ _ _ _ rfl (by omega)
 try simp only [new_n]
 first | rw [← hx] | skip
 have xw:∀ c,c<w.n→x.h.get c=w.h.get c:=fun c hc=>(xg c (by omega)).trans (w2g c hc)
 have hRx:RowsAt x.h x.n 6 (b.sales.map Sale.cells) v:=hR.grow xw (by omega)
 have hh:∀ N,Hands Try.prog X N (N+1) x.n 10 x.h 64 [.ptr w2.n 0,.ptr (w2.n+1) 0] (fun s:Sale=>.agg s.cells) (soldOf b.sales good):=fun N=>salesOf1_hands ok hRx x0 x1 (by omega) (by omega)
 obtain ⟨n',rfl⟩:∃ n',n=n'+9:=⟨n - 9,by omega⟩
 have b1:∀ y:St,(∀ c,c<x.n→y.h.get c=x.h.get c)→x.n≤y.n→y.n+2200000≤far→call Try.prog X (n'+9) (.fn 38) [.func 45 [] [.ptr (w2.n+2) 0]] y=.val (.agg [.int .i64 (weighI false (soldOf b.sales good)),.int .i64 (weighI true (soldOf b.sales good))]) y:=fun y hy hyn hyf=>between_ok _ _ (by omega) (fun e t ht h3 h4=>by
  have:=priceA_ok (M:=n'+4) (s:=t) (p8:=w2.n+2) e (by omega) hh hFi hle (by omega) (fun c hc=>(ht c (by omega)).trans (hy c hc)) (by omega) ((ht _ (by omega)).trans ((hy _ (by omega)).trans x2)) (by omega) (by omega)
  cases e<;>exact this) (by omega)
 have b2:∀ y:St,(∀ c,c<x.n→y.h.get c=x.h.get c)→x.n≤y.n→y.n+2200000≤far→call Try.prog X (n'+9) (.fn 38) [.func 47 [] [.ptr (w2.n+2) 0]] y=.val (.agg [.int .i64 (priceI false (soldOf b.sales good)),.int .i64 (priceI true (soldOf b.sales good))]) y:=fun y hy hyn hyf=>between_ok _ _ (by omega) (fun e t ht h3 h4=>by
  have:=priceB_ok (M:=n'+1) (s:=t) (p8:=w2.n+2) e (by omega) hh hFi hle (by omega) (fun c hc=>(ht c (by omega)).trans (hy c hc)) (by omega) ((ht _ (by omega)).trans ((hy _ (by omega)).trans x2)) (by omega) (by omega)
  cases e<;>exact this) (by omega)
 have b1x:=b1 x (fun _ _=>rfl) (Nat.le_refl _) (by omega)
 simp (disch:=first|omega|(with_unfolding_all exact rfl)|(simp only[new_n,put_n,new_m];omega)|(refine put_m_le ?_;simp only[new_m];omega)) only [K14r5,Abs.W,reduceIte,Nat.reduceEqDiff,Nat.reduceAdd,decide_true,decide_false,kLoop_def,Nat.reduceSub,List.cons_append,List.nil_append,List.append_nil,List.length_cons,List.length_nil,Env.find_set,kFuncE',okA_fnv,b1x,Nat.zero_add]
 obtain ⟨y,hy⟩:∃ y:St,y=(x.new (.cells [.int .i64 0,.int .i64 0] (tag 38))).put x.n (.cells [.int .i64 (weighI false (soldOf b.sales good)),.int .i64 (weighI true (soldOf b.sales good))] (tag 38)):=⟨_,rfl⟩
 have yn:y.n=x.n+1:=by rw [hy];rfl
 have ym:y.m=min x.m x.n:=by rw [hy];simp only [St.put,minN_eq,new_m]
 have yg:∀ c,c<x.n→y.h.get c=x.h.get c:=fun c hc=>by rw [hy,get_put_ne' _ _ _ _ (by omega),get_new_ne _ _ _ (by omega)]
 have yx:y.h.get x.n=some (.cells [.int .i64 (weighI false (soldOf b.sales good)),.int .i64 (weighI true (soldOf b.sales good))] (tag 38)):=by rw [hy];exact get_put_eq _ _ _ _ rfl (by omega)
 rw [← hy]
 clear hy
 have b2y:=b2 y yg (by omega) (by omega)
 have y5:=(yg (u.n+1) (by omega)).trans ((xw (u.n+1) (by omega)).trans w1)
 simp (disch:=first|omega|(with_unfolding_all exact rfl)|(simp only[new_n,put_n,new_m];omega)|(refine put_m_le ?_;simp only[new_m];omega)) only [K14r6,Abs.W,reduceIte,Nat.reduceEqDiff,Nat.reduceAdd,decide_true,decide_false,kLoop_def,Nat.reduceSub,List.cons_append,List.nil_append,List.append_nil,List.length_cons,List.length_nil,Env.find_set,kFuncE',okA_fnv,b2y,y5,Nat.zero_add]
 obtain ⟨z,hz⟩:∃ z:St,z=y.put (u.n+1) (.cells [.int .i64 (priceI false (soldOf b.sales good)),.int .i64 (priceI true (soldOf b.sales good))] (tag 38)):=⟨_,rfl⟩
 have zn:z.n=y.n:=by rw [hz];rfl
 have zm:z.m=min y.m (u.n+1):=by rw [hz];simp only [St.put,minN_eq]
 have zx:z.h.get x.n=some (.cells [.int .i64 (weighI false (soldOf b.sales good)),.int .i64 (weighI true (soldOf b.sales good))] (tag 38)):=by rw [hz,get_put_ne' _ _ _ _ (by omega)];exact yx
 have z5:z.h.get (u.n+1)=some (.cells [.int .i64 (priceI false (soldOf b.sales good)),.int .i64 (priceI true (soldOf b.sales good))] (tag 38)):=by rw [hz];exact get_put_eq _ _ _ _ rfl (by omega)
 rw [← hz]
 clear hz
 have zf:z.m≤far:=by omega
 simp (disch:=first|omega|(with_unfolding_all exact rfl)|(simp only[new_n,put_n,new_m];omega)|(refine put_m_le ?_;simp only[new_m];omega)) only [K14r7,res14,Abs.W,reduceIte,Nat.reduceEqDiff,Nat.reduceAdd,decide_true,decide_false,kLoop_def,Nat.reduceSub,List.cons_append,List.nil_append,List.append_nil,List.length_cons,List.length_nil,Env.find_set,zx,z5,verd_ok,endO_nil,Nat.zero_add]
 refine ⟨_,leave_tct _ _ _ _ _ _ sh2 ?_,?_⟩
 ·simp only [find_cons,reduceIte,Nat.reduceEqDiff]
  rw [load_ptr,get_put_eq _ _ _ _ rfl (by omega),loadO_cells,partS_some]
  rfl
 ·simp only [St.put,minN_eq];omega
end Go.Proofs.Ytamlnddeiokbdaa.walk
set_option maxRecDepth 10000
namespace Go.Proofs.Ytamlnddeiokbdaa.walk
open Go.Abs Go.Proofs.Ytamlnddeiokbdaa.code
end Go.Proofs.Ytamlnddeiokbdaa.walk
set_option maxRecDepth 10000
namespace Go.Abs
structure StepsTo (l:List Step) (f:Int):Prop where
 f0:l.length=0→f=0
 z:0<l.length→(stepAt l 0).fr=0
 up:∀ i,i+1<l.length→(stepAt l i).fr<(stepAt l (i+1)).fr
 lt:∀ i,i<l.length→0≤(stepAt l i).fr∧(stepAt l i).fr<f
 p:0≤f
 le:f≤5000 * l.length
 s0:∀ i,i<l.length→0≤(stepAt l i).sh
 s1:∀ i,i<l.length→(stepAt l i).sh≤1000
theorem StepsTo.nil:StepsTo [] 0:=⟨fun _=>rfl,fun h=>absurd h (by simp),fun i h=>absurd h (by simp),fun i h=>absurd h (by simp),Int.le_refl _,by simp,fun i h=>absurd h (by simp),fun i h=>absurd h (by simp)⟩
theorem stepAt_old (l:List Step) (m:Step) {i:Nat} (h:i<l.length):stepAt (l++[m]) i=stepAt l i:=by
 unfold stepAt
 simp only [List.getD,List.getElem?_append_left h]
theorem stepAt_end (l:List Step) (m:Step):stepAt (l++[m]) l.length=m:=by
 unfold stepAt
 simp [List.getD]
theorem StepsTo.snoc {l:List Step} {f c x:Int} (h:StepsTo l f) (hc:0≤c∧c≤1000) (hx:1≤x∧x≤5000):StepsTo (l++[⟨f,c⟩]) (f+x):=by
 obtain ⟨f0,z,up,lt,p,le,s0,s1⟩:=h
 have hl:(l++[(⟨f,c⟩:Step)]).length=l.length+1:=by simp
 have last:∀ i,i<(l++[(⟨f,c⟩:Step)]).length→¬ i<l.length→i=l.length:=fun i h1 h2=>by omega
 refine ⟨fun h=>by omega,fun _=>?_,fun i hi=>?_,fun i hi=>?_,by omega,by omega,fun i hi=>?_,fun i hi=>?_⟩
 ·by_cases h:0<l.length
  ·rw [stepAt_old l _ h];exact z h
  ·have e:l=[]:=List.length_eq_zero_iff.mp (by omega)
   subst e
   show f=0
   exact f0 rfl
 ·by_cases h:i+1<l.length
  ·rw [stepAt_old l _ h,stepAt_old l _ (by omega)];exact up i h
  ·have e:i+1=l.length:=by omega
   rw [stepAt_old l _ (by omega),e,stepAt_end]
   exact (lt i (by omega)).2
 ·by_cases h:i<l.length
  ·rw [stepAt_old l _ h];have:=lt i h;omega
  ·rw [last i hi h,stepAt_end];show 0≤f∧f<f+x;omega
 ·by_cases h:i<l.length
  ·rw [stepAt_old l _ h];exact s0 i h
  ·rw [last i hi h,stepAt_end];exact hc.1
 ·by_cases h:i<l.length
  ·rw [stepAt_old l _ h];exact s1 i h
  ·rw [last i hi h,stepAt_end];exact hc.2
theorem StepsTo.ok {l:List Step} {f:Int} (h:StepsTo l f) (h0:1≤l.length) (h1:l.length≤4):StepsOk l :=
 ⟨h0,by omega,h.z (by omega),h.up,fun i hi=>by have:=h.lt i hi;have:=h.le;omega,h.s0,h.s1⟩
end Go.Abs
namespace Go.Proofs.Ytamlnddeiokbdaa.walk
open Go.Abs Go.Proofs.Ytamlnddeiokbdaa.code
structure StepsJ (u t:St) (d:Nat) (l:List Step) (v:AV) (bl kk:Nat):Prop where
 die:Die d t.h
 is:IsAt t.h t.n bl 2 (tag 75) (l.map Step.cells) v
 lo:u.n≤bl
 same:∀ c,c<u.n→c≠d→t.h.get c=u.h.get c
 n:u.n≤t.n
 le:t.n≤u.n+kk
 m:d≤t.m
 mle:t.m≤u.m
theorem steps_round (N:Nat) (hN:4≤N) (cx:Ctx) {d bl kk i:Nat} {l:List Step} {v:AV} {f:Int} {u t:St} {L:Env} (J:StepsJ u t d l v bl kk) (hT:StepsTo l f) (hl:l.length≤10) (hdu:d<u.n) (hs:u.n+kk+2000≤far) (hum:u.m≤far) (hi:i≤1000)
  (q0:L.find 0=.ptr d 0) (q5:L.find 5=v) (q6:L.find 6=.int .i64 f) (q7:L.find 7=.int .i64 (i+1:Nat)) :
  ∃ L1 t1 l1 v1 bl1 f1,K11l0 (call Try.prog X N) cx L [] t=.done .norm L1 [] t1∧StepsJ u t1 d l1 v1 bl1 (kk+5)∧StepsTo l1 f1∧l1.length=l.length+1∧L1.find 0=.ptr d 0∧L1.find 5=v1∧L1.find 6=.int .i64 f1∧L1.find 7=.int .i64 (i:Nat):=by
 have hf:far=1000000000:=rfl
 obtain ⟨jd,ji,jlo,js,jn,jle,jm,jml⟩:=J
 have tp:=hT.p
 have tle:=hT.le
 have e0:decide ((0:Int)<((i+1:Nat):Int))=true:=decide_eq_true (by omega)
 have kv:∀ t,okA (.val v t)=.val v t:=ji.okA
 have sb:∀ s,aSub s .i64 ((i+1:Nat):Int) 1=.val (.int .i64 (i:Int)) s:=fun s=>by rw [aSub_i64 s _ _ (by omega)];congr 2;omega
 simp (disch:=first|omega|(with_unfolding_all exact rfl)|(simp only[new_n,put_n,new_m];omega)|(refine put_m_le ?_;simp only[new_m];omega)) only [K11l0,K11r4,K11r5,Abs.W,reduceIte,Nat.reduceEqDiff,Nat.reduceAdd,decide_true,decide_false,kLoop_def,Nat.reduceSub,List.cons_append,List.nil_append,List.append_nil,List.length_cons,List.length_nil,Env.find_set,Nat.zero_add,q0,q5,q6,q7,kv,e0]
 generalize hc1:call _ _ _ (.fn 33) _ _=r1
 obtain ⟨c,t1,rfl,st1,d1,c0,c1⟩:=cast_ex hc1 (by omega) jd (by omega) (by omega) (by omega)
 have n1:t.n≤t1.n:=st1.n
 have k1:t1.n≤t.n:=st1.le
 have m1:d≤t1.m:=st1.m jm
 have l1:t1.m≤t.m:=st1.mle
 have g1:∀ c,c<t.n→c≠d→t1.h.get c=t.h.get c:=fun c hc hcd=>st1.same c hc hcd
 simp (disch:=first|omega|(with_unfolding_all exact rfl)|(simp only[new_n,put_n,new_m];omega)|(refine put_m_le ?_;simp only[new_m];omega)) only [Abs.W,reduceIte,Nat.reduceEqDiff,Nat.reduceAdd,decide_true,decide_false,kLoop_def,Nat.reduceSub,List.cons_append,List.nil_append,List.append_nil,List.length_cons,List.length_nil,Env.find_set,q0,q5,q6,q7,kv,Nat.zero_add]
 obtain ⟨y,hy⟩:∃ y:St,y=t1.new (.cells [.int .i64 f,.int .i64 c] 0):=⟨_,rfl⟩
 have yn:y.n=t1.n+1:=by rw [hy];rfl
 have ym:y.m=t1.m:=by rw [hy];rfl
 have yg:∀ c,c<t1.n→y.h.get c=t1.h.get c:=fun c hc=>by rw [hy,get_new_ne _ _ _ (by omega)]
 have yp:y.h.get t1.n=some (.cells [.int .i64 f,.int .i64 c] 0):=by rw [hy];exact get_new_eq _ _ _ rfl (by omega)
 have gy:∀ c,c<t.n→c≠d→y.h.get c=t.h.get c:=fun c hc hcd=>(yg c (by omega)).trans (g1 c hc hcd)
 obtain ⟨s7,e7,l7,s7n,s7g,s7m,s7l⟩:=append_at (bytes:=16) (ji.mono (h':=y.h) (n':=y.n) (fun h=>gy bl h (by omega)) (by omega)) yp rfl rfl (by rw [List.length_map];omega) (by kernel_rfl) (by omega)
 have hlen:(l.map Step.cells).length=l.length:=List.length_map ..
 rw [hlen] at e7 l7
 obtain ⟨v7,hv7⟩:∃ v7,v7=AV.slice y.n 0 (l.length+1) (l.length+1) true:=⟨_,rfl⟩
 rw [← hv7] at e7 l7
 rw [← hy]
 have kv7:∀ t,okA (.val v7 t)=.val v7 t:=fun t=>by rw [hv7];rfl
 simp (disch:=first|omega|(with_unfolding_all exact rfl)|(simp only[new_n,put_n,new_m];omega)|(refine put_m_le ?_;simp only[new_m];omega)) only [Abs.W,reduceIte,Nat.reduceEqDiff,Nat.reduceAdd,decide_true,decide_false,kLoop_def,Nat.reduceSub,List.cons_append,List.nil_append,List.append_nil,List.length_cons,List.length_nil,Env.find_set,e7,kv7,q0,q5,q6,q7,K11r6,Nat.zero_add]
 have d7:Die d s7.h:=Die.keep d1 ((s7g d (by omega) (by omega)).trans (yg d (by omega)))
 have m7:=s7m d (by omega) (by omega) (by omega)
 generalize hc2:call _ _ _ (.fn 32) _ _=r2
 obtain ⟨w,t2,rfl,st2,d2,hw⟩:=one_ex [5,100,5000] (b:=s7.n) (sz:=0) hc2 (by omega) (Die.keep d7 (get_new_ne _ _ _ (by omega))) (by rw [new_n];omega) (by rw [new_n];omega) (get_new_eq _ _ _ rfl (by omega)) (by rw [new_n];omega) (by omega) rfl (by omega) (by omega)
 have hw':5≤w∧w≤5000:=by simp at hw;omega
 have n2:s7.n+1≤t2.n:=st2.n
 have k2:t2.n≤s7.n+1+0:=st2.le
 have m2:d≤t2.m:=st2.m (by show d≤s7.m;omega)
 have l2:t2.m≤s7.m:=st2.mle
 have g2:∀ c,c<s7.n→c≠d→t2.h.get c=s7.h.get c:=fun c hc hcd=>(st2.same c (by rw [new_n];omega) hcd).trans (get_new_ne _ _ _ (by omega))
 simp (disch:=first|omega|(with_unfolding_all exact rfl)|(simp only[new_n,put_n,new_m];omega)|(refine put_m_le ?_;simp only[new_m];omega)) only [Abs.W,reduceIte,Nat.reduceEqDiff,Nat.reduceAdd,decide_true,decide_false,kLoop_def,Nat.reduceSub,List.cons_append,List.nil_append,List.append_nil,List.length_cons,List.length_nil,Env.find_set,q0,q6,Nat.zero_add]
 generalize hc3:call _ _ _ (.fn 31) _ _=r3
 obtain ⟨x,t3,rfl,st3,d3,x0,x1⟩:=from_ex hc3 (by omega) d2 (by omega) (by omega) (by omega) (by omega) (by omega) (by omega)
 have n3:t2.n≤t3.n:=st3.n
 have k3:t3.n≤t2.n+0:=st3.le
 have m3:d≤t3.m:=st3.m m2
 have l3:t3.m≤t2.m:=st3.mle
 have g3:∀ c,c<s7.n→c≠d→t3.h.get c=s7.h.get c:=fun c hc hcd=>(st3.same c (by omega) hcd).trans (g2 c hc hcd)
 have ad:∀ s,aAdd s .i64 f x=.val (.int .i64 (f+x)) s:=fun s=>aAdd_i64 s _ _ (by omega)
 simp (disch:=first|omega|(with_unfolding_all exact rfl)|(simp only[new_n,put_n,new_m];omega)|(refine put_m_le ?_;simp only[new_m];omega)) only [res11,K11r0,K11r1,K11r2,K11r3,K11r4,K11r5,K11r6,K11r7,K11r8,K11,Abs.W,reduceIte,Nat.reduceEqDiff,Nat.reduceAdd,decide_true,decide_false,kLoop_def,Nat.reduceSub,List.cons_append,List.nil_append,List.append_nil,List.length_cons,List.length_nil,Env.find_set,q6,q7,ad,sb,Nat.zero_add]
 have hcells:(l.map Step.cells)++[[.int .i64 f,.int .i64 c]]=(l++[(⟨f,c⟩:Step)]).map Step.cells:=by rw [List.map_append];rfl
 refine ⟨_,_,l++[⟨f,c⟩],v7,y.n,f+x,rfl,⟨d3,?_,by omega,fun c hc hcd=>?_,by omega,by omega,m3,by omega⟩,hT.snoc (by omega) (by omega),by simp,?_,?_,?_,?_⟩
 ·rw [← hcells]
  exact l7.mono (fun h=>g3 _ (by omega) (by omega)) (by omega)
 ·rw [g3 c (by omega) hcd,s7g c (by omega) (by omega),gy c (by omega) hcd]
  exact js c hc hcd
 ·simp only [Env.find_set,q0,reduceIte,Nat.reduceEqDiff]
 ·simp only [Env.find_set,reduceIte,Nat.reduceEqDiff]
 ·simp only [Env.find_set,reduceIte,Nat.reduceEqDiff]
 ·simp only [Env.find_set,reduceIte,Nat.reduceEqDiff]
theorem StepsOf_ex {N d:Nat} {s:St} {r:ARes} (hr:call Try.prog X N (.fn 11) [.ptr d 0,.int .i64 4] s=r) (hN:6≤N) (hd:Die d s.h) (hlt:d<s.n) (hs:s.n+6000≤far) :
  ∃ (l:List Step) (bl:Nat) (t:St),r=.val (.slice bl 0 l.length l.length true) t∧Stir d s t 100∧Die d t.h∧StepsOk l∧l.length≤4∧s.n≤bl∧bl<t.n∧t.h.get bl=some (.cells (l.map Step.cells).flatten (2+tag 75)):=by
 obtain ⟨m,rfl⟩:∃ m,N=m+1:=⟨N - 1,by omega⟩
 have hf:far=1000000000:=rfl
 obtain ⟨v,t,e,st,l,bl,rfl,hq1,hq2,hq3,hq4,hq5,hq6⟩:=call_stir (n:=m) (args:=[.ptr d 0,.int .i64 4]) (d:=d) (s:=s) (k:=100) (Q:=fun w h m=>∃ (l:List Step) (bl:Nat),w=.slice bl 0 l.length l.length true∧Die d h∧StepsOk l∧l.length≤4∧s.n≤bl∧bl<m∧h.get bl=some (.cells (l.map Step.cells).flatten (2+tag 75))) Try.func11 rfl (fun u uh un um=>by
  rw [← uh] at hd
  rw [← un] at hlt
  rw [enter11]
  simp (disch:=first|omega|(with_unfolding_all exact rfl)|(simp only[new_n,put_n,new_m];omega)|(refine put_m_le ?_;simp only[new_m];omega)) only [res11,K11r0,K11r1,K11r2,K11r3,K11r4,K11r5,K11r6,K11r7,K11r8,K11,Abs.W,reduceIte,Nat.reduceEqDiff,Nat.reduceAdd,decide_true,decide_false,kLoop_def,Nat.reduceSub,List.cons_append,List.nil_append,List.append_nil,List.length_cons,List.length_nil,Env.find_set]
  generalize hc1:call _ _ _ (.fn 31) _ _=r1
  obtain ⟨x1,t1,rfl,st1,d1,x10,x11⟩:=from_ex hc1 (by omega) hd (by omega) (by omega) (by omega) (by omega) (by omega) (by omega)
  have n1:=st1.n
  have k1:=st1.le
  have m1:=st1.m (by omega)
  have l1:=st1.mle
  obtain ⟨i,rfl⟩:∃ n:Nat,x1=n:=⟨x1.toNat,by omega⟩
  simp (disch:=first|omega|(with_unfolding_all exact rfl)|(simp only[new_n,put_n,new_m];omega)|(refine put_m_le ?_;simp only[new_m];omega)) only [res11,K11r0,K11r1,K11r2,K11r3,K11r4,K11r5,K11r6,K11r7,K11r8,K11,Abs.W,reduceIte,Nat.reduceEqDiff,Nat.reduceAdd,decide_true,decide_false,kLoop_def,Nat.reduceSub,List.cons_append,List.nil_append,List.append_nil,List.length_cons,List.length_nil,Env.find_set,Nat.zero_add]
  generalize hlp:loopN _ rounds _ _ _ _ _=rl
  have hJ:StepsJ t1 t1 d [] .nilslice t1.n (5 * 0):=⟨d1,IsAt.nil _ _ _ _ _,Nat.le_refl _,fun _ _ _=>rfl,Nat.le_refl _,by omega,m1,Nat.le_refl _⟩
  obtain ⟨e,L1,t2,rfl,rfl,l,v,bl,f,J,hT,hl,f5⟩:=loop_of hlp (fun j L' t'=>∃ l v bl f,StepsJ t1 t' d l v bl (5 * j)∧StepsTo l f∧l.length=j∧L'.find 0=.ptr d 0∧L'.find 5=v∧L'.find 6=.int .i64 f∧L'.find 7=.int .i64 ((i - j:Nat):Int))
   (fun e L' t'=>e=.exit 0∧∃ l v bl f,StepsJ t1 t' d l v bl (5 * i)∧StepsTo l f∧l.length=i∧L'.find 5=v) i (by unfold rounds;omega)
   ⟨[],.nilslice,t1.n,0,hJ,StepsTo.nil,rfl,by simp only [find_cons,Env.find_set,reduceIte,Nat.reduceEqDiff],by simp only [find_cons,Env.find_set,reduceIte,Nat.reduceEqDiff],by simp only [find_cons,Env.find_set,reduceIte,Nat.reduceEqDiff],by simp only [find_cons,Env.find_set,reduceIte,Nat.reduceEqDiff];rfl⟩
   (fun j L' t' hj ⟨l,v,bl,f,hJ,hT,hl,q0,q5,q6,q7⟩=>by
    by_cases hlt:j<i
    ·obtain ⟨L2,t2,l2,v2,bl2,f2,z1,z2,z3,z4,z5,z6,z7,z8⟩:=steps_round m (by omega) _ (i:=i - j - 1) hJ hT (by omega) (by omega) (by omega) (by omega) (by omega) q0 q5 q6 (by rw [q7,show i - j - 1+1=i - j by omega])
     exact .inl ⟨hlt,L2,t2,z1,l2,v2,bl2,f2,z2,z3,by omega,z5,z6,z7,z8.trans (by rw [show i - j - 1=i - (j+1) by omega])⟩
    ·obtain rfl:j=i:=by omega
     have e0:decide ((0:Int)<((0:Nat):Int))=false:=rfl
     rw [Nat.sub_self] at q7
     refine .inr ⟨.exit 0,L'.set 12 (.bool false),t',by simp,?_,rfl,l,v,bl,f,hJ,hT,hl,by simp only [Env.find_set,q5,reduceIte,Nat.reduceEqDiff]⟩
     simp (disch:=first|omega|(with_unfolding_all exact rfl)|(simp only[new_n,put_n,new_m];omega)|(refine put_m_le ?_;simp only[new_m];omega)) only [res11,K11r0,K11r1,K11r2,K11r3,K11r4,K11r5,K11r6,K11r7,K11r8,K11,K11l0,Abs.W,reduceIte,Nat.reduceEqDiff,Nat.reduceAdd,decide_true,decide_false,kLoop_def,Nat.reduceSub,List.cons_append,List.nil_append,List.append_nil,List.length_cons,List.length_nil,Env.find_set,q7,e0])
  obtain ⟨jd,ji,jlo,js,jn,jle,jm,jml⟩:=J
  have hne:l.map Step.cells≠[]:=fun h=>by
   have:l.length=0:=by rw [← List.length_map (f:=Step.cells),h];rfl
   omega
  obtain ⟨i1,i2,i3⟩:bl<t2.n∧v=.slice bl 0 l.length l.length true∧t2.h.get bl=some (.cells (l.map Step.cells).flatten (2+tag 75)):=by
   rcases ji.is with ⟨z,_⟩ | ⟨_,z1,z2,z3⟩
   ·exact absurd z hne
   ·rw [List.length_map] at z2;exact ⟨z1,z2,z3⟩
  subst i2
  simp (disch:=first|omega|(with_unfolding_all exact rfl)|(simp only[new_n,put_n,new_m];omega)|(refine put_m_le ?_;simp only[new_m];omega)) only [res11,K11r0,K11r1,K11r2,K11r3,K11r4,K11r5,K11r6,K11r7,K11r8,K11,Abs.W,reduceIte,Nat.reduceEqDiff,Nat.reduceAdd,decide_true,decide_false,kLoop_def,Nat.reduceSub,List.cons_append,List.nil_append,List.append_nil,List.length_cons,List.length_nil,Env.find_set,f5,Nat.zero_add]
  exact ⟨_,_,rfl,⟨fun c hc hcd=>(js c (by omega) hcd).trans (st1.same c hc hcd),by omega,by omega,fun _=>jm,by omega⟩,rfl,l,bl,rfl,jd,hT.ok (by omega) (by omega),by omega,by omega,i1,i3⟩) (by omega)
 exact ⟨l,bl,t,hr.symm.trans e,st,hq1,hq2,hq3,hq4,hq5,hq6⟩
end Go.Proofs.Ytamlnddeiokbdaa.walk
set_option maxRecDepth 10000
namespace Go.Abs
structure Past (u t:St) (k:Nat):Prop where
 same:∀ c,c<u.n→t.h.get c=u.h.get c
 n:u.n≤t.n
 le:t.n≤u.n+k
theorem Past.refl (u:St):Past u u 0:=⟨fun _ _=>rfl,Nat.le_refl _,Nat.le_refl _⟩
theorem Past.new {u t:St} {k:Nat} (h:Past u t k) (o:AObj):Past u (t.new o) (k+1):=⟨fun c hc=>by have:=h.n;rw [get_new_ne _ _ _ (by omega)];exact h.same c hc,by have:=h.n;rw [new_n];omega,by have:=h.le;rw [new_n];omega⟩
theorem Past.put {u t:St} {k b:Nat} (h:Past u t k) (o:AObj) (hb:u.n≤b):Past u (t.put b o) k:=⟨fun c hc=>by rw [get_put_ne' _ _ _ _ (by omega)];exact h.same c hc,h.n,h.le⟩
theorem Past.mono {u t:St} {j k:Nat} (h:Past u t j) (hk:j≤k):Past u t k:=⟨h.same,h.n,by have:=h.le;omega⟩
end Go.Abs
namespace Go.Proofs.Ytamlnddeiokbdaa.walk
open Go.Abs Go.Proofs.Ytamlnddeiokbdaa.code
end Go.Proofs.Ytamlnddeiokbdaa.walk
