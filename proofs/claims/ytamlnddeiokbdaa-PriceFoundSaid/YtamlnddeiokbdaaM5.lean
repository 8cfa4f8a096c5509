/- What truly is sold, made of numbers: truthOf. -/
import Derived.Test.YtamlnddeiokbdaaM4
import Derived.Test.YtamlnddeiokbdaaCodes
import Derived.Test.YtamlnddeiokbdaaM3
import Derived.Test.YtamlnddeiokbdaaM1
import Derived.Test.YtamlnddeiokbdaaWalkAll
set_option linter.unusedSimpArgs false
set_option maxHeartbeats 16000000
set_option linter.unusedVariables false
set_option maxRecDepth 10000
namespace Go.Proofs.Ytamlnddeiokbdaa.walk
open Go.Abs Go.Proofs.Ytamlnddeiokbdaa.code
theorem true_ex {N d:Nat} {lo hi:Int} {s:St} {r:ARes} (hr:call Try.prog X N (.fn 42) [.ptr d 0,.agg [.int .i64 lo,.int .i64 hi]] s=r) (hN:5≤N) (hd:Die d s.h) (hlt:d<s.n) (hs:s.n+600≤far)
  (h0 : -1000000≤lo) (h1:lo≤hi) (h2:hi≤1000000) :
  ∃ a t,r=.val (.int .i64 a) t∧Stir d s t 3∧Die d t.h∧lo≤a∧a≤hi:=by
 obtain ⟨n,rfl⟩:∃ n,N=n+1:=⟨N - 1,by omega⟩
 have hff:far=1000000000:=rfl
 obtain ⟨v,t,e,st,⟨x,rfl,q0,q1⟩,hd'⟩:=call_stir_plain (n:=n) (args:=[.ptr d 0,.agg [.int .i64 lo,.int .i64 hi]]) (d:=d) (k:=3) (Q:=fun v=>∃ x:Int,v=.int .i64 x∧lo≤x∧x≤hi) (R:=Die d) Try.func42 hd (fun u uh un um=>by
  rw [← uh] at hd
  rw [enter42]
  simp (disch:=first|omega|(with_unfolding_all exact rfl)|(simp only[new_n,put_n,new_m];omega)|(refine put_m_le ?_;simp only[new_m];omega)) only [res42,K42,K42r0,Abs.W,reduceIte,Nat.reduceEqDiff,Nat.reduceAdd,decide_true,decide_false,kLoop_def,Nat.reduceSub,List.cons_append,List.nil_append,List.append_nil,List.length_cons,List.length_nil]
  obtain ⟨y,hy⟩:∃ y:St,y=u.new (.cells [.int .i64 lo,.int .i64 hi] (tag 38)):=⟨_,rfl⟩
  rw [← hy]
  have yn:y.n=u.n+1:=by rw [hy];rfl
  have ym:y.m=far:=by rw [hy];exact um
  have yg:∀ c,c<u.n→y.h.get c=u.h.get c:=fun c hc=>by rw [hy,get_new_ne _ _ _ (by omega)]
  have y0:y.h.get u.n=some (.cells [.int .i64 lo,.int .i64 hi] (tag 38)):=by rw [hy];exact get_new_eq _ _ _ rfl (by omega)
  have dy:Die d y.h:=by obtain ⟨f,hg⟩:=hd;exact ⟨f,by rw [yg _ (by omega)];exact hg⟩
  simp (disch:=first|omega|(with_unfolding_all exact rfl)|(simp only[new_n,put_n,new_m];omega)|(refine put_m_le ?_;simp only[new_m];omega)) only [K42r1,Abs.W,reduceIte,Nat.reduceEqDiff,Nat.reduceAdd,decide_true,decide_false,kLoop_def,Nat.reduceSub,List.cons_append,List.nil_append,List.append_nil,List.length_cons,List.length_nil,Env.find_set,y0,Nat.reduceAdd,Nat.zero_add]
  generalize hc1:call _ _ _ (.fn 31) _ _=r1
  obtain ⟨x1,t1,rfl,st1,d1,x10,x11⟩:=from_ex hc1 (by omega) dy (by show d<y.n;omega) (by show y.n+200≤far;omega) (by omega) (by omega) (by omega) (by omega)
  have n1:y.n≤t1.n:=st1.n
  have k1:t1.n≤y.n:=st1.le
  have p1:t1.h.get u.n=some (.cells [.int .i64 lo,.int .i64 hi] (tag 38)):=(st1.same u.n (by show u.n<y.n;omega) (by omega)).trans y0
  simp (disch:=first|omega|(with_unfolding_all exact rfl)|(simp only[new_n,put_n,new_m];omega)|(refine put_m_le ?_;simp only[new_m];omega)) only [K42r1,Abs.W,reduceIte,Nat.reduceEqDiff,Nat.reduceAdd,decide_true,decide_false,kLoop_def,Nat.reduceSub,List.cons_append,List.nil_append,List.append_nil,List.length_cons,List.length_nil,Env.find_set,thenT_turn,p1,Nat.reduceAdd,Nat.zero_add]
  generalize hc2:call _ _ _ (.fn 31) _ _=r2
  obtain ⟨x2,t2,rfl,st2,d2,x20,x21⟩:=from_ex hc2 (by omega) d1 (by show d<t1.n;omega) (by show t1.n+200≤far;omega) (by omega) (by omega) (by omega) (by omega)
  have n2:t1.n≤t2.n:=st2.n
  have k2:t2.n≤t1.n:=st2.le
  have p2:t2.h.get u.n=some (.cells [.int .i64 lo,.int .i64 hi] (tag 38)):=(st2.same u.n (by show u.n<t1.n;omega) (by omega)).trans p1
  simp (disch:=first|omega|(with_unfolding_all exact rfl)|(simp only[new_n,put_n,new_m];omega)|(refine put_m_le ?_;simp only[new_m];omega)) only [K42r1,Abs.W,reduceIte,Nat.reduceEqDiff,Nat.reduceAdd,decide_true,decide_false,kLoop_def,Nat.reduceSub,List.cons_append,List.nil_append,List.append_nil,List.length_cons,List.length_nil,Env.find_set,thenT_turn,Nat.reduceAdd,Nat.zero_add]
  generalize hc3:call _ _ _ (.fn 32) _ _=r3
  obtain ⟨x3,t3,rfl,st3,d3,m3⟩:=one_ex [lo,hi,x1,x2] hc3 (by omega) (by obtain ⟨f,hg⟩:=d2;exact ⟨f,by rw [get_new_ne _ _ _ (by show d≠t2.n;omega)];exact hg⟩) (by show d<t2.n+1;omega) (by show t2.n+1+200≤far;omega) (get_new_eq _ _ _ rfl (by show t2.n<_;omega)) (by show t2.n<t2.n+1;omega) (by show t2.n≠d;omega) rfl (by omega) (by omega)
  have x3r:lo≤x3∧x3≤hi:=by
   simp only [List.mem_cons,List.not_mem_nil,or_false] at m3
   omega
  have n3:t2.n+1≤t3.n:=st3.n
  have k3:t3.n≤t2.n+1:=st3.le
  simp (disch:=first|omega|(with_unfolding_all exact rfl)|(simp only[new_n,put_n,new_m];omega)|(refine put_m_le ?_;simp only[new_m];omega)) only [K42r1,Abs.W,reduceIte,Nat.reduceEqDiff,Nat.reduceAdd,decide_true,decide_false,kLoop_def,Nat.reduceSub,List.cons_append,List.nil_append,List.append_nil,List.length_cons,List.length_nil,Env.find_set,thenT_turn]
  have kp:∀ (a b:Heap) (M:Env),a.get u.n=some (.cells [.int .i64 lo,.int .i64 hi] (tag 38))→b.get u.n=some (.cells [.int .i64 lo,.int .i64 hi] (tag 38))→M.find 6=.ptr u.n 0→M.find 8=.ptr u.n 1→keptAll a b M [6,8]=true:=fun a b M h2 h3 h1 h4=>by
   simp only [keptAll_cons,keptAll_nil,h1,h4,keptV_ptr,h2,h3,sameO_cells,Bool.and_self]
  have kp4:∀ (a b:Heap) (M:Env),a.get u.n=some (.cells [.int .i64 lo,.int .i64 hi] (tag 38))→b.get u.n=some (.cells [.int .i64 lo,.int .i64 hi] (tag 38))→M.find 6=.ptr u.n 0→M.find 8=.ptr u.n 1→M.find 17=.ptr u.n 0→M.find 19=.ptr u.n 1→keptAll a b M [6,8,17,19]=true:=fun a b M h2 h3 h1 h4 h5 h6=>by
   simp only [keptAll_cons,keptAll_nil,h1,h4,h5,h6,keptV_ptr,h2,h3,sameO_cells,Bool.and_self]
  rw [endT_kept (s:=⟨t1.h,t1.n,minN y.m t1.m⟩) (kp _ _ _ p1 p2 (by simp only [find_cons,reduceIte,Nat.reduceEqDiff]) (by simp only [find_cons,reduceIte,Nat.reduceEqDiff])),endT_kept (kp4 _ _ _ y0 p1 (by simp only [find_cons,reduceIte,Nat.reduceEqDiff]) (by simp only [find_cons,reduceIte,Nat.reduceEqDiff]) (by simp only [find_cons,reduceIte,Nat.reduceEqDiff]) (by simp only [find_cons,reduceIte,Nat.reduceEqDiff]))]
  simp (disch:=first|omega|(with_unfolding_all exact rfl)|(simp only[new_n,put_n,new_m];omega)|(refine put_m_le ?_;simp only[new_m];omega)) only [res42,Abs.W,reduceIte,Nat.reduceEqDiff,Nat.reduceAdd,decide_true,decide_false,kLoop_def,Nat.reduceSub,List.cons_append,List.nil_append,List.append_nil,List.length_cons,List.length_nil,Env.find_set,endO_nil,regD_ok]
  have h1:=st1.m (show d≤far by omega)
  have h2:=st2.m (show d≤far by omega)
  have h3:=st3.m (show d≤minN (minN y.m t1.m) t2.m by rw [minN_eq,minN_eq];omega)
  have h4:t3.m≤minN (minN y.m t1.m) t2.m:=st3.mle
  rw [minN_eq,minN_eq] at h4
  refine ⟨_,_,rfl,⟨fun c hc hcd=>?_,?_,?_,fun _=>?_,?_⟩,rfl,⟨_,rfl,x3r.1,x3r.2⟩,d3⟩
  ·rw [st3.same c (by show c<t2.n+1;omega) hcd,get_new_ne _ _ _ (by show c≠t2.n;omega)]
   show t2.h.get c=_
   rw [st2.same c (by show c<t1.n;omega) hcd,st1.same c (by show c<y.n;omega) hcd]
   show y.h.get c=_
   rw [yg c hc]
  ·omega
  ·omega
  ·exact h3
  ·omega) (by omega)
 exact ⟨x,t,hr.symm.trans e,st,hd',q0,q1⟩
structure TruJ (u t:St) (d:Nat) (S:List Sale) (Z:List Sold) (v:AV) (bl kk:Nat):Prop where
 die:Die d t.h
 is:IsAt t.h t.n bl 2 (tag 64) (truthRows Z) v
 lo:u.n≤bl
 same:∀ c,c<u.n→c≠d→t.h.get c=u.h.get c
 n:u.n≤t.n
 le:t.n≤u.n+kk
 m:d≤t.m
 mle:t.m≤far
 sal:salesZ Z=S
 ok:AllOk Z
end Go.Proofs.Ytamlnddeiokbdaa.walk
set_option maxRecDepth 10000
namespace Go.Abs
theorem IsAt.away {h:Heap} {n b w tg d:Nat} {rows:List (List AV)} {v:AV} (r:IsAt h n b w tg rows v) (hb:b≠d):∀ (i:Nat) (hi:i<rows.length),∃ x p c sz,x<n∧x≠d∧(∀ s,ixsA w s v (.int .i64 i)=.val (.ptr x p) s)∧h.get x=some (.cells c sz)∧cut p w c=some rows[i]:=fun i hi=>by
 rcases r.is with ⟨h1,_⟩ | ⟨_,h2,h3,h4⟩
 ·subst h1;simp at hi
 ·subst h3
  exact ⟨b,0+i * w,_,_,h2,hb,fun s=>ixs_slice _ _ _ _ _ _ _ _ hi,h4,by rw [Nat.zero_add];exact flatten_cut r.wide hi⟩
end Go.Abs
namespace Go.Proofs.Ytamlnddeiokbdaa.walk
open Go.Abs Go.Proofs.Ytamlnddeiokbdaa.code
theorem verd_cases (T:List Sale):verdOf T=1∧0<weighI false T∨verdOf T=2∧¬ 0<weighI true T∨verdOf T=3:=by
 unfold verdOf verdI
 by_cases h1:0<weighI false T
 ·exact .inl ⟨by rw [if_pos (decide_eq_true h1)],h1⟩
 ·rw [if_neg (by simpa using h1)]
  by_cases h2:0<weighI true T
  ·exact .inr (.inr (by rw [if_pos (decide_eq_true h2)]))
  ·exact .inr (.inl ⟨by rw [if_neg (by simpa using h2)],h2⟩)
end Go.Proofs.Ytamlnddeiokbdaa.walk
set_option maxRecDepth 10000
namespace Go.Abs
end Go.Abs
namespace Go.Proofs.Ytamlnddeiokbdaa.walk
open Go.Abs Go.Proofs.Ytamlnddeiokbdaa.code
theorem order_cut {h:Heap} {n b m tg k:Nat} {f:List Nat} {v:AV} (B:Blk h n b 1 tg (natRows f) v) (hf:f.length=m) (hk:k≤m) :
  ∃ vo,(∀ s,sliceVal 1 none (some (.int .i64 (k:Int))) s v=.val vo s)∧(∀ s,okA (.val vo s)=.val vo s)∧(∀ s,lenSlA s vo=.val (.int .i64 (k:Int)) s)∧(0<m→∃ e,vo=.slice b 0 k m e):=by
 obtain ⟨e,sz,h1,h2,h3,h4⟩:=B.is
 rw [natRows_len,hf] at h1
 subst h1
 by_cases h0:m=0
 ·obtain rfl:k=0:=by omega
  subst h0
  cases e
  ·exact ⟨.slice b 0 0 0 false,fun s=>rfl,fun s=>rfl,fun s=>rfl,fun h=>by omega⟩
  ·exact ⟨.tail b 0,fun s=>rfl,fun s=>rfl,fun s=>rfl,fun h=>by omega⟩
 ·exact ⟨.slice b 0 k m e,fun s=>slice_to 1 s b 0 m m k e (Nat.le_refl _) hk (by omega),fun s=>rfl,fun s=>rfl,fun _=>⟨e,rfl⟩⟩
structure FfJ (u t:St) (d:Nat) (S:List Sale) (f:List Nat) (F:List Fnd) (v:AV) (bl kk:Nat):Prop where
 die:Die d t.h
 is:IsAt t.h t.n bl 3 (tag 66) (F.map Fnd.cells) v
 lo:u.n≤bl
 same:∀ c,c<u.n→c≠d→t.h.get c=u.h.get c
 n:u.n≤t.n
 le:t.n≤u.n+kk
 m:d≤t.m
 mle:t.m≤far
 sal:F.map Fnd.sale=f
 ok:∀ x ∈ F,∃ h:x.sale<S.length,S[x.sale].gl≤x.gr∧x.gr≤S[x.sale].gh∧S[x.sale].cl≤x.ce∧x.ce≤S[x.sale].ch
theorem ff_round (N:Nat) (hN:5≤N) (cx:Ctx) {d p3 nb bo bl kk k m szo i:Nat} {eo:Bool} {ks kg vb v:AV} {S:List Sale} {f:List Nat} {F:List Fnd} {u t:St} {L:Env} (J:FfJ u t d S (f.take i) F v bl kk) (hB:RowsAt u.h nb 6 (S.map Sale.cells) vb) (hnb:nb≤u.n) (hF:Fine S)
  (g3:u.h.get p3=some (.cells [ks,kg,vb] (tag 27))) (n3:p3<u.n) (h3:p3≠d) (hd:d<u.n) (hxd:∀ (i:Nat) (hi:i<(S.map Sale.cells).length),∃ b p c sz,b<nb∧b≠d∧(∀ s,ixsA 6 s vb (.int .i64 i)=.val (.ptr b p) s)∧u.h.get b=some (.cells c sz)∧cut p 6 c=some (S.map Sale.cells)[i])
  (gbo:u.h.get bo=some (.cells (natRows f).flatten szo)) (bon:bo<u.n) (bod:bo≠d) (hfl:f.length=m) (hm:m≤40) (hfi:f.getD i 0<S.length) (hs:u.n+kk+2000≤far) (hi:i<k) (hk:k≤m)
  (q0:L.find 0=.ptr d 0) (q3:L.find 3=.ptr p3 0) (q5:L.find 5=.slice bo 0 k m eo) (q6:L.find 6=v) (q7:L.find 7=.int .i64 i) :
  ∃ L1 t1 F1 v1 bl1,K26l0 (call Try.prog X N) cx L [] t=.done .norm L1 [] t1∧FfJ u t1 d S (f.take (i+1)) F1 v1 bl1 (kk+20)∧L1.find 0=.ptr d 0∧L1.find 3=.ptr p3 0∧L1.find 5=.slice bo 0 k m eo∧L1.find 6=v1∧L1.find 7=.int .i64 (i+1:Nat):=by
 have hf:far=1000000000:=rfl
 obtain ⟨jd,ji,jlo,js,jn,jle,jm,jml,jsal,jok⟩:=J
 have e0:decide ((i:Int)<(k:Int))=true:=decide_eq_true (by omega)
 have kv:∀ t,okA (.val v t)=.val v t:=ji.okA
 have kb:∀ t,okA (.val vb t)=.val vb t:=fun t=>okA_ne hB.ne
 have hif:i<f.length:=by omega
 have fl:F.length=i:=by rw [← List.length_map (f:=Fnd.sale),jsal,List.length_take];omega
 have ixf:∀ s,ixsA 1 s (.slice bo 0 k m eo) (.int .i64 (i:Int))=.val (.ptr bo i) s:=fun s=>by rw [ixs_slice _ _ _ _ _ _ _ _ hi,Nat.zero_add,Nat.mul_one]
 have nf:=natRows_nth hif
 obtain ⟨x0,o0,cs,sz,r1,r1',r2,r3,r4⟩:=hxd (f.getD i 0) (by rw [List.length_map];exact hfi)
 rw [List.getElem_map] at r4
 have hM:=hF _ (List.getElem_mem hfi)
 have hst:f.take (i+1)=f.take i++[f.getD i 0]:=by
  rw [List.take_succ_eq_append_getElem hif]
  simp [List.getD,hif]
 have hok:∀ a c:Int,S[f.getD i 0].gl≤a→a≤S[f.getD i 0].gh→S[f.getD i 0].cl≤c→c≤S[f.getD i 0].ch→∃ h:(⟨f.getD i 0,a,c⟩:Fnd).sale<S.length,S[(⟨f.getD i 0,a,c⟩:Fnd).sale].gl≤a∧a≤S[(⟨f.getD i 0,a,c⟩:Fnd).sale].gh∧S[(⟨f.getD i 0,a,c⟩:Fnd).sale].cl≤c∧c≤S[(⟨f.getD i 0,a,c⟩:Fnd).sale].ch:=fun a c h1 h2 h3 h4=>⟨hfi,h1,h2,h3,h4⟩
 generalize S[f.getD i 0]=M at *
 generalize f.getD i 0=fi at *
 obtain ⟨m0,m1,m2,m3,m4,m5⟩:=hM
 unfold Sale.cells at r4
 have t3:=(js p3 n3 h3).trans g3
 have tx:=(js x0 (by omega) r1').trans r3
 have tb:=(js bo bon bod).trans gbo
 have ad:∀ s,aAdd s .i64 (i:Int) 1=.val (.int .i64 ((i:Int)+1)) s:=fun s=>aAdd_i64 s _ _ (by omega)
 obtain ⟨x,hx⟩:∃ x:St,x=(t.new (.cells [.int .i64 0,.int .i64 0,.int .i64 0,.int .i64 0,.int .i64 0,.int .i64 0] (tag 51))).put t.n (.cells [.int .i64 M.st,.int .i64 M.gd,.int .i64 M.gl,.int .i64 M.gh,.int .i64 M.cl,.int .i64 M.ch] (tag 51)):=⟨_,rfl⟩
 have xn:x.n=t.n+1:=by rw [hx];rfl
 have xm:x.m=min t.m t.n:=by rw [hx];simp only [St.put,minN_eq,new_m]
 have xg:∀ c,c<t.n→x.h.get c=t.h.get c:=fun c hc=>by rw [hx,get_put_ne' _ _ _ _ (by omega),get_new_ne _ _ _ (by omega)]
 have xc:x.h.get t.n=some (.cells [.int .i64 M.st,.int .i64 M.gd,.int .i64 M.gl,.int .i64 M.gh,.int .i64 M.cl,.int .i64 M.ch] (tag 51)):=by rw [hx];exact get_put_eq _ _ _ _ rfl (by omega)
 simp (disch:=first|omega|(with_unfolding_all exact rfl)|(simp only[new_n,put_n,new_m];omega)|(refine put_m_le ?_;simp only[new_m];omega)) only [K26l0,K26r5,K26r6,Abs.W,reduceIte,Nat.reduceEqDiff,Nat.reduceAdd,decide_true,decide_false,kLoop_def,Nat.reduceSub,List.cons_append,List.nil_append,List.append_nil,List.length_cons,List.length_nil,Env.find_set,q0,q3,q5,q6,q7,kv,kb,e0,t3,tx,tb,ixf,nf,r2,r4,endO_nil,Nat.zero_add]
 rw [← hx]
 clear hx
 have xb:=(xg bo (by omega)).trans tb
 have dx:Die d x.h:=jd.keep (xg d (by omega))
 simp (disch:=first|omega|(with_unfolding_all exact rfl)|(simp only[new_n,put_n,new_m];omega)|(refine put_m_le ?_;simp only[new_m];omega)) only [K26r7,Abs.W,reduceIte,Nat.reduceEqDiff,Nat.reduceAdd,decide_true,decide_false,kLoop_def,Nat.reduceSub,List.cons_append,List.nil_append,List.append_nil,List.length_cons,List.length_nil,Env.find_set,q0,q5,q6,q7,kv,ixf,xb,nf,xc,Nat.zero_add]
 generalize hc1:call _ _ _ (.fn 42) _ _=rr1
 obtain ⟨a,t1,rfl,st1,d1,a0,a1⟩:=true_ex hc1 (by omega) dx (by show d<x.n;omega) (by show x.n+600≤far;omega) (by omega) (by omega) (by omega)
 have n1:x.n≤t1.n:=st1.n
 have k1:t1.n≤x.n+3:=st1.le
 have g1:∀ c,c<x.n→c≠d→t1.h.get c=x.h.get c:=fun c hc hcd=>st1.same c hc hcd
 have mm1:d≤t1.m:=st1.m (by show d≤far;omega)
 have bc:=(g1 t.n (by omega) (by omega)).trans xc
 have bb:=(g1 bo (by omega) bod).trans xb
 simp (disch:=first|omega|(with_unfolding_all exact rfl)|(simp only[new_n,put_n,new_m];omega)|(refine put_m_le ?_;simp only[new_m];omega)) only [thenT_turn,Abs.W,reduceIte,Nat.reduceEqDiff,Nat.reduceAdd,decide_true,decide_false,kLoop_def,Nat.reduceSub,List.cons_append,List.nil_append,List.append_nil,List.length_cons,List.length_nil,Env.find_set,q0,bc,Nat.zero_add]
 generalize hc2:call _ _ _ (.fn 42) _ _=rr2
 obtain ⟨c,t2,rfl,st2,d2,a2,a3⟩:=true_ex hc2 (by omega) d1 (by show d<t1.n;omega) (by show t1.n+600≤far;omega) (by omega) (by omega) (by omega)
 have n2:t1.n≤t2.n:=st2.n
 have k2:t2.n≤t1.n+3:=st2.le
 have g2:∀ c,c<x.n→c≠d→t2.h.get c=x.h.get c:=fun c hc hcd=>(st2.same c (by show c<t1.n;omega) hcd).trans (g1 c hc hcd)
 have gt:∀ c,c<t.n→c≠d→t2.h.get c=t.h.get c:=fun c hc hcd=>(g2 c (by omega) hcd).trans (xg c hc)
 have mm2:d≤t2.m:=st2.m (by show d≤far;omega)
 have cb:=(g2 bo (by omega) bod).trans xb
 simp (disch:=first|omega|(with_unfolding_all exact rfl)|(simp only[new_n,put_n,new_m];omega)|(refine put_m_le ?_;simp only[new_m];omega)) only [thenT_turn,Abs.W,reduceIte,Nat.reduceEqDiff,Nat.reduceAdd,decide_true,decide_false,kLoop_def,Nat.reduceSub,List.cons_append,List.nil_append,List.append_nil,List.length_cons,List.length_nil,Env.find_set,Nat.zero_add]
 obtain ⟨y8,hy8⟩:∃ y8:St,y8=⟨t2.h,t2.n,minN (minN x.m t1.m) t2.m⟩:=⟨_,rfl⟩
 have y8n:y8.n=t2.n:=by rw [hy8]
 have y8h:y8.h=t2.h:=by rw [hy8]
 have y8m:y8.m=min (min x.m t1.m) t2.m:=by rw [hy8];simp only [minN_eq]
 rw [← hy8]
 obtain ⟨y,hy⟩:∃ y:St,y=y8.new (.cells [.int .i64 (fi:Int),.int .i64 a,.int .i64 c] 0):=⟨_,rfl⟩
 have yn:y.n=t2.n+1:=by rw [hy];show y8.n+1=_;rw [y8n]
 have ym:y.m=y8.m:=by rw [hy];rfl
 have yg:∀ c,c<t2.n→y.h.get c=t2.h.get c:=fun c hc=>by rw [hy,get_new_ne _ _ _ (by omega),y8h]
 have yp:y.h.get t2.n=some (.cells [.int .i64 (fi:Int),.int .i64 a,.int .i64 c] 0):=by rw [hy,← y8n];exact get_new_eq _ _ _ rfl (by omega)
 obtain ⟨s7,e7,l7,s7n,s7g,s7m,s7l⟩:=append_at (bytes:=24) (ji.mono (h':=y.h) (n':=y.n) (fun h=>(yg bl (by omega)).trans (gt bl (by omega) (by omega))) (by omega)) yp rfl rfl (by rw [List.length_map,fl];omega) (by kernel_rfl) (by omega)
 rw [List.length_map,fl] at e7 l7
 obtain ⟨v7,hv7⟩:∃ v7,v7=AV.slice y.n 0 (i+1) (i+1) true:=⟨_,rfl⟩
 rw [← hv7] at e7 l7
 have kv7:∀ t,okA (.val v7 t)=.val v7 t:=fun t=>by rw [hv7];rfl
 simp (disch:=first|omega|(with_unfolding_all exact rfl)|(simp only[new_n,put_n,new_m];omega)|(refine put_m_le ?_;simp only[new_m];omega)) only [Abs.W,reduceIte,Nat.reduceEqDiff,Nat.reduceAdd,decide_true,decide_false,kLoop_def,Nat.reduceSub,List.cons_append,List.nil_append,List.append_nil,List.length_cons,List.length_nil,Env.find_set,q6,kv,← hy,e7,kv7,Nat.zero_add]
 rw [endT_kept (l:=[43]) (s':=t2) (by simp only [keptAll_cons,keptAll_nil,find_cons,Env.find_set,keptV_ptr,bb,cb,sameO_cells,reduceIte,Nat.reduceEqDiff,Bool.and_self])]
 rw [endT_kept (l:=[43,50]) (s':=t1) (by simp only [keptAll_cons,keptAll_nil,find_cons,Env.find_set,keptV_ptr,xb,bb,xc,bc,sameO_cells,reduceIte,Nat.reduceEqDiff,Bool.and_self])]
 rw [endO_ok _ (endOk_nil _)]
 simp (disch:=first|omega|(with_unfolding_all exact rfl)|(simp only[new_n,put_n,new_m];omega)|(refine put_m_le ?_;simp only[new_m];omega)) only [K26r8,Abs.W,reduceIte,Nat.reduceEqDiff,Nat.reduceAdd,decide_true,decide_false,kLoop_def,Nat.reduceSub,List.cons_append,List.nil_append,List.append_nil,List.length_cons,List.length_nil,Env.find_set,q7,ad,Nat.zero_add]
 have dm:=s7m d (by omega) (by omega) (by omega)
 have hrow:(F++[(⟨fi,a,c⟩:Fnd)]).map Fnd.cells=F.map Fnd.cells++[[.int .i64 (fi:Int),.int .i64 a,.int .i64 c]]:=by rw [List.map_append];rfl
 refine ⟨_,_,F++[⟨fi,a,c⟩],v7,y.n,rfl,⟨d2.keep ?_,?_,by omega,fun c hc hcd=>?_,by omega,by omega,dm,by omega,?_,?_⟩,?_,?_,?_,?_,?_⟩
 ·rw [s7g d (by omega) (by omega),yg d (by omega)]
 ·rw [hrow];exact l7
 ·rw [s7g c (by omega) (by omega),yg c (by omega),gt c (by omega) hcd];exact js c hc hcd
 ·rw [hst,← jsal,List.map_append];rfl
 ·intro z hz
  rcases List.mem_append.mp hz with hz | hz
  ·exact jok z hz
  ·rw [List.mem_singleton.mp hz]
   exact hok a c a0 a1 a2 a3
 ·simp only [Env.find_set,q0,reduceIte,Nat.reduceEqDiff]
 ·simp only [Env.find_set,q3,reduceIte,Nat.reduceEqDiff]
 ·simp only [Env.find_set,q5,reduceIte,Nat.reduceEqDiff]
 ·simp only [Env.find_set,reduceIte,Nat.reduceEqDiff]
 ·simp only [Env.find_set,reduceIte,Nat.reduceEqDiff];rfl
theorem perm_of {m:Nat} {f:List Nat} (hl:f.length=m) (h:Perm m f):List.Perm f (List.range m):=perm_range m f hl fun j hj=>by
 obtain ⟨p,hp,e⟩:=h.all j hj
 rw [← e]
 simp [List.getD,show p<f.length by omega]
theorem finds_of {S:List Sale} {f:List Nat} {F:List Fnd} {k:Nat} (hl:f.length=S.length) (hp:Perm S.length f) (hs:F.map Fnd.sale=f.take k) (hk:k≤S.length) (ok:∀ x ∈ F,∃ h:x.sale<S.length,S[x.sale].gl≤x.gr∧x.gr≤S[x.sale].gh∧S[x.sale].cl≤x.ce∧x.ce≤S[x.sale].ch) :
  F.length=k∧FindsOk S F∧(F.length=S.length→∀ i,i<S.length→i ∈ F.map Fnd.sale):=by
 have hP:=perm_of hl hp
 have hF:F.length=k:=by rw [← List.length_map (f:=Fnd.sale),hs,List.length_take];omega
 have hnd:(F.map Fnd.sale).Nodup:=by
  rw [hs]
  exact (hP.nodup_iff.mpr List.nodup_range).sublist (List.take_sublist k f)
 refine ⟨hF,⟨fun i h=>(ok _ (List.getElem_mem h)).1,fun i h h'=>?_,fun i h h'=>?_,fun i j hi hj=>?_⟩,fun hfull i hi=>?_⟩
 ·obtain ⟨_,a,b,_,_⟩:=ok _ (List.getElem_mem h);exact ⟨a,b⟩
 ·obtain ⟨_,_,_,a,b⟩:=ok _ (List.getElem_mem h);exact ⟨a,b⟩
 ·intro e
  have h1:=(List.pairwise_iff_getElem.mp hnd) j i (by rw [List.length_map];omega) (by rw [List.length_map];exact hi) hj
  rw [List.getElem_map,List.getElem_map] at h1
  exact h1 e
 ·rw [hs,show k=f.length by omega,List.take_length]
  exact hP.mem_iff.mpr (List.mem_range.mpr hi)
end Go.Proofs.Ytamlnddeiokbdaa.walk
set_option maxRecDepth 10000
namespace Go.Abs
theorem Own.move {h h':Heap} {lo lo' n n' w tg:Nat} {rows:List (List AV)} {v:AV} (r:Own h lo n w tg rows v) (hh:∀ b,lo≤b→b<n→h'.get b=h.get b) (hl:lo'≤lo) (hn:n≤n'):Own h' lo' n' w tg rows v:=by
 refine ⟨r.wide,?_⟩
 rcases r.is with ⟨h1,h2 | ⟨b,h0,h3,h4,h5⟩⟩ | ⟨h1,b,h0,h3,h4,h5⟩
 ·exact .inl ⟨h1,.inl h2⟩
 ·exact .inl ⟨h1,.inr ⟨b,by omega,by omega,h4,by rw [hh b h0 h3];exact h5⟩⟩
 ·exact .inr ⟨h1,b,by omega,by omega,h4,by rw [hh b h0 h3];exact h5⟩
theorem Own.none {h h':Heap} {lo lo' n n' w tg:Nat} {rows:List (List AV)} {v:AV} (r:Own h lo n w tg rows v) (hp:plain v=true):Own h' lo' n' w tg rows v:=by
 rcases r.is with ⟨h1,h2 | ⟨b,_,_,h4,_⟩⟩ | ⟨_,b,_,_,h4,_⟩
 ·subst h1;subst h2;exact ⟨fun x hx=>(by cases hx),.inl ⟨rfl,.inl rfl⟩⟩
 ·subst h4;cases hp
 ·subst h4;cases hp
end Go.Abs
namespace Go.Proofs.Ytamlnddeiokbdaa.walk
open Go.Abs Go.Proofs.Ytamlnddeiokbdaa.code
end Go.Proofs.Ytamlnddeiokbdaa.walk
set_option maxRecDepth 10000
namespace Go.Abs
variable {P:Program}
structure Grow (d:Nat) (u s:St) (k:Nat):Prop where
 same:∀ b,b<u.n→b≠d→s.h.get b=u.h.get b
 n:u.n≤s.n
 le:s.n≤u.n+k
 m:∀ x,x≤d→x≤u.n→x≤u.m→x≤s.m
 mle:s.m≤u.m
theorem Grow.refl (d:Nat) (u:St):Grow d u u 0:=⟨fun _ _ _=>rfl,Nat.le_refl _,Nat.le_refl _,fun _ _ _ h=>h,Nat.le_refl _⟩
theorem Grow.mono {d:Nat} {u s:St} {j k:Nat} (a:Grow d u s j) (h:j≤k):Grow d u s k:=⟨a.same,a.n,by have:=a.le;omega,a.m,a.mle⟩
theorem Grow.new {d:Nat} {u s:St} {k:Nat} (h:Grow d u s k) (o:AObj):Grow d u (s.new o) (k+1) :=
 ⟨fun b hb hd=>by rw [get_new_ne _ _ _ (by have:=h.n;omega)];exact h.same b hb hd,Nat.le_trans h.n (Nat.le_succ _),by have:=h.le;show s.n+1≤_;omega,h.m,h.mle⟩
theorem Grow.put {d:Nat} {u s:St} {k b:Nat} (h:Grow d u s k) (o:AObj) (hb:u.n≤b):Grow d u (s.put b o) k :=
 ⟨fun c hc hcd=>by rw [get_put_ne' _ _ _ _ (by omega)];exact h.same c hc hcd,h.n,h.le,fun x h1 h2 h3=>by
  show x≤minN s.m b
  rw [minN_min]
  have:=h.m x h1 h2 h3
  omega,Nat.le_trans (minN_le_left _ _) h.mle⟩
theorem Grow.after {d:Nat} {u s t:St} {j k:Nat} (a:Grow d u s j) (b:New s t k):Grow d u t (j+k) :=
 ⟨fun c hc hd=>(b.same c (by have:=a.n;omega)).trans (a.same c hc hd),Nat.le_trans a.n b.n,by have:=a.le;have:=b.le;omega,fun x h1 h2 h3=>by rw [b.m];exact a.m x h1 h2 h3,by rw [b.m];exact a.mle⟩
theorem Grow.trans {d e:Nat} {u s t:St} {j k:Nat} (a:Grow d u s j) (b:Grow e s t k) (he:e=d∨u.n≤e):Grow d u t (j+k) :=
 ⟨fun c hc hd=>(b.same c (by have:=a.n;omega) (by omega)).trans (a.same c hc hd),Nat.le_trans a.n b.n,by have:=a.le;have:=b.le;omega,fun x h1 h2 h3=>b.m x (by omega) (by have:=a.n;omega) (a.m x h1 h2 h3),Nat.le_trans b.mle a.mle⟩
theorem over1_eq:∀ (v c:List AV),v.length≤c.length→over1 v c=some (v++c.drop v.length)
 | [],c,_=>by rw [over1_nil];rfl
 | x::v,[],h=>by simp at h
 | x::v,a::c,h=>by rw [over1_cons,over1_eq v c (by simpa using h),consO_some];rfl
theorem over_eq:∀ (p:Nat) (v c:List AV),p+v.length≤c.length→over p v c=some (c.take p++(v++c.drop (p+v.length)))
 | 0,v,[],h=>by
  have:v=[]:=by simpa using h
  subst this;rfl
 | p+1,v,[],h=>by simp at h
 | 0,v,a::c,h=>by rw [over_cons,if_pos rfl,over1_eq v (a::c) (by omega),Nat.zero_add];rfl
 | p+1,v,a::c,h=>by
  rw [over_cons,if_neg (by omega),Nat.add_sub_cancel,over_eq p v c (by simp at h;omega),consO_some]
  rw [show p+1+v.length=p+v.length+1 by omega]
  rfl
def ints' (l:List Nat):List AV:=l.map fun (x:Nat)=>AV.int .i64 (x:Int)
structure LeftAt (h:Heap) (n b:Nat) (l:List Nat) (c:Nat) (v:AV):Prop where
 v:v=.slice b 0 l.length c false
 le:l.length≤c
 lt:b<n
 get:∃ rest,rest.length=c - l.length∧h.get b=some (.cells (ints' l++rest) 0)
end Go.Abs
namespace Go.Proofs.Ytamlnddeiokbdaa.walk
open Go.Abs Go.Proofs.Ytamlnddeiokbdaa.code
end Go.Proofs.Ytamlnddeiokbdaa.walk
namespace Go.Proofs.Ytamlnddeiokbdaa.walk
open Go.Abs Go.Proofs.Ytamlnddeiokbdaa.code
def pushG:Bool→Int→Sale→Int
 | false,p,s=>if s.cl≤p then s.gh else s.gl
 | true,p,s=>if p≤s.ch then s.gh else s.gl
def pushOf (hi:Bool) (p:Int) (s:Sale):Sold:=(s,(pushG hi p s,spanAt hi s.cl s.ch))
def pushZ (hi:Bool) (p:Int) (S:List Sale):List Sold:=S.map (pushOf hi p)
theorem pushZ_sales (hi:Bool) (p:Int) (S:List Sale):salesZ (pushZ hi p S)=S:=by
 unfold salesZ pushZ
 rw [List.map_map]
 exact List.map_id S
theorem pushZ_ok {S:List Sale} (hF:Fine S) (hi:Bool) (p:Int):AllOk (pushZ hi p S):=fun z hz=>by
 obtain ⟨s,hs,rfl⟩:=List.mem_map.mp hz
 obtain ⟨a,b,c,d,e,f⟩:=hF s hs
 cases hi
 ·refine ⟨a,?_,?_,c,d,Int.le_refl _,e,f⟩
  ·show s.gl≤if s.cl≤p then s.gh else s.gl
   split<;>omega
  ·show (if s.cl≤p then s.gh else s.gl)≤s.gh
   split<;>omega
 ·refine ⟨a,?_,?_,c,d,e,Int.le_refl _,f⟩
  ·show s.gl≤if p≤s.ch then s.gh else s.gl
   split<;>omega
  ·show (if p≤s.ch then s.gh else s.gl)≤s.gh
   split<;>omega
theorem Fine.tail {s:Sale} {S:List Sale} (h:Fine (s::S)):Fine S:=fun x hx=>h x (List.mem_cons_of_mem _ hx)
theorem push_low (g p:Int):∀ S:List Sale,Fine S→uptoZ g p (pushZ false p S)=cheapI false p (soldOf S g)∧allG g (pushZ false p S)=cheapI false p (soldOf S g)+dearI false p (soldOf S g)
 | [],_=>by
  show (0:Int)=0∧(0:Int)=0+0
  omega
 | s::r,h=>by
  obtain ⟨a,b⟩:=push_low g p r h.tail
  obtain ⟨g0,g1,g2,c0,c1,c2⟩:=h s (List.mem_cons_self ..)
  have eU:uptoZ g p (pushZ false p (s::r))=(if s.gd=g∧s.cl≤p then (if s.cl≤p then s.gh else s.gl) else 0)+uptoZ g p (pushZ false p r):=rfl
  have eA:allG g (pushZ false p (s::r))=(if s.gd=g then (if s.cl≤p then s.gh else s.gl) else 0)+allG g (pushZ false p r):=rfl
  rw [eU,eA,sold_cons,a,b]
  generalize soldOf r g=T
  by_cases h1:s.gd=g
  ·by_cases h2:0<s.gh
   ·rw [if_pos (⟨h1,h2⟩:s.gd=g∧0<s.gh),if_pos h1]
    show _=(if s.cl≤p then s.gh else 0)+cheapI false p T∧_=(if s.cl≤p then s.gh else 0)+cheapI false p T+((if s.cl≤p then 0 else s.gl)+dearI false p T)
    by_cases q1:s.cl≤p
    ·rw [if_pos ⟨h1,q1⟩];simp only [if_pos q1];first | omega | exact ⟨trivial,by omega⟩
    ·rw [if_neg (fun h:s.gd=g∧s.cl≤p=>q1 h.2)];simp only [if_neg q1];first | omega | exact ⟨trivial,by omega⟩
   ·rw [if_neg (fun h:s.gd=g∧0<s.gh=>h2 h.2),if_pos h1]
    by_cases q1:s.cl≤p
    ·rw [if_pos ⟨h1,q1⟩];simp only [if_pos q1];first | omega | exact ⟨trivial,by omega⟩
    ·rw [if_neg (fun h:s.gd=g∧s.cl≤p=>q1 h.2)];simp only [if_neg q1];first | omega | exact ⟨trivial,by omega⟩
  ·rw [if_neg (fun h:s.gd=g∧0<s.gh=>h1 h.1),if_neg (fun h:s.gd=g∧s.cl≤p=>h1 h.1),if_neg h1];omega
theorem push_high (g p:Int):∀ S:List Sale,Fine S→uptoZ g (p - 1) (pushZ true p S)=cheapI true (p - 1) (soldOf S g)∧allG g (pushZ true p S)=cheapI true (p - 1) (soldOf S g)+dearI true (p - 1) (soldOf S g)
 | [],_=>by
  show (0:Int)=0∧(0:Int)=0+0
  omega
 | s::r,h=>by
  obtain ⟨a,b⟩:=push_high g p r h.tail
  obtain ⟨g0,g1,g2,c0,c1,c2⟩:=h s (List.mem_cons_self ..)
  have eU:uptoZ g (p - 1) (pushZ true p (s::r))=(if s.gd=g∧s.ch≤p - 1 then (if p≤s.ch then s.gh else s.gl) else 0)+uptoZ g (p - 1) (pushZ true p r):=rfl
  have eA:allG g (pushZ true p (s::r))=(if s.gd=g then (if p≤s.ch then s.gh else s.gl) else 0)+allG g (pushZ true p r):=rfl
  rw [eU,eA,sold_cons,a,b]
  generalize soldOf r g=T
  by_cases h1:s.gd=g
  ·by_cases h2:0<s.gh
   ·rw [if_pos (⟨h1,h2⟩:s.gd=g∧0<s.gh),if_pos h1]
    show _=(if s.ch≤p - 1 then s.gl else 0)+cheapI true (p - 1) T∧_=(if s.ch≤p - 1 then s.gl else 0)+cheapI true (p - 1) T+((if s.ch≤p - 1 then 0 else s.gh)+dearI true (p - 1) T)
    by_cases q1:s.ch≤p - 1
    ·have q2:¬ p≤s.ch:=by omega
     rw [if_pos ⟨h1,q1⟩];simp only [if_pos q1,if_neg q2];first | omega | exact ⟨trivial,by omega⟩
    ·have q2:p≤s.ch:=by omega
     rw [if_neg (fun h:s.gd=g∧s.ch≤p - 1=>q1 h.2)];simp only [if_neg q1,if_pos q2];first | omega | exact ⟨trivial,by omega⟩
   ·rw [if_neg (fun h:s.gd=g∧0<s.gh=>h2 h.2),if_pos h1]
    by_cases q1:s.ch≤p - 1
    ·have q2:¬ p≤s.ch:=by omega
     rw [if_pos ⟨h1,q1⟩];simp only [if_neg q2];first | omega | exact ⟨trivial,by omega⟩
    ·have q2:p≤s.ch:=by omega
     rw [if_neg (fun h:s.gd=g∧s.ch≤p - 1=>q1 h.2)];simp only [if_pos q2];first | omega | exact ⟨trivial,by omega⟩
  ·rw [if_neg (fun h:s.gd=g∧0<s.gh=>h1 h.1),if_neg (fun h:s.gd=g∧s.ch≤p - 1=>h1 h.1),if_neg h1];omega
theorem sold_in {S:List Sale} {g:Int} {s:Sale} (hs:s ∈ soldOf S g):s ∈ S∧s.gd=g∧0<s.gh:=by
 obtain ⟨h1,h2⟩:=List.mem_filter.mp hs
 obtain ⟨h3,h4⟩:=Bool.and_eq_true_iff.mp h2
 exact ⟨h1,of_decide_eq_true h3,of_decide_eq_true h4⟩
theorem sold_fineS {S:List Sale} (hF:Fine S) (g:Int):Fine (soldOf S g):=fun s hs=>hF s (sold_in hs).1
theorem cheap_mem (hi:Bool) (p:Int):∀ (T:List Sale),Fine T→∀ s ∈ T,spanAt hi s.cl s.ch≤p→spanAt (!hi) s.gl s.gh≤cheapI hi p T
 | [],_,s,hs,_=>by cases hs
 | a::r,hF,s,hs,hp=>by
  have ha:=hF a (List.mem_cons_self ..)
  obtain ⟨⟨c0,_⟩,_⟩:=cheap_range hi p r hF.tail
  have ax:0≤spanAt (!hi) a.gl a.gh:=by cases hi<;>simp only [spanAt,Bool.not_true,Bool.not_false]<;>omega
  rcases List.mem_cons.mp hs with rfl | hs
  ·unfold cheapI;rw [if_pos hp];omega
  ·have:=cheap_mem hi p r hF.tail s hs hp
   unfold cheapI
   split<;>omega
theorem fair_low {S:List Sale} (hF:Fine S) {g:Int} (hT:soldOf S g≠[]):fairI g (pushZ false (priceI false (soldOf S g)) S)=(priceI false (soldOf S g),true):=by
 have hFT:=sold_fineS hF g
 obtain ⟨s,hs,he,hp⟩:=price_is false _ hT (fun s hs=>by have:=hFT s hs;omega)
 have he:dearI false (spanAt false s.cl s.ch) (soldOf S g)≤cheapI false (spanAt false s.cl s.ch) (soldOf S g):=of_decide_eq_true he
 rw [← hp] at he
 obtain ⟨a,b⟩:=push_low g (priceI false (soldOf S g)) S hF
 have ok:=pushZ_ok hF false (priceI false (soldOf S g))
 have hc:=cheap_mem false (priceI false (soldOf S g)) _ hFT s hs (by rw [hp];exact Int.le_refl _)
 have hh:=(sold_in hs).2.2
 have hc:s.gh≤cheapI false (priceI false (soldOf S g)) (soldOf S g):=hc
 obtain ⟨⟨_,_⟩,d0,_⟩:=cheap_range false (priceI false (soldOf S g)) _ hFT
 have ha:0<allG g (pushZ false (priceI false (soldOf S g)) S):=by omega
 obtain ⟨f1,f2⟩:=fair_upTo ok ha (q:=priceI false (soldOf S g)) (by omega)
 have f3:=(fair_between ok ha).1
 rw [pushZ_sales] at f3
 exact Prod.ext (by omega) f1
theorem fair_high {S:List Sale} (hF:Fine S) {g:Int} (hT:soldOf S g≠[]):fairI g (pushZ true (priceI true (soldOf S g)) S)=(priceI true (soldOf S g),true):=by
 have hFT:=sold_fineS hF g
 obtain ⟨s,hs,he,hp⟩:=price_is true _ hT (fun s hs=>by have:=hFT s hs;omega)
 obtain ⟨a,b⟩:=push_high g (priceI true (soldOf S g)) S hF
 have ok:=pushZ_ok hF true (priceI true (soldOf S g))
 have hpos:0<dearI true (priceI true (soldOf S g) - 1) (soldOf S g):=by
  have hm:∀ (T:List Sale),Fine T→s ∈ T→s.gh≤dearI true (s.ch - 1) T:=by
   intro T
   induction T with
   | nil=>intro _ h;cases h
   | cons x r ih =>
    intro hF' h
    have hx:=hF' x (List.mem_cons_self ..)
    obtain ⟨_,d0,_⟩:=cheap_range true (s.ch - 1) r hF'.tail
    show s.gh≤(if x.ch≤s.ch - 1 then 0 else x.gh)+dearI true (s.ch - 1) r
    rcases List.mem_cons.mp h with rfl | h
    ·rw [if_neg (by omega)];omega
    ·have:=ih hF'.tail h
     split<;>omega
  have h1:=hm _ hFT hs
  have hh:=(sold_in hs).2.2
  have hp:priceI true (soldOf S g)=s.ch:=hp
  rw [hp];omega
 obtain ⟨⟨c0,_⟩,_⟩:=cheap_range true (priceI true (soldOf S g) - 1) _ hFT
 have ha:0<allG g (pushZ true (priceI true (soldOf S g)) S):=by omega
 obtain ⟨f1,f2⟩:=fair_is ok ha
 have f3:=(fair_between ok ha).2
 rw [pushZ_sales] at f3
 refine Prod.ext ?_ f1
 show (fairI g (pushZ true (priceI true (soldOf S g)) S)).1=priceI true (soldOf S g)
 by_cases hlt:(fairI g (pushZ true (priceI true (soldOf S g)) S)).1≤priceI true (soldOf S g) - 1
 ·exfalso
  have hm:=upto_mono g hlt _ ok
  have hen:dearI true (priceI true (soldOf S g) - 1) (soldOf S g)≤cheapI true (priceI true (soldOf S g) - 1) (soldOf S g):=by omega
  obtain ⟨z,hz,z1,z2,z3⟩:=upto_some g (priceI true (soldOf S g) - 1) _ ok (by omega)
  obtain ⟨x,hx,rfl⟩:=List.mem_map.mp hz
  have zk:=ok _ hz
  obtain ⟨_,_,g2,_,_,_,_,_⟩:=zk
  have g2:pushG true (priceI true (soldOf S g)) x≤x.gh:=g2
  have z3:0<pushG true (priceI true (soldOf S g)) x:=z3
  have z1':x.gd=g:=z1
  have z3':0<x.gh:=by omega
  have hm2:x ∈ soldOf S g:=List.mem_filter.mpr ⟨hx,by rw [decide_eq_true z1',decide_eq_true z3'];rfl⟩
  have:=price_upTo true (soldOf S g) hen hm2 z2
  omega
 ·omega
def sumG (hi:Bool) (g:Int):List Sale→Int
 | []=>0
 | s::r=>(if s.gd=g then spanAt hi s.gl s.gh else 0)+sumG hi g r
theorem sumG_weigh (hi:Bool) (g:Int):∀ S:List Sale,Fine S→sumG hi g S=weighI hi (soldOf S g)
 | [],_=>rfl
 | s::r,h=>by
  have a:=sumG_weigh hi g r h.tail
  obtain ⟨g0,g1,g2,c0,c1,c2⟩:=h s (List.mem_cons_self ..)
  have e:sumG hi g (s::r)=(if s.gd=g then spanAt hi s.gl s.gh else 0)+sumG hi g r:=rfl
  rw [e,a,sold_cons]
  by_cases h1:s.gd=g
  ·by_cases h2:0<s.gh
   ·rw [if_pos (⟨h1,h2⟩:s.gd=g∧0<s.gh),if_pos h1];rfl
   ·rw [if_neg (fun h:s.gd=g∧0<s.gh=>h2 h.2),if_pos h1]
    cases hi<;>simp only [spanAt]<;>omega
  ·rw [if_neg (fun h:s.gd=g∧0<s.gh=>h1 h.1),if_neg h1];omega
theorem take_push (hi:Bool) (k:Int):∀ S:List Sale,Fine S→takeZ k (pushZ hi (-1) S)=turnOf hi S k
 | [],_=>rfl
 | s::r,h=>by
  have a:=take_push hi k r h.tail
  obtain ⟨g0,g1,g2,c0,c1,c2⟩:=h s (List.mem_cons_self ..)
  have e:takeZ k (pushZ hi (-1) (s::r))=(if s.st=k then pushG hi (-1) s * spanAt hi s.cl s.ch / 1000 else 0)+takeZ k (pushZ hi (-1) r):=rfl
  have t:turnOf hi (s::r) k=(if s.st=k then spanAt hi s.gl s.gh * spanAt hi s.cl s.ch / 1000 else 0)+turnOf hi r k:=rfl
  have q:pushG hi (-1) s=spanAt hi s.gl s.gh:=by
   cases hi
   ·show (if s.cl ≤ -1 then s.gh else s.gl)=s.gl
    rw [if_neg (by omega)]
   ·show (if -1≤s.ch then s.gh else s.gl)=s.gh
    rw [if_pos (by omega)]
  rw [e,t,a,q]
end Go.Proofs.Ytamlnddeiokbdaa.walk
set_option maxRecDepth 10000
namespace Go.Proofs.Ytamlnddeiokbdaa.walk
open Go.Abs Go.Proofs.Ytamlnddeiokbdaa.code
structure PusJ (u t:St) (S:List Sale) (hi:Bool) (p:Int) (v:AV) (bl kk:Nat):Prop where
 is:IsAt t.h t.n bl 2 (tag 64) (truthRows (pushZ hi p S)) v
 lo:u.n≤bl
 same:∀ c,c<u.n→t.h.get c=u.h.get c
 n:u.n≤t.n
 le:t.n≤u.n+kk
 m:u.n≤t.m
end Go.Proofs.Ytamlnddeiokbdaa.walk
