/- Results of a bench, handed out one by one. -/
import Derived.Test.YtfekafjfidohdaaM2
import Derived.Test.YtfekafjfidohdaaWalkAll
set_option linter.unusedSimpArgs false
set_option maxHeartbeats 16000000
set_option linter.unusedVariables false
set_option maxRecDepth 10000
namespace Go.Proofs.Ytfekafjfidohdaa.walk
open Go.Abs Go.Proofs.Ytfekafjfidohdaa.code
structure Yields (N l n0 k0 w:Nat) (own:Nat→Prop) (K:Nat) (cl:Nat→Claim) (J:Nat→Heap→Nat→Prop) (S:Heap→Nat→Prop):Prop where
 few:k0≤20000
 keep:∀ i h h' n n',(∀ b,b<n→h'.get b=h.get b)→n≤n'→J i h n→J i h' n'
 take:∀ i (s:St),i<K→J i s.h s.n→n0≤s.n→s.n+20000≤far→∃ s' q,call Try.prog X N (.yield l) [claimV (cl i)] s=.val (.bool q) s'∧(q=true→J (i+1) s'.h s'.n)∧(q=false→S s'.h s'.n) ∧
  (∀ x,x<n0→¬ own x→s'.h.get x=s.h.get x)∧s.n≤s'.n∧s'.n≤s.n+k0∧(w≤s.m→w≤s'.m)∧s'.m≤s.m∧s'.m≤l
theorem nth_skip':∀ (a l:List AV) (k:Nat),nth (a++l) (a.length+k)=nth l k
 | [],l,k=>by rw [List.length_nil,Nat.zero_add,List.nil_append]
 | x::a,l,k=>by rw [List.length_cons,List.cons_append,show a.length+1+k=(a.length+k)+1 by omega,nth_cons,if_neg (by omega)];exact nth_skip' a l k
def errAt (b:Bench) (i d:Nat):Nat:=1+b.ms.length+i * (b.days+1)+d
def nomAt (b:Bench) (i:Nat):Int:=(b.ms.getD i ⟨0,0,0⟩).nom
def wAt (b:Bench) (i:Nat):Weigh:=b.ws.getD i ⟨0,0,0,0⟩
def tAt (b:Bench) (i:Nat):Trial:=b.ts.getD i ⟨0,0,0,0⟩
def Weigh.claim (w:Weigh):Claim:=⟨1+w.a.toNat,1+w.b.toNat,(w.lo,w.hi)⟩
def Trial.claim (b:Bench) (t:Trial):Claim:=⟨1+t.mass.toNat,errAt b t.scale.toNat t.day.toNat,(t.shown - nomAt b t.mass.toNat,t.shown - nomAt b t.mass.toNat)⟩
def resAt (b:Bench) (i:Nat):Claim:=if i<b.ws.length then (wAt b i).claim else (tAt b (i - b.ws.length)).claim b
def resMany (b:Bench):Nat:=b.ws.length+b.ts.length
theorem massN_ok (N:Nat) (hN:1≤N) (a:Nat) (s:St) (ha:a≤1000) (hs:s.n+100≤far):call Try.prog X N (.fn 29) [.int .i64 (a:Int)] s=.val (.int .i64 ((1+a:Nat):Int)) s:=by
 rw [massAt_ok N hN a s (by unfold Small;omega) hs]
 congr 2
structure Bed (u t:St) (n0 w kk:Nat) (own:Nat→Prop):Prop where
 same:∀ x,x<n0→¬ own x→t.h.get x=u.h.get x
 n:u.n≤t.n
 le:t.n≤u.n+kk
 m:w≤t.m
 mle:t.m≤far
theorem res_round0 (N:Nat) (hN:1≤N) (cx:Ctx) {l n0 k0 w p i kk:Nat} {own:Nat→Prop} {K:Nat} {J:Nat→Heap→Nat→Prop} {S:Heap→Nat→Prop} {b:Bench} {v1 v2 v3 v4:AV} {u t:St} {L:Env} (hY:Yields N l n0 k0 w own K (resAt b) J S) (ok:b.Ok) (hK:K=resMany b)
  (nb:Nat) (hB:BenchAt u.h nb b v1 v2 v3 v4) (hnb:∀ x,x<nb→x<n0∧¬ own x) (hn0:n0≤u.n) (hw:w≤n0) (hs:u.n+kk+30000≤far) (hi:i<b.ws.length)
  (q0:L.find 0=.yield l) (q1:L.find 1=.ptr p 0) (q9:L.find 9=v2) (q10:L.find 10=.int .i64 b.ws.length) (q11:L.find 11=.int .i64 i) (hD:Bed u t n0 w kk own) (hJ:J i t.h t.n) :
  ∃ e L1 t1,K65l0 (call Try.prog X N) cx L [] t=.done e L1 [] t1∧Bed u t1 n0 w (kk+k0+1) own∧t1.m≤l∧((e=.norm∧L1.find 0=.yield l∧L1.find 1=.ptr p 0∧L1.find 9=v2∧L1.find 10=.int .i64 b.ws.length∧L1.find 11=.int .i64 (i+1:Nat)∧J (i+1) t1.h t1.n)∨(e=.ret∧S t1.h t1.n)):=by
 have hf:far=1000000000:=rfl
 obtain ⟨same,tn,tk,tm,tf⟩:=hD
 have c1:=ok.w1
 have e0:decide ((i:Int)<(b.ws.length:Int))=true:=decide_eq_true (by omega)
 obtain ⟨x0,o0,cs,sz,r1,r2,r3,r4⟩:=hB.w.at_ i (by simpa using hi)
 rw [List.getElem_map] at r4
 have g0:=(same x0 (hnb _ r1).1 (hnb _ r1).2).trans r3
 have hwi:wAt b i=b.ws[i]:=by unfold wAt;simp [List.getD,hi]
 obtain ⟨a0,a1,b0,b1,ab,o0',o1,o2⟩:=ok.wok _ (List.getElem_mem hi)
 have hcl:resAt b i=(b.ws[i]).claim:=by unfold resAt;rw [if_pos hi,hwi]
 have m1:=ok.m1
 generalize b.ws[i]=M at *
 obtain ⟨Ma,Mb,Mlo,Mhi⟩:=M
 simp only at a0 a1 b0 b1 ab o0' o1 o2
 obtain ⟨na,rfl⟩:∃ n:Nat,Ma=n:=⟨Ma.toNat,by omega⟩
 obtain ⟨nb',rfl⟩:∃ n:Nat,Mb=n:=⟨Mb.toNat,by omega⟩
 unfold Weigh.cells at r4
 unfold Weigh.claim at hcl
 simp only [Int.toNat_natCast] at hcl r4
 have ad:∀ s,aAdd s .i64 (i:Int) 1=.val (.int .i64 ((i:Int)+1)) s:=fun s=>aAdd_i64 s _ _ (by omega)
 have xt:x0<t.n:=by have:=(hnb _ r1).1;omega
 simp (disch:=first|omega|(with_unfolding_all exact rfl)|(simp only[new_n,put_n,new_m];omega)|(refine put_m_le ?_;simp only[new_m];omega)) only [res65,K65r0,K65r1,K65r2,K65r3,K65r4,K65r5,K65r6,K65r7,K65r8,K65r9,K65r10,K65,K65l0,Abs.W,reduceIte,Nat.reduceEqDiff,Nat.reduceAdd,decide_true,decide_false,kLoop_def,Nat.reduceSub,List.cons_append,List.nil_append,List.append_nil,List.length_cons,List.length_nil,Env.find_set,Nat.zero_add,q0,q1,q9,q10,q11,e0,r2,r4,g0,massN_ok,gapOf_ok]
 generalize hs1:(t.new _).put t.n _=s1
 have s1n:s1.n=t.n+1:=by rw [← hs1];rfl
 have s1g:∀ x,x<t.n→s1.h.get x=t.h.get x:=fun x hx=>by rw [← hs1,get_put_ne' _ _ _ _ (by omega),get_new_ne _ _ _ (by omega)]
 have s1m:w≤s1.m∧s1.m≤far:=by rw [← hs1];simp only [St.put,minN_eq,new_m];omega
 obtain ⟨s2,q,e2,k1,k2,k3,k4,k5,k6,k7,k8⟩:=hY.take i s1 (by rw [hK];unfold resMany;omega) (hY.keep i t.h s1.h t.n s1.n s1g (by omega) hJ) (by omega) (by omega)
 rw [hcl] at e2
 have e2':call Try.prog X N (.yield l) [.agg [.int .i64 ((1+na:Nat):Int),.int .i64 ((1+nb':Nat):Int),.int .i64 Mlo,.int .i64 Mhi]] s1=.val (.bool q) s2:=e2
 have kf:=hY.few
 have hD2:Bed u s2 n0 w (kk+k0+1) own:=⟨fun x hx ho=>(k3 x hx ho).trans ((s1g x (by omega)).trans (same x hx ho)),by omega,by omega,k6 s1m.1,by omega⟩
 cases q
 ·simp (disch:=first|omega|(with_unfolding_all exact rfl)|(simp only[new_n,put_n,new_m];omega)|(refine put_m_le ?_;simp only[new_m];omega)) only [Abs.W,reduceIte,Nat.reduceEqDiff,Nat.reduceAdd,decide_true,decide_false,kLoop_def,Nat.reduceSub,List.cons_append,List.nil_append,List.append_nil,List.length_cons,List.length_nil,Env.find_set,e2',q11]
  exact ⟨_,_,_,rfl,hD2,k8,.inr ⟨rfl,k2 rfl⟩⟩
 ·simp (disch:=first|omega|(with_unfolding_all exact rfl)|(simp only[new_n,put_n,new_m];omega)|(refine put_m_le ?_;simp only[new_m];omega)) only [Abs.W,reduceIte,Nat.reduceEqDiff,Nat.reduceAdd,decide_true,decide_false,kLoop_def,Nat.reduceSub,List.cons_append,List.nil_append,List.append_nil,List.length_cons,List.length_nil,Env.find_set,e2',q11,ad]
  refine ⟨_,_,_,rfl,hD2,k8,.inl ⟨rfl,?_,?_,?_,?_,?_,k1 rfl⟩⟩
  ·simp only [Env.find_set,q0,reduceIte,Nat.reduceEqDiff]
  ·simp only [Env.find_set,q1,reduceIte,Nat.reduceEqDiff]
  ·simp only [Env.find_set,q9,reduceIte,Nat.reduceEqDiff]
  ·simp only [Env.find_set,q10,reduceIte,Nat.reduceEqDiff]
  ·simp only [Env.find_set,reduceIte,Nat.reduceEqDiff];rfl
theorem res_round1 (N:Nat) (hN:1≤N) (cx:Ctx) {l n0 k0 w p szp i kk:Nat} {own:Nat→Prop} {K:Nat} {J:Nat→Heap→Nat→Prop} {S:Heap→Nat→Prop} {b:Bench} {v1 v2 v3 v4:AV} {u t:St} {L:Env} (hY:Yields N l n0 k0 w own K (resAt b) J S) (ok:b.Ok) (hK:K=resMany b)
  (nb:Nat) (hB:BenchAt u.h nb b v1 v2 v3 v4) (hnb:∀ x,x<nb→x<n0∧¬ own x) (gp:u.h.get p=some (.cells (benchV v1 v2 v3 v4 b.days) szp)) (hp:p<n0∧¬ own p) (hn0:n0≤u.n) (hw:w≤n0) (hs:u.n+kk+30000≤far) (hi:i<b.ts.length)
  (q0:L.find 0=.yield l) (q1:L.find 1=.ptr p 0) (q30:L.find 30=v4) (q31:L.find 31=.int .i64 b.ts.length) (q32:L.find 32=.int .i64 i) (hD:Bed u t n0 w kk own) (hJ:J (b.ws.length+i) t.h t.n) :
  ∃ e L1 t1,K65l1 (call Try.prog X N) cx L [] t=.done e L1 [] t1∧Bed u t1 n0 w (kk+k0+1) own∧t1.m≤l∧((e=.norm∧L1.find 0=.yield l∧L1.find 1=.ptr p 0∧L1.find 30=v4∧L1.find 31=.int .i64 b.ts.length∧L1.find 32=.int .i64 (i+1:Nat)∧J (b.ws.length+(i+1)) t1.h t1.n)∨(e=.ret∧S t1.h t1.n)):=by
 have hf:far=1000000000:=rfl
 obtain ⟨same,tn,tk,tm,tf⟩:=hD
 have c1:=ok.w1
 have c2:=ok.t1
 have c3:=ok.s1
 have c4:=ok.d1
 have e0:decide ((i:Int)<(b.ts.length:Int))=true:=decide_eq_true (by omega)
 obtain ⟨x0,o0,cs,sz,r1,r2,r3,r4⟩:=hB.t.at_ i (by simpa using hi)
 rw [List.getElem_map] at r4
 have g0:=(same x0 (hnb _ r1).1 (hnb _ r1).2).trans r3
 have gp':=(same p hp.1 hp.2).trans gp
 have hwi:tAt b i=b.ts[i]:=by unfold tAt;simp [List.getD,hi]
 obtain ⟨s0,sk,m0,mk,d0,dk,h0,h1⟩:=ok.tok _ (List.getElem_mem hi)
 have hcl:resAt b (b.ws.length+i)=(b.ts[i]).claim b:=by unfold resAt;rw [if_neg (by omega),Nat.add_sub_cancel_left,hwi]
 have m1:=ok.m1
 generalize b.ts[i]=M at *
 obtain ⟨Ms,Md,Mm,Mx⟩:=M
 simp only at s0 sk m0 mk d0 dk h0 h1
 obtain ⟨ns,rfl⟩:∃ n:Nat,Ms=n:=⟨Ms.toNat,by omega⟩
 obtain ⟨nd,rfl⟩:∃ n:Nat,Md=n:=⟨Md.toNat,by omega⟩
 obtain ⟨nm,rfl⟩:∃ n:Nat,Mm=n:=⟨Mm.toNat,by omega⟩
 have hnm:nm<b.ms.length:=by omega
 obtain ⟨x1,o1,cs1,sz1,f1,f2,f3,f4⟩:=hB.m.at_ nm (by simpa using hnm)
 rw [List.getElem_map] at f4
 have g1:=(same x1 (hnb _ f1).1 (hnb _ f1).2).trans f3
 have hno:nomAt b nm=(b.ms[nm]).nom:=by unfold nomAt;simp [List.getD,hnm]
 obtain ⟨n0',n1',_,_,_⟩:=ok.mok _ (List.getElem_mem hnm)
 generalize b.ms[nm]=Q at *
 unfold Trial.cells at r4
 unfold Mass.cells at f4
 have f5:nth cs1 o1=.int .i64 Q.nom:=by
  obtain ⟨a,t,z1,z2,z3⟩:=cut_some f4
  rw [z1,← z2,List.append_assoc,← Nat.add_zero a.length,nth_skip']
  rfl
 unfold Trial.claim errAt at hcl
 simp only [Int.toNat_natCast] at hcl r4
 rw [hno] at hcl
 have ad:∀ s,aAdd s .i64 (i:Int) 1=.val (.int .i64 ((i:Int)+1)) s:=fun s=>aAdd_i64 s _ _ (by omega)
 have asb:∀ s,aSub s .i64 Mx Q.nom=.val (.int .i64 (Mx - Q.nom)) s:=fun s=>aSub_i64 s _ _ (by omega)
 have xt:x0<t.n:=by have:=(hnb _ r1).1;omega
 have xt1:x1<t.n:=by have:=(hnb _ f1).1;omega
 have l1:=hB.m.len
 rw [List.length_map] at l1
 have he:∀ s:St,s.n+100≤far→call Try.prog X N (.fn 33) [.agg [v1,v2,v3,v4,.int .i64 b.days],.int .i64 (ns:Int),.int .i64 (nd:Int)] s=.val (.int .i64 ((1+b.ms.length+ns * (b.days+1)+nd:Nat):Int)) s:=fun s hs=>errorAt_ok N hN b.ms.length b.days ns nd v1 v2 v3 v4 l1 hB.m.ne s (by omega) (by omega) (by omega) (by omega) hs
 have okm:∀ t,okA (.val v1 t)=.val v1 t:=fun t=>okA_ne hB.m.ne
 unfold benchV at gp'
 simp (disch:=first|omega|(with_unfolding_all exact rfl)|(simp only[new_n,put_n,new_m];omega)|(refine put_m_le ?_;simp only[new_m];omega)) only [res65,K65r0,K65r1,K65r2,K65r3,K65r4,K65r5,K65r6,K65r7,K65r8,K65r9,K65r10,K65,K65l1,Abs.W,reduceIte,Nat.reduceEqDiff,Nat.reduceAdd,decide_true,decide_false,kLoop_def,Nat.reduceSub,List.cons_append,List.nil_append,List.append_nil,List.length_cons,List.length_nil,Env.find_set,Nat.zero_add,Nat.add_zero,q0,q1,q30,q31,q32,e0,r2,r4,f2,f5,g0,g1,gp',massN_ok,he,asb,okm]
 generalize hs1:(t.new _).put t.n _=s1
 have s1n:s1.n=t.n+1:=by rw [← hs1];rfl
 have s1g:∀ x,x<t.n→s1.h.get x=t.h.get x:=fun x hx=>by rw [← hs1,get_put_ne' _ _ _ _ (by omega),get_new_ne _ _ _ (by omega)]
 have s1m:w≤s1.m∧s1.m≤far:=by rw [← hs1];simp only [St.put,minN_eq,new_m];omega
 obtain ⟨s2,q,e2,k1,k2,k3,k4,k5,k6,k7,k8⟩:=hY.take (b.ws.length+i) s1 (by rw [hK];unfold resMany;omega) (hY.keep _ t.h s1.h t.n s1.n s1g (by omega) hJ) (by omega) (by omega)
 rw [hcl] at e2
 have e2':call Try.prog X N (.yield l) [.agg [.int .i64 ((1+nm:Nat):Int),.int .i64 ((1+b.ms.length+ns * (b.days+1)+nd:Nat):Int),.int .i64 (Mx - Q.nom),.int .i64 (Mx - Q.nom)]] s1=.val (.bool q) s2:=e2
 have kf:=hY.few
 have hD2:Bed u s2 n0 w (kk+k0+1) own:=⟨fun x hx ho=>(k3 x hx ho).trans ((s1g x (by omega)).trans (same x hx ho)),by omega,by omega,k6 s1m.1,by omega⟩
 cases q
 ·simp (disch:=first|omega|(with_unfolding_all exact rfl)|(simp only[new_n,put_n,new_m];omega)|(refine put_m_le ?_;simp only[new_m];omega)) only [Abs.W,reduceIte,Nat.reduceEqDiff,Nat.reduceAdd,decide_true,decide_false,kLoop_def,Nat.reduceSub,List.cons_append,List.nil_append,List.append_nil,List.length_cons,List.length_nil,Env.find_set,e2',q32]
  exact ⟨_,_,_,rfl,hD2,k8,.inr ⟨rfl,k2 rfl⟩⟩
 ·simp (disch:=first|omega|(with_unfolding_all exact rfl)|(simp only[new_n,put_n,new_m];omega)|(refine put_m_le ?_;simp only[new_m];omega)) only [Abs.W,reduceIte,Nat.reduceEqDiff,Nat.reduceAdd,decide_true,decide_false,kLoop_def,Nat.reduceSub,List.cons_append,List.nil_append,List.append_nil,List.length_cons,List.length_nil,Env.find_set,e2',q32,ad]
  refine ⟨_,_,_,rfl,hD2,k8,.inl ⟨rfl,?_,?_,?_,?_,?_,k1 rfl⟩⟩
  ·simp only [Env.find_set,q0,reduceIte,Nat.reduceEqDiff]
  ·simp only [Env.find_set,q1,reduceIte,Nat.reduceEqDiff]
  ·simp only [Env.find_set,q30,reduceIte,Nat.reduceEqDiff]
  ·simp only [Env.find_set,q31,reduceIte,Nat.reduceEqDiff]
  ·simp only [Env.find_set,reduceIte,Nat.reduceEqDiff];rfl
theorem results1_ex {N l n0 k0 w p szp:Nat} {own:Nat→Prop} {J:Nat→Heap→Nat→Prop} {S:Heap→Nat→Prop} {b:Bench} {v1 v2 v3 v4:AV} {s:St} {r:ARes} (hr:call Try.prog X N (.fn 65) [.yield l,.ptr p 0] s=r) (hN:2≤N) (hY:Yields (N - 1) l n0 k0 w own (resMany b) (resAt b) J S) (ok:b.Ok)
  (nb:Nat) (hB:BenchAt s.h nb b v1 v2 v3 v4) (hnb:∀ x,x<nb→x<n0∧¬ own x) (gp:s.h.get p=some (.cells (benchV v1 v2 v3 v4 b.days) szp)) (hp:p<n0∧¬ own p) (hn0:n0≤s.n) (hw:w≤n0) (hs:s.n+300000≤far) (hls:l<s.n) (hJ:J 0 s.h s.n) :
  ∃ s',r=.val (.tup []) s'∧(J (resMany b) s'.h s'.n∨S s'.h s'.n)∧(∀ x,x<n0→¬ own x→s'.h.get x=s.h.get x)∧s.n≤s'.n∧s'.n≤s.n+(k0+1) * resMany b∧(w≤s.m→w≤s'.m)∧s'.m≤s.m:=by
 obtain ⟨n,rfl⟩:∃ n,N=n+1:=⟨N - 1,by omega⟩
 have hf:far=1000000000:=rfl
 rw [Nat.add_sub_cancel] at hY
 have c1:=ok.w1
 have c2:=ok.t1
 have kf:=hY.few
 have hkm:∀ i,i≤12→(k0+1) * i≤(k0+1) * 12:=fun i hi=>Nat.mul_le_mul_left _ hi
 obtain ⟨v',t,mm,e,⟨rfl,a1,a2,a3,a4,a5,a6⟩,hm'⟩:=call_any (n:=n) (args:=[.yield l,.ptr p 0]) (s:=s) (Q:=fun v h n m'=>v=.tup []∧(J (resMany b) h n∨S h n)∧(∀ x,x<n0→¬ own x→h.get x=s.h.get x)∧s.n≤n∧n≤s.n+(k0+1) * resMany b∧w≤m'∧m'≤far) Try.func65 rfl (fun u uh un um=>by
  rw [← uh] at gp hB
  have hJ':J 0 u.h u.n:=by rw [uh,un];exact hJ
  have gp':=gp
  unfold benchV at gp'
  have k2:∀ t,okA (.val v2 t)=.val v2 t:=fun t=>okA_ne hB.w.ne
  have k4:∀ t,okA (.val v4 t)=.val v4 t:=fun t=>okA_ne hB.t.ne
  have l2:=hB.w.len
  rw [List.length_map] at l2
  have l4:=hB.t.len
  rw [List.length_map] at l4
  rw [enter65]
  simp (disch:=first|omega|(with_unfolding_all exact rfl)|(simp only[new_n,put_n,new_m];omega)|(refine put_m_le ?_;simp only[new_m];omega)) only [res65,K65r0,K65r1,K65r2,K65r3,K65r4,K65r5,K65r6,K65r7,K65r8,K65r9,K65r10,K65,Abs.W,reduceIte,Nat.reduceEqDiff,Nat.reduceAdd,decide_true,decide_false,kLoop_def,Nat.reduceSub,List.cons_append,List.nil_append,List.append_nil,List.length_cons,List.length_nil,gp',k2,l2]
  generalize hl:loopN _ rounds _ _ _ _ _=r1
  have h0:Bed u u n0 w 0 own:=⟨fun _ _ _=>rfl,Nat.le_refl _,Nat.le_refl _,by omega,by omega⟩
  have hresM:resMany b=b.ws.length+b.ts.length:=rfl
  obtain ⟨e,L1,s1,rfl,hQ⟩:=loop_of hl (fun i L' t'=>L'.find 0=.yield l∧L'.find 1=.ptr p 0∧L'.find 9=v2∧L'.find 10=.int .i64 b.ws.length∧L'.find 11=.int .i64 i∧Bed u t' n0 w ((k0+1) * i) own∧J i t'.h t'.n∧(0<i→t'.m≤l))
   (fun e L1 t'=>(e=.exit 0∧L1.find 0=.yield l∧L1.find 1=.ptr p 0∧Bed u t' n0 w ((k0+1) * b.ws.length) own∧J b.ws.length t'.h t'.n∧(0<b.ws.length→t'.m≤l))∨(e=.ret∧Bed u t' n0 w ((k0+1) * resMany b) own∧S t'.h t'.n∧t'.m≤l)) b.ws.length (by unfold rounds;omega)
   ⟨by simp only [Env.find_set,find_cons,reduceIte,Nat.reduceEqDiff],by simp only [Env.find_set,find_cons,reduceIte,Nat.reduceEqDiff],by simp only [Env.find_set,find_cons,reduceIte,Nat.reduceEqDiff],by simp only [Env.find_set,find_cons,reduceIte,Nat.reduceEqDiff],by simp only [Env.find_set,find_cons,reduceIte,Nat.reduceEqDiff];rfl,h0,hJ',fun h=>absurd h (Nat.lt_irrefl _)⟩
   (fun i L' t' hi ⟨q0,q1,q9,q10,q11,hD,hJi,hl0⟩=>by
    have hki:=hkm i (by omega)
    by_cases hlt:i<b.ws.length
    ·obtain ⟨e,L2,t2,p1,p2,p3,p4⟩:=res_round0 n (by omega) ⟨65,none,Try.f65.ntmps,X 65⟩ hY ok rfl nb hB hnb (by omega) hw (by omega) hlt q0 q1 q9 q10 q11 hD hJi
     have p2':Bed u t2 n0 w ((k0+1) * (i+1)) own:=by rw [Nat.mul_succ];exact p2
     rcases p4 with ⟨rfl,z0,z1,z9,z10,z11,zJ⟩ | ⟨rfl,zS⟩
     ·exact .inl ⟨hlt,L2,t2,p1,z0,z1,z9,z10,z11,p2',zJ,fun _=>p3⟩
     ·refine .inr ⟨.ret,L2,t2,by simp,p1,.inr ⟨rfl,⟨p2'.same,p2'.n,Nat.le_trans p2'.le (Nat.add_le_add_left (Nat.mul_le_mul_left _ (by omega)) _),p2'.m,p2'.mle⟩,zS,p3⟩⟩
    ·obtain rfl:i=b.ws.length:=by omega
     have e1:decide ((b.ws.length:Int)<(b.ws.length:Int))=false:=by simp
     refine .inr ⟨.exit 0,L'.set 12 (.bool false),t',by simp,?_,.inl ⟨rfl,?_,?_,hD,hJi,hl0⟩⟩
     ·simp (disch:=first|omega|(with_unfolding_all exact rfl)|(simp only[new_n,put_n,new_m];omega)|(refine put_m_le ?_;simp only[new_m];omega)) only [res65,K65r0,K65r1,K65r2,K65r3,K65r4,K65r5,K65r6,K65r7,K65r8,K65r9,K65r10,K65,K65l0,Abs.W,reduceIte,Nat.reduceEqDiff,Nat.reduceAdd,decide_true,decide_false,kLoop_def,Nat.reduceSub,List.cons_append,List.nil_append,List.append_nil,List.length_cons,List.length_nil,Env.find_set,q10,q11,e1]
     ·simp only [Env.find_set,q0,reduceIte,Nat.reduceEqDiff]
     ·simp only [Env.find_set,q1,reduceIte,Nat.reduceEqDiff])
  have fin:∀ t':St,Bed u t' n0 w ((k0+1) * resMany b) own→(J (resMany b) t'.h t'.n∨S t'.h t'.n)→(resMany b=0∨t'.m≤l)→l<s.n →
    ((AV.tup []=AV.tup []∧(J (resMany b) t'.h t'.n∨S t'.h t'.n)∧(∀ x,x<n0→¬ own x→t'.h.get x=s.h.get x)∧s.n≤t'.n∧t'.n≤s.n+(k0+1) * resMany b∧w≤t'.m∧t'.m≤far)∧(plain (.tup [])=true→s.n≤t'.m→AV.tup []=AV.tup []∧(J (resMany b) s.h s.n∨S s.h s.n)∧(∀ x,x<n0→¬ own x→s.h.get x=s.h.get x)∧s.n≤s.n∧s.n≤s.n+(k0+1) * resMany b∧w≤t'.m∧t'.m≤far)):=fun t' hD hq hz hl=>by
   obtain ⟨d1,d2,d3,d4,d5⟩:=hD
   refine ⟨⟨rfl,hq,fun x hx ho=>by rw [d1 x hx ho,uh],by omega,by omega,d4,d5⟩,fun _ hle=>⟨rfl,.inl ?_,fun _ _ _=>rfl,Nat.le_refl _,Nat.le_add_right _ _,d4,d5⟩⟩
   rcases hz with hz | hz
   ·rw [hz];exact hJ
   ·omega
  rcases hQ with ⟨rfl,q0,q1,hD,hJ1,hl1⟩ | ⟨rfl,hD,hS,hl1⟩
  ·obtain ⟨d1,d2,d3,d4,d5⟩:=hD
   have gp1:=(d1 p hp.1 hp.2).trans gp'
   simp (disch:=first|omega|(with_unfolding_all exact rfl)|(simp only[new_n,put_n,new_m];omega)|(refine put_m_le ?_;simp only[new_m];omega)) only [res65,K65r0,K65r1,K65r2,K65r3,K65r4,K65r5,K65r6,K65r7,K65r8,K65r9,K65r10,K65,Abs.W,reduceIte,Nat.reduceEqDiff,Nat.reduceAdd,decide_true,decide_false,kLoop_def,Nat.reduceSub,List.cons_append,List.nil_append,List.append_nil,List.length_cons,List.length_nil,Env.find_set,q0,q1,gp1,k4,l4]
   generalize hl2:loopN _ rounds _ _ _ _ _=r2
   obtain ⟨e,L2,s2,rfl,hQ⟩:=loop_of hl2 (fun i L' t'=>L'.find 0=.yield l∧L'.find 1=.ptr p 0∧L'.find 30=v4∧L'.find 31=.int .i64 b.ts.length∧L'.find 32=.int .i64 i∧Bed u t' n0 w ((k0+1) * (b.ws.length+i)) own∧J (b.ws.length+i) t'.h t'.n∧(0<b.ws.length+i→t'.m≤l))
    (fun e L1 t'=>(e=.exit 2∧Bed u t' n0 w ((k0+1) * resMany b) own∧J (resMany b) t'.h t'.n∧(0<resMany b→t'.m≤l))∨(e=.ret∧Bed u t' n0 w ((k0+1) * resMany b) own∧S t'.h t'.n∧t'.m≤l)) b.ts.length (by unfold rounds;omega)
    ⟨by simp only [Env.find_set,q0,reduceIte,Nat.reduceEqDiff],by simp only [Env.find_set,q1,reduceIte,Nat.reduceEqDiff],by simp only [Env.find_set,reduceIte,Nat.reduceEqDiff],by simp only [Env.find_set,reduceIte,Nat.reduceEqDiff],by simp only [Env.find_set,reduceIte,Nat.reduceEqDiff];rfl,⟨d1,d2,d3,d4,d5⟩,hJ1,hl1⟩
    (fun i L' t' hi ⟨q0,q1,q30,q31,q32,hD,hJi,hl0⟩=>by
     have hki:=hkm (b.ws.length+i) (by omega)
     by_cases hlt:i<b.ts.length
     ·obtain ⟨e,L2,t2,p1,p2,p3,p4⟩:=res_round1 n (by omega) ⟨65,none,Try.f65.ntmps,X 65⟩ hY ok rfl nb hB hnb gp hp (by omega) hw (by omega) hlt q0 q1 q30 q31 q32 hD hJi
      have p2':Bed u t2 n0 w ((k0+1) * (b.ws.length+(i+1))) own:=by rw [← Nat.add_assoc,Nat.mul_succ];exact p2
      rcases p4 with ⟨rfl,z0,z1,z9,z10,z11,zJ⟩ | ⟨rfl,zS⟩
      ·exact .inl ⟨hlt,L2,t2,p1,z0,z1,z9,z10,z11,p2',zJ,fun _=>p3⟩
      ·refine .inr ⟨.ret,L2,t2,by simp,p1,.inr ⟨rfl,⟨p2'.same,p2'.n,Nat.le_trans p2'.le (Nat.add_le_add_left (Nat.mul_le_mul_left _ (by omega)) _),p2'.m,p2'.mle⟩,zS,p3⟩⟩
     ·obtain rfl:i=b.ts.length:=by omega
      have e1:decide ((b.ts.length:Int)<(b.ts.length:Int))=false:=by simp
      refine .inr ⟨.exit 2,L'.set 33 (.bool false),t',by simp,?_,.inl ⟨rfl,hD,hJi,hl0⟩⟩
      simp (disch:=first|omega|(with_unfolding_all exact rfl)|(simp only[new_n,put_n,new_m];omega)|(refine put_m_le ?_;simp only[new_m];omega)) only [res65,K65r0,K65r1,K65r2,K65r3,K65r4,K65r5,K65r6,K65r7,K65r8,K65r9,K65r10,K65,K65l1,Abs.W,reduceIte,Nat.reduceEqDiff,Nat.reduceAdd,decide_true,decide_false,kLoop_def,Nat.reduceSub,List.cons_append,List.nil_append,List.append_nil,List.length_cons,List.length_nil,Env.find_set,q31,q32,e1])
   rcases hQ with ⟨rfl,hD,hJ2,hl2⟩ | ⟨rfl,hD,hS,hl2⟩
   ·simp (disch:=first|omega|(with_unfolding_all exact rfl)|(simp only[new_n,put_n,new_m];omega)|(refine put_m_le ?_;simp only[new_m];omega)) only [res65,K65r0,K65r1,K65r2,K65r3,K65r4,K65r5,K65r6,K65r7,K65r8,K65r9,K65r10,K65,Abs.W,reduceIte,Nat.reduceEqDiff,Nat.reduceAdd,decide_true,decide_false,kLoop_def,Nat.reduceSub,List.cons_append,List.nil_append,List.append_nil,List.length_cons,List.length_nil,Env.find_set,leave_nil]
    have fn:=fin _ hD (.inl hJ2) (by rcases Nat.eq_zero_or_pos (resMany b) with h | h;exact .inl h;exact .inr (hl2 h)) hls
    exact ⟨_,_,rfl,fn.1,fun a b=>by obtain ⟨c1,c2,c3,c4⟩:=fn.2 a b;exact ⟨c1,c2,fun _ _ _=>trivial,c4⟩⟩
   ·simp (disch:=first|omega|(with_unfolding_all exact rfl)|(simp only[new_n,put_n,new_m];omega)|(refine put_m_le ?_;simp only[new_m];omega)) only [res65,K65r0,K65r1,K65r2,K65r3,K65r4,K65r5,K65r6,K65r7,K65r8,K65r9,K65r10,K65,Abs.W,reduceIte,Nat.reduceEqDiff,Nat.reduceAdd,decide_true,decide_false,kLoop_def,Nat.reduceSub,List.cons_append,List.nil_append,List.append_nil,List.length_cons,List.length_nil,Env.find_set,leave_nil]
    have fn:=fin _ hD (.inr hS) (.inr hl2) hls
    exact ⟨_,_,rfl,fn.1,fun a b=>by obtain ⟨c1,c2,c3,c4⟩:=fn.2 a b;exact ⟨c1,c2,fun _ _ _=>trivial,c4⟩⟩
  ·simp (disch:=first|omega|(with_unfolding_all exact rfl)|(simp only[new_n,put_n,new_m];omega)|(refine put_m_le ?_;simp only[new_m];omega)) only [res65,K65r0,K65r1,K65r2,K65r3,K65r4,K65r5,K65r6,K65r7,K65r8,K65r9,K65r10,K65,Abs.W,reduceIte,Nat.reduceEqDiff,Nat.reduceAdd,decide_true,decide_false,kLoop_def,Nat.reduceSub,List.cons_append,List.nil_append,List.append_nil,List.length_cons,List.length_nil,Env.find_set,leave_nil]
   have fn:=fin _ hD (.inr hS) (.inr hl1) hls
   exact ⟨_,_,rfl,fn.1,fun a b=>by obtain ⟨c1,c2,c3,c4⟩:=fn.2 a b;exact ⟨c1,c2,fun _ _ _=>trivial,c4⟩⟩)
 refine ⟨t,hr.symm.trans e,a1,a2,a3,a4,?_,?_⟩
 ·rcases hm' with ⟨_,hm'⟩ | ⟨_,hm'⟩<;>omega
 ·rcases hm' with ⟨_,hm'⟩ | ⟨_,hm'⟩<;>omega
end Go.Proofs.Ytfekafjfidohdaa.walk
namespace Go.Abs
variable {P:Program}
structure Blk (h:Heap) (n b w tg:Nat) (rows:List (List AV)) (v:AV):Prop where
 wide:∀ r ∈ rows,r.length=w
 is:∃ e sz,v=.slice b 0 rows.length rows.length e∧b<n∧h.get b=some (.cells rows.flatten sz)∧(e=true→sz=w+tg)
theorem Blk.mono {h h':Heap} {n n' b w tg:Nat} {rows:List (List AV)} {v:AV} (r:Blk h n b w tg rows v) (hh:h'.get b=h.get b) (hn:n≤n'):Blk h' n' b w tg rows v :=
 ⟨r.wide,by obtain ⟨e,sz,h1,h2,h3,h4⟩:=r.is;exact ⟨e,sz,h1,by omega,by rw [hh];exact h3,h4⟩⟩
theorem Blk.lt {h:Heap} {n b w tg:Nat} {rows:List (List AV)} {v:AV} (r:Blk h n b w tg rows v):b<n:=by obtain ⟨e,sz,h1,h2,h3,h4⟩:=r.is;exact h2
theorem Blk.okA {h:Heap} {n b w tg:Nat} {rows:List (List AV)} {v:AV} (r:Blk h n b w tg rows v) (t:St):Abs.okA (.val v t)=.val v t:=by obtain ⟨e,sz,h1,h2,h3,h4⟩:=r.is;subst h1;rfl
theorem Blk.scal {h:Heap} {n b w tg:Nat} {rows:List (List AV)} {v:AV} (r:Blk h n b w tg rows v):v.scalar=true:=by obtain ⟨e,sz,h1,h2,h3,h4⟩:=r.is;subst h1;rfl
theorem Blk.cells {h:Heap} {n b w tg:Nat} {rows:List (List AV)} {v:AV} (r:Blk h n b w tg rows v):cellsOf 1 v=some [v]:=by obtain ⟨e,sz,h1,h2,h3,h4⟩:=r.is;subst h1;rfl
theorem Blk.len {h:Heap} {n b w tg:Nat} {rows:List (List AV)} {v:AV} (r:Blk h n b w tg rows v) (s:St):lenSlA s v=.val (.int .i64 rows.length) s:=by obtain ⟨e,sz,h1,h2,h3,h4⟩:=r.is;subst h1;rfl
theorem Blk.get {h:Heap} {n b w tg:Nat} {rows:List (List AV)} {v:AV} (r:Blk h n b w tg rows v):∃ sz,h.get b=some (.cells rows.flatten sz):=by obtain ⟨e,sz,h1,h2,h3,h4⟩:=r.is;exact ⟨sz,h3⟩
theorem Blk.ixs {h:Heap} {n b w tg:Nat} {rows:List (List AV)} {v:AV} (r:Blk h n b w tg rows v) {i:Nat} (hi:i<rows.length) (s:St):ixsA w s v (.int .i64 i)=.val (.ptr b (i * w)) s:=by
 obtain ⟨e,sz,h1,h2,h3,h4⟩:=r.is
 subst h1
 rw [ixs_slice _ _ _ _ _ _ _ _ hi,Nat.zero_add]
theorem Blk.cut {h:Heap} {n b w tg:Nat} {rows:List (List AV)} {v:AV} (r:Blk h n b w tg rows v) {i:Nat} (hi:i<rows.length):Abs.cut (i * w) w rows.flatten=some rows[i]:=flatten_cut r.wide hi
theorem Blk.at_ {h:Heap} {n b w tg:Nat} {rows:List (List AV)} {v:AV} (r:Blk h n b w tg rows v):RowsAt h n w rows v :=
 ⟨r.len,fun i hi=>by
  obtain ⟨sz,hg⟩:=r.get
  exact ⟨b,i * w,_,sz,r.lt,fun s=>r.ixs hi s,hg,r.cut hi⟩⟩
theorem append_blk {s:St} {b w bytes tg:Nat} {rows:List (List AV)} {v:AV} (r:Blk s.h s.n b w tg rows v) {p sz:Nat} {row:List AV} (hp:s.h.get p=some (.cells row sz)) (hw:row.length=w) (hsc:scalars row=true)
  (hb:(rows.length+1) * bytes≤1000000) (htg:szOf (w+tg)=w) (hs:s.n<549755813888) :
  ∃ s',appendA false w bytes tg s v (.slice p 0 1 1 false)=.val (.slice s.n 0 (rows.length+1) (rows.length+1) true) s'∧Blk s'.h s'.n s.n w tg (rows++[row]) (.slice s.n 0 (rows.length+1) (rows.length+1) true)∧s'.n=s.n+1∧(∀ c,c<s.n→c≠b→s'.h.get c=s.h.get c)∧(∀ k,k≤b→k≤s.m→k≤s'.m)∧s'.m≤s.m:=by
 have e1:firstA w 1 s (.slice p 0 1 1 false)=some row:=by
  show (match s.h.get p with | some (.cells c _)=>Abs.cut 0 (1 * w) c | some (.fam c _ k _)=>Abs.cut 0 (1 * w) (c.take k) | _=>none)=some row
  rw [hp]
  simp only [Nat.one_mul]
  rw [cut_zero,← hw,cut1_all]
 have h1:appendA false w bytes tg s v (.slice p 0 1 1 false)=growA w bytes tg 1 row s v:=by
  show (match (some 1:Option Nat) with | none=>ARes.fail | some n=>match firstA w n s (.slice p 0 1 1 false) with | none=>.fail | some new=>match Nat.beq new.length (n * w) with | false=>.fail | true=>match scalars new with | true=>(growA w bytes tg n new s v) | false=>.fail)=_
  simp only [e1,hw,Nat.one_mul,Nat.beq_refl,hsc]
 obtain ⟨e,sz',h2,h3,h4,h5⟩:=r.is
 have hfl:=flatten_len r.wide
 have g1:Nat.ble (rows.length+1) rows.length=false:=by
  cases h:Nat.ble (rows.length+1) rows.length with
  | false=>rfl
  | true=>have:=Nat.le_of_ble_eq_true h;omega
 have g2:Nat.ble ((rows.length+1) * bytes) limit=true:=Nat.ble_eq_true_of_le hb
 have wd:∀ x ∈ rows++[row],x.length=w:=fun x hx=>by
  rcases List.mem_append.mp hx with hx | hx
  ·exact r.wide x hx
  ·simp at hx;subst hx;exact hw
 have fl:(rows++[row]).flatten=rows.flatten++row:=by rw [List.flatten_append,List.flatten_cons,List.flatten_nil,List.append_nil]
 have ln:(rows++[row]).length=rows.length+1:=by rw [List.length_append];rfl
 subst h2
 cases e with
 | true =>
  have h5:=h5 rfl
  subst h5
  refine ⟨(s.kill b).new (.cells (rows.flatten++row) (w+tg)),?_,⟨wd,true,_,by rw [ln],Nat.lt_succ_self _,by rw [fl];exact get_new_eq _ _ _ rfl hs,fun _=>rfl⟩,rfl,fun c hc hcb=>?_,fun k hk hm=>?_,minN_le_left _ _⟩
  ·rw [h1]
   unfold growA
   simp only [h4]
   simp only [g1,g2,hfl,htg,Nat.zero_add,List.drop_zero,and_self,if_true]
  ·rw [get_new_ne _ _ _ (by show c≠s.n;omega),St.kill_h,heap_set_ne _ _ _ _ hcb]
  ·show k≤minN s.m b
   rw [minN_min];omega
 | false =>
  refine ⟨s.new (.cells (rows.flatten++row) (w+tg)),?_,⟨wd,true,_,by rw [ln],Nat.lt_succ_self _,by rw [fl];exact get_new_eq _ _ _ rfl hs,fun _=>rfl⟩,rfl,fun c hc hcb=>?_,fun k hk hm=>hm,Nat.le_refl _⟩
  ·rw [h1]
   unfold growA
   simp only [h4]
   have g3:Abs.cut 0 (rows.length * w) rows.flatten=some rows.flatten:=by rw [cut_zero,← hfl,cut1_all]
   simp only [g1,g2,g3]
  ·exact get_new_ne _ _ _ (by omega)
theorem map_set_range {α:Type} (n j:Nat) (f:Nat→α) (y:α):((List.range n).map f).set j y=(List.range n).map fun x=>if x=j then y else f x:=by
 apply List.ext_getElem
 ·simp
 ·intro i h1 h2
  rw [List.getElem_set,List.getElem_map,List.getElem_map,List.getElem_range]
  by_cases h:j=i
  ·rw [if_pos h,if_pos h.symm]
  ·rw [if_neg h,if_neg (fun e=>h e.symm)]
theorem endO_ok {M:Env} {l:List (Nat × Nat)} (s:St) (h:endOk M l=true):endO l (.ok M s)=.ok M s:=by
 show (match endOk M l with | true=>ORes.ok M s | false=>.fail)=_
 rw [h]
theorem endOk_nil (M:Env):endOk M []=true:=rfl
theorem endOk_cons {M:Env} {t u:Nat} {r:List (Nat × Nat)} (h:apartA (M.find t) (M.find u)=true):endOk M ((t,u)::r)=endOk M r:=by
 show (match apartA (M.find t) (M.find u) with | true=>endOk M r | false=>false)=_
 rw [h]
theorem apart_slice {b c o n k p:Nat} {e:Bool} (h:b≠c):apartA (.slice b o n k e) (.ptr c p)=true:=by
 unfold apartA
 simp [blockOf,nbeq_f h]
theorem Blk.apart {h:Heap} {n b w tg c o:Nat} {rows:List (List AV)} {v:AV} (r:Blk h n b w tg rows v) (hc:b≠c):apartA v (.ptr c o)=true:=by
 obtain ⟨e,sz,h1,h2,h3,h4⟩:=r.is
 subst h1;exact apart_slice hc
end Go.Abs
set_option maxRecDepth 10000
namespace Go.Proofs.Ytfekafjfidohdaa.walk
open Go.Abs Go.Proofs.Ytfekafjfidohdaa.code
structure Gives (N l k0 w K:Nat) (cl:Nat→Claim) (J:Nat→(Nat→Prop)→Heap→Nat→Prop):Prop where
 few:k0≤2000
 below:∀ i O h n x,J i O h n→O x→x<n
 keep:∀ i O h h' n n',(∀ b,b<n→h'.get b=h.get b)→n≤n'→J i O h n→J i O h' n'
 take:∀ i O (s:St),i<K→J i O s.h s.n→s.n+20000≤far→w≤s.m→s.m≤far→∃ s' O',call Try.prog X N (.yield l) [claimV (cl i)] s=.val (.bool true) s'∧J (i+1) O' s'.h s'.n ∧
  (∀ x,x<s.n→¬ O x→s'.h.get x=s.h.get x)∧(∀ x,x<s.n→O' x→O x)∧s.n≤s'.n∧s'.n≤s.n+k0∧w≤s'.m∧s'.m≤s.m∧s'.m≤l
def mAt (b:Bench) (i:Nat):Mass:=b.ms.getD i ⟨0,0,0⟩
def sAt (b:Bench) (i:Nat):Scl:=b.ss.getD i ⟨0,0,0,0⟩
def givAt (b:Bench) (k:Nat):Claim :=
 if k<b.ms.length then ⟨k+1,0,((mAt b k).lo,(mAt b k).hi)⟩
 else if (k - b.ms.length) % (b.days+1)=0 then ⟨k+1,0,(-(sAt b ((k - b.ms.length) / (b.days+1))).fh, -(sAt b ((k - b.ms.length) / (b.days+1))).fl)⟩
 else ⟨k+1,k,(-(sAt b ((k - b.ms.length) / (b.days+1))).dh, -(sAt b ((k - b.ms.length) / (b.days+1))).dl)⟩
def givMany (b:Bench):Nat:=b.ms.length+b.ss.length * (b.days+1)
theorem givAt_mass (b:Bench) {i:Nat} (h:i<b.ms.length):givAt b i=⟨1+i,0,(b.ms[i].lo,b.ms[i].hi)⟩:=by
 unfold givAt mAt
 rw [if_pos h,Nat.add_comm]
 simp [List.getD,h]
theorem givAt_scale (b:Bench) {i:Nat} (h:i<b.ss.length):givAt b (b.ms.length+i * (b.days+1))=⟨1+b.ms.length+i * (b.days+1)+0,0,(-b.ss[i].fh, -b.ss[i].fl)⟩:=by
 unfold givAt sAt
 have e:b.ms.length+i * (b.days+1) - b.ms.length=i * (b.days+1):=by omega
 rw [if_neg (by omega),e,Nat.mul_mod_left,if_pos rfl,Nat.mul_div_cancel _ (by omega)]
 simp [List.getD,h]
 omega
theorem givAt_day (b:Bench) {i d:Nat} (h:i<b.ss.length) (hd:d<b.days):givAt b (b.ms.length+i * (b.days+1)+(d+1))=⟨1+b.ms.length+i * (b.days+1)+(d+1),1+b.ms.length+i * (b.days+1)+d,(-b.ss[i].dh, -b.ss[i].dl)⟩:=by
 unfold givAt sAt
 have e:b.ms.length+i * (b.days+1)+(d+1) - b.ms.length=(d+1)+i * (b.days+1):=by omega
 have e1:((d+1)+i * (b.days+1)) % (b.days+1)=d+1:=by rw [Nat.add_mul_mod_self_right,Nat.mod_eq_of_lt (by omega)]
 have e2:((d+1)+i * (b.days+1)) / (b.days+1)=i:=by rw [Nat.add_mul_div_right _ _ (by omega),Nat.div_eq_of_lt (by omega),Nat.zero_add]
 rw [if_neg (by omega),e,e1,e2,if_neg (by omega)]
 simp [List.getD,h]
 omega
structure Hand (u t:St) (w kk:Nat) (O0 O:Nat→Prop):Prop where
 same:∀ x,x<u.n→¬ O0 x→t.h.get x=u.h.get x
 own:∀ x,x<u.n→O x→O0 x
 n:u.n≤t.n
 le:t.n≤u.n+kk
 m:w≤t.m
 mle:t.m≤far
theorem Hand.mono {u t:St} {w k k':Nat} {O0 O:Nat→Prop} (h:Hand u t w k O0 O) (hk:k≤k'):Hand u t w k' O0 O:=⟨h.same,h.own,h.n,by have:=h.le;omega,h.m,h.mle⟩
theorem mass_round (N:Nat) (hN:1≤N) (cx:Ctx) {l k0 w p i kk:Nat} {O0 O:Nat→Prop} {J:Nat→(Nat→Prop)→Heap→Nat→Prop} {b:Bench} {v1 v2 v3 v4:AV} {u t:St} {L:Env} (hY:Gives N l k0 w (givMany b) (givAt b) J) (ok:b.Ok)
  (nb:Nat) (hB:BenchAt u.h nb b v1 v2 v3 v4) (hnb:∀ x,x<nb→x<u.n∧¬ O0 x) (hw:w≤u.n) (hs:u.n+kk+30000≤far) (hi:i<b.ms.length)
  (q0:L.find 0=.yield l) (q1:L.find 1=.ptr p 0) (q9:L.find 9=v1) (q10:L.find 10=.int .i64 b.ms.length) (q11:L.find 11=.int .i64 i) (hD:Hand u t w kk O0 O) (hJ:J i O t.h t.n) :
  ∃ L1 t1 O1,K75l0 (call Try.prog X N) cx L [] t=.done .norm L1 [] t1∧Hand u t1 w (kk+k0+1) O0 O1∧t1.m≤l∧L1.find 0=.yield l∧L1.find 1=.ptr p 0∧L1.find 9=v1∧L1.find 10=.int .i64 b.ms.length∧L1.find 11=.int .i64 (i+1:Nat)∧J (i+1) O1 t1.h t1.n:=by
 have hf:far=1000000000:=rfl
 obtain ⟨same,own,tn,tk,tm,tf⟩:=hD
 have e0:decide ((i:Int)<(b.ms.length:Int))=true:=decide_eq_true (by omega)
 obtain ⟨x0,o0,cs,sz,r1,r2,r3,r4⟩:=hB.m.at_ i (by simpa using hi)
 rw [List.getElem_map] at r4
 have g0:=(same x0 (hnb _ r1).1 (hnb _ r1).2).trans r3
 have hcl:=givAt_mass b hi
 have m1:=ok.m1
 generalize b.ms[i]=M at *
 obtain ⟨Mn,Mlo,Mhi⟩:=M
 unfold Mass.cells at r4
 simp only at hcl r4
 have ad:∀ s,aAdd s .i64 (i:Int) 1=.val (.int .i64 ((i:Int)+1)) s:=fun s=>aAdd_i64 s _ _ (by omega)
 have xt:x0<t.n:=by have:=(hnb _ r1).1;omega
 simp (disch:=first|omega|(with_unfolding_all exact rfl)|(simp only[new_n,put_n,new_m];omega)|(refine put_m_le ?_;simp only[new_m];omega)) only [res75,K75r0,K75r1,K75r2,K75r3,K75r4,K75r5,K75r6,K75r7,K75r8,K75r9,K75r10,K75r11,K75r12,K75r13,K75r14,K75,K75l0,Abs.W,reduceIte,Nat.reduceEqDiff,Nat.reduceAdd,decide_true,decide_false,kLoop_def,Nat.reduceSub,List.cons_append,List.nil_append,List.append_nil,List.length_cons,List.length_nil,Env.find_set,Nat.zero_add,Nat.add_zero,q0,q1,q9,q10,q11,e0,r2,r4,g0,massN_ok,gapOf_ok]
 generalize hs1:(t.new _).put t.n _=s1
 have s1n:s1.n=t.n+1:=by rw [← hs1];rfl
 have s1g:∀ x,x<t.n→s1.h.get x=t.h.get x:=fun x hx=>by rw [← hs1,get_put_ne' _ _ _ _ (by omega),get_new_ne _ _ _ (by omega)]
 have s1m:w≤s1.m∧s1.m≤far:=by rw [← hs1];simp only [St.put,minN_eq,new_m];omega
 obtain ⟨s2,O1,e2,k1,k3,k9,k4,k5,k6,k7,k8⟩:=hY.take i O s1 (by unfold givMany;omega) (hY.keep _ _ t.h s1.h t.n s1.n s1g (by omega) hJ) (by omega) s1m.1 s1m.2
 rw [hcl] at e2
 have e2':call Try.prog X N (.yield l) [.agg [.int .i64 ((1+i:Nat):Int),.int .i64 0,.int .i64 Mlo,.int .i64 Mhi]] s1=.val (.bool true) s2:=e2
 have kf:=hY.few
 have hD2:Hand u s2 w (kk+k0+1) O0 O1:=⟨fun x hx ho=>(k3 x (by omega) (fun h=>ho (own x hx h))).trans ((s1g x (by omega)).trans (same x hx ho)),fun x hx h=>own x hx (k9 x (by omega) h),by omega,by omega,k6,by omega⟩
 simp (disch:=first|omega|(with_unfolding_all exact rfl)|(simp only[new_n,put_n,new_m];omega)|(refine put_m_le ?_;simp only[new_m];omega)) only [Abs.W,reduceIte,Nat.reduceEqDiff,Nat.reduceAdd,decide_true,decide_false,kLoop_def,Nat.reduceSub,List.cons_append,List.nil_append,List.append_nil,List.length_cons,List.length_nil,Env.find_set,e2',q11,ad]
 refine ⟨_,_,O1,rfl,hD2,k8,?_,?_,?_,?_,?_,k1⟩
 ·simp only [Env.find_set,q0,reduceIte,Nat.reduceEqDiff]
 ·simp only [Env.find_set,q1,reduceIte,Nat.reduceEqDiff]
 ·simp only [Env.find_set,q9,reduceIte,Nat.reduceEqDiff]
 ·simp only [Env.find_set,q10,reduceIte,Nat.reduceEqDiff]
 ·simp only [Env.find_set,reduceIte,Nat.reduceEqDiff];rfl
theorem day_round (N:Nat) (hN:1≤N) (cx:Ctx) {l k0 w p szp i d kk x6:Nat} {O0 O:Nat→Prop} {J:Nat→(Nat→Prop)→Heap→Nat→Prop} {b:Bench} {v1 v2 v3 v4:AV} {u t:St} {L:Env} (hY:Gives N l k0 w (givMany b) (givAt b) J) (ok:b.Ok)
  (nb:Nat) (hB:BenchAt u.h nb b v1 v2 v3 v4) (gp:u.h.get p=some (.cells (benchV v1 v2 v3 v4 b.days) szp)) (hp:p<u.n∧¬ O0 p) (hw:w≤u.n) (hs:u.n+kk+30000≤far) (hi:i<b.ss.length) (hd:d<b.days)
  (g6:t.h.get x6=some (.cells b.ss[i].cells (tag 71))) (h6:x6<t.n∧¬ O x6)
  (q0:L.find 0=.yield l) (q1:L.find 1=.ptr p 0) (q5:L.find 5=.int .i64 i) (q6:L.find 6=.ptr x6 0) (q27:L.find 27=v3) (q28:L.find 28=.int .i64 b.ss.length) (q29:L.find 29=.int .i64 i) (q46:L.find 46=.int .i64 b.days) (q47:L.find 47=.int .i64 d) (hD:Hand u t w kk O0 O) (hJ:J (b.ms.length+i * (b.days+1)+(d+1)) O t.h t.n) :
  ∃ L1 t1 O1,K75l1 (call Try.prog X N) cx L [] t=.done .norm L1 [] t1∧Hand u t1 w (kk+k0+1) O0 O1∧t1.m≤l∧t1.h.get x6=some (.cells b.ss[i].cells (tag 71))∧(x6<t1.n∧¬ O1 x6)∧L1.find 0=.yield l∧L1.find 1=.ptr p 0∧L1.find 5=.int .i64 i∧L1.find 6=.ptr x6 0∧L1.find 27=v3∧L1.find 28=.int .i64 b.ss.length∧L1.find 29=.int .i64 i∧L1.find 46=.int .i64 b.days∧L1.find 47=.int .i64 (d+1:Nat)∧J (b.ms.length+i * (b.days+1)+(d+1+1)) O1 t1.h t1.n:=by
 have hf:far=1000000000:=rfl
 obtain ⟨same,own,tn,tk,tm,tf⟩:=hD
 have c1:=ok.m1
 have c2:=ok.s1
 have c3:=ok.d1
 have e0:decide ((d:Int)<(b.days:Int))=true:=decide_eq_true (by omega)
 have gp':=(same p hp.1 hp.2).trans gp
 have hcl:=givAt_day b hi hd
 have hidx:b.ms.length+i * (b.days+1)+(d+1)<givMany b:=by
  unfold givMany
  have:(i+1) * (b.days+1)≤b.ss.length * (b.days+1):=Nat.mul_le_mul_right _ (by omega)
  rw [Nat.succ_mul] at this
  omega
 obtain ⟨f0,f1,f2,z0,z1,z2⟩:=ok.sok _ (List.getElem_mem hi)
 generalize b.ss[i]=M at *
 obtain ⟨Fl,Fh,Dl,Dh⟩:=M
 unfold Scl.cells at g6
 simp only at hcl g6 z0 z1 z2
 have ad:∀ s,aAdd s .i64 (d:Int) 1=.val (.int .i64 ((d:Int)+1)) s:=fun s=>aAdd_i64 s _ _ (by omega)
 have l1:=hB.m.len
 rw [List.length_map] at l1
 have he:∀ (e:Nat) (s:St),e≤100→s.n+100≤far→call Try.prog X N (.fn 33) [.agg [v1,v2,v3,v4,.int .i64 b.days],.int .i64 (i:Int),.int .i64 (e:Int)] s=.val (.int .i64 ((1+b.ms.length+i * (b.days+1)+e:Nat):Int)) s:=fun e s he hs=>errorAt_ok N hN b.ms.length b.days i e v1 v2 v3 v4 l1 hB.m.ne s (by omega) (by omega) (by omega) (by omega) hs
 have he1:∀ (s:St),s.n+100≤far→call Try.prog X N (.fn 33) [.agg [v1,v2,v3,v4,.int .i64 b.days],.int .i64 (i:Int),.int .i64 ((d:Int)+1)] s=.val (.int .i64 ((1+b.ms.length+i * (b.days+1)+(d+1):Nat):Int)) s:=fun s hs=>he (d+1) s (by omega) hs
 have he0:=fun s hs=>he d s (by omega) hs
 unfold benchV at gp'
 simp (disch:=first|omega|(with_unfolding_all exact rfl)|(simp only[new_n,put_n,new_m];omega)|(refine put_m_le ?_;simp only[new_m];omega)) only [res75,K75r0,K75r1,K75r2,K75r3,K75r4,K75r5,K75r6,K75r7,K75r8,K75r9,K75r10,K75r11,K75r12,K75r13,K75r14,K75,K75l1,Abs.W,reduceIte,Nat.reduceEqDiff,Nat.reduceAdd,decide_true,decide_false,kLoop_def,Nat.reduceSub,List.cons_append,List.nil_append,List.append_nil,List.length_cons,List.length_nil,Env.find_set,Nat.zero_add,q0,q1,q5,q6,q46,q47,e0,g6,gp',he0,he1,gapOf_ok,turned_ok,ad]
 obtain ⟨s2,O1,e2,k1,k3,k9,k4,k5,k6,k7,k8⟩:=hY.take _ O t hidx hJ (by omega) tm tf
 rw [hcl] at e2
 have e2':call Try.prog X N (.yield l) [.agg [.int .i64 ((1+b.ms.length+i * (b.days+1)+(d+1):Nat):Int),.int .i64 ((1+b.ms.length+i * (b.days+1)+d:Nat):Int),.int .i64 (-Dh),.int .i64 (-Dl)]] t=.val (.bool true) s2:=e2
 have kf:=hY.few
 have hD2:Hand u s2 w (kk+k0+1) O0 O1:=⟨fun x hx ho=>(k3 x (by omega) (fun h=>ho (own x hx h))).trans (same x hx ho),fun x hx h=>own x hx (k9 x (by omega) h),by omega,by omega,k6,by omega⟩
 simp (disch:=first|omega|(with_unfolding_all exact rfl)|(simp only[new_n,put_n,new_m];omega)|(refine put_m_le ?_;simp only[new_m];omega)) only [Abs.W,reduceIte,Nat.reduceEqDiff,Nat.reduceAdd,decide_true,decide_false,kLoop_def,Nat.reduceSub,List.cons_append,List.nil_append,List.append_nil,List.length_cons,List.length_nil,Env.find_set,e2',q47,ad]
 refine ⟨_,_,O1,rfl,hD2,k8,(k3 x6 h6.1 h6.2).trans g6,⟨by omega,fun h=>h6.2 (k9 x6 h6.1 h)⟩,?_,?_,?_,?_,?_,?_,?_,?_,?_,k1⟩
 ·simp only [Env.find_set,q0,reduceIte,Nat.reduceEqDiff]
 ·simp only [Env.find_set,q1,reduceIte,Nat.reduceEqDiff]
 ·simp only [Env.find_set,q5,reduceIte,Nat.reduceEqDiff]
 ·simp only [Env.find_set,q6,reduceIte,Nat.reduceEqDiff]
 ·simp only [Env.find_set,q27,reduceIte,Nat.reduceEqDiff]
 ·simp only [Env.find_set,q28,reduceIte,Nat.reduceEqDiff]
 ·simp only [Env.find_set,q29,reduceIte,Nat.reduceEqDiff]
 ·simp only [Env.find_set,q46,reduceIte,Nat.reduceEqDiff]
 ·simp only [Env.find_set,reduceIte,Nat.reduceEqDiff];rfl
theorem scale_round (N:Nat) (hN:1≤N) (cx:Ctx) {l k0 w p szp i kk:Nat} {O0 O:Nat→Prop} {J:Nat→(Nat→Prop)→Heap→Nat→Prop} {b:Bench} {v1 v2 v3 v4:AV} {u t:St} {L:Env} (hY:Gives N l k0 w (givMany b) (givAt b) J) (ok:b.Ok)
  (nb:Nat) (hB:BenchAt u.h nb b v1 v2 v3 v4) (hnb:∀ x,x<nb→x<u.n∧¬ O0 x) (gp:u.h.get p=some (.cells (benchV v1 v2 v3 v4 b.days) szp)) (hp:p<u.n∧¬ O0 p) (hw:w≤u.n) (hs:u.n+kk+100000≤far) (hi:i<b.ss.length)
  (q0:L.find 0=.yield l) (q1:L.find 1=.ptr p 0) (q27:L.find 27=v3) (q28:L.find 28=.int .i64 b.ss.length) (q29:L.find 29=.int .i64 i) (hD:Hand u t w kk O0 O) (hJ:J (b.ms.length+i * (b.days+1)) O t.h t.n) :
  ∃ L1 t1 O1,K75l2 (call Try.prog X N) cx L [] t=.done .norm L1 [] t1∧Hand u t1 w (kk+(k0+1) * (b.days+1)) O0 O1∧t1.m≤l∧L1.find 0=.yield l∧L1.find 1=.ptr p 0∧L1.find 27=v3∧L1.find 28=.int .i64 b.ss.length∧L1.find 29=.int .i64 (i+1:Nat)∧J (b.ms.length+(i+1) * (b.days+1)) O1 t1.h t1.n:=by
 have hf:far=1000000000:=rfl
 have hD0:=hD
 obtain ⟨same,own,tn,tk,tm,tf⟩:=hD
 have c1:=ok.m1
 have c2:=ok.s1
 have c3:=ok.d1
 have e0:decide ((i:Int)<(b.ss.length:Int))=true:=decide_eq_true (by omega)
 obtain ⟨x0,o0,cs,sz,r1,r2,r3,r4⟩:=hB.s.at_ i (by simpa using hi)
 rw [List.getElem_map] at r4
 have g0:=(same x0 (hnb _ r1).1 (hnb _ r1).2).trans r3
 have gp':=(same p hp.1 hp.2).trans gp
 have hcl:=givAt_scale b hi
 have hidx:b.ms.length+i * (b.days+1)<givMany b:=by
  unfold givMany
  have:(i+1) * (b.days+1)≤b.ss.length * (b.days+1):=Nat.mul_le_mul_right _ (by omega)
  rw [Nat.succ_mul] at this
  omega
 obtain ⟨f0,f1,f2,z0,z1,z2⟩:=ok.sok _ (List.getElem_mem hi)
 obtain ⟨M,hM⟩:∃ M,M=b.ss[i]:=⟨_,rfl⟩
 rw [← hM] at hcl r4 f0 f1 f2 z0 z1 z2
 have hMc:b.ss[i].cells=M.cells:=by rw [hM]
 clear hM
 obtain ⟨Fl,Fh,Dl,Dh⟩:=M
 unfold Scl.cells at r4
 simp only at hcl r4 f0 f1 f2
 have ad:∀ s,aAdd s .i64 (i:Int) 1=.val (.int .i64 ((i:Int)+1)) s:=fun s=>aAdd_i64 s _ _ (by omega)
 have l1:=hB.m.len
 rw [List.length_map] at l1
 have he0:∀ (s:St),s.n+100≤far→call Try.prog X N (.fn 33) [.agg [v1,v2,v3,v4,.int .i64 b.days],.int .i64 (i:Int),.int .i64 0] s=.val (.int .i64 ((1+b.ms.length+i * (b.days+1)+0:Nat):Int)) s:=fun s hs=>errorAt_ok N hN b.ms.length b.days i 0 v1 v2 v3 v4 l1 hB.m.ne s (by omega) (by omega) (by omega) (by omega) hs
 have xt:x0<t.n:=by have:=(hnb _ r1).1;omega
 have gp2:=gp'
 unfold benchV at gp2
 simp (disch:=first|omega|(with_unfolding_all exact rfl)|(simp only[new_n,put_n,new_m];omega)|(refine put_m_le ?_;simp only[new_m];omega)) only [res75,K75r0,K75r1,K75r2,K75r3,K75r4,K75r5,K75r6,K75r7,K75r8,K75r9,K75r10,K75r11,K75r12,K75r13,K75r14,K75,K75l2,Abs.W,reduceIte,Nat.reduceEqDiff,Nat.reduceAdd,decide_true,decide_false,kLoop_def,Nat.reduceSub,List.cons_append,List.nil_append,List.append_nil,List.length_cons,List.length_nil,Env.find_set,Nat.zero_add,q0,q1,q27,q28,q29,e0,r2,r4,g0,gp2,he0,gapOf_ok,turned_ok]
 generalize hs1:(t.new _).put t.n _=s1
 have s1n:s1.n=t.n+1:=by rw [← hs1];rfl
 have s1g:∀ x,x<t.n→s1.h.get x=t.h.get x:=fun x hx=>by rw [← hs1,get_put_ne' _ _ _ _ (by omega),get_new_ne _ _ _ (by omega)]
 have s16:s1.h.get t.n=some (.cells b.ss[i].cells (tag 71)):=by rw [hMc,← hs1];exact get_put_eq _ _ _ _ rfl (by omega)
 have s1m:w≤s1.m∧s1.m≤far:=by rw [← hs1];simp only [St.put,minN_eq,new_m];omega
 obtain ⟨s2,O1,e2,k1,k3,k9,k4,k5,k6,k7,k8⟩:=hY.take _ O s1 hidx (hY.keep _ _ t.h s1.h t.n s1.n s1g (by omega) hJ) (by omega) s1m.1 s1m.2
 rw [hcl] at e2
 have e2':call Try.prog X N (.yield l) [.agg [.int .i64 ((1+b.ms.length+i * (b.days+1)+0:Nat):Int),.int .i64 0,.int .i64 (-Fh),.int .i64 (-Fl)]] s1=.val (.bool true) s2:=e2
 have kf:=hY.few
 have nO:¬ O t.n:=fun h=>Nat.lt_irrefl _ (hY.below _ _ _ _ _ hJ h)
 have hD2:Hand u s2 w (kk+k0+1) O0 O1:=⟨fun x hx ho=>(k3 x (by omega) (fun h=>ho (own x hx h))).trans ((s1g x (by omega)).trans (same x hx ho)),fun x hx h=>own x hx (k9 x (by omega) h),by omega,by omega,k6,by omega⟩
 have gp3:=(hD2.same p hp.1 hp.2).trans gp
 unfold benchV at gp3
 simp (disch:=first|omega|(with_unfolding_all exact rfl)|(simp only[new_n,put_n,new_m];omega)|(refine put_m_le ?_;simp only[new_m];omega)) only [Abs.W,reduceIte,Nat.reduceEqDiff,Nat.reduceAdd,decide_true,decide_false,kLoop_def,Nat.reduceSub,List.cons_append,List.nil_append,List.append_nil,List.length_cons,List.length_nil,Env.find_set,e2',q1,gp3]
 generalize hl:loopN _ rounds _ _ _ _ _=rr
 have hkm:∀ d,d≤b.days+1→(k0+1) * d≤(k0+1) * 9:=fun d hd=>Nat.mul_le_mul_left _ (by omega)
 obtain ⟨e,L2,s3,rfl,rfl,O2,hD3,hl3,y0,y1,y27,y28,y29,yJ⟩:=loop_of hl (fun d L' t'=>∃ O2,Hand u t' w (kk+(k0+1) * (d+1)) O0 O2∧t'.m≤l∧t'.h.get t.n=some (.cells b.ss[i].cells (tag 71))∧(t.n<t'.n∧¬ O2 t.n)∧L'.find 0=.yield l∧L'.find 1=.ptr p 0∧L'.find 5=.int .i64 i∧L'.find 6=.ptr t.n 0∧L'.find 27=v3∧L'.find 28=.int .i64 b.ss.length∧L'.find 29=.int .i64 i∧L'.find 46=.int .i64 b.days∧L'.find 47=.int .i64 d∧J (b.ms.length+i * (b.days+1)+(d+1)) O2 t'.h t'.n)
  (fun e L' t'=>e=.exit 4∧∃ O2,Hand u t' w (kk+(k0+1) * (b.days+1)) O0 O2∧t'.m≤l∧L'.find 0=.yield l∧L'.find 1=.ptr p 0∧L'.find 27=v3∧L'.find 28=.int .i64 b.ss.length∧L'.find 29=.int .i64 i∧J (b.ms.length+i * (b.days+1)+(b.days+1)) O2 t'.h t'.n) b.days (by unfold rounds;omega)
  ⟨O1,by rw [Nat.zero_add,Nat.mul_one];exact hD2,k8,(k3 _ (by omega) nO).trans s16,⟨by omega,fun h=>nO (k9 _ (by omega) h)⟩,by simp only [Env.find_set,q0,reduceIte,Nat.reduceEqDiff],by simp only [Env.find_set,q1,reduceIte,Nat.reduceEqDiff],by simp only [Env.find_set,reduceIte,Nat.reduceEqDiff],by simp only [Env.find_set,reduceIte,Nat.reduceEqDiff],by simp only [Env.find_set,q27,reduceIte,Nat.reduceEqDiff],by simp only [Env.find_set,q28,reduceIte,Nat.reduceEqDiff],by simp only [Env.find_set,q29,reduceIte,Nat.reduceEqDiff],by simp only [Env.find_set,reduceIte,Nat.reduceEqDiff],by simp only [Env.find_set,reduceIte,Nat.reduceEqDiff];rfl,k1⟩
  (fun d L' t' hd ⟨O2,hD',hl',g6,h6,y0,y1,y5,y6,y27,y28,y29,y46,y47,yJ⟩=>by
   have hkd:=hkm (d+1) (by omega)
   by_cases hlt:d<b.days
   ·obtain ⟨L2,t2,O3,p1,p2,p3,p4,p5,p6,p7,p8,p9,pa,pb,pc,pd,pe,pf⟩:=day_round N hN cx hY ok nb hB gp hp hw (by omega) hi hlt g6 h6 y0 y1 y5 y6 y27 y28 y29 y46 y47 hD' yJ
    refine .inl ⟨hlt,L2,t2,p1,O3,?_,p3,p4,⟨by have:=p2.n;have:=hD'.n;have:=p5.1;omega,p5.2⟩,p6,p7,p8,p9,pa,pb,pc,pd,pe,pf⟩
    rw [Nat.mul_succ (k0+1) (d+1),← Nat.add_assoc]
    exact p2
   ·obtain rfl:d=b.days:=by omega
    have e1:decide ((b.days:Int)<(b.days:Int))=false:=by simp
    refine .inr ⟨.exit 4,L'.set 48 (.bool false),t',by simp,?_,rfl,O2,hD',hl',?_,?_,?_,?_,?_,yJ⟩
    ·simp (disch:=first|omega|(with_unfolding_all exact rfl)|(simp only[new_n,put_n,new_m];omega)|(refine put_m_le ?_;simp only[new_m];omega)) only [res75,K75r0,K75r1,K75r2,K75r3,K75r4,K75r5,K75r6,K75r7,K75r8,K75r9,K75r10,K75r11,K75r12,K75r13,K75r14,K75,K75l1,Abs.W,reduceIte,Nat.reduceEqDiff,Nat.reduceAdd,decide_true,decide_false,kLoop_def,Nat.reduceSub,List.cons_append,List.nil_append,List.append_nil,List.length_cons,List.length_nil,Env.find_set,y46,y47,e1]
    ·simp only [Env.find_set,y0,reduceIte,Nat.reduceEqDiff]
    ·simp only [Env.find_set,y1,reduceIte,Nat.reduceEqDiff]
    ·simp only [Env.find_set,y27,reduceIte,Nat.reduceEqDiff]
    ·simp only [Env.find_set,y28,reduceIte,Nat.reduceEqDiff]
    ·simp only [Env.find_set,y29,reduceIte,Nat.reduceEqDiff])
 simp (disch:=first|omega|(with_unfolding_all exact rfl)|(simp only[new_n,put_n,new_m];omega)|(refine put_m_le ?_;simp only[new_m];omega)) only [res75,K75r0,K75r1,K75r2,K75r3,K75r4,K75r5,K75r6,K75r7,K75r8,K75r9,K75r10,K75r11,K75r12,K75r13,K75r14,K75,Abs.W,reduceIte,Nat.reduceEqDiff,Nat.reduceAdd,decide_true,decide_false,kLoop_def,Nat.reduceSub,List.cons_append,List.nil_append,List.append_nil,List.length_cons,List.length_nil,Env.find_set,y29,ad]
 refine ⟨_,_,O2,rfl,hD3,hl3,?_,?_,?_,?_,?_,?_⟩
 ·simp only [Env.find_set,y0,reduceIte,Nat.reduceEqDiff]
 ·simp only [Env.find_set,y1,reduceIte,Nat.reduceEqDiff]
 ·simp only [Env.find_set,y27,reduceIte,Nat.reduceEqDiff]
 ·simp only [Env.find_set,y28,reduceIte,Nat.reduceEqDiff]
 ·simp only [Env.find_set,reduceIte,Nat.reduceEqDiff];rfl
 ·rw [Nat.succ_mul,← Nat.add_assoc];exact yJ
theorem givens1_ex {N l k0 w p szp:Nat} {O0:Nat→Prop} {J:Nat→(Nat→Prop)→Heap→Nat→Prop} {b:Bench} {v1 v2 v3 v4:AV} {s:St} {r:ARes} (hr:call Try.prog X N (.fn 75) [.yield l,.ptr p 0] s=r) (hN:2≤N) (hY:Gives (N - 1) l k0 w (givMany b) (givAt b) J) (ok:b.Ok)
  (nb:Nat) (hB:BenchAt s.h nb b v1 v2 v3 v4) (hnb:∀ x,x<nb→x<s.n∧¬ O0 x) (gp:s.h.get p=some (.cells (benchV v1 v2 v3 v4 b.days) szp)) (hp:p<s.n∧¬ O0 p) (hw:w≤s.n) (hs:s.n+300000≤far) (hls:l<s.n) (hJ:J 0 O0 s.h s.n) :
  ∃ s' O1,r=.val (.tup []) s'∧J (givMany b) O1 s'.h s'.n∧(∀ x,x<s.n→¬ O0 x→s'.h.get x=s.h.get x)∧(∀ x,x<s.n→O1 x→O0 x)∧s.n≤s'.n∧s'.n≤s.n+(k0+1) * givMany b∧(w≤s.m→w≤s'.m)∧s'.m≤s.m:=by
 obtain ⟨n,rfl⟩:∃ n,N=n+1:=⟨N - 1,by omega⟩
 have hf:far=1000000000:=rfl
 rw [Nat.add_sub_cancel] at hY
 have c0:=ok.m0
 have c1:=ok.m1
 have c2:=ok.s1
 have c3:=ok.d1
 have kf:=hY.few
 have hkm:∀ i,i≤32→(k0+1) * i≤(k0+1) * 32:=fun i hi=>Nat.mul_le_mul_left _ hi
 have hsd:∀ i,i≤b.ss.length→i * (b.days+1)≤3 * 9:=fun i hi=>Nat.mul_le_mul (by omega) (by omega)
 obtain ⟨v',t,mm,e,⟨rfl,O1,a1,a2,a3,a4,a5,a6,a7⟩,hm'⟩:=call_any (n:=n) (args:=[.yield l,.ptr p 0]) (s:=s) (Q:=fun v h n m'=>v=.tup []∧∃ O1,J (givMany b) O1 h n∧(∀ x,x<s.n→¬ O0 x→h.get x=s.h.get x)∧(∀ x,x<s.n→O1 x→O0 x)∧s.n≤n∧n≤s.n+(k0+1) * givMany b∧w≤m'∧m'≤far) Try.func75 rfl (fun u uh un um=>by
  rw [← uh] at gp hB
  rw [← un] at hnb hp
  have hJ':J 0 O0 u.h u.n:=by rw [uh,un];exact hJ
  have gp':=gp
  unfold benchV at gp'
  have k1:∀ t,okA (.val v1 t)=.val v1 t:=fun t=>okA_ne hB.m.ne
  have k3:∀ t,okA (.val v3 t)=.val v3 t:=fun t=>okA_ne hB.s.ne
  have l1:=hB.m.len
  rw [List.length_map] at l1
  have l3:=hB.s.len
  rw [List.length_map] at l3
  rw [enter75]
  simp (disch:=first|omega|(with_unfolding_all exact rfl)|(simp only[new_n,put_n,new_m];omega)|(refine put_m_le ?_;simp only[new_m];omega)) only [res75,K75r0,K75r1,K75r2,K75r3,K75r4,K75r5,K75r6,K75r7,K75r8,K75r9,K75r10,K75r11,K75r12,K75r13,K75r14,K75,Abs.W,reduceIte,Nat.reduceEqDiff,Nat.reduceAdd,decide_true,decide_false,kLoop_def,Nat.reduceSub,List.cons_append,List.nil_append,List.append_nil,List.length_cons,List.length_nil,gp',k1,l1]
  generalize hl:loopN _ rounds _ _ _ _ _=r1
  have h0:Hand u u w 0 O0 O0:=⟨fun _ _ _=>rfl,fun _ _ h=>h,Nat.le_refl _,Nat.le_refl _,by omega,by omega⟩
  obtain ⟨e,L1,s1,rfl,rfl,O1,hD,q0,q1,hJ1,hl1⟩:=loop_of hl (fun i L' t'=>∃ O1,L'.find 0=.yield l∧L'.find 1=.ptr p 0∧L'.find 9=v1∧L'.find 10=.int .i64 b.ms.length∧L'.find 11=.int .i64 i∧Hand u t' w ((k0+1) * i) O0 O1∧J i O1 t'.h t'.n∧(0<i→t'.m≤l))
   (fun e L1 t'=>e=.exit 0∧∃ O1,Hand u t' w ((k0+1) * b.ms.length) O0 O1∧L1.find 0=.yield l∧L1.find 1=.ptr p 0∧J b.ms.length O1 t'.h t'.n∧t'.m≤l) b.ms.length (by unfold rounds;omega)
   ⟨O0,by simp only [Env.find_set,find_cons,reduceIte,Nat.reduceEqDiff],by simp only [Env.find_set,find_cons,reduceIte,Nat.reduceEqDiff],by simp only [Env.find_set,find_cons,reduceIte,Nat.reduceEqDiff],by simp only [Env.find_set,find_cons,reduceIte,Nat.reduceEqDiff],by simp only [Env.find_set,find_cons,reduceIte,Nat.reduceEqDiff];rfl,h0,hJ',fun h=>absurd h (Nat.lt_irrefl _)⟩
   (fun i L' t' hi ⟨O1,q0,q1,q9,q10,q11,hD,hJi,hl0⟩=>by
    have hki:=hkm i (by omega)
    by_cases hlt:i<b.ms.length
    ·obtain ⟨L2,t2,O2,p1,p2,p3,z0,z1,z9,z10,z11,zJ⟩:=mass_round n (by omega) ⟨75,none,Try.f75.ntmps,X 75⟩ hY ok nb hB hnb (by omega) (by omega) hlt q0 q1 q9 q10 q11 hD hJi
     exact .inl ⟨hlt,L2,t2,p1,O2,z0,z1,z9,z10,z11,by rw [Nat.mul_succ];exact p2,zJ,fun _=>p3⟩
    ·obtain rfl:i=b.ms.length:=by omega
     have e1:decide ((b.ms.length:Int)<(b.ms.length:Int))=false:=by simp
     refine .inr ⟨.exit 0,L'.set 12 (.bool false),t',by simp,?_,rfl,O1,hD,?_,?_,hJi,hl0 (by omega)⟩
     ·simp (disch:=first|omega|(with_unfolding_all exact rfl)|(simp only[new_n,put_n,new_m];omega)|(refine put_m_le ?_;simp only[new_m];omega)) only [res75,K75r0,K75r1,K75r2,K75r3,K75r4,K75r5,K75r6,K75r7,K75r8,K75r9,K75r10,K75r11,K75r12,K75r13,K75r14,K75,K75l0,Abs.W,reduceIte,Nat.reduceEqDiff,Nat.reduceAdd,decide_true,decide_false,kLoop_def,Nat.reduceSub,List.cons_append,List.nil_append,List.append_nil,List.length_cons,List.length_nil,Env.find_set,q10,q11,e1]
     ·simp only [Env.find_set,q0,reduceIte,Nat.reduceEqDiff]
     ·simp only [Env.find_set,q1,reduceIte,Nat.reduceEqDiff])
  have gp1:=(hD.same p hp.1 hp.2).trans gp'
  simp (disch:=first|omega|(with_unfolding_all exact rfl)|(simp only[new_n,put_n,new_m];omega)|(refine put_m_le ?_;simp only[new_m];omega)) only [res75,K75r0,K75r1,K75r2,K75r3,K75r4,K75r5,K75r6,K75r7,K75r8,K75r9,K75r10,K75r11,K75r12,K75r13,K75r14,K75,Abs.W,reduceIte,Nat.reduceEqDiff,Nat.reduceAdd,decide_true,decide_false,kLoop_def,Nat.reduceSub,List.cons_append,List.nil_append,List.append_nil,List.length_cons,List.length_nil,Env.find_set,q0,q1,gp1,k3,l3]
  generalize hl2:loopN _ rounds _ _ _ _ _=r2
  have hgM:givMany b=b.ms.length+b.ss.length * (b.days+1):=rfl
  obtain ⟨e,L2,s2,rfl,rfl,O2,hD2,hJ2,hl2'⟩:=loop_of hl2 (fun i L' t'=>∃ O1,L'.find 0=.yield l∧L'.find 1=.ptr p 0∧L'.find 27=v3∧L'.find 28=.int .i64 b.ss.length∧L'.find 29=.int .i64 i∧Hand u t' w ((k0+1) * (b.ms.length+i * (b.days+1))) O0 O1∧J (b.ms.length+i * (b.days+1)) O1 t'.h t'.n∧t'.m≤l)
   (fun e L' t'=>e=.exit 2∧∃ O1,Hand u t' w ((k0+1) * givMany b) O0 O1∧J (givMany b) O1 t'.h t'.n∧t'.m≤l) b.ss.length (by unfold rounds;omega)
   ⟨O1,by simp only [Env.find_set,q0,reduceIte,Nat.reduceEqDiff],by simp only [Env.find_set,q1,reduceIte,Nat.reduceEqDiff],by simp only [Env.find_set,reduceIte,Nat.reduceEqDiff],by simp only [Env.find_set,reduceIte,Nat.reduceEqDiff],by simp only [Env.find_set,reduceIte,Nat.reduceEqDiff];rfl,by rw [Nat.zero_mul];exact hD,by rw [Nat.zero_mul];exact hJ1,hl1⟩
   (fun i L' t' hi ⟨O1,q0,q1,q27,q28,q29,hD,hJi,hl0⟩=>by
    have hki:=hkm (b.ms.length+i * (b.days+1)) (by have:=hsd i hi;omega)
    by_cases hlt:i<b.ss.length
    ·obtain ⟨L2,t2,O2,p1,p2,p3,z0,z1,z9,z10,z11,zJ⟩:=scale_round n (by omega) ⟨75,none,Try.f75.ntmps,X 75⟩ hY ok nb hB hnb gp hp (by omega) (by omega) hlt q0 q1 q27 q28 q29 hD hJi
     exact .inl ⟨hlt,L2,t2,p1,O2,z0,z1,z9,z10,z11,by rw [show (k0+1) * (b.ms.length+(i+1) * (b.days+1))=(k0+1) * (b.ms.length+i * (b.days+1))+(k0+1) * (b.days+1) from by rw [Nat.succ_mul i (b.days+1),← Nat.add_assoc,Nat.mul_add (k0+1) (b.ms.length+i * (b.days+1))]];exact p2,zJ,p3⟩
    ·obtain rfl:i=b.ss.length:=by omega
     have e1:decide ((b.ss.length:Int)<(b.ss.length:Int))=false:=by simp
     refine .inr ⟨.exit 2,L'.set 30 (.bool false),t',by simp,?_,rfl,O1,hD,hJi,hl0⟩
     simp (disch:=first|omega|(with_unfolding_all exact rfl)|(simp only[new_n,put_n,new_m];omega)|(refine put_m_le ?_;simp only[new_m];omega)) only [res75,K75r0,K75r1,K75r2,K75r3,K75r4,K75r5,K75r6,K75r7,K75r8,K75r9,K75r10,K75r11,K75r12,K75r13,K75r14,K75,K75l2,Abs.W,reduceIte,Nat.reduceEqDiff,Nat.reduceAdd,decide_true,decide_false,kLoop_def,Nat.reduceSub,List.cons_append,List.nil_append,List.append_nil,List.length_cons,List.length_nil,Env.find_set,q28,q29,e1])
  simp (disch:=first|omega|(with_unfolding_all exact rfl)|(simp only[new_n,put_n,new_m];omega)|(refine put_m_le ?_;simp only[new_m];omega)) only [res75,K75r0,K75r1,K75r2,K75r3,K75r4,K75r5,K75r6,K75r7,K75r8,K75r9,K75r10,K75r11,K75r12,K75r13,K75r14,K75,Abs.W,reduceIte,Nat.reduceEqDiff,Nat.reduceAdd,decide_true,decide_false,kLoop_def,Nat.reduceSub,List.cons_append,List.nil_append,List.append_nil,List.length_cons,List.length_nil,Env.find_set,leave_nil]
  obtain ⟨d1,d2,d3,d4,d5,d6⟩:=hD2
  refine ⟨_,_,rfl,⟨rfl,O2,hJ2,fun x hx ho=>by rw [d1 x (by omega) ho,uh],fun x hx h=>d2 x (by omega) h,by omega,by omega,d5,d6⟩,fun _ hle=>by omega⟩)
 refine ⟨t,O1,hr.symm.trans e,a1,a2,a3,a4,a5,?_,?_⟩
 ·rcases hm' with ⟨_,hm'⟩ | ⟨_,hm'⟩<;>omega
 ·rcases hm' with ⟨_,hm'⟩ | ⟨_,hm'⟩<;>omega
end Go.Proofs.Ytfekafjfidohdaa.walk
set_option maxRecDepth 10000
namespace Go.Proofs.Ytfekafjfidohdaa.walk
open Go.Abs Go.Proofs.Ytfekafjfidohdaa.code
def rowOf (n:Nat) (E:Nat→Nat→Gap) (i:Nat):List Gap:=(List.range n).map fun j=>E i j
theorem rowOf_len (n:Nat) (E:Nat→Nat→Gap) (i:Nat):(rowOf n E i).length=n:=by unfold rowOf;rw [List.length_map,List.length_range]
theorem rowOf_at {n:Nat} {E:Nat→Nat→Gap} {i j:Nat} (h:j<(rowOf n E i).length):(rowOf n E i)[j]=E i j:=by simp [rowOf]
theorem rowOf_more {n:Nat} {E:Nat→Nat→Gap} {b:Nat} {g:Gap} {i:Nat} (hi:i<n):rowOf (n+1) (moreE n E b g) i=rowOf n E i++[(g.plus (E b i)).turned]:=by
 unfold rowOf
 rw [range_snoc]
 congr 1
 ·apply List.map_congr_left
  intro j hj
  exact moreE_old hi (List.mem_range.mp hj)
 ·unfold moreE
  rw [if_pos hi,if_neg (Nat.lt_irrefl n)]
theorem rowOf_new {n:Nat} {E:Nat→Nat→Gap} {b:Nat} {g:Gap}:rowOf (n+1) (moreE n E b g) n=((List.range n).map fun x=>g.plus (E b x))++[(0,0)]:=by
 unfold rowOf
 rw [range_snoc]
 congr 1
 ·apply List.map_congr_left
  intro j hj
  unfold moreE
  rw [if_neg (Nat.lt_irrefl n),if_pos (List.mem_range.mp hj)]
 ·unfold moreE
  rw [if_neg (Nat.lt_irrefl n),if_neg (Nat.lt_irrefl n)]
abbrev tgap:Nat:=tag 81
abbrev trow:Nat:=tag 82
def rowNow (m j:Nat) (E:Nat→Nat→Gap) (c:Claim) (x:Nat):List Gap:=if x<j then rowOf (m+1) (moreE m E c.b c.gap) x else rowOf m E x
theorem rowNow_at {m j:Nat} {E:Nat→Nat→Gap} {c:Claim} {x y:Nat} (hx:x<m) (hy:y<m):∃ h:y<(rowNow m j E c x).length,(rowNow m j E c x)[y]=E x y:=by
 unfold rowNow
 by_cases h:x<j
 ·simp only [h,if_true]
  exact ⟨by rw [rowOf_len];omega,by rw [rowOf_at,moreE_old hx hy]⟩
 ·simp only [h,if_false]
  exact ⟨by rw [rowOf_len];omega,by rw [rowOf_at]⟩
structure InGiv (u t:St) (q x4 bl ob m j k w:Nat) (E:Nat→Nat→Gap) (c:Claim) (bf0 bf:Nat→Nat) (vf:Nat→AV) (v:AV) (L:Env):Prop where
 l3:L.find 3=.ptr q 0
 l4:L.find 4=.ptr x4 0
 l5:L.find 5=.slice bl 0 (m+1) (m+1) false
 l18:L.find 18=v
 l19:L.find 19=.int .i64 m
 l20:L.find 20=.int .i64 j
 outer:Blk t.h t.n ob 1 trow ((List.range m).map fun x=>[vf x]) v
 rows:∀ x,x<m→Blk t.h t.n (bf x) 2 tgap (gapRow (rowNow m j E c x)) (vf x)
 apart:∀ x y,x<m→y<m→x≠y→bf x≠bf y
 from_:∀ x,x<m→bf x=bf0 x∨u.n≤bf x
 last:t.h.get bl=some (.cells (fillRows (m+1) zgap (gapRow ((List.range j).map fun x=>c.gap.plus (E c.b x)))).flatten 0)
 same:∀ x,x<u.n→x≠ob→x≠bl→(∀ y,y<m→x≠bf0 y)→t.h.get x=u.h.get x
 n:u.n≤t.n
 le:t.n≤u.n+k
 m_:w≤t.m
 mle:t.m≤Abs.far
 mu:t.m≤u.m
theorem given_cell (N:Nat) (hN:1≤N) (cx:Ctx) {u t:St} {q x4 bl ob m j k w sq:Nat} {E:Nat→Nat→Gap} {c:Claim} {bf0 bf:Nat→Nat} {vf:Nat→AV} {v:AV} {L:Env} (h:InGiv u t q x4 bl ob m j k w E c bf0 bf vf v L) (hj:j<m) (hm:m≤60) (hb:c.b<m)
  (hE:∀ x y,x<m→y<m→Small (E x y).1∧Small (E x y).2) (hg:Small c.gap.1∧Small c.gap.2) (hE2:∀ x,x<m→Small (c.gap.plus (E c.b x)).1∧Small (c.gap.plus (E c.b x)).2)
  (gq:u.h.get q=some (.cells [v] sq)) (g4:u.h.get x4=some (.cells [.int .i64 c.a,.int .i64 c.b,.int .i64 c.gap.1,.int .i64 c.gap.2] (tag 109)))
  (hq:q<u.n∧q≠ob∧q≠bl∧∀ y,y<m→q≠bf0 y) (h4:x4<u.n∧x4≠ob∧x4≠bl∧∀ y,y<m→x4≠bf0 y) (hob:ob<u.n∧ob≠bl∧∀ y,y<m→ob≠bf0 y) (hbl:bl<u.n∧∀ y,y<m→bl≠bf0 y)
  (hw:w≤ob∧w≤bl∧∀ y,y<m→w≤bf0 y) (hwu:w≤u.n) (hs:u.n+k+1000≤far) :
  ∃ L1 t1 bf1 vf1,K50b0l0 (call Try.prog X N) cx L [] t=.done .norm L1 [] t1∧InGiv u t1 q x4 bl ob m (j+1) (k+2) w E c bf0 bf1 vf1 v L1:=by
 have hf:far=1000000000:=rfl
 obtain ⟨l3,l4,l5,l18,l19,l20,outer,rows,apart,from_,last,same,tn,tk,tm,tml,tmu⟩:=h
 have e0:decide ((j:Int)<(m:Int))=true:=decide_eq_true (by omega)
 have hbf:∀ x,x<m→bf x≠ob∧bf x≠q∧bf x≠x4∧bf x≠bl∧w≤bf x:=fun x hx=>by
  have a1:=hob.2.2 x hx
  have a2:=hq.2.2.2 x hx
  have a3:=h4.2.2.2 x hx
  have a4:=hbl.2 x hx
  have a5:=hw.2.2 x hx
  rcases from_ x hx with e | e
  ·rw [e];exact ⟨fun h=>a1 h.symm,fun h=>a2 h.symm,fun h=>a3 h.symm,fun h=>a4 h.symm,a5⟩
  ·omega
 have gq':=(same q hq.1 hq.2.1 hq.2.2.1 hq.2.2.2).trans gq
 have g4':=(same x4 h4.1 h4.2.1 h4.2.2.1 h4.2.2.2).trans g4
 have ol:((List.range m).map fun x=>[vf x]).length=m:=by rw [List.length_map,List.length_range]
 have o1:=fun s=>outer.ixs (i:=j) (by rw [ol];exact hj) s
 have o2:=fun s=>outer.ixs (i:=c.b) (by rw [ol];exact hb) s
 obtain ⟨so,og⟩:=outer.get
 have oc:∀ x,x<m→nth (((List.range m).map fun x=>[vf x]).flatten) (x * 1)=vf x:=fun x hx=>cut1_nth ((outer.cut (i:=x) (by rw [ol];exact hx)).trans (by rw [List.getElem_map,List.getElem_range]))
 have oc1:=oc j hj
 have oc2:=oc c.b hb
 have vok:=outer.okA
 have rj:=rows j hj
 have rb:=rows c.b hb
 have rjo:=rj.okA
 have rbo:=rb.okA
 obtain ⟨y1,y2⟩:=rowNow_at (m:=m) (j:=j) (E:=E) (c:=c) hb hj
 have rbi:=fun s=>rb.ixs (i:=j) (by rw [gapRow_len];exact y1) s
 obtain ⟨sb,rbg⟩:=rb.get
 have rbc:=rb.cut (i:=j) (by rw [gapRow_len];exact y1)
 rw [gapRow_at _ _ _ y1,y2] at rbc
 have la:∀ s,ixsA 2 s (.slice bl 0 (m+1) (m+1) false) (.int .i64 (j:Int))=.val (.ptr bl (j * 2)) s:=fun s=>by rw [ixs_slice _ _ _ _ _ _ _ _ (by omega),Nat.zero_add]
 have okL:∀ t,okA (.val (.slice bl 0 (m+1) (m+1) false) t)=.val (.slice bl 0 (m+1) (m+1) false) t:=fun _=>rfl
 have hlen:(gapRow ((List.range j).map fun x=>c.gap.plus (E c.b x))).length=j:=by rw [gapRow_len,List.length_map,List.length_range]
 have hov:=fillRows_over (n:=m+1) (z:=zgap) (row:=[.int .i64 (c.gap.plus (E c.b j)).1,.int .i64 (c.gap.plus (E c.b j)).2]) (l:=gapRow ((List.range j).map fun x=>c.gap.plus (E c.b x))) (w:=2) rfl (gapRow_wide _) rfl (by omega)
 rw [hlen,← gapRow_snoc,← range_snoc (f:=fun x=>c.gap.plus (E c.b x))] at hov
 have hcut:=fillRows_cut (n:=m+1) (z:=zgap) (w:=2) (l:=gapRow ((List.range (j+1)).map fun x=>c.gap.plus (E c.b x))) rfl (gapRow_wide _) (i:=j) (by rw [gapRow_len,List.length_map,List.length_range];omega)
 rw [gapRow_at _ _ _ (by rw [List.length_map,List.length_range];omega),List.getElem_map,List.getElem_range] at hcut
 rw [plus1,plus2] at hov hcut
 have ad:∀ s,aAdd s .i64 (j:Int) 1=.val (.int .i64 ((j:Int)+1)) s:=fun s=>aAdd_i64 s _ _ (by omega)
 have EB:=hE c.b j hb hj
 have EP:=hE2 j hj
 rw [plus1,plus2] at EP
 have tob:=outer.lt
 have n1:=hbf c.b hb
 have n2:=hbf j hj
 have n3:=rb.lt
 have n4:=rj.lt
 have ts:∀ v o d rest cl L,thenT (some [3]) (.val v ⟨(t.put bl o).h,(t.put bl o).n,far⟩) d rest cl L (t.put bl o)=rest cl (d.put v L) (t.put bl o):=fun v o d rest cl L=>thenT_same _ _ _ _ _ _ _ (by show t.n≤far;omega) (put_m_le tml)
 simp (disch:=first|omega|(with_unfolding_all exact rfl)|(simp only[new_n,put_n,new_m];omega)|(refine put_m_le ?_;simp only[new_m];omega)) only [ts,K50b0l0,K50b0r2,K50b0r3,K50b0r4,K50b0r5,Abs.W,reduceIte,Nat.reduceEqDiff,Nat.reduceAdd,decide_true,decide_false,kLoop_def,Nat.reduceSub,List.cons_append,List.nil_append,List.append_nil,List.length_cons,List.length_nil,Env.find_set,Nat.zero_add,Nat.add_zero,l3,l4,l5,l18,l19,l20,e0,o1,o2,og,oc1,oc2,vok,rjo,rbo,rbi,rbg,rbc,la,okL,last,gq',g4',hov,hcut,plus_ok,turned_ok]
 simp only [put_n]
 generalize hs2:(t.put bl _).new _=s2
 have s2n:s2.n=t.n+1:=by rw [← hs2];rfl
 have s2m:s2.m=min t.m bl:=by rw [← hs2];simp only [St.put,minN_eq,new_m]
 have s2g:∀ x,x<t.n→x≠bl→s2.h.get x=t.h.get x:=fun x h1 h2=>by rw [← hs2,get_new_ne _ _ _ (by show x≠t.n;omega),get_put_ne' _ _ _ _ h2]
 have s2p:s2.h.get t.n=some (.cells [.int .i64 (-(c.gap.2+(E c.b j).2)),.int .i64 (-(c.gap.1+(E c.b j).1))] 0):=by rw [← hs2];exact get_new_eq _ _ _ rfl (by show t.n<_;omega)
 have s2b:s2.h.get bl=some (.cells (fillRows (m+1) zgap (gapRow ((List.range (j+1)).map fun x=>c.gap.plus (E c.b x)))).flatten 0):=by rw [← hs2,get_new_ne _ _ _ (by show bl≠t.n;omega)];exact get_put_eq _ _ _ _ rfl (by omega)
 have rj2:Blk s2.h s2.n (bf j) 2 tgap (gapRow (rowNow m j E c j)) (vf j):=rj.mono (s2g _ (by omega) (by omega)) (by omega)
 obtain ⟨s3,e3,B3,s3n,s3g,s3m,s3l⟩:=append_blk (bytes:=16) rj2 s2p rfl rfl (by
  rw [gapRow_len]
  have:(rowNow m j E c j).length=m:=by unfold rowNow;rw [if_neg (Nat.lt_irrefl j),rowOf_len]
  omega) (by kernel_rfl) (by omega)
 have hln:(gapRow (rowNow m j E c j)).length+1=m+1:=by rw [gapRow_len];unfold rowNow;rw [if_neg (Nat.lt_irrefl j),rowOf_len]
 rw [hln] at e3 B3
 have e3':appendA false 2 16 (tag 81) s2 (vf j) (.slice t.n 0 1 1 false)=.val (.slice s2.n 0 (m+1) (m+1) true) s3:=e3
 have B3':Blk s3.h s3.n s2.n 2 tgap (gapRow (rowNow m (j+1) E c j)) (.slice s2.n 0 (m+1) (m+1) true):=by
  have:gapRow (rowNow m (j+1) E c j)=gapRow (rowNow m j E c j)++[[.int .i64 (-(c.gap.2+(E c.b j).2)),.int .i64 (-(c.gap.1+(E c.b j).1))]]:=by
   unfold rowNow
   rw [if_pos (Nat.lt_succ_self j),if_neg (Nat.lt_irrefl j),rowOf_more hj,gapRow_snoc]
   rfl
  rw [this];exact B3
 have og3:s3.h.get ob=some (.cells ((List.range m).map fun x=>[vf x]).flatten so):=(s3g ob (by omega) (by have:=n2.1;omega)).trans ((s2g ob (by omega) (by omega)).trans og)
 have oov:over (j * 1) [.slice s2.n 0 (m+1) (m+1) true] ((List.range m).map fun x=>[vf x]).flatten=some ((List.range m).map fun x=>[if x=j then AV.slice s2.n 0 (m+1) (m+1) true else vf x]).flatten:=by
  rw [over_flatten outer.wide (by rw [ol];exact hj) rfl,map_set_range]
  congr 3
  funext x
  by_cases h:x=j
  ·rw [if_pos h,if_pos h]
  ·rw [if_neg h,if_neg h]
 have sc1:∀ b n k e,scalars [AV.slice b 0 n k e]=true:=fun _ _ _ _=>rfl
 have ce1:∀ b n k e,cellsOf 1 (AV.slice b 0 n k e)=some [AV.slice b 0 n k e]:=fun _ _ _ _=>rfl
 simp (disch:=first|omega|(with_unfolding_all exact rfl)|(simp only[new_n,put_n,new_m];omega)|(refine put_m_le ?_;simp only[new_m];omega)) only [Abs.W,reduceIte,Nat.reduceEqDiff,Nat.reduceAdd,decide_true,decide_false,kLoop_def,Nat.reduceSub,List.cons_append,List.nil_append,List.append_nil,List.length_cons,List.length_nil,Env.find_set,e3',o1,og3,oov]
 rw [endO_ok _ (by
  rw [endOk_cons,endOk_nil]
  simp only [find_cons,Env.find_set,l3,reduceIte,Nat.reduceEqDiff]
  exact rj.apart n2.2.1)]
 simp (disch:=first|omega|(with_unfolding_all exact rfl)|(simp only[new_n,put_n,new_m];omega)|(refine put_m_le ?_;simp only[new_m];omega)) only [K50b0r6,Abs.W,reduceIte,Nat.reduceEqDiff,Nat.reduceAdd,decide_true,decide_false,kLoop_def,Nat.reduceSub,List.cons_append,List.nil_append,List.append_nil,List.length_cons,List.length_nil,Env.find_set,l20,ad]
 obtain ⟨oe,osz,ov,oln,ogg,oez⟩:=outer.is
 have hso:osz=so:=by rw [og] at ogg;injection ogg with z;injection z with _ z;exact z.symm
 have now_ne:∀ x,x≠j→rowNow m (j+1) E c x=rowNow m j E c x:=fun x hx=>by
  unfold rowNow
  by_cases h:x<j
  ·rw [if_pos (by omega),if_pos h]
  ·rw [if_neg (by omega),if_neg h]
 have s3ml:=s3m w n2.2.2.2.2 (by omega)
 refine ⟨_,_,fun x=>if x=j then s2.n else bf x,fun x=>if x=j then .slice s2.n 0 (m+1) (m+1) true else vf x,rfl,?_,?_,?_,?_,?_,?_,⟨?_,oe,so,?_,?_,?_,?_⟩,fun x hx=>?_,fun x y hx hy hxy=>?_,fun x hx=>?_,?_,fun x h1 h2 h3 h4=>?_,?_,?_,?_,?_,?_⟩
 ·simp only [Env.find_set,l3,reduceIte,Nat.reduceEqDiff]
 ·simp only [Env.find_set,l4,reduceIte,Nat.reduceEqDiff]
 ·simp only [Env.find_set,l5,reduceIte,Nat.reduceEqDiff]
 ·simp only [Env.find_set,l18,reduceIte,Nat.reduceEqDiff]
 ·simp only [Env.find_set,l19,reduceIte,Nat.reduceEqDiff]
 ·simp only [Env.find_set,reduceIte,Nat.reduceEqDiff];rfl
 ·intro r hr
  obtain ⟨x,_,rfl⟩:=List.mem_map.mp hr
  rfl
 ·rw [ov,List.length_map,List.length_map]
 ·simp only [put_n];omega
 ·exact get_put_eq _ _ _ _ rfl (by omega)
 ·intro h;rw [← hso];exact oez h
 ·by_cases h:x=j
  ·subst h
   simp only [if_true]
   exact B3'.mono (get_put_ne' _ _ _ _ (by omega)) (Nat.le_refl _)
  ·simp only [h,if_false,now_ne x h]
   have hx1:=hbf x hx
   have hx2:=(rows x hx).lt
   exact (rows x hx).mono ((get_put_ne' _ _ _ _ hx1.1).trans ((s3g _ (by omega) (apart x j hx hj h)).trans (s2g _ hx2 hx1.2.2.2.1))) (by simp only [put_n];omega)
 ·have hx2:=(rows x hx).lt
  have hy2:=(rows y hy).lt
  have hap:=apart x y hx hy hxy
  by_cases h:x=j
  ·have h':y≠j:=by omega
   simp only [h,h',if_true,if_false];omega
  ·by_cases h':y=j
   ·simp only [h,h',if_true,if_false];omega
   ·simp only [h,h',if_false];exact hap
 ·by_cases h:x=j
  ·simp only [h,if_true];exact .inr (by omega)
  ·simp only [h,if_false];exact from_ x hx
 ·exact (get_put_ne' _ _ _ _ (by omega)).trans ((s3g _ (by omega) (fun e=>n2.2.2.2.1 e.symm)).trans s2b)
 ·have:=h4 j hj
  have hne:x≠bf j:=by rcases from_ j hj with e | e<;>omega
  exact (get_put_ne' _ _ _ _ h2).trans ((s3g _ (by omega) hne).trans ((s2g _ (by omega) h3).trans (same x h1 h2 h3 h4)))
 ·simp only [put_n];omega
 ·simp only [put_n];omega
 ·simp only [St.put,minN_eq];omega
 ·simp only [St.put,minN_eq];omega
 ·simp only [St.put,minN_eq];omega
def givE (b:Bench):Nat→Nat→Nat→Gap
 | 0,_,_=>(0,0)
 | i+1,x,y=>moreE (i+1) (givE b i) (givAt b i).b (givAt b i).gap x y
theorem givE_succ (b:Bench) (i:Nat):givE b (i+1)=moreE (i+1) (givE b i) (givAt b i).b (givAt b i).gap:=rfl
structure GivJ (b:Bench) (R:ALoop) (q l w:Nat) (i:Nat) (O:Nat→Prop) (h:Heap) (n:Nat):Prop where
 loop:h.get l=some (.loop R)
 dfr:h.get (l - 1)=some .dfr
 ql:q+1<l
 ln:l<n
 tab:∃ (ob:Nat) (bf:Nat→Nat) (vf:Nat→AV) (v:AV),h.get q=some (.cells [v] (tag 77))∧Blk h n ob 1 trow ((List.range (i+1)).map fun x=>[vf x]) v∧(∀ x,x<i+1→Blk h n (bf x) 2 tgap (gapRow (rowOf (i+1) (givE b i) x)) (vf x)) ∧
  (∀ x y,x<i+1→y<i+1→x≠y→bf x≠bf y)∧(∀ x,x<i+1→bf x≠ob∧bf x≠q∧bf x≠l∧bf x≠l - 1∧w≤bf x)∧(ob≠q∧ob≠l∧ob≠l - 1∧w≤ob)∧(∀ x,O x↔(x=q∨x=l∨x=ob∨∃ y,y<i+1∧x=bf y))
theorem GivJ.keep {b:Bench} {R:ALoop} {q l w i:Nat} {O:Nat→Prop} {h h':Heap} {n n':Nat} (hh:∀ x,x<n→h'.get x=h.get x) (hn:n≤n') (j:GivJ b R q l w i O h n):GivJ b R q l w i O h' n':=by
 obtain ⟨j1,j2,j3,j4,ob,bf,vf,v,j5,j6,j7,j8⟩:=j
 exact ⟨by rw [hh _ j4];exact j1,by rw [hh _ (by omega)];exact j2,j3,by omega,ob,bf,vf,v,by rw [hh _ (by omega)];exact j5,j6.mono (hh _ j6.lt) hn,fun x hx=>(j7 x hx).mono (hh _ (j7 x hx).lt) hn,j8⟩
theorem GivJ.below {b:Bench} {R:ALoop} {q l w i:Nat} {O:Nat→Prop} {h:Heap} {n x:Nat} (j:GivJ b R q l w i O h n) (hx:O x):x<n:=by
 obtain ⟨j1,j2,j3,j4,ob,bf,vf,v,j5,j6,j7,j8,j9,ja,jb⟩:=j
 rcases (jb x).mp hx with rfl | rfl | rfl | ⟨y,hy,rfl⟩
 ·omega
 ·exact j4
 ·exact j6.lt
 ·exact (j7 y hy).lt
theorem given_take (N:Nat) (hN:1≤N) {b:Bench} {R:ALoop} {q l w i:Nat} {O:Nat→Prop} {L0:Env} {s:St} (hR:R=⟨.ready,none,50,L0,[13],(rangeAt Try.f50 0).1,(rangeAt Try.f50 0).2,l - 1,Try.f50.ntmps,X 50⟩)
  (h3:L0.find 3=.ptr q 0) (hi:i≤40) (ha:(givAt b i).a=i+1) (hb:(givAt b i).b<i+1) (hg:Small (givAt b i).gap.1∧Small (givAt b i).gap.2)
  (hE:∀ x y,x<i+1→y<i+1→Small (givE b i x y).1∧Small (givE b i x y).2) (hE2:∀ x,x<i+1→Small ((givAt b i).gap.plus (givE b i (givAt b i).b x)).1∧Small ((givAt b i).gap.plus (givE b i (givAt b i).b x)).2)
  (hw:w≤q) (hs:s.n+10000≤far) (hws:w≤s.m) (hms:s.m≤far) (hJ:GivJ b R q l w i O s.h s.n) :
  ∃ s' O',call Try.prog X (N+1) (.yield l) [claimV (givAt b i)] s=.val (.bool true) s'∧GivJ b R q l w (i+1) O' s'.h s'.n∧(∀ x,x<s.n→¬ O x→s'.h.get x=s.h.get x)∧(∀ x,x<s.n→O' x→O x)∧s.n≤s'.n∧s'.n≤s.n+200∧w≤s'.m∧s'.m≤s.m∧s'.m≤l:=by
 have hf:far=1000000000:=rfl
 obtain ⟨jl,jd,jq,jn,ob,bf,vf,v,jv,jo,jr,ja,jb,jc,jO⟩:=hJ
 obtain ⟨c,hc⟩:∃ c,c=givAt b i:=⟨_,rfl⟩
 have hE':∃ E,E=givE b i:=⟨_,rfl⟩
 obtain ⟨E,hEE⟩:=hE'
 have hsuc:=givE_succ b i
 rw [← hc] at ha hb hg hE2 hsuc ⊢
 rw [← hEE] at hE hE2 jr hsuc
 -- the round's own claim
 obtain ⟨s1,hs1⟩:∃ s1:St,s1=(s.new (.cells [.int .i64 0,.int .i64 0,.int .i64 0,.int .i64 0] (tag 109))).put s.n (.cells [.int .i64 c.a,.int .i64 c.b,.int .i64 c.gap.1,.int .i64 c.gap.2] (tag 109)):=⟨_,rfl⟩
 have s1n:s1.n=s.n+1:=by rw [hs1];rfl
 have s1g:∀ c,c≠s.n→s1.h.get c=s.h.get c:=fun c hc=>by rw [hs1,get_put_ne' _ _ _ _ hc,get_new_ne _ _ _ hc]
 have s1m:s1.m=min s.m s.n:=by rw [hs1];simp only [St.put,minN_eq,new_m]
 have s1w:s1.h.get s.n=some (.cells [.int .i64 c.a,.int .i64 c.b,.int .i64 c.gap.1,.int .i64 c.gap.2] (tag 109)):=by rw [hs1];exact get_put_eq _ _ _ _ rfl (by omega)
 have h1:K50a0 (call Try.prog X N) ⟨50,some l,Try.f50.ntmps,X 50⟩ (setParams L0 [13] [claimV c]) [] s=.done .norm ((L0.set 13 (claimV c)).set 4 (.ptr s.n 0)) [] s1:=by
  rw [hs1]
  simp (disch:=first|omega|(with_unfolding_all exact rfl)|(simp only[new_n,put_n,new_m];omega)|(refine put_m_le ?_;simp only[new_m];omega)) only [K50a0,K50a0r0,Abs.W,reduceIte,Nat.reduceEqDiff,Nat.reduceAdd,decide_true,decide_false,kLoop_def,Nat.reduceSub,List.cons_append,List.nil_append,List.append_nil,List.length_cons,List.length_nil,setParams1,Env.find_set,Nat.reduceEqDiff]
 obtain ⟨s2,hs2⟩:∃ s2:St,s2=s1.put l (.loop { R with state:=.busy }):=⟨_,rfl⟩
 have s2n:s2.n=s.n+1:=by rw [hs2];exact s1n
 have s2g:∀ c,c≠s.n→c≠l→s2.h.get c=s.h.get c:=fun c hc hc3=>by rw [hs2,get_put_ne' _ _ _ _ hc3];exact s1g c hc
 have s2l:s2.h.get l=some (.loop { R with state:=.busy }):=by rw [hs2];exact get_put_eq _ _ _ _ rfl (by omega)
 have s2w:s2.h.get s.n=some (.cells [.int .i64 c.a,.int .i64 c.b,.int .i64 c.gap.1,.int .i64 c.gap.2] (tag 109)):=by rw [hs2,get_put_ne' _ _ _ _ (by omega)];exact s1w
 have s2m:s2.m=min (min s.m s.n) l:=by rw [hs2];simp only [St.put,minN_eq,s1m]
 have jv2:=(s2g q (by omega) (by omega)).trans jv
 have vok:=jo.okA
 have vlen:=jo.len
 rw [List.length_map,List.length_range] at vlen
 have mk:∀ s:St,makeA [.int .i64 0,.int .i64 0] 16 s (.int .i64 ((i:Int)+1+1)) (.int .i64 ((i:Int)+1+1))=.val (.slice s.n 0 (i+2) (i+2) false) (s.new (.cells (List.replicate (i+2) zgap).flatten 0)):=fun s=>make_rows zgap 16 (i+2) s (by omega) (by omega)
 have ad:∀ s,aAdd s .i64 (c.a:Int) 1=.val (.int .i64 ((i:Int)+1+1)) s:=fun s=>by rw [aAdd_i64 s _ _ (by omega),ha];rfl
 have hbody:∃ (L2:Env) (s3:St) (ob':Nat) (bf':Nat→Nat) (vf':Nat→AV) (v':AV),K50b0 (call Try.prog X N) ⟨50,some l,Try.f50.ntmps,X 50⟩ ((L0.set 13 (claimV c)).set 4 (.ptr s.n 0)) [] s2=.done .norm L2 [] s3 ∧
   s3.h.get l=some (.loop { R with state:=.busy })∧s3.h.get (l - 1)=some .dfr∧s3.h.get q=some (.cells [v'] (tag 77))∧Blk s3.h s3.n ob' 1 trow ((List.range (i+1+1)).map fun x=>[vf' x]) v'∧(∀ x,x<i+1+1→Blk s3.h s3.n (bf' x) 2 tgap (gapRow (rowOf (i+1+1) (givE b (i+1)) x)) (vf' x)) ∧
   (∀ x y,x<i+1+1→y<i+1+1→x≠y→bf' x≠bf' y)∧(∀ x,x<i+1+1→bf' x≠ob'∧bf' x≠q∧bf' x≠l∧bf' x≠l - 1∧w≤bf' x∧(s.n≤bf' x∨∃ y,y<i+1∧bf' x=bf y))∧s.n≤ob' ∧
   (∀ x,x<s.n→x≠q→x≠l→x≠ob→(∀ y,y<i+1→x≠bf y)→s3.h.get x=s.h.get x)∧s.n≤s3.n∧s3.n≤s.n+150∧w≤s3.m∧s3.m≤s2.m:=by
  simp (disch:=first|omega|(with_unfolding_all exact rfl)|(simp only[new_n,put_n,new_m];omega)|(refine put_m_le ?_;simp only[new_m];omega)) only [K50b0,K50b0r0,K50b0r1,K50b0r7,Abs.W,reduceIte,Nat.reduceEqDiff,Nat.reduceAdd,decide_true,decide_false,kLoop_def,Nat.reduceSub,List.cons_append,List.nil_append,List.append_nil,List.length_cons,List.length_nil,Env.find_set,Nat.zero_add,h3,s2w,jv2,vok,vlen,kMake_def,ad,mk]
  generalize hl:loopN _ rounds _ _ _ _ _=r1
  obtain ⟨u3,M0,hu3,hM0,hl'⟩:=loop_state hl
  have u3n:u3.n=s.n+2:=by rw [hu3];show s2.n+1=_;omega
  have u3g:∀ x,x<s.n→x≠l→u3.h.get x=s.h.get x:=fun x h1 h2=>by rw [hu3,get_new_ne _ _ _ (by omega)];exact s2g x (by omega) h2
  have u3m:u3.m=min (min s.m s.n) l:=by rw [hu3,new_m,s2m]
  have u3l:u3.h.get l=some (.loop { R with state:=.busy }):=by rw [hu3,get_new_ne _ _ _ (by omega)];exact s2l
  have u3b:u3.h.get s2.n=some (.cells (List.replicate (i+2) zgap).flatten 0):=by rw [hu3];exact get_new_eq _ _ _ rfl (by omega)
  have u3x:u3.h.get s.n=some (.cells [.int .i64 c.a,.int .i64 c.b,.int .i64 c.gap.1,.int .i64 c.gap.2] (tag 109)):=by rw [hu3,get_new_ne _ _ _ (by omega)];exact s2w
  have hbn:∀ x,x<i+1→bf x<s.n:=fun x hx=>(jr x hx).lt
  have hon:=jo.lt
  have gq3:=(u3g q (by omega) (by omega)).trans jv
  obtain ⟨e,M1,s4,rfl,rfl,bf1,vf1,hI⟩:=loop_of hl' (fun j L' t'=>∃ (bf1:Nat→Nat) (vf1:Nat→AV),InGiv u3 t' q s.n s2.n ob (i+1) j (2 * j) w E c bf bf1 vf1 v L') (fun e L' t'=>e=.exit 2∧∃ (bf1:Nat→Nat) (vf1:Nat→AV),InGiv u3 t' q s.n s2.n ob (i+1) (i+1) (2 * (i+1)) w E c bf bf1 vf1 v L') (i+1) (by unfold rounds;omega)
   ⟨bf,vf,by rw [hM0];simp only [Env.find_set,h3,reduceIte,Nat.reduceEqDiff],by rw [hM0];simp only [Env.find_set,reduceIte,Nat.reduceEqDiff],by rw [hM0];simp only [Env.find_set,reduceIte,Nat.reduceEqDiff],by rw [hM0];simp only [Env.find_set,reduceIte,Nat.reduceEqDiff],by rw [hM0];simp only [Env.find_set,reduceIte,Nat.reduceEqDiff],by rw [hM0];simp only [Env.find_set,reduceIte,Nat.reduceEqDiff];rfl,
    jo.mono (u3g ob hon (by omega)) (by omega),fun x hx=>by
     have:rowNow (i+1) 0 E c x=rowOf (i+1) E x:=by unfold rowNow;rw [if_neg (Nat.not_lt_zero x)]
     rw [this]
     exact (jr x hx).mono (u3g _ (hbn x hx) (jb x hx).2.2.1) (by omega),ja,fun x _=>.inl rfl,by rw [u3b,List.range_zero,List.map_nil];exact congrArg (fun x=>some (AObj.cells (List.flatten x) 0)) (fillRows_nil (i+2) zgap).symm,fun _ _ _ _ _=>rfl,Nat.le_refl _,Nat.le_refl _,by omega,by omega,Nat.le_refl _⟩
   (fun j L' t' hj ⟨bf1,vf1,hI⟩=>by
    by_cases hlt:j<i+1
    ·obtain ⟨L2,t2,bf2,vf2,p1,p2⟩:=given_cell N hN ⟨50,some l,Try.f50.ntmps,X 50⟩ hI hlt (by omega) hb hE hg hE2 gq3 u3x ⟨by omega,by omega,by omega,fun y hy=>(by have:=(jb y hy).2.1;omega)⟩ ⟨by omega,by omega,by omega,fun y hy=>(by have:=hbn y hy;omega)⟩ ⟨by omega,by omega,fun y hy=>(by have:=(jb y hy).1;omega)⟩ ⟨by omega,fun y hy=>(by have:=hbn y hy;omega)⟩ ⟨jc.2.2.2,by omega,fun y hy=>(jb y hy).2.2.2.2⟩ (by omega) (by omega)
     exact .inl ⟨hlt,L2,t2,p1,bf2,vf2,by rw [Nat.mul_succ];exact p2⟩
    ·obtain rfl:j=i+1:=by omega
     have e1:decide (((i+1:Nat):Int)<((i+1:Nat):Int))=false:=by simp
     have q19:=hI.l19
     have q20:=hI.l20
     refine .inr ⟨.exit 2,L'.set 21 (.bool false),t',by simp,?_,rfl,bf1,vf1,?_⟩
     ·simp (disch:=first|omega|(with_unfolding_all exact rfl)|(simp only[new_n,put_n,new_m];omega)|(refine put_m_le ?_;simp only[new_m];omega)) only [K50b0l0,K50b0r2,Abs.W,reduceIte,Nat.reduceEqDiff,Nat.reduceAdd,decide_true,decide_false,kLoop_def,Nat.reduceSub,List.cons_append,List.nil_append,List.append_nil,List.length_cons,List.length_nil,Env.find_set,q19,q20,e1]
     ·obtain ⟨r1,r2,r3,r4,r5,r6,r7,r8,r9,ra,rb,rc,rd,re,rf,rg,rh⟩:=hI
      refine ⟨?_,?_,?_,?_,?_,?_,r7,r8,r9,ra,rb,rc,rd,re,rf,rg,rh⟩<;>rw [Env.find_set,if_neg (by omega)]<;>assumption)
  obtain ⟨r1,r2,r3,r4,r5,r6,r7,r8,r9,ra,rb,rc,rd,re,rf,rg,rh⟩:=hI
  have gq4:=(rc q (by omega) (by omega) (by omega) (fun y hy=>by have:=(jb y hy).2.1;omega)).trans gq3
  simp (disch:=first|omega|(with_unfolding_all exact rfl)|(simp only[new_n,put_n,new_m];omega)|(refine put_m_le ?_;simp only[new_m];omega)) only [Abs.W,reduceIte,Nat.reduceEqDiff,Nat.reduceAdd,decide_true,decide_false,kLoop_def,Nat.reduceSub,List.cons_append,List.nil_append,List.append_nil,List.length_cons,List.length_nil,Env.find_set,r1,r3,gq4,vok]
  obtain ⟨s5,hs5⟩:∃ s5:St,s5=s4.new (.cells [.slice s2.n 0 (i+1+1) (i+1+1) false] 0):=⟨_,rfl⟩
  rw [← hs5]
  have s5n:s5.n=s4.n+1:=by rw [hs5];rfl
  have s5g:∀ x,x<s4.n→s5.h.get x=s4.h.get x:=fun x hx=>by rw [hs5,get_new_ne _ _ _ (by omega)]
  have s5p:s5.h.get s4.n=some (.cells [.slice s2.n 0 (i+1+1) (i+1+1) false] 0):=by rw [hs5];exact get_new_eq _ _ _ rfl (by omega)
  have s5m:s5.m=s4.m:=by rw [hs5,new_m]
  have r7n:=r7.lt
  have hln:((List.range (i+1)).map fun x=>[vf1 x]).length=i+1:=by rw [List.length_map,List.length_range]
  obtain ⟨s6,e6,B6,s6n,s6g,s6m,s6l⟩:=append_blk (bytes:=24) (r7.mono (s5g _ r7n) (by omega):Blk s5.h s5.n ob 1 trow ((List.range (i+1)).map fun x=>[vf1 x]) v) s5p rfl rfl (by rw [hln];omega) (by kernel_rfl) (by omega)
  rw [hln] at e6 B6
  have e6':appendA false 1 24 (tag 82) s5 v (.slice s4.n 0 1 1 false)=.val (.slice s5.n 0 (i+1+1) (i+1+1) true) s6:=e6
  have g6q:s6.h.get q=some (.cells [v] (tag 77)):=(s6g q (by omega) (by omega)).trans ((s5g q (by omega)).trans gq4)
  have sc1:∀ b n k e,scalars [AV.slice b 0 n k e]=true:=fun _ _ _ _=>rfl
  have ce1:∀ b n k e,cellsOf 1 (AV.slice b 0 n k e)=some [AV.slice b 0 n k e]:=fun _ _ _ _=>rfl
  simp (disch:=first|omega|(with_unfolding_all exact rfl)|(simp only[new_n,put_n,new_m];omega)|(refine put_m_le ?_;simp only[new_m];omega)) only [Abs.W,reduceIte,Nat.reduceEqDiff,Nat.reduceAdd,decide_true,decide_false,kLoop_def,Nat.reduceSub,List.cons_append,List.nil_append,List.append_nil,List.length_cons,List.length_nil,Env.find_set,r1,e6',g6q]
  have hs6:=s6m w jc.2.2.2 (by omega)
  have bfn:∀ x,x<i+1→bf1 x<s4.n:=fun x hx=>(r8 x hx).lt
  have bfo:∀ x,x<i+1→bf1 x≠ob∧bf1 x≠q∧bf1 x≠l∧bf1 x≠l - 1∧w≤bf1 x∧bf1 x≠s2.n:=fun x hx=>by
   have j1:=jb x hx
   have j2:=hbn x hx
   rcases ra x hx with e | e
   ·rw [e];omega
   ·omega
  have old:∀ x,x<s4.n→x≠ob→x≠q→(s6.put q (.cells [.slice s5.n 0 (i+1+1) (i+1+1) true] (tag 77))).h.get x=s4.h.get x:=fun x h1 h2 h3=>(get_put_ne' _ _ _ _ h3).trans ((s6g x (by omega) h2).trans (s5g x h1))
  have low:∀ x,x<s.n→x≠q→x≠ob→(∀ y,y<i+1→x≠bf y)→s4.h.get x=u3.h.get x:=fun x h1 h2 h3 h4=>rc x (by omega) h3 (by omega) h4
  refine ⟨_,_,s5.n,fun x=>if x<i+1 then bf1 x else s2.n,fun x=>if x<i+1 then vf1 x else .slice s2.n 0 (i+1+1) (i+1+1) false,.slice s5.n 0 (i+1+1) (i+1+1) true,rfl,?_,?_,get_put_eq _ _ _ _ rfl (by omega),?_,fun x hx=>?_,fun x y hx hy hxy=>?_,fun x hx=>?_,by omega,fun x h1 h2 h3 h4 h5=>?_,?_,?_,?_,?_⟩
  ·exact (old l (by omega) (by omega) (by omega)).trans ((low l jn (by omega) (by omega) (fun y hy=>by have:=jb y hy;omega)).trans u3l)
  ·exact (old (l - 1) (by omega) (by omega) (by omega)).trans ((low (l - 1) (by omega) (by omega) (by omega) (fun y hy=>by have:=jb y hy;omega)).trans ((u3g _ (by omega) (by omega)).trans jd))
  ·have:((List.range (i+1+1)).map fun x=>[if x<i+1 then vf1 x else AV.slice s2.n 0 (i+1+1) (i+1+1) false])=((List.range (i+1)).map fun x=>[vf1 x])++[[.slice s2.n 0 (i+1+1) (i+1+1) false]]:=by
    rw [range_snoc,if_neg (Nat.lt_irrefl (i+1))]
    congr 1
    apply List.map_congr_left
    intro x hx
    rw [if_pos (List.mem_range.mp hx)]
   rw [this]
   exact B6.mono (get_put_ne' _ _ _ _ (by omega)) (by simp only [put_n];omega)
  ·rw [hsuc]
   by_cases h:x<i+1
   ·simp only [h,if_true]
    have hx8:=r8 x h
    have:rowNow (i+1) (i+1) E c x=rowOf (i+1+1) (moreE (i+1) E c.b c.gap) x:=by unfold rowNow;rw [if_pos h]
    rw [this] at hx8
    have b1:=bfo x h
    exact hx8.mono (old _ (bfn x h) b1.1 b1.2.1) (by simp only [put_n];omega)
   ·obtain rfl:x=i+1:=by omega
    simp only [h,if_false]
    refine ⟨gapRow_wide _,false,0,by rw [gapRow_len,rowOf_len],by simp only [put_n];omega,(old _ (by omega) (by omega) (by omega)).trans (rb.trans ?_),fun h=>by cases h⟩
    rw [rowOf_new,gapRow_snoc]
    unfold fillRows
    rw [gapRow_len,List.length_map,List.length_range,show i+1+1 - (i+1)=1 by omega]
    rfl
  ·have z1:=r9 x y
   by_cases h:x<i+1
   ·by_cases h':y<i+1
    ·simp only [h,h',if_true];exact z1 h h' hxy
    ·simp only [h,h',if_true,if_false];exact (bfo x h).2.2.2.2.2
   ·have h':y<i+1:=by omega
    simp only [h,h',if_true,if_false];exact fun e=>(bfo y h').2.2.2.2.2 e.symm
  ·by_cases h:x<i+1
   ·simp only [h,if_true]
    have b1:=bfo x h
    have b2:=bfn x h
    refine ⟨by omega,b1.2.1,b1.2.2.1,b1.2.2.2.1,b1.2.2.2.2.1,?_⟩
    rcases ra x h with e | e
    ·exact .inr ⟨x,h,e⟩
    ·exact .inl (by omega)
   ·simp only [h,if_false]
    exact ⟨by omega,by omega,by omega,by omega,by omega,.inl (by omega)⟩
  ·exact (old x (by omega) h4 h2).trans ((low x h1 h2 h4 h5).trans (u3g x h1 h3))
  ·simp only [put_n];omega
  ·simp only [put_n];omega
  ·simp only [St.put,minN_eq];omega
  ·have:u3.m=s2.m:=by rw [hu3,new_m]
   simp only [St.put,minN_eq];omega
 obtain ⟨L2,s3,ob',bf',vf',v',h4,t1,t2,t3,t4,t5,t6,t7,t8,t9,ta,tb,tc,td⟩:=hbody
 have h4':=h4
 rw [hs2] at h4'
 have hfin:=call_round (P:=Try.prog) (X:=X) (n:=N) (l:=l) (args:=[claimV c]) (r:=R) (r1:=R) (r2:={ R with state:=.busy }) (s:=s) (s1:=s1) (s2:=s3) (e:=.norm) jl (by rw [hR];rfl) (by rw [hR];exact code50a0) (by rw [hR];exact code50b0) (by rw [hR];exact h1) (by rw [s1g _ (by omega)];exact jl) (by rw [hR]) (by rw [hR];rw [hR] at h4';exact h4') t1
 have hRR:({ ({ R with state:=.busy }:ALoop) with state:=if goesOn .norm then .ready else .done,pending:=jumpOf .norm }:ALoop)=R:=by rw [hR];rfl
 rw [hRR] at hfin
 have ln3:l<s3.n:=by omega
 have ob3:=t4.lt
 refine ⟨_,fun x=>x=q∨x=l∨x=ob'∨∃ y,y<i+1+1∧x=bf' y,hfin,⟨get_put_eq _ _ _ _ rfl (by omega),?_,jq,by simp only [put_n];omega,ob',bf',vf',v',?_,t4.mono (get_put_ne' _ _ _ _ (by omega)) (Nat.le_refl _),fun x hx=>(t5 x hx).mono (get_put_ne' _ _ _ _ (t7 x hx).2.2.1) (Nat.le_refl _),t6,fun x hx=>⟨(t7 x hx).1,(t7 x hx).2.1,(t7 x hx).2.2.1,(t7 x hx).2.2.2.1,(t7 x hx).2.2.2.2.1⟩,⟨by omega,by omega,by omega,by omega⟩,fun x=>Iff.rfl⟩,fun x hx hO=>?_,fun x hx hO=>?_,?_,?_,?_,?_,?_⟩
 ·rw [get_put_ne' _ _ _ _ (by omega)];exact t2
 ·rw [get_put_ne' _ _ _ _ (by omega)];exact t3
 ·have hn:=fun h=>hO ((jO x).mpr h)
  rw [get_put_ne' _ _ _ _ (fun e=>hn (.inr (.inl e)))]
  exact t9 x hx (fun e=>hn (.inl e)) (fun e=>hn (.inr (.inl e))) (fun e=>hn (.inr (.inr (.inl e)))) (fun y hy e=>hn (.inr (.inr (.inr ⟨y,hy,e⟩))))
 ·refine (jO x).mpr ?_
  rcases hO with e | e | e | ⟨y,hy,e⟩
  ·exact .inl e
  ·exact .inr (.inl e)
  ·omega
  ·rcases (t7 y hy).2.2.2.2.2 with z | ⟨y',hy',z⟩
   ·omega
   ·exact .inr (.inr (.inr ⟨y',hy',by rw [e,z]⟩))
 ·simp only [put_n];omega
 ·simp only [put_n];omega
 ·simp only [St.put,minN_eq];omega
 ·simp only [St.put,minN_eq];omega
 ·simp only [St.put,minN_eq];omega
end Go.Proofs.Ytfekafjfidohdaa.walk
