/- Lists of numbers that are sorted. -/
import Derived.Test.YthbhjgbpjlnbcaaM5
import Derived.Test.YthbhjgbpjlnbcaaM3
import Derived.Test.YthbhjgbpjlnbcaaCodes
import Derived.Test.YthbhjgbpjlnbcaaM1
import Derived.Test.YthbhjgbpjlnbcaaM2
import Derived.Test.YthbhjgbpjlnbcaaWalkAll
set_option linter.unusedSimpArgs false
set_option maxHeartbeats 16000000
set_option linter.unusedVariables false
set_option maxRecDepth 10000
namespace Go.Proofs.Ythbhjgbpjlnbcaa.walk
open Go.Abs Go.Proofs.Ythbhjgbpjlnbcaa.code
end Go.Proofs.Ythbhjgbpjlnbcaa.walk
set_option maxRecDepth 10000
namespace Go.Abs
end Go.Abs
namespace Go.Proofs.Ythbhjgbpjlnbcaa.walk
open Go.Abs Go.Proofs.Ythbhjgbpjlnbcaa.code
end Go.Proofs.Ythbhjgbpjlnbcaa.walk
set_option maxRecDepth 10000
namespace Go.Proofs.Ythbhjgbpjlnbcaa.walk
open Go.Abs Go.Proofs.Ythbhjgbpjlnbcaa.code
end Go.Proofs.Ythbhjgbpjlnbcaa.walk
set_option maxRecDepth 10000
namespace Go.Proofs.Ythbhjgbpjlnbcaa.walk
open Go.Abs Go.Proofs.Ythbhjgbpjlnbcaa.code
end Go.Proofs.Ythbhjgbpjlnbcaa.walk
set_option maxRecDepth 10000
namespace Go.Proofs.Ythbhjgbpjlnbcaa.walk
open Go.Abs Go.Proofs.Ythbhjgbpjlnbcaa.code
theorem can_idx {l:Letting} (ok:l.Ok) {a st:Nat} (ha:a<l.appls.length) (hst:st<l.stalls.length) (hc:canI l st a=true):∃ k,∃ (h1:k<l.appls[a].wishes.length) (h2:k<l.appls[a].bids.length),l.appls[a].wishes.idxOf (st:Int)=k∧(l.stalls[st].rule=3→l.stalls[st].least≤l.appls[a].bids[k]):=by
 have A:=ok.ap _ (List.getElem_mem ha)
 have h1:(bidOf (st:Int) (reachOf l.stalls (applAt l a))).2=true:=hc
 obtain ⟨x,hx,hxs⟩:=(bidOf_iff (st:Int) _).mp h1
 rw [applAt_of ha] at hx
 unfold reachOf at hx
 obtain ⟨z1,z2⟩:=List.mem_filter.mp hx
 obtain ⟨k,hk,he⟩:=List.getElem_of_mem z1
 rw [List.length_zip] at hk
 rw [List.getElem_zip] at he
 have k1:k<l.appls[a].wishes.length:=by omega
 have k2:k<l.appls[a].bids.length:=by omega
 have e1:l.appls[a].wishes[k]=(st:Int):=by rw [← hxs,← he]
 have e2:l.appls[a].bids[k]=x.2:=by rw [← he]
 refine ⟨k,k1,k2,idx_at k1 e1 fun y hy e=>?_,fun hr=>?_⟩
 ·exact not_mem_take A.nd k1 (by rw [e1,← e];exact hy)
 ·unfold can at z2
  have e3:stallAt l.stalls x.1=l.stalls[st]:=by rw [hxs];unfold stallAt;simp [List.getD,hst]
  rw [e3,hr] at z2
  rw [e2]
  simp at z2
  omega
end Go.Proofs.Ythbhjgbpjlnbcaa.walk
set_option maxRecDepth 10000
namespace Go.Proofs.Ythbhjgbpjlnbcaa.walk
open Go.Abs Go.Proofs.Ythbhjgbpjlnbcaa.code
end Go.Proofs.Ythbhjgbpjlnbcaa.walk
set_option maxRecDepth 10000
namespace Go.Proofs.Ythbhjgbpjlnbcaa.walk
open Go.Abs Go.Proofs.Ythbhjgbpjlnbcaa.code
theorem once_ex {N d:Nat} {n:Int} {s:St} {r:ARes} (hr:call Try.prog X N (.fn 27) [.ptr d 0,.int .i64 n] s=r) (hN:3≤N) (hd:Die d s.h) (hlt:d<s.n) (hs:s.n+200≤far) (hn:n≤4000000000) :
  ∃ b t,r=.val (.bool b) t∧Stir d s t 0∧Die d t.h:=by
 obtain ⟨m,rfl⟩:∃ m,N=m+1:=⟨N - 1,by omega⟩
 have hf:far=1000000000:=rfl
 obtain ⟨v,t,e,st,⟨x,rfl⟩,hd'⟩:=call_stir_plain (n:=m) (args:=[.ptr d 0,.int .i64 n]) (d:=d) (k:=0) (Q:=fun v=>∃ b,v=.bool b) (R:=Die d) Try.func27 hd (fun u uh un um=>by
  rw [← uh] at hd
  rw [enter27]
  simp (disch:=first|omega|(with_unfolding_all exact rfl)|(simp only[new_n,put_n,new_m];omega)|(refine put_m_le ?_;simp only[new_m];omega)) only [res27,K27r0,K27r1,K27,Abs.W,reduceIte,Nat.reduceEqDiff,Nat.reduceAdd,decide_true,decide_false,kLoop_def,Nat.reduceSub,List.cons_append,List.nil_append,List.append_nil,List.length_cons,List.length_nil]
  generalize hc:call _ _ _ (.fn 15) _ _=r1
  obtain ⟨y,w,rfl,sw,dw,y0,y1⟩:=cast_ex hc (by omega) hd (by omega) (by omega) hn
  simp (disch:=first|omega|(with_unfolding_all exact rfl)|(simp only[new_n,put_n,new_m];omega)|(refine put_m_le ?_;simp only[new_m];omega)) only [res27,K27r0,K27r1,K27,Abs.W,reduceIte,Nat.reduceEqDiff,Nat.reduceAdd,decide_true,decide_false,kLoop_def,Nat.reduceSub,List.cons_append,List.nil_append,List.append_nil,List.length_cons,List.length_nil]
  exact ⟨_,_,rfl,sw,rfl,⟨_,rfl⟩,dw⟩) (by omega)
 exact ⟨x,t,hr.symm.trans e,st,hd'⟩
end Go.Proofs.Ythbhjgbpjlnbcaa.walk
set_option maxRecDepth 10000
namespace Go.Proofs.Ythbhjgbpjlnbcaa.walk
open Go.Abs Go.Proofs.Ythbhjgbpjlnbcaa.code
structure LetJ (u t:St) (d p7:Nat) (l:List StallR) (many:Nat) (vS:AV) (bS kk:Nat):Prop where
 die:Die d t.h
 g7:t.h.get p7=some (.cells [vS,.nilslice] (tag 28))
 is:IsAt t.h t.n bS 3 (tag 53) (l.map StallR.cells) vS
 lo:p7<bS
 same:∀ c,c<p7→c≠d→t.h.get c=u.h.get c
 n:p7<t.n
 le:t.n≤u.n+kk
 m:d≤u.m→d≤t.m
 mle:t.m≤u.m
 dp:d<p7
 ok:∀ s ∈ l,s.Ok many
theorem LetJ.stir {u t z:St} {d p7 many bS kk k:Nat} {l:List StallR} {vS:AV} (J:LetJ u t d p7 l many vS bS kk) (S:Stir d t z k) (D:Die d z.h):LetJ u z d p7 l many vS bS (kk+k):=by
 obtain ⟨jd,j7,ji,jlo,js,jn,jle,jm,jml,jdp,jok⟩:=J
 have:=S.n
 have:=S.le
 exact ⟨D,(S.same p7 jn (by omega)).trans j7,ji.mono (fun h=>S.same bS h (by omega)) (by omega),jlo,fun c hc hcd=>(S.same c (by omega) hcd).trans (js c hc hcd),by omega,by omega,fun h=>S.m (jm h),Nat.le_trans S.mle jml,jdp,jok⟩
theorem let_push {cl:CallF} {L:Env} {u z:St} {r:ORes} {d p7 many bS kk p:Nat} {l:List StallR} {vS:AV} {S:StallR} (hr:K12r8 cl L z=r) (J:LetJ u z d p7 l many vS bS kk) (hS:S.Ok many) (hp:z.h.get p=some (.cells S.cells (tag 53))) (hl:l.length≤7) (hs:u.n+kk+100≤far)
  (q7:L.find 7=.ptr p7 0) (q10:L.find 10=.ptr p 0):∃ M z1 v1 b1,r=.ok M z1∧LetJ u z1 d p7 (l++[S]) many v1 b1 (kk+2):=by
 subst hr
 have hf:far=1000000000:=rfl
 obtain ⟨jd,j7,ji,jlo,js,jn,jle,jm,jml,jdp,jok⟩:=J
 have kv:∀ t,okA (.val vS t)=.val vS t:=ji.okA
 obtain ⟨y,hy⟩:∃ y:St,y=z.new (.cells S.cells 0):=⟨_,rfl⟩
 have yn:y.n=z.n+1:=by rw [hy];rfl
 have ym:y.m=z.m:=by rw [hy];rfl
 have yg:∀ c,c<z.n→y.h.get c=z.h.get c:=fun c hc=>by rw [hy,get_new_ne _ _ _ (by omega)]
 have yp:y.h.get z.n=some (.cells S.cells 0):=by rw [hy];exact get_new_eq _ _ _ rfl (by omega)
 obtain ⟨s7,e7,l7,s7n,s7g,s7m,s7l⟩:=append_at (bytes:=24) (ji.mono (h':=y.h) (n':=y.n) (fun h=>yg bS h) (by omega)) yp rfl rfl (by rw [List.length_map];omega) (by kernel_rfl) (by omega)
 have hlen:(l.map StallR.cells).length=l.length:=List.length_map ..
 rw [hlen] at e7 l7
 obtain ⟨v7,hv7⟩:∃ v7,v7=AV.slice y.n 0 (l.length+1) (l.length+1) true:=⟨_,rfl⟩
 rw [← hv7] at e7 l7
 have sc7:scalars [v7]=true:=by rw [hv7];rfl
 have cc7:cellsOf 1 v7=some [v7]:=by rw [hv7];rfl
 have s9:=(s7g p7 (by omega) (by omega)).trans ((yg p7 (by omega)).trans j7)
 unfold StallR.cells at hp hy
 simp (disch:=first|omega|(with_unfolding_all exact rfl)|(simp only[new_n,put_n,new_m];omega)|(refine put_m_le ?_;simp only[new_m];omega)) only [K12r8,Abs.W,reduceIte,Nat.reduceEqDiff,Nat.reduceAdd,decide_true,decide_false,kLoop_def,Nat.reduceSub,List.cons_append,List.nil_append,List.append_nil,List.length_cons,List.length_nil,efs,q7,q10,j7,hp,kv,Nat.zero_add]
 rw [← hy]
 simp (disch:=first|omega|(with_unfolding_all exact rfl)|(simp only[new_n,put_n,new_m];omega)|(refine put_m_le ?_;simp only[new_m];omega)) only [Abs.W,reduceIte,Nat.reduceEqDiff,Nat.reduceAdd,decide_true,decide_false,kLoop_def,Nat.reduceSub,List.cons_append,List.nil_append,List.append_nil,List.length_cons,List.length_nil,efs,e7,q7,s9,sc7,cc7,Nat.zero_add]
 have hcells:(l.map StallR.cells)++[S.cells]=(l++[S]).map StallR.cells:=by rw [List.map_append];rfl
 refine ⟨_,_,v7,y.n,rfl,⟨jd.keep ?_,get_put_eq _ _ _ _ rfl (by omega),?_,by omega,fun c hc hcd=>?_,by simp only [put_n];omega,by simp only [put_n];omega,fun hm=>?_,?_,jdp,fun x hx=>?_⟩⟩
 ·rw [get_put_ne' _ _ _ _ (by omega),s7g d (by omega) (by omega),yg d (by omega)]
 ·rw [← hcells]
  exact l7.mono (fun _=>get_put_ne' _ _ _ _ (by omega)) (by simp only [put_n];omega)
 ·rw [get_put_ne' _ _ _ _ (by omega),s7g c (by omega) (by omega),yg c (by omega)]
  exact js c hc hcd
 ·have:=jm hm
  have:=s7m d (by omega) (by omega) (by omega)
  simp only [St.put,minN_eq];omega
 ·simp only [St.put,minN_eq];omega
 ·rcases List.mem_append.mp hx with hx | hx
  ·exact jok x hx
  ·rw [List.mem_singleton.mp hx];exact hS
theorem let_round (N:Nat) (hN:5≤N) (cx:Ctx) {d p7 many bS kk i:Nat} {l:List StallR} {vS:AV} {u t:St} {L:Env} (J:LetJ u t d p7 l many vS bS kk) (hl:l.length≤7) (hs:u.n+kk+2000≤far) (hum:u.m≤far) (hi:i≤1000) (hmany:many≤1000)
  (q0:L.find 0=.ptr d 0) (q7:L.find 7=.ptr p7 0) (q8:L.find 8=.int .i64 many) (q9:L.find 9=.int .i64 (i+1:Nat)) :
  ∃ L1 t1 S v1 b1,K12l0 (call Try.prog X N) cx L [] t=.done .norm L1 [] t1∧LetJ u t1 d p7 (l++[S]) many v1 b1 (kk+10)∧L1.find 9=.int .i64 (i:Nat)∧∀ c,c<9→L1.find c=L.find c:=by
 have hf:far=1000000000:=rfl
 have jn:=J.n
 have jle:=J.le
 have jdp:=J.dp
 have e0:decide ((0:Int)<((i+1:Nat):Int))=true:=decide_eq_true (by omega)
 have sb:∀ s,aSub s .i64 ((i+1:Nat):Int) 1=.val (.int .i64 (i:Int)) s:=fun s=>by rw [aSub_i64 s _ _ (by omega)];congr 2;omega
 have sm:∀ s,aSub s .i64 (many:Int) 1=.val (.int .i64 ((many:Int) - 1)) s:=fun s=>aSub_i64 s _ _ (by omega)
 simp (disch:=first|omega|(with_unfolding_all exact rfl)|(simp only[new_n,put_n,new_m];omega)|(refine put_m_le ?_;simp only[new_m];omega)) only [K12r4,K12r5,K12l0,Abs.W,reduceIte,Nat.reduceEqDiff,Nat.reduceAdd,decide_true,decide_false,kLoop_def,Nat.reduceSub,List.cons_append,List.nil_append,List.append_nil,List.length_cons,List.length_nil,efs,Nat.zero_add,q0,q9,e0]
 generalize hc1:call _ _ _ (.fn 26) _ _=r1
 obtain ⟨x1,t1,rfl,st1,d1,x10,x11⟩:=from_ex hc1 (by omega) J.die (by omega) (by omega) (by omega) (by omega) (by omega) (by omega)
 have n1:=st1.n
 have k1:=st1.le
 simp (disch:=first|omega|(with_unfolding_all exact rfl)|(simp only[new_n,put_n,new_m];omega)|(refine put_m_le ?_;simp only[new_m];omega)) only [Abs.W,reduceIte,Nat.reduceEqDiff,Nat.reduceAdd,decide_true,decide_false,kLoop_def,Nat.reduceSub,List.cons_append,List.nil_append,List.append_nil,List.length_cons,List.length_nil,efs,q0]
 generalize hc2:call _ _ _ (.fn 15) _ _=r2
 obtain ⟨x2,t2,rfl,st2,d2,x20,x21⟩:=cast_ex hc2 (by omega) d1 (by omega) (by omega) (by omega)
 have n2:=st2.n
 have k2:=st2.le
 simp (disch:=first|omega|(with_unfolding_all exact rfl)|(simp only[new_n,put_n,new_m];omega)|(refine put_m_le ?_;simp only[new_m];omega)) only [Abs.W,reduceIte,Nat.reduceEqDiff,Nat.reduceAdd,decide_true,decide_false,kLoop_def,Nat.reduceSub,List.cons_append,List.nil_append,List.append_nil,List.length_cons,List.length_nil,efs,q0]
 generalize hc3:call _ _ _ (.fn 15) _ _=r3
 obtain ⟨x3,t3,rfl,st3,d3,x30,x31⟩:=cast_ex hc3 (by omega) d2 (by omega) (by omega) (by omega)
 have n3:=st3.n
 have k3:=st3.le
 simp (disch:=first|omega|(with_unfolding_all exact rfl)|(simp only[new_n,put_n,new_m];omega)|(refine put_m_le ?_;simp only[new_m];omega)) only [Abs.W,reduceIte,Nat.reduceEqDiff,Nat.reduceAdd,decide_true,decide_false,kLoop_def,Nat.reduceSub,List.cons_append,List.nil_append,List.append_nil,List.length_cons,List.length_nil,efs,q0]
 generalize hc4:call _ _ _ (.fn 33) _ _=r4
 obtain ⟨x4,t4,rfl,st4,d4,hx4⟩:=one_ex [0,x2,x3] (b:=t3.n) (sz:=0) hc4 (by omega) (d3.keep (get_new_ne _ _ _ (by omega))) (by simp only [new_n];omega) (by simp only [new_n];omega) (get_new_eq _ _ _ rfl (by omega)) (by simp only [new_n];omega) (by omega) rfl (by omega) (by omega)
 have n4:=st4.n
 have k4:=st4.le
 simp only [new_n] at n4 k4
 have hx4':0≤x4∧x4≤1000:=by simp at hx4;omega
 simp (disch:=first|omega|(with_unfolding_all exact rfl)|(simp only[new_n,put_n,new_m];omega)|(refine put_m_le ?_;simp only[new_m];omega)) only [K12r6,Abs.W,reduceIte,Nat.reduceEqDiff,Nat.reduceAdd,decide_true,decide_false,kLoop_def,Nat.reduceSub,List.cons_append,List.nil_append,List.append_nil,List.length_cons,List.length_nil,efs,q0,Nat.zero_add]
 have S4:Stir d t t4 1:=(((st1.trans st2).trans st3).new _).trans st4
 obtain ⟨y,hy⟩:∃ y:St,y=(t4.new (.cells [.int .i64 0,.int .i64 0,.int .i64 0] (tag 53))).put t4.n (.cells [.int .i64 x1,.int .i64 x4,.int .i64 (-1)] (tag 53)):=⟨_,rfl⟩
 have Sy:Stir d t y 2:=by rw [hy];exact (S4.new _).put (by omega) _ (.inr (by omega))
 have yn:y.n=t4.n+1:=by rw [hy];rfl
 have yp:y.h.get t4.n=some (.cells [.int .i64 x1,.int .i64 x4,.int .i64 (-1)] (tag 53)):=by rw [hy];exact get_put_eq _ _ _ _ rfl (by omega)
 have dy:Die d y.h:=d4.keep (by rw [hy,get_put_ne' _ _ _ _ (by omega),get_new_ne _ _ _ (by omega)])
 rw [← hy]
 generalize hc5:call _ _ _ (.fn 27) _ _=r5
 obtain ⟨bb,t5,rfl,st5,d5⟩:=once_ex hc5 (by omega) dy (by omega) (by omega) (by omega)
 have n5:=st5.n
 have k5:=st5.le
 have S5:=Sy.trans st5
 have p5:=(st5.same t4.n (by omega) (by omega)).trans yp
 cases bb with
 | false =>
  simp (disch:=first|omega|(with_unfolding_all exact rfl)|(simp only[new_n,put_n,new_m];omega)|(refine put_m_le ?_;simp only[new_m];omega)) only [Abs.W,reduceIte,Nat.reduceEqDiff,Nat.reduceAdd,decide_true,decide_false,kLoop_def,Nat.reduceSub,List.cons_append,List.nil_append,List.append_nil,List.length_cons,List.length_nil,efs,Nat.zero_add]
  generalize hq:K12r8 _ _ _=q8
  obtain ⟨M,z1,v1,b1,rfl,J1⟩:=let_push (S:=⟨x1,x4, -1⟩) hq (J.stir S5 d5) ⟨by simp only;omega,by simp only;omega,by simp only;omega,by simp only;omega,by simp only;omega,by simp only;omega⟩ p5 hl (by omega) (by simp only [efs,q7,reduceIte,Nat.reduceEqDiff]) (by simp only [efs,reduceIte,Nat.reduceEqDiff])
  simp (disch:=first|omega|(with_unfolding_all exact rfl)|(simp only[new_n,put_n,new_m];omega)|(refine put_m_le ?_;simp only[new_m];omega)) only [K12r9,Abs.W,reduceIte,Nat.reduceEqDiff,Nat.reduceAdd,decide_true,decide_false,kLoop_def,Nat.reduceSub,List.cons_append,List.nil_append,List.append_nil,List.length_cons,List.length_nil,efs,q9,sb]
  obtain ⟨a1,a2,a3,a4,a5,a6,a7,a8,a9,a10,a11⟩:=J1
  refine ⟨_,z1,_,v1,b1,rfl,⟨a1,a2,a3,a4,a5,a6,by omega,a8,a9,a10,a11⟩,by simp only [efs,reduceIte,Nat.reduceEqDiff],fun c hc=>?_⟩
  simp only [efs]
  repeat rw [if_neg (by omega)]
 | true =>
  simp (disch:=first|omega|(with_unfolding_all exact rfl)|(simp only[new_n,put_n,new_m];omega)|(refine put_m_le ?_;simp only[new_m];omega)) only [K12r7,Abs.W,reduceIte,Nat.reduceEqDiff,Nat.reduceAdd,decide_true,decide_false,kLoop_def,Nat.reduceSub,List.cons_append,List.nil_append,List.append_nil,List.length_cons,List.length_nil,efs,q0,q8,sm,Nat.zero_add]
  generalize hc6:call _ _ _ (.fn 26) _ _=r6
  obtain ⟨x6,t6,rfl,st6,d6,x60,x61⟩:=from_ex hc6 (by omega) d5 (by omega) (by omega) (by omega) (by omega) (by omega) (by omega)
  have n6:=st6.n
  have k6:=st6.le
  have p6:=(st6.same t4.n (by omega) (by omega)).trans p5
  simp (disch:=first|omega|(with_unfolding_all exact rfl)|(simp only[new_n,put_n,new_m];omega)|(refine put_m_le ?_;simp only[new_m];omega)) only [Abs.W,reduceIte,Nat.reduceEqDiff,Nat.reduceAdd,decide_true,decide_false,kLoop_def,Nat.reduceSub,List.cons_append,List.nil_append,List.append_nil,List.length_cons,List.length_nil,efs,p6,Nat.zero_add]
  obtain ⟨z,hz⟩:∃ z:St,z=t6.put t4.n (.cells [.int .i64 x1,.int .i64 x4,.int .i64 x6] (tag 53)):=⟨_,rfl⟩
  have Sz:Stir d t z 2:=by rw [hz];exact ((S5.trans st6).mono (by omega)).put (by omega) _ (.inr (by omega))
  have zp:z.h.get t4.n=some (.cells [.int .i64 x1,.int .i64 x4,.int .i64 x6] (tag 53)):=by rw [hz];exact get_put_eq _ _ _ _ rfl (by omega)
  have dz:Die d z.h:=d6.keep (by rw [hz,get_put_ne' _ _ _ _ (by omega)])
  rw [← hz]
  generalize hq:K12r8 _ _ _=q8
  obtain ⟨M,z1,v1,b1,rfl,J1⟩:=let_push (S:=⟨x1,x4,x6⟩) hq (J.stir Sz dz) ⟨by simp only;omega,by simp only;omega,by simp only;omega,by simp only;omega,by simp only;omega,by simp only;omega⟩ zp hl (by omega) (by simp only [efs,q7,reduceIte,Nat.reduceEqDiff]) (by simp only [efs,reduceIte,Nat.reduceEqDiff])
  simp (disch:=first|omega|(with_unfolding_all exact rfl)|(simp only[new_n,put_n,new_m];omega)|(refine put_m_le ?_;simp only[new_m];omega)) only [K12r9,Abs.W,reduceIte,Nat.reduceEqDiff,Nat.reduceAdd,decide_true,decide_false,kLoop_def,Nat.reduceSub,List.cons_append,List.nil_append,List.append_nil,List.length_cons,List.length_nil,efs,q9,sb]
  obtain ⟨a1,a2,a3,a4,a5,a6,a7,a8,a9,a10,a11⟩:=J1
  refine ⟨_,z1,_,v1,b1,rfl,⟨a1,a2,a3,a4,a5,a6,by omega,a8,a9,a10,a11⟩,by simp only [efs,reduceIte,Nat.reduceEqDiff],fun c hc=>?_⟩
  simp only [efs]
  repeat rw [if_neg (by omega)]
theorem let_loop (N:Nat) (hN:5≤N) {cx:Ctx} {d p7 many bS kk i:Nat} {vS:AV} {u w:St} {L:Env} {r:R} (hr:loopN K12l0 rounds (call Try.prog X N) cx L [] w=r) (J:LetJ u w d p7 [] many vS bS kk) (hi:i≤8) (hs:u.n+kk+3000≤far) (hum:u.m≤far) (hmany:many≤1000)
  (q0:L.find 0=.ptr d 0) (q7:L.find 7=.ptr p7 0) (q8:L.find 8=.int .i64 many) (q9:L.find 9=.int .i64 (i:Int)) :
  ∃ L1 t1 l1 v1 b1,r=.done (.exit 0) L1 [] t1∧LetJ u t1 d p7 l1 many v1 b1 (kk+80)∧l1.length=i∧∀ c,c<9→L1.find c=L.find c:=by
 have hf:far=1000000000:=rfl
 obtain ⟨e,L1,t1,rfl,rfl,l1,v1,b1,h1,h3,h5⟩:=loop_of hr (fun j L' t'=>∃ l1 v1 b1,LetJ u t' d p7 l1 many v1 b1 (kk+10 * j)∧l1.length=j∧L'.find 9=.int .i64 ((i - j:Nat):Int)∧∀ c,c<9→L'.find c=L.find c)
  (fun e L' t'=>e=.exit 0∧∃ l1 v1 b1,LetJ u t' d p7 l1 many v1 b1 (kk+80)∧l1.length=i∧∀ c,c<9→L'.find c=L.find c) i (by unfold rounds;omega)
  ⟨[],vS,bS,J,rfl,q9,fun _ _=>rfl⟩
  (fun j L' t' hj ⟨l1,v1,b1,hJ,hb3,p9,g⟩=>by
   by_cases hlt:j<i
   ·obtain ⟨L2,t2,S,v2,b2,z1,z2,z6,z7⟩:=let_round N hN cx (i:=i - j - 1) hJ (by omega) (by omega) hum (by omega) hmany ((g 0 (by omega)).trans q0) ((g 7 (by omega)).trans q7) ((g 8 (by omega)).trans q8) (by rw [p9,show i - j - 1+1=i - j by omega])
    exact .inl ⟨hlt,L2,t2,z1,l1++[S],v2,b2,z2,by simp [hb3],z6.trans (by rw [show i - j - 1=i - (j+1) by omega]),fun c hc=>(z7 c hc).trans (g c hc)⟩
   ·obtain rfl:j=i:=by omega
    have e0:decide ((0:Int)<((0:Nat):Int))=false:=rfl
    rw [Nat.sub_self] at p9
    refine .inr ⟨.exit 0,L'.set 22 (.bool false),t',by simp,?_,rfl,l1,v1,b1,?_,hb3,fun c hc=>?_⟩
    ·simp (disch:=first|omega|(with_unfolding_all exact rfl)|(simp only[new_n,put_n,new_m];omega)|(refine put_m_le ?_;simp only[new_m];omega)) only [K12r4,K12l0,Abs.W,reduceIte,Nat.reduceEqDiff,Nat.reduceAdd,decide_true,decide_false,kLoop_def,Nat.reduceSub,List.cons_append,List.nil_append,List.append_nil,List.length_cons,List.length_nil,efs,p9,e0]
    ·obtain ⟨a1,a2,a3,a4,a5,a6,a7,a8,a9,a10,a11⟩:=hJ
     exact ⟨a1,a2,a3,a4,a5,a6,by omega,a8,a9,a10,a11⟩
    ·simp only [efs]
     rw [if_neg (by omega)]
     exact g c hc)
 exact ⟨L1,t1,l1,v1,b1,rfl,h1,h3,h5⟩
end Go.Proofs.Ythbhjgbpjlnbcaa.walk
set_option maxRecDepth 10000
namespace Go.Proofs.Ythbhjgbpjlnbcaa.walk
open Go.Abs Go.Proofs.Ythbhjgbpjlnbcaa.code
theorem perm_mem {m:Nat} {f:List Nat} (hl:f.length=m) (p:Perm m f):∀ j,j<m→j ∈ f:=fun j hj=>by
 obtain ⟨q,h1,h2⟩:=p.all j hj
 rw [← h2]
 simp [List.getD,show q<f.length by omega]
theorem perm_lt {m:Nat} {f:List Nat} (hl:f.length=m) (p:Perm m f):∀ x ∈ f,x<m:=fun x hx=>by
 obtain ⟨q,h1,rfl⟩:=List.getElem_of_mem hx
 have:=p.lt q (by omega)
 simpa [List.getD,h1] using this
theorem perm_ofRange:∀ (n:Nat) (f:List Nat),f.length=n→(∀ j,j<n→j ∈ f)→List.Perm f (List.range n)
 | 0,f,h,_=>by
  have:f=[]:=List.length_eq_zero_iff.mp h
  subst this
  exact List.Perm.nil
 | n+1,f,h,ha=>by
  have hn:=ha n (Nat.lt_succ_self n)
  have h1:=List.perm_cons_erase hn
  have h2:=perm_ofRange n (f.erase n) (by rw [List.length_erase_of_mem hn];omega) (fun j hj=>(List.mem_erase_of_ne (by omega)).mpr (ha j (by omega)))
  rw [List.range_succ]
  exact h1.trans ((List.Perm.cons n h2).trans (List.perm_append_comm (l₁:=[n]) (l₂:=List.range n)))
theorem perm_nodup {m:Nat} {f:List Nat} (hl:f.length=m) (p:Perm m f):f.Nodup:=(perm_ofRange m f hl (perm_mem hl p)).nodup_iff.mpr List.nodup_range
theorem ofNat_nodup {f:List Nat} (h:f.Nodup):(f.map Int.ofNat).Nodup:=by
 unfold List.Nodup at *
 rw [List.pairwise_map]
 exact h.imp fun hab e=>hab (Int.ofNat.inj e)
structure BidJ (z0 t:St) (d p12:Nat) (a1 a2 wv:AV) (bs:List Int) (bv:AV) (bB kk:Nat):Prop where
 die:Die d t.h
 g12:t.h.get p12=some (.cells [a1,a2,wv,bv] (tag 37))
 is:IsAt t.h t.n bB 1 (tag 3) (intRows bs) bv
 lo:z0.n≤bB
 same:∀ c,c<z0.n→c≠d→c≠p12→t.h.get c=z0.h.get c
 n:z0.n≤t.n
 le:t.n≤z0.n+kk
 m:d≤z0.m→d≤t.m
 mle:t.m≤z0.m
 b:∀ x ∈ bs,0≤x∧x≤1000000
theorem bid_round (N:Nat) (hN:5≤N) (cx:Ctx) {d p7 p12 bB kk k:Nat} {a1 a2 wv bv vS vA:AV} {bs wl:List Int} {ss:List StallR} {z0 t:St} {L:Env} {noW noS:Nat→Prop} (J:BidJ z0 t d p12 a1 a2 wv bs bv bB kk)
  (g7:z0.h.get p7=some (.cells [vS,vA] (tag 28))) (hS:Sl noS z0.h z0.n 3 (ss.map StallR.cells) vS) (hW:Sl noW z0.h z0.n 1 (intRows wl) wv) (hnS:∀ b,noS b→b≠d∧b≠p12) (hnW:∀ b,noW b→b≠d∧b≠p12)
  (h7:p7<z0.n∧p7≠d∧p7≠p12) (h12:d<p12∧p12<z0.n) (hs1:scalars [a1,a2]=true) (hk:k<wl.length) (hwl:wl.length≤8) (hbl:bs.length=k) (hx:∀ x ∈ wl,0≤x∧x<ss.length) (hss:∀ s ∈ ss,0≤s.least∧s.least≤1000) (hs:z0.n+kk+2000≤far) (hum:z0.m≤far) (hdm:d≤z0.m)
  (q0:L.find 0=.ptr d 0) (q7:L.find 7=.ptr p7 0) (q12:L.find 12=.ptr p12 0) (q13:L.find 13=.int .i64 k) :
  ∃ L1 t1 x bv1 bB1,K12l1 (call Try.prog X N) cx L [] t=.done .norm L1 [] t1∧BidJ z0 t1 d p12 a1 a2 wv (bs++[x]) bv1 bB1 (kk+10)∧L1.find 13=.int .i64 (k+1:Nat)∧∀ c,c<13→L1.find c=L.find c:=by
 have hf:far=1000000000:=rfl
 obtain ⟨jd,j12,ji,jlo,js,jn,jle,jm,jml,jb⟩:=J
 have e0:decide ((k:Int)<(wl.length:Int))=true:=decide_eq_true (by omega)
 have ad:∀ s,aAdd s .i64 (k:Int) 1=.val (.int .i64 ((k:Int)+1)) s:=fun s=>aAdd_i64 s _ _ (by omega)
 have kb:∀ t,okA (.val bv t)=.val bv t:=ji.okA
 have kw:=hW.okA
 have lw:=rowLen hW.at_
 have kS:=hS.okA
 have j7:=(js p7 h7.1 h7.2.1 h7.2.2).trans g7
 have hWt:Sl noW t.h t.n 1 (intRows wl) wv:=hW.move (fun b h1 h2=>⟨js b h1 (hnW b h2).1 (hnW b h2).2,h2⟩) jn
 have hSt:Sl noS t.h t.n 3 (ss.map StallR.cells) vS:=hS.move (fun b h1 h2=>⟨js b h1 (hnS b h2).1 (hnS b h2).2,h2⟩) jn
 have noWb:∀ b,noW b→b≠d:=fun b h=>(hnW b h).1
 obtain ⟨b1,p1,c1,sz1,r1,r2,r3,r4⟩:=rowInt hWt.at_ hk
 obtain ⟨x0,x1⟩:=hx _ (List.getElem_mem hk)
 obtain ⟨w,hw⟩:∃ w:Nat,wl[k]=w:=⟨wl[k].toNat,by omega⟩
 rw [hw] at r4
 have hwS:w<ss.length:=by omega
 obtain ⟨b2,p2,c2,sz2,s1,s2,s3,s4⟩:=hSt.at_.at_ w (by rw [List.length_map];exact hwS)
 rw [List.getElem_map] at s4
 have s5:=cut_nth s4 (show 1<3 by omega)
 have s6:nth (ss[w].cells) 1=.int .i64 ss[w].least:=rfl
 rw [s6] at s5
 have nb1:b1≠d:=by
  rcases hWt.is with ⟨z,_⟩ | ⟨b,o,cap,e,c,sz,y1,y2,y3,y4,y5,y6⟩
  ·rw [List.map_eq_nil_iff.mp z] at hk;simp at hk
  ·have:=r2 none0
   rw [y4,ixs_slice _ _ _ _ _ _ _ _ (by rw [intRows_len];exact hk)] at this
   injection this with this
   injection this with h1 h2
   subst h1
   exact noWb _ y2
 have nb2:b2≠d:=by
  rcases hSt.is with ⟨z,_⟩ | ⟨b,o,cap,e,c,sz,y1,y2,y3,y4,y5,y6⟩
  ·rw [List.map_eq_nil_iff.mp z] at hwS;simp at hwS
  ·have:=s2 none0
   rw [y4,ixs_slice _ _ _ _ _ _ _ _ (by rw [List.length_map];exact hwS)] at this
   injection this with this
   injection this with h1 h2
   subst h1
   exact (hnS _ y2).1
 obtain ⟨lt0,lt1⟩:=hss _ (List.getElem_mem hwS)
 generalize ss[w].least=least at *
 simp (disch:=first|omega|(with_unfolding_all exact rfl)|(simp only[new_n,put_n,new_m];omega)|(refine put_m_le ?_;simp only[new_m];omega)) only [K12r17,K12r18,K12l1,thenT_turn,Abs.W,reduceIte,Nat.reduceEqDiff,Nat.reduceAdd,decide_true,decide_false,kLoop_def,Nat.reduceSub,List.cons_append,List.nil_append,List.append_nil,List.length_cons,List.length_nil,efs,Nat.zero_add,q0,q7,q12,q13,j12,j7,kb,kw,kS,lw,e0,r2,r3,r4,s2,s3,s5,Nat.add_comm 1]
 generalize hc1:call _ _ _ (.fn 15) _ _=r1
 obtain ⟨y1,t1,rfl,st1,d1,y10,y11⟩:=cast_ex hc1 (by omega) jd (by show d<t.n;omega) (by show t.n+100≤far;omega) (by omega)
 have n1:t.n≤t1.n:=st1.n
 have k1:t1.n≤t.n:=st1.le
 have g1:∀ c,c<t.n→c≠d→t1.h.get c=t.h.get c:=fun c hc hcd=>st1.same c hc hcd
 have m1:d≤t1.m:=st1.m (by show d≤far;omega)
 simp (disch:=first|omega|(with_unfolding_all exact rfl)|(simp only[new_n,put_n,new_m];omega)|(refine put_m_le ?_;simp only[new_m];omega)) only [thenT_turn,Abs.W,reduceIte,Nat.reduceEqDiff,Nat.reduceAdd,decide_true,decide_false,kLoop_def,Nat.reduceSub,List.cons_append,List.nil_append,List.append_nil,List.length_cons,List.length_nil,efs,Nat.zero_add]
 obtain ⟨z1,hz1⟩:∃ z1:St,z1=(⟨t1.h,t1.n,minN t.m t1.m⟩:St).new (.cells [.int .i64 0,.int .i64 1,.int .i64 (-1),.int .i64 y1] 0):=⟨_,rfl⟩
 rw [← hz1]
 have z1n:z1.n=t1.n+1:=by rw [hz1];rfl
 have z1m:z1.m=min t.m t1.m:=by rw [hz1];simp only [new_m,minN_eq]
 have z1g:∀ c,c<t1.n→z1.h.get c=t1.h.get c:=fun c hc=>by rw [hz1];exact get_new_ne _ _ _ (by show c≠t1.n;omega)
 have z1p:z1.h.get t1.n=some (.cells ([0,1, -1,y1].map fun x=>AV.int .i64 x) 0):=by rw [hz1];exact get_new_eq _ _ _ rfl (by show t1.n<_;omega)
 generalize hc2:call _ _ _ (.fn 33) _ _=r2
 obtain ⟨y2,t2,rfl,st2,d2,hy2⟩:=one_ex [0,1, -1,y1] (b:=t1.n) (sz:=0) hc2 (by omega) (d1.keep (z1g d (by omega))) (by show d<z1.n;omega) (by show z1.n+200≤far;omega) z1p (by show t1.n<z1.n;omega) (by omega) rfl (by omega) (by omega)
 have n2:z1.n≤t2.n:=st2.n
 have k2:t2.n≤z1.n:=st2.le
 have g2:∀ c,c<t.n→c≠d→t2.h.get c=t.h.get c:=fun c hc hcd=>(st2.same c (by show c<z1.n;omega) hcd).trans ((z1g c (by omega)).trans (g1 c hc hcd))
 have m2:d≤t2.m:=st2.m (by show d≤far;omega)
 have hy2' : -1≤y2∧y2≤7:=by simp at hy2;omega
 have adl:∀ s,aAdd s .i64 least y2=.val (.int .i64 (least+y2)) s:=fun s=>aAdd_i64 s _ _ (by omega)
 obtain ⟨x,hx⟩:∃ x,x=max 0 (least+y2):=⟨_,rfl⟩
 simp (disch:=first|omega|(with_unfolding_all exact rfl)|(simp only[new_n,put_n,new_m];omega)|(refine put_m_le ?_;simp only[new_m];omega)) only [thenT_turn,Abs.W,reduceIte,Nat.reduceEqDiff,Nat.reduceAdd,decide_true,decide_false,kLoop_def,Nat.reduceSub,List.cons_append,List.nil_append,List.append_nil,List.length_cons,List.length_nil,efs,Nat.zero_add,adl,kFold_def,foldA_nil,foldA_cons,maxA_i64]
 rw [← hx]
 obtain ⟨y8,hy8⟩:∃ y8:St,y8=⟨t2.h,t2.n,minN z1.m t2.m⟩:=⟨_,rfl⟩
 rw [← hy8]
 have y8n:y8.n=t2.n:=by rw [hy8]
 have y8h:y8.h=t2.h:=by rw [hy8]
 have y8m:y8.m=min (min t.m t1.m) t2.m:=by rw [hy8];simp only [minN_eq];rw [z1m]
 obtain ⟨y,hy⟩:∃ y:St,y=y8.new (.cells [.int .i64 x] 0):=⟨_,rfl⟩
 have yn:y.n=t2.n+1:=by rw [hy];show y8.n+1=_;rw [y8n]
 have ym:y.m=y8.m:=by rw [hy];rfl
 have yg:∀ c,c<t2.n→y.h.get c=t2.h.get c:=fun c hc=>by rw [hy,get_new_ne _ _ _ (by omega),y8h]
 have yp:y.h.get t2.n=some (.cells [.int .i64 x] 0):=by rw [hy,← y8n];exact get_new_eq _ _ _ rfl (by omega)
 have gy:∀ c,c<t.n→c≠d→y.h.get c=t.h.get c:=fun c hc hcd=>(yg c (by omega)).trans (g2 c hc hcd)
 obtain ⟨s7,e7,l7,s7n,s7g,s7m,s7l⟩:=append_at (bytes:=8) (ji.mono (h':=y.h) (n':=y.n) (fun h=>gy bB h (by omega)) (by omega)) yp rfl rfl (by rw [intRows_len];omega) (by kernel_rfl) (by omega)
 rw [intRows_len] at e7 l7
 rw [← intRows_snoc] at l7
 obtain ⟨v7,hv7⟩:∃ v7,v7=AV.slice y.n 0 (bs.length+1) (bs.length+1) true:=⟨_,rfl⟩
 rw [← hv7] at e7 l7
 rw [hy] at e7
 have sc7:scalars [v7]=true:=by rw [hv7];rfl
 have cc7:cellsOf 1 v7=some [v7]:=by rw [hv7];rfl
 have s9:=(s7g p12 (by omega) (by omega)).trans ((gy p12 (by omega) (by omega)).trans j12)
 simp (disch:=first|omega|(with_unfolding_all exact rfl)|(simp only[new_n,put_n,new_m];omega)|(refine put_m_le ?_;simp only[new_m];omega)) only [Abs.W,reduceIte,Nat.reduceEqDiff,Nat.reduceAdd,decide_true,decide_false,kLoop_def,Nat.reduceSub,List.cons_append,List.nil_append,List.append_nil,List.length_cons,List.length_nil,efs,e7,q12,s9,sc7,cc7,Nat.zero_add]
 have a12:=(g1 p12 (by omega) (by omega)).trans j12
 have a7:=(g1 p7 (by omega) (by omega)).trans j7
 have ab1:=(g1 b1 (by omega) nb1).trans r3
 have ab2:=(g1 b2 (by omega) nb2).trans s3
 have b12:=(g2 p12 (by omega) (by omega)).trans j12
 have b7:=(g2 p7 (by omega) (by omega)).trans j7
 have bb1:=(g2 b1 (by omega) nb1).trans r3
 have bb2:=(g2 b2 (by omega) nb2).trans s3
 have c12:=(z1g p12 (by omega)).trans a12
 have c7:=(z1g p7 (by omega)).trans a7
 have cb1:=(z1g b1 (by omega)).trans ab1
 have cb2:=(z1g b2 (by omega)).trans ab2
 rw [endT_kept (l:=[88,90,92,95,98]) (s':=t2) (by simp only [keptAll_cons,keptAll_nil,find_cons,efs,keptV_ptr,c12,c7,cb1,cb2,b12,b7,bb1,bb2,sameO_cells,reduceIte,Nat.reduceEqDiff,Bool.and_self])]
 rw [endT_kept (l:=[88,90,92,95,98]) (s':=t1) (by simp only [keptAll_cons,keptAll_nil,find_cons,efs,keptV_ptr,j12,j7,r3,s3,a12,a7,ab1,ab2,sameO_cells,reduceIte,Nat.reduceEqDiff,Bool.and_self])]
 rw [endO_ok _ (endOk_nil _)]
 simp (disch:=first|omega|(with_unfolding_all exact rfl)|(simp only[new_n,put_n,new_m];omega)|(refine put_m_le ?_;simp only[new_m];omega)) only [K12r19,Abs.W,reduceIte,Nat.reduceEqDiff,Nat.reduceAdd,decide_true,decide_false,kLoop_def,Nat.reduceSub,List.cons_append,List.nil_append,List.append_nil,List.length_cons,List.length_nil,efs,q13,ad,Nat.zero_add]
 refine ⟨_,_,x,v7,y.n,rfl,⟨d2.keep ?_,get_put_eq _ _ _ _ rfl (by omega),?_,by omega,fun c h1 h2 h3=>?_,by simp only [put_n];omega,by simp only [put_n];omega,fun hm=>?_,?_,fun x' hx'=>?_⟩,by simp only [efs,reduceIte,Nat.reduceEqDiff];rfl,fun c hc=>?_⟩
 ·rw [get_put_ne' _ _ _ _ (by omega),s7g d (by omega) (by omega),yg d (by omega)]
 ·exact l7.mono (fun _=>get_put_ne' _ _ _ _ (by omega)) (by simp only [put_n];omega)
 ·rw [get_put_ne' _ _ _ _ (by omega),s7g c (by omega) (by omega),gy c (by omega) h2]
  exact js c h1 h2 h3
 ·have:=jm hm
  have:=s7m d (by omega) (by omega) (by omega)
  simp only [St.put,minN_eq];omega
 ·simp only [St.put,minN_eq];omega
 ·rcases List.mem_append.mp hx' with h | h
  ·exact jb x' h
  ·rw [List.mem_singleton.mp h];omega
 ·simp only [efs]
  repeat rw [if_neg (by omega)]
end Go.Proofs.Ythbhjgbpjlnbcaa.walk
