/- The die that the statements draw from: whatever it shows lies within the bounds that were asked. -/
import Derived.Test.YtoolodjbfphkjaaM1
import Derived.Test.YtoolodjbfphkjaaCodes
import Derived.Test.YtoolodjbfphkjaaWalkAll
set_option linter.unusedSimpArgs false
set_option maxHeartbeats 16000000
set_option linter.unusedVariables false
set_option maxRecDepth 10000
namespace Go.Proofs.Ytoolodjbfphkjaa.walk
open Go.Abs Go.Proofs.Ytoolodjbfphkjaa.code
def Die (d:Nat) (h:Heap):Prop:=∃ f,h.get d=some (.cells [.int .u64 f] (tag 77))
theorem roll_ex {N d:Nat} {s:St} {r:ARes} (hr:call Try.prog X N (.fn 26) [.ptr d 0] s=r) (hN:1≤N) (hd:Die d s.h) (hlt:d<s.n) (hs:s.n+10≤far) :
  ∃ x t,r=.val (.int .u64 x) t∧Stir d s t 0∧Die d t.h∧0≤x∧x≤18446744073709551615:=by
 obtain ⟨n,rfl⟩:∃ n,N=n+1:=⟨N - 1,by omega⟩
 have hf:far=1000000000:=rfl
 obtain ⟨f,hg⟩:=hd
 obtain ⟨v,t,e,st,⟨x,rfl,x0,x1⟩,hd'⟩:=call_stir_plain (n:=n) (args:=[.ptr d 0]) (d:=d) (k:=0) (Q:=fun v=>∃ x,v=.int .u64 x∧0≤x∧x≤18446744073709551615) (R:=Die d) Try.func26 ⟨f,hg⟩ (fun u uh un um=>by
  rw [← uh] at hg
  rw [enter26]
  simp (disch:=first|omega|(with_unfolding_all exact rfl)|(simp only[new_n,put_n,new_m];omega)|(refine put_m_le ?_;simp only[new_m];omega)) only [res26,K26r0,K26r1,K26r2,K26r3,K26r4,K26r5,K26,Abs.W,reduceIte,Nat.reduceEqDiff,Nat.reduceAdd,decide_true,decide_false,kLoop_def,Nat.reduceSub,List.cons_append,List.nil_append,List.append_nil,List.length_cons,List.length_nil,hg,Nat.zero_add,ints_u64,kShr_def,shrA_u64,aAdd_def,aMul_def,aXor_def]
  refine ⟨_,_,rfl,(Stir.refl d u).put (by omega) _ (.inl rfl),rfl,⟨_,rfl,?_⟩,⟨_,get_put_eq _ _ _ _ rfl (by omega)⟩⟩
  exact xorI_range _ _) (by omega)
 exact ⟨x,t,hr.symm.trans e,st,hd',x0,x1⟩
theorem cast_ex {N d:Nat} {n:Int} {s:St} {r:ARes} (hr:call Try.prog X N (.fn 18) [.ptr d 0,.int .i64 n] s=r) (hN:2≤N) (hd:Die d s.h) (hlt:d<s.n) (hs:s.n+100≤far) (hn:n≤4000000000) :
  ∃ x t,r=.val (.int .i64 x) t∧Stir d s t 0∧Die d t.h∧0≤x∧(x<n∨x=0):=by
 obtain ⟨m,rfl⟩:∃ m,N=m+1:=⟨N - 1,by omega⟩
 have hf:far=1000000000:=rfl
 obtain ⟨v,t,e,st,⟨x,rfl,x0,x1⟩,hd'⟩:=call_stir_plain (n:=m) (args:=[.ptr d 0,.int .i64 n]) (d:=d) (k:=0) (Q:=fun v=>∃ x,v=.int .i64 x∧0≤x∧(x<n∨x=0)) (R:=Die d) Try.func18 hd (fun u uh un um=>by
  rw [← uh] at hd
  rw [enter18]
  by_cases hlow:n<2
  ·have e0:decide (n<2)=true:=by simpa using hlow
   simp (disch:=first|omega|(with_unfolding_all exact rfl)|(simp only[new_n,put_n,new_m];omega)|(refine put_m_le ?_;simp only[new_m];omega)) only [res18,K18r0,K18r1,K18r2,K18r3,K18,Abs.W,reduceIte,Nat.reduceEqDiff,Nat.reduceAdd,decide_true,decide_false,kLoop_def,Nat.reduceSub,List.cons_append,List.nil_append,List.append_nil,List.length_cons,List.length_nil,e0]
   exact ⟨_,_,rfl,Stir.refl d u,rfl,⟨0,rfl,by omega,.inr rfl⟩,hd⟩
  ·have e0:decide (n<2)=false:=by simpa using hlow
   simp (disch:=first|omega|(with_unfolding_all exact rfl)|(simp only[new_n,put_n,new_m];omega)|(refine put_m_le ?_;simp only[new_m];omega)) only [res18,K18r0,K18r1,K18r2,K18r3,K18,Abs.W,reduceIte,Nat.reduceEqDiff,Nat.reduceAdd,decide_true,decide_false,kLoop_def,Nat.reduceSub,List.cons_append,List.nil_append,List.append_nil,List.length_cons,List.length_nil,e0]
   generalize hc:call _ _ _ (.fn 26) _ _=r1
   obtain ⟨y,w,rfl,sw,dw,y0,y1⟩:=roll_ex hc (by omega) hd (by omega) (by omega)
   have q0:0≤shrI y 2:=shrI_nonneg _ _ y0
   have q2:0≤(shrI y 2).tmod n:=Int.tmod_nonneg _ q0
   have q3:(shrI y 2).tmod n<n:=Int.tmod_lt_of_pos _ (by omega)
   have w1:wrapA .u64 n=n:=wrap_u64 n (by omega)
   have w2:wrapA .i64 ((shrI y 2).tmod n)=(shrI y 2).tmod n:=wrap_in _ (by omega)
   have w3:∀ s,aRem s .u64 (shrI y 2) n=.val (.int .u64 ((shrI y 2).tmod n)) s:=fun s=>aRem_ne s _ _ _ (by omega)
   simp (disch:=first|omega|(with_unfolding_all exact rfl)|(simp only[new_n,put_n,new_m];omega)|(refine put_m_le ?_;simp only[new_m];omega)) only [res18,K18r0,K18r1,K18r2,K18r3,K18,Abs.W,reduceIte,Nat.reduceEqDiff,Nat.reduceAdd,decide_true,decide_false,kLoop_def,Nat.reduceSub,List.cons_append,List.nil_append,List.append_nil,List.length_cons,List.length_nil,ints_u64,kShr_def,shrA_u64,cviA_int,w1,w2,w3]
   exact ⟨_,_,rfl,sw,rfl,⟨_,rfl,q2,.inl q3⟩,dw⟩) (by omega)
 exact ⟨x,t,hr.symm.trans e,st,hd',x0,x1⟩
theorem from_ex {N d:Nat} {lo hi:Int} {s:St} {r:ARes} (hr:call Try.prog X N (.fn 19) [.ptr d 0,.int .i64 lo,.int .i64 hi] s=r) (hN:3≤N) (hd:Die d s.h) (hlt:d<s.n) (hs:s.n+200≤far)
  (h0 : -100000000≤lo) (h1:lo≤100000000) (h2 : -100000000≤hi) (h3:hi≤100000000) :
  ∃ x t,r=.val (.int .i64 x) t∧Stir d s t 0∧Die d t.h∧lo≤x∧(x≤hi∨x=lo):=by
 obtain ⟨m,rfl⟩:∃ m,N=m+1:=⟨N - 1,by omega⟩
 have hf:far=1000000000:=rfl
 obtain ⟨v,t,e,st,⟨x,rfl,x0,x1⟩,hd'⟩:=call_stir_plain (n:=m) (args:=[.ptr d 0,.int .i64 lo,.int .i64 hi]) (d:=d) (k:=0) (Q:=fun v=>∃ x,v=.int .i64 x∧lo≤x∧(x≤hi∨x=lo)) (R:=Die d) Try.func19 hd (fun u uh un um=>by
  rw [← uh] at hd
  have a1:∀ s,aSub s .i64 hi lo=.val (.int .i64 (hi - lo)) s:=fun s=>aSub_i64 s _ _ (by omega)
  have a2:∀ s,aAdd s .i64 (hi - lo) 1=.val (.int .i64 (hi - lo+1)) s:=fun s=>aAdd_i64 s _ _ (by omega)
  rw [enter19]
  simp (disch:=first|omega|(with_unfolding_all exact rfl)|(simp only[new_n,put_n,new_m];omega)|(refine put_m_le ?_;simp only[new_m];omega)) only [res19,K19r0,K19r1,K19,Abs.W,reduceIte,Nat.reduceEqDiff,Nat.reduceAdd,decide_true,decide_false,kLoop_def,Nat.reduceSub,List.cons_append,List.nil_append,List.append_nil,List.length_cons,List.length_nil,a1,a2]
  generalize hc:call _ _ _ (.fn 18) _ _=r1
  obtain ⟨y,w,rfl,sw,dw,y0,y1⟩:=cast_ex hc (by omega) hd (by omega) (by omega) (by omega)
  have a3:∀ s,aAdd s .i64 lo y=.val (.int .i64 (lo+y)) s:=fun s=>aAdd_i64 s _ _ (by omega)
  simp (disch:=first|omega|(with_unfolding_all exact rfl)|(simp only[new_n,put_n,new_m];omega)|(refine put_m_le ?_;simp only[new_m];omega)) only [res19,K19r0,K19r1,K19,Abs.W,reduceIte,Nat.reduceEqDiff,Nat.reduceAdd,decide_true,decide_false,kLoop_def,Nat.reduceSub,List.cons_append,List.nil_append,List.append_nil,List.length_cons,List.length_nil,a3]
  exact ⟨_,_,rfl,sw,rfl,⟨_,rfl,by omega,by omega⟩,dw⟩) (by omega)
 exact ⟨x,t,hr.symm.trans e,st,hd',x0,x1⟩
theorem nth_ints:∀ {l:List Int} {i:Nat},i<l.length→∃ x ∈ l,nth (l.map fun x=>AV.int .i64 x) i=.int .i64 x
 | [],i,h=>by simp at h
 | a::l,0,_=>⟨a,List.mem_cons_self ..,rfl⟩
 | a::l,i+1,h=>by
  obtain ⟨x,hx,e⟩:=nth_ints (l:=l) (i:=i) (by simpa using h)
  exact ⟨x,List.mem_cons_of_mem _ hx,e⟩
theorem one_ex {N d b:Nat} {k sz:Nat} (l:List Int) {s:St} {r:ARes} (hr:call Try.prog X N (.fn 21) [.ptr d 0,.slice b 0 k k false] s=r) (hN:3≤N) (hd:Die d s.h) (hlt:d<s.n) (hs:s.n+200≤far)
  (hb:s.h.get b=some (.cells (l.map fun x=>AV.int .i64 x) sz)) (hbn:b<s.n) (hbd:b≠d) (hl:l.length=k) (h0:0<k) (hk:k≤1000) :
  ∃ x t,r=.val (.int .i64 x) t∧Stir d s t 0∧Die d t.h∧x ∈ l:=by
 obtain ⟨m,rfl⟩:∃ m,N=m+1:=⟨N - 1,by omega⟩
 have hf:far=1000000000:=rfl
 obtain ⟨v,t,e,st,⟨x,rfl,hx⟩,hd'⟩:=call_stir_plain (n:=m) (args:=[.ptr d 0,.slice b 0 k k false]) (d:=d) (k:=0) (Q:=fun v=>∃ x,v=.int .i64 x∧x ∈ l) (R:=Die d) Try.func21 hd (fun u uh un um=>by
  rw [← uh] at hd hb
  have e0:decide ((k:Int)=0)=false:=by simp;omega
  rw [enter21]
  simp (disch:=first|omega|(with_unfolding_all exact rfl)|(simp only[new_n,put_n,new_m];omega)|(refine put_m_le ?_;simp only[new_m];omega)) only [res21,K21r0,K21r1,K21r2,K21r3,K21,Abs.W,reduceIte,Nat.reduceEqDiff,Nat.reduceAdd,decide_true,decide_false,kLoop_def,Nat.reduceSub,List.cons_append,List.nil_append,List.append_nil,List.length_cons,List.length_nil,e0]
  generalize hc:call _ _ _ (.fn 18) _ _=r1
  obtain ⟨y,w,rfl,sw,dw,y0,y1⟩:=cast_ex hc (by omega) hd (by omega) (by omega) (by omega)
  obtain ⟨i,rfl⟩:∃ i:Nat,y=i:=⟨y.toNat,by omega⟩
  have hi:i<k:=by omega
  obtain ⟨x,hx,hn⟩:=nth_ints (l:=l) (i:=i) (by omega)
  have hg:w.h.get b=some (.cells (l.map fun x=>AV.int .i64 x) sz):=by rw [sw.same b (by omega) hbd];exact hb
  simp (disch:=first|omega|(with_unfolding_all exact rfl)|(simp only[new_n,put_n,new_m];omega)|(refine put_m_le ?_;simp only[new_m];omega)) only [res21,K21r0,K21r1,K21r2,K21r3,K21,Abs.W,reduceIte,Nat.reduceEqDiff,Nat.reduceAdd,decide_true,decide_false,kLoop_def,Nat.reduceSub,List.cons_append,List.nil_append,List.append_nil,List.length_cons,List.length_nil,ixs_slice _ _ _ _ _ _ _ _ hi,Nat.mul_one,Nat.zero_add,hg,hn]
  exact ⟨_,_,rfl,sw,rfl,⟨x,rfl,hx⟩,dw⟩) (by omega)
 exact ⟨x,t,hr.symm.trans e,st,hd',hx⟩
theorem span_ex {N d:Nat} {lo hi:Int} {s:St} {r:ARes} (hr:call Try.prog X N (.fn 20) [.ptr d 0,.int .i64 lo,.int .i64 hi] s=r) (hN:4≤N) (hd:Die d s.h) (hlt:d<s.n) (hs:s.n+300≤far)
  (h0 : -1000000≤lo) (h1:lo≤hi) (h2:hi≤1000000) :
  ∃ a b t,r=.val (.agg [.int .i64 a,.int .i64 b]) t∧Stir d s t 2∧Die d t.h∧lo≤a∧a≤b∧b≤hi:=by
 obtain ⟨m,rfl⟩:∃ m,N=m+1:=⟨N - 1,by omega⟩
 have hf:far=1000000000:=rfl
 obtain ⟨v,t,e,st,⟨a,b,rfl,x0,x1,x2⟩,hd'⟩:=call_stir_plain (n:=m) (args:=[.ptr d 0,.int .i64 lo,.int .i64 hi]) (d:=d) (k:=2) (Q:=fun v=>∃ a b,v=.agg [.int .i64 a,.int .i64 b]∧lo≤a∧a≤b∧b≤hi) (R:=Die d) Try.func20 hd (fun u uh un um=>by
  rw [← uh] at hd
  have sh:shapeT Try.prog 60=some (some 2):=by kernel_rfl
  rw [enter20]
  simp (disch:=first|omega|(with_unfolding_all exact rfl)|(simp only[new_n,put_n,new_m];omega)|(refine put_m_le ?_;simp only[new_m];omega)) only [res20,K20r0,K20r1,K20r2,K20r3,K20,Abs.W,reduceIte,Nat.reduceEqDiff,Nat.reduceAdd,decide_true,decide_false,kLoop_def,Nat.reduceSub,List.cons_append,List.nil_append,List.append_nil,List.length_cons,List.length_nil]
  generalize hc:call _ _ _ (.fn 19) _ _=r1
  obtain ⟨x,w,rfl,sw,dw,y0,y1⟩:=from_ex hc (by omega) (by obtain ⟨f,hg⟩:=hd;exact ⟨f,by rw [get_new_ne _ _ _ (by omega)];exact hg⟩) (by simp only [new_n];omega) (by simp only [new_n];omega) (by omega) (by omega) (by omega) (by omega)
  have wn:=sw.n
  have wl:=sw.le
  simp only [new_n] at wn wl
  have a1:∀ s,aAdd s .i64 x 4=.val (.int .i64 (x+4)) s:=fun s=>aAdd_i64 s _ _ (by omega)
  simp (disch:=first|omega|(with_unfolding_all exact rfl)|(simp only[new_n,put_n,new_m];omega)|(refine put_m_le ?_;simp only[new_m];omega)) only [res20,K20r0,K20r1,K20r2,K20r3,K20,Abs.W,reduceIte,Nat.reduceEqDiff,Nat.reduceAdd,decide_true,decide_false,kLoop_def,Nat.reduceSub,List.cons_append,List.nil_append,List.append_nil,List.length_cons,List.length_nil,a1,kFold_def,foldA_nil,foldA_cons,minA_i64]
  generalize hc2:call _ _ _ (.fn 21) _ _=r2
  obtain ⟨y,w2,rfl,sw2,dw2,ym⟩:=one_ex [x,min hi (x+4),hi] hc2 (by omega) (by obtain ⟨f,hg⟩:=dw;exact ⟨f,by rw [get_new_ne _ _ _ (by omega)];exact hg⟩) (by simp only [new_n];omega) (by simp only [new_n];omega) (get_new_eq _ _ _ rfl (by omega)) (by simp only [new_n];omega) (by omega) rfl (by omega) (by omega)
  have wn2:=sw2.n
  have wl2:=sw2.le
  simp only [new_n] at wn2 wl2
  have ym':x≤y∧y≤hi:=by
   simp only [List.mem_cons,List.not_mem_nil,or_false] at ym
   omega
  simp (disch:=first|omega|(with_unfolding_all exact rfl)|(simp only[new_n,put_n,new_m];omega)|(refine put_m_le ?_;simp only[new_m];omega)) only [res20,K20r0,K20r1,K20r2,K20r3,K20,Abs.W,reduceIte,Nat.reduceEqDiff,Nat.reduceAdd,decide_true,decide_false,kLoop_def,Nat.reduceSub,List.cons_append,List.nil_append,List.append_nil,List.length_cons,List.length_nil]
  generalize hc3:call _ _ _ (.fn 19) _ _=r3
  obtain ⟨z,w3,rfl,sw3,dw3,z0,z1⟩:=from_ex hc3 (by omega) dw2 (by omega) (by omega) (by omega) (by omega) (by omega) (by omega)
  have wn3:=sw3.n
  have wl3:=sw3.le
  have g:w3.h.get u.n=some (.cells [.int .i64 0,.int .i64 0] (tag 60)):=by
   rw [sw3.same _ (by omega) (by omega),sw2.same _ (by simp only [new_n];omega) (by omega),get_new_ne _ _ _ (by omega),sw.same _ (by simp only [new_n];omega) (by omega)]
   exact get_new_eq _ _ _ rfl (by omega)
  simp (disch:=first|omega|(with_unfolding_all exact rfl)|(simp only[new_n,put_n,new_m];omega)|(refine put_m_le ?_;simp only[new_m];omega)) only [res20,K20r0,K20r1,K20r2,K20r3,K20,Abs.W,reduceIte,Nat.reduceEqDiff,Nat.reduceAdd,decide_true,decide_false,kLoop_def,Nat.reduceSub,List.cons_append,List.nil_append,List.append_nil,List.length_cons,List.length_nil,g]
  have S1:Stir d u w3 2:=((((((Stir.refl d u).new _).trans sw).new _).trans sw2).trans sw3)
  refine ⟨_,_,leave_cell _ _ _ _ sh ?_,S1.put (by omega) _ (.inr (Nat.le_refl _)),rfl,⟨x,z,rfl,by omega,by omega,by omega⟩,?_⟩
  ·simp (disch:=first|omega|(with_unfolding_all exact rfl)|(simp only[new_n,put_n,new_m];omega)|(refine put_m_le ?_;simp only[new_m];omega)) only [Abs.W,reduceIte,Nat.reduceEqDiff,Nat.reduceAdd,decide_true,decide_false,kLoop_def,Nat.reduceSub,List.cons_append,List.nil_append,List.append_nil,List.length_cons,List.length_nil]
  ·obtain ⟨f,hg⟩:=dw3
   exact ⟨f,by rw [get_put_ne' _ _ _ _ (by omega)];exact hg⟩) (by omega)
 exact ⟨a,b,t,hr.symm.trans e,st,hd',x0,x1,x2⟩
end Go.Proofs.Ytoolodjbfphkjaa.walk
set_option maxRecDepth 10000
namespace Go.Proofs.Ytoolodjbfphkjaa.walk
open Go.Abs Go.Proofs.Ytoolodjbfphkjaa.code
end Go.Proofs.Ytoolodjbfphkjaa.walk
set_option maxRecDepth 10000
namespace Go.Proofs.Ytoolodjbfphkjaa.walk
open Go.Abs Go.Proofs.Ytoolodjbfphkjaa.code
theorem true_ex {N d:Nat} {lo hi:Int} {s:St} {r:ARes} (hr:call Try.prog X N (.fn 23) [.ptr d 0,.agg [.int .i64 lo,.int .i64 hi]] s=r) (hN:5≤N) (hd:Die d s.h) (hlt:d<s.n) (hs:s.n+600≤far)
  (h0 : -1000000≤lo) (h1:lo≤hi) (h2:hi≤1000000) :
  ∃ a t,r=.val (.int .i64 a) t∧Stir d s t 3∧Die d t.h∧lo≤a∧a≤hi:=by
 obtain ⟨n,rfl⟩:∃ n,N=n+1:=⟨N - 1,by omega⟩
 have hff:far=1000000000:=rfl
 obtain ⟨v,t,e,st,⟨x,rfl,q0,q1⟩,hd'⟩:=call_stir_plain (n:=n) (args:=[.ptr d 0,.agg [.int .i64 lo,.int .i64 hi]]) (d:=d) (k:=3) (Q:=fun v=>∃ x:Int,v=.int .i64 x∧lo≤x∧x≤hi) (R:=Die d) Try.func23 hd (fun u uh un um=>by
  rw [← uh] at hd
  rw [enter23]
  simp (disch:=first|omega|(with_unfolding_all exact rfl)|(simp only[new_n,put_n,new_m];omega)|(refine put_m_le ?_;simp only[new_m];omega)) only [res23,K23,K23r0,Abs.W,reduceIte,Nat.reduceEqDiff,Nat.reduceAdd,decide_true,decide_false,kLoop_def,Nat.reduceSub,List.cons_append,List.nil_append,List.append_nil,List.length_cons,List.length_nil]
  obtain ⟨y,hy⟩:∃ y:St,y=u.new (.cells [.int .i64 lo,.int .i64 hi] (tag 60)):=⟨_,rfl⟩
  rw [← hy]
  have yn:y.n=u.n+1:=by rw [hy];rfl
  have ym:y.m=far:=by rw [hy];exact um
  have yg:∀ c,c<u.n→y.h.get c=u.h.get c:=fun c hc=>by rw [hy,get_new_ne _ _ _ (by omega)]
  have y0:y.h.get u.n=some (.cells [.int .i64 lo,.int .i64 hi] (tag 60)):=by rw [hy];exact get_new_eq _ _ _ rfl (by omega)
  have dy:Die d y.h:=by obtain ⟨f,hg⟩:=hd;exact ⟨f,by rw [yg _ (by omega)];exact hg⟩
  simp (disch:=first|omega|(with_unfolding_all exact rfl)|(simp only[new_n,put_n,new_m];omega)|(refine put_m_le ?_;simp only[new_m];omega)) only [K23r1,Abs.W,reduceIte,Nat.reduceEqDiff,Nat.reduceAdd,decide_true,decide_false,kLoop_def,Nat.reduceSub,List.cons_append,List.nil_append,List.append_nil,List.length_cons,List.length_nil,efs,y0,Nat.reduceAdd,Nat.zero_add]
  generalize hc1:call _ _ _ (.fn 19) _ _=r1
  obtain ⟨x1,t1,rfl,st1,d1,x10,x11⟩:=from_ex hc1 (by omega) dy (by show d<y.n;omega) (by show y.n+200≤far;omega) (by omega) (by omega) (by omega) (by omega)
  have n1:y.n≤t1.n:=st1.n
  have k1:t1.n≤y.n:=st1.le
  have p1:t1.h.get u.n=some (.cells [.int .i64 lo,.int .i64 hi] (tag 60)):=(st1.same u.n (by show u.n<y.n;omega) (by omega)).trans y0
  simp (disch:=first|omega|(with_unfolding_all exact rfl)|(simp only[new_n,put_n,new_m];omega)|(refine put_m_le ?_;simp only[new_m];omega)) only [K23r1,Abs.W,reduceIte,Nat.reduceEqDiff,Nat.reduceAdd,decide_true,decide_false,kLoop_def,Nat.reduceSub,List.cons_append,List.nil_append,List.append_nil,List.length_cons,List.length_nil,efs,thenT_turn,p1,Nat.reduceAdd,Nat.zero_add]
  generalize hc2:call _ _ _ (.fn 19) _ _=r2
  obtain ⟨x2,t2,rfl,st2,d2,x20,x21⟩:=from_ex hc2 (by omega) d1 (by show d<t1.n;omega) (by show t1.n+200≤far;omega) (by omega) (by omega) (by omega) (by omega)
  have n2:t1.n≤t2.n:=st2.n
  have k2:t2.n≤t1.n:=st2.le
  have p2:t2.h.get u.n=some (.cells [.int .i64 lo,.int .i64 hi] (tag 60)):=(st2.same u.n (by show u.n<t1.n;omega) (by omega)).trans p1
  simp (disch:=first|omega|(with_unfolding_all exact rfl)|(simp only[new_n,put_n,new_m];omega)|(refine put_m_le ?_;simp only[new_m];omega)) only [K23r1,Abs.W,reduceIte,Nat.reduceEqDiff,Nat.reduceAdd,decide_true,decide_false,kLoop_def,Nat.reduceSub,List.cons_append,List.nil_append,List.append_nil,List.length_cons,List.length_nil,efs,thenT_turn,Nat.reduceAdd,Nat.zero_add]
  generalize hc3:call _ _ _ (.fn 21) _ _=r3
  obtain ⟨x3,t3,rfl,st3,d3,m3⟩:=one_ex [lo,hi,x1,x2] hc3 (by omega) (by obtain ⟨f,hg⟩:=d2;exact ⟨f,by rw [get_new_ne _ _ _ (by show d≠t2.n;omega)];exact hg⟩) (by show d<t2.n+1;omega) (by show t2.n+1+200≤far;omega) (get_new_eq _ _ _ rfl (by show t2.n<_;omega)) (by show t2.n<t2.n+1;omega) (by show t2.n≠d;omega) rfl (by omega) (by omega)
  have x3r:lo≤x3∧x3≤hi:=by
   simp only [List.mem_cons,List.not_mem_nil,or_false] at m3
   omega
  have n3:t2.n+1≤t3.n:=st3.n
  have k3:t3.n≤t2.n+1:=st3.le
  simp (disch:=first|omega|(with_unfolding_all exact rfl)|(simp only[new_n,put_n,new_m];omega)|(refine put_m_le ?_;simp only[new_m];omega)) only [K23r1,Abs.W,reduceIte,Nat.reduceEqDiff,Nat.reduceAdd,decide_true,decide_false,kLoop_def,Nat.reduceSub,List.cons_append,List.nil_append,List.append_nil,List.length_cons,List.length_nil,efs,thenT_turn]
  have kp:∀ (a b:Heap) (M:Env),a.get u.n=some (.cells [.int .i64 lo,.int .i64 hi] (tag 60))→b.get u.n=some (.cells [.int .i64 lo,.int .i64 hi] (tag 60))→M.find 6=.ptr u.n 0→M.find 8=.ptr u.n 1→keptAll a b M [6,8]=true:=fun a b M h2 h3 h1 h4=>by
   simp only [keptAll_cons,keptAll_nil,h1,h4,keptV_ptr,h2,h3,sameO_cells,Bool.and_self]
  have kp4:∀ (a b:Heap) (M:Env),a.get u.n=some (.cells [.int .i64 lo,.int .i64 hi] (tag 60))→b.get u.n=some (.cells [.int .i64 lo,.int .i64 hi] (tag 60))→M.find 6=.ptr u.n 0→M.find 8=.ptr u.n 1→M.find 17=.ptr u.n 0→M.find 19=.ptr u.n 1→keptAll a b M [6,8,17,19]=true:=fun a b M h2 h3 h1 h4 h5 h6=>by
   simp only [keptAll_cons,keptAll_nil,h1,h4,h5,h6,keptV_ptr,h2,h3,sameO_cells,Bool.and_self]
  rw [endT_kept (s:=⟨t1.h,t1.n,minN y.m t1.m⟩) (kp _ _ _ p1 p2 (by simp only [find_cons,reduceIte,Nat.reduceEqDiff]) (by simp only [find_cons,reduceIte,Nat.reduceEqDiff])),endT_kept (kp4 _ _ _ y0 p1 (by simp only [find_cons,reduceIte,Nat.reduceEqDiff]) (by simp only [find_cons,reduceIte,Nat.reduceEqDiff]) (by simp only [find_cons,reduceIte,Nat.reduceEqDiff]) (by simp only [find_cons,reduceIte,Nat.reduceEqDiff]))]
  simp (disch:=first|omega|(with_unfolding_all exact rfl)|(simp only[new_n,put_n,new_m];omega)|(refine put_m_le ?_;simp only[new_m];omega)) only [res23,Abs.W,reduceIte,Nat.reduceEqDiff,Nat.reduceAdd,decide_true,decide_false,kLoop_def,Nat.reduceSub,List.cons_append,List.nil_append,List.append_nil,List.length_cons,List.length_nil,efs,endO_nil,regD_ok]
  have h1:=st1.m (show d≤far by omega)
  have h2:=st2.m (show d≤far by omega)
  have h3:=st3.m (show d≤minN (minN y.m t1.m) t2.m by rw [minN_eq,minN_eq];omega)
  have h4:t3.m≤minN (minN y.m t1.m) t2.m:=st3.mle
  rw [minN_eq,minN_eq] at h4
  refine ⟨_,_,rfl,⟨fun c hc hcd=>?_,?_,?_,fun _=>?_,?_⟩,rfl,⟨_,rfl,x3r.1,x3r.2⟩,d3⟩
  ·rw [st3.same c (by show c<t2.n+1;omega) hcd,get_new_ne _ _ _ (by show c≠t2.n;omega)]
   show t2.h.get c=_
   rw [st2.same c (by show c<t1.n;omega) hcd,st1.same c (by show c<y.n;omega) hcd]
   show y.h.get c=_
   rw [yg c hc]
  ·omega
  ·omega
  ·exact h3
  ·omega) (by omega)
 exact ⟨x,t,hr.symm.trans e,st,hd',q0,q1⟩
end Go.Proofs.Ytoolodjbfphkjaa.walk
set_option maxRecDepth 10000
namespace Go.Proofs.Ytoolodjbfphkjaa.walk
open Go.Abs Go.Proofs.Ytoolodjbfphkjaa.code
theorem once_ex {N d:Nat} {n:Int} {s:St} {r:ARes} (hr:call Try.prog X N (.fn 22) [.ptr d 0,.int .i64 n] s=r) (hN:3≤N) (hd:Die d s.h) (hlt:d<s.n) (hs:s.n+200≤far) (hn:n≤4000000000) :
  ∃ b t,r=.val (.bool b) t∧Stir d s t 0∧Die d t.h:=by
 obtain ⟨m,rfl⟩:∃ m,N=m+1:=⟨N - 1,by omega⟩
 have hf:far=1000000000:=rfl
 obtain ⟨v,t,e,st,⟨x,rfl⟩,hd'⟩:=call_stir_plain (n:=m) (args:=[.ptr d 0,.int .i64 n]) (d:=d) (k:=0) (Q:=fun v=>∃ b,v=.bool b) (R:=Die d) Try.func22 hd (fun u uh un um=>by
  rw [← uh] at hd
  rw [enter22]
  simp (disch:=first|omega|(with_unfolding_all exact rfl)|(simp only[new_n,put_n,new_m];omega)|(refine put_m_le ?_;simp only[new_m];omega)) only [res22,K22r0,K22r1,K22,Abs.W,reduceIte,Nat.reduceEqDiff,Nat.reduceAdd,decide_true,decide_false,kLoop_def,Nat.reduceSub,List.cons_append,List.nil_append,List.append_nil,List.length_cons,List.length_nil]
  generalize hc:call _ _ _ (.fn 18) _ _=r1
  obtain ⟨y,w,rfl,sw,dw,y0,y1⟩:=cast_ex hc (by omega) hd (by omega) (by omega) hn
  simp (disch:=first|omega|(with_unfolding_all exact rfl)|(simp only[new_n,put_n,new_m];omega)|(refine put_m_le ?_;simp only[new_m];omega)) only [res22,K22r0,K22r1,K22,Abs.W,reduceIte,Nat.reduceEqDiff,Nat.reduceAdd,decide_true,decide_false,kLoop_def,Nat.reduceSub,List.cons_append,List.nil_append,List.append_nil,List.length_cons,List.length_nil]
  exact ⟨_,_,rfl,sw,rfl,⟨_,rfl⟩,dw⟩) (by omega)
 exact ⟨x,t,hr.symm.trans e,st,hd'⟩
end Go.Proofs.Ytoolodjbfphkjaa.walk
set_option maxRecDepth 10000
namespace Go.Abs
theorem IsAt.apart {h:Heap} {n b w tg c o:Nat} {rows:List (List AV)} {v:AV} (r:IsAt h n b w tg rows v) (hc:b≠c):apartA v (.ptr c o)=true:=by
 rcases r.is with ⟨_,h2⟩ | ⟨_,_,h3,_⟩
 ·subst h2;rfl
 ·subst h3;exact apart_slice hc
theorem IsAt.keptV {h h' h'':Heap} {n b w tg:Nat} {rows:List (List AV)} {v:AV} (r:IsAt h n b w tg rows v) (hh:b<n→h''.get b=h'.get b) (h1:b<n→h'.get b=h.get b):Abs.keptV h' h'' v=true:=by
 rcases r.is with ⟨_,h2⟩ | ⟨_,h2,h3,h4⟩
 ·subst h2;exact keptV_nils _ _
 ·subst h3;rw [keptV_slice,hh h2,h1 h2,h4,sameO_cells]
theorem apart_ptr {b c o p:Nat} (h:b≠c):apartA (.ptr b o) (.ptr c p)=true:=by
 unfold apartA
 simp [blockOf,nbeq_f h]
def upd {α:Type} (f:Nat→α) (i:Nat) (x:α) (j:Nat):α:=if j=i then x else f j
theorem upd_at {α:Type} (f:Nat→α) (i:Nat) (x:α):upd f i x i=x:=if_pos rfl
theorem upd_ne {α:Type} (f:Nat→α) (i:Nat) (x:α) {j:Nat} (h:j≠i):upd f i x j=f j:=if_neg h
structure Lists (h:Heap) (n lo:Nat) (W T:Nat→Nat) (R:Nat→List (List AV)) (bs:Nat→Nat) (vs:Nat→AV):Prop where
 at_:∀ i,IsAt h n (bs i) (W i) (T i) (R i) (vs i)
 ne:∀ i j,i≠j→bs i≠bs j
 lo:∀ i,lo≤bs i
 far:∀ i,bs i<n∨Abs.far<bs i
theorem Lists.mono {h h':Heap} {n n' lo:Nat} {W T:Nat→Nat} {R:Nat→List (List AV)} {bs:Nat→Nat} {vs:Nat→AV} (l:Lists h n lo W T R bs vs) (hh:∀ i,bs i<n→h'.get (bs i)=h.get (bs i)) (hn:n≤n'):Lists h' n' lo W T R bs vs :=
 ⟨fun i=>(l.at_ i).mono (hh i) hn,l.ne,l.lo,fun i=>(l.far i).imp (fun h=>by omega) id⟩
theorem Lists.push {s:St} {lo:Nat} {W T:Nat→Nat} {R:Nat→List (List AV)} {bs:Nat→Nat} {vs:Nat→AV} (l:Lists s.h s.n lo W T R bs vs) (i:Nat) {p sz bytes:Nat} {row:List AV} (hp:s.h.get p=some (.cells row sz)) (hw:row.length=W i) (hsc:scalars row=true)
  (hb:((R i).length+1) * bytes≤1000000) (htg:szOf (W i+T i)=W i) (hs:s.n+10≤Abs.far) (hlo:lo≤s.n) :
  ∃ s' v',appendA false (W i) bytes (T i) s (vs i) (.slice p 0 1 1 false)=.val v' s'∧Lists s'.h s'.n lo W T (upd R i (R i++[row])) (upd bs i s.n) (upd vs i v')∧s'.n=s.n+1∧(∀ c,c<s.n→c≠bs i→s'.h.get c=s.h.get c)∧(∀ k,k≤lo→k≤s.m→k≤s'.m)∧s'.m≤s.m:=by
 have hf:Abs.far=1000000000:=rfl
 obtain ⟨s',e1,e2,e3,e4,e5,e6⟩:=append_at (bytes:=bytes) (l.at_ i) hp hw hsc hb htg (by omega)
 have hln:=l.lo i
 refine ⟨s',_,e1,⟨fun j=>?_,fun j k hjk=>?_,fun j=>?_,fun j=>?_⟩,e3,e4,fun k hk hm=>e5 k (by omega) (by omega) hm,e6⟩
 ·by_cases h:j=i
  ·subst h;simp only [upd_at];exact e2
  ·simp only [upd_ne _ _ _ h]
   exact (l.at_ j).mono (fun hj=>e4 _ hj (l.ne j i h)) (by omega)
 ·have hn:∀ j,bs j≠s.n:=fun j=>by rcases l.far j with h | h<;>omega
  by_cases h:j=i
  ·have h':k≠i:=fun e=>hjk (h.trans e.symm)
   subst h
   rw [upd_at,upd_ne _ _ _ h']
   exact fun e=>hn k e.symm
  ·by_cases h':k=i
   ·subst h'
    rw [upd_at,upd_ne _ _ _ h]
    exact hn j
   ·rw [upd_ne _ _ _ h,upd_ne _ _ _ h']
    exact l.ne j k hjk
 ·by_cases h:j=i
  ·subst h;rw [upd_at];exact hlo
  ·rw [upd_ne _ _ _ h];exact l.lo j
 ·by_cases h:j=i
  ·subst h;rw [upd_at];exact .inl (by omega)
  ·rw [upd_ne _ _ _ h];exact (l.far j).imp (fun h=>by omega) id
end Go.Abs
namespace Go.Proofs.Ytoolodjbfphkjaa.walk
open Go.Abs Go.Proofs.Ytoolodjbfphkjaa.code
theorem Die.new {d:Nat} {s:St} (h:Die d s.h) (hd:d<s.n) (o:AObj):Die d (s.new o).h:=by obtain ⟨f,hf⟩:=h;exact ⟨f,by rw [get_new_ne _ _ _ (by omega)];exact hf⟩
theorem Die.put {d b:Nat} {s:St} (h:Die d s.h) (hd:d≠b) (o:AObj):Die d (s.put b o).h:=by obtain ⟨f,hf⟩:=h;exact ⟨f,by rw [get_put_ne' _ _ _ _ hd];exact hf⟩
theorem Die.keep {d:Nat} {h h':Heap} (D:Die d h) (e:h'.get d=h.get d):Die d h':=by obtain ⟨f,hf⟩:=D;exact ⟨f,by rw [e];exact hf⟩
def benchW:Nat→Nat
 | 0=>3
 | 1=>4
 | 2=>4
 | 3=>4
 | _=>1
def benchT:Nat→Nat
 | 0=>tag 65
 | 1=>tag 70
 | 2=>tag 68
 | 3=>tag 72
 | 4=>tag 3
 | _=>tag 22
def benchR (b:Bench) (offs:List Int) (rv:List AV):Nat→List (List AV)
 | 0=>b.ms.map Mass.cells
 | 1=>b.ws.map Weigh.cells
 | 2=>b.ss.map Scl.cells
 | 3=>b.ts.map Trial.cells
 | 4=>intRows offs
 | 5=>rv.map fun v=>[v]
 | _=>[]
structure Made (h:Heap) (n d p13 p14 lo:Nat) (b:Bench) (offs:List Int) (errs:List (List Int)) (rv:List AV) (xs:List Nat) (bs:Nat→Nat) (vs:Nat→AV):Prop where
 die:Die d h
 g13:h.get p13=some (.cells [vs 0,vs 1,vs 2,vs 3,.int .i64 b.days] (tag 28))
 g14:h.get p14=some (.cells [vs 4,vs 5] (tag 31))
 ls:Lists h n lo benchW benchT (benchR b offs rv) bs vs
 el:rv.length=errs.length
 xl:xs.length=errs.length
 er:∀ j (h1:j<rv.length) (h2:j<errs.length) (h3:j<xs.length),Blk h n xs[j] 1 (tag 3) (intRows errs[j]) rv[j]
 xo:∀ x ∈ xs,lo≤x∧∀ i,bs i≠x
 pl:d<p13∧p13<p14∧p14<lo∧lo≤n
structure Goes (u t:St) (d p13 p14 lo k:Nat):Prop where
 same:∀ c,c<lo→c≠d→c≠p13→c≠p14→t.h.get c=u.h.get c
 n:u.n≤t.n
 le:t.n≤u.n+k
 m:d≤u.m→d≤t.m
 mle:t.m≤u.m
theorem Goes.refl (u:St) (d p13 p14 lo:Nat):Goes u u d p13 p14 lo 0:=⟨fun _ _ _ _ _=>rfl,Nat.le_refl _,Nat.le_refl _,fun h=>h,Nat.le_refl _⟩
theorem Goes.trans {u s t:St} {d p13 p14 lo j k:Nat} (a:Goes u s d p13 p14 lo j) (b:Goes s t d p13 p14 lo k):Goes u t d p13 p14 lo (j+k) :=
 ⟨fun c h1 h2 h3 h4=>(b.same c h1 h2 h3 h4).trans (a.same c h1 h2 h3 h4),Nat.le_trans a.n b.n,by have:=a.le;have:=b.le;omega,fun h=>b.m (a.m h),Nat.le_trans b.mle a.mle⟩
theorem Goes.mono {u t:St} {d p13 p14 lo j k:Nat} (a:Goes u t d p13 p14 lo j) (h:j≤k):Goes u t d p13 p14 lo k:=⟨a.same,a.n,by have:=a.le;omega,a.m,a.mle⟩
end Go.Proofs.Ytoolodjbfphkjaa.walk
set_option maxRecDepth 10000
namespace Go.Proofs.Ytoolodjbfphkjaa.walk
open Go.Abs Go.Proofs.Ytoolodjbfphkjaa.code
theorem Made.keep {h h':Heap} {n n' d p13 p14 lo:Nat} {b:Bench} {offs:List Int} {errs:List (List Int)} {rv:List AV} {xs:List Nat} {bs:Nat→Nat} {vs:Nat→AV} (m:Made h n d p13 p14 lo b offs errs rv xs bs vs) (D:Die d h') (hh:∀ c,c<n→c≠d→h'.get c=h.get c) (hn:n≤n'):Made h' n' d p13 p14 lo b offs errs rv xs bs vs:=by
 obtain ⟨m1,m2,m3,m4,m5,m6,m7,m8,m9⟩:=m
 have hd:∀ c,lo≤c→c≠d:=fun c hc=>by omega
 refine ⟨D,by rw [hh _ (by omega) (by omega)];exact m2,by rw [hh _ (by omega) (by omega)];exact m3,m4.mono (fun i hi=>hh _ hi (hd _ (m4.lo i))) hn,m5,m6,fun j h1 h2 h3=>?_,m8,by omega⟩
 have k1:=m7 j h1 h2 h3
 exact k1.mono (hh _ k1.lt (hd _ (m8 _ (List.getElem_mem h3)).1)) hn
theorem Made.keep' {h h':Heap} {n n' d p13 p14 lo q:Nat} {b:Bench} {offs:List Int} {errs:List (List Int)} {rv:List AV} {xs:List Nat} {bs:Nat→Nat} {vs:Nat→AV} (m:Made h n d p13 p14 lo b offs errs rv xs bs vs) (D:Die d h') (hh:∀ c,c<n→c≠d→c≠q→h'.get c=h.get c) (hn:n≤n') (hq:lo≤q∧(∀ i,bs i≠q)∧∀ x ∈ xs,x≠q):Made h' n' d p13 p14 lo b offs errs rv xs bs vs:=by
 obtain ⟨m1,m2,m3,m4,m5,m6,m7,m8,m9⟩:=m
 have hd:∀ c,lo≤c→c≠d:=fun c hc=>by omega
 refine ⟨D,by rw [hh _ (by omega) (by omega) (by omega)];exact m2,by rw [hh _ (by omega) (by omega) (by omega)];exact m3,m4.mono (fun i hi=>hh _ hi (hd _ (m4.lo i)) (hq.2.1 i)) hn,m5,m6,fun j h1 h2 h3=>?_,m8,by omega⟩
 have k1:=m7 j h1 h2 h3
 exact k1.mono (hh _ k1.lt (hd _ (m8 _ (List.getElem_mem h3)).1) (hq.2.2 _ (List.getElem_mem h3))) hn
theorem made_mass (N:Nat) (hN:6≤N) (cx:Ctx) {d p13 p14 lo i:Nat} {b:Bench} {offs:List Int} {errs:List (List Int)} {rv:List AV} {xs:List Nat} {bs:Nat→Nat} {vs:Nat→AV} {L:Env} {s:St} (hi:0<i) (hi6:i≤10) (hs:s.n+2000≤far)
  (hM:Made s.h s.n d p13 p14 lo b offs errs rv xs bs vs) (hbl:b.ms.length≤10) (hol:offs.length≤10) (l0:L.find 0=.ptr d 0) (l13:L.find 13=.ptr p13 0) (l14:L.find 14=.ptr p14 0) (l15:L.find 15=.int .i64 i) :
  ∃ L1 s1 M x bs1 vs1,K5l0 (call Try.prog X N) cx L [] s=.done .norm L1 [] s1∧(∀ t,t=0∨t=2∨t=3∨t=10∨t=11∨t=12∨t=13∨t=14→L1.find t=L.find t)∧L1.find 15=.int .i64 ((i:Int) - 1)∧M.Ok∧(M.lo≤x∧x≤M.hi ∧ -20≤x∧x≤20) ∧
   Made s1.h s1.n d p13 p14 lo { b with ms:=b.ms++[M] } (offs++[x]) errs rv xs bs1 vs1∧Goes s s1 d p13 p14 lo 30:=by
 have hf:far=1000000000:=rfl
 have e0:decide ((0:Int)<(i:Int))=true:=by simp;omega
 obtain ⟨pd,pp,plo,pn⟩:=hM.pl
 have hd:=hM.die
 simp (disch:=first|omega|(with_unfolding_all exact rfl)|(simp only[new_n,put_n,new_m];omega)|(refine put_m_le ?_;simp only[new_m];omega)) only [res5,K5r0,K5r1,K5r2,K5r3,K5r4,K5r5,K5r6,K5r7,K5r8,K5r9,K5l0,K5r10,K5r11,K5r12,K5r13,K5r14,K5r15,K5r16,K5r17,K5l1,K5r18,K5r19,K5l2,K5r20,K5r21s7,K5r21s6,K5r21s5,K5r21s4,K5r21,K5r22,K5r23,K5r24,K5r25,K5r26,K5l3,K5r27,K5r28,K5r29,K5r30,K5r31,K5r32,K5l4,K5r33,K5r34s7,K5r34s6,K5r34,K5r35,K5r36,K5r37,K5r38,K5,Abs.W,reduceIte,Nat.reduceEqDiff,Nat.reduceAdd,decide_true,decide_false,kLoop_def,Nat.reduceSub,List.cons_append,List.nil_append,List.append_nil,List.length_cons,List.length_nil,efs,l0,l13,l14,l15,e0]
 generalize hc1:call _ _ _ (.fn 21) _ _=r1
 obtain ⟨x1,t1,rfl,st1,d1,m1⟩:=one_ex [3,20] hc1 (by omega) (hd.new (by omega) _) (by simp only [new_n];omega) (by simp only [new_n];omega) (get_new_eq _ _ _ rfl (by omega)) (by simp only [new_n];omega) (by omega) rfl (by omega) (by omega)
 have x1r:x1=3∨x1=20:=by simpa using m1
 have n1:s.n+1≤t1.n:=st1.n
 have k1:t1.n≤s.n+1:=st1.le
 have ng:∀ s,negA s (.int .i64 x1)=.val (.int .i64 (-x1)) s:=fun s=>neg_i64 s _ (by omega)
 simp (disch:=first|omega|(with_unfolding_all exact rfl)|(simp only[new_n,put_n,new_m];omega)|(refine put_m_le ?_;simp only[new_m];omega)) only [res5,K5r0,K5r1,K5r2,K5r3,K5r4,K5r5,K5r6,K5r7,K5r8,K5r9,K5l0,K5r10,K5r11,K5r12,K5r13,K5r14,K5r15,K5r16,K5r17,K5l1,K5r18,K5r19,K5l2,K5r20,K5r21s7,K5r21s6,K5r21s5,K5r21s4,K5r21,K5r22,K5r23,K5r24,K5r25,K5r26,K5l3,K5r27,K5r28,K5r29,K5r30,K5r31,K5r32,K5l4,K5r33,K5r34s7,K5r34s6,K5r34,K5r35,K5r36,K5r37,K5r38,K5,Abs.W,reduceIte,Nat.reduceEqDiff,Nat.reduceAdd,decide_true,decide_false,kLoop_def,Nat.reduceSub,List.cons_append,List.nil_append,List.append_nil,List.length_cons,List.length_nil,efs,l0,l13,l14,l15,ng]
 generalize hc2:call _ _ _ (.fn 21) _ _=r2
 obtain ⟨x2,t2,rfl,st2,d2,m2⟩:=one_ex [3,20] hc2 (by omega) (d1.new (by omega) _) (by simp only [new_n];omega) (by simp only [new_n];omega) (get_new_eq _ _ _ rfl (by omega)) (by simp only [new_n];omega) (by omega) rfl (by omega) (by omega)
 have x2r:x2=3∨x2=20:=by simpa using m2
 have n2:t1.n+1≤t2.n:=st2.n
 have k2:t2.n≤t1.n+1:=st2.le
 simp (disch:=first|omega|(with_unfolding_all exact rfl)|(simp only[new_n,put_n,new_m];omega)|(refine put_m_le ?_;simp only[new_m];omega)) only [res5,K5r0,K5r1,K5r2,K5r3,K5r4,K5r5,K5r6,K5r7,K5r8,K5r9,K5l0,K5r10,K5r11,K5r12,K5r13,K5r14,K5r15,K5r16,K5r17,K5l1,K5r18,K5r19,K5l2,K5r20,K5r21s7,K5r21s6,K5r21s5,K5r21s4,K5r21,K5r22,K5r23,K5r24,K5r25,K5r26,K5l3,K5r27,K5r28,K5r29,K5r30,K5r31,K5r32,K5l4,K5r33,K5r34s7,K5r34s6,K5r34,K5r35,K5r36,K5r37,K5r38,K5,Abs.W,reduceIte,Nat.reduceEqDiff,Nat.reduceAdd,decide_true,decide_false,kLoop_def,Nat.reduceSub,List.cons_append,List.nil_append,List.append_nil,List.length_cons,List.length_nil,efs,l0,l13,l14,l15]
 generalize hc3:call _ _ _ (.fn 20) _ _=r3
 obtain ⟨a,c,t3,rfl,st3,d3,a0,a1,a2⟩:=span_ex hc3 (by omega) d2 (by omega) (by omega) (by omega) (by omega) (by omega)
 have n3:t2.n≤t3.n:=st3.n
 have k3:t3.n≤t2.n+2:=st3.le
 simp (disch:=first|omega|(with_unfolding_all exact rfl)|(simp only[new_n,put_n,new_m];omega)|(refine put_m_le ?_;simp only[new_m];omega)) only [res5,K5r0,K5r1,K5r2,K5r3,K5r4,K5r5,K5r6,K5r7,K5r8,K5r9,K5l0,K5r10,K5r11,K5r12,K5r13,K5r14,K5r15,K5r16,K5r17,K5l1,K5r18,K5r19,K5l2,K5r20,K5r21s7,K5r21s6,K5r21s5,K5r21s4,K5r21,K5r22,K5r23,K5r24,K5r25,K5r26,K5l3,K5r27,K5r28,K5r29,K5r30,K5r31,K5r32,K5l4,K5r33,K5r34s7,K5r34s6,K5r34,K5r35,K5r36,K5r37,K5r38,K5,Abs.W,reduceIte,Nat.reduceEqDiff,Nat.reduceAdd,decide_true,decide_false,kLoop_def,Nat.reduceSub,List.cons_append,List.nil_append,List.append_nil,List.length_cons,List.length_nil,efs,l0,l13,l14,l15,Nat.zero_add]
 obtain ⟨y,hy⟩:∃ y:St,y=(t3.new (.cells [.int .i64 0,.int .i64 0] (tag 60))).put t3.n (.cells [.int .i64 a,.int .i64 c] (tag 60)):=⟨_,rfl⟩
 rw [← hy]
 have yn:y.n=t3.n+1:=by rw [hy];rfl
 have ym:y.m=min t3.m t3.n:=by rw [hy];simp only [St.put,minN_eq,new_m]
 have yg:∀ c,c≠t3.n→y.h.get c=t3.h.get c:=fun c hc=>by rw [hy,get_put_ne' _ _ _ _ hc,get_new_ne _ _ _ hc]
 have yp:y.h.get t3.n=some (.cells [.int .i64 a,.int .i64 c] (tag 60)):=by rw [hy];exact get_put_eq _ _ _ _ rfl (by omega)
 have dy:Die d y.h:=d3.keep (yg _ (by omega))
 generalize hc4:call _ _ _ (.fn 22) _ _=r4
 obtain ⟨q,t4,rfl,st4,d4⟩:=once_ex hc4 (by omega) dy (by omega) (by omega) (by omega)
 have n4:y.n≤t4.n:=st4.n
 have k4:t4.n≤y.n:=st4.le
 -- behind the choice
 have hch:∃ (z:St) (oa ob:Int),condK (.bool q) (kRegion K5r7 []) kSkip (call Try.prog X N) cx (((L.set 38 (.bool true)).set 16 (.ptr t3.n 0)).set 51 (.bool q)) [] t4=.done .norm (((L.set 38 (.bool true)).set 16 (.ptr t3.n 0)).set 51 (.bool q)) [] z∧z.n=t4.n∧(∀ c,c≠t3.n→z.h.get c=t4.h.get c)∧z.h.get t3.n=some (.cells [.int .i64 oa,.int .i64 ob] (tag 60)) ∧ -20≤oa∧oa≤ob∧ob≤20∧(d≤t4.m→d≤z.m)∧z.m≤t4.m:=by
  have p4:=(st4.same t3.n (by omega) (by omega)).trans yp
  cases q with
  | true =>
   refine ⟨t4.put t3.n (.cells [.int .i64 0,.int .i64 0] (tag 60)),0,0,?_,rfl,fun c hc=>get_put_ne' _ _ _ _ hc,get_put_eq _ _ _ _ rfl (by omega),by omega,by omega,by omega,fun h=>?_,?_⟩
   ·simp (disch:=first|omega|(with_unfolding_all exact rfl)|(simp only[new_n,put_n,new_m];omega)|(refine put_m_le ?_;simp only[new_m];omega)) only [K5r7,Abs.W,reduceIte,Nat.reduceEqDiff,Nat.reduceAdd,decide_true,decide_false,kLoop_def,Nat.reduceSub,List.cons_append,List.nil_append,List.append_nil,List.length_cons,List.length_nil,efs,p4]
   ·simp only [St.put,minN_eq];omega
   ·simp only [St.put,minN_eq];omega
  | false =>
   refine ⟨t4,a,c,?_,rfl,fun _ _=>rfl,p4,by omega,by omega,by omega,fun h=>h,Nat.le_refl _⟩
   simp (disch:=first|omega|(with_unfolding_all exact rfl)|(simp only[new_n,put_n,new_m];omega)|(refine put_m_le ?_;simp only[new_m];omega)) only [K5r7,Abs.W,reduceIte,Nat.reduceEqDiff,Nat.reduceAdd,decide_true,decide_false,kLoop_def,Nat.reduceSub,List.cons_append,List.nil_append,List.append_nil,List.length_cons,List.length_nil,efs]
 obtain ⟨z,oa,ob,hch,zn,zg,zp,o0,o1,o2,zm,zml⟩:=hch
 simp only [K5r7] at hch
 simp (disch:=first|omega|(with_unfolding_all exact rfl)|(simp only[new_n,put_n,new_m];omega)|(refine put_m_le ?_;simp only[new_m];omega)) only [Abs.W,reduceIte,Nat.reduceEqDiff,Nat.reduceAdd,decide_true,decide_false,kLoop_def,Nat.reduceSub,List.cons_append,List.nil_append,List.append_nil,List.length_cons,List.length_nil,efs]
 rw [hch]
 have hMz:Made z.h z.n d p13 p14 lo b offs errs rv xs bs vs:=by
  refine hM.keep ?_ (fun c hc hcd=>?_) (by omega)
  ·exact d4.keep (zg _ (by omega))
  ·rw [zg c (by omega),st4.same c (by omega) hcd,yg c (by omega),st3.same c (by omega) hcd,st2.same c (by simp only [new_n];omega) hcd,get_new_ne _ _ _ (by omega),st1.same c (by simp only [new_n];omega) hcd,get_new_ne _ _ _ (by omega)]
 obtain ⟨dz,z13,z14,lz,el,xl,er,xo,_⟩:=hMz
 have okm:=(lz.at_ 0).okA
 have oko:=(lz.at_ 4).okA
 simp (disch:=first|omega|(with_unfolding_all exact rfl)|(simp only[new_n,put_n,new_m];omega)|(refine put_m_le ?_;simp only[new_m];omega)) only [res5,K5r0,K5r1,K5r2,K5r3,K5r4,K5r5,K5r6,K5r7,K5r8,K5r9,K5l0,K5r10,K5r11,K5r12,K5r13,K5r14,K5r15,K5r16,K5r17,K5l1,K5r18,K5r19,K5l2,K5r20,K5r21s7,K5r21s6,K5r21s5,K5r21s4,K5r21,K5r22,K5r23,K5r24,K5r25,K5r26,K5l3,K5r27,K5r28,K5r29,K5r30,K5r31,K5r32,K5l4,K5r33,K5r34s7,K5r34s6,K5r34,K5r35,K5r36,K5r37,K5r38,K5,Abs.W,reduceIte,Nat.reduceEqDiff,Nat.reduceAdd,decide_true,decide_false,kLoop_def,Nat.reduceSub,List.cons_append,List.nil_append,List.append_nil,List.length_cons,List.length_nil,efs,l0,l13,l14,l15,z13,z14,zp,okm,oko,Nat.zero_add]
 have bsf:∀ j,bs j<s.n∨far<bs j:=hM.ls.far
 have bsl:∀ j,lo≤bs j:=hM.ls.lo
 obtain ⟨y2,hy2⟩:∃ y2:St,y2=z.new (.cells [.int .i64 5,.int .i64 500,.int .i64 1000] 0):=⟨_,rfl⟩
 rw [← hy2]
 have y2n:y2.n=z.n+1:=by rw [hy2];rfl
 have y2m:y2.m=z.m:=by rw [hy2];rfl
 have y2g:∀ c,c<z.n→y2.h.get c=z.h.get c:=fun c hc=>by rw [hy2,get_new_ne _ _ _ (by omega)]
 have y2p:y2.h.get z.n=some (.cells ([5,500,1000].map fun x=>AV.int .i64 x) 0):=by rw [hy2];exact get_new_eq _ _ _ rfl (by omega)
 generalize hc5:call _ _ _ (.fn 21) _ _=r5
 obtain ⟨nom,t5,rfl,st5,d5,m5⟩:=one_ex [5,500,1000] hc5 (by omega) (dz.keep (y2g d (by omega))) (by show d<y2.n;omega) (by show y2.n+200≤far;omega) y2p (by show z.n<y2.n;omega) (by omega) rfl (by omega) (by omega)
 have nomr:nom=5∨nom=500∨nom=1000:=by simpa using m5
 have n5:y2.n≤t5.n:=st5.n
 have k5:t5.n≤y2.n:=st5.le
 have g5:∀ c,c<z.n→c≠d→t5.h.get c=z.h.get c:=fun c hc hcd=>(st5.same c (by show c<y2.n;omega) hcd).trans (y2g c hc)
 have p5:=(g5 t3.n (by omega) (by omega)).trans zp
 simp (disch:=first|omega|(with_unfolding_all exact rfl)|(simp only[new_n,put_n,new_m];omega)|(refine put_m_le ?_;simp only[new_m];omega)) only [thenT_turn,Abs.W,reduceIte,Nat.reduceEqDiff,Nat.reduceAdd,decide_true,decide_false,kLoop_def,Nat.reduceSub,List.cons_append,List.nil_append,List.append_nil,List.length_cons,List.length_nil,efs,p5,Nat.zero_add]
 obtain ⟨y6,hy6⟩:∃ y6:St,y6=(⟨t5.h,t5.n,minN y2.m t5.m⟩:St).new (.cells [.int .i64 nom,.int .i64 oa,.int .i64 ob] 0):=⟨_,rfl⟩
 rw [← hy6]
 have y6n:y6.n=t5.n+1:=by rw [hy6];rfl
 have y6m:y6.m=min y2.m t5.m:=by rw [hy6];simp only [St.new,minN_eq]
 have y6g:∀ c,c<t5.n→y6.h.get c=t5.h.get c:=fun c hc=>by rw [hy6];exact get_new_ne _ _ _ (by show c≠t5.n;omega)
 have y6p:y6.h.get t5.n=some (.cells [.int .i64 nom,.int .i64 oa,.int .i64 ob] 0):=by rw [hy6];exact get_new_eq _ _ _ rfl (by show t5.n<_;omega)
 have l6:Lists y6.h y6.n lo benchW benchT (benchR b offs rv) bs vs:=lz.mono (fun j hj=>(y6g _ (by omega)).trans (g5 _ hj (by have:=bsl j;omega))) (by omega)
 obtain ⟨s7,v7,e7,l7,s7n,s7g,s7m,s7l⟩:=l6.push 0 (bytes:=24) y6p rfl rfl (by show ((b.ms.map Mass.cells).length+1) * 24≤1000000;rw [List.length_map];omega) (by kernel_rfl) (by omega) (by omega)
 have e7':appendA false 3 24 (tag 65) y6 (vs 0) (.slice t5.n 0 1 1 false)=.val v7 s7:=e7
 have n0:∀ c,c<lo→c≠bs 0:=fun c hc=>by have:=bsl 0;omega
 have g7:∀ c,c<z.n→c≠d→c≠bs 0→s7.h.get c=z.h.get c:=fun c h1 h2 h3=>(s7g c (by omega) h3).trans ((y6g c (by omega)).trans (g5 c h1 h2))
 have g714:=(g7 p14 (by omega) (by omega) (n0 _ (by omega))).trans z14
 have t3b:t3.n≠bs 0:=by have:=bsf 0;omega
 have g716:=(g7 t3.n (by omega) (by omega) t3b).trans zp
 simp (disch:=first|omega|(with_unfolding_all exact rfl)|(simp only[new_n,put_n,new_m];omega)|(refine put_m_le ?_;simp only[new_m];omega)) only [Abs.W,reduceIte,Nat.reduceEqDiff,Nat.reduceAdd,decide_true,decide_false,kLoop_def,Nat.reduceSub,List.cons_append,List.nil_append,List.append_nil,List.length_cons,List.length_nil,efs,e7',l14,g714,oko,l0,g716,Nat.zero_add]
 generalize hc8:call _ _ _ (.fn 23) _ _=r8
 have d7:Die d s7.h:=d5.keep ((s7g d (by omega) (n0 _ (by omega))).trans (y6g d (by omega)))
 obtain ⟨x,t8,rfl,st8,d8,x0,x1'⟩:=true_ex hc8 (by omega) d7 (by show d<s7.n;omega) (by show s7.n+600≤far;omega) (by omega) (by omega) (by omega)
 have n8:s7.n≤t8.n:=st8.n
 have k8:t8.n≤s7.n+3:=st8.le
 have g8:∀ c,c<s7.n→c≠d→t8.h.get c=s7.h.get c:=fun c hc hcd=>st8.same c hc hcd
 simp (disch:=first|omega|(with_unfolding_all exact rfl)|(simp only[new_n,put_n,new_m];omega)|(refine put_m_le ?_;simp only[new_m];omega)) only [thenT_turn,Abs.W,reduceIte,Nat.reduceEqDiff,Nat.reduceAdd,decide_true,decide_false,kLoop_def,Nat.reduceSub,List.cons_append,List.nil_append,List.append_nil,List.length_cons,List.length_nil,efs,Nat.zero_add]
 obtain ⟨y9,hy9⟩:∃ y9:St,y9=(⟨t8.h,t8.n,minN s7.m t8.m⟩:St).new (.cells [.int .i64 x] 0):=⟨_,rfl⟩
 rw [← hy9]
 have y9n:y9.n=t8.n+1:=by rw [hy9];rfl
 have y9m:y9.m=min s7.m t8.m:=by rw [hy9];simp only [St.new,minN_eq]
 have y9g:∀ c,c<t8.n→y9.h.get c=t8.h.get c:=fun c hc=>by rw [hy9];exact get_new_ne _ _ _ (by show c≠t8.n;omega)
 have y9p:y9.h.get t8.n=some (.cells [.int .i64 x] 0):=by rw [hy9];exact get_new_eq _ _ _ rfl (by show t8.n<_;omega)
 have l9:=l7.mono (h':=y9.h) (n':=y9.n) (fun j hj=>(y9g _ (by omega)).trans (g8 _ hj (by have:=l7.lo j;omega))) (by omega)
 obtain ⟨s10,v10,e10,l10,s10n,s10g,s10m,s10l⟩:=l9.push 4 (bytes:=8) y9p rfl rfl (by rw [upd_ne _ _ _ (by omega)];show ((intRows offs).length+1) * 8≤1000000;rw [intRows_len];omega) (by kernel_rfl) (by omega) (by omega)
 rw [upd_ne _ _ _ (by omega)] at e10
 have e10':appendA false 1 8 (tag 3) y9 (vs 4) (.slice t8.n 0 1 1 false)=.val v10 s10:=e10
 have hb4:upd bs 0 y6.n 4=bs 4:=upd_ne _ _ _ (by omega)
 rw [hb4] at s10g
 have n4':∀ c,c<lo→c≠bs 4:=fun c hc=>by have:=bsl 4;omega
 have g10:∀ c,c<z.n→c≠d→c≠bs 0→c≠bs 4→s10.h.get c=z.h.get c:=fun c h1 h2 h3 h4=>(s10g c (by omega) h4).trans ((y9g c (by omega)).trans ((g8 c (by omega) h2).trans (g7 c h1 h2 h3)))
 have q13:=(g10 p13 (by omega) (by omega) (n0 _ (by omega)) (n4' _ (by omega))).trans z13
 have q14:=(g10 p14 (by omega) (by omega) (n0 _ (by omega)) (n4' _ (by omega))).trans z14
 have sc7:=(l10.at_ 0).scal
 rw [upd_ne _ _ _ (by omega),upd_at] at sc7
 have sc10:=(l10.at_ 4).scal
 rw [upd_at] at sc10
 obtain ⟨sc71,sc72⟩:=sc7
 obtain ⟨sc101,sc102⟩:=sc10
 have asb:∀ s,aSub s .i64 (i:Int) 1=.val (.int .i64 ((i:Int) - 1)) s:=fun s=>aSub_i64 s _ _ (by omega)
 simp (disch:=first|omega|(with_unfolding_all exact rfl)|(simp only[new_n,put_n,new_m];omega)|(refine put_m_le ?_;simp only[new_m];omega)) only [Abs.W,reduceIte,Nat.reduceEqDiff,Nat.reduceAdd,decide_true,decide_false,kLoop_def,Nat.reduceSub,List.cons_append,List.nil_append,List.append_nil,List.length_cons,List.length_nil,efs,e10',l13,l14,q13,q14,sc71,sc72,sc101,sc102,Nat.zero_add]
 rw [endT_kept (l:=[62]) (s':=t8) (by simp only [keptAll_cons,keptAll_nil,find_cons,keptV_ptr,g714,g8 p14 (by omega) (by omega),sameO_cells,reduceIte,Nat.reduceEqDiff,Bool.and_self])]
 rw [endT_kept (l:=[53,16,62,16]) (s':=t5) (by simp only [keptAll_cons,keptAll_nil,find_cons,efs,keptV_ptr,y2g p13 (by omega),y2g p14 (by omega),y2g t3.n (by omega),g5 p13 (by omega) (by omega),g5 p14 (by omega) (by omega),g5 t3.n (by omega) (by omega),z13,z14,zp,sameO_cells,reduceIte,Nat.reduceEqDiff,Bool.and_self])]
 rw [endO_ok _ (by
  rw [endOk_cons,endOk_cons,endOk_nil]
  all_goals
   simp only [find_cons,efs,reduceIte,Nat.reduceEqDiff]
   first
    | exact (lz.at_ 0).apart (fun e=>n0 p14 (by omega) e.symm)
    | exact (lz.at_ 0).apart (fun e=>t3b e.symm))]
 simp (disch:=first|omega|(with_unfolding_all exact rfl)|(simp only[new_n,put_n,new_m];omega)|(refine put_m_le ?_;simp only[new_m];omega)) only [res5,K5r0,K5r1,K5r2,K5r3,K5r4,K5r5,K5r6,K5r7,K5r8,K5r9,K5l0,K5r10,K5r11,K5r12,K5r13,K5r14,K5r15,K5r16,K5r17,K5l1,K5r18,K5r19,K5l2,K5r20,K5r21s7,K5r21s6,K5r21s5,K5r21s4,K5r21,K5r22,K5r23,K5r24,K5r25,K5r26,K5l3,K5r27,K5r28,K5r29,K5r30,K5r31,K5r32,K5l4,K5r33,K5r34s7,K5r34s6,K5r34,K5r35,K5r36,K5r37,K5r38,K5,Abs.W,reduceIte,Nat.reduceEqDiff,Nat.reduceAdd,decide_true,decide_false,kLoop_def,Nat.reduceSub,List.cons_append,List.nil_append,List.append_nil,List.length_cons,List.length_nil,efs,l15,asb]
 generalize hsf:St.put (St.put s10 _ _) _ _=sf
 have sfn:sf.n=s10.n:=by rw [← hsf];rfl
 have sfm:sf.m=min (min s10.m p13) p14:=by rw [← hsf];simp only [St.put,minN_eq]
 have sfg:∀ c,c≠p13→c≠p14→sf.h.get c=s10.h.get c:=fun c h1 h2=>by rw [← hsf,get_put_ne' _ _ _ _ h2,get_put_ne' _ _ _ _ h1]
 have sf13:sf.h.get p13=some (.cells [v7,vs 1,vs 2,vs 3,.int .i64 b.days] (tag 28)):=by rw [← hsf,get_put_ne' _ _ _ _ (by omega)];exact get_put_eq _ _ _ _ rfl (by omega)
 have sf14:sf.h.get p14=some (.cells [v10,vs 5] (tag 31)):=by rw [← hsf];exact get_put_eq _ _ _ _ rfl (by omega)
 have dsf:Die d sf.h:=d8.keep ((sfg d (by omega) (by omega)).trans ((s10g d (by omega) (n4' _ (by omega))).trans (y9g d (by omega))))
 have xlt:∀ j (h:j<xs.length),xs[j]<z.n:=fun j h=>(er j (by omega) (by omega) h).lt
 obtain ⟨M,hMd⟩:∃ M:Mass,M=⟨nom,oa,ob⟩:=⟨_,rfl⟩
 have hMc:M.cells=[.int .i64 nom,.int .i64 oa,.int .i64 ob]:=by rw [hMd];rfl
 have hfun:upd (upd (benchR b offs rv) 0 (benchR b offs rv 0++[[.int .i64 nom,.int .i64 oa,.int .i64 ob]])) 4 (upd (benchR b offs rv) 0 (benchR b offs rv 0++[[.int .i64 nom,.int .i64 oa,.int .i64 ob]]) 4++[[.int .i64 x]])=benchR { b with ms:=b.ms++[M] } (offs++[x]) rv:=by
  funext j
  match j with
  | 0 =>
   show b.ms.map Mass.cells++[_]=(b.ms++[M]).map Mass.cells
   rw [List.map_append,List.map_cons,List.map_nil,hMc]
  | 1=>rfl
  | 2=>rfl
  | 3=>rfl
  | 4 =>
   show intRows offs++[_]=intRows (offs++[x])
   rw [intRows_snoc]
  | 5=>rfl
  | n+6=>rfl
 rw [hfun] at l10
 refine ⟨_,sf,M,x,_,_,rfl,fun t ht=>?_,?_,?_,?_,⟨dsf,?_,?_,l10.mono (fun j hj=>sfg _ (by have:=l10.lo j;omega) (by have:=l10.lo j;omega)) (by omega),el,xl,fun j h1 h2 h3=>?_,fun c hc=>⟨(xo c hc).1,fun j=>?_⟩,⟨pd,pp,plo,by omega⟩⟩,⟨fun c h1 h2 h3 h4=>?_,by omega,by omega,fun h=>?_,?_⟩⟩
 ·rcases ht with rfl | rfl | rfl | rfl | rfl | rfl | rfl | rfl<;>simp only [efs,reduceIte,Nat.reduceEqDiff]
 ·simp only [efs,reduceIte,Nat.reduceEqDiff]
 ·rw [hMd];exact ⟨by simp only;omega,by simp only;omega,by simp only;omega,o1,by simp only;omega⟩
 ·rw [hMd];exact ⟨x0,x1',by omega,by omega⟩
 ·rw [upd_ne _ _ _ (by omega),upd_at,upd_ne _ _ _ (by omega),upd_ne _ _ _ (by omega),upd_ne _ _ _ (by omega),upd_ne _ _ _ (by omega),upd_ne _ _ _ (by omega),upd_ne _ _ _ (by omega)];exact sf13
 ·rw [upd_at,upd_ne _ _ _ (by omega),upd_ne _ _ _ (by omega)];exact sf14
 ·have w1:=er j h1 h2 h3
  have w3:=xo _ (List.getElem_mem h3)
  exact w1.mono ((sfg _ (by omega) (by omega)).trans (g10 _ w1.lt (by omega) (fun e=>w3.2 0 e.symm) (fun e=>w3.2 4 e.symm))) (by omega)
 ·obtain ⟨k,hk,rfl⟩:=List.getElem_of_mem hc
  have:=xlt k hk
  unfold upd
  split
  ·omega
  ·split
   ·omega
   ·exact (xo _ hc).2 j
 ·have b0:=n0 c h1
  have b4:=n4' c h1
  rw [sfg c h3 h4,g10 c (by omega) h2 b0 b4,zg c (by omega),st4.same c (by omega) h2,yg c (by omega),st3.same c (by omega) h2,st2.same c (by simp only [new_n];omega) h2,get_new_ne _ _ _ (by omega),st1.same c (by simp only [new_n];omega) h2,get_new_ne _ _ _ (by omega)]
 ·have a1:=st1.m (by rw [new_m];exact h)
  have a2:=st2.m (by rw [new_m];exact a1)
  have a3:=st3.m a2
  have a4:=st4.m (by omega)
  have a5:=zm a4
  have a6:=st5.m (by show d≤far;omega)
  have a7:=s7m d (by omega) (by omega)
  have a8:=st8.m (by show d≤far;omega)
  have a9:=s10m d (by omega) (by omega)
  omega
 ·have a1:t1.m≤s.m:=st1.mle
  have a2:t2.m≤t1.m:=st2.mle
  have a3:=st3.mle
  have a4:=st4.mle
  omega
end Go.Proofs.Ytoolodjbfphkjaa.walk
set_option maxRecDepth 10000
namespace Go.Abs
end Go.Abs
namespace Go.Proofs.Ytoolodjbfphkjaa.walk
open Go.Abs Go.Proofs.Ytoolodjbfphkjaa.code
structure RowOf (S:Scl) (k:Nat) (l:List Int):Prop where
 len:l.length=k+1
 first:S.fl≤l.getD 0 0∧l.getD 0 0≤S.fh
 drift:∀ j,j<k→S.dl≤l.getD (j+1) 0 - l.getD j 0∧l.getD (j+1) 0 - l.getD j 0≤S.dh
 small:∀ j,j≤k → -(10+3 * (j:Int))≤l.getD j 0∧l.getD j 0≤10+3 * (j:Int)
theorem getD_front {l:List Int} {x:Int} {j:Nat} (h:j<l.length):(l++[x]).getD j 0=l.getD j 0:=by simp [List.getD,List.getElem?_append_left h]
theorem getD_back {l:List Int} {x:Int}:(l++[x]).getD l.length 0=x:=by simp [List.getD]
theorem RowOf.step {S:Scl} {k:Nat} {l:List Int} (r:RowOf S k l) {x:Int} (h:S.dl≤x∧x≤S.dh) (hd : -3≤S.dl∧S.dh≤3):RowOf S (k+1) (l++[l.getD k 0+x]):=by
 obtain ⟨r1,r2,r3,r4⟩:=r
 have e:(l++[l.getD k 0+x]).getD (k+1) 0=l.getD k 0+x:=by
  have:=getD_back (l:=l) (x:=l.getD k 0+x)
  rw [r1] at this;exact this
 refine ⟨by rw [List.length_append,r1];rfl,by rw [getD_front (by omega)];exact r2,fun j hj=>?_,fun j hj=>?_⟩
 ·by_cases hjk:j<k
  ·rw [getD_front (by omega),getD_front (by omega)];exact r3 j hjk
  ·obtain rfl:j=k:=by omega
   rw [e,getD_front (by omega)]
   omega
 ·by_cases hjk:j≤k
  ·rw [getD_front (by omega)];exact r4 j hjk
  ·obtain rfl:j=k+1:=by omega
   have:=r4 k (Nat.le_refl _)
   rw [e]
   omega
theorem made_day (N:Nat) (hN:6≤N) (cx:Ctx) {d p13 p14 lo px bl k:Nat} {b:Bench} {offs:List Int} {errs:List (List Int)} {rv:List AV} {xs:List Nat} {bs:Nat→Nat} {vs:Nat→AV} {L:Env} {s:St} {S:Scl} {l:List Int} {v:AV} (hk:k<b.days) (hdy:b.days≤8) (hs:s.n+2000≤far)
  (hM:Made s.h s.n d p13 p14 lo b offs errs rv xs bs vs) (hl:Blk s.h s.n bl 1 (tag 3) (intRows l) v) (hr:RowOf S k l) (hS : -3≤S.dl∧S.dl≤S.dh∧S.dh≤3) (hb:lo≤bl∧(∀ i,bs i≠bl)∧∀ x ∈ xs,x≠bl) (gx:s.h.get px=some (.cells S.cells (tag 68))) (hx:lo≤px∧px<s.n∧px≠bl)
  (l0:L.find 0=.ptr d 0) (l13:L.find 13=.ptr p13 0) (l18:L.find 18=.ptr px 0) (l19:L.find 19=v) (l20:L.find 20=.int .i64 k) :
  ∃ L1 s1 x bl1 v1,K5l1 (call Try.prog X N) cx L [] s=.done .norm L1 [] s1∧(∀ t,t=0∨t=2∨t=3∨t=10∨t=11∨t=12∨t=13∨t=14∨t=17∨t=18→L1.find t=L.find t)∧L1.find 19=v1∧L1.find 20=.int .i64 ((k+1:Nat):Int)∧RowOf S (k+1) (l++[x]) ∧
   Blk s1.h s1.n bl1 1 (tag 3) (intRows (l++[x])) v1∧s.n≤bl1∧Made s1.h s1.n d p13 p14 lo b offs errs rv xs bs vs∧Goes s s1 d p13 p14 lo 10∧s1.h.get px=some (.cells S.cells (tag 68)):=by
 have hf:far=1000000000:=rfl
 obtain ⟨pd,pp,plo,pn⟩:=hM.pl
 have dd:=hM.die
 have g13:=hM.g13
 have e0:decide ((k:Int)<(b.days:Int))=true:=decide_eq_true (by omega)
 have lln:(intRows l).length=k+1:=by rw [intRows_len,hr.len]
 have hi:=fun s=>hl.ixs (i:=k) (by omega) s
 obtain ⟨sz,hg⟩:=hl.get
 have hc:=hl.cut (i:=k) (by omega)
 have hlk:(intRows l)[k]'(by omega)=[.int .i64 (l.getD k 0)]:=by
  have:k<l.length:=by rw [hr.len];omega
  simp [intRows,List.getD,this]
 rw [hlk] at hc
 have hn:=cut1_nth hc
 have hvo:=hl.okA
 have hbn:=hl.lt
 have gx':=gx
 unfold Scl.cells at gx'
 simp (disch:=first|omega|(with_unfolding_all exact rfl)|(simp only[new_n,put_n,new_m];omega)|(refine put_m_le ?_;simp only[new_m];omega)) only [res5,K5r0,K5r1,K5r2,K5r3,K5r4,K5r5,K5r6,K5r7,K5r8,K5r9,K5l0,K5r10,K5r11,K5r12,K5r13,K5r14,K5r15,K5r16,K5r17,K5l1,K5r18,K5r19,K5l2,K5r20,K5r21s7,K5r21s6,K5r21s5,K5r21s4,K5r21,K5r22,K5r23,K5r24,K5r25,K5r26,K5l3,K5r27,K5r28,K5r29,K5r30,K5r31,K5r32,K5l4,K5r33,K5r34s7,K5r34s6,K5r34,K5r35,K5r36,K5r37,K5r38,K5,Abs.W,reduceIte,Nat.reduceEqDiff,Nat.reduceAdd,decide_true,decide_false,kLoop_def,Nat.reduceSub,List.cons_append,List.nil_append,List.append_nil,List.length_cons,List.length_nil,efs,l0,l13,l18,l19,l20,g13,e0,hi,hg,hn,hvo,gx',Nat.zero_add]
 generalize hc1:call _ _ _ (.fn 23) _ _=r1
 obtain ⟨x,t1,rfl,st1,d1,x0,x1⟩:=true_ex hc1 (by omega) dd (by show d<s.n;omega) (by show s.n+600≤far;omega) (by omega) (by omega) (by omega)
 have n1:s.n≤t1.n:=st1.n
 have k1:t1.n≤s.n+3:=st1.le
 have g1:∀ c,c<s.n→c≠d→t1.h.get c=s.h.get c:=fun c hc hcd=>st1.same c hc hcd
 have hsm:=hr.small k (Nat.le_refl _)
 have ad:∀ s,aAdd s .i64 (l.getD k 0) x=.val (.int .i64 (l.getD k 0+x)) s:=fun s=>aAdd_i64 s _ _ (by omega)
 have ad1:∀ s,aAdd s .i64 (k:Int) 1=.val (.int .i64 ((k:Int)+1)) s:=fun s=>aAdd_i64 s _ _ (by omega)
 simp (disch:=first|omega|(with_unfolding_all exact rfl)|(simp only[new_n,put_n,new_m];omega)|(refine put_m_le ?_;simp only[new_m];omega)) only [thenT_turn,Abs.W,reduceIte,Nat.reduceEqDiff,Nat.reduceAdd,decide_true,decide_false,kLoop_def,Nat.reduceSub,List.cons_append,List.nil_append,List.append_nil,List.length_cons,List.length_nil,efs,l0,l13,l18,l19,l20,ad,Nat.zero_add]
 obtain ⟨y,hy⟩:∃ y:St,y=(⟨t1.h,t1.n,minN s.m t1.m⟩:St).new (.cells [.int .i64 (l.getD k 0+x)] 0):=⟨_,rfl⟩
 rw [← hy]
 have yn:y.n=t1.n+1:=by rw [hy];rfl
 have ym:y.m=min s.m t1.m:=by rw [hy];simp only [St.new,minN_eq]
 have yg:∀ c,c<t1.n→y.h.get c=t1.h.get c:=fun c hc=>by rw [hy];exact get_new_ne _ _ _ (by show c≠t1.n;omega)
 have yp:y.h.get t1.n=some (.cells [.int .i64 (l.getD k 0+x)] 0):=by rw [hy];exact get_new_eq _ _ _ rfl (by show t1.n<_;omega)
 have hly:Blk y.h y.n bl 1 (tag 3) (intRows l) v:=hl.mono ((yg _ (by omega)).trans (g1 _ hbn (by omega))) (by omega)
 obtain ⟨s2,e2,B2,s2n,s2g,s2m,s2l⟩:=append_blk (bytes:=8) hly yp rfl rfl (by rw [lln];omega) (by kernel_rfl) (by omega)
 rw [lln] at e2 B2
 have e2':appendA false 1 8 (tag 3) y v (.slice t1.n 0 1 1 false)=.val (.slice y.n 0 (k+1+1) (k+1+1) true) s2:=e2
 simp (disch:=first|omega|(with_unfolding_all exact rfl)|(simp only[new_n,put_n,new_m];omega)|(refine put_m_le ?_;simp only[new_m];omega)) only [Abs.W,reduceIte,Nat.reduceEqDiff,Nat.reduceAdd,decide_true,decide_false,kLoop_def,Nat.reduceSub,List.cons_append,List.nil_append,List.append_nil,List.length_cons,List.length_nil,efs,e2',Nat.zero_add]
 rw [endT_kept (l:=[107]) (s':=t1) (by simp only [keptAll_cons,keptAll_nil,find_cons,efs,keptV_ptr,hg,g1 bl hbn (by omega),sameO_cells,reduceIte,Nat.reduceEqDiff,Bool.and_self])]
 simp (disch:=first|omega|(with_unfolding_all exact rfl)|(simp only[new_n,put_n,new_m];omega)|(refine put_m_le ?_;simp only[new_m];omega)) only [res5,K5r0,K5r1,K5r2,K5r3,K5r4,K5r5,K5r6,K5r7,K5r8,K5r9,K5l0,K5r10,K5r11,K5r12,K5r13,K5r14,K5r15,K5r16,K5r17,K5l1,K5r18,K5r19,K5l2,K5r20,K5r21s7,K5r21s6,K5r21s5,K5r21s4,K5r21,K5r22,K5r23,K5r24,K5r25,K5r26,K5l3,K5r27,K5r28,K5r29,K5r30,K5r31,K5r32,K5l4,K5r33,K5r34s7,K5r34s6,K5r34,K5r35,K5r36,K5r37,K5r38,K5,Abs.W,reduceIte,Nat.reduceEqDiff,Nat.reduceAdd,decide_true,decide_false,kLoop_def,Nat.reduceSub,List.cons_append,List.nil_append,List.append_nil,List.length_cons,List.length_nil,efs,l20,ad1]
 have fr:∀ c,c<s.n→c≠d→c≠bl→s2.h.get c=s.h.get c:=fun c h1 h2 h3=>(s2g c (by omega) h3).trans ((yg c (by omega)).trans (g1 c h1 h2))
 refine ⟨_,s2,l.getD k 0+x,y.n,.slice y.n 0 (k+1+1) (k+1+1) true,rfl,fun t ht=>?_,?_,?_,hr.step ⟨x0,x1⟩ ⟨hS.1,hS.2.2⟩,?_,by omega,hM.keep' ?_ fr (by omega) hb,⟨fun c h1 h2 h3 h4=>?_,by omega,by omega,fun h=>?_,?_⟩,?_⟩
 ·rcases ht with rfl | rfl | rfl | rfl | rfl | rfl | rfl | rfl | rfl | rfl<;>simp only [efs,reduceIte,Nat.reduceEqDiff]
 ·simp only [efs,reduceIte,Nat.reduceEqDiff]
 ·simp only [efs,reduceIte,Nat.reduceEqDiff];rfl
 ·rw [intRows_snoc];exact B2
 ·exact d1.keep ((s2g d (by omega) (by omega)).trans (yg d (by omega)))
 ·exact fr c (by omega) h2 (by omega)
 ·have a1:=st1.m (by show d≤far;omega)
  have a2:=s2m d (by omega) (by omega)
  omega
 ·omega
 ·exact (fr px hx.2.1 (by omega) hx.2.2).trans gx
theorem made_scale (N:Nat) (hN:6≤N) (cx:Ctx) {d p13 p14 lo i:Nat} {b:Bench} {offs:List Int} {errs:List (List Int)} {rv:List AV} {xs:List Nat} {bs:Nat→Nat} {vs:Nat→AV} {L:Env} {s:St} (hi:0<i) (hi6:i≤10) (hs:s.n+5000≤far) (hdy:b.days≤8)
  (hM:Made s.h s.n d p13 p14 lo b offs errs rv xs bs vs) (hbl:b.ss.length≤10) (hel:errs.length≤10) (l0:L.find 0=.ptr d 0) (l13:L.find 13=.ptr p13 0) (l14:L.find 14=.ptr p14 0) (l17:L.find 17=.int .i64 i) :
  ∃ L1 s1 S l rv1 xs1 bs1 vs1,K5l2 (call Try.prog X N) cx L [] s=.done .norm L1 [] s1∧(∀ t,t=0∨t=3∨t=10∨t=11∨t=12∨t=13∨t=14→L1.find t=L.find t)∧L1.find 17=.int .i64 ((i:Int) - 1)∧S.Ok∧RowOf S b.days l ∧
   Made s1.h s1.n d p13 p14 lo { b with ss:=b.ss++[S] } offs (errs++[l]) rv1 xs1 bs1 vs1∧Goes s s1 d p13 p14 lo 120:=by
 have hf:far=1000000000:=rfl
 have e0:decide ((0:Int)<(i:Int))=true:=by simp;omega
 obtain ⟨pd,pp,plo,pn⟩:=hM.pl
 have hd:=hM.die
 simp (disch:=first|omega|(with_unfolding_all exact rfl)|(simp only[new_n,put_n,new_m];omega)|(refine put_m_le ?_;simp only[new_m];omega)) only [res5,K5r0,K5r1,K5r2,K5r3,K5r4,K5r5,K5r6,K5r7,K5r8,K5r9,K5r10,K5r11,K5r12,K5r13,K5r14,K5r15,K5r16,K5r17,K5r18,K5r19,K5r20,K5r21s7,K5r21s6,K5r21s5,K5r21s4,K5r21,K5r22,K5r23,K5r24,K5r25,K5r26,K5r27,K5r28,K5r29,K5r30,K5r31,K5r32,K5r33,K5r34s7,K5r34s6,K5r34,K5r35,K5r36,K5r37,K5r38,K5,K5l2,Abs.W,reduceIte,Nat.reduceEqDiff,Nat.reduceAdd,decide_true,decide_false,kLoop_def,Nat.reduceSub,List.cons_append,List.nil_append,List.append_nil,List.length_cons,List.length_nil,efs,l0,l13,l14,l17,e0]
 generalize hc1:call _ _ _ (.fn 21) _ _=r1
 obtain ⟨x1,t1,rfl,st1,d1,m1⟩:=one_ex [2,9] hc1 (by omega) (hd.new (by omega) _) (by simp only [new_n];omega) (by simp only [new_n];omega) (get_new_eq _ _ _ rfl (by omega)) (by simp only [new_n];omega) (by omega) rfl (by omega) (by omega)
 have x1r:x1=2∨x1=9:=by simpa using m1
 have n1:s.n+1≤t1.n:=st1.n
 have k1:t1.n≤s.n+1:=st1.le
 have ng:∀ s,negA s (.int .i64 x1)=.val (.int .i64 (-x1)) s:=fun s=>neg_i64 s _ (by omega)
 simp (disch:=first|omega|(with_unfolding_all exact rfl)|(simp only[new_n,put_n,new_m];omega)|(refine put_m_le ?_;simp only[new_m];omega)) only [res5,K5r0,K5r1,K5r2,K5r3,K5r4,K5r5,K5r6,K5r7,K5r8,K5r9,K5r10,K5r11,K5r12,K5r13,K5r14,K5r15,K5r16,K5r17,K5r18,K5r19,K5r20,K5r21s7,K5r21s6,K5r21s5,K5r21s4,K5r21,K5r22,K5r23,K5r24,K5r25,K5r26,K5r27,K5r28,K5r29,K5r30,K5r31,K5r32,K5r33,K5r34s7,K5r34s6,K5r34,K5r35,K5r36,K5r37,K5r38,K5,Abs.W,reduceIte,Nat.reduceEqDiff,Nat.reduceAdd,decide_true,decide_false,kLoop_def,Nat.reduceSub,List.cons_append,List.nil_append,List.append_nil,List.length_cons,List.length_nil,efs,l0,l13,l14,l17,ng]
 generalize hc2:call _ _ _ (.fn 21) _ _=r2
 obtain ⟨x2,t2,rfl,st2,d2,m2⟩:=one_ex [2,9] hc2 (by omega) (d1.new (by omega) _) (by simp only [new_n];omega) (by simp only [new_n];omega) (get_new_eq _ _ _ rfl (by omega)) (by simp only [new_n];omega) (by omega) rfl (by omega) (by omega)
 have x2r:x2=2∨x2=9:=by simpa using m2
 have n2:t1.n+1≤t2.n:=st2.n
 have k2:t2.n≤t1.n+1:=st2.le
 simp (disch:=first|omega|(with_unfolding_all exact rfl)|(simp only[new_n,put_n,new_m];omega)|(refine put_m_le ?_;simp only[new_m];omega)) only [res5,K5r0,K5r1,K5r2,K5r3,K5r4,K5r5,K5r6,K5r7,K5r8,K5r9,K5r10,K5r11,K5r12,K5r13,K5r14,K5r15,K5r16,K5r17,K5r18,K5r19,K5r20,K5r21s7,K5r21s6,K5r21s5,K5r21s4,K5r21,K5r22,K5r23,K5r24,K5r25,K5r26,K5r27,K5r28,K5r29,K5r30,K5r31,K5r32,K5r33,K5r34s7,K5r34s6,K5r34,K5r35,K5r36,K5r37,K5r38,K5,Abs.W,reduceIte,Nat.reduceEqDiff,Nat.reduceAdd,decide_true,decide_false,kLoop_def,Nat.reduceSub,List.cons_append,List.nil_append,List.append_nil,List.length_cons,List.length_nil,efs,l0,l13,l14,l17]
 generalize hc3:call _ _ _ (.fn 20) _ _=r3
 obtain ⟨fa,fb,t3,rfl,st3,d3,a0,a1,a2⟩:=span_ex hc3 (by omega) d2 (by omega) (by omega) (by omega) (by omega) (by omega)
 have n3:t2.n≤t3.n:=st3.n
 have k3:t3.n≤t2.n+2:=st3.le
 simp (disch:=first|omega|(with_unfolding_all exact rfl)|(simp only[new_n,put_n,new_m];omega)|(refine put_m_le ?_;simp only[new_m];omega)) only [res5,K5r0,K5r1,K5r2,K5r3,K5r4,K5r5,K5r6,K5r7,K5r8,K5r9,K5r10,K5r11,K5r12,K5r13,K5r14,K5r15,K5r16,K5r17,K5r18,K5r19,K5r20,K5r21s7,K5r21s6,K5r21s5,K5r21s4,K5r21,K5r22,K5r23,K5r24,K5r25,K5r26,K5r27,K5r28,K5r29,K5r30,K5r31,K5r32,K5r33,K5r34s7,K5r34s6,K5r34,K5r35,K5r36,K5r37,K5r38,K5,Abs.W,reduceIte,Nat.reduceEqDiff,Nat.reduceAdd,decide_true,decide_false,kLoop_def,Nat.reduceSub,List.cons_append,List.nil_append,List.append_nil,List.length_cons,List.length_nil,efs,l0,l13,l14,l17]
 generalize hc4:call _ _ _ (.fn 21) _ _=r4
 obtain ⟨x4,t4,rfl,st4,d4,m4⟩:=one_ex [0,3] hc4 (by omega) (d3.new (by omega) _) (by simp only [new_n];omega) (by simp only [new_n];omega) (get_new_eq _ _ _ rfl (by omega)) (by simp only [new_n];omega) (by omega) rfl (by omega) (by omega)
 have x4r:x4=0∨x4=3:=by simpa using m4
 have n4:t3.n+1≤t4.n:=st4.n
 have k4:t4.n≤t3.n+1:=st4.le
 simp (disch:=first|omega|(with_unfolding_all exact rfl)|(simp only[new_n,put_n,new_m];omega)|(refine put_m_le ?_;simp only[new_m];omega)) only [res5,K5r0,K5r1,K5r2,K5r3,K5r4,K5r5,K5r6,K5r7,K5r8,K5r9,K5r10,K5r11,K5r12,K5r13,K5r14,K5r15,K5r16,K5r17,K5r18,K5r19,K5r20,K5r21s7,K5r21s6,K5r21s5,K5r21s4,K5r21,K5r22,K5r23,K5r24,K5r25,K5r26,K5r27,K5r28,K5r29,K5r30,K5r31,K5r32,K5r33,K5r34s7,K5r34s6,K5r34,K5r35,K5r36,K5r37,K5r38,K5,Abs.W,reduceIte,Nat.reduceEqDiff,Nat.reduceAdd,decide_true,decide_false,kLoop_def,Nat.reduceSub,List.cons_append,List.nil_append,List.append_nil,List.length_cons,List.length_nil,efs,l0,l13,l14,l17]
 generalize hc5:call _ _ _ (.fn 20) _ _=r5
 obtain ⟨da,db,t5,rfl,st5,d5,c0,c1,c2⟩:=span_ex hc5 (by omega) d4 (by omega) (by omega) (by omega) (by omega) (by omega)
 have n5:t4.n≤t5.n:=st5.n
 have k5:t5.n≤t4.n+2:=st5.le
 simp (disch:=first|omega|(with_unfolding_all exact rfl)|(simp only[new_n,put_n,new_m];omega)|(refine put_m_le ?_;simp only[new_m];omega)) only [res5,K5r0,K5r1,K5r2,K5r3,K5r4,K5r5,K5r6,K5r7,K5r8,K5r9,K5r10,K5r11,K5r12,K5r13,K5r14,K5r15,K5r16,K5r17,K5r18,K5r19,K5r20,K5r21s7,K5r21s6,K5r21s5,K5r21s4,K5r21,K5r22,K5r23,K5r24,K5r25,K5r26,K5r27,K5r28,K5r29,K5r30,K5r31,K5r32,K5r33,K5r34s7,K5r34s6,K5r34,K5r35,K5r36,K5r37,K5r38,K5,Abs.W,reduceIte,Nat.reduceEqDiff,Nat.reduceAdd,decide_true,decide_false,kLoop_def,Nat.reduceSub,List.cons_append,List.nil_append,List.append_nil,List.length_cons,List.length_nil,efs,l0,l13,l14,l17,Nat.zero_add]
 obtain ⟨S,hSd⟩:∃ S:Scl,S=⟨fa,fb,da,db⟩:=⟨_,rfl⟩
 have hSc:S.cells=[.int .i64 fa,.int .i64 fb,.int .i64 da,.int .i64 db]:=by rw [hSd];rfl
 obtain ⟨y,hy⟩:∃ y:St,y=(t5.new (.cells [.int .i64 0,.int .i64 0,.int .i64 0,.int .i64 0] (tag 68))).put t5.n (.cells [.int .i64 fa,.int .i64 fb,.int .i64 da,.int .i64 db] (tag 68)):=⟨_,rfl⟩
 rw [← hy]
 have yn:y.n=t5.n+1:=by rw [hy];rfl
 have ym:y.m=min t5.m t5.n:=by rw [hy];simp only [St.put,minN_eq,new_m]
 have yg:∀ c,c≠t5.n→y.h.get c=t5.h.get c:=fun c hc=>by rw [hy,get_put_ne' _ _ _ _ hc,get_new_ne _ _ _ hc]
 have yp:y.h.get t5.n=some (.cells [.int .i64 fa,.int .i64 fb,.int .i64 da,.int .i64 db] (tag 68)):=by rw [hy];exact get_put_eq _ _ _ _ rfl (by omega)
 have dy:Die d y.h:=d5.keep (yg _ (by omega))
 generalize hc6:call _ _ _ (.fn 23) _ _=r6
 obtain ⟨x0,t6,rfl,st6,d6,x00,x01⟩:=true_ex hc6 (by omega) dy (by omega) (by omega) (by omega) (by omega) (by omega)
 have n6:y.n≤t6.n:=st6.n
 have k6:t6.n≤y.n+3:=st6.le
 simp (disch:=first|omega|(with_unfolding_all exact rfl)|(simp only[new_n,put_n,new_m];omega)|(refine put_m_le ?_;simp only[new_m];omega)) only [res5,K5r0,K5r1,K5r2,K5r3,K5r4,K5r5,K5r6,K5r7,K5r8,K5r9,K5r10,K5r11,K5r12,K5r13,K5r14,K5r15,K5r16,K5r17,K5r18,K5r19,K5r20,K5r21s7,K5r21s6,K5r21s5,K5r21s4,K5r21,K5r22,K5r23,K5r24,K5r25,K5r26,K5r27,K5r28,K5r29,K5r30,K5r31,K5r32,K5r33,K5r34s7,K5r34s6,K5r34,K5r35,K5r36,K5r37,K5r38,K5,Abs.W,reduceIte,Nat.reduceEqDiff,Nat.reduceAdd,decide_true,decide_false,kLoop_def,Nat.reduceSub,List.cons_append,List.nil_append,List.append_nil,List.length_cons,List.length_nil,efs,l0,Nat.zero_add]
 generalize hl:loopN _ rounds _ _ _ _ _=rl
 obtain ⟨w,L0,hw,hL0,hl'⟩:=loop_start hl
 have wn:w.n=t6.n+1:=by rw [hw];rfl
 have wm:w.m=t6.m:=by rw [hw];rfl
 have wg:∀ c,c<t6.n→w.h.get c=t6.h.get c:=fun c hc=>by rw [hw,get_new_ne _ _ _ (by omega)]
 have wp:w.h.get t6.n=some (.cells [.int .i64 x0] 0):=by rw [hw];exact get_new_eq _ _ _ rfl (by omega)
 have back:∀ c,c<s.n→c≠d→w.h.get c=s.h.get c:=fun c hc h2=>by
  rw [wg c (by omega),st6.same c (by omega) h2,yg c (by omega),st5.same c (by omega) h2,st4.same c (by simp only [new_n];omega) h2,get_new_ne _ _ _ (by omega),st3.same c (by omega) h2,st2.same c (by simp only [new_n];omega) h2,get_new_ne _ _ _ (by omega),st1.same c (by simp only [new_n];omega) h2,get_new_ne _ _ _ (by omega)]
 have hMw:Made w.h w.n d p13 p14 lo b offs errs rv xs bs vs:=hM.keep (d6.keep (wg d (by omega))) back (by omega)
 have bsf:∀ j,bs j<s.n∨far<bs j:=hM.ls.far
 have bsl:∀ j,lo≤bs j:=hM.ls.lo
 have xlt:∀ j (h:j<xs.length),xs[j]<s.n:=fun j h=>(hM.er j (by have:=hM.el;have:=hM.xl;omega) (by have:=hM.xl;omega) h).lt
 have xlt':∀ x ∈ xs,x<s.n:=fun x hx=>by obtain ⟨j,hj,rfl⟩:=List.getElem_of_mem hx;exact xlt j hj
 have gxw:w.h.get t5.n=some (.cells S.cells (tag 68)):=by rw [hSc,wg _ (by omega),st6.same _ (by omega) (by omega)];exact yp
 have hS3 : -3≤S.dl∧S.dl≤S.dh∧S.dh≤3:=by rw [hSd];exact ⟨by simp only;omega,c1,by simp only;omega⟩
 have hr0:RowOf S 0 [x0]:=by
  refine ⟨rfl,by rw [hSd];exact ⟨x00,x01⟩,fun j hj=>absurd hj (Nat.not_lt_zero j),fun j hj=>?_⟩
  obtain rfl:j=0:=by omega
  show -(10+3 * ((0:Nat):Int))≤x0∧x0≤10+3 * ((0:Nat):Int)
  omega
 have hB0:Blk w.h w.n t6.n 1 (tag 3) (intRows [x0]) (.slice t6.n 0 1 1 false):=⟨fun r hr=>by simp [intRows] at hr;rw [hr];rfl,false,0,rfl,by omega,wp,fun h=>by cases h⟩
 obtain ⟨e,L1,s1,rfl,rfl,l,v,bl,q0,q13,q14,q17,q18,qf,q19,hr,hB,hbl1,hM1,hG1,gx1⟩:=loop_of hl' (fun k L' t'=>∃ l v bl,L'.find 0=.ptr d 0∧L'.find 13=.ptr p13 0∧L'.find 14=.ptr p14 0∧L'.find 17=.int .i64 i∧L'.find 18=.ptr t5.n 0∧(∀ t,t=3∨t=10∨t=11∨t=12→L'.find t=L.find t)∧L'.find 19=v∧L'.find 20=.int .i64 k∧RowOf S k l∧Blk t'.h t'.n bl 1 (tag 3) (intRows l) v∧(s.n≤bl∧bl≠t5.n)∧Made t'.h t'.n d p13 p14 lo b offs errs rv xs bs vs∧Goes w t' d p13 p14 lo (10 * k)∧t'.h.get t5.n=some (.cells S.cells (tag 68)))
  (fun e L' t'=>e=.exit 4∧∃ l v bl,L'.find 0=.ptr d 0∧L'.find 13=.ptr p13 0∧L'.find 14=.ptr p14 0∧L'.find 17=.int .i64 i∧L'.find 18=.ptr t5.n 0∧(∀ t,t=3∨t=10∨t=11∨t=12→L'.find t=L.find t)∧L'.find 19=v∧RowOf S b.days l∧Blk t'.h t'.n bl 1 (tag 3) (intRows l) v∧(s.n≤bl∧bl≠t5.n)∧Made t'.h t'.n d p13 p14 lo b offs errs rv xs bs vs∧Goes w t' d p13 p14 lo (10 * b.days)∧t'.h.get t5.n=some (.cells S.cells (tag 68))) b.days (by unfold rounds;omega)
  ⟨[x0],.slice t6.n 0 1 1 false,t6.n,by rw [hL0];simp only [efs,l0,reduceIte,Nat.reduceEqDiff],by rw [hL0];simp only [efs,l13,reduceIte,Nat.reduceEqDiff],by rw [hL0];simp only [efs,l14,reduceIte,Nat.reduceEqDiff],by rw [hL0];simp only [efs,l17,reduceIte,Nat.reduceEqDiff],by rw [hL0];simp only [efs,l0,reduceIte,Nat.reduceEqDiff],fun t ht=>by rw [hL0];rcases ht with rfl | rfl | rfl | rfl<;>simp only [efs,reduceIte,Nat.reduceEqDiff],by rw [hL0];simp only [efs,l0,reduceIte,Nat.reduceEqDiff],by rw [hL0];simp only [efs,l0,reduceIte,Nat.reduceEqDiff];rfl,hr0,hB0,⟨by omega,by omega⟩,hMw,Goes.refl _ _ _ _ _,gxw⟩
  (fun k L' t' hk ⟨l,v,bl,q0,q13,q14,q17,q18,qf,q19,q20,hr,hB,hbl1,hM1,hG1,gx1⟩=>by
   have:=hG1.le
   have:=hG1.n
   by_cases hlt:k<b.days
   ·obtain ⟨L2,t2',x,bl2,v2,p1,p2,p3,p4,p5,p6,p7,p8,p9,pa⟩:=made_day N hN cx hlt hdy (by omega) hM1 hB hr hS3 ⟨by omega,fun j=>(by have:=bsf j;have:=hB.lt;omega),fun x hx=>(by have:=xlt' x hx;omega)⟩ gx1 ⟨by omega,by omega,fun e=>hbl1.2 e.symm⟩ q0 q13 q18 q19 q20
    refine .inl ⟨hlt,L2,t2',p1,l++[x],v2,bl2,?_,?_,?_,?_,?_,fun t ht=>?_,p3,p4,p5,p6,⟨by omega,by omega⟩,p8,(hG1.trans p9).mono (by omega),pa⟩
    ·rw [p2 0 (by omega)];exact q0
    ·rw [p2 13 (by omega)];exact q13
    ·rw [p2 14 (by omega)];exact q14
    ·rw [p2 17 (by omega)];exact q17
    ·rw [p2 18 (by omega)];exact q18
    ·rw [p2 t (by omega)];exact qf t ht
   ·obtain rfl:k=b.days:=by omega
    have e1:decide ((b.days:Int)<(b.days:Int))=false:=by simp
    have g13:=hM1.g13
    refine .inr ⟨.exit 4,L'.set 101 (.bool false),t',by simp,?_,rfl,l,v,bl,?_,?_,?_,?_,?_,fun t ht=>?_,?_,hr,hB,hbl1,hM1,hG1,gx1⟩
    ·simp (disch:=first|omega|(with_unfolding_all exact rfl)|(simp only[new_n,put_n,new_m];omega)|(refine put_m_le ?_;simp only[new_m];omega)) only [res5,K5r0,K5r1,K5r2,K5r3,K5r4,K5r5,K5r6,K5r7,K5r8,K5r9,K5r10,K5r11,K5r12,K5r13,K5r14,K5r15,K5r16,K5r17,K5r18,K5r19,K5r20,K5r21s7,K5r21s6,K5r21s5,K5r21s4,K5r21,K5r22,K5r23,K5r24,K5r25,K5r26,K5r27,K5r28,K5r29,K5r30,K5r31,K5r32,K5r33,K5r34s7,K5r34s6,K5r34,K5r35,K5r36,K5r37,K5r38,K5,K5l1,Abs.W,reduceIte,Nat.reduceEqDiff,Nat.reduceAdd,decide_true,decide_false,kLoop_def,Nat.reduceSub,List.cons_append,List.nil_append,List.append_nil,List.length_cons,List.length_nil,efs,q13,q20,g13,e1,Nat.zero_add]
    ·simp only [efs,q0,reduceIte,Nat.reduceEqDiff]
    ·simp only [efs,q13,reduceIte,Nat.reduceEqDiff]
    ·simp only [efs,q14,reduceIte,Nat.reduceEqDiff]
    ·simp only [efs,q17,reduceIte,Nat.reduceEqDiff]
    ·simp only [efs,q18,reduceIte,Nat.reduceEqDiff]
    ·rw [efs,if_neg (by omega)];exact qf t ht
    ·simp only [efs,q19,reduceIte,Nat.reduceEqDiff])
 obtain ⟨dz,z13,z14,lz,el,xl,er,xo,_⟩:=hM1
 have G1n:=hG1.n
 have G1l:=hG1.le
 have okm:=(lz.at_ 2).okA
 have oko:=(lz.at_ 5).okA
 have vok:=hB.okA
 have gx2:=gx1
 rw [hSc] at gx2
 simp (disch:=first|omega|(with_unfolding_all exact rfl)|(simp only[new_n,put_n,new_m];omega)|(refine put_m_le ?_;simp only[new_m];omega)) only [res5,K5r0,K5r1,K5r2,K5r3,K5r4,K5r5,K5r6,K5r7,K5r8,K5r9,K5r10,K5r11,K5r12,K5r13,K5r14,K5r15,K5r16,K5r17,K5r18,K5r19,K5r20,K5r21s7,K5r21s6,K5r21s5,K5r21s4,K5r21,K5r22,K5r23,K5r24,K5r25,K5r26,K5r27,K5r28,K5r29,K5r30,K5r31,K5r32,K5r33,K5r34s7,K5r34s6,K5r34,K5r35,K5r36,K5r37,K5r38,K5,Abs.W,reduceIte,Nat.reduceEqDiff,Nat.reduceAdd,decide_true,decide_false,kLoop_def,Nat.reduceSub,List.cons_append,List.nil_append,List.append_nil,List.length_cons,List.length_nil,efs,q13,q14,q18,q19,z13,z14,gx2,okm,Nat.zero_add]
 obtain ⟨y2,hy2⟩:∃ y2:St,y2=s1.new (.cells [.int .i64 fa,.int .i64 fb,.int .i64 da,.int .i64 db] 0):=⟨_,rfl⟩
 rw [← hy2]
 have y2n:y2.n=s1.n+1:=by rw [hy2];rfl
 have y2m:y2.m=s1.m:=by rw [hy2];rfl
 have y2g:∀ c,c<s1.n→y2.h.get c=s1.h.get c:=fun c hc=>by rw [hy2,get_new_ne _ _ _ (by omega)]
 have y2p:y2.h.get s1.n=some (.cells [.int .i64 fa,.int .i64 fb,.int .i64 da,.int .i64 db] 0):=by rw [hy2];exact get_new_eq _ _ _ rfl (by omega)
 have l2:Lists y2.h y2.n lo benchW benchT (benchR b offs rv) bs vs:=lz.mono (fun j hj=>y2g _ hj) (by omega)
 obtain ⟨s7,v7,e7,l7,s7n,s7g,s7m,s7l⟩:=l2.push 2 (bytes:=32) y2p rfl rfl (by show ((b.ss.map Scl.cells).length+1) * 32≤1000000;rw [List.length_map];omega) (by kernel_rfl) (by omega) (by omega)
 have e7':appendA false 4 32 (tag 68) y2 (vs 2) (.slice s1.n 0 1 1 false)=.val v7 s7:=e7
 have n2':∀ c,c<lo→c≠bs 2:=fun c hc=>by have:=bsl 2;omega
 have n5':∀ c,c<lo→c≠bs 5:=fun c hc=>by have:=bsl 5;omega
 have g7:∀ c,c<s1.n→c≠bs 2→s7.h.get c=s1.h.get c:=fun c h1 h3=>(s7g c (by omega) h3).trans (y2g c h1)
 have g714:=(g7 p14 (by omega) (n2' _ (by omega))).trans z14
 have scv:scalars [v]=true:=by
  show (match v.scalar with | true=>scalars [] | false=>false)=true
  rw [hB.scal];rfl
 have scc:=hB.cells
 have cn:cellsOf 1 (AV.nilslice)=some [AV.nilslice]:=rfl
 simp (disch:=first|omega|(with_unfolding_all exact rfl)|(simp only[new_n,put_n,new_m];omega)|(refine put_m_le ?_;simp only[new_m];omega)) only [Abs.W,reduceIte,Nat.reduceEqDiff,Nat.reduceAdd,decide_true,decide_false,kLoop_def,Nat.reduceSub,List.cons_append,List.nil_append,List.append_nil,List.length_cons,List.length_nil,efs,e7',q14,q19,g714,oko,vok,scc,Nat.zero_add,Nat.add_zero]
 obtain ⟨y9,hy9⟩:∃ y9:St,y9=s7.new (.cells [v] 0):=⟨_,rfl⟩
 rw [← hy9]
 have y9n:y9.n=s7.n+1:=by rw [hy9];rfl
 have y9m:y9.m=s7.m:=by rw [hy9];rfl
 have y9g:∀ c,c<s7.n→y9.h.get c=s7.h.get c:=fun c hc=>by rw [hy9,get_new_ne _ _ _ (by omega)]
 have y9p:y9.h.get s7.n=some (.cells [v] 0):=by rw [hy9];exact get_new_eq _ _ _ rfl (by omega)
 have l9:=l7.mono (h':=y9.h) (n':=y9.n) (fun j hj=>y9g _ hj) (by omega)
 obtain ⟨s10,v10,e10,l10,s10n,s10g,s10m,s10l⟩:=l9.push 5 (bytes:=24) y9p rfl scv (by rw [upd_ne _ _ _ (by omega)];show ((rv.map fun v=>[v]).length+1) * 24≤1000000;rw [List.length_map,el];omega) (by kernel_rfl) (by omega) (by omega)
 rw [upd_ne _ _ _ (by omega)] at e10
 have e10':appendA false 1 24 (tag 22) y9 (vs 5) (.slice s7.n 0 1 1 false)=.val v10 s10:=e10
 have hb5:upd bs 2 y2.n 5=bs 5:=upd_ne _ _ _ (by omega)
 rw [hb5] at s10g
 have g10:∀ c,c<s1.n→c≠bs 2→c≠bs 5→s10.h.get c=s1.h.get c:=fun c h1 h3 h4=>(s10g c (by omega) h4).trans ((y9g c (by omega)).trans (g7 c h1 h3))
 have r13:=(g10 p13 (by omega) (n2' _ (by omega)) (n5' _ (by omega))).trans z13
 have r14:=(g10 p14 (by omega) (n2' _ (by omega)) (n5' _ (by omega))).trans z14
 have sc7:=(l10.at_ 2).scal
 rw [upd_ne _ _ _ (by omega),upd_at] at sc7
 have sc10:=(l10.at_ 5).scal
 rw [upd_at] at sc10
 obtain ⟨sc71,sc72⟩:=sc7
 obtain ⟨sc101,sc102⟩:=sc10
 have asb:∀ s,aSub s .i64 (i:Int) 1=.val (.int .i64 ((i:Int) - 1)) s:=fun s=>aSub_i64 s _ _ (by omega)
 simp (disch:=first|omega|(with_unfolding_all exact rfl)|(simp only[new_n,put_n,new_m];omega)|(refine put_m_le ?_;simp only[new_m];omega)) only [Abs.W,reduceIte,Nat.reduceEqDiff,Nat.reduceAdd,decide_true,decide_false,kLoop_def,Nat.reduceSub,List.cons_append,List.nil_append,List.append_nil,List.length_cons,List.length_nil,efs,e10',q13,q14,r13,r14,sc71,sc72,sc101,sc102,Nat.zero_add]
 rw [endO_ok _ (by
  rw [endOk_cons,endOk_nil]
  simp only [find_cons,efs,reduceIte,Nat.reduceEqDiff]
  exact (lz.at_ 2).apart (fun e=>n2' p14 (by omega) e.symm))]
 simp (disch:=first|omega|(with_unfolding_all exact rfl)|(simp only[new_n,put_n,new_m];omega)|(refine put_m_le ?_;simp only[new_m];omega)) only [res5,K5r0,K5r1,K5r2,K5r3,K5r4,K5r5,K5r6,K5r7,K5r8,K5r9,K5r10,K5r11,K5r12,K5r13,K5r14,K5r15,K5r16,K5r17,K5r18,K5r19,K5r20,K5r21s7,K5r21s6,K5r21s5,K5r21s4,K5r21,K5r22,K5r23,K5r24,K5r25,K5r26,K5r27,K5r28,K5r29,K5r30,K5r31,K5r32,K5r33,K5r34s7,K5r34s6,K5r34,K5r35,K5r36,K5r37,K5r38,K5,Abs.W,reduceIte,Nat.reduceEqDiff,Nat.reduceAdd,decide_true,decide_false,kLoop_def,Nat.reduceSub,List.cons_append,List.nil_append,List.append_nil,List.length_cons,List.length_nil,efs,q17,asb]
 generalize hsf:St.put (St.put s10 _ _) _ _=sf
 have sfn:sf.n=s10.n:=by rw [← hsf];rfl
 have sfm:sf.m=min (min s10.m p13) p14:=by rw [← hsf];simp only [St.put,minN_eq]
 have sfg:∀ c,c≠p13→c≠p14→sf.h.get c=s10.h.get c:=fun c h1 h2=>by rw [← hsf,get_put_ne' _ _ _ _ h2,get_put_ne' _ _ _ _ h1]
 have sf13:sf.h.get p13=some (.cells [vs 0,vs 1,v7,vs 3,.int .i64 b.days] (tag 28)):=by rw [← hsf,get_put_ne' _ _ _ _ (by omega)];exact get_put_eq _ _ _ _ rfl (by omega)
 have sf14:sf.h.get p14=some (.cells [vs 4,v10] (tag 31)):=by rw [← hsf];exact get_put_eq _ _ _ _ rfl (by omega)
 have dsf:Die d sf.h:=dz.keep ((sfg d (by omega) (by omega)).trans (g10 d (by omega) (n2' _ (by omega)) (n5' _ (by omega))))
 have hfun:upd (upd (benchR b offs rv) 2 (benchR b offs rv 2++[[.int .i64 fa,.int .i64 fb,.int .i64 da,.int .i64 db]])) 5 (upd (benchR b offs rv) 2 (benchR b offs rv 2++[[.int .i64 fa,.int .i64 fb,.int .i64 da,.int .i64 db]]) 5++[[v]])=benchR { b with ss:=b.ss++[S] } offs (rv++[v]):=by
  funext j
  match j with
  | 0=>rfl
  | 1=>rfl
  | 2 =>
   show b.ss.map Scl.cells++[_]=(b.ss++[S]).map Scl.cells
   rw [List.map_append,List.map_cons,List.map_nil,hSc]
  | 3=>rfl
  | 4=>rfl
  | 5 =>
   show (rv.map fun v=>[v])++[[v]]=(rv++[v]).map fun v=>[v]
   rw [List.map_append];rfl
  | n+6=>rfl
 rw [hfun] at l10
 have bl2:∀ j,bl≠bs j:=fun j=>by have:=bsf j;have:=hB.lt;omega
 have hbl2:=hB.lt
 refine ⟨_,sf,S,l,rv++[v],xs++[bl],_,_,rfl,fun t ht=>?_,?_,?_,hr,⟨dsf,?_,?_,l10.mono (fun j hj=>sfg _ (by have:=l10.lo j;omega) (by have:=l10.lo j;omega)) (by omega),by rw [List.length_append,List.length_append,el];rfl,by rw [List.length_append,List.length_append,xl];rfl,fun j h1 h2 h3=>?_,fun c hc=>?_,⟨pd,pp,plo,by omega⟩⟩,⟨fun c h1 h2 h3 h4=>?_,by omega,by omega,fun h=>?_,?_⟩⟩
 ·rcases ht with rfl | rfl | rfl | rfl | rfl | rfl | rfl
  ·simp only [efs,q0,l0,reduceIte,Nat.reduceEqDiff]
  ·rw [efs,if_neg (by omega)];exact qf 3 (by omega)
  ·rw [efs,if_neg (by omega)];exact qf 10 (by omega)
  ·rw [efs,if_neg (by omega)];exact qf 11 (by omega)
  ·rw [efs,if_neg (by omega)];exact qf 12 (by omega)
  ·simp only [efs,q13,l13,reduceIte,Nat.reduceEqDiff]
  ·simp only [efs,q14,l14,reduceIte,Nat.reduceEqDiff]
 ·simp only [efs,reduceIte,Nat.reduceEqDiff]
 ·rw [hSd];exact ⟨by simp only;omega,by simp only;omega,by simp only;omega,by simp only;omega,by simp only;omega,by simp only;omega⟩
 ·rw [upd_ne _ _ _ (by omega),upd_ne _ _ _ (by omega),upd_ne _ _ _ (by omega),upd_ne _ _ _ (by omega),upd_ne _ _ _ (by omega),upd_at,upd_ne _ _ _ (by omega),upd_ne _ _ _ (by omega)];exact sf13
 ·rw [upd_ne _ _ _ (by omega),upd_ne _ _ _ (by omega),upd_at];exact sf14
 ·by_cases hj:j<rv.length
  ·rw [List.getElem_append_left (by omega),List.getElem_append_left (by omega),List.getElem_append_left hj]
   have w1:=er j hj (by omega) (by omega)
   have w3:=xo _ (List.getElem_mem (by omega:j<xs.length))
   exact w1.mono ((sfg _ (by omega) (by omega)).trans (g10 _ w1.lt (fun e=>w3.2 2 e.symm) (fun e=>w3.2 5 e.symm))) (by omega)
  ·have hje:j=rv.length:=by rw [List.length_append,List.length_singleton] at h1;omega
   subst hje
   rw [List.getElem_append_right (by omega),List.getElem_append_right (by omega),List.getElem_append_right (by omega)]
   simp only [el,xl,Nat.sub_self,List.getElem_singleton]
   exact hB.mono ((sfg _ (by omega) (by omega)).trans (g10 _ hbl2 (bl2 2) (bl2 5))) (by omega)
 ·rcases List.mem_append.mp hc with hc | hc
  ·have:=xlt' c hc
   refine ⟨(xo c hc).1,fun j=>?_⟩
   unfold upd
   split
   ·omega
   ·split
    ·omega
    ·exact (xo _ hc).2 j
  ·simp at hc
   subst hc
   refine ⟨by omega,fun j=>?_⟩
   unfold upd
   split
   ·omega
   ·split
    ·omega
    ·exact fun e=>bl2 j e.symm
 ·have b2:=n2' c h1
  have b5:=n5' c h1
  rw [sfg c h3 h4,g10 c (by omega) b2 b5,hG1.same c h1 h2 h3 h4,back c (by omega) h2]
 ·have a1:=st1.m (by rw [new_m];exact h)
  have a2:=st2.m (by rw [new_m];exact a1)
  have a3:=st3.m a2
  have a4:=st4.m (by rw [new_m];exact a3)
  have a5:=st5.m a4
  have a6:=st6.m (by omega)
  have a7:=hG1.m (by omega)
  have a8:=s7m d (by omega) (by omega)
  have a9:=s10m d (by omega) (by omega)
  omega
 ·have a1:t1.m≤s.m:=st1.mle
  have a2:t2.m≤t1.m:=st2.mle
  have a3:=st3.mle
  have a4:t4.m≤t3.m:=st4.mle
  have a5:=st5.mle
  have a6:=st6.mle
  have a7:=hG1.mle
  omega
end Go.Proofs.Ytoolodjbfphkjaa.walk
namespace Go.Proofs.Ytoolodjbfphkjaa.walk
abbrev Gap:=Int × Int
def Gap.plus (g h:Gap):Gap:=(g.1+h.1,g.2+h.2)
def Gap.turned (g:Gap):Gap:=(-g.2, -g.1)
def Gap.meet (g h:Gap):Gap:=(max g.1 h.1,min g.2 h.2)
theorem plus1 (g h:Gap):(g.plus h).1=g.1+h.1:=rfl
theorem plus2 (g h:Gap):(g.plus h).2=g.2+h.2:=rfl
theorem turned1 (g:Gap):g.turned.1 = -g.2:=rfl
theorem turned2 (g:Gap):g.turned.2 = -g.1:=rfl
theorem meet1 (g h:Gap):(g.meet h).1=max g.1 h.1:=rfl
theorem meet2 (g h:Gap):(g.meet h).2=min g.2 h.2:=rfl
structure Claim where
 (a b:Nat)
 gap:Gap
structure Closed (n:Nat) (E:Nat→Nat→Gap):Prop where
 zero:∀ i,i<n→E i i=(0,0)
 anti:∀ i j,i<n→j<n→(E j i).1 = -(E i j).2
 tri:∀ i j k,i<n→j<n→k<n→(E i j).2≤(E i k).2+(E k j).2
theorem Closed.anti' {n:Nat} {E:Nat→Nat→Gap} (c:Closed n E) {i j:Nat} (hi:i<n) (hj:j<n):(E j i).2 = -(E i j).1:=by
 have:=c.anti j i hj hi
 omega
theorem Closed.some_ {n:Nat} {E:Nat→Nat→Gap} (c:Closed n E) {i j:Nat} (hi:i<n) (hj:j<n):(E i j).1≤(E i j).2:=by
 have h1:=c.tri i i j hi hi hj
 have h2:=c.anti' hi hj
 rw [c.zero i hi] at h1
 simp only at h1
 omega
def Bnd (n:Nat) (B:Int) (E:Nat→Nat→Gap):Prop:=∀ i j,i<n→j<n → -B≤(E i j).1∧(E i j).2≤B
def LeE (n:Nat) (F E:Nat→Nat→Gap):Prop:=∀ i j,i<n→j<n→(E i j).1≤(F i j).1∧(F i j).2≤(E i j).2
theorem LeE.refl (n:Nat) (E:Nat→Nat→Gap):LeE n E E:=fun _ _ _ _=>⟨Int.le_refl _,Int.le_refl _⟩
theorem LeE.trans {n:Nat} {E F G:Nat→Nat→Gap} (a:LeE n E F) (b:LeE n F G):LeE n E G:=fun i j hi hj=>⟨Int.le_trans (b i j hi hj).1 (a i j hi hj).1,Int.le_trans (a i j hi hj).2 (b i j hi hj).2⟩
def Says (c:Claim) (E:Nat→Nat→Gap):Prop:=c.gap.1≤(E c.a c.b).1∧(E c.a c.b).2≤c.gap.2
theorem Says.mono {n:Nat} {c:Claim} {E F:Nat→Nat→Gap} (h:Says c E) (l:LeE n F E) (ha:c.a<n) (hb:c.b<n):Says c F:=⟨Int.le_trans h.1 (l _ _ ha hb).1,Int.le_trans (l _ _ ha hb).2 h.2⟩
def withE (E:Nat→Nat→Gap) (c:Claim) (i j:Nat):Gap :=
 ((E i j).meet (((E i c.a).plus ((E c.a c.b).meet c.gap)).plus (E c.b j))).meet (((E i c.b).plus ((E c.a c.b).meet c.gap).turned).plus (E c.a j))
def refutesE (E:Nat→Nat→Gap) (c:Claim):Prop:=((E c.a c.b).meet c.gap).1 > ((E c.a c.b).meet c.gap).2
theorem withE_1 (E:Nat→Nat→Gap) (c:Claim) (i j:Nat):(withE E c i j).1=max (max (E i j).1 ((E i c.a).1+max (E c.a c.b).1 c.gap.1+(E c.b j).1)) ((E i c.b).1 + -(min (E c.a c.b).2 c.gap.2)+(E c.a j).1):=rfl
theorem withE_2 (E:Nat→Nat→Gap) (c:Claim) (i j:Nat):(withE E c i j).2=min (min (E i j).2 ((E i c.a).2+min (E c.a c.b).2 c.gap.2+(E c.b j).2)) ((E i c.b).2 + -(max (E c.a c.b).1 c.gap.1)+(E c.a j).2):=rfl
theorem withE_le (n:Nat) (E:Nat→Nat→Gap) (c:Claim):LeE n (withE E c) E:=fun i j _ _=>by
 rw [withE_1,withE_2]
 omega
theorem tri_mins (ij ia bj ib aj ik ka bk kb ak kj g1 g2 ab ba:Int) (h1:ij≤ik+kj) (h2:ia≤ik+ka) (h3:ib≤ik+kb) (h4:bj≤bk+kj) (h5:aj≤ak+kj) (h6:ba≤bk+ka) (h7:ab≤ak+kb) (h8:0≤bk+kb) (h9:0≤ak+ka)
  (h10:ij≤ia+aj) (h11:ij≤ib+bj) (g:g1≤g2) (ha:g2≤ab) (hb : -g1≤ba) :
  min (min ij (ia+g2+bj)) (ib + -g1+aj)≤min (min ik (ia+g2+bk)) (ib + -g1+ak)+min (min kj (ka+g2+bj)) (kb + -g1+aj):=by
 omega
theorem withE_closed {n:Nat} {E:Nat→Nat→Gap} {c:Claim} (cl:Closed n E) (ha:c.a<n) (hb:c.b<n) (hr:¬ refutesE E c):Closed n (withE E c):=by
 unfold refutesE at hr
 rw [meet1,meet2] at hr
 have z:=cl.anti' ha hb
 refine ⟨fun i hi=>?_,fun i j hi hj=>?_,fun i j k hi hj hk=>?_⟩
 ·have t:=cl.tri c.b c.a i hb ha hi
  have t2:=cl.tri c.a c.b i ha hb hi
  have a1:=cl.anti' ha hi
  have a2:=cl.anti' hb hi
  have a3:=cl.anti c.a i ha hi
  have a4:=cl.anti c.b i hb hi
  have e1:(withE E c i i).1=0:=by rw [withE_1,cl.zero i hi];simp only;omega
  have e2:(withE E c i i).2=0:=by rw [withE_2,cl.zero i hi];simp only;omega
  exact Prod.ext e1 e2
 ·have a0:=cl.anti i j hi hj
  have a1:=cl.anti i c.a hi ha
  have a2:=cl.anti i c.b hi hb
  have a3:=cl.anti c.a j ha hj
  have a4:=cl.anti c.b j hb hj
  rw [withE_1,withE_2]
  omega
 ·rw [withE_2,withE_2,withE_2]
  have z1:=cl.zero c.a ha
  have z2:=cl.zero c.b hb
  have t8:=cl.tri c.b c.b k hb hb hk
  have t9:=cl.tri c.a c.a k ha ha hk
  rw [z2] at t8
  rw [z1] at t9
  exact tri_mins _ _ _ _ _ _ _ _ _ _ _ (max (E c.a c.b).1 c.gap.1) (min (E c.a c.b).2 c.gap.2) (E c.a c.b).2 (E c.b c.a).2 (cl.tri i j k hi hj hk) (cl.tri i c.a k hi ha hk) (cl.tri i c.b k hi hb hk) (cl.tri c.b j k hb hj hk) (cl.tri c.a j k ha hj hk) (cl.tri c.b c.a k hb ha hk) (cl.tri c.a c.b k ha hb hk) t8 t9 (cl.tri i j c.a hi hj ha) (cl.tri i j c.b hi hj hb) (by omega) (by omega) (by omega)
theorem Bnd.le {n:Nat} {B:Int} {E F:Nat→Nat→Gap} (b:Bnd n B E) (l:LeE n F E):Bnd n B F:=fun i j hi hj=>by
 have:=b i j hi hj
 have:=l i j hi hj
 omega
def moreE (n:Nat) (E:Nat→Nat→Gap) (b:Nat) (g:Gap) (i j:Nat):Gap :=
 if i<n then (if j<n then E i j else (g.plus (E b i)).turned) else if j<n then g.plus (E b j) else (0,0)
theorem moreE_closed {n:Nat} {E:Nat→Nat→Gap} {b:Nat} {g:Gap} (cl:Closed n E) (hb:b<n) (hg:g.1≤g.2):Closed (n+1) (moreE n E b g):=by
 refine ⟨fun i hi=>?_,fun i j hi hj=>?_,fun i j k hi hj hk=>?_⟩
 ·unfold moreE
  split
  ·exact cl.zero i ‹_›
  ·rfl
 ·unfold moreE
  by_cases h1:i<n<;>by_cases h2:j<n<;>simp only [h1,h2,if_true,if_false,plus1,plus2,turned1,turned2]
  ·exact cl.anti i j h1 h2
  ·omega
  ·rfl
 ·unfold moreE
  by_cases h1:i<n<;>by_cases h2:j<n<;>by_cases h3:k<n<;>simp only [h1,h2,h3,if_true,if_false,plus1,plus2,turned1,turned2]
  ·exact cl.tri i j k h1 h2 h3
  ·have:=cl.tri i j b h1 h2 hb
   have:=cl.anti' hb h1
   omega
  ·have:=cl.anti' hb h1
   have:=cl.anti' hb h3
   have:=cl.tri i b k h1 hb h3
   omega
  ·omega
  ·have:=cl.tri b j k hb h2 h3
   omega
  ·omega
  ·have:=cl.anti' hb h3
   have:=cl.tri b b k hb hb h3
   rw [cl.zero b hb] at this
   simp only at this
   omega
  ·omega
theorem moreE_old {n:Nat} {E:Nat→Nat→Gap} {b:Nat} {g:Gap} {i j:Nat} (hi:i<n) (hj:j<n):moreE n E b g i j=E i j:=by unfold moreE;rw [if_pos hi,if_pos hj]
theorem moreE_bnd {n:Nat} {E:Nat→Nat→Gap} {b:Nat} {g:Gap} {B k:Int} (h:Bnd n B E) (hb:b<n) (hg : -k≤g.1∧g.2≤k) (h0:0≤B∧0≤k):Bnd (n+1) (B+k) (moreE n E b g):=fun i j hi hj=>by
 unfold moreE
 by_cases h1:i<n<;>by_cases h2:j<n<;>simp only [h1,h2,if_true,if_false,plus1,plus2,turned1,turned2]
 ·have:=h i j h1 h2
  omega
 ·have:=h b i hb h1
  omega
 ·have:=h b j hb h2
  omega
 ·omega
end Go.Proofs.Ytoolodjbfphkjaa.walk
set_option maxRecDepth 10000
namespace Go.Proofs.Ytoolodjbfphkjaa.walk
open Go.Abs Go.Proofs.Ytoolodjbfphkjaa.code
def gapRow (l:List Gap):List (List AV):=l.map fun g=>[.int .i64 g.1,.int .i64 g.2]
theorem gapRow_len (l:List Gap):(gapRow l).length=l.length:=List.length_map ..
theorem gapRow_at (l:List Gap) (i:Nat) (h:i<(gapRow l).length) (h':i<l.length):(gapRow l)[i]=[.int .i64 l[i].1,.int .i64 l[i].2]:=by simp [gapRow]
structure GTab (h:Heap) (n:Nat) (T:List (List Gap)) (v:AV):Prop where
 ok:∀ t,okA (.val v t)=.val v t
 sc:v.scalar=true
 len:∀ s,lenSlA s v=.val (.int .i64 T.length) s
 at_:∀ i (hi:i<T.length),∃ b p c sz vr,b<n∧(∀ s,ixsA 1 s v (.int .i64 i)=.val (.ptr b p) s)∧h.get b=some (.cells c sz)∧nth c p=vr∧(∀ t,okA (.val vr t)=.val vr t)∧RowsAt h n 2 (gapRow T[i]) vr
theorem GTab.grow {h h':Heap} {n n':Nat} {T:List (List Gap)} {v:AV} (r:GTab h n T v) (hh:∀ b,b<n→h'.get b=h.get b) (hn:n≤n'):GTab h' n' T v :=
 ⟨r.ok,r.sc,r.len,fun i hi=>by
  obtain ⟨b,p,c,sz,vr,h1,h2,h3,h4,h5,h6⟩:=r.at_ i hi
  exact ⟨b,p,c,sz,vr,by omega,h2,by rw [hh b h1];exact h3,h4,h5,h6.grow hh hn⟩⟩
def GTabF (h:Heap) (lo n:Nat) (T:List (List Gap)) (v:AV):Prop:=∀ h':Heap,(∀ x,lo≤x→x<n→h'.get x=h.get x)→GTab h' n T v
theorem GTabF.tab {h:Heap} {lo n:Nat} {T:List (List Gap)} {v:AV} (g:GTabF h lo n T v):GTab h n T v:=g h fun _ _ _=>rfl
theorem GTabF.mono {h h':Heap} {lo n n':Nat} {T:List (List Gap)} {v:AV} (g:GTabF h lo n T v) (hh:∀ x,lo≤x→x<n→h'.get x=h.get x) (hn:n≤n'):GTabF h' lo n' T v:=fun k hk=>(g k fun x h1 h2=>(hk x h1 (by omega)).trans (hh x h1 h2)).grow (fun _ _=>rfl) hn
theorem GTabF.mono' {h h':Heap} {lo lo' n n':Nat} {T:List (List Gap)} {v:AV} (g:GTabF h lo n T v) (hh:∀ x,lo≤x→x<n→h'.get x=h.get x) (hl:lo'≤lo) (hn:n≤n'):GTabF h' lo' n' T v:=fun k hk=>(g k fun x h1 h2=>(hk x (by omega) (by omega)).trans (hh x h1 h2)).grow (fun _ _=>rfl) hn
def Square (n:Nat) (T:List (List Gap)):Prop:=T.length=n∧∀ r ∈ T,r.length=n
def ent (T:List (List Gap)) (i j:Nat):Gap:=(T.getD i []).getD j (0,0)
theorem ent_at {n:Nat} {T:List (List Gap)} (q:Square n T) {i j:Nat} (hi:i<n) (hj:j<n) (h1:i<T.length) (h2:j<T[i].length):T[i][j]=ent T i j:=by
 simp [ent,List.getD,h1,h2]
theorem GTab.row {h:Heap} {m n:Nat} {T:List (List Gap)} {v:AV} (g:GTab h m T v) (q:Square n T) {i:Nat} (hi:i<n) :
  ∃ b p c sz vr,b<m∧(∀ s,ixsA 1 s v (.int .i64 i)=.val (.ptr b p) s)∧h.get b=some (.cells c sz)∧nth c p=vr∧(∀ t,okA (.val vr t)=.val vr t)∧vr≠.bad∧(∀ s,lenSlA s vr=.val (.int .i64 n) s) ∧
   ∀ j,j<n→∃ b p c sz,b<m∧(∀ s,ixsA 2 s vr (.int .i64 j)=.val (.ptr b p) s)∧h.get b=some (.cells c sz)∧cut p 2 c=some [.int .i64 (ent T i j).1,.int .i64 (ent T i j).2]:=by
 have hi':i<T.length:=by rw [q.1];exact hi
 obtain ⟨b,p,c,sz,vr,h1,h2,h3,h4,h5,h6⟩:=g.at_ i hi'
 have hl:T[i].length=n:=q.2 _ (List.getElem_mem hi')
 have l1:=h6.len
 rw [gapRow_len,hl] at l1
 refine ⟨b,p,c,sz,vr,h1,h2,h3,h4,h5,h6.ne,l1,fun j hj=>?_⟩
 have hj':j<T[i].length:=by omega
 obtain ⟨b,p,c,sz,k1,k2,k3,k4⟩:=h6.at_ j (by rw [gapRow_len];exact hj')
 rw [gapRow_at _ _ _ hj',ent_at q hi hj hi' hj'] at k4
 exact ⟨b,p,c,sz,k1,k2,k3,k4⟩
abbrev claimV (c:Claim):AV:=.agg [.int .i64 c.a,.int .i64 c.b,.int .i64 c.gap.1,.int .i64 c.gap.2]
theorem refutes_ok (N:Nat) (hN:2≤N) (T:List (List Gap)) (n0:Nat) (v:AV) (c:Claim) (s:St) (hT:GTab s.h s.n T v) (q:Square n0 T) (ha:c.a<n0) (hb:c.b<n0) (hs:s.n+300≤far) :
  call Try.prog X N (.fn 53) [v,claimV c] s=.val (.bool (decide (((ent T c.a c.b).meet c.gap).2<((ent T c.a c.b).meet c.gap).1))) s:=by
 obtain ⟨n,rfl⟩:∃ n,N=n+1:=⟨N - 1,by omega⟩
 refine call_plain' Try.func53 (fun u uh un um=>?_) rfl
 have hf:far=1000000000:=rfl
 rw [← uh,← un] at hT
 obtain ⟨b1,p1,c1,z1,vr,d1,d2,d3,d4,d5,d6,_,d7⟩:=hT.row q ha
 obtain ⟨b2,p2,c2,z2,e1,e2,e3,e4⟩:=d7 _ hb
 have hok:=hT.ok
 rw [enter53]
 simp (disch:=first|omega|(with_unfolding_all exact rfl)|(simp only[new_n,put_n,new_m];omega)|(refine put_m_le ?_;simp only[new_m];omega)) only [res53,K53r0,K53r1,K53r2,K53,Abs.W,reduceIte,Nat.reduceEqDiff,Nat.reduceAdd,decide_true,decide_false,kLoop_def,Nat.reduceSub,List.cons_append,List.nil_append,List.append_nil,List.length_cons,List.length_nil,Nat.zero_add,efs,hok,d2,d3,d4,d5,e2,e3,e4,meet_ok,ixa2_0,ixa2_1]
 refine ⟨_,rfl,?_⟩
 refine put_m_le0 ?_ ?_<;>simp only [new_m,new_n]<;>omega
end Go.Proofs.Ytoolodjbfphkjaa.walk
