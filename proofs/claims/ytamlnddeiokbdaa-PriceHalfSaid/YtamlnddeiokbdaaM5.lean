/- Finds of an audit, one by one. -/
import Derived.Test.YtamlnddeiokbdaaM4
import Derived.Test.YtamlnddeiokbdaaM2
import Derived.Test.YtamlnddeiokbdaaCodes
import Derived.Test.YtamlnddeiokbdaaM1
import Derived.Test.YtamlnddeiokbdaaM3
import Derived.Test.YtamlnddeiokbdaaWalkAll
set_option linter.unusedSimpArgs false
set_option maxHeartbeats 16000000
set_option linter.unusedVariables false
set_option maxRecDepth 10000
namespace Go.Proofs.Ytamlnddeiokbdaa.walk
open Go.Abs Go.Proofs.Ytamlnddeiokbdaa.code
structure Fnd where
 sale:Nat
 gr:Int
 ce:Int
def Fnd.cells (f:Fnd):List AV:=[.int .i64 (f.sale:Int),.int .i64 f.gr,.int .i64 f.ce]
structure FindsOk (S:List Sale) (F:List Fnd):Prop where
 lt:∀ i (h:i<F.length),F[i].sale<S.length
 gr:∀ i (h:i<F.length) (h':F[i].sale<S.length),S[F[i].sale].gl≤F[i].gr∧F[i].gr≤S[F[i].sale].gh
 ce:∀ i (h:i<F.length) (h':F[i].sale<S.length),S[F[i].sale].cl≤F[i].ce∧F[i].ce≤S[F[i].sale].ch
 ne:∀ i j (hi:i<F.length) (hj:j<i),F[j].sale≠F[i].sale
theorem fnd_cut {F:List Fnd} {j:Nat} (h:j<F.length):cut (j * 3) 3 (F.map Fnd.cells).flatten=some F[j].cells:=by
 have:=flatten_cut (rows:=F.map Fnd.cells) (w:=3) (i:=j) (fun r hr=>by obtain ⟨f,_,rfl⟩:=List.mem_map.mp hr;rfl) (by rw [List.length_map];exact h)
 rw [this,List.getElem_map]
theorem checkTrue_ok (N:Nat) (hN:2≤N) (x lo hi:Int) (s:St) (h:lo≤x∧x≤hi) (hs:s.n+100≤far) :
  call Try.prog X N (.fn 77) [.int .i64 x,.agg [.int .i64 lo,.int .i64 hi]] s=.val (.int .i64 0) s:=by
 obtain ⟨n,rfl⟩:∃ n,N=n+1:=⟨N - 1,by omega⟩
 have hf:far=1000000000:=rfl
 refine call_plain' Try.func77 (fun u uh un um=>?_) rfl
 have e1:decide (lo≤x)=true:=decide_eq_true h.1
 have e2:decide (x≤hi)=true:=decide_eq_true h.2
 rw [enter77]
 simp (disch:=first|omega|(with_unfolding_all exact rfl)|(simp only[new_n,put_n,new_m];omega)|(refine put_m_le ?_;simp only[new_m];omega)) only [res77,K77r0,K77r1s9,K77r1s8,K77r1s7,K77r1s6,K77r1,K77,res77,Abs.W,reduceIte,Nat.reduceEqDiff,Nat.reduceAdd,decide_true,decide_false,kLoop_def,Nat.reduceSub,List.cons_append,List.nil_append,List.append_nil,List.length_cons,List.length_nil,Env.find_set,e1,e2,unless_ok,Nat.zero_add]
 exact ⟨_,rfl,by simp only [new_m];omega⟩
theorem other_ok (N:Nat) (hN:1≤N) (f g:Fnd) (q:Nat) (s:St) (hq:s.h.get q=some (.cells g.cells (tag 66))) (hqn:q<s.n) (hne:f.sale≠g.sale) (hs:s.n+100≤far) :
  call Try.prog X N (.fn 76) [.agg f.cells,.ptr q 0] s=.val (.bool false) s:=by
 obtain ⟨n,rfl⟩:∃ n,N=n+1:=⟨N - 1,by omega⟩
 have hf:far=1000000000:=rfl
 refine call_plain' Try.func76 (fun u uh un um=>?_) rfl
 rw [← uh] at hq
 rw [← un] at hqn hs
 have e1:decide ((f.sale:Int)=(g.sale:Int))=false:=decide_eq_false (by omega)
 have sc:scalars f.cells=true:=rfl
 obtain ⟨w,hw⟩:∃ w:St,w=u.new (.cells f.cells (tag 66)):=⟨_,rfl⟩
 have wn:w.n=u.n+1:=by rw [hw];rfl
 have wm:w.m=far:=by rw [hw];exact um
 have w0:w.h.get u.n=some (.cells f.cells (tag 66)):=by rw [hw];exact get_new_eq _ _ _ rfl (by omega)
 have wq:w.h.get q=some (.cells g.cells (tag 66)):=by rw [hw,get_new_ne _ _ _ (by omega)];exact hq
 rw [enter76]
 simp (disch:=first|omega|(with_unfolding_all exact rfl)|(simp only[new_n,put_n,new_m];omega)|(refine put_m_le ?_;simp only[new_m];omega)) only [K76,K76r0,res76,Abs.W,reduceIte,Nat.reduceEqDiff,Nat.reduceAdd,decide_true,decide_false,kLoop_def,Nat.reduceSub,List.cons_append,List.nil_append,List.append_nil,List.length_cons,List.length_nil,Env.find_set,sc,Nat.zero_add]
 rw [← hw]
 clear hw
 unfold Fnd.cells at w0 wq
 simp (disch:=first|omega|(with_unfolding_all exact rfl)|(simp only[new_n,put_n,new_m];omega)|(refine put_m_le ?_;simp only[new_m];omega)) only [K76r1,Abs.W,reduceIte,Nat.reduceEqDiff,Nat.reduceAdd,decide_true,decide_false,kLoop_def,Nat.reduceSub,List.cons_append,List.nil_append,List.append_nil,List.length_cons,List.length_nil,Env.find_set,w0,wq,e1,Nat.zero_add]
 exact ⟨_,rfl,by omega⟩
theorem index_ok (N:Nat) (hN:2≤N) {F:List Fnd} {g:Fnd} {fb i q sz:Nat} {s:St} (hb:s.h.get fb=some (.cells (F.map Fnd.cells).flatten sz)) (hi:i≤F.length) (hl:F.length≤40) (hq:s.h.get q=some (.cells g.cells (tag 66))) (hqn:q<s.n) (hne:∀ j (h:j<F.length),j<i→F[j].sale≠g.sale) (hs:s.n+1000≤far) :
  call Try.prog X N (.fn 78) [.slice fb 0 i F.length true,.func 76 [] [.ptr q 0]] s=.val (.int .i64 (-1)) s:=by
 obtain ⟨n,rfl⟩:∃ n,N=n+1:=⟨N - 1,by omega⟩
 have hf:far=1000000000:=rfl
 refine call_plain' Try.func78 (fun u uh un um=>?_) rfl
 rw [← uh] at hb hq
 rw [← un] at hqn hs
 rw [enter78]
 simp (disch:=first|omega|(with_unfolding_all exact rfl)|(simp only[new_n,put_n,new_m];omega)|(refine put_m_le ?_;simp only[new_m];omega)) only [K78,K78r0,K78r1,Abs.W,reduceIte,Nat.reduceEqDiff,Nat.reduceAdd,decide_true,decide_false,kLoop_def,Nat.reduceSub,List.cons_append,List.nil_append,List.append_nil,List.length_cons,List.length_nil,Env.find_set,Nat.zero_add]
 generalize hlp:loopN _ rounds _ _ _ _ _=rl
 obtain ⟨e,L1,t2,rfl,rfl,rfl⟩:=loop_of hlp
  (fun j L' t'=>t'=u∧L'.find 0=.slice fb 0 i F.length true∧L'.find 1=.func 76 [] [.ptr q 0]∧L'.find 7=.int .i64 (i:Int)∧L'.find 8=.int .i64 (j:Int))
  (fun e L' t'=>e=.exit 0∧t'=u) i (by unfold rounds;omega)
  ⟨rfl,by simp only [find_cons,Env.find_set,reduceIte,Nat.reduceEqDiff],by simp only [find_cons,Env.find_set,reduceIte,Nat.reduceEqDiff],by simp only [find_cons,Env.find_set,reduceIte,Nat.reduceEqDiff],by simp only [find_cons,Env.find_set,reduceIte,Nat.reduceEqDiff];rfl⟩
  (fun j L' t' hj ⟨h1,q0,q1,q7,q8⟩=>by
   subst h1
   by_cases hlt:j<i
   ·have e0:decide ((j:Int)<(i:Int))=true:=decide_eq_true (by omega)
    have hjF:j<F.length:=by omega
    have ix:∀ s,ixsA 3 s (.slice fb 0 i F.length true) (.int .i64 (j:Int))=.val (.ptr fb (j * 3)) s:=fun s=>by rw [ixs_slice _ _ _ _ _ _ _ _ hlt,Nat.zero_add]
    have ct:cut (j * 3) 3 (F.map Fnd.cells).flatten=some [.int .i64 (F[j].sale:Int),.int .i64 F[j].gr,.int .i64 F[j].ce]:=fnd_cut hjF
    have oc:call Try.prog X n (.fn 76) [.agg F[j].cells,.ptr q 0] t'=.val (.bool false) t':=other_ok n (by omega) F[j] g q t' hq hqn (hne j hjF hlt) (by omega)
    have ad:∀ s,aAdd s .i64 (j:Int) 1=.val (.int .i64 ((j+1:Nat):Int)) s:=fun s=>by rw [aAdd_i64 s _ _ (by omega)];rfl
    unfold Fnd.cells at oc
    refine .inl ⟨hlt,_,_,by
     simp (disch:=first|omega|(with_unfolding_all exact rfl)|(simp only[new_n,put_n,new_m];omega)|(refine put_m_le ?_;simp only[new_m];omega)) only [K78l0,K78r2,K78r3,K78r4,K78r6,Abs.W,reduceIte,Nat.reduceEqDiff,Nat.reduceAdd,decide_true,decide_false,kLoop_def,Nat.reduceSub,List.cons_append,List.nil_append,List.append_nil,List.length_cons,List.length_nil,Env.find_set,q0,q1,q7,q8,e0,ix,hb,ct,oc,ad,okA_fnv,Nat.zero_add]
     rfl,rfl,?_,?_,?_,?_⟩<;>simp only [Env.find_set,q0,q1,q7,reduceIte,Nat.reduceEqDiff]
   ·obtain rfl:j=i:=by omega
    have e0:decide ((j:Int)<(j:Int))=false:=by simp
    refine .inr ⟨.exit 0,L'.set 9 (.bool false),_,by simp,?_,rfl,rfl⟩
    simp (disch:=first|omega|(with_unfolding_all exact rfl)|(simp only[new_n,put_n,new_m];omega)|(refine put_m_le ?_;simp only[new_m];omega)) only [K78l0,K78r2,Abs.W,reduceIte,Nat.reduceEqDiff,Nat.reduceAdd,decide_true,decide_false,kLoop_def,Nat.reduceSub,List.cons_append,List.nil_append,List.append_nil,List.length_cons,List.length_nil,Env.find_set,q7,q8,e0])
 simp (disch:=first|omega|(with_unfolding_all exact rfl)|(simp only[new_n,put_n,new_m];omega)|(refine put_m_le ?_;simp only[new_m];omega)) only [K78r7,res78,Abs.W,reduceIte,Nat.reduceEqDiff,Nat.reduceAdd,decide_true,decide_false,kLoop_def,Nat.reduceSub,List.cons_append,List.nil_append,List.append_nil,List.length_cons,List.length_nil,Env.find_set]
 exact ⟨_,rfl,by omega⟩
theorem contains_ok (N:Nat) (hN:3≤N) {F:List Fnd} {g:Fnd} {fb i q sz:Nat} {s:St} (hb:s.h.get fb=some (.cells (F.map Fnd.cells).flatten sz)) (hi:i≤F.length) (hl:F.length≤40) (hq:s.h.get q=some (.cells g.cells (tag 66))) (hqn:q<s.n) (hne:∀ j (h:j<F.length),j<i→F[j].sale≠g.sale) (hs:s.n+1000≤far) :
  call Try.prog X N (.fn 75) [.slice fb 0 i F.length true,.func 76 [] [.ptr q 0]] s=.val (.bool false) s:=by
 obtain ⟨n,rfl⟩:∃ n,N=n+1:=⟨N - 1,by omega⟩
 have hf:far=1000000000:=rfl
 refine call_plain' Try.func75 (fun u uh un um=>?_) rfl
 rw [← uh] at hb hq
 rw [← un] at hqn hs
 have ic:=index_ok n (by omega) hb hi hl hq hqn hne hs
 have e1:decide ((-1:Int) ≥ 0)=false:=rfl
 have e2:decide ((0:Int) ≤ -1)=false:=rfl
 rw [enter75]
 simp (disch:=first|omega|(with_unfolding_all exact rfl)|(simp only[new_n,put_n,new_m];omega)|(refine put_m_le ?_;simp only[new_m];omega)) only [res75,K75r0,K75r1,K75,res75,Abs.W,reduceIte,Nat.reduceEqDiff,Nat.reduceAdd,decide_true,decide_false,kLoop_def,Nat.reduceSub,List.cons_append,List.nil_append,List.append_nil,List.length_cons,List.length_nil,Env.find_set,ic,e1,e2,okA_fnv]
 exact ⟨_,rfl,by omega⟩
theorem checkFind_ok (N:Nat) (hN:4≤N) {F:List Fnd} {S:List Sale} {fb i sz:Nat} {vs:AV} {s:St} (ok:FindsOk S F) (hi:i<F.length) (hl:F.length≤40) (hS:S.length≤40) (hb:s.h.get fb=some (.cells (F.map Fnd.cells).flatten sz)) (hbn:fb<s.n) (RS:RowsAt s.h s.n 6 (S.map Sale.cells) vs) (hs:s.n+2000≤far) :
  call Try.prog X N (.fn 70) [vs,.agg F[i].cells,.slice fb 0 i F.length true] s=.val (.int .i64 0) s:=by
 obtain ⟨n,rfl⟩:∃ n,N=n+1:=⟨N - 1,by omega⟩
 have hf:far=1000000000:=rfl
 refine call_plain' Try.func70 (fun u uh un um=>?_) rfl
 rw [← uh] at hb RS
 rw [← un] at hbn RS hs
 have k1:=ok.lt i hi
 have k2:=ok.gr i hi k1
 have k3:=ok.ce i hi k1
 have k4:=ok.ne i
 have kv:∀ t,okA (.val vs t)=.val vs t:=fun t=>okA_ne RS.ne
 have lv:=RS.len
 rw [List.length_map] at lv
 obtain ⟨x0,o0,cs,csz,r1,r2,r3,r4⟩:=RS.at_ F[i].sale (by rw [List.length_map];exact k1)
 rw [List.getElem_map] at r4
 have hnd:∀ j (h:j<F.length),j<i→F[j].sale≠F[i].sale:=fun j _ hj=>k4 j hi hj
 generalize S[F[i].sale]=M at *
 generalize F[i]=f at *
 unfold Sale.cells at r4
 have sc:scalars f.cells=true:=rfl
 obtain ⟨w,hw⟩:∃ w:St,w=u.new (.cells f.cells (tag 66)):=⟨_,rfl⟩
 have wn:w.n=u.n+1:=by rw [hw];rfl
 have wm:w.m=far:=by rw [hw];exact um
 have wg:∀ c,c<u.n→w.h.get c=u.h.get c:=fun c hc=>by rw [hw,get_new_ne _ _ _ (by omega)]
 have w0:w.h.get u.n=some (.cells f.cells (tag 66)):=by rw [hw];exact get_new_eq _ _ _ rfl (by omega)
 have wx:=(wg x0 r1).trans r3
 have wb:=(wg fb hbn).trans hb
 rw [enter70]
 simp (disch:=first|omega|(with_unfolding_all exact rfl)|(simp only[new_n,put_n,new_m];omega)|(refine put_m_le ?_;simp only[new_m];omega)) only [K70,K70r0,res70,Abs.W,reduceIte,Nat.reduceEqDiff,Nat.reduceAdd,decide_true,decide_false,kLoop_def,Nat.reduceSub,List.cons_append,List.nil_append,List.append_nil,List.length_cons,List.length_nil,Env.find_set,sc,Nat.zero_add]
 rw [← hw]
 clear hw
 have z0:decide ((0:Int)=0)=true:=rfl
 obtain ⟨x,hx⟩:∃ x:St,x=(w.new (.cells [.int .i64 0,.int .i64 0,.int .i64 0,.int .i64 0,.int .i64 0,.int .i64 0] (tag 51))).put w.n (.cells [.int .i64 M.st,.int .i64 M.gd,.int .i64 M.gl,.int .i64 M.gh,.int .i64 M.cl,.int .i64 M.ch] (tag 51)):=⟨_,rfl⟩
 have xn:x.n=w.n+1:=by rw [hx];rfl
 have xm:x.m≤far:=by rw [hx];simp only [St.put,minN_eq,new_m];omega
 have xm2:u.n≤x.m:=by rw [hx];simp only [St.put,minN_eq,new_m];omega
 have xg:∀ c,c<w.n→x.h.get c=w.h.get c:=fun c hc=>by rw [hx,get_put_ne' _ _ _ _ (by omega),get_new_ne _ _ _ (by omega)]
 have x8:x.h.get w.n=some (.cells [.int .i64 M.st,.int .i64 M.gd,.int .i64 M.gl,.int .i64 M.gh,.int .i64 M.cl,.int .i64 M.ch] (tag 51)):=by rw [hx];exact get_put_eq _ _ _ _ rfl (by omega)
 have x4:=(xg u.n (by omega)).trans w0
 have cn:=contains_ok n (by omega) (g:=f) (q:=u.n) (s:=x) ((xg fb (by omega)).trans wb) (by omega:i≤F.length) hl x4 (by omega) hnd (by omega)
 unfold Fnd.cells at w0 x4
 have nm:call Try.prog X n (.fn 43) [.int .i64 (f.sale:Int),.int .i64 (S.length:Int)] w=.val (.int .i64 0) w:=named_ok n (by omega) _ _ w (by omega) (by omega) (by omega)
 simp (disch:=first|omega|(with_unfolding_all exact rfl)|(simp only[new_n,put_n,new_m];omega)|(refine put_m_le ?_;simp only[new_m];omega)) only [K70r1,K70r2,K70r4,Abs.W,reduceIte,Nat.reduceEqDiff,Nat.reduceAdd,decide_true,decide_false,kLoop_def,Nat.reduceSub,List.cons_append,List.nil_append,List.append_nil,List.length_cons,List.length_nil,Env.find_set,kv,lv,w0,wx,nm,z0,r2,r4,Nat.zero_add]
 rw [← hx]
 clear hx
 simp (disch:=first|omega|(with_unfolding_all exact rfl)|(simp only[new_n,put_n,new_m];omega)|(refine put_m_le ?_;simp only[new_m];omega)) only [K70r5,Abs.W,reduceIte,Nat.reduceEqDiff,Nat.reduceAdd,decide_true,decide_false,kLoop_def,Nat.reduceSub,List.cons_append,List.nil_append,List.append_nil,List.length_cons,List.length_nil,Env.find_set,kFuncE',okA_fnv,cn,Nat.zero_add]
 have c1:∀ m,call Try.prog X n (.fn 77) [.int .i64 f.gr,.agg [.int .i64 M.gl,.int .i64 M.gh]] ⟨x.h,x.n,m⟩=.val (.int .i64 0) ⟨x.h,x.n,m⟩:=fun m=>checkTrue_ok n (by omega) _ _ _ _ k2 (by show x.n+100≤far;omega)
 have c2:call Try.prog X n (.fn 77) [.int .i64 f.ce,.agg [.int .i64 M.cl,.int .i64 M.ch]] x=.val (.int .i64 0) x:=checkTrue_ok n (by omega) _ _ _ _ k3 (by omega)
 simp (disch:=first|omega|(with_unfolding_all exact rfl)|(simp only[new_n,put_n,new_m];omega)|(refine put_m_le ?_;simp only[new_m];omega)) only [K70r6,Abs.W,reduceIte,Nat.reduceEqDiff,Nat.reduceAdd,decide_true,decide_false,kLoop_def,Nat.reduceSub,List.cons_append,List.nil_append,List.append_nil,List.length_cons,List.length_nil,Env.find_set,x4,x8,unless_ok,c1,c2,or_new3,endO_nil,Nat.zero_add]
 exact ⟨_,rfl,by simp only [new_m];omega⟩
end Go.Proofs.Ytamlnddeiokbdaa.walk
set_option maxRecDepth 10000
namespace Go.Proofs.Ytamlnddeiokbdaa.walk
open Go.Abs Go.Proofs.Ytamlnddeiokbdaa.code
def Die (d:Nat) (h:Heap):Prop:=∃ f,h.get d=some (.cells [.int .u64 f] (tag 69))
theorem roll_ex {N d:Nat} {s:St} {r:ARes} (hr:call Try.prog X N (.fn 30) [.ptr d 0] s=r) (hN:1≤N) (hd:Die d s.h) (hlt:d<s.n) (hs:s.n+10≤far) :
  ∃ x t,r=.val (.int .u64 x) t∧Stir d s t 0∧Die d t.h∧0≤x∧x≤18446744073709551615:=by
 obtain ⟨n,rfl⟩:∃ n,N=n+1:=⟨N - 1,by omega⟩
 have hf:far=1000000000:=rfl
 obtain ⟨f,hg⟩:=hd
 obtain ⟨v,t,e,st,⟨x,rfl,x0,x1⟩,hd'⟩:=call_stir_plain (n:=n) (args:=[.ptr d 0]) (d:=d) (k:=0) (Q:=fun v=>∃ x,v=.int .u64 x∧0≤x∧x≤18446744073709551615) (R:=Die d) Try.func30 ⟨f,hg⟩ (fun u uh un um=>by
  rw [← uh] at hg
  rw [enter30]
  simp (disch:=first|omega|(with_unfolding_all exact rfl)|(simp only[new_n,put_n,new_m];omega)|(refine put_m_le ?_;simp only[new_m];omega)) only [res30,K30r0,K30r1,K30r2,K30r3,K30r4,K30r5,K30,Abs.W,reduceIte,Nat.reduceEqDiff,Nat.reduceAdd,decide_true,decide_false,kLoop_def,Nat.reduceSub,List.cons_append,List.nil_append,List.append_nil,List.length_cons,List.length_nil,hg,Nat.zero_add,ints_u64,kShr_def,shrA_u64,aAdd_def,aMul_def,aXor_def]
  refine ⟨_,_,rfl,(Stir.refl d u).put (by omega) _ (.inl rfl),rfl,⟨_,rfl,?_⟩,⟨_,get_put_eq _ _ _ _ rfl (by omega)⟩⟩
  exact xorI_range _ _) (by omega)
 exact ⟨x,t,hr.symm.trans e,st,hd',x0,x1⟩
theorem cast_ex {N d:Nat} {n:Int} {s:St} {r:ARes} (hr:call Try.prog X N (.fn 33) [.ptr d 0,.int .i64 n] s=r) (hN:2≤N) (hd:Die d s.h) (hlt:d<s.n) (hs:s.n+100≤far) (hn:n≤1000000000) :
  ∃ x t,r=.val (.int .i64 x) t∧Stir d s t 0∧Die d t.h∧0≤x∧(x<n∨x=0):=by
 obtain ⟨m,rfl⟩:∃ m,N=m+1:=⟨N - 1,by omega⟩
 have hf:far=1000000000:=rfl
 obtain ⟨v,t,e,st,⟨x,rfl,x0,x1⟩,hd'⟩:=call_stir_plain (n:=m) (args:=[.ptr d 0,.int .i64 n]) (d:=d) (k:=0) (Q:=fun v=>∃ x,v=.int .i64 x∧0≤x∧(x<n∨x=0)) (R:=Die d) Try.func33 hd (fun u uh un um=>by
  rw [← uh] at hd
  rw [enter33]
  by_cases hlow:n<2
  ·have e0:decide (n<2)=true:=by simpa using hlow
   simp (disch:=first|omega|(with_unfolding_all exact rfl)|(simp only[new_n,put_n,new_m];omega)|(refine put_m_le ?_;simp only[new_m];omega)) only [res33,K33r0,K33r1,K33r2,K33r3,K33,Abs.W,reduceIte,Nat.reduceEqDiff,Nat.reduceAdd,decide_true,decide_false,kLoop_def,Nat.reduceSub,List.cons_append,List.nil_append,List.append_nil,List.length_cons,List.length_nil,e0]
   exact ⟨_,_,rfl,Stir.refl d u,rfl,⟨0,rfl,by omega,.inr rfl⟩,hd⟩
  ·have e0:decide (n<2)=false:=by simpa using hlow
   simp (disch:=first|omega|(with_unfolding_all exact rfl)|(simp only[new_n,put_n,new_m];omega)|(refine put_m_le ?_;simp only[new_m];omega)) only [res33,K33r0,K33r1,K33r2,K33r3,K33,Abs.W,reduceIte,Nat.reduceEqDiff,Nat.reduceAdd,decide_true,decide_false,kLoop_def,Nat.reduceSub,List.cons_append,List.nil_append,List.append_nil,List.length_cons,List.length_nil,e0]
   generalize hc:call _ _ _ (.fn 30) _ _=r1
   obtain ⟨y,w,rfl,sw,dw,y0,y1⟩:=roll_ex hc (by omega) hd (by omega) (by omega)
   have q0:0≤shrI y 2:=shrI_nonneg _ _ y0
   have q2:0≤(shrI y 2).tmod n:=Int.tmod_nonneg _ q0
   have q3:(shrI y 2).tmod n<n:=Int.tmod_lt_of_pos _ (by omega)
   have w1:wrapA .u64 n=n:=wrap_u64 n (by omega)
   have w2:wrapA .i64 ((shrI y 2).tmod n)=(shrI y 2).tmod n:=wrap_in _ (by omega)
   have w3:∀ s,aRem s .u64 (shrI y 2) n=.val (.int .u64 ((shrI y 2).tmod n)) s:=fun s=>aRem_ne s _ _ _ (by omega)
   simp (disch:=first|omega|(with_unfolding_all exact rfl)|(simp only[new_n,put_n,new_m];omega)|(refine put_m_le ?_;simp only[new_m];omega)) only [res33,K33r0,K33r1,K33r2,K33r3,K33,Abs.W,reduceIte,Nat.reduceEqDiff,Nat.reduceAdd,decide_true,decide_false,kLoop_def,Nat.reduceSub,List.cons_append,List.nil_append,List.append_nil,List.length_cons,List.length_nil,ints_u64,kShr_def,shrA_u64,cviA_int,w1,w2,w3]
   exact ⟨_,_,rfl,sw,rfl,⟨_,rfl,q2,.inl q3⟩,dw⟩) (by omega)
 exact ⟨x,t,hr.symm.trans e,st,hd',x0,x1⟩
theorem from_ex {N d:Nat} {lo hi:Int} {s:St} {r:ARes} (hr:call Try.prog X N (.fn 31) [.ptr d 0,.int .i64 lo,.int .i64 hi] s=r) (hN:3≤N) (hd:Die d s.h) (hlt:d<s.n) (hs:s.n+200≤far)
  (h0 : -100000000≤lo) (h1:lo≤100000000) (h2 : -100000000≤hi) (h3:hi≤100000000) :
  ∃ x t,r=.val (.int .i64 x) t∧Stir d s t 0∧Die d t.h∧lo≤x∧(x≤hi∨x=lo):=by
 obtain ⟨m,rfl⟩:∃ m,N=m+1:=⟨N - 1,by omega⟩
 have hf:far=1000000000:=rfl
 obtain ⟨v,t,e,st,⟨x,rfl,x0,x1⟩,hd'⟩:=call_stir_plain (n:=m) (args:=[.ptr d 0,.int .i64 lo,.int .i64 hi]) (d:=d) (k:=0) (Q:=fun v=>∃ x,v=.int .i64 x∧lo≤x∧(x≤hi∨x=lo)) (R:=Die d) Try.func31 hd (fun u uh un um=>by
  rw [← uh] at hd
  have a1:∀ s,aSub s .i64 hi lo=.val (.int .i64 (hi - lo)) s:=fun s=>aSub_i64 s _ _ (by omega)
  have a2:∀ s,aAdd s .i64 (hi - lo) 1=.val (.int .i64 (hi - lo+1)) s:=fun s=>aAdd_i64 s _ _ (by omega)
  rw [enter31]
  simp (disch:=first|omega|(with_unfolding_all exact rfl)|(simp only[new_n,put_n,new_m];omega)|(refine put_m_le ?_;simp only[new_m];omega)) only [res31,K31r0,K31r1,K31,Abs.W,reduceIte,Nat.reduceEqDiff,Nat.reduceAdd,decide_true,decide_false,kLoop_def,Nat.reduceSub,List.cons_append,List.nil_append,List.append_nil,List.length_cons,List.length_nil,a1,a2]
  generalize hc:call _ _ _ (.fn 33) _ _=r1
  obtain ⟨y,w,rfl,sw,dw,y0,y1⟩:=cast_ex hc (by omega) hd (by omega) (by omega) (by omega)
  have a3:∀ s,aAdd s .i64 lo y=.val (.int .i64 (lo+y)) s:=fun s=>aAdd_i64 s _ _ (by omega)
  simp (disch:=first|omega|(with_unfolding_all exact rfl)|(simp only[new_n,put_n,new_m];omega)|(refine put_m_le ?_;simp only[new_m];omega)) only [res31,K31r0,K31r1,K31,Abs.W,reduceIte,Nat.reduceEqDiff,Nat.reduceAdd,decide_true,decide_false,kLoop_def,Nat.reduceSub,List.cons_append,List.nil_append,List.append_nil,List.length_cons,List.length_nil,a3]
  exact ⟨_,_,rfl,sw,rfl,⟨_,rfl,by omega,by omega⟩,dw⟩) (by omega)
 exact ⟨x,t,hr.symm.trans e,st,hd',x0,x1⟩
theorem nth_ints:∀ {l:List Int} {i:Nat},i<l.length→∃ x ∈ l,nth (l.map fun x=>AV.int .i64 x) i=.int .i64 x
 | [],i,h=>by simp at h
 | a::l,0,_=>⟨a,List.mem_cons_self ..,rfl⟩
 | a::l,i+1,h=>by
  obtain ⟨x,hx,e⟩:=nth_ints (l:=l) (i:=i) (by simpa using h)
  exact ⟨x,List.mem_cons_of_mem _ hx,e⟩
theorem one_ex {N d b:Nat} {k sz:Nat} (l:List Int) {s:St} {r:ARes} (hr:call Try.prog X N (.fn 32) [.ptr d 0,.slice b 0 k k false] s=r) (hN:3≤N) (hd:Die d s.h) (hlt:d<s.n) (hs:s.n+200≤far)
  (hb:s.h.get b=some (.cells (l.map fun x=>AV.int .i64 x) sz)) (hbn:b<s.n) (hbd:b≠d) (hl:l.length=k) (h0:0<k) (hk:k≤1000) :
  ∃ x t,r=.val (.int .i64 x) t∧Stir d s t 0∧Die d t.h∧x ∈ l:=by
 obtain ⟨m,rfl⟩:∃ m,N=m+1:=⟨N - 1,by omega⟩
 have hf:far=1000000000:=rfl
 obtain ⟨v,t,e,st,⟨x,rfl,hx⟩,hd'⟩:=call_stir_plain (n:=m) (args:=[.ptr d 0,.slice b 0 k k false]) (d:=d) (k:=0) (Q:=fun v=>∃ x,v=.int .i64 x∧x ∈ l) (R:=Die d) Try.func32 hd (fun u uh un um=>by
  rw [← uh] at hd hb
  have e0:decide ((k:Int)=0)=false:=by simp;omega
  rw [enter32]
  simp (disch:=first|omega|(with_unfolding_all exact rfl)|(simp only[new_n,put_n,new_m];omega)|(refine put_m_le ?_;simp only[new_m];omega)) only [res32,K32r0,K32r1,K32r2,K32r3,K32,Abs.W,reduceIte,Nat.reduceEqDiff,Nat.reduceAdd,decide_true,decide_false,kLoop_def,Nat.reduceSub,List.cons_append,List.nil_append,List.append_nil,List.length_cons,List.length_nil,e0]
  generalize hc:call _ _ _ (.fn 33) _ _=r1
  obtain ⟨y,w,rfl,sw,dw,y0,y1⟩:=cast_ex hc (by omega) hd (by omega) (by omega) (by omega)
  obtain ⟨i,rfl⟩:∃ i:Nat,y=i:=⟨y.toNat,by omega⟩
  have hi:i<k:=by omega
  obtain ⟨x,hx,hn⟩:=nth_ints (l:=l) (i:=i) (by omega)
  have hg:w.h.get b=some (.cells (l.map fun x=>AV.int .i64 x) sz):=by rw [sw.same b (by omega) hbd];exact hb
  simp (disch:=first|omega|(with_unfolding_all exact rfl)|(simp only[new_n,put_n,new_m];omega)|(refine put_m_le ?_;simp only[new_m];omega)) only [res32,K32r0,K32r1,K32r2,K32r3,K32,Abs.W,reduceIte,Nat.reduceEqDiff,Nat.reduceAdd,decide_true,decide_false,kLoop_def,Nat.reduceSub,List.cons_append,List.nil_append,List.append_nil,List.length_cons,List.length_nil,ixs_slice _ _ _ _ _ _ _ _ hi,Nat.mul_one,Nat.zero_add,hg,hn]
  exact ⟨_,_,rfl,sw,rfl,⟨x,rfl,hx⟩,dw⟩) (by omega)
 exact ⟨x,t,hr.symm.trans e,st,hd',hx⟩
theorem span_ex {N d:Nat} {lo hi:Int} {s:St} {r:ARes} (hr:call Try.prog X N (.fn 34) [.ptr d 0,.int .i64 lo,.int .i64 hi] s=r) (hN:4≤N) (hd:Die d s.h) (hlt:d<s.n) (hs:s.n+300≤far)
  (h0 : -1000000≤lo) (h1:lo≤hi) (h2:hi≤1000000) :
  ∃ a b t,r=.val (.agg [.int .i64 a,.int .i64 b]) t∧Stir d s t 2∧Die d t.h∧lo≤a∧a≤b∧b≤hi:=by
 obtain ⟨m,rfl⟩:∃ m,N=m+1:=⟨N - 1,by omega⟩
 have hf:far=1000000000:=rfl
 obtain ⟨v,t,e,st,⟨a,b,rfl,x0,x1,x2⟩,hd'⟩:=call_stir_plain (n:=m) (args:=[.ptr d 0,.int .i64 lo,.int .i64 hi]) (d:=d) (k:=2) (Q:=fun v=>∃ a b,v=.agg [.int .i64 a,.int .i64 b]∧lo≤a∧a≤b∧b≤hi) (R:=Die d) Try.func34 hd (fun u uh un um=>by
  rw [← uh] at hd
  have sh:shapeT Try.prog 38=some (some 2):=by kernel_rfl
  rw [enter34]
  simp (disch:=first|omega|(with_unfolding_all exact rfl)|(simp only[new_n,put_n,new_m];omega)|(refine put_m_le ?_;simp only[new_m];omega)) only [res34,K34r0,K34r1,K34r2,K34r3,K34,Abs.W,reduceIte,Nat.reduceEqDiff,Nat.reduceAdd,decide_true,decide_false,kLoop_def,Nat.reduceSub,List.cons_append,List.nil_append,List.append_nil,List.length_cons,List.length_nil]
  generalize hc:call _ _ _ (.fn 31) _ _=r1
  obtain ⟨x,w,rfl,sw,dw,y0,y1⟩:=from_ex hc (by omega) (by obtain ⟨f,hg⟩:=hd;exact ⟨f,by rw [get_new_ne _ _ _ (by omega)];exact hg⟩) (by simp only [new_n];omega) (by simp only [new_n];omega) (by omega) (by omega) (by omega) (by omega)
  have wn:=sw.n
  have wl:=sw.le
  simp only [new_n] at wn wl
  have a1:∀ s,aAdd s .i64 x 4=.val (.int .i64 (x+4)) s:=fun s=>aAdd_i64 s _ _ (by omega)
  simp (disch:=first|omega|(with_unfolding_all exact rfl)|(simp only[new_n,put_n,new_m];omega)|(refine put_m_le ?_;simp only[new_m];omega)) only [res34,K34r0,K34r1,K34r2,K34r3,K34,Abs.W,reduceIte,Nat.reduceEqDiff,Nat.reduceAdd,decide_true,decide_false,kLoop_def,Nat.reduceSub,List.cons_append,List.nil_append,List.append_nil,List.length_cons,List.length_nil,a1,kFold_def,foldA_nil,foldA_cons,minA_i64]
  generalize hc2:call _ _ _ (.fn 32) _ _=r2
  obtain ⟨y,w2,rfl,sw2,dw2,ym⟩:=one_ex [x,min hi (x+4),hi] hc2 (by omega) (by obtain ⟨f,hg⟩:=dw;exact ⟨f,by rw [get_new_ne _ _ _ (by omega)];exact hg⟩) (by simp only [new_n];omega) (by simp only [new_n];omega) (get_new_eq _ _ _ rfl (by omega)) (by simp only [new_n];omega) (by omega) rfl (by omega) (by omega)
  have wn2:=sw2.n
  have wl2:=sw2.le
  simp only [new_n] at wn2 wl2
  have ym':x≤y∧y≤hi:=by
   simp only [List.mem_cons,List.not_mem_nil,or_false] at ym
   omega
  simp (disch:=first|omega|(with_unfolding_all exact rfl)|(simp only[new_n,put_n,new_m];omega)|(refine put_m_le ?_;simp only[new_m];omega)) only [res34,K34r0,K34r1,K34r2,K34r3,K34,Abs.W,reduceIte,Nat.reduceEqDiff,Nat.reduceAdd,decide_true,decide_false,kLoop_def,Nat.reduceSub,List.cons_append,List.nil_append,List.append_nil,List.length_cons,List.length_nil]
  generalize hc3:call _ _ _ (.fn 31) _ _=r3
  obtain ⟨z,w3,rfl,sw3,dw3,z0,z1⟩:=from_ex hc3 (by omega) dw2 (by omega) (by omega) (by omega) (by omega) (by omega) (by omega)
  have wn3:=sw3.n
  have wl3:=sw3.le
  have g:w3.h.get u.n=some (.cells [.int .i64 0,.int .i64 0] (tag 38)):=by
   rw [sw3.same _ (by omega) (by omega),sw2.same _ (by simp only [new_n];omega) (by omega),get_new_ne _ _ _ (by omega),sw.same _ (by simp only [new_n];omega) (by omega)]
   exact get_new_eq _ _ _ rfl (by omega)
  simp (disch:=first|omega|(with_unfolding_all exact rfl)|(simp only[new_n,put_n,new_m];omega)|(refine put_m_le ?_;simp only[new_m];omega)) only [res34,K34r0,K34r1,K34r2,K34r3,K34,Abs.W,reduceIte,Nat.reduceEqDiff,Nat.reduceAdd,decide_true,decide_false,kLoop_def,Nat.reduceSub,List.cons_append,List.nil_append,List.append_nil,List.length_cons,List.length_nil,g]
  have S1:Stir d u w3 2:=((((((Stir.refl d u).new _).trans sw).new _).trans sw2).trans sw3)
  refine ⟨_,_,leave_cell _ _ _ _ sh ?_,S1.put (by omega) _ (.inr (Nat.le_refl _)),rfl,⟨x,z,rfl,by omega,by omega,by omega⟩,?_⟩
  ·simp (disch:=first|omega|(with_unfolding_all exact rfl)|(simp only[new_n,put_n,new_m];omega)|(refine put_m_le ?_;simp only[new_m];omega)) only [Abs.W,reduceIte,Nat.reduceEqDiff,Nat.reduceAdd,decide_true,decide_false,kLoop_def,Nat.reduceSub,List.cons_append,List.nil_append,List.append_nil,List.length_cons,List.length_nil]
  ·obtain ⟨f,hg⟩:=dw3
   exact ⟨f,by rw [get_put_ne' _ _ _ _ (by omega)];exact hg⟩) (by omega)
 exact ⟨a,b,t,hr.symm.trans e,st,hd',x0,x1,x2⟩
end Go.Proofs.Ytamlnddeiokbdaa.walk
set_option maxRecDepth 10000
namespace Go.Proofs.Ytamlnddeiokbdaa.walk
open Go.Abs Go.Proofs.Ytamlnddeiokbdaa.code
theorem Die.keep {d:Nat} {h h':Heap} (D:Die d h) (e:h'.get d=h.get d):Die d h':=by obtain ⟨f,hf⟩:=D;exact ⟨f,e.trans hf⟩
theorem call_stir2 {P:Program} {X:FuncId→List Nat} {n:Nat} {f:FuncId} {args:List AV} {s:St} {fn:Func} {d k:Nat} {Q:AV→Heap→Nat→Prop} (hf:P.funcs[f]? = some fn) (hk:keepAll=true)
  (h:∀ u:St,u.h=s.h→u.n=s.n→u.m=far→∃ v s',enterA P X (Abs.call P X n) f args u fn=.val v s'∧Stir d u s' k∧Q v s'.h s'.n∧(plain v=true→Q v s.h s.n)) (hd:d≤far) :
  ∃ v t,Abs.call P X (n+1) (.fn f) args s=.val v t∧Stir d s t k∧Q v t.h t.n:=by
 obtain ⟨v,s',h1,h2,h3,h4⟩:=h ⟨s.h,s.n,far⟩ rfl rfl rfl
 cases hb:Nat.ble s.n s'.m with
 | true =>
  cases hp:plain v with
  | true =>
   refine ⟨v,s,?_,(Stir.refl d s).mono (Nat.zero_le _),h4 hp⟩
   show callStep P X (Abs.call P X n) (.fn f) args s=_
   unfold callStep
   simp only [hf,h1]
   unfold Abs.settle
   simp only [hb,hp]
   rfl
  | false =>
   refine ⟨v,⟨s'.h,s'.n,s.m⟩,?_,⟨h2.same,h2.n,h2.le,fun h=>h,Nat.le_refl _⟩,h3⟩
   show callStep P X (Abs.call P X n) (.fn f) args s=_
   unfold callStep
   simp only [hf,h1]
   unfold Abs.settle
   simp only [hb,hp,hk]
   rfl
 | false =>
  refine ⟨v,⟨s'.h,s'.n,minN s.m s'.m⟩,?_,Stir.draw (s:=s) h2 hd,h3⟩
  show callStep P X (Abs.call P X n) (.fn f) args s=_
  unfold callStep
  simp only [hf,h1]
  unfold Abs.settle
  simp only [hb]
  rfl
structure BookJ (u t:St) (d p9:Nat) (b:Book) (v:AV) (bl kk:Nat):Prop where
 die:Die d t.h
 g9:t.h.get p9=some (.cells (bookV b v) (tag 27))
 is:IsAt t.h t.n bl 6 (tag 51) (b.sales.map Sale.cells) v
 lo:p9<bl
 same:∀ c,c<p9→c≠d→t.h.get c=u.h.get c
 n:p9<t.n
 le:t.n≤u.n+kk
 m:d≤u.m→d≤t.m
 mle:t.m≤u.m
 dp:d<p9
 ok:∀ s ∈ b.sales,s.Ok b.stalls b.goods
theorem book_round (N:Nat) (hN:5≤N) (cx:Ctx) {d p9 bl kk:Nat} {b:Book} {v:AV} {u t:St} {L:Env} {i:Nat} {gr ce:Int} (J:BookJ u t d p9 b v bl kk) (hk:1≤b.stalls∧b.stalls≤8) (hg:1≤b.goods∧b.goods≤8) (hl:b.sales.length≤40) (hs:u.n+kk+2000≤far) (hum:u.m≤far) (hi:i≤1000)
  (hgr:0≤gr∧gr≤5000) (hce:0≤ce∧ce≤2000) (q0:L.find 0=.ptr d 0) (q9:L.find 9=.ptr p9 0) (q10:L.find 10=.int .i64 gr) (q11:L.find 11=.int .i64 ce) (q12:L.find 12=.int .i64 (i+1:Nat)) :
  ∃ L1 t1 b1 v1 bl1,K10l0 (call Try.prog X N) cx L [] t=.done .norm L1 [] t1∧BookJ u t1 d p9 b1 v1 bl1 (kk+10)∧b1.stalls=b.stalls∧b1.goods=b.goods∧b1.sales.length=b.sales.length+1∧L1.find 12=.int .i64 (i:Nat)∧∀ c,c<12→L1.find c=L.find c:=by
 have hf:far=1000000000:=rfl
 obtain ⟨jd,j9,ji,jlo,js,jn,jle,jm,jml,jdp,jok⟩:=J
 have e0:decide ((0:Int)<((i+1:Nat):Int))=true:=decide_eq_true (by omega)
 have kv:∀ t,okA (.val v t)=.val v t:=ji.okA
 have sb:∀ s,aSub s .i64 ((i+1:Nat):Int) 1=.val (.int .i64 (i:Int)) s:=fun s=>by rw [aSub_i64 s _ _ (by omega)];congr 2;omega
 unfold bookV at j9
 simp (disch:=first|omega|(with_unfolding_all exact rfl)|(simp only[new_n,put_n,new_m];omega)|(refine put_m_le ?_;simp only[new_m];omega)) only [res10,K10r0,K10r1,K10r2,K10r3,K10r4,K10r5,K10r6,K10r7,K10,K10l0,Abs.W,reduceIte,Nat.reduceEqDiff,Nat.reduceAdd,decide_true,decide_false,kLoop_def,Nat.reduceSub,List.cons_append,List.nil_append,List.append_nil,List.length_cons,List.length_nil,Env.find_set,Nat.zero_add,Nat.add_zero,q0,q9,q10,q11,q12,j9,kv,e0]
 generalize hc1:call _ _ _ (.fn 33) _ _=r1
 obtain ⟨x1,t1,rfl,st1,d1,x10,x11⟩:=cast_ex hc1 (by omega) jd (by show d<t.n;omega) (by show t.n+100≤far;omega) (by omega)
 have n1:t.n≤t1.n:=st1.n
 have k1:t1.n≤t.n:=st1.le
 have g1:∀ c,c<t.n→c≠d→t1.h.get c=t.h.get c:=fun c hc hcd=>st1.same c hc hcd
 have a9:=(g1 p9 (by omega) (by omega)).trans j9
 simp (disch:=first|omega|(with_unfolding_all exact rfl)|(simp only[new_n,put_n,new_m];omega)|(refine put_m_le ?_;simp only[new_m];omega)) only [thenT_turn,Abs.W,reduceIte,Nat.reduceEqDiff,Nat.reduceAdd,decide_true,decide_false,kLoop_def,Nat.reduceSub,List.cons_append,List.nil_append,List.append_nil,List.length_cons,List.length_nil,Env.find_set,q0,q9,a9,Nat.zero_add]
 generalize hc2:call _ _ _ (.fn 33) _ _=r2
 obtain ⟨x2,t2,rfl,st2,d2,x20,x21⟩:=cast_ex hc2 (by omega) d1 (by show d<t1.n;omega) (by show t1.n+100≤far;omega) (by omega)
 have n2:t1.n≤t2.n:=st2.n
 have k2:t2.n≤t1.n:=st2.le
 have g2:∀ c,c<t.n→c≠d→t2.h.get c=t.h.get c:=fun c hc hcd=>(st2.same c (by show c<t1.n;omega) hcd).trans (g1 c hc hcd)
 simp (disch:=first|omega|(with_unfolding_all exact rfl)|(simp only[new_n,put_n,new_m];omega)|(refine put_m_le ?_;simp only[new_m];omega)) only [thenT_turn,Abs.W,reduceIte,Nat.reduceEqDiff,Nat.reduceAdd,decide_true,decide_false,kLoop_def,Nat.reduceSub,List.cons_append,List.nil_append,List.append_nil,List.length_cons,List.length_nil,Env.find_set,q0,q10,Nat.zero_add]
 generalize hc3:call _ _ _ (.fn 34) _ _=r3
 obtain ⟨y1,y2,t3,rfl,st3,d3,y10,y11,y12⟩:=span_ex hc3 (by omega) d2 (by show d<t2.n;omega) (by show t2.n+300≤far;omega) (by omega) (by omega) (by omega)
 have n3:t2.n≤t3.n:=st3.n
 have k3:t3.n≤t2.n+2:=st3.le
 have g3:∀ c,c<t.n→c≠d→t3.h.get c=t.h.get c:=fun c hc hcd=>(st3.same c (by show c<t2.n;omega) hcd).trans (g2 c hc hcd)
 simp (disch:=first|omega|(with_unfolding_all exact rfl)|(simp only[new_n,put_n,new_m];omega)|(refine put_m_le ?_;simp only[new_m];omega)) only [thenT_turn,Abs.W,reduceIte,Nat.reduceEqDiff,Nat.reduceAdd,decide_true,decide_false,kLoop_def,Nat.reduceSub,List.cons_append,List.nil_append,List.append_nil,List.length_cons,List.length_nil,Env.find_set,q0,q11,Nat.zero_add]
 generalize hc4:call _ _ _ (.fn 34) _ _=r4
 obtain ⟨z1,z2,t4,rfl,st4,d4,z10,z11,z12⟩:=span_ex hc4 (by omega) d3 (by show d<t3.n;omega) (by show t3.n+300≤far;omega) (by omega) (by omega) (by omega)
 have n4:t3.n≤t4.n:=st4.n
 have k4:t4.n≤t3.n+2:=st4.le
 have g4:∀ c,c<t.n→c≠d→t4.h.get c=t.h.get c:=fun c hc hcd=>(st4.same c (by show c<t3.n;omega) hcd).trans (g3 c hc hcd)
 simp (disch:=first|omega|(with_unfolding_all exact rfl)|(simp only[new_n,put_n,new_m];omega)|(refine put_m_le ?_;simp only[new_m];omega)) only [thenT_turn,Abs.W,reduceIte,Nat.reduceEqDiff,Nat.reduceAdd,decide_true,decide_false,kLoop_def,Nat.reduceSub,List.cons_append,List.nil_append,List.append_nil,List.length_cons,List.length_nil,Env.find_set,Nat.zero_add]
 obtain ⟨y8,hy8⟩:∃ y8:St,y8=⟨t4.h,t4.n,minN (minN (minN (minN t.m t1.m) t2.m) t3.m) t4.m⟩:=⟨_,rfl⟩
 have y8n:y8.n=t4.n:=by rw [hy8]
 have y8h:y8.h=t4.h:=by rw [hy8]
 have y8m:y8.m=min (min (min (min t.m t1.m) t2.m) t3.m) t4.m:=by rw [hy8];simp only [minN_eq]
 have m1:d≤t1.m:=st1.m (by show d≤far;omega)
 have m2:d≤t2.m:=st2.m (by show d≤far;omega)
 have m3:d≤t3.m:=st3.m (by show d≤far;omega)
 have m4:d≤t4.m:=st4.m (by show d≤far;omega)
 obtain ⟨S,hS⟩:∃ S:Sale,S=⟨x1,x2,y1,y2,z1,z2⟩:=⟨_,rfl⟩
 obtain ⟨y,hy⟩:∃ y:St,y=y8.new (.cells S.cells 0):=⟨_,rfl⟩
 have yn:y.n=t4.n+1:=by rw [hy];show y8.n+1=_;rw [y8n]
 have ym:y.m=y8.m:=by rw [hy];rfl
 have yg:∀ c,c<t4.n→y.h.get c=t4.h.get c:=fun c hc=>by rw [hy,get_new_ne _ _ _ (by omega),y8h]
 have yp:y.h.get t4.n=some (.cells S.cells 0):=by rw [hy,← y8n];exact get_new_eq _ _ _ rfl (by omega)
 have gy:∀ c,c<t.n→c≠d→y.h.get c=t.h.get c:=fun c hc hcd=>(yg c (by omega)).trans (g4 c hc hcd)
 obtain ⟨s7,e7,l7,s7n,s7g,s7m,s7l⟩:=append_at (bytes:=48) (ji.mono (h':=y.h) (n':=y.n) (fun h=>gy bl h (by omega)) (by omega)) yp rfl rfl (by rw [List.length_map];omega) (by kernel_rfl) (by omega)
 have hlen:(b.sales.map Sale.cells).length=b.sales.length:=List.length_map ..
 rw [hlen] at e7 l7
 obtain ⟨v7,hv7⟩:∃ v7,v7=AV.slice y.n 0 (b.sales.length+1) (b.sales.length+1) true:=⟨_,rfl⟩
 rw [← hv7] at e7 l7
 have e7':appendA false 6 48 (tag 51) (y8.new (.cells [.int .i64 x1,.int .i64 x2,.int .i64 y1,.int .i64 y2,.int .i64 z1,.int .i64 z2] 0)) v (.slice t4.n 0 1 1 false)=.val v7 s7:=by
  have:S.cells=[.int .i64 x1,.int .i64 x2,.int .i64 y1,.int .i64 y2,.int .i64 z1,.int .i64 z2]:=by rw [hS];rfl
  rw [hy,this] at e7
  exact e7
 rw [← hy8]
 have s9:=(s7g p9 (by omega) (by omega)).trans ((gy p9 (by omega) (by omega)).trans j9)
 have sc7:scalars [v7]=true:=by rw [hv7];rfl
 have cc7:cellsOf 1 v7=some [v7]:=by rw [hv7];rfl
 simp (disch:=first|omega|(with_unfolding_all exact rfl)|(simp only[new_n,put_n,new_m];omega)|(refine put_m_le ?_;simp only[new_m];omega)) only [Abs.W,reduceIte,Nat.reduceEqDiff,Nat.reduceAdd,decide_true,decide_false,kLoop_def,Nat.reduceSub,List.cons_append,List.nil_append,List.append_nil,List.length_cons,List.length_nil,Env.find_set,e7',q9,s9,sc7,cc7,Nat.zero_add]
 rw [endT_kept (l:=[34]) (s':=t4) (by simp only [keptAll_cons,keptAll_nil,find_cons,Env.find_set,keptV_ptr,(g3 p9 (by omega) (by omega)).trans j9,(g4 p9 (by omega) (by omega)).trans j9,sameO_cells,reduceIte,Nat.reduceEqDiff,Bool.and_self])]
 rw [endT_kept (l:=[34]) (s':=t3) (by simp only [keptAll_cons,keptAll_nil,find_cons,Env.find_set,keptV_ptr,(g2 p9 (by omega) (by omega)).trans j9,(g3 p9 (by omega) (by omega)).trans j9,sameO_cells,reduceIte,Nat.reduceEqDiff,Bool.and_self])]
 rw [endT_kept (l:=[34]) (s':=t2) (by simp only [keptAll_cons,keptAll_nil,find_cons,Env.find_set,keptV_ptr,(g1 p9 (by omega) (by omega)).trans j9,(g2 p9 (by omega) (by omega)).trans j9,sameO_cells,reduceIte,Nat.reduceEqDiff,Bool.and_self])]
 rw [endT_kept (l:=[34,41]) (s':=t1) (by simp only [keptAll_cons,keptAll_nil,find_cons,Env.find_set,keptV_ptr,j9,(g1 p9 (by omega) (by omega)).trans j9,sameO_cells,reduceIte,Nat.reduceEqDiff,Bool.and_self])]
 rw [endO_ok _ (endOk_nil _)]
 simp (disch:=first|omega|(with_unfolding_all exact rfl)|(simp only[new_n,put_n,new_m];omega)|(refine put_m_le ?_;simp only[new_m];omega)) only [res10,K10r0,K10r1,K10r2,K10r3,K10r4,K10r5,K10r6,K10r7,K10,Abs.W,reduceIte,Nat.reduceEqDiff,Nat.reduceAdd,decide_true,decide_false,kLoop_def,Nat.reduceSub,List.cons_append,List.nil_append,List.append_nil,List.length_cons,List.length_nil,Env.find_set,q12,sb,Nat.zero_add]
 have hcells:(b.sales.map Sale.cells)++[S.cells]=(b.sales++[S]).map Sale.cells:=by rw [List.map_append];rfl
 refine ⟨_,_,{ b with sales:=b.sales++[S] },v7,y.n,rfl,⟨?_,?_,?_,by omega,fun c hc hcd=>?_,by simp only [put_n];omega,by simp only [put_n];omega,fun hm=>?_,?_,jdp,fun x hx=>?_⟩,rfl,rfl,by simp,by simp only [Env.find_set,reduceIte,Nat.reduceEqDiff],fun c hc=>?_⟩
 ·exact Die.keep d4 (by rw [get_put_ne' _ _ _ _ (by omega),s7g d (by omega) (by omega),yg d (by omega)])
 ·exact get_put_eq _ _ _ _ rfl (by omega)
 ·rw [← hcells]
  exact l7.mono (fun _=>get_put_ne' _ _ _ _ (by omega)) (by simp only [put_n];omega)
 ·rw [get_put_ne' _ _ _ _ (by omega),s7g c (by omega) (by omega),gy c (by omega) hcd]
  exact js c hc hcd
 ·have:=jm hm
  have:=s7m d (by omega) (by omega) (by omega)
  simp only [St.put,minN_eq];omega
 ·simp only [St.put,minN_eq];omega
 ·rcases List.mem_append.mp hx with hx | hx
  ·exact jok x hx
  ·rw [List.mem_singleton.mp hx,hS]
   exact ⟨by simp only;omega,by simp only;omega,by simp only;omega,by simp only;omega,by simp only;omega,by simp only;omega,by simp only;omega,by simp only;omega,by simp only;omega,by simp only;omega⟩
 ·simp only [Env.find_set]
  rw [if_neg (by omega),if_neg (by omega)]
theorem book_loop (N:Nat) (hN:5≤N) {cx:Ctx} {d p9 bl kk i:Nat} {b:Book} {v:AV} {u w:St} {L:Env} {r:R} {gr ce:Int} (hr:loopN K10l0 rounds (call Try.prog X N) cx L [] w=r) (J:BookJ u w d p9 b v bl kk) (hk:1≤b.stalls∧b.stalls≤8) (hg:1≤b.goods∧b.goods≤8) (h0:b.sales.length=0) (hi:i≤39) (hs:u.n+kk+3000≤far) (hum:u.m≤far)
  (hgr:0≤gr∧gr≤5000) (hce:0≤ce∧ce≤2000) (q0:L.find 0=.ptr d 0) (q9:L.find 9=.ptr p9 0) (q10:L.find 10=.int .i64 gr) (q11:L.find 11=.int .i64 ce) (q12:L.find 12=.int .i64 (i:Int)) :
  ∃ L1 t1 b1 v1 bl1,r=.done (.exit 0) L1 [] t1∧BookJ u t1 d p9 b1 v1 bl1 (kk+400)∧b1.stalls=b.stalls∧b1.goods=b.goods∧b1.sales.length=i∧∀ c,c<12→L1.find c=L.find c:=by
 have hf:far=1000000000:=rfl
 obtain ⟨e,L1,t1,rfl,rfl,b1,v1,bl1,h1,h2,h3,h4,h5⟩:=loop_of hr (fun j L' t'=>∃ b1 v1 bl1,BookJ u t' d p9 b1 v1 bl1 (kk+10 * j)∧b1.stalls=b.stalls∧b1.goods=b.goods∧b1.sales.length=j∧L'.find 12=.int .i64 ((i - j:Nat):Int)∧∀ c,c<12→L'.find c=L.find c)
  (fun e L' t'=>e=.exit 0∧∃ b1 v1 bl1,BookJ u t' d p9 b1 v1 bl1 (kk+400)∧b1.stalls=b.stalls∧b1.goods=b.goods∧b1.sales.length=i∧∀ c,c<12→L'.find c=L.find c) i (by unfold rounds;omega)
  ⟨b,v,bl,J,rfl,rfl,h0,q12,fun _ _=>rfl⟩
  (fun j L' t' hj ⟨b1,v1,bl1,hJ,hb1,hb2,hb3,p12,g⟩=>by
   by_cases hlt:j<i
   ·obtain ⟨L2,t2,b2,v2,bl2,z1,z2,z3,z4,z5,z6,z7⟩:=book_round N hN cx (i:=i - j - 1) hJ (by omega) (by omega) (by omega) (by omega) hum (by omega) hgr hce ((g 0 (by omega)).trans q0) ((g 9 (by omega)).trans q9) ((g 10 (by omega)).trans q10) ((g 11 (by omega)).trans q11) (by rw [p12,show i - j - 1+1=i - j by omega])
    exact .inl ⟨hlt,L2,t2,z1,b2,v2,bl2,z2,z3.trans hb1,z4.trans hb2,by omega,z6.trans (by rw [show i - j - 1=i - (j+1) by omega]),fun c hc=>(z7 c hc).trans (g c hc)⟩
   ·obtain rfl:j=i:=by omega
    have e0:decide ((0:Int)<((0:Nat):Int))=false:=rfl
    rw [Nat.sub_self] at p12
    refine .inr ⟨.exit 0,L'.set 31 (.bool false),t',by simp,?_,rfl,b1,v1,bl1,?_,hb1,hb2,hb3,fun c hc=>?_⟩
    ·simp (disch:=first|omega|(with_unfolding_all exact rfl)|(simp only[new_n,put_n,new_m];omega)|(refine put_m_le ?_;simp only[new_m];omega)) only [res10,K10r0,K10r1,K10r2,K10r3,K10r4,K10r5,K10r6,K10r7,K10,K10l0,Abs.W,reduceIte,Nat.reduceEqDiff,Nat.reduceAdd,decide_true,decide_false,kLoop_def,Nat.reduceSub,List.cons_append,List.nil_append,List.append_nil,List.length_cons,List.length_nil,Env.find_set,p12,e0]
    ·obtain ⟨a1,a2,a3,a4,a5,a6,a7,a8,a9,a10,a11⟩:=hJ
     exact ⟨a1,a2,a3,a4,a5,a6,by omega,a8,a9,a10,a11⟩
    ·simp only [Env.find_set]
     rw [if_neg (by omega)]
     exact g c hc)
 exact ⟨L1,t1,b1,v1,bl1,rfl,h1,h2,h3,h4,h5⟩
theorem BookOf_ex3 {N d:Nat} {k g n:Nat} {s:St} {r:ARes} (hr:call Try.prog X N (.fn 10) [.ptr d 0,.int .i64 (k:Int),.int .i64 (g:Int),.int .i64 (n:Int)] s=r) (hN:6≤N) (hd:Die d s.h) (hlt:d<s.n) (hk:1≤k∧k≤8) (hg:1≤g∧g≤8) (hn:n≤39) (hs:s.n+6000≤far) :
  ∃ (b:Book) (v:AV) (bl:Nat) (t:St),r=.val (.agg (bookV b v)) t∧Stir d s t 500∧Die d t.h∧(b.Ok∧b.stalls≤k∧b.goods≤g)∧b.sales.length≤n∧s.n≤bl∧IsAt t.h t.n bl 6 (tag 51) (b.sales.map Sale.cells) v:=by
 obtain ⟨m,rfl⟩:∃ m,N=m+1:=⟨N - 1,by omega⟩
 have hf:far=1000000000:=rfl
 obtain ⟨v,t,e,st,b,v',bl,rfl,hq1,hq2,hq3,hq4,hq5⟩:=call_stir2 (n:=m) (args:=[.ptr d 0,.int .i64 (k:Int),.int .i64 (g:Int),.int .i64 (n:Int)]) (d:=d) (s:=s) (k:=500) (Q:=fun w h m=>∃ (b:Book) (v:AV) (bl:Nat),w=.agg (bookV b v)∧Die d h∧(b.Ok∧b.stalls≤k∧b.goods≤g)∧b.sales.length≤n∧s.n≤bl∧IsAt h m bl 6 (tag 51) (b.sales.map Sale.cells) v) Try.func10 rfl (fun u uh un um=>by
  have hd':=hd
  rw [← uh] at hd
  rw [← un] at hlt
  rw [enter10]
  simp (disch:=first|omega|(with_unfolding_all exact rfl)|(simp only[new_n,put_n,new_m];omega)|(refine put_m_le ?_;simp only[new_m];omega)) only [res10,K10r0,K10r1,K10r2,K10r3,K10r4,K10r5,K10r6,K10r7,K10,Abs.W,reduceIte,Nat.reduceEqDiff,Nat.reduceAdd,decide_true,decide_false,kLoop_def,Nat.reduceSub,List.cons_append,List.nil_append,List.append_nil,List.length_cons,List.length_nil,Env.find_set]
  obtain ⟨w0,hw0⟩:∃ w0:St,w0=u.new (.cells [.int .i64 0,.int .i64 0,.nilslice] (tag 27)):=⟨_,rfl⟩
  rw [← hw0]
  have w0n:w0.n=u.n+1:=by rw [hw0];rfl
  have w0m:w0.m=far:=by rw [hw0];exact um
  have w0g:∀ c,c<u.n→w0.h.get c=u.h.get c:=fun c hc=>by rw [hw0,get_new_ne _ _ _ (by omega)]
  have w00:w0.h.get u.n=some (.cells [.int .i64 0,.int .i64 0,.nilslice] (tag 27)):=by rw [hw0];exact get_new_eq _ _ _ rfl (by omega)
  generalize hc1:call _ _ _ (.fn 31) _ _=r1
  obtain ⟨x1,t1,rfl,st1,d1,x10,x11⟩:=from_ex hc1 (by omega) (Die.keep hd (w0g d hlt)) (by omega) (by omega) (by omega) (by omega) (by omega) (by omega)
  have n1:=st1.n
  have k1:=st1.le
  simp (disch:=first|omega|(with_unfolding_all exact rfl)|(simp only[new_n,put_n,new_m];omega)|(refine put_m_le ?_;simp only[new_m];omega)) only [Abs.W,reduceIte,Nat.reduceEqDiff,Nat.reduceAdd,decide_true,decide_false,kLoop_def,Nat.reduceSub,List.cons_append,List.nil_append,List.append_nil,List.length_cons,List.length_nil,Env.find_set]
  generalize hc2:call _ _ _ (.fn 31) _ _=r2
  obtain ⟨x2,t2,rfl,st2,d2,x20,x21⟩:=from_ex hc2 (by omega) d1 (by omega) (by omega) (by omega) (by omega) (by omega) (by omega)
  have n2:=st2.n
  have k2:=st2.le
  simp (disch:=first|omega|(with_unfolding_all exact rfl)|(simp only[new_n,put_n,new_m];omega)|(refine put_m_le ?_;simp only[new_m];omega)) only [Abs.W,reduceIte,Nat.reduceEqDiff,Nat.reduceAdd,decide_true,decide_false,kLoop_def,Nat.reduceSub,List.cons_append,List.nil_append,List.append_nil,List.length_cons,List.length_nil,Env.find_set,Nat.zero_add]
  obtain ⟨y,hy⟩:∃ y:St,y=(t2.new (.cells [.int .i64 0,.int .i64 0,.nilslice] (tag 27))).put t2.n (.cells [.int .i64 x1,.int .i64 x2,.nilslice] (tag 27)):=⟨_,rfl⟩
  have yn:y.n=t2.n+1:=by rw [hy];rfl
  have ym:y.m=min t2.m t2.n:=by rw [hy];simp only [St.put,minN_eq,new_m]
  have yg:∀ c,c<t2.n→y.h.get c=t2.h.get c:=fun c hc=>by rw [hy,get_put_ne' _ _ _ _ (by omega),get_new_ne _ _ _ (by omega)]
  have yp:y.h.get t2.n=some (.cells [.int .i64 x1,.int .i64 x2,.nilslice] (tag 27)):=by rw [hy];exact get_put_eq _ _ _ _ rfl (by omega)
  have m1:=st1.m (by omega)
  have m2:=st2.m m1
  have l1:=st1.mle
  have l2:=st2.mle
  rw [← hy]
  clear hy
  generalize hc3:call _ _ _ (.fn 32) _ _=r3
  obtain ⟨gr,t3,rfl,st3,d3,hgr⟩:=one_ex [6,100,5000] (b:=y.n) (sz:=0) hc3 (by omega) (Die.keep d2 ((get_new_ne _ _ _ (by omega)).trans (yg d (by omega)))) (by simp only [new_n];omega) (by simp only [new_n];omega) (get_new_eq _ _ _ rfl (by omega)) (by simp only [new_n];omega) (by omega) rfl (by omega) (by omega)
  have n3:y.n+1≤t3.n:=st3.n
  have k3:t3.n≤y.n+1:=st3.le
  have g3:∀ c,c<y.n→c≠d→t3.h.get c=y.h.get c:=fun c hc hcd=>(st3.same c (by show c<y.n+1;omega) hcd).trans (get_new_ne _ _ _ (by omega))
  have m3:d≤t3.m:=st3.m (by show d≤y.m;omega)
  have l3:t3.m≤y.m:=st3.mle
  simp (disch:=first|omega|(with_unfolding_all exact rfl)|(simp only[new_n,put_n,new_m];omega)|(refine put_m_le ?_;simp only[new_m];omega)) only [Abs.W,reduceIte,Nat.reduceEqDiff,Nat.reduceAdd,decide_true,decide_false,kLoop_def,Nat.reduceSub,List.cons_append,List.nil_append,List.append_nil,List.length_cons,List.length_nil,Env.find_set,Nat.zero_add]
  generalize hc4:call _ _ _ (.fn 32) _ _=r4
  obtain ⟨ce,t4,rfl,st4,d4,hce⟩:=one_ex [6,30,2000] (b:=t3.n) (sz:=0) hc4 (by omega) (Die.keep d3 (get_new_ne _ _ _ (by omega))) (by simp only [new_n];omega) (by simp only [new_n];omega) (get_new_eq _ _ _ rfl (by omega)) (by simp only [new_n];omega) (by omega) rfl (by omega) (by omega)
  have n4:t3.n+1≤t4.n:=st4.n
  have k4:t4.n≤t3.n+1:=st4.le
  have g4:∀ c,c<y.n→c≠d→t4.h.get c=y.h.get c:=fun c hc hcd=>(st4.same c (by show c<t3.n+1;omega) hcd).trans ((get_new_ne _ _ _ (by omega)).trans (g3 c hc hcd))
  have m4:d≤t4.m:=st4.m (by show d≤t3.m;omega)
  have l4:t4.m≤t3.m:=st4.mle
  have adn:∀ s,aAdd s .i64 (n:Int) 1=.val (.int .i64 ((n:Int)+1)) s:=fun s=>aAdd_i64 s _ _ (by omega)
  simp (disch:=first|omega|(with_unfolding_all exact rfl)|(simp only[new_n,put_n,new_m];omega)|(refine put_m_le ?_;simp only[new_m];omega)) only [res10,K10r0,K10r1,K10r2,K10r3,K10r4,K10r5,K10r6,K10r7,K10,Abs.W,reduceIte,Nat.reduceEqDiff,Nat.reduceAdd,decide_true,decide_false,kLoop_def,Nat.reduceSub,List.cons_append,List.nil_append,List.append_nil,List.length_cons,List.length_nil,Env.find_set,adn,Nat.zero_add]
  generalize hc5:call _ _ _ (.fn 33) _ _=r5
  obtain ⟨x5,t5,rfl,st5,d5,x50,x51⟩:=cast_ex hc5 (by omega) d4 (by omega) (by omega) (by omega)
  obtain ⟨i,rfl⟩:∃ n:Nat,x5=n:=⟨x5.toNat,by omega⟩
  obtain ⟨kk,rfl⟩:∃ n:Nat,x1=n:=⟨x1.toNat,by omega⟩
  obtain ⟨gg,rfl⟩:∃ n:Nat,x2=n:=⟨x2.toNat,by omega⟩
  have n5:=st5.n
  have k5:=st5.le
  have m5:=st5.m m4
  have l5:=st5.mle
  have g5:∀ c,c<y.n→c≠d→t5.h.get c=y.h.get c:=fun c hc hcd=>(st5.same c (by omega) hcd).trans (g4 c hc hcd)
  simp (disch:=first|omega|(with_unfolding_all exact rfl)|(simp only[new_n,put_n,new_m];omega)|(refine put_m_le ?_;simp only[new_m];omega)) only [res10,K10r0,K10r1,K10r2,K10r3,K10r4,K10r5,K10r6,K10r7,K10,Abs.W,reduceIte,Nat.reduceEqDiff,Nat.reduceAdd,decide_true,decide_false,kLoop_def,Nat.reduceSub,List.cons_append,List.nil_append,List.append_nil,List.length_cons,List.length_nil,Env.find_set,Nat.zero_add]
  generalize hlp:loopN _ rounds _ _ _ _ _=rl
  have p9:=(g5 t2.n (by omega) (by omega)).trans yp
  have hgr':0≤gr∧gr≤5000:=by simp at hgr;omega
  have hce':0≤ce∧ce≤2000:=by simp at hce;omega
  have base:∀ c,c<t2.n→c≠d→t5.h.get c=t2.h.get c:=fun c hc hcd=>(g5 c (by omega) hcd).trans (yg c hc)
  have base0:∀ c,c<u.n→c≠d→t5.h.get c=u.h.get c:=fun c hc hcd=>(base c (by omega) hcd).trans ((st2.same c (by omega) hcd).trans ((st1.same c (by omega) hcd).trans (w0g c hc)))
  have hJ:BookJ t5 t5 d t2.n ⟨kk,gg,[]⟩ .nilslice (far+1) 0:=⟨d5,p9,IsAt.nil _ _ _ _ _,by omega,fun _ _ _=>rfl,by omega,by omega,fun h=>h,Nat.le_refl _,by omega,fun s hs=>by cases hs⟩
  obtain ⟨L1,t6,b1,v1,bl1,rfl,J6,h61,h62,h63,g6⟩:=book_loop m (by omega) (i:=i) hlp hJ (by show 1≤kk∧kk≤8;omega) (by show 1≤gg∧gg≤8;omega) rfl (by omega) (by omega) (by omega) hgr' hce' (by simp only [find_cons,Env.find_set,reduceIte,Nat.reduceEqDiff]) (by simp only [find_cons,Env.find_set,reduceIte,Nat.reduceEqDiff]) (by simp only [find_cons,Env.find_set,reduceIte,Nat.reduceEqDiff]) (by simp only [find_cons,Env.find_set,reduceIte,Nat.reduceEqDiff]) (by simp only [find_cons,Env.find_set,reduceIte,Nat.reduceEqDiff])
  have f8:L1.find 8=.ptr u.n 0:=(g6 8 (by omega)).trans (by simp only [find_cons,Env.find_set,reduceIte,Nat.reduceEqDiff])
  have f9:L1.find 9=.ptr t2.n 0:=(g6 9 (by omega)).trans (by simp only [find_cons,Env.find_set,reduceIte,Nat.reduceEqDiff])
  have h61:b1.stalls=kk:=h61
  have h62:b1.goods=gg:=h62
  obtain ⟨jd,j9,ji,jlo,js,jn,jle,jm,jml,jdp,jok⟩:=J6
  have j0:t6.h.get u.n=some (.cells [.int .i64 0,.int .i64 0,.nilslice] (tag 27)):=(js u.n (by omega) (by omega)).trans ((base u.n (by omega) (by omega)).trans ((st2.same u.n (by omega) (by omega)).trans ((st1.same u.n (by omega) (by omega)).trans w00)))
  have sc1:=ji.scal.1
  have scb:scalars (bookV b1 v1)=true:=by show scalars [v1]=true;exact sc1
  unfold bookV at j9 scb
  have sh3:shapeT Try.prog 27=some (some 3):=by kernel_rfl
  simp (disch:=first|omega|(with_unfolding_all exact rfl)|(simp only[new_n,put_n,new_m];omega)|(refine put_m_le ?_;simp only[new_m];omega)) only [res10,K10r0,K10r1,K10r2,K10r3,K10r4,K10r5,K10r6,K10r7,K10,Abs.W,reduceIte,Nat.reduceEqDiff,Nat.reduceAdd,decide_true,decide_false,kLoop_def,Nat.reduceSub,List.cons_append,List.nil_append,List.append_nil,List.length_cons,List.length_nil,Env.find_set,f8,f9,j9,j0,scb,Nat.zero_add]
  have okb:b1.Ok∧b1.stalls≤k∧b1.goods≤g:=⟨⟨by omega,by omega,by omega,by omega,by omega,jok⟩,by omega,by omega⟩
  refine ⟨.agg (bookV b1 v1),_,leave_cell _ _ _ _ sh3 ?_,⟨fun c hc hcd=>?_,by simp only [put_n];omega,by simp only [put_n];omega,fun _=>?_,?_⟩,⟨b1,v1,bl1,rfl,Die.keep jd (get_put_ne' _ _ _ _ (by omega)),okb,by omega,by omega,ji.mono (fun _=>get_put_ne' _ _ _ _ (by omega)) (by simp only [put_n];omega)⟩,fun hp=>?_⟩
  ·simp only [Env.find_set,f8,reduceIte,Nat.reduceEqDiff]
   rw [load_ptr,get_put_eq _ _ _ _ rfl (by omega),loadO_cells,partS_some]
   rfl
  ·rw [get_put_ne' _ _ _ _ (by omega),js c (by omega) hcd,base0 c hc hcd]
  ·have:=jm (by omega)
   simp only [St.put,minN_eq];omega
  ·simp only [St.put,minN_eq];omega
  ·have hv:v1=.nilslice∧b1.sales=[]:=by
    rcases ji.is with ⟨z,z2⟩ | ⟨_,_,z,_⟩
    ·exact ⟨z2,List.map_eq_nil_iff.mp z⟩
    ·subst z;simp [plain,plains,bookV] at hp
   exact ⟨b1,v1,s.n,rfl,hd',okb,by omega,Nat.le_refl _,by rw [hv.1,hv.2];exact IsAt.nil _ _ _ _ _⟩) (by omega)
 exact ⟨b,v',bl,t,hr.symm.trans e,st,hq1,hq2,hq3,hq4,hq5⟩
end Go.Proofs.Ytamlnddeiokbdaa.walk
set_option maxRecDepth 10000
namespace Go.Abs
theorem Own.move {h h':Heap} {lo lo' n n' w tg:Nat} {rows:List (List AV)} {v:AV} (r:Own h lo n w tg rows v) (hh:∀ b,lo≤b→b<n→h'.get b=h.get b) (hl:lo'≤lo) (hn:n≤n'):Own h' lo' n' w tg rows v:=by
 refine ⟨r.wide,?_⟩
 rcases r.is with ⟨h1,h2 | ⟨b,h0,h3,h4,h5⟩⟩ | ⟨h1,b,h0,h3,h4,h5⟩
 ·exact .inl ⟨h1,.inl h2⟩
 ·exact .inl ⟨h1,.inr ⟨b,by omega,by omega,h4,by rw [hh b h0 h3];exact h5⟩⟩
 ·exact .inr ⟨h1,b,by omega,by omega,h4,by rw [hh b h0 h3];exact h5⟩
theorem Own.none {h h':Heap} {lo lo' n n' w tg:Nat} {rows:List (List AV)} {v:AV} (r:Own h lo n w tg rows v) (hp:plain v=true):Own h' lo' n' w tg rows v:=by
 rcases r.is with ⟨h1,h2 | ⟨b,_,_,h4,_⟩⟩ | ⟨_,b,_,_,h4,_⟩
 ·subst h1;subst h2;exact ⟨fun x hx=>(by cases hx),.inl ⟨rfl,.inl rfl⟩⟩
 ·subst h4;cases hp
 ·subst h4;cases hp
end Go.Abs
namespace Go.Proofs.Ytamlnddeiokbdaa.walk
open Go.Abs Go.Proofs.Ytamlnddeiokbdaa.code
end Go.Proofs.Ytamlnddeiokbdaa.walk
set_option maxRecDepth 10000
namespace Go.Abs
structure Past (u t:St) (k:Nat):Prop where
 same:∀ c,c<u.n→t.h.get c=u.h.get c
 n:u.n≤t.n
 le:t.n≤u.n+k
theorem Past.refl (u:St):Past u u 0:=⟨fun _ _=>rfl,Nat.le_refl _,Nat.le_refl _⟩
theorem Past.new {u t:St} {k:Nat} (h:Past u t k) (o:AObj):Past u (t.new o) (k+1):=⟨fun c hc=>by have:=h.n;rw [get_new_ne _ _ _ (by omega)];exact h.same c hc,by have:=h.n;rw [new_n];omega,by have:=h.le;rw [new_n];omega⟩
theorem Past.put {u t:St} {k b:Nat} (h:Past u t k) (o:AObj) (hb:u.n≤b):Past u (t.put b o) k:=⟨fun c hc=>by rw [get_put_ne' _ _ _ _ (by omega)];exact h.same c hc,h.n,h.le⟩
theorem Past.mono {u t:St} {j k:Nat} (h:Past u t j) (hk:j≤k):Past u t k:=⟨h.same,h.n,by have:=h.le;omega⟩
end Go.Abs
namespace Go.Proofs.Ytamlnddeiokbdaa.walk
open Go.Abs Go.Proofs.Ytamlnddeiokbdaa.code
end Go.Proofs.Ytamlnddeiokbdaa.walk
set_option maxRecDepth 10000
namespace Go.Abs
variable {P:Program}
structure Grow (d:Nat) (u s:St) (k:Nat):Prop where
 same:∀ b,b<u.n→b≠d→s.h.get b=u.h.get b
 n:u.n≤s.n
 le:s.n≤u.n+k
 m:∀ x,x≤d→x≤u.n→x≤u.m→x≤s.m
 mle:s.m≤u.m
theorem Grow.refl (d:Nat) (u:St):Grow d u u 0:=⟨fun _ _ _=>rfl,Nat.le_refl _,Nat.le_refl _,fun _ _ _ h=>h,Nat.le_refl _⟩
theorem Grow.mono {d:Nat} {u s:St} {j k:Nat} (a:Grow d u s j) (h:j≤k):Grow d u s k:=⟨a.same,a.n,by have:=a.le;omega,a.m,a.mle⟩
theorem Grow.new {d:Nat} {u s:St} {k:Nat} (h:Grow d u s k) (o:AObj):Grow d u (s.new o) (k+1) :=
 ⟨fun b hb hd=>by rw [get_new_ne _ _ _ (by have:=h.n;omega)];exact h.same b hb hd,Nat.le_trans h.n (Nat.le_succ _),by have:=h.le;show s.n+1≤_;omega,h.m,h.mle⟩
theorem Grow.put {d:Nat} {u s:St} {k b:Nat} (h:Grow d u s k) (o:AObj) (hb:u.n≤b):Grow d u (s.put b o) k :=
 ⟨fun c hc hcd=>by rw [get_put_ne' _ _ _ _ (by omega)];exact h.same c hc hcd,h.n,h.le,fun x h1 h2 h3=>by
  show x≤minN s.m b
  rw [minN_min]
  have:=h.m x h1 h2 h3
  omega,Nat.le_trans (minN_le_left _ _) h.mle⟩
theorem Grow.after {d:Nat} {u s t:St} {j k:Nat} (a:Grow d u s j) (b:New s t k):Grow d u t (j+k) :=
 ⟨fun c hc hd=>(b.same c (by have:=a.n;omega)).trans (a.same c hc hd),Nat.le_trans a.n b.n,by have:=a.le;have:=b.le;omega,fun x h1 h2 h3=>by rw [b.m];exact a.m x h1 h2 h3,by rw [b.m];exact a.mle⟩
theorem Grow.trans {d e:Nat} {u s t:St} {j k:Nat} (a:Grow d u s j) (b:Grow e s t k) (he:e=d∨u.n≤e):Grow d u t (j+k) :=
 ⟨fun c hc hd=>(b.same c (by have:=a.n;omega) (by omega)).trans (a.same c hc hd),Nat.le_trans a.n b.n,by have:=a.le;have:=b.le;omega,fun x h1 h2 h3=>b.m x (by omega) (by have:=a.n;omega) (a.m x h1 h2 h3),Nat.le_trans b.mle a.mle⟩
theorem over1_eq:∀ (v c:List AV),v.length≤c.length→over1 v c=some (v++c.drop v.length)
 | [],c,_=>by rw [over1_nil];rfl
 | x::v,[],h=>by simp at h
 | x::v,a::c,h=>by rw [over1_cons,over1_eq v c (by simpa using h),consO_some];rfl
theorem over_eq:∀ (p:Nat) (v c:List AV),p+v.length≤c.length→over p v c=some (c.take p++(v++c.drop (p+v.length)))
 | 0,v,[],h=>by
  have:v=[]:=by simpa using h
  subst this;rfl
 | p+1,v,[],h=>by simp at h
 | 0,v,a::c,h=>by rw [over_cons,if_pos rfl,over1_eq v (a::c) (by omega),Nat.zero_add];rfl
 | p+1,v,a::c,h=>by
  rw [over_cons,if_neg (by omega),Nat.add_sub_cancel,over_eq p v c (by simp at h;omega),consO_some]
  rw [show p+1+v.length=p+v.length+1 by omega]
  rfl
def ints' (l:List Nat):List AV:=l.map fun (x:Nat)=>AV.int .i64 (x:Int)
structure LeftAt (h:Heap) (n b:Nat) (l:List Nat) (c:Nat) (v:AV):Prop where
 v:v=.slice b 0 l.length c false
 le:l.length≤c
 lt:b<n
 get:∃ rest,rest.length=c - l.length∧h.get b=some (.cells (ints' l++rest) 0)
end Go.Abs
namespace Go.Proofs.Ytamlnddeiokbdaa.walk
open Go.Abs Go.Proofs.Ytamlnddeiokbdaa.code
end Go.Proofs.Ytamlnddeiokbdaa.walk
