/- Checks of numbers: what they hand back where all is well. -/
import Derived.Test.YtkoefjgapmonaaaCodes
import Derived.Test.YtkoefjgapmonaaaAbsWalk
import Derived.Test.YtkoefjgapmonaaaWalkAll
set_option linter.unusedSimpArgs false
set_option linter.unusedVariables false
set_option maxHeartbeats 16000000
set_option maxRecDepth 10000
namespace Go.Proofs.Ytkoefjgapmonaaa.walk
open Go.Abs Go.Proofs.Ytkoefjgapmonaaa.code
theorem within_ok (N:Nat) (hN:1≤N) (x lo hi:Int) (s:St) (h0:lo≤x) (h1:x≤hi) (hs:s.n≤far):call Try.prog X N (.fn 28) [.int .i64 x,.int .i64 lo,.int .i64 hi] s=.val (.int .i64 0) s:=by
 obtain ⟨n,rfl⟩:∃ n,N=n+1:=⟨N - 1,by omega⟩
 refine call_plain (s':=⟨s.h,s.n,far⟩) Try.func28 ?_ rfl hs
 have e0:decide (x<lo)=false:=by simp;omega
 have e1:decide (hi<x)=false:=by simp;omega
 rw [enter28]
 simp only [res28,K28r0,K28r1s7,K28r1s6,K28r1s5,K28r1,K28r2,K28r3,K28,Abs.W,reduceIte,Nat.reduceEqDiff,Nat.reduceAdd,decide_true,decide_false,kLoop_def,Nat.reduceSub,List.cons_append,List.nil_append,List.append_nil,List.length_cons,List.length_nil,e0,e1]
theorem counted_ok (N:Nat) (hN:1≤N) (x lo hi:Int) (s:St) (h0:lo≤x) (h1:x≤hi) (hs:s.n≤far):call Try.prog X N (.fn 48) [.int .i64 x,.int .i64 lo,.int .i64 hi] s=.val (.int .i64 0) s:=by
 obtain ⟨n,rfl⟩:∃ n,N=n+1:=⟨N - 1,by omega⟩
 refine call_plain (s':=⟨s.h,s.n,far⟩) Try.func48 ?_ rfl hs
 have e0:decide (x<lo)=false:=by simp;omega
 have e1:decide (hi<x)=false:=by simp;omega
 rw [enter48]
 simp only [res48,K48r0,K48r1,K48r2,K48r3,K48r4,K48r5,K48,Abs.W,reduceIte,Nat.reduceEqDiff,Nat.reduceAdd,decide_true,decide_false,kLoop_def,Nat.reduceSub,List.cons_append,List.nil_append,List.append_nil,List.length_cons,List.length_nil,e0,e1]
theorem named_ok (N:Nat) (hN:1≤N) (x hi:Int) (s:St) (h0:0≤x) (h1:x<hi) (hs:s.n≤far):call Try.prog X N (.fn 47) [.int .i64 x,.int .i64 hi] s=.val (.int .i64 0) s:=by
 obtain ⟨n,rfl⟩:∃ n,N=n+1:=⟨N - 1,by omega⟩
 refine call_plain (s':=⟨s.h,s.n,far⟩) Try.func47 ?_ rfl hs
 have e0:decide (x<0)=false:=by simp;omega
 have e1:decide (hi≤x)=false:=by simp;omega
 rw [enter47]
 simp only [res47,K47r0,K47r1s6,K47r1s5,K47r1s4,K47r1,K47r2,K47r3,K47,Abs.W,reduceIte,Nat.reduceEqDiff,Nat.reduceAdd,decide_true,decide_false,kLoop_def,Nat.reduceSub,List.cons_append,List.nil_append,List.append_nil,List.length_cons,List.length_nil,e0,e1]
theorem or_loop (cl:CallF) (cx:Ctx) (k b o cap:Nat) (e:Bool) (c:List AV) (sz:Nat) (s:St) (hb:s.h.get b=some (.cells c sz)) (hc:∀ j,j<k→nth c (o+j)=.int .i64 0) (hk:k≤1000) :
  ∀ (m i fuel:Nat) (L:Env),i+m=k→m<fuel→L.find 6=.slice b o k cap e→L.find 7=.int .i64 k→L.find 8=.int .i64 i→L.find 3=.int .i64 0 →
  ∃ L',loopN K24l0 fuel cl cx L [] s=.done (.exit 0) L' [] s∧L'.find 3=.int .i64 0
 | m,i,0,L,hm,hf,h6,h7,h8,h3=>by omega
 | m,i,fuel+1,L,hm,hf,h6,h7,h8,h3=>by
  by_cases hlt:i<k
  ·obtain ⟨m',rfl⟩:∃ m',m=m'+1:=⟨m - 1,by omega⟩
   have e0:decide ((i:Int)<(k:Int))=true:=by simp;omega
   have e1:=hc i hlt
   have e2:decide ((0:Int)=0)=true:=rfl
   obtain ⟨L',hL,h3'⟩:=or_loop cl cx k b o cap e c sz s hb hc hk m' (i+1) fuel ((((L.set 9 (.bool true)).set 5 (.int .i64 0)).set 14 (.bool false)).set 8 (.int .i64 ((i:Int)+1))) (by omega) (by omega)
    (by simp only [Env.find_set,h6,reduceIte,Nat.reduceEqDiff]) (by simp only [Env.find_set,h7,reduceIte,Nat.reduceEqDiff]) (by simp only [Env.find_set,reduceIte];rfl) (by simp only [Env.find_set,h3,reduceIte,Nat.reduceEqDiff])
   refine ⟨L',?_,h3'⟩
   rw [← hL,loopN_succ]
   simp only [res24,K24r0,K24r1,K24r2,K24r3,K24r4,K24r5,K24r6,K24r7,K24l0,K24r8,K24,Abs.W,reduceIte,Nat.reduceEqDiff,Nat.reduceAdd,decide_true,decide_false,kLoop_def,Nat.reduceSub,List.cons_append,List.nil_append,List.append_nil,List.length_cons,List.length_nil,Env.find_set,h6,h7,h8,h3,e0,ixs_slice _ _ _ _ _ _ _ _ hlt,Nat.mul_one,hb,e1,e2,aAdd_i64 _ (i:Int) 1 (by omega)]
  ·have e0:decide ((i:Int)<(k:Int))=false:=by simp;omega
   refine ⟨L.set 9 (.bool false),?_,by simp only [Env.find_set,h3,reduceIte,Nat.reduceEqDiff]⟩
   rw [loopN_succ]
   simp only [res24,K24r0,K24r1,K24r2,K24r3,K24r4,K24r5,K24r6,K24r7,K24l0,K24r8,K24,Abs.W,reduceIte,Nat.reduceEqDiff,Nat.reduceAdd,decide_true,decide_false,kLoop_def,Nat.reduceSub,List.cons_append,List.nil_append,List.append_nil,List.length_cons,List.length_nil,Env.find_set,h6,h7,h8,h3,e0]
theorem or_ok (N:Nat) (hN:1≤N) (k b o cap:Nat) (e:Bool) (c:List AV) (sz:Nat) (s:St) (hb:s.h.get b=some (.cells c sz)) (hc:∀ j,j<k→nth c (o+j)=.int .i64 0) (hk:k≤1000) (hs:s.n≤far) :
  call Try.prog X N (.fn 24) [.slice b o k cap e] s=.val (.int .i64 0) s:=by
 obtain ⟨n,rfl⟩:∃ n,N=n+1:=⟨N - 1,by omega⟩
 refine call_plain' Try.func24 (fun u uh un um=>?_) rfl
 obtain ⟨L',hL,h3⟩:=or_loop (call Try.prog X n) ⟨24,none,Try.f24.ntmps,X 24⟩ k b o cap e c sz u (by rw [uh];exact hb) hc hk k 0 rounds
  (.cons 0 (.slice b o k cap e) (.cons 2 (.int .i64 0) (.cons 3 (.int .i64 0) (.cons 6 (.slice b o k cap e) (.cons 7 (.int .i64 k) (.cons 8 (.int .i64 0) .nil)))))) (by omega) (by unfold rounds;omega) rfl rfl rfl rfl
 rw [enter24]
 simp only [res24,K24r0,K24r1,K24r2,K24r3,K24r4,K24r5,K24r6,K24r7,K24r8,K24,Abs.W,reduceIte,Nat.reduceEqDiff,Nat.reduceAdd,decide_true,decide_false,kLoop_def,Nat.reduceSub,List.cons_append,List.nil_append,List.append_nil,List.length_cons,List.length_nil,hL,h3,Env.find_set]
 exact ⟨_,rfl,by rw [um,un];exact hs⟩
def allZ:List AV→Bool
 | []=>true
 | .int .i64 0::r=>allZ r
 | _=>false
theorem allZ_nth:∀ {c:List AV},allZ c=true→∀ j,j<c.length→nth c j=.int .i64 0
 | [],_,j,hj=>by simp at hj
 | a::r,h,j,hj=>by
  unfold allZ at h
  split at h
  ·rename_i heq;cases heq
  ·rename_i heq
   cases heq
   rw [nth_cons]
   cases j with
   | zero=>rfl
   | succ j=>rw [if_neg (by omega)];exact allZ_nth h j (by simpa using hj)
  ·cases h
theorem or_new (N:Nat) (hN:1≤N) (k:Nat) (c:List AV) (t:St) (hz:allZ c=true) (hl:c.length=k) (hk:k≤1000) (ht:t.n+1≤far) :
  call Try.prog X N (.fn 24) [.slice t.n 0 k k false] (t.new (.cells c 0))=.val (.int .i64 0) (t.new (.cells c 0)):=by
 obtain ⟨n,rfl⟩:∃ n,N=n+1:=⟨N - 1,by omega⟩
 have hf:far=1000000000:=rfl
 refine or_ok (n+1) (by omega) k t.n 0 k false c 0 _ (get_new_eq _ _ _ rfl (by omega)) (fun j hj=>?_) hk (by rw [new_n];omega)
 rw [Nat.zero_add]
 exact allZ_nth hz j (by omega)
theorem or_new2 (N:Nat) (hN:1≤N) (t:St) (ht:t.n+1≤far):call Try.prog X N (.fn 24) [.slice t.n 0 2 2 false] (t.new (.cells [.int .i64 0,.int .i64 0] 0))=.val (.int .i64 0) (t.new (.cells [.int .i64 0,.int .i64 0] 0)) :=
 or_new N hN 2 _ t rfl rfl (by omega) ht
theorem or_new3 (N:Nat) (hN:1≤N) (t:St) (ht:t.n+1≤far):call Try.prog X N (.fn 24) [.slice t.n 0 3 3 false] (t.new (.cells [.int .i64 0,.int .i64 0,.int .i64 0] 0))=.val (.int .i64 0) (t.new (.cells [.int .i64 0,.int .i64 0,.int .i64 0] 0)) :=
 or_new N hN 3 _ t rfl rfl (by omega) ht
theorem or_new4 (N:Nat) (hN:1≤N) (t:St) (ht:t.n+1≤far):call Try.prog X N (.fn 24) [.slice t.n 0 4 4 false] (t.new (.cells [.int .i64 0,.int .i64 0,.int .i64 0,.int .i64 0] 0))=.val (.int .i64 0) (t.new (.cells [.int .i64 0,.int .i64 0,.int .i64 0,.int .i64 0] 0)) :=
 or_new N hN 4 _ t rfl rfl (by omega) ht
theorem or_new5 (N:Nat) (hN:1≤N) (t:St) (ht:t.n+1≤far):call Try.prog X N (.fn 24) [.slice t.n 0 5 5 false] (t.new (.cells [.int .i64 0,.int .i64 0,.int .i64 0,.int .i64 0,.int .i64 0] 0))=.val (.int .i64 0) (t.new (.cells [.int .i64 0,.int .i64 0,.int .i64 0,.int .i64 0,.int .i64 0] 0)) :=
 or_new N hN 5 _ t rfl rfl (by omega) ht
theorem or_new6 (N:Nat) (hN:1≤N) (t:St) (ht:t.n+1≤far):call Try.prog X N (.fn 24) [.slice t.n 0 6 6 false] (t.new (.cells [.int .i64 0,.int .i64 0,.int .i64 0,.int .i64 0,.int .i64 0,.int .i64 0] 0))=.val (.int .i64 0) (t.new (.cells [.int .i64 0,.int .i64 0,.int .i64 0,.int .i64 0,.int .i64 0,.int .i64 0] 0)) :=
 or_new N hN 6 _ t rfl rfl (by omega) ht
theorem span_ok (N:Nat) (hN:2≤N) (x y lo hi:Int) (s:St) (h0:lo≤x) (h1:x≤y) (h2:y≤hi) (hs:s.n+100≤far) :
  call Try.prog X N (.fn 66) [.agg [.int .i64 x,.int .i64 y],.int .i64 lo,.int .i64 hi] s=.val (.int .i64 0) s:=by
 obtain ⟨n,rfl⟩:∃ n,N=n+2:=⟨N - 2,by omega⟩
 refine call_plain' Try.func66 (fun u uh un um=>?_) rfl
 have hf:far=1000000000:=rfl
 rw [enter66]
 have e0:decide (y<x)=false:=by simp;omega
 simp (disch:=first|omega|(with_unfolding_all exact rfl)|(simp only[new_n,put_n,new_m];omega)|(refine put_m_le ?_;simp only[new_m];omega)) only [res66,K66r0,K66r1,K66r2,K66r3,K66r4,K66r5,K66r6,K66,Abs.W,reduceIte,Nat.reduceEqDiff,Nat.reduceAdd,decide_true,decide_false,kLoop_def,Nat.reduceSub,List.cons_append,List.nil_append,List.append_nil,List.length_cons,List.length_nil,e0,within_ok,or_new2,um]
 exact ⟨_,rfl,by simp only [new_n,new_m];omega⟩
end Go.Proofs.Ytkoefjgapmonaaa.walk
set_option maxRecDepth 10000
namespace Go.Proofs.Ytkoefjgapmonaaa.walk
open Go.Abs Go.Proofs.Ytkoefjgapmonaaa.code
theorem unless_ok (N:Nat) (hN:1≤N) (e:Int) (s:St) (hs:s.n≤far):call Try.prog X N (.fn 31) [.bool true,.int .i64 e] s=.val (.int .i64 0) s:=by
 obtain ⟨n,rfl⟩:∃ n,N=n+1:=⟨N - 1,by omega⟩
 refine call_plain (s':=⟨s.h,s.n,far⟩) Try.func31 ?_ rfl hs
 rw [enter31]
 simp only [res31,K31r0,K31r1,K31r2,K31r3,K31,Abs.W,reduceIte,Nat.reduceEqDiff,Nat.reduceAdd,decide_true,decide_false,kLoop_def,Nat.reduceSub,List.cons_append,List.nil_append,List.append_nil,List.length_cons,List.length_nil]
theorem warm_ok (N:Nat) (hN:3≤N) (x y:Int) (s:St) (h0 : -300≤x) (h1:x≤y) (h2:y≤400) (hs:s.n+200≤far) :
  call Try.prog X N (.fn 43) [.agg [.int .i64 x,.int .i64 y]] s=.val (.int .i64 0) s:=by
 obtain ⟨n,rfl⟩:∃ n,N=n+3:=⟨N - 3,by omega⟩
 refine call_plain' Try.func43 (fun u uh un um=>?_) rfl
 have hf:far=1000000000:=rfl
 rw [enter43]
 simp (disch:=first|omega|(with_unfolding_all exact rfl)|(simp only[new_n,put_n,new_m];omega)|(refine put_m_le ?_;simp only[new_m];omega)) only [res43,K43r0,K43r1,K43,Abs.W,reduceIte,Nat.reduceEqDiff,Nat.reduceAdd,decide_true,decide_false,kLoop_def,Nat.reduceSub,List.cons_append,List.nil_append,List.append_nil,List.length_cons,List.length_nil,span_ok,um]
 exact ⟨_,rfl,by simp only [new_n,new_m];omega⟩
structure Box where
 (room il ih ml mh cl ch wl wh:Int)
def Box.cells (b:Box):List AV:=[.int .i64 b.room,.int .i64 b.il,.int .i64 b.ih,.int .i64 b.ml,.int .i64 b.mh,.int .i64 b.cl,.int .i64 b.ch,.int .i64 b.wl,.int .i64 b.wh]
structure Box.Ok (b:Box):Prop where
 r0:0≤b.room
 r1:b.room≤100000
 i0:0≤b.il
 i1:b.il≤b.ih
 i2:b.ih≤b.room
 m0:0≤b.ml
 m1:b.ml≤b.mh
 m2:b.mh≤100000
 c0 : -300≤b.cl
 c1:b.cl≤b.ch
 c2:b.ch≤b.wl
 w1:b.wl≤b.wh
 w2:b.wh≤400
theorem boxes_round (N:Nat) (hN:3≤N) (cx:Ctx) (bs:List Box) (v:AV) (u:St) (hR:RowsAt u.h u.n 9 (bs.map Box.cells) v) (hk:bs.length≤6) (hs:u.n+1000≤far) (i:Nat) (L:Env) (s:St) (hi:i<bs.length) (hb:(bs[i]).Ok)
  (h13:L.find 13=v) (h14:L.find 14=.int .i64 bs.length) (h15:L.find 15=.int .i64 i) (hE:Beside u s (2 * i)) :
  ∃ L1 s1,K44l0 (call Try.prog X N) cx L [] s=.done .norm L1 [] s1∧L1.find 13=v∧L1.find 14=.int .i64 bs.length∧L1.find 15=.int .i64 ((i:Int)+1)∧Beside u s1 (2 * i+2):=by
 have hf:far=1000000000:=rfl
 obtain ⟨b,p,c,sz,hbn,hix,hg,hcut⟩:=hR.at_ i (by simpa using hi)
 rw [List.getElem_map] at hcut
 generalize bs[i]=B at hb hcut
 obtain ⟨r0,r1,i0,i1,i2,m0,m1,m2,c0,c1,c2,w1,w2⟩:=hb
 unfold Box.cells at hcut
 have e0:decide ((i:Int)<(bs.length:Int))=true:=by simp;omega
 have e1:decide (B.ch≤B.wl)=true:=by simp;omega
 have hg':s.h.get b=some (.cells c sz):=by rw [hE.same b hbn];exact hg
 have q1:=hE.n
 have q2:=hE.le
 have q3:=hE.m
 have q4:=hE.far
 have a1:=aAdd_i64 s (i:Int) 1
 simp (disch:=first|omega|(with_unfolding_all exact rfl)|(simp only[new_n,put_n,new_m];omega)|(refine put_m_le ?_;simp only[new_m];omega)) only [res44,K44r0,K44r1,K44r2,K44r3,K44r4,K44r5,K44r6,K44r7,K44r8,K44r9,K44r10,K44l0,K44r11,K44,Abs.W,reduceIte,Nat.reduceEqDiff,Nat.reduceAdd,decide_true,decide_false,kLoop_def,Nat.reduceSub,List.cons_append,List.nil_append,List.append_nil,List.length_cons,List.length_nil,Env.find_set,h13,h14,h15,e0,hix,hg',hcut,within_ok,span_ok,warm_ok,e1,unless_ok,or_new6,aAdd_i64]
 exact ⟨_,_,rfl,by simp only [Env.find_set,h13,reduceIte,Nat.reduceEqDiff],by simp only [Env.find_set,h14,reduceIte,Nat.reduceEqDiff],by simp only [Env.find_set,reduceIte],(((hE.new _).put _ q1).new _).mono (by omega)⟩
theorem boxes_ok (N:Nat) (hN:4≤N) (bs:List Box) (v:AV) (s:St) (hR:RowsAt s.h s.n 9 (bs.map Box.cells) v) (hk:bs.length≤6) (hb:∀ b ∈ bs,b.Ok) (hs:s.n+2000≤far) :
  call Try.prog X N (.fn 44) [v] s=.val (.int .i64 0) s:=by
 obtain ⟨n,rfl⟩:∃ n,N=n+1:=⟨N - 1,by omega⟩
 refine call_plain' Try.func44 (fun u uh un um=>?_) rfl
 have hf:far=1000000000:=rfl
 rw [← uh,← un] at hR
 have hlen:=hR.len
 rw [List.length_map] at hlen
 obtain ⟨e,L1,s1,hL,⟨id,he⟩,hE⟩:=loop_run (body:=K44l0) (cl:=call Try.prog X n) (cx:=⟨44,none,Try.f44.ntmps,X 44⟩)
  (fun i L t=>L.find 13=v∧L.find 14=.int .i64 bs.length∧L.find 15=.int .i64 i∧Beside u t (2 * i)) (fun e _ t=>e=.exit 0∧Beside u t (2 * bs.length)) bs.length
  (fun i L t hi ⟨h1,h2,h3,h4⟩=>by
   obtain ⟨L1,s1,q1,q2,q3,q4,q5⟩:=boxes_round n (by omega) _ bs v u hR hk (by omega) i L t hi (hb _ (List.getElem_mem hi)) h1 h2 h3 h4
   exact ⟨L1,s1,q1,q2,q3,by rw [q4];rfl,q5⟩)
  (fun L t ⟨h1,h2,h3,h4⟩=>by
   have e0:decide ((bs.length:Int)<(bs.length:Int))=false:=by simp
   refine ⟨0,L.set 16 (.bool false),t,?_,rfl,h4⟩
   simp (disch:=first|omega|(with_unfolding_all exact rfl)|(simp only[new_n,put_n,new_m];omega)|(refine put_m_le ?_;simp only[new_m];omega)) only [res44,K44r0,K44r1,K44r2,K44r3,K44r4,K44r5,K44r6,K44r7,K44r8,K44r9,K44r10,K44l0,K44r11,K44,Abs.W,reduceIte,Nat.reduceEqDiff,Nat.reduceAdd,decide_true,decide_false,kLoop_def,Nat.reduceSub,List.cons_append,List.nil_append,List.append_nil,List.length_cons,List.length_nil,Env.find_set,h2,h3,e0])
  bs.length 0 rounds (.cons 0 v (.cons 2 (.int .i64 0) (.cons 3 (.int .i64 0) (.cons 11 (.bool false) (.cons 13 v (.cons 14 (.int .i64 bs.length) (.cons 15 (.int .i64 0) .nil))))))) u (by omega) (by unfold rounds;omega)
  ⟨rfl,rfl,rfl,Beside.refl u (by omega) um⟩
 rw [enter44]
 simp (disch:=first|omega|(with_unfolding_all exact rfl)|(simp only[new_n,put_n,new_m];omega)|(refine put_m_le ?_;simp only[new_m];omega)) only [res44,K44r0,K44r1,K44r2,K44r3,K44r4,K44r5,K44r6,K44r7,K44r8,K44r9,K44r10,K44r11,K44,Abs.W,reduceIte,Nat.reduceEqDiff,Nat.reduceAdd,decide_true,decide_false,kLoop_def,Nat.reduceSub,List.cons_append,List.nil_append,List.append_nil,List.length_cons,List.length_nil,hlen,counted_ok,hL,Env.find_set]
 exact ⟨_,rfl,hE.m⟩
end Go.Proofs.Ytkoefjgapmonaaa.walk
set_option maxRecDepth 10000
namespace Go.Proofs.Ytkoefjgapmonaaa.walk
open Go.Abs Go.Proofs.Ytkoefjgapmonaaa.code
theorem hour_ok (N:Nat) (hN:2≤N) (x:Int) (s:St) (h0:0≤x) (h1:x≤239) (hs:s.n+100≤far):call Try.prog X N (.fn 35) [.int .i64 x] s=.val (.int .i64 0) s:=by
 obtain ⟨n,rfl⟩:∃ n,N=n+1:=⟨N - 1,by omega⟩
 refine call_plain' Try.func35 (fun u uh un um=>?_) rfl
 have hf:far=1000000000:=rfl
 rw [enter35]
 simp (disch:=first|omega|(with_unfolding_all exact rfl)|(simp only[new_n,put_n,new_m];omega)|(refine put_m_le ?_;simp only[new_m];omega)) only [res35,K35r0,K35r1,K35,Abs.W,reduceIte,Nat.reduceEqDiff,Nat.reduceAdd,decide_true,decide_false,kLoop_def,Nat.reduceSub,List.cons_append,List.nil_append,List.append_nil,List.length_cons,List.length_nil,within_ok]
 exact ⟨_,rfl,by omega⟩
theorem box_ok (N:Nat) (hN:2≤N) (hl hh x:Int) (k:Nat) (v1 v2 v3:AV) (s:St) (n1:v1≠.bad) (l1:∀ s,lenSlA s v1=.val (.int .i64 k) s) (h0:0≤x) (h1:x<k) (hs:s.n+100≤far) :
  call Try.prog X N (.fn 26) [.agg [.int .i64 hl,.int .i64 hh,v1,v2,v3],.int .i64 x] s=.val (.int .i64 0) s:=by
 obtain ⟨n,rfl⟩:∃ n,N=n+1:=⟨N - 1,by omega⟩
 refine call_plain' Try.func26 (fun u uh un um=>?_) rfl
 have hf:far=1000000000:=rfl
 have k1:∀ t,okA (.val v1 t)=.val v1 t:=fun t=>okA_ne n1
 rw [enter26]
 simp (disch:=first|omega|(with_unfolding_all exact rfl)|(simp only[new_n,put_n,new_m];omega)|(refine put_m_le ?_;simp only[new_m];omega)) only [res26,K26r0,K26r1,K26,Abs.W,reduceIte,Nat.reduceEqDiff,Nat.reduceAdd,decide_true,decide_false,kLoop_def,Nat.reduceSub,List.cons_append,List.nil_append,List.append_nil,List.length_cons,List.length_nil,k1,l1,named_ok]
 exact ⟨_,rfl,by simp only [new_m];omega⟩
structure Fill where
 (box hour grams:Int)
def Fill.cells (f:Fill):List AV:=[.int .i64 f.box,.int .i64 f.hour,.int .i64 f.grams]
structure Fill.Ok (k:Nat) (f:Fill):Prop where
 b0:0≤f.box
 b1:f.box<k
 h0:0≤f.hour
 h1:f.hour≤239
 g0:0≤f.grams
 g1:f.grams≤100000
def before (fs:List Fill):Nat→Int
 | 0=>0
 | i+1=>match fs[i]? with
  | some f=>f.hour
  | none=>0
theorem fillings_round (N:Nat) (hN:3≤N) (cx:Ctx) (fs:List Fill) (hl hh:Int) (k:Nat) (v1 v2 v3:AV) (n1:v1≠.bad) (l1:∀ s,lenSlA s v1=.val (.int .i64 k) s) (p0:Nat) (u:St)
  (hR:RowsAt u.h u.n 3 (fs.map Fill.cells) v2) (hk:fs.length≤20) (hs:u.n+1000≤far) (hp:p0<u.n) (hg0:u.h.get p0=some (.cells [.int .i64 hl,.int .i64 hh,v1,v2,v3] (tag 31)))
  (i:Nat) (L:Env) (s:St) (hi:i<fs.length) (hb:(fs[i]).Ok k) (ho:before fs i≤(fs[i]).hour)
  (h1:L.find 1=.ptr p0 0) (h16:L.find 16=v2) (h17:L.find 17=.int .i64 fs.length) (h18:L.find 18=.int .i64 i) (h4:L.find 4=.int .i64 (before fs i)) (hE:Beside u s (2 * i)) :
  ∃ L1 s1,K45l0 (call Try.prog X N) cx L [] s=.done .norm L1 [] s1∧L1.find 1=.ptr p0 0∧L1.find 16=v2∧L1.find 17=.int .i64 fs.length∧L1.find 18=.int .i64 ((i:Int)+1) ∧
   L1.find 4=.int .i64 (before fs (i+1))∧Beside u s1 (2 * i+2):=by
 have hf:far=1000000000:=rfl
 obtain ⟨b,p,c,sz,hbn,hix,hg,hcut⟩:=hR.at_ i (by simpa using hi)
 rw [List.getElem_map] at hcut
 have hbf:before fs (i+1)=(fs[i]).hour:=by simp only [before,List.getElem?_eq_getElem hi]
 rw [hbf]
 generalize before fs i=pr at ho h4
 generalize fs[i]=F at hb hcut ho
 obtain ⟨b0,b1,c0,c1,g0,g1⟩:=hb
 unfold Fill.cells at hcut
 have e0:decide ((i:Int)<(fs.length:Int))=true:=by simp;omega
 have e1:decide (pr≤F.hour)=true:=by simp;omega
 have hg':s.h.get b=some (.cells c sz):=by rw [hE.same b hbn];exact hg
 have hg0':s.h.get p0=some (.cells [.int .i64 hl,.int .i64 hh,v1,v2,v3] (tag 31)):=by rw [hE.same p0 hp];exact hg0
 have q1:=hE.n
 have q2:=hE.le
 have q3:=hE.m
 have q4:=hE.far
 simp (disch:=first|omega|(with_unfolding_all exact rfl)|(simp only[new_n,put_n,new_m];omega)|(refine put_m_le ?_;simp only[new_m];omega)) only [res45,K45r0,K45r1,K45r2,K45r3,K45r4,K45r5,K45r6,K45r7,K45r8,K45r9,K45r10,K45r11,K45r12,K45l0,K45r13,K45,Abs.W,reduceIte,Nat.reduceEqDiff,Nat.reduceAdd,decide_true,decide_false,kLoop_def,Nat.reduceSub,List.cons_append,List.nil_append,List.append_nil,List.length_cons,List.length_nil,Env.find_set,h1,h4,h16,h17,h18,e0,hix,hg',hg0',hcut,within_ok,hour_ok,box_ok _ _ _ _ _ _ _ _ _ _ n1 l1,e1,unless_ok,or_new4,aAdd_i64]
 exact ⟨_,_,rfl,by simp only [Env.find_set,h1,reduceIte,Nat.reduceEqDiff],by simp only [Env.find_set,h16,reduceIte,Nat.reduceEqDiff],by simp only [Env.find_set,h17,reduceIte,Nat.reduceEqDiff],by simp only [Env.find_set,reduceIte],
  by simp only [Env.find_set,reduceIte,Nat.reduceEqDiff],(((hE.new _).put _ q1).new _).mono (by omega)⟩
end Go.Proofs.Ytkoefjgapmonaaa.walk
set_option maxRecDepth 10000
namespace Go.Proofs.Ytkoefjgapmonaaa.walk
open Go.Abs Go.Proofs.Ytkoefjgapmonaaa.code
theorem fillings_ok (N:Nat) (hN:4≤N) (fs:List Fill) (hl hh:Int) (k:Nat) (v1 v2 v3:AV) (n1:v1≠.bad) (l1:∀ s,lenSlA s v1=.val (.int .i64 k) s) (s:St)
  (hR:RowsAt s.h s.n 3 (fs.map Fill.cells) v2) (hk:fs.length≤20) (hb:∀ f ∈ fs,f.Ok k) (ho:∀ i (h:i<fs.length),before fs i≤(fs[i]).hour) (hs:s.n+2000≤far) :
  call Try.prog X N (.fn 45) [.agg [.int .i64 hl,.int .i64 hh,v1,v2,v3]] s=.val (.int .i64 0) s:=by
 obtain ⟨n,rfl⟩:∃ n,N=n+1:=⟨N - 1,by omega⟩
 refine call_plain' Try.func45 (fun u uh un um=>?_) rfl
 have hf:far=1000000000:=rfl
 rw [← uh,← un] at hR
 have n2:=hR.ne
 have k2:∀ t,okA (.val v2 t)=.val v2 t:=fun t=>okA_ne n2
 have hlen:=hR.len
 rw [List.length_map] at hlen
 have hw:(u.new (.cells [.int .i64 hl,.int .i64 hh,v1,v2,v3] (tag 31))).h.get u.n=some (.cells [.int .i64 hl,.int .i64 hh,v1,v2,v3] (tag 31)):=get_new_eq _ _ _ rfl (by omega)
 have hRw:RowsAt (u.new (.cells [.int .i64 hl,.int .i64 hh,v1,v2,v3] (tag 31))).h (u.n+1) 3 (fs.map Fill.cells) v2:=hR.grow (fun b hb=>get_new_ne _ _ _ (by omega)) (by omega)
 have wn:(u.new (.cells [.int .i64 hl,.int .i64 hh,v1,v2,v3] (tag 31))).n=u.n+1:=rfl
 have wm:(u.new (.cells [.int .i64 hl,.int .i64 hh,v1,v2,v3] (tag 31))).m=far:=um
 rw [enter45]
 generalize hw0:u.new (.cells [.int .i64 hl,.int .i64 hh,v1,v2,v3] (tag 31))=w at hw hRw wn wm
 rw [← wn] at hRw
 obtain ⟨e,L1,s1,hL,⟨id,he⟩,hE⟩:=loop_run (body:=K45l0) (cl:=call Try.prog X n) (cx:=⟨45,none,Try.f45.ntmps,X 45⟩)
  (fun i L t=>L.find 1=.ptr u.n 0∧L.find 16=v2∧L.find 17=.int .i64 fs.length∧L.find 18=.int .i64 i∧L.find 4=.int .i64 (before fs i)∧Beside w t (2 * i)) (fun e _ t=>e=.exit 0∧Beside w t (2 * fs.length)) fs.length
  (fun i L t hi ⟨h1,h2,h3,h4,h5,h6⟩=>by
   obtain ⟨L1,s1,q1,q2,q3,q4,q5,q6,q7⟩:=fillings_round n (by omega) _ fs hl hh k v1 v2 v3 n1 l1 u.n w hRw hk (by omega) (by omega) hw i L t hi (hb _ (List.getElem_mem hi)) (ho i hi) h1 h2 h3 h4 h5 h6
   exact ⟨L1,s1,q1,q2,q3,q4,by rw [q5];rfl,q6,q7⟩)
  (fun L t ⟨h1,h2,h3,h4,h5,h6⟩=>by
   have e0:decide ((fs.length:Int)<(fs.length:Int))=false:=by simp
   refine ⟨0,L.set 19 (.bool false),t,?_,rfl,h6⟩
   simp (disch:=first|omega|(with_unfolding_all exact rfl)|(simp only[new_n,put_n,new_m];omega)|(refine put_m_le ?_;simp only[new_m];omega)) only [res45,K45r0,K45r1,K45r2,K45r3,K45r4,K45r5,K45r6,K45r7,K45r8,K45r9,K45r10,K45r11,K45r12,K45l0,K45r13,K45,Abs.W,reduceIte,Nat.reduceEqDiff,Nat.reduceAdd,decide_true,decide_false,kLoop_def,Nat.reduceSub,List.cons_append,List.nil_append,List.append_nil,List.length_cons,List.length_nil,Env.find_set,h3,h4,e0])
  fs.length 0 rounds (.cons 0 (.agg [.int .i64 hl,.int .i64 hh,v1,v2,v3]) (.cons 1 (.ptr u.n 0) (.cons 2 (.int .i64 0) (.cons 3 (.int .i64 0) (.cons 13 (.bool false) (.cons 4 (.int .i64 0) (.cons 16 v2 (.cons 17 (.int .i64 fs.length) (.cons 18 (.int .i64 0) .nil))))))))) w (by omega) (by unfold rounds;omega)
  ⟨rfl,rfl,rfl,rfl,rfl,Beside.refl w (by omega) wm⟩
 simp (disch:=first|omega|(with_unfolding_all exact rfl)|(simp only[new_n,put_n,new_m];omega)|(refine put_m_le ?_;simp only[new_m];omega)) only [res45,K45r0,K45r1,K45r2,K45r3,K45r4,K45r5,K45r6,K45r7,K45r8,K45r9,K45r10,K45r11,K45r12,K45r13,K45,Abs.W,reduceIte,Nat.reduceEqDiff,Nat.reduceAdd,decide_true,decide_false,kLoop_def,Nat.reduceSub,List.cons_append,List.nil_append,List.append_nil,List.length_cons,List.length_nil,hw0,hw,k2,hlen,counted_ok,hL,Env.find_set]
 exact ⟨_,rfl,by have:=hE.m;omega⟩
structure Rate where
 (above loss:Int)
def Rate.cells (r:Rate):List AV:=[.int .i64 r.above,.int .i64 r.loss]
structure Rate.Ok (r:Rate):Prop where
 a0 : -300≤r.above
 a1:r.above≤400
 l0:0≤r.loss
 l1:r.loss≤1000
def rateBefore (rs:List Rate):Nat→Rate
 | 0=>⟨-301,0⟩
 | i+1=>match rs[i]? with
  | some r=>r
  | none=>⟨-301,0⟩
theorem rates_round (N:Nat) (hN:3≤N) (cx:Ctx) (rs:List Rate) (v:AV) (u:St) (hR:RowsAt u.h u.n 2 (rs.map Rate.cells) v) (hk:rs.length≤6) (hs:u.n+1000≤far)
  (i:Nat) (L:Env) (s:St) (hi:i<rs.length) (hb:(rs[i]).Ok) (ho:(rateBefore rs i).above<(rs[i]).above∧(rateBefore rs i).loss≤(rs[i]).loss)
  (h15:L.find 15=v) (h16:L.find 16=.int .i64 rs.length) (h17:L.find 17=.int .i64 i) (h4:L.find 4=.ptr u.n 0) (hc:s.h.get u.n=some (.cells (rateBefore rs i).cells (tag 57))) (hE:Beside u s (2 * i+1)) (hn:u.n+1≤s.n) :
  ∃ L1 s1,K46l0 (call Try.prog X N) cx L [] s=.done .norm L1 [] s1∧L1.find 15=v∧L1.find 16=.int .i64 rs.length∧L1.find 17=.int .i64 ((i:Int)+1)∧L1.find 4=.ptr u.n 0 ∧
   s1.h.get u.n=some (.cells (rateBefore rs (i+1)).cells (tag 57))∧Beside u s1 (2 * i+3)∧u.n+1≤s1.n:=by
 have hf:far=1000000000:=rfl
 obtain ⟨b,p,c,sz,hbn,hix,hg,hcut⟩:=hR.at_ i (by simpa using hi)
 rw [List.getElem_map] at hcut
 have hbf:rateBefore rs (i+1)=rs[i]:=by simp only [rateBefore,List.getElem?_eq_getElem hi]
 rw [hbf]
 generalize rateBefore rs i=pr at ho hc
 generalize rs[i]=F at hb hcut ho
 obtain ⟨a0,a1,l0,l1⟩:=hb
 obtain ⟨o1,o2⟩:=ho
 unfold Rate.cells at hcut hc ⊢
 have e0:decide ((i:Int)<(rs.length:Int))=true:=by simp;omega
 have e1:decide (pr.above<F.above)=true:=by simp;omega
 have e2:decide (pr.loss≤F.loss)=true:=by simp;omega
 have hg':s.h.get b=some (.cells c sz):=by rw [hE.same b hbn];exact hg
 have q1:=hE.n
 have q2:=hE.le
 have q3:=hE.m
 have q4:=hE.far
 simp (disch:=first|omega|(with_unfolding_all exact rfl)|(simp only[new_n,put_n,new_m];omega)|(refine put_m_le ?_;simp only[new_m];omega)) only [res46,K46r0,K46r1,K46r2,K46r3,K46r4,K46r5,K46r6,K46r7,K46r8s17,K46r8s16,K46r8s15,K46r8s14,K46r8s13,K46r8,K46r9,K46r10,K46r11,K46r12,K46l0,K46r13,K46,Abs.W,reduceIte,Nat.reduceEqDiff,Nat.reduceAdd,decide_true,decide_false,kLoop_def,Nat.reduceSub,List.cons_append,List.nil_append,List.append_nil,List.length_cons,List.length_nil,Env.find_set,h4,h15,h16,h17,e0,hix,hg',hc,hcut,within_ok,e1,e2,unless_ok,or_new3,aAdd_i64]
 exact ⟨_,_,rfl,by simp only [Env.find_set,h15,reduceIte,Nat.reduceEqDiff],by simp only [Env.find_set,h16,reduceIte,Nat.reduceEqDiff],by simp only [Env.find_set,reduceIte],by simp only [Env.find_set,h4,reduceIte,Nat.reduceEqDiff],
  get_put_eq _ _ _ _ rfl (by omega),((((hE.new _).put _ q1).new _).put _ (Nat.le_refl _)).mono (by omega),by simp only [put_n,new_n];omega⟩
theorem rates_ok (N:Nat) (hN:4≤N) (rs:List Rate) (v:AV) (s:St) (hR:RowsAt s.h s.n 2 (rs.map Rate.cells) v) (hk:rs.length≤6) (hk0:1≤rs.length) (hb:∀ r ∈ rs,r.Ok)
  (ho:∀ i (h:i<rs.length),(rateBefore rs i).above<(rs[i]).above∧(rateBefore rs i).loss≤(rs[i]).loss) (hs:s.n+2000≤far) :
  call Try.prog X N (.fn 46) [v] s=.val (.int .i64 0) s:=by
 obtain ⟨n,rfl⟩:∃ n,N=n+1:=⟨N - 1,by omega⟩
 refine call_plain' Try.func46 (fun u uh un um=>?_) rfl
 have hf:far=1000000000:=rfl
 rw [← uh,← un] at hR
 have hlen:=hR.len
 rw [List.length_map] at hlen
 have hlast:=fun L t=>(fun (h16:Env.find 16 L=.int .i64 rs.length) (h17:L.find 17=.int .i64 rs.length)=>(by
   have e0:decide ((rs.length:Int)<(rs.length:Int))=false:=by simp
   simp (disch:=first|omega|(with_unfolding_all exact rfl)|(simp only[new_n,put_n,new_m];omega)|(refine put_m_le ?_;simp only[new_m];omega)) only [res46,K46r0,K46r1,K46r2,K46r3,K46r4,K46r5,K46r6,K46r7,K46r8s17,K46r8s16,K46r8s15,K46r8s14,K46r8s13,K46r8,K46r9,K46r10,K46r11,K46r12,K46l0,K46r13,K46,Abs.W,reduceIte,Nat.reduceEqDiff,Nat.reduceAdd,decide_true,decide_false,kLoop_def,Nat.reduceSub,List.cons_append,List.nil_append,List.append_nil,List.length_cons,List.length_nil,Env.find_set,h16,h17,e0] :
   K46l0 (call Try.prog X n) ⟨46,none,Try.f46.ntmps,X 46⟩ L [] t=.done (.exit 0) (L.set 18 (.bool false)) [] t))
 have hE0:Beside u ((u.new (.cells [.int .i64 0,.int .i64 0] (tag 57))).put u.n (.cells [.int .i64 (-301),.int .i64 0] (tag 57))) 1:=((Beside.refl u (by omega) um).new _).put _ (Nat.le_refl _)
 obtain ⟨e,L1,s1,hL,⟨id,he⟩,hE⟩:=loop_run (body:=K46l0) (cl:=call Try.prog X n) (cx:=⟨46,none,Try.f46.ntmps,X 46⟩)
  (fun i L t=>L.find 15=v∧L.find 16=.int .i64 rs.length∧L.find 17=.int .i64 i∧L.find 4=.ptr u.n 0∧t.h.get u.n=some (.cells (rateBefore rs i).cells (tag 57))∧Beside u t (2 * i+1)∧u.n+1≤t.n)
  (fun e _ t=>e=.exit 0∧Beside u t (2 * rs.length+1)) rs.length
  (fun i L t hi ⟨h1,h2,h3,h4,h5,h6,h7⟩=>by
   obtain ⟨L1,s1,q1,q2,q3,q4,q5,q6,q7,q8⟩:=rates_round n (by omega) _ rs v u hR hk (by omega) i L t hi (hb _ (List.getElem_mem hi)) (ho i hi) h1 h2 h3 h4 h5 h6 h7
   exact ⟨L1,s1,q1,q2,q3,by rw [q4];rfl,q5,q6,q7.mono (by omega),q8⟩)
  (fun L t ⟨h1,h2,h3,h4,h5,h6,h7⟩=>⟨0,_,t,hlast L t h2 h3,rfl,h6⟩)
  rs.length 0 rounds (.cons 0 v (.cons 2 (.int .i64 0) (.cons 3 (.int .i64 0) (.cons 12 (.bool false) (.cons 4 (.ptr u.n 0) (.cons 15 v (.cons 16 (.int .i64 rs.length) (.cons 17 (.int .i64 0) .nil))))))))
  ((u.new (.cells [.int .i64 0,.int .i64 0] (tag 57))).put u.n (.cells [.int .i64 (-301),.int .i64 0] (tag 57))) (by omega) (by unfold rounds;omega)
  ⟨rfl,rfl,rfl,rfl,get_put_eq _ _ _ _ rfl (by omega),hE0,by simp only [put_n,new_n];omega⟩
 rw [enter46]
 simp (disch:=first|omega|(with_unfolding_all exact rfl)|(simp only[new_n,put_n,new_m];omega)|(refine put_m_le ?_;simp only[new_m];omega)) only [res46,K46r0,K46r1,K46r2,K46r3,K46r4,K46r5,K46r6,K46r7,K46r8s17,K46r8s16,K46r8s15,K46r8s14,K46r8s13,K46r8,K46r9,K46r10,K46r11,K46r12,K46r13,K46,Abs.W,reduceIte,Nat.reduceEqDiff,Nat.reduceAdd,decide_true,decide_false,kLoop_def,Nat.reduceSub,List.cons_append,List.nil_append,List.append_nil,List.length_cons,List.length_nil,hlen,counted_ok,hL,Env.find_set]
 exact ⟨_,rfl,hE.m⟩
structure Cellar where
 (hl hh:Int) (boxes:List Box) (fills:List Fill) (rates:List Rate)
structure Cellar.Ok (c:Cellar):Prop where
 h0 : -300≤c.hl
 h1:c.hl≤c.hh
 h2:c.hh≤400
 b:c.boxes.length≤6
 bok:∀ b ∈ c.boxes,b.Ok
 f:c.fills.length≤20
 fok:∀ f ∈ c.fills,f.Ok c.boxes.length
 fo:∀ i (h:i<c.fills.length),before c.fills i≤(c.fills[i]).hour
 r0:1≤c.rates.length
 r:c.rates.length≤6
 rok:∀ r ∈ c.rates,r.Ok
 ro:∀ i (h:i<c.rates.length),(rateBefore c.rates i).above<(c.rates[i]).above∧(rateBefore c.rates i).loss≤(c.rates[i]).loss
structure CellarAt (h:Heap) (n:Nat) (c:Cellar) (v1 v2 v3:AV):Prop where
 b:RowsAt h n 9 (c.boxes.map Box.cells) v1
 f:RowsAt h n 3 (c.fills.map Fill.cells) v2
 r:RowsAt h n 2 (c.rates.map Rate.cells) v3
theorem CellarAt.grow {h h':Heap} {n n':Nat} {c:Cellar} {v1 v2 v3:AV} (a:CellarAt h n c v1 v2 v3) (hh:∀ b,b<n→h'.get b=h.get b) (hn:n≤n'):CellarAt h' n' c v1 v2 v3:=⟨a.b.grow hh hn,a.f.grow hh hn,a.r.grow hh hn⟩
theorem check_ok (N:Nat) (hN:5≤N) (c:Cellar) (ok:c.Ok) (v1 v2 v3:AV) (s:St) (hC:CellarAt s.h s.n c v1 v2 v3) (hs:s.n+3000≤far) :
  call Try.prog X N (.fn 25) [.agg [.int .i64 c.hl,.int .i64 c.hh,v1,v2,v3]] s=.val (.int .i64 0) s:=by
 obtain ⟨n,rfl⟩:∃ n,N=n+1:=⟨N - 1,by omega⟩
 refine call_plain' Try.func25 (fun u uh un um=>?_) rfl
 have hf:far=1000000000:=rfl
 rw [← uh,← un] at hC
 have n1:=hC.b.ne
 have k1:∀ t,okA (.val v1 t)=.val v1 t:=fun t=>okA_ne n1
 have k3:∀ t,okA (.val v3 t)=.val v3 t:=fun t=>okA_ne hC.r.ne
 have l1:=hC.b.len
 rw [List.length_map] at l1
 obtain ⟨h0,h1,h2,b,bok,f,fok,fo,r0,r,rok,ro⟩:=ok
 have wn:(u.new (.cells [.int .i64 c.hl,.int .i64 c.hh,v1,v2,v3] (tag 31))).n=u.n+1:=rfl
 have wm:(u.new (.cells [.int .i64 c.hl,.int .i64 c.hh,v1,v2,v3] (tag 31))).m=far:=um
 have hw:(u.new (.cells [.int .i64 c.hl,.int .i64 c.hh,v1,v2,v3] (tag 31))).h.get u.n=some (.cells [.int .i64 c.hl,.int .i64 c.hh,v1,v2,v3] (tag 31)):=get_new_eq _ _ _ rfl (by omega)
 have hCw:=hC.grow (h':=(u.new (.cells [.int .i64 c.hl,.int .i64 c.hh,v1,v2,v3] (tag 31))).h) (n':=u.n+1) (fun b hb=>get_new_ne _ _ _ (by omega)) (by omega)
 rw [enter25]
 generalize hw0:u.new (.cells [.int .i64 c.hl,.int .i64 c.hh,v1,v2,v3] (tag 31))=w at hw wn wm hCw
 rw [← wn] at hCw
 have c1:=fun t:St=>fun ht:t.h=w.h=>fun hn:t.n=w.n=>boxes_ok n (by omega) c.boxes v1 t (by rw [ht,hn];exact hCw.b) b bok (by omega)
 have c2:=fun t:St=>fun ht:t.h=w.h=>fun hn:t.n=w.n=>fillings_ok n (by omega) c.fills c.hl c.hh c.boxes.length v1 v2 v3 n1 l1 t (by rw [ht,hn];exact hCw.f) f fok fo (by omega)
 have c3:=fun t:St=>fun ht:t.h=w.h=>fun hn:t.n=w.n=>rates_ok n (by omega) c.rates v3 t (by rw [ht,hn];exact hCw.r) r r0 rok ro (by omega)
 simp (disch:=first|omega|(with_unfolding_all exact rfl)|(simp only[new_n,put_n,new_m];omega)|(refine put_m_le ?_;simp only[new_m];omega)) only [res25,K25r0,K25r1,K25,Abs.W,reduceIte,Nat.reduceEqDiff,Nat.reduceAdd,decide_true,decide_false,kLoop_def,Nat.reduceSub,List.cons_append,List.nil_append,List.append_nil,List.length_cons,List.length_nil,hw0,hw,k1,k3,warm_ok,c1,c2,c3,or_new4]
 exact ⟨_,rfl,by simp only [new_m];omega⟩
end Go.Proofs.Ytkoefjgapmonaaa.walk
set_option maxRecDepth 10000
namespace Go.Proofs.Ytkoefjgapmonaaa.walk
open Go.Abs Go.Proofs.Ytkoefjgapmonaaa.code
structure Stay where
 (box fro to:Int)
def Stay.cells (t:Stay):List AV:=[.int .i64 t.box,.int .i64 t.fro,.int .i64 t.to]
structure Stay.Ok (k:Nat) (t:Stay):Prop where
 b0:0≤t.box
 b1:t.box<k
 f0:0≤t.fro
 ft:t.fro<t.to
 t1:t.to≤240
structure Lot where
 (born keeps:Int) (stays:List Stay)
def Lot.free (l:Lot):Nat→Int
 | 0=>l.born
 | i+1=>match l.stays[i]? with
  | some t=>t.to
  | none=>0
structure Lot.Ok (k:Nat) (l:Lot):Prop where
 b0:0≤l.born
 b1:l.born≤239
 k0:0≤l.keeps
 k1:l.keeps≤100000
 s:l.stays.length≤8
 sok:∀ t ∈ l.stays,t.Ok k
 so:∀ i (h:i<l.stays.length),l.free i≤(l.stays[i]).fro
end Go.Proofs.Ytkoefjgapmonaaa.walk
namespace Go.Abs
variable {P:Program}
def At (L:Env):List (Nat × AV)→Prop
 | []=>True
 | (t,v)::r=>L.find t=v∧At L r
theorem loop_inv {body:K} {cl:CallF} {cx:Ctx} (I:Nat→Env→St→Prop) (Q:Ex→Env→St→Prop) (k:Nat)
  (step:∀ i L s,i≤k→I i L s→(i<k∧∃ L1 s1,body cl cx L [] s=.done .norm L1 [] s1∧I (i+1) L1 s1)∨(∃ e L1 s1,e≠.norm∧body cl cx L [] s=.done e L1 [] s1∧Q e L1 s1)) :
  ∀ (m i fuel:Nat) (L:Env) (s:St),i+m=k→m<fuel→I i L s→∃ e L1 s1,loopN body fuel cl cx L [] s=.done e L1 [] s1∧Q e L1 s1
 | m,i,0,_,_,_,hf,_=>by omega
 | m,i,fuel+1,L,s,hm,hf,hI=>by
  rcases step i L s (by omega) hI with ⟨hi,L1,s1,h1,h2⟩ | ⟨e,L1,s1,he,h1,h2⟩
  ·obtain ⟨m',rfl⟩:∃ m',m=m'+1:=⟨m - 1,by omega⟩
   obtain ⟨e,L2,s2,h3,h4⟩:=loop_inv I Q k step m' (i+1) fuel L1 s1 (by omega) (by omega) h2
   exact ⟨e,L2,s2,by rw [loopN_succ,h1,thenK_norm,h3],h4⟩
  ·refine ⟨e,L1,s1,?_,h2⟩
   rw [loopN_succ,h1]
   cases e with
   | norm=>exact absurd rfl he
   | exit id=>rfl
   | ret=>rfl
theorem loop_of {body:K} {cl:CallF} {cx:Ctx} {L:Env} {s:St} {r:R} (hr:loopN body rounds cl cx L [] s=r) (I:Nat→Env→St→Prop) (Q:Ex→Env→St→Prop) (k:Nat) (hk:k<rounds) (h0:I 0 L s)
  (step:∀ i L s,i≤k→I i L s→(i<k∧∃ L1 s1,body cl cx L [] s=.done .norm L1 [] s1∧I (i+1) L1 s1)∨(∃ e L1 s1,e≠.norm∧body cl cx L [] s=.done e L1 [] s1∧Q e L1 s1)) :
  ∃ e L1 s1,r=.done e L1 [] s1∧Q e L1 s1:=by
 obtain ⟨e,L1,s1,h1,h2⟩:=loop_inv I Q k step k 0 rounds L s (by omega) hk h0
 exact ⟨e,L1,s1,hr.symm.trans h1,h2⟩
theorem loop_from {body:K} {cl:CallF} {cx:Ctx} {L:Env} {s:St} {r:R} (hr:loopN body rounds cl cx L [] s=r) (I:Nat→Env→St→Prop) (Q:Ex→Env→St→Prop) (k i:Nat) (hi:i≤k) (hk:k<rounds) (h0:I i L s)
  (step:∀ i L s,i≤k→I i L s→(i<k∧∃ L1 s1,body cl cx L [] s=.done .norm L1 [] s1∧I (i+1) L1 s1)∨(∃ e L1 s1,e≠.norm∧body cl cx L [] s=.done e L1 [] s1∧Q e L1 s1)) :
  ∃ e L1 s1,r=.done e L1 [] s1∧Q e L1 s1:=by
 obtain ⟨e,L1,s1,h1,h2⟩:=loop_inv I Q k step (k - i) i rounds L s (by omega) (by omega) h0
 exact ⟨e,L1,s1,hr.symm.trans h1,h2⟩
theorem minN_min (a b:Nat):minN a b=min a b:=by
 unfold minN
 cases h:Nat.ble a b
 ·have:¬ a≤b:=fun h'=>by rw [Nat.ble_eq_true_of_le h'] at h;cases h
  show b=_;omega
 ·have:=Nat.le_of_ble_eq_true h
  show a=_;omega
structure Stir (d:Nat) (u s:St) (k:Nat):Prop where
 same:∀ b,b<u.n→b≠d→s.h.get b=u.h.get b
 n:u.n≤s.n
 le:s.n≤u.n+k
 m:d≤u.m→d≤s.m
 mle:s.m≤u.m
theorem Stir.refl (d:Nat) (u:St):Stir d u u 0:=⟨fun _ _ _=>rfl,Nat.le_refl _,Nat.le_refl _,fun h=>h,Nat.le_refl _⟩
theorem Stir.new {d:Nat} {u s:St} {k:Nat} (h:Stir d u s k) (o:AObj):Stir d u (s.new o) (k+1) :=
 ⟨fun b hb hd=>by rw [get_new_ne _ _ _ (by have:=h.n;omega)];exact h.same b hb hd,Nat.le_trans h.n (Nat.le_succ _),by have:=h.le;show s.n+1≤_;omega,h.m,h.mle⟩
theorem Stir.put {d:Nat} {u s:St} {k b:Nat} (h:Stir d u s k) (hd:d<u.n) (o:AObj) (hb:b=d∨u.n≤b):Stir d u (s.put b o) k :=
 ⟨fun c hc hcd=>by rw [get_put_ne' _ _ _ _ (by omega)];exact h.same c hc hcd,h.n,h.le,fun hm=>by
  show d≤minN s.m b
  rw [minN_min]
  have:=h.m hm
  omega,Nat.le_trans (minN_le_left _ _) h.mle⟩
theorem Stir.trans {d:Nat} {u s t:St} {j k:Nat} (a:Stir d u s j) (b:Stir d s t k):Stir d u t (j+k) :=
 ⟨fun c hc hd=>(b.same c (by have:=a.n;omega) hd).trans (a.same c hc hd),Nat.le_trans a.n b.n,by have:=a.le;have:=b.le;omega,fun h=>b.m (a.m h),Nat.le_trans b.mle a.mle⟩
theorem Stir.mono {d:Nat} {u s:St} {j k:Nat} (a:Stir d u s j) (h:j≤k):Stir d u s k:=⟨a.same,a.n,by have:=a.le;omega,a.m,a.mle⟩
theorem Stir.draw {d:Nat} {s t:St} {k:Nat} (a:Stir d ⟨s.h,s.n,far⟩ t k) (hd:d≤far):Stir d s ⟨t.h,t.n,minN s.m t.m⟩ k :=
 ⟨a.same,a.n,a.le,fun h=>by
  show d≤minN s.m t.m
  rw [minN_min]
  have:d≤t.m:=a.m hd
  omega,minN_le_left _ _⟩
structure New (s t:St) (k:Nat):Prop where
 same:∀ b,b<s.n→t.h.get b=s.h.get b
 n:s.n≤t.n
 le:t.n≤s.n+k
 m:t.m=s.m
theorem New.refl (s:St):New s s 0:=⟨fun _ _=>rfl,Nat.le_refl _,Nat.le_refl _,rfl⟩
theorem New.draw {s t:St} {k:Nat} (a:New ⟨s.h,s.n,far⟩ t k) (h:s.m≤far):New s ⟨t.h,t.n,minN s.m t.m⟩ k :=
 ⟨a.same,a.n,a.le,by
  show minN s.m t.m=s.m
  have:t.m=far:=a.m
  rw [minN_min];omega⟩
theorem Stir.after {d:Nat} {u s t:St} {j k:Nat} (a:Stir d u s j) (b:New s t k):Stir d u t (j+k) :=
 ⟨fun c hc hd=>(b.same c (by have:=a.n;omega)).trans (a.same c hc hd),Nat.le_trans a.n b.n,by have:=a.le;have:=b.le;omega,fun h=>by rw [b.m];exact a.m h,by rw [b.m];exact a.mle⟩
theorem Beside.after {u s t:St} {j k:Nat} (a:Beside u s j) (b:New s t k):Beside u t (j+k) :=
 ⟨fun c hc=>(b.same c (by have:=a.n;omega)).trans (a.same c hc),Nat.le_trans a.n b.n,by have:=a.le;have:=b.le;omega,by rw [b.m];exact a.m,by rw [b.m];exact a.far⟩
theorem call_stir_plain {X:FuncId→List Nat} {n:Nat} {f:FuncId} {args:List AV} {s:St} {fn:Func} {d k:Nat} {Q:AV→Prop} {R:Heap→Prop} (hf:P.funcs[f]? = some fn) (h0:R s.h)
  (h:∀ u:St,u.h=s.h→u.n=s.n→u.m=far→∃ v s',enterA P X (call P X n) f args u fn=.val v s'∧Stir d u s' k∧plain v=true∧Q v∧R s'.h) (hd:d≤far) :
  ∃ v t,call P X (n+1) (.fn f) args s=.val v t∧Stir d s t k∧Q v∧R t.h:=by
 obtain ⟨v,s',h1,h2,h3,h4,h5⟩:=h ⟨s.h,s.n,far⟩ rfl rfl rfl
 cases hb:Nat.ble s.n s'.m with
 | true =>
  refine ⟨v,s,?_,(Stir.refl d s).mono (Nat.zero_le _),h4,h0⟩
  show callStep P X (call P X n) (.fn f) args s=_
  unfold callStep
  simp only [hf,h1]
  unfold Abs.settle
  simp only [hb,h3]
  rfl
 | false =>
  refine ⟨v,⟨s'.h,s'.n,minN s.m s'.m⟩,?_,Stir.draw (s:=s) h2 hd,h4,h5⟩
  show callStep P X (call P X n) (.fn f) args s=_
  unfold callStep
  simp only [hf,h1]
  unfold Abs.settle
  simp only [hb]
  rfl
theorem call_stir {X:FuncId→List Nat} {n:Nat} {f:FuncId} {args:List AV} {s:St} {fn:Func} {d k:Nat} {Q:AV→Heap→Nat→Prop} (hf:P.funcs[f]? = some fn) (hk:keepAll=true)
  (h:∀ u:St,u.h=s.h→u.n=s.n→u.m=far→∃ v s',enterA P X (call P X n) f args u fn=.val v s'∧Stir d u s' k∧plain v=false∧Q v s'.h s'.n) (hd:d≤far) :
  ∃ v t,call P X (n+1) (.fn f) args s=.val v t∧Stir d s t k∧Q v t.h t.n:=by
 obtain ⟨v,s',h1,h2,h3,h4⟩:=h ⟨s.h,s.n,far⟩ rfl rfl rfl
 cases hb:Nat.ble s.n s'.m with
 | true =>
  refine ⟨v,⟨s'.h,s'.n,s.m⟩,?_,⟨h2.same,h2.n,h2.le,fun h=>h,Nat.le_refl _⟩,h4⟩
  show callStep P X (call P X n) (.fn f) args s=_
  unfold callStep
  simp only [hf,h1]
  unfold Abs.settle
  simp only [hb,h3,hk]
  rfl
 | false =>
  refine ⟨v,⟨s'.h,s'.n,minN s.m s'.m⟩,?_,Stir.draw (s:=s) h2 hd,h4⟩
  show callStep P X (call P X n) (.fn f) args s=_
  unfold callStep
  simp only [hf,h1]
  unfold Abs.settle
  simp only [hb]
  rfl
theorem call_new {X:FuncId→List Nat} {n:Nat} {f:FuncId} {args:List AV} {s:St} {fn:Func} {k:Nat} {Q:AV→Heap→Nat→Prop} (hf:P.funcs[f]? = some fn) (hk:keepAll=true)
  (h:∀ u:St,u.h=s.h→u.n=s.n→u.m=far→∃ v s',enterA P X (call P X n) f args u fn=.val v s'∧Beside u s' k∧plain v=false∧Q v s'.h s'.n) :
  ∃ v t,call P X (n+1) (.fn f) args s=.val v t∧New s t k∧Q v t.h t.n:=by
 obtain ⟨v,s',h1,h2,h3,h4⟩:=h ⟨s.h,s.n,far⟩ rfl rfl rfl
 have hb:Nat.ble s.n s'.m=true:=Nat.ble_eq_true_of_le h2.m
 refine ⟨v,⟨s'.h,s'.n,s.m⟩,?_,⟨h2.same,h2.n,h2.le,rfl⟩,h4⟩
 show callStep P X (call P X n) (.fn f) args s=_
 unfold callStep
 simp only [hf,h1]
 unfold Abs.settle
 simp only [hb,h3,hk]
 rfl
theorem call_new' {X:FuncId→List Nat} {n:Nat} {f:FuncId} {args:List AV} {s:St} {fn:Func} {k:Nat} {Q:AV→Heap→Nat→Prop} (hf:P.funcs[f]? = some fn) (hk:keepAll=true)
  (h:∀ u:St,u.h=s.h→u.n=s.n→u.m=far→∃ v s',enterA P X (call P X n) f args u fn=.val v s'∧Beside u s' k∧Q v s'.h s'.n∧(plain v=true→Q v s.h s.n)) :
  ∃ v t,call P X (n+1) (.fn f) args s=.val v t∧New s t k∧Q v t.h t.n:=by
 obtain ⟨v,s',h1,h2,h3,h4⟩:=h ⟨s.h,s.n,far⟩ rfl rfl rfl
 have hb:Nat.ble s.n s'.m=true:=Nat.ble_eq_true_of_le h2.m
 cases hp:plain v with
 | true =>
  refine ⟨v,s,?_,⟨fun _ _=>rfl,Nat.le_refl _,Nat.le_add_right _ _,rfl⟩,h4 hp⟩
  show callStep P X (call P X n) (.fn f) args s=_
  unfold callStep
  simp only [hf,h1]
  unfold Abs.settle
  simp only [hb,hp]
  rfl
 | false =>
  refine ⟨v,⟨s'.h,s'.n,s.m⟩,?_,⟨h2.same,h2.n,h2.le,rfl⟩,h3⟩
  show callStep P X (call P X n) (.fn f) args s=_
  unfold callStep
  simp only [hf,h1]
  unfold Abs.settle
  simp only [hb,hp,hk]
  rfl
theorem call_any {X:FuncId→List Nat} {n:Nat} {f:FuncId} {args:List AV} {s:St} {fn:Func} {Q:AV→Heap→Nat→Nat→Prop} (hf:P.funcs[f]? = some fn) (hk:keepAll=true)
  (h:∀ u:St,u.h=s.h→u.n=s.n→u.m=far→∃ v s',enterA P X (call P X n) f args u fn=.val v s'∧Q v s'.h s'.n s'.m∧(plain v=true→s.n≤s'.m→Q v s.h s.n s'.m)) :
  ∃ v t m,call P X (n+1) (.fn f) args s=.val v t∧Q v t.h t.n m∧((s.n≤m∧t.m=s.m)∨(m<s.n∧t.m=min s.m m)):=by
 obtain ⟨v,s',h1,h2,h3⟩:=h ⟨s.h,s.n,far⟩ rfl rfl rfl
 cases hb:Nat.ble s.n s'.m with
 | true =>
  have hle:=Nat.le_of_ble_eq_true hb
  cases hp:plain v with
  | true =>
   refine ⟨v,s,s'.m,?_,h3 hp hle,.inl ⟨hle,rfl⟩⟩
   show callStep P X (call P X n) (.fn f) args s=_
   unfold callStep
   simp only [hf,h1]
   unfold Abs.settle
   simp only [hb,hp]
   rfl
  | false =>
   refine ⟨v,⟨s'.h,s'.n,s.m⟩,s'.m,?_,h2,.inl ⟨hle,rfl⟩⟩
   show callStep P X (call P X n) (.fn f) args s=_
   unfold callStep
   simp only [hf,h1]
   unfold Abs.settle
   simp only [hb,hp,hk]
   rfl
 | false =>
  have hlt:s'.m<s.n:=by
   rcases Nat.lt_or_ge s'.m s.n with h | h
   ·exact h
   ·rw [Nat.ble_eq_true_of_le h] at hb;cases hb
  refine ⟨v,⟨s'.h,s'.n,minN s.m s'.m⟩,s'.m,?_,h2,.inr ⟨hlt,minN_min _ _⟩⟩
  show callStep P X (call P X n) (.fn f) args s=_
  unfold callStep
  simp only [hf,h1]
  unfold Abs.settle
  simp only [hb]
  rfl
/-! ### Ends of what may be -/
theorem ixa2_0 (s:St) (b o:Nat):ixaA 2 1 s (.ptr b o) (.int .i64 0)=.val (.ptr b o) s:=Eq.trans (Eq.refl _) (Eq.refl _)
theorem ixa2_1 (s:St) (b o:Nat):ixaA 2 1 s (.ptr b o) (.int .i64 1)=.val (.ptr b (o+1)) s:=Eq.trans (Eq.refl _) (Eq.refl _)
theorem kFold_def (f:AV→AV→AV) (x:Arg) (r:List Arg) (L:Env) (s:St):kFold f x r L s=okA (.val (foldA f (x.ev L) (evs r L)) s):=Eq.trans (Eq.refl _) (Eq.refl _)
theorem foldA_nil (f:AV→AV→AV) (x:AV):foldA f x []=x:=Eq.trans (Eq.refl _) (Eq.refl _)
theorem foldA_cons (f:AV→AV→AV) (x y:AV) (r:List AV):foldA f x (y::r)=foldA f (f x y) r:=Eq.trans (Eq.refl _) (Eq.refl _)
theorem minN_eq (a b:Nat):minN a b=min a b:=minN_min a b
theorem maxA_i64 (x y:Int):maxA (.int .i64 x) (.int .i64 y)=.int .i64 (max x y):=by
 show AV.int .i64 (match leI y x with | true=>x | false=>y)=_
 rw [leI_eq]
 by_cases h:y≤x
 ·rw [decide_eq_true h,Int.max_eq_left h]
 ·rw [decide_eq_false h,Int.max_eq_right (by omega)]
theorem minA_i64 (x y:Int):minA (.int .i64 x) (.int .i64 y)=.int .i64 (min x y):=by
 show AV.int .i64 (match leI x y with | true=>x | false=>y)=_
 rw [leI_eq]
 by_cases h:x≤y
 ·rw [decide_eq_true h,Int.min_eq_left h]
 ·rw [decide_eq_false h,Int.min_eq_right (by omega)]
/-! ### Numbers -/
theorem kShr_def (x y:Arg) (L:Env) (s:St):kShr x y L s=shrA s (x.ev L) (y.ev L):=Eq.trans (Eq.refl _) (Eq.refl _)
def shrI (a b:Int):Int:=a.fdiv (2 ^ (min b.toNat 64))
theorem shrA_u64 (s:St) (a:Int) (k:IntKind) (b:Int) (hb:0≤b):shrA s (.int .u64 a) (.int k b)=.val (.int .u64 (shrI a b)) s:=by
 cases b with
 | ofNat b=>rfl
 | negSucc b=>omega
theorem shrI_nonneg (a b:Int) (h:0≤a):0≤shrI a b:=Int.fdiv_nonneg h (Int.pow_nonneg (by decide))
theorem cviA_int (k k':IntKind) (s:St) (n:Int):cviA k s (.int k' n)=.val (.int k (wrapA k n)) s:=Eq.trans (Eq.refl _) (Eq.refl _)
theorem wrap_u64 (n:Int) (h:0≤n∧n≤18446744073709551615):wrapA .u64 n=n:=by rw [wrapA_eq];exact IntWalk.u64_in n h
theorem wrap_u64_range (n:Int):0≤IntKind.u64.wrap n∧IntKind.u64.wrap n≤18446744073709551615:=by
 simp [IntKind.wrap,IntKind.bits,IntKind.signed];omega
theorem aMul_def (s:St) (k:IntKind) (a b:Int):aMul s k a b=.val (.int k (wrapA k (Int.mul a b))) s:=Eq.trans (Eq.refl _) (Eq.refl _)
theorem aAdd_def (s:St) (k:IntKind) (a b:Int):aAdd s k a b=.val (.int k (wrapA k (Int.add a b))) s:=Eq.trans (Eq.refl _) (Eq.refl _)
def xorI (k:IntKind) (a b:Int):Int:=k.wrap (BitVec.ofInt k.bits a ^^^ BitVec.ofInt k.bits b).toNat
theorem xorI_range (a b:Int):0≤xorI .u64 a b∧xorI .u64 a b≤18446744073709551615:=wrap_u64_range _
theorem aXor_def (s:St) (k:IntKind) (a b:Int):aXor s k a b=.val (.int k (xorI k a b)) s:=Eq.trans (Eq.refl _) (Eq.refl _)
theorem aRem_ne (s:St) (k:IntKind) (a b:Int) (h:b≠0):aRem s k a b=.val (.int k (a.tmod b)) s:=by unfold aRem;rw [if_neg h]
end Go.Abs
set_option maxRecDepth 10000
namespace Go.Proofs.Ytkoefjgapmonaaa.walk
open Go.Abs Go.Proofs.Ytkoefjgapmonaaa.code
theorem leave_nil {P:Program} (L:Env) (s:St):leaveA P [] L [] s=.val (.tup []) s:=rfl
theorem call_turn {P:Program} {X:FuncId→List Nat} {n:Nat} {f:FuncId} {args:List AV} {s:St} {fn:Func} {v:AV} {t:St} (hf:P.funcs[f]? = some fn)
  (h:∀ u:St,u.h=s.h→u.n=s.n→u.m=far→∃ s',enterA P X (call P X n) f args u fn=.val v s'∧s'.m<s.n∧s'.h=t.h∧s'.n=t.n∧minN s.m s'.m=t.m):call P X (n+1) (.fn f) args s=.val v t:=by
 obtain ⟨s',h1,h2,h3,h4,h5⟩:=h ⟨s.h,s.n,far⟩ rfl rfl rfl
 show callStep P X (call P X n) (.fn f) args s=_
 have hb:Nat.ble s.n s'.m=false:=by
  cases hx:Nat.ble s.n s'.m
  ·rfl
  ·have:=Nat.le_of_ble_eq_true hx;omega
 unfold callStep
 simp only [hf,h1]
 unfold Abs.settle
 simp only [hb,h3,h4,h5]
 rfl
theorem verdict_ok (N:Nat) (hN:1≤N) (a b:Bool) (s:St) (hs:s.n≤far):call Try.prog X N (.fn 56) [.bool a,.bool b] s=.val (.int .i64 (if b then 1 else if a then 3 else 2)) s:=by
 obtain ⟨n,rfl⟩:∃ n,N=n+1:=⟨N - 1,by omega⟩
 refine call_plain' Try.func56 (fun u uh un um=>?_) rfl
 rw [enter56]
 cases b<;>cases a<;>simp only [res56,K56r0,K56r1,K56r2,K56r3,K56r4,K56r5,K56,Abs.W,reduceIte,Nat.reduceEqDiff,Nat.reduceAdd,decide_true,decide_false,kLoop_def,Nat.reduceSub,List.cons_append,List.nil_append,List.append_nil,List.length_cons,List.length_nil,Bool.false_eq_true]<;>exact ⟨_,rfl,by omega⟩
theorem begin1_ok (N:Nat) (hN:1≤N) (b h g box:Int) (p:Nat) (sz:Nat) (c:List AV) (s:St) (hp:p<s.n) (hg:s.h.get p=some (.cells (.int .i64 box::c) sz)) (hs:s.n+100≤far) :
  call Try.prog X N (.fn 49) [.agg [.int .i64 b,.int .i64 h,.int .i64 g],.ptr p 0] s=.val (.bool (!decide (b=box))) s:=by
 obtain ⟨n,rfl⟩:∃ n,N=n+1:=⟨N - 1,by omega⟩
 refine call_plain' Try.func49 (fun u uh un um=>?_) rfl
 have hf:far=1000000000:=rfl
 rw [← uh] at hg
 rw [enter49]
 simp (disch:=first|omega|(with_unfolding_all exact rfl)|(simp only[new_n,put_n,new_m];omega)|(refine put_m_le ?_;simp only[new_m];omega)) only [res49,K49r0,K49r1,K49,Abs.W,reduceIte,Nat.reduceEqDiff,Nat.reduceAdd,decide_true,decide_false,kLoop_def,Nat.reduceSub,List.cons_append,List.nil_append,List.append_nil,List.length_cons,List.length_nil,hg]
 exact ⟨_,rfl,by simp only [new_m];omega⟩
theorem melt_ok (N:Nat) (hN:1≤N) (a0 a1 a2 m0 m1 a5 a6 a7 a8 a9 i0 i1:Int) (v:AV) (hv:scalars [v]=true) (p sz:Nat) (s:St) (hp:p<s.n)
  (hg:s.h.get p=some (.cells [.int .i64 a0,.int .i64 a1,.int .i64 a2,.int .i64 m0,.int .i64 m1,.int .i64 a5,.int .i64 a6,.int .i64 a7,.int .i64 a8,.int .i64 a9,.int .i64 i0,.int .i64 i1,v] sz))
  (hi0:0≤i0∧i0≤1000000) (hi1:0≤i1∧i1≤1000000) (hm0:0≤m0∧m0≤1000000) (hm1:0≤m1∧m1≤1000000) (hs:s.n+100≤far) :
  call Try.prog X N (.fn 59) [.ptr p 0] s=.val (.tup []) ((s.put p (.cells [.int .i64 a0,.int .i64 a1,.int .i64 a2,.int .i64 m0,.int .i64 m1,.int .i64 a5,.int .i64 a6,.int .i64 a7,.int .i64 a8,.int .i64 a9,.int .i64 (max 0 (i0 - m1)),.int .i64 i1,v] sz)).put p (.cells [.int .i64 a0,.int .i64 a1,.int .i64 a2,.int .i64 m0,.int .i64 m1,.int .i64 a5,.int .i64 a6,.int .i64 a7,.int .i64 a8,.int .i64 a9,.int .i64 (max 0 (i0 - m1)),.int .i64 (max 0 (i1 - m0)),v] sz)):=by
 obtain ⟨n,rfl⟩:∃ n,N=n+1:=⟨N - 1,by omega⟩
 refine call_turn Try.func59 (fun u uh un um=>?_)
 have hf:far=1000000000:=rfl
 rw [← uh] at hg
 rw [enter59]
 simp (disch:=first|omega|(with_unfolding_all exact rfl)|(simp only[new_n,put_n,new_m];omega)|(refine put_m_le ?_;simp only[new_m];omega)) only [res59,K59r0,K59r1,K59,Abs.W,reduceIte,Nat.reduceEqDiff,Nat.reduceAdd,decide_true,decide_false,kLoop_def,Nat.reduceSub,List.cons_append,List.nil_append,List.append_nil,List.length_cons,List.length_nil,hg,ixa2_0,ixa2_1,kFold_def,foldA_nil,foldA_cons,maxA_i64,leave_nil,aSub_i64,cellsOf_int,Nat.zero_add]
 refine ⟨_,rfl,?_,?_,?_,?_⟩<;>simp only [St.put,minN_eq,uh,un,um]<;>omega
end Go.Proofs.Ytkoefjgapmonaaa.walk
set_option maxRecDepth 10000
namespace Go.Proofs.Ytkoefjgapmonaaa.walk
open Go.Abs Go.Proofs.Ytkoefjgapmonaaa.code
def rounds3:Nat:=rounds - 3
theorem kLoop_3 (b:K) (cl:CallF) (c:Ctx) (L:Env) (d:List Nat) (s:St):kLoop b cl c L d s=loopN b (rounds3+1+1+1) cl c L d s:=by
 rw [kLoop_def]
 have:rounds=rounds3+1+1+1:=by unfold rounds3 rounds;rfl
 rw [← this]
theorem put_ok (N:Nat) (hN:1≤N) (room a1 a2 m0 m1 a5 a6 a7 a8 a9 i0 i1 g:Int) (v:AV) (hv:scalars [v]=true) (p sz:Nat) (s:St) (hp:p<s.n)
  (hg:s.h.get p=some (.cells [.int .i64 room,.int .i64 a1,.int .i64 a2,.int .i64 m0,.int .i64 m1,.int .i64 a5,.int .i64 a6,.int .i64 a7,.int .i64 a8,.int .i64 a9,.int .i64 i0,.int .i64 i1,v] sz))
  (hi0:0≤i0∧i0≤1000000) (hi1:0≤i1∧i1≤1000000) (hgr:0≤g∧g≤1000000) (hs:s.n+100≤far) :
  call Try.prog X N (.fn 68) [.ptr p 0,.int .i64 g] s=.val (.tup []) ((s.put p (.cells [.int .i64 room,.int .i64 a1,.int .i64 a2,.int .i64 m0,.int .i64 m1,.int .i64 a5,.int .i64 a6,.int .i64 a7,.int .i64 a8,.int .i64 a9,.int .i64 (min (i0+g) room),.int .i64 i1,v] sz)).put p (.cells [.int .i64 room,.int .i64 a1,.int .i64 a2,.int .i64 m0,.int .i64 m1,.int .i64 a5,.int .i64 a6,.int .i64 a7,.int .i64 a8,.int .i64 a9,.int .i64 (min (i0+g) room),.int .i64 (min (i1+g) room),v] sz)):=by
 obtain ⟨n,rfl⟩:∃ n,N=n+1:=⟨N - 1,by omega⟩
 refine call_turn Try.func68 (fun u uh un um=>?_)
 have hf:far=1000000000:=rfl
 rw [← uh] at hg
 have l0:decide ((0:Int)<2)=true:=rfl
 have l1:decide ((1:Int)<2)=true:=rfl
 have l2:decide ((2:Int)<2)=false:=rfl
 have p0:∀ s,aAdd s .i64 0 1=.val (.int .i64 1) s:=fun s=>aAdd_i64 s 0 1 (by omega)
 have p1:∀ s,aAdd s .i64 1 1=.val (.int .i64 2) s:=fun s=>aAdd_i64 s 1 1 (by omega)
 have p2:∀ s,aAdd s .i64 i0 g=.val (.int .i64 (i0+g)) s:=fun s=>aAdd_i64 s i0 g (by omega)
 have p3:∀ s,aAdd s .i64 i1 g=.val (.int .i64 (i1+g)) s:=fun s=>aAdd_i64 s i1 g (by omega)
 rw [enter68]
 simp (disch:=first | omega | (with_unfolding_all exact rfl) | (simp only [new_n,put_n,new_m];omega)) only [res68,K68r0,K68r1,K68r2,K68r3,K68r4,K68l0,K68,Abs.W,reduceIte,Nat.reduceEqDiff,Nat.reduceAdd,decide_true,decide_false,Nat.reduceSub,List.cons_append,List.nil_append,List.append_nil,List.length_cons,List.length_nil,kLoop_3,loopN_succ,hg,l0,l1,l2,p0,p1,p2,p3,ixa2_0,ixa2_1,kFold_def,foldA_nil,foldA_cons,minA_i64,leave_nil,Nat.zero_add]
 refine ⟨_,rfl,?_,?_,?_,?_⟩<;>simp only [St.put,minN_eq,uh,un,um]<;>omega
theorem put_m_le' {s:St} {b k:Nat} {o:AObj} (h:k≤s.m) (hb:k≤b):k≤(s.put b o).m:=by
 show k≤minN s.m b
 rw [minN_eq]
 omega
theorem endsOf_ok (N:Nat) (hN:1≤N) (a b:Int) (s:St) (hs:s.n+100≤far):call Try.prog X N (.fn 50) [.agg [.int .i64 a,.int .i64 b]] s=.val (.agg [.int .i64 a,.int .i64 b]) s:=by
 obtain ⟨n,rfl⟩:∃ n,N=n+1:=⟨N - 1,by omega⟩
 refine call_plain' Try.func50 (fun u uh un um=>?_) rfl
 have hf:far=1000000000:=rfl
 rw [enter50]
 simp (disch:=first|omega|(with_unfolding_all exact rfl)|(simp only[new_n,put_n,new_m];omega)|(refine put_m_le ?_;simp only[new_m];omega)) only [res50,K50r0,K50r1,K50,Abs.W,reduceIte,Nat.reduceEqDiff,Nat.reduceAdd,decide_true,decide_false,kLoop_def,Nat.reduceSub,List.cons_append,List.nil_append,List.append_nil,List.length_cons,List.length_nil,Nat.zero_add]
 refine ⟨_,leave_cell _ _ _ _ (sh:=some 2) (by kernel_rfl) ?_,?_⟩
 ·simp (disch:=first|omega|(with_unfolding_all exact rfl)|(simp only[new_n,put_n,new_m];omega)|(refine put_m_le ?_;simp only[new_m];omega)) only [Abs.W,reduceIte,Nat.reduceEqDiff,Nat.reduceAdd,decide_true,decide_false,kLoop_def,Nat.reduceSub,List.cons_append,List.nil_append,List.append_nil,List.length_cons,List.length_nil]
 ·refine put_m_le' ?_ ?_<;>simp only [new_m,new_n]<;>omega
theorem endsSpan_ok (N:Nat) (hN:1≤N) (a b:Int) (s:St) (hs:s.n+100≤far):call Try.prog X N (.fn 37) [.agg [.int .i64 a,.int .i64 b]] s=.val (.agg [.int .i64 a,.int .i64 b]) s:=by
 obtain ⟨n,rfl⟩:∃ n,N=n+1:=⟨N - 1,by omega⟩
 refine call_plain' Try.func37 (fun u uh un um=>?_) rfl
 have hf:far=1000000000:=rfl
 rw [enter37]
 simp (disch:=first|omega|(with_unfolding_all exact rfl)|(simp only[new_n,put_n,new_m];omega)|(refine put_m_le ?_;simp only[new_m];omega)) only [res37,K37r0,K37r1,K37,Abs.W,reduceIte,Nat.reduceEqDiff,Nat.reduceAdd,decide_true,decide_false,kLoop_def,Nat.reduceSub,List.cons_append,List.nil_append,List.append_nil,List.length_cons,List.length_nil,Nat.zero_add,ixa2_0,ixa2_1]
 refine ⟨_,leave_cell _ _ _ _ (sh:=some 2) (by kernel_rfl) ?_,?_⟩
 ·simp (disch:=first|omega|(with_unfolding_all exact rfl)|(simp only[new_n,put_n,new_m];omega)|(refine put_m_le ?_;simp only[new_m];omega)) only [Abs.W,reduceIte,Nat.reduceEqDiff,Nat.reduceAdd,decide_true,decide_false,kLoop_def,Nat.reduceSub,List.cons_append,List.nil_append,List.append_nil,List.length_cons,List.length_nil]
 ·refine put_m_le' ?_ ?_<;>simp only [new_m,new_n]<;>omega
end Go.Proofs.Ytkoefjgapmonaaa.walk
set_option maxRecDepth 10000
namespace Go.Proofs.Ytkoefjgapmonaaa.walk
open Go.Abs Go.Proofs.Ytkoefjgapmonaaa.code
variable {z:Nat}
theorem kSlice_def (f:Option AV→Option AV→St→AV→ARes) (x:Arg) (lo hi:Option Arg) (L:Env) (s:St):kSlice f x lo hi L s=f (optEv lo L) (optEv hi L) s (x.ev L):=rfl
theorem optEv_some (a:Arg) (L:Env):optEv (some a) L=some (a.ev L):=rfl
theorem optEv_none (L:Env):optEv none L=none:=rfl
structure BoxNow where
 (room a1 a2 m0 m1 a5 a6 a7 a8 hour i0 i1:Int)
def BoxNow.cells (x:BoxNow) (v:AV):List AV:=[.int .i64 x.room,.int .i64 x.a1,.int .i64 x.a2,.int .i64 x.m0,.int .i64 x.m1,.int .i64 x.a5,.int .i64 x.a6,.int .i64 x.a7,.int .i64 x.a8,.int .i64 x.hour,.int .i64 x.i0,.int .i64 x.i1,v]
structure Head (h:Heap) (z p:Nat) (v v':AV) (len hour g:Int):Prop where
 count:∀ s,lenSlA s v=.val (.int .i64 len) s
 pos:0<len
 ok:∀ t,okA (.val v t)=.val v t
 sc:scalars [v]=true
 cell:cellsOf 1 v'=some [v']
 sc':scalars [v']=true
 rest:∀ s,sliceVal 3 (some (.int .i64 1)) none s v=.val v' s
 at_:∃ b o c sz,(b≠p∧b<z)∧(∀ s,ixsA 3 s v (.int .i64 0)=.val (.ptr b o) s)∧h.get b=some (.cells c sz)∧nth c (o+1)=.int .i64 hour∧nth c (o+2)=.int .i64 g
theorem fill_round (N:Nat) (hN:1≤N) (cx:Ctx) (x:BoxNow) (v v':AV) (len g:Int) (p sz:Nat) (s:St) (L:Env) (hp:p<s.n) (hg:s.h.get p=some (.cells (x.cells v) sz)) (hd:Head s.h z p v v' len x.hour g)
  (hi0:0≤x.i0∧x.i0≤1000000) (hi1:0≤x.i1∧x.i1≤1000000) (hgr:0≤g∧g≤1000000) (hs:s.n+100≤far) (h0:L.find 0=.ptr p 0) :
  ∃ L1,K58l0 (call Try.prog X N) cx L [] s=.done .norm L1 [] (((s.put p (.cells ({x with i0:=min (x.i0+g) x.room}.cells v) sz)).put p (.cells ({x with i0:=min (x.i0+g) x.room,i1:=min (x.i1+g) x.room}.cells v) sz)).put p (.cells ({x with i0:=min (x.i0+g) x.room,i1:=min (x.i1+g) x.room}.cells v') sz))∧L1.find 0=.ptr p 0:=by
 have hf:far=1000000000:=rfl
 obtain ⟨dl,dp,dk,ds,dc,ds',dr,b,o,c,sz2,hbp,hix,hgb,hh,hgg⟩:=hd
 have hput:=put_ok N hN x.room x.a1 x.a2 x.m0 x.m1 x.a5 x.a6 x.a7 x.a8 x.hour x.i0 x.i1 g v ds p sz s hp hg hi0 hi1 hgr hs
 have e0:decide (0<len)=true:=by simpa using dp
 have e1:∀ a:Int,decide (a=a)=true:=fun a=>by simp
 simp only [BoxNow.cells] at hg ⊢
 simp (disch:=first|omega|(with_unfolding_all exact rfl)|(simp only[new_n,put_n,new_m];omega)|(refine put_m_le ?_;simp only[new_m];omega)) only [res58,K58r0s19,K58r0s18,K58r0s17,K58r0s16,K58r0s15,K58r0s14,K58r0s13,K58r0s12,K58r0s11,K58r0s10,K58r0s9,K58r0s8,K58r0,K58r1,K58r2,K58l0,K58,Abs.W,reduceIte,Nat.reduceEqDiff,Nat.reduceAdd,decide_true,decide_false,kLoop_def,Nat.reduceSub,List.cons_append,List.nil_append,List.append_nil,List.length_cons,List.length_nil,h0,hg,dl,dk,dc,ds',dr,hix,hgb,hh,hgg,e0,e1,hput,kSlice_def,optEv_some,optEv_none,Nat.zero_add,Env.find_set,ixa2_0]
 exact ⟨_,rfl,by simp only [Env.find_set,h0,reduceIte,Nat.reduceEqDiff]⟩
theorem fill_none (N:Nat) (cx:Ctx) (x:BoxNow) (v:AV) (p sz:Nat) (s:St) (L:Env) (hg:s.h.get p=some (.cells (x.cells v) sz)) (dl:∀ s,lenSlA s v=.val (.int .i64 0) s) (dk:∀ t,okA (.val v t)=.val v t) (hs:s.n+100≤far) (h0:L.find 0=.ptr p 0) :
  ∃ L1,K58l0 (call Try.prog X N) cx L [] s=.done (.exit 0) L1 [] s:=by
 have hf:far=1000000000:=rfl
 have e0:decide ((0:Int)<0)=false:=rfl
 simp only [BoxNow.cells] at hg
 simp (disch:=first|omega|(with_unfolding_all exact rfl)|(simp only[new_n,put_n,new_m];omega)|(refine put_m_le ?_;simp only[new_m];omega)) only [res58,K58r0s19,K58r0s18,K58r0s17,K58r0s16,K58r0s15,K58r0s14,K58r0s13,K58r0s12,K58r0s11,K58r0s10,K58r0s9,K58r0s8,K58r0,K58r1,K58r2,K58l0,K58,Abs.W,reduceIte,Nat.reduceEqDiff,Nat.reduceAdd,decide_true,decide_false,kLoop_def,Nat.reduceSub,List.cons_append,List.nil_append,List.append_nil,List.length_cons,List.length_nil,h0,hg,dl,dk,e0,Nat.zero_add,Env.find_set]
 exact ⟨_,rfl⟩
theorem fill_later (N:Nat) (cx:Ctx) (x:BoxNow) (v v':AV) (len hour g:Int) (p sz:Nat) (s:St) (L:Env) (hg:s.h.get p=some (.cells (x.cells v) sz)) (hd:Head s.h z p v v' len hour g) (hne:hour≠x.hour) (hs:s.n+100≤far) (h0:L.find 0=.ptr p 0) :
  ∃ L1,K58l0 (call Try.prog X N) cx L [] s=.done (.exit 0) L1 [] s:=by
 obtain ⟨dl,dp,dk,ds,dc,ds',dr,b,o,c,sz2,hbp,hix,hgb,hh,hgg⟩:=hd
 have e0:decide (0<len)=true:=by simpa using dp
 have hf:far=1000000000:=rfl
 have e1:decide (hour=x.hour)=false:=by simpa using hne
 simp only [BoxNow.cells] at hg
 simp (disch:=first|omega|(with_unfolding_all exact rfl)|(simp only[new_n,put_n,new_m];omega)|(refine put_m_le ?_;simp only[new_m];omega)) only [res58,K58r0s19,K58r0s18,K58r0s17,K58r0s16,K58r0s15,K58r0s14,K58r0s13,K58r0s12,K58r0s11,K58r0s10,K58r0s9,K58r0s8,K58r0,K58r1,K58r2,K58l0,K58,Abs.W,reduceIte,Nat.reduceEqDiff,Nat.reduceAdd,decide_true,decide_false,kLoop_def,Nat.reduceSub,List.cons_append,List.nil_append,List.append_nil,List.length_cons,List.length_nil,h0,hg,dl,dk,hix,hgb,hh,e0,e1,Nat.zero_add,Env.find_set]
 exact ⟨_,rfl⟩
inductive Rests (h:Heap) (z p:Nat):AV→List (Int × Int)→Prop
 | nil (v:AV):(∀ s,lenSlA s v=.val (.int .i64 0) s)→(∀ t,okA (.val v t)=.val v t)→scalars [v]=true→Rests h z p v []
 | cons (v v':AV) (len hour g:Int) (fs:List (Int × Int)):Head h z p v v' len hour g→0≤g∧g≤1000000→Rests h z p v' fs→Rests h z p v ((hour,g)::fs)
theorem Head.grow {h h':Heap} {p:Nat} {v v':AV} {len hour g:Int} (r:Head h z p v v' len hour g) (hh:∀ b,b≠p→b<z→h'.get b=h.get b):Head h' z p v v' len hour g:=by
 obtain ⟨dl,dp,dk,ds,dc,ds',dr,b,o,c,sz2,hbp,hix,hgb,h1,h2⟩:=r
 exact ⟨dl,dp,dk,ds,dc,ds',dr,b,o,c,sz2,hbp,hix,by rw [hh b hbp.1 hbp.2];exact hgb,h1,h2⟩
theorem Rests.grow {h h':Heap} {p:Nat} {v:AV} {fs:List (Int × Int)} (r:Rests h z p v fs) (hh:∀ b,b≠p→b<z→h'.get b=h.get b):Rests h' z p v fs:=by
 induction r with
 | nil v h1 h2 h3=>exact .nil v h1 h2 h3
 | cons v v' len hour g fs h1 h2 _ ih=>exact .cons v v' len hour g fs (h1.grow hh) h2 ih
def BoxNow.put (x:BoxNow) (g:Int):BoxNow:={x with i0:=min (x.i0+g) x.room,i1:=min (x.i1+g) x.room}
def BoxNow.fill (x:BoxNow):List (Int × Int)→BoxNow
 | []=>x
 | (hour,g)::r=>if hour=x.hour then (x.put g).fill r else x
def left (hour:Int):List (Int × Int)→List (Int × Int)
 | []=>[]
 | (h,g)::r=>if h=hour then left hour r else (h,g)::r
structure BoxNow.Fits (x:BoxNow):Prop where
 r:0≤x.room∧x.room≤1000000
 i0:0≤x.i0∧x.i0≤1000000
 i1:0≤x.i1∧x.i1≤1000000
theorem BoxNow.Fits.put {x:BoxNow} (h:x.Fits) {g:Int} (hg:0≤g∧g≤1000000):(x.put g).Fits:=by
 obtain ⟨h1,h2,h3⟩:=h
 refine ⟨h1,?_,?_⟩<;>simp only [BoxNow.put]<;>omega
structure Turned (p:Nat) (s s':St):Prop where
 same:∀ b,b≠p→s'.h.get b=s.h.get b
 n:s'.n=s.n
 or:(s'.h=s.h∧s'.m=s.m)∨s'.m=min s.m p
theorem fill_round' (N:Nat) (hN:1≤N) (cx:Ctx) (x:BoxNow) (v v':AV) (len g:Int) (p sz:Nat) (s:St) (L:Env) (hp:p<s.n) (hg:s.h.get p=some (.cells (x.cells v) sz)) (hd:Head s.h z p v v' len x.hour g)
  (hx:x.Fits) (hgr:0≤g∧g≤1000000) (hs:s.n+100≤far) (h0:L.find 0=.ptr p 0) :
  ∃ L1 S,K58l0 (call Try.prog X N) cx L [] s=.done .norm L1 [] S∧L1.find 0=.ptr p 0∧S.h.get p=some (.cells ((x.put g).cells v') sz)∧(∀ b,b≠p→S.h.get b=s.h.get b)∧S.n=s.n∧S.m=min s.m p:=by
 obtain ⟨L1,e,h1⟩:=fill_round N hN cx x v v' len g p sz s L hp hg hd hx.i0 hx.i1 hgr hs h0
 have hff:far=1000000000:=rfl
 have hb:p<549755813888:=by omega
 refine ⟨L1,_,e,h1,get_put_eq _ _ _ _ rfl hb,fun b hb=>?_,rfl,?_⟩
 ·rw [get_put_ne' _ _ _ _ hb,get_put_ne' _ _ _ _ hb,get_put_ne' _ _ _ _ hb]
 ·simp only [St.put,minN_eq];omega
theorem fill_loop (N:Nat) (hN:1≤N) (cx:Ctx) (p sz:Nat):∀ (fs:List (Int × Int)) (fuel:Nat) (x:BoxNow) (v:AV) (s:St) (L:Env),fs.length<fuel→p<s.n→s.n+100≤far →
  s.h.get p=some (.cells (x.cells v) sz)→Rests s.h z p v fs→x.Fits→L.find 0=.ptr p 0 →
  ∃ L1 s' v',loopN K58l0 fuel (call Try.prog X N) cx L [] s=.done (.exit 0) L1 [] s'∧s'.h.get p=some (.cells ((x.fill fs).cells v') sz)∧Rests s'.h z p v' (left x.hour fs)∧Turned p s s'
 | [],fuel,x,v,s,L,hf,hp,hs,hg,hr,hx,h0=>by
  obtain ⟨m,rfl⟩:∃ m,fuel=m+1:=⟨fuel - 1,by simp at hf;omega⟩
  cases hr with
  | nil _ h1 h2 h3 =>
   obtain ⟨L1,e⟩:=fill_none N cx x v p sz s L hg h1 h2 hs h0
   exact ⟨L1,s,v,by rw [loopN_succ,e,thenK_exit],hg,.nil v h1 h2 h3,fun _ _=>rfl,rfl,.inl ⟨rfl,rfl⟩⟩
 | (hour,g)::fs,fuel,x,v,s,L,hf,hp,hs,hg,hr,hx,h0=>by
  obtain ⟨m,rfl⟩:∃ m,fuel=m+1:=⟨fuel - 1,by simp at hf;omega⟩
  cases hr with
  | cons _ v' len _ _ _ hd hgr hr =>
   by_cases hh:hour=x.hour
   ·subst hh
    obtain ⟨L1,S,e,h1,g1,g2,g3,g4⟩:=fill_round' N hN cx x v v' len g p sz s L hp hg hd hx hgr hs h0
    obtain ⟨L2,s',w,e2,hg2,hr2,ht⟩:=fill_loop N hN cx p sz fs m (x.put g) v' S L1 (by simp at hf;omega) (by omega) (by omega) g1 (hr.grow fun b hb _=>g2 b hb) (hx.put hgr) h1
    refine ⟨L2,s',w,by rw [loopN_succ,e,thenK_norm];exact e2,?_,?_,?_⟩
    ·simp only [BoxNow.fill,reduceIte];exact hg2
    ·simp only [left,reduceIte];exact hr2
    ·obtain ⟨t1,t2,t3⟩:=ht
     refine ⟨fun b hb=>by rw [t1 b hb,g2 b hb],by rw [t2,g3],.inr ?_⟩
     rcases t3 with ⟨_,t3⟩ | t3<;>rw [t3]<;>omega
   ·obtain ⟨L1,e⟩:=fill_later N cx x v v' len hour g p sz s L hg hd hh hs h0
    refine ⟨L1,s,v,by rw [loopN_succ,e,thenK_exit],?_,?_,fun _ _=>rfl,rfl,.inl ⟨rfl,rfl⟩⟩
    ·simp only [BoxNow.fill,if_neg hh];exact hg
    ·simp only [left,if_neg hh];exact .cons _ v' len _ _ _ hd hgr hr
theorem fill_ok (N:Nat) (hN:2≤N) (x:BoxNow) (fs:List (Int × Int)) (v:AV) (p sz:Nat) (s:St) (hk:fs.length≤1000) (hp:p<s.n) (hs:s.n+100≤far) (hg:s.h.get p=some (.cells (x.cells v) sz)) (hr:Rests s.h z p v fs) (hx:x.Fits) :
  ∃ s' v',call Try.prog X N (.fn 58) [.ptr p 0] s=.val (.tup []) s'∧s'.h.get p=some (.cells ((x.fill fs).cells v') sz)∧Rests s'.h z p v' (left x.hour fs)∧Turned p s s':=by
 obtain ⟨n,rfl⟩:∃ n,N=n+1:=⟨N - 1,by omega⟩
 have hff:far=1000000000:=rfl
 obtain ⟨L1,s1,v',e,h1,h2,h3⟩:=fill_loop n (by omega) ⟨58,none,Try.f58.ntmps,X 58⟩ p sz fs rounds x v ⟨s.h,s.n,far⟩ (.cons 0 (.ptr p 0) .nil) (by unfold rounds;omega) hp hs hg hr hx rfl
 have hrun:∀ u:St,u.h=s.h→u.n=s.n→u.m=far→enterA Try.prog X (call Try.prog X n) 58 [.ptr p 0] u Try.f58=.val (.tup []) s1:=fun u uh un um=>by
  obtain ⟨uh',un',um'⟩:=u
  simp only at uh un um
  subst uh un um
  rw [enter58]
  simp only [res58,K58r0s19,K58r0s18,K58r0s17,K58r0s16,K58r0s15,K58r0s14,K58r0s13,K58r0s12,K58r0s11,K58r0s10,K58r0s9,K58r0s8,K58r0,K58r1,K58r2,K58,Abs.W,reduceIte,Nat.reduceEqDiff,Nat.reduceAdd,decide_true,decide_false,kLoop_def,Nat.reduceSub,List.cons_append,List.nil_append,List.append_nil,List.length_cons,List.length_nil,e,leave_nil]
 obtain ⟨t1,t2,t3⟩:=h3
 rcases t3 with ⟨t3,t4⟩ | t3
 ·have hh:s.h=s1.h:=t3.symm
  refine ⟨s,v',call_plain' Try.func58 (fun u uh un um=>⟨s1,hrun u uh un um,?_⟩) rfl,by rw [hh];exact h1,by rw [hh];exact h2,fun _ _=>rfl,rfl,.inl ⟨rfl,rfl⟩⟩
  have:s1.m=far:=t4
  omega
 ·have hm:s1.m=p:=by rw [t3];show min far p=p;omega
  refine ⟨⟨s1.h,s1.n,min s.m p⟩,v',call_turn Try.func58 (fun u uh un um=>⟨s1,hrun u uh un um,by omega,rfl,rfl,?_⟩),h1,h2,t1,t2,.inr rfl⟩
  show minN s.m s1.m=min s.m p
  rw [minN_eq,hm]
end Go.Proofs.Ytkoefjgapmonaaa.walk
set_option maxRecDepth 10000
namespace Go.Proofs.Ytkoefjgapmonaaa.walk
open Go.Abs Go.Proofs.Ytkoefjgapmonaaa.code
def BoxNow.warmth (x:BoxNow) (j0 j1:Int):Int × Int:=(if 0<j1 then x.a5 else x.a7,if 0<j0 then x.a6 else x.a8)
end Go.Proofs.Ytkoefjgapmonaaa.walk
set_option maxRecDepth 10000
namespace Go.Proofs.Ytkoefjgapmonaaa.walk
open Go.Abs Go.Proofs.Ytkoefjgapmonaaa.code
structure WarmAt (h:Heap) (n:Nat) (vb:AV) (box hour w0 w1:Int):Prop where
 ok:∀ t,okA (.val vb t)=.val vb t
 at_:∃ vr b1 p1 c1 sz1 b2 p2 c2 sz2,b1<n∧b2<n∧(∀ s,ixsA 1 s vb (.int .i64 box)=.val (.ptr b1 p1) s)∧h.get b1=some (.cells c1 sz1)∧nth c1 p1=vr∧(∀ t,okA (.val vr t)=.val vr t) ∧
  (∀ s,ixsA 2 s vr (.int .i64 hour)=.val (.ptr b2 p2) s)∧h.get b2=some (.cells c2 sz2)∧cut p2 2 c2=some [.int .i64 w0,.int .i64 w1]
def hit (hour:Int) (t:Stay):Bool:=decide (t.fro≤hour) && decide (hour<t.to)
theorem WarmAt.grow {h h':Heap} {n n':Nat} {vb:AV} {box hour w0 w1:Int} (r:WarmAt h n vb box hour w0 w1) (hh:∀ b,b<n→h'.get b=h.get b) (hn:n≤n'):WarmAt h' n' vb box hour w0 w1:=by
 obtain ⟨wk,vr,b1,p1,c1,sz1,b2,p2,c2,sz2,hb1,hb2,hx1,hg1,hn1,rk,hx2,hg2,hc2⟩:=r
 exact ⟨wk,vr,b1,p1,c1,sz1,b2,p2,c2,sz2,by omega,by omega,hx1,by rw [hh b1 hb1];exact hg1,hn1,rk,hx2,by rw [hh b2 hb2];exact hg2,hc2⟩
end Go.Proofs.Ytkoefjgapmonaaa.walk
set_option maxRecDepth 10000
namespace Go.Proofs.Ytkoefjgapmonaaa.walk
open Go.Abs Go.Proofs.Ytkoefjgapmonaaa.code
def lossFrom (t:Int):Int→List Rate→Int
 | cur,[]=>cur
 | cur,r::rs=>if t<r.above then cur else lossFrom t r.loss rs
def two (E:Int) (a b:Int):List AV:=if E=0 then [.int .i64 a,.int .i64 b] else [.int .i64 b,.int .i64 a]
structure LossRound (p5:Nat) (u s s1:St) (L L1:Env) (k:Nat):Prop where
 find:∀ t,t≠9→t≠19→t≠20→t≠26→L1.find t=L.find t
 same:∀ b,b≠p5→b<s.n→s1.h.get b=s.h.get b
 n:s.n≤s1.n
 beside:Beside u s1 k
end Go.Proofs.Ytkoefjgapmonaaa.walk
