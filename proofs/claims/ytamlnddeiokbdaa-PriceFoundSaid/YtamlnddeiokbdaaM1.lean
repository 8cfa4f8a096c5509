/- Dues: what steps make of a turnover. -/
import Derived.Test.YtamlnddeiokbdaaAbsOps
import Derived.Test.YtamlnddeiokbdaaCodes
import Derived.Test.YtamlnddeiokbdaaAbsWalk
import Derived.Test.YtamlnddeiokbdaaWalkAll
set_option linter.unusedSimpArgs false
set_option maxHeartbeats 16000000
namespace Go.Abs
structure Step where
 (fr sh:Int)
def Step.cells (s:Step):List AV:=[.int .i64 s.fr,.int .i64 s.sh]
def stepAt (l:List Step) (i:Nat):Step:=l.getD i ⟨0,0⟩
def upTo (l:List Step) (t:Int) (i:Nat):Int:=if i+1<l.length then min t (stepAt l (i+1)).fr else t
def partI (l:List Step) (t:Int) (i:Nat):Int:=max 0 (upTo l t i - (stepAt l i).fr) * (stepAt l i).sh
def shareTo (l:List Step) (t:Int):Nat→Int
 | 0=>0
 | i+1=>shareTo l t i+partI l t i
def dueI (l:List Step) (t:Int):Int:=shareTo l t l.length / 1000
structure StepsOk (l:List Step):Prop where
 n0:1≤l.length
 n1:l.length≤6
 f0:(stepAt l 0).fr=0
 up:∀ i,i+1<l.length→(stepAt l i).fr<(stepAt l (i+1)).fr
 f1:∀ i,i<l.length→0≤(stepAt l i).fr∧(stepAt l i).fr≤100000
 s0:∀ i,i<l.length→0≤(stepAt l i).sh
 s1:∀ i,i<l.length→(stepAt l i).sh≤1000
def clip (l:List Step) (t:Int) (i:Nat):Int:=if i<l.length then min t (stepAt l i).fr else t
theorem part_clip {l:List Step} (ok:StepsOk l) {t:Int} (_ht:0≤t) {i:Nat} (hi:i<l.length):max 0 (upTo l t i - (stepAt l i).fr)=clip l t (i+1) - clip l t i∧clip l t i≤clip l t (i+1):=by
 have f1:=ok.f1 i hi
 unfold upTo clip
 rw [if_pos hi]
 by_cases h:i+1<l.length
 ·have u:=ok.up i h
  rw [if_pos h]
  omega
 ·rw [if_neg h]
  omega
theorem share_diff {l:List Step} (ok:StepsOk l) {x y:Int} (hx:0≤x) (hxy:x≤y):∀ i,i≤l.length→0≤shareTo l y i - shareTo l x i∧shareTo l y i - shareTo l x i≤1000 * (clip l y i - clip l x i)
 | 0,_=>by
  have:=ok.n0
  have:=ok.f0
  unfold clip
  rw [if_pos (by omega),if_pos (by omega)]
  show 0≤(0:Int) - 0∧(0:Int) - 0≤_
  omega
 | i+1,hi=>by
  obtain ⟨a,b⟩:=share_diff ok hx hxy i (by omega)
  obtain ⟨px,lx⟩:=part_clip ok hx (i:=i) (by omega)
  obtain ⟨py,ly⟩:=part_clip ok (Int.le_trans hx hxy) (i:=i) (by omega)
  have s0:=ok.s0 i (by omega)
  have s1:=ok.s1 i (by omega)
  have hd:clip l x (i+1) - clip l x i≤clip l y (i+1) - clip l y i:=by rw [← px,← py];unfold upTo;by_cases h:i+1<l.length<;>simp only [h,if_true,if_false]<;>omega
  show 0≤shareTo l y i+partI l y i - (shareTo l x i+partI l x i)∧shareTo l y i+partI l y i - (shareTo l x i+partI l x i)≤_
  unfold partI
  rw [px,py]
  generalize (stepAt l i).sh=S at *
  generalize clip l x (i+1)=A at *
  generalize clip l x i=B at *
  generalize clip l y (i+1)=C at *
  generalize clip l y i=D at *
  have k:(C - D) * S - (A - B) * S=(C - D - (A - B)) * S:=by rw [← Int.sub_mul]
  have k0:0≤(C - D - (A - B)) * S:=Int.mul_nonneg (by omega) s0
  have k1:(C - D - (A - B)) * S≤(C - D - (A - B)) * 1000:=Int.mul_le_mul_of_nonneg_left s1 (by omega)
  generalize (C - D) * S=E at *
  generalize (A - B) * S=F at *
  omega
theorem share_range {l:List Step} (ok:StepsOk l) {t:Int} (ht:0≤t):∀ i,i≤l.length→0≤shareTo l t i∧shareTo l t i≤1000 * t
 | i,hi=>by
  obtain ⟨a,b⟩:=share_diff ok (Int.le_refl 0) ht i hi
  have z:∀ j,j≤l.length→shareTo l 0 j=0:=by
   intro j
   induction j with
   | zero=>intro _;rfl
   | succ j ih =>
    intro hj
    show shareTo l 0 j+partI l 0 j=0
    rw [ih (by omega)]
    have f1:=ok.f1 j (by omega)
    have:max 0 (upTo l 0 j - (stepAt l j).fr)=0:=by unfold upTo;by_cases h:j+1<l.length<;>simp only [h,if_true,if_false]<;>omega
    unfold partI
    rw [this,Int.zero_mul]
    rfl
  rw [z i hi] at a b
  have c:clip l t i - clip l 0 i≤t:=by
   unfold clip
   by_cases h:i<l.length
   ·have f1:=ok.f1 i h
    simp only [h,if_true];omega
   ·simp only [h,if_false];omega
  omega
theorem due_grows {l:List Step} (ok:StepsOk l) {x y:Int} (hx:0≤x) (hxy:x≤y):dueI l x≤dueI l y∧dueI l y - dueI l x≤y - x:=by
 obtain ⟨a,b⟩:=share_diff ok hx hxy l.length (Nat.le_refl _)
 have c:clip l y l.length - clip l x l.length=y - x:=by unfold clip;rw [if_neg (by omega),if_neg (by omega)]
 rw [c] at b
 unfold dueI
 omega
end Go.Abs
set_option maxRecDepth 10000
namespace Go.Proofs.Ytamlnddeiokbdaa.walk
open Go.Abs Go.Proofs.Ytamlnddeiokbdaa.code
theorem within_ok (N:Nat) (hN:1≤N) (x lo hi:Int) (s:St) (h0:lo≤x) (h1:x≤hi) (hs:s.n≤far):call Try.prog X N (.fn 56) [.int .i64 x,.int .i64 lo,.int .i64 hi] s=.val (.int .i64 0) s:=by
 obtain ⟨n,rfl⟩:∃ n,N=n+1:=⟨N - 1,by omega⟩
 refine call_plain (s':=⟨s.h,s.n,far⟩) Try.func56 ?_ rfl hs
 have e0:decide (x<lo)=false:=by simp;omega
 have e1:decide (hi<x)=false:=by simp;omega
 rw [enter56]
 simp only [res56,K56r0,K56r1s7,K56r1s6,K56r1s5,K56r1,K56r2,K56r3,K56,Abs.W,reduceIte,Nat.reduceEqDiff,Nat.reduceAdd,decide_true,decide_false,kLoop_def,Nat.reduceSub,List.cons_append,List.nil_append,List.append_nil,List.length_cons,List.length_nil,e0,e1]
theorem counted_ok (N:Nat) (hN:1≤N) (x lo hi:Int) (s:St) (h0:lo≤x) (h1:x≤hi) (hs:s.n≤far):call Try.prog X N (.fn 58) [.int .i64 x,.int .i64 lo,.int .i64 hi] s=.val (.int .i64 0) s:=by
 obtain ⟨n,rfl⟩:∃ n,N=n+1:=⟨N - 1,by omega⟩
 refine call_plain (s':=⟨s.h,s.n,far⟩) Try.func58 ?_ rfl hs
 have e0:decide (x<lo)=false:=by simp;omega
 have e1:decide (hi<x)=false:=by simp;omega
 rw [enter58]
 simp only [res58,K58r0,K58r1,K58r2,K58r3,K58r4,K58r5,K58,Abs.W,reduceIte,Nat.reduceEqDiff,Nat.reduceAdd,decide_true,decide_false,kLoop_def,Nat.reduceSub,List.cons_append,List.nil_append,List.append_nil,List.length_cons,List.length_nil,e0,e1]
theorem named_ok (N:Nat) (hN:1≤N) (x hi:Int) (s:St) (h0:0≤x) (h1:x<hi) (hs:s.n≤far):call Try.prog X N (.fn 43) [.int .i64 x,.int .i64 hi] s=.val (.int .i64 0) s:=by
 obtain ⟨n,rfl⟩:∃ n,N=n+1:=⟨N - 1,by omega⟩
 refine call_plain (s':=⟨s.h,s.n,far⟩) Try.func43 ?_ rfl hs
 have e0:decide (x<0)=false:=by simp;omega
 have e1:decide (hi≤x)=false:=by simp;omega
 rw [enter43]
 simp only [res43,K43r0,K43r1s6,K43r1s5,K43r1s4,K43r1,K43r2,K43r3,K43,Abs.W,reduceIte,Nat.reduceEqDiff,Nat.reduceAdd,decide_true,decide_false,kLoop_def,Nat.reduceSub,List.cons_append,List.nil_append,List.append_nil,List.length_cons,List.length_nil,e0,e1]
theorem or_loop (cl:CallF) (cx:Ctx) (k b o cap:Nat) (e:Bool) (c:List AV) (sz:Nat) (s:St) (hb:s.h.get b=some (.cells c sz)) (hc:∀ j,j<k→nth c (o+j)=.int .i64 0) (hk:k≤1000) :
  ∀ (m i fuel:Nat) (L:Env),i+m=k→m<fuel→L.find 6=.slice b o k cap e→L.find 7=.int .i64 k→L.find 8=.int .i64 i→L.find 3=.int .i64 0 →
  ∃ L',loopN K35l0 fuel cl cx L [] s=.done (.exit 0) L' [] s∧L'.find 3=.int .i64 0
 | m,i,0,L,hm,hf,h6,h7,h8,h3=>by omega
 | m,i,fuel+1,L,hm,hf,h6,h7,h8,h3=>by
  by_cases hlt:i<k
  ·obtain ⟨m',rfl⟩:∃ m',m=m'+1:=⟨m - 1,by omega⟩
   have e0:decide ((i:Int)<(k:Int))=true:=by simp;omega
   have e1:=hc i hlt
   have e2:decide ((0:Int)=0)=true:=rfl
   obtain ⟨L',hL,h3'⟩:=or_loop cl cx k b o cap e c sz s hb hc hk m' (i+1) fuel ((((L.set 9 (.bool true)).set 5 (.int .i64 0)).set 14 (.bool false)).set 8 (.int .i64 ((i:Int)+1))) (by omega) (by omega)
    (by simp only [Env.find_set,h6,reduceIte,Nat.reduceEqDiff]) (by simp only [Env.find_set,h7,reduceIte,Nat.reduceEqDiff]) (by simp only [Env.find_set,reduceIte];rfl) (by simp only [Env.find_set,h3,reduceIte,Nat.reduceEqDiff])
   refine ⟨L',?_,h3'⟩
   rw [← hL,loopN_succ]
   simp only [res35,K35r0,K35r1,K35r2,K35r3,K35r4,K35r5,K35r6,K35r7,K35l0,K35r8,K35,Abs.W,reduceIte,Nat.reduceEqDiff,Nat.reduceAdd,decide_true,decide_false,kLoop_def,Nat.reduceSub,List.cons_append,List.nil_append,List.append_nil,List.length_cons,List.length_nil,Env.find_set,h6,h7,h8,h3,e0,ixs_slice _ _ _ _ _ _ _ _ hlt,Nat.mul_one,hb,e1,e2,aAdd_i64 _ (i:Int) 1 (by omega)]
  ·have e0:decide ((i:Int)<(k:Int))=false:=by simp;omega
   refine ⟨L.set 9 (.bool false),?_,by simp only [Env.find_set,h3,reduceIte,Nat.reduceEqDiff]⟩
   rw [loopN_succ]
   simp only [res35,K35r0,K35r1,K35r2,K35r3,K35r4,K35r5,K35r6,K35r7,K35l0,K35r8,K35,Abs.W,reduceIte,Nat.reduceEqDiff,Nat.reduceAdd,decide_true,decide_false,kLoop_def,Nat.reduceSub,List.cons_append,List.nil_append,List.append_nil,List.length_cons,List.length_nil,Env.find_set,h6,h7,h8,h3,e0]
theorem or_ok (N:Nat) (hN:1≤N) (k b o cap:Nat) (e:Bool) (c:List AV) (sz:Nat) (s:St) (hb:s.h.get b=some (.cells c sz)) (hc:∀ j,j<k→nth c (o+j)=.int .i64 0) (hk:k≤1000) (hs:s.n≤far) :
  call Try.prog X N (.fn 35) [.slice b o k cap e] s=.val (.int .i64 0) s:=by
 obtain ⟨n,rfl⟩:∃ n,N=n+1:=⟨N - 1,by omega⟩
 refine call_plain' Try.func35 (fun u uh un um=>?_) rfl
 obtain ⟨L',hL,h3⟩:=or_loop (call Try.prog X n) ⟨35,none,Try.f35.ntmps,X 35⟩ k b o cap e c sz u (by rw [uh];exact hb) hc hk k 0 rounds
  (.cons 0 (.slice b o k cap e) (.cons 2 (.int .i64 0) (.cons 3 (.int .i64 0) (.cons 6 (.slice b o k cap e) (.cons 7 (.int .i64 k) (.cons 8 (.int .i64 0) .nil)))))) (by omega) (by unfold rounds;omega) rfl rfl rfl rfl
 rw [enter35]
 simp only [res35,K35r0,K35r1,K35r2,K35r3,K35r4,K35r5,K35r6,K35r7,K35r8,K35,Abs.W,reduceIte,Nat.reduceEqDiff,Nat.reduceAdd,decide_true,decide_false,kLoop_def,Nat.reduceSub,List.cons_append,List.nil_append,List.append_nil,List.length_cons,List.length_nil,hL,h3,Env.find_set]
 exact ⟨_,rfl,by rw [um,un];exact hs⟩
def allZ:List AV→Bool
 | []=>true
 | .int .i64 0::r=>allZ r
 | _=>false
theorem allZ_nth:∀ {c:List AV},allZ c=true→∀ j,j<c.length→nth c j=.int .i64 0
 | [],_,j,hj=>by simp at hj
 | a::r,h,j,hj=>by
  unfold allZ at h
  split at h
  ·rename_i heq;cases heq
  ·rename_i heq
   cases heq
   rw [nth_cons]
   cases j with
   | zero=>rfl
   | succ j=>rw [if_neg (by omega)];exact allZ_nth h j (by simpa using hj)
  ·cases h
theorem or_new (N:Nat) (hN:1≤N) (k:Nat) (c:List AV) (t:St) (hz:allZ c=true) (hl:c.length=k) (hk:k≤1000) (ht:t.n+1≤far) :
  call Try.prog X N (.fn 35) [.slice t.n 0 k k false] (t.new (.cells c 0))=.val (.int .i64 0) (t.new (.cells c 0)):=by
 obtain ⟨n,rfl⟩:∃ n,N=n+1:=⟨N - 1,by omega⟩
 have hf:far=1000000000:=rfl
 refine or_ok (n+1) (by omega) k t.n 0 k false c 0 _ (get_new_eq _ _ _ rfl (by omega)) (fun j hj=>?_) hk (by rw [new_n];omega)
 rw [Nat.zero_add]
 exact allZ_nth hz j (by omega)
theorem or_new2 (N:Nat) (hN:1≤N) (t:St) (ht:t.n+1≤far):call Try.prog X N (.fn 35) [.slice t.n 0 2 2 false] (t.new (.cells [.int .i64 0,.int .i64 0] 0))=.val (.int .i64 0) (t.new (.cells [.int .i64 0,.int .i64 0] 0)) :=
 or_new N hN 2 _ t rfl rfl (by omega) ht
theorem or_new3 (N:Nat) (hN:1≤N) (t:St) (ht:t.n+1≤far):call Try.prog X N (.fn 35) [.slice t.n 0 3 3 false] (t.new (.cells [.int .i64 0,.int .i64 0,.int .i64 0] 0))=.val (.int .i64 0) (t.new (.cells [.int .i64 0,.int .i64 0,.int .i64 0] 0)) :=
 or_new N hN 3 _ t rfl rfl (by omega) ht
theorem or_new4 (N:Nat) (hN:1≤N) (t:St) (ht:t.n+1≤far):call Try.prog X N (.fn 35) [.slice t.n 0 4 4 false] (t.new (.cells [.int .i64 0,.int .i64 0,.int .i64 0,.int .i64 0] 0))=.val (.int .i64 0) (t.new (.cells [.int .i64 0,.int .i64 0,.int .i64 0,.int .i64 0] 0)) :=
 or_new N hN 4 _ t rfl rfl (by omega) ht
theorem span_ok (N:Nat) (hN:2≤N) (x y lo hi:Int) (s:St) (h0:lo≤x) (h1:x≤y) (h2:y≤hi) (hs:s.n+100≤far) :
  call Try.prog X N (.fn 71) [.agg [.int .i64 x,.int .i64 y],.int .i64 lo,.int .i64 hi] s=.val (.int .i64 0) s:=by
 obtain ⟨n,rfl⟩:∃ n,N=n+2:=⟨N - 2,by omega⟩
 refine call_plain' Try.func71 (fun u uh un um=>?_) rfl
 have hf:far=1000000000:=rfl
 rw [enter71]
 have e0:decide (y<x)=false:=by simp;omega
 simp (disch:=first|omega|(with_unfolding_all exact rfl)|(simp only[new_n,put_n,new_m];omega)|(refine put_m_le ?_;simp only[new_m];omega)) only [res71,K71r0,K71r1,K71r2,K71r3,K71r4,K71r5,K71r6,K71,Abs.W,reduceIte,Nat.reduceEqDiff,Nat.reduceAdd,decide_true,decide_false,kLoop_def,Nat.reduceSub,List.cons_append,List.nil_append,List.append_nil,List.length_cons,List.length_nil,e0,within_ok,or_new2,um]
 exact ⟨_,rfl,by simp only [new_n,new_m];omega⟩
end Go.Proofs.Ytamlnddeiokbdaa.walk
namespace Go.Abs
variable {P:Program}
def At (L:Env):List (Nat × AV)→Prop
 | []=>True
 | (t,v)::r=>L.find t=v∧At L r
theorem loop_inv {body:K} {cl:CallF} {cx:Ctx} (I:Nat→Env→St→Prop) (Q:Ex→Env→St→Prop) (k:Nat)
  (step:∀ i L s,i≤k→I i L s→(i<k∧∃ L1 s1,body cl cx L [] s=.done .norm L1 [] s1∧I (i+1) L1 s1)∨(∃ e L1 s1,e≠.norm∧body cl cx L [] s=.done e L1 [] s1∧Q e L1 s1)) :
  ∀ (m i fuel:Nat) (L:Env) (s:St),i+m=k→m<fuel→I i L s→∃ e L1 s1,loopN body fuel cl cx L [] s=.done e L1 [] s1∧Q e L1 s1
 | m,i,0,_,_,_,hf,_=>by omega
 | m,i,fuel+1,L,s,hm,hf,hI=>by
  rcases step i L s (by omega) hI with ⟨hi,L1,s1,h1,h2⟩ | ⟨e,L1,s1,he,h1,h2⟩
  ·obtain ⟨m',rfl⟩:∃ m',m=m'+1:=⟨m - 1,by omega⟩
   obtain ⟨e,L2,s2,h3,h4⟩:=loop_inv I Q k step m' (i+1) fuel L1 s1 (by omega) (by omega) h2
   exact ⟨e,L2,s2,by rw [loopN_succ,h1,thenK_norm,h3],h4⟩
  ·refine ⟨e,L1,s1,?_,h2⟩
   rw [loopN_succ,h1]
   cases e with
   | norm=>exact absurd rfl he
   | exit id=>rfl
   | ret=>rfl
theorem loop_of {body:K} {cl:CallF} {cx:Ctx} {L:Env} {s:St} {r:R} (hr:loopN body rounds cl cx L [] s=r) (I:Nat→Env→St→Prop) (Q:Ex→Env→St→Prop) (k:Nat) (hk:k<rounds) (h0:I 0 L s)
  (step:∀ i L s,i≤k→I i L s→(i<k∧∃ L1 s1,body cl cx L [] s=.done .norm L1 [] s1∧I (i+1) L1 s1)∨(∃ e L1 s1,e≠.norm∧body cl cx L [] s=.done e L1 [] s1∧Q e L1 s1)) :
  ∃ e L1 s1,r=.done e L1 [] s1∧Q e L1 s1:=by
 obtain ⟨e,L1,s1,h1,h2⟩:=loop_inv I Q k step k 0 rounds L s (by omega) hk h0
 exact ⟨e,L1,s1,hr.symm.trans h1,h2⟩
theorem minN_min (a b:Nat):minN a b=min a b:=by
 unfold minN
 cases h:Nat.ble a b
 ·have:¬ a≤b:=fun h'=>by rw [Nat.ble_eq_true_of_le h'] at h;cases h
  show b=_;omega
 ·have:=Nat.le_of_ble_eq_true h
  show a=_;omega
structure Stir (d:Nat) (u s:St) (k:Nat):Prop where
 same:∀ b,b<u.n→b≠d→s.h.get b=u.h.get b
 n:u.n≤s.n
 le:s.n≤u.n+k
 m:d≤u.m→d≤s.m
 mle:s.m≤u.m
theorem Stir.refl (d:Nat) (u:St):Stir d u u 0:=⟨fun _ _ _=>rfl,Nat.le_refl _,Nat.le_refl _,fun h=>h,Nat.le_refl _⟩
theorem Stir.new {d:Nat} {u s:St} {k:Nat} (h:Stir d u s k) (o:AObj):Stir d u (s.new o) (k+1) :=
 ⟨fun b hb hd=>by rw [get_new_ne _ _ _ (by have:=h.n;omega)];exact h.same b hb hd,Nat.le_trans h.n (Nat.le_succ _),by have:=h.le;show s.n+1≤_;omega,h.m,h.mle⟩
theorem Stir.put {d:Nat} {u s:St} {k b:Nat} (h:Stir d u s k) (hd:d<u.n) (o:AObj) (hb:b=d∨u.n≤b):Stir d u (s.put b o) k :=
 ⟨fun c hc hcd=>by rw [get_put_ne' _ _ _ _ (by omega)];exact h.same c hc hcd,h.n,h.le,fun hm=>by
  show d≤minN s.m b
  rw [minN_min]
  have:=h.m hm
  omega,Nat.le_trans (minN_le_left _ _) h.mle⟩
theorem Stir.trans {d:Nat} {u s t:St} {j k:Nat} (a:Stir d u s j) (b:Stir d s t k):Stir d u t (j+k) :=
 ⟨fun c hc hd=>(b.same c (by have:=a.n;omega) hd).trans (a.same c hc hd),Nat.le_trans a.n b.n,by have:=a.le;have:=b.le;omega,fun h=>b.m (a.m h),Nat.le_trans b.mle a.mle⟩
theorem Stir.mono {d:Nat} {u s:St} {j k:Nat} (a:Stir d u s j) (h:j≤k):Stir d u s k:=⟨a.same,a.n,by have:=a.le;omega,a.m,a.mle⟩
theorem Stir.draw {d:Nat} {s t:St} {k:Nat} (a:Stir d ⟨s.h,s.n,far⟩ t k) (hd:d≤far):Stir d s ⟨t.h,t.n,minN s.m t.m⟩ k :=
 ⟨a.same,a.n,a.le,fun h=>by
  show d≤minN s.m t.m
  rw [minN_min]
  have:d≤t.m:=a.m hd
  omega,minN_le_left _ _⟩
structure New (s t:St) (k:Nat):Prop where
 same:∀ b,b<s.n→t.h.get b=s.h.get b
 n:s.n≤t.n
 le:t.n≤s.n+k
 m:t.m=s.m
theorem New.refl (s:St):New s s 0:=⟨fun _ _=>rfl,Nat.le_refl _,Nat.le_refl _,rfl⟩
theorem New.draw {s t:St} {k:Nat} (a:New ⟨s.h,s.n,far⟩ t k) (h:s.m≤far):New s ⟨t.h,t.n,minN s.m t.m⟩ k :=
 ⟨a.same,a.n,a.le,by
  show minN s.m t.m=s.m
  have:t.m=far:=a.m
  rw [minN_min];omega⟩
theorem Stir.after {d:Nat} {u s t:St} {j k:Nat} (a:Stir d u s j) (b:New s t k):Stir d u t (j+k) :=
 ⟨fun c hc hd=>(b.same c (by have:=a.n;omega)).trans (a.same c hc hd),Nat.le_trans a.n b.n,by have:=a.le;have:=b.le;omega,fun h=>by rw [b.m];exact a.m h,by rw [b.m];exact a.mle⟩
theorem Beside.after {u s t:St} {j k:Nat} (a:Beside u s j) (b:New s t k):Beside u t (j+k) :=
 ⟨fun c hc=>(b.same c (by have:=a.n;omega)).trans (a.same c hc),Nat.le_trans a.n b.n,by have:=a.le;have:=b.le;omega,by rw [b.m];exact a.m,by rw [b.m];exact a.far⟩
theorem call_stir_plain {X:FuncId→List Nat} {n:Nat} {f:FuncId} {args:List AV} {s:St} {fn:Func} {d k:Nat} {Q:AV→Prop} {R:Heap→Prop} (hf:P.funcs[f]? = some fn) (h0:R s.h)
  (h:∀ u:St,u.h=s.h→u.n=s.n→u.m=far→∃ v s',enterA P X (call P X n) f args u fn=.val v s'∧Stir d u s' k∧plain v=true∧Q v∧R s'.h) (hd:d≤far) :
  ∃ v t,call P X (n+1) (.fn f) args s=.val v t∧Stir d s t k∧Q v∧R t.h:=by
 obtain ⟨v,s',h1,h2,h3,h4,h5⟩:=h ⟨s.h,s.n,far⟩ rfl rfl rfl
 cases hb:Nat.ble s.n s'.m with
 | true =>
  refine ⟨v,s,?_,(Stir.refl d s).mono (Nat.zero_le _),h4,h0⟩
  show callStep P X (call P X n) (.fn f) args s=_
  unfold callStep
  simp only [hf,h1]
  unfold Abs.settle
  simp only [hb,h3]
  rfl
 | false =>
  refine ⟨v,⟨s'.h,s'.n,minN s.m s'.m⟩,?_,Stir.draw (s:=s) h2 hd,h4,h5⟩
  show callStep P X (call P X n) (.fn f) args s=_
  unfold callStep
  simp only [hf,h1]
  unfold Abs.settle
  simp only [hb]
  rfl
theorem call_stir {X:FuncId→List Nat} {n:Nat} {f:FuncId} {args:List AV} {s:St} {fn:Func} {d k:Nat} {Q:AV→Heap→Nat→Prop} (hf:P.funcs[f]? = some fn) (hk:keepAll=true)
  (h:∀ u:St,u.h=s.h→u.n=s.n→u.m=far→∃ v s',enterA P X (call P X n) f args u fn=.val v s'∧Stir d u s' k∧plain v=false∧Q v s'.h s'.n) (hd:d≤far) :
  ∃ v t,call P X (n+1) (.fn f) args s=.val v t∧Stir d s t k∧Q v t.h t.n:=by
 obtain ⟨v,s',h1,h2,h3,h4⟩:=h ⟨s.h,s.n,far⟩ rfl rfl rfl
 cases hb:Nat.ble s.n s'.m with
 | true =>
  refine ⟨v,⟨s'.h,s'.n,s.m⟩,?_,⟨h2.same,h2.n,h2.le,fun h=>h,Nat.le_refl _⟩,h4⟩
  show callStep P X (call P X n) (.fn f) args s=_
  unfold callStep
  simp only [hf,h1]
  unfold Abs.settle
  simp only [hb,h3,hk]
  rfl
 | false =>
  refine ⟨v,⟨s'.h,s'.n,minN s.m s'.m⟩,?_,Stir.draw (s:=s) h2 hd,h4⟩
  show callStep P X (call P X n) (.fn f) args s=_
  unfold callStep
  simp only [hf,h1]
  unfold Abs.settle
  simp only [hb]
  rfl
theorem call_new {X:FuncId→List Nat} {n:Nat} {f:FuncId} {args:List AV} {s:St} {fn:Func} {k:Nat} {Q:AV→Heap→Nat→Prop} (hf:P.funcs[f]? = some fn) (hk:keepAll=true)
  (h:∀ u:St,u.h=s.h→u.n=s.n→u.m=far→∃ v s',enterA P X (call P X n) f args u fn=.val v s'∧Beside u s' k∧plain v=false∧Q v s'.h s'.n) :
  ∃ v t,call P X (n+1) (.fn f) args s=.val v t∧New s t k∧Q v t.h t.n:=by
 obtain ⟨v,s',h1,h2,h3,h4⟩:=h ⟨s.h,s.n,far⟩ rfl rfl rfl
 have hb:Nat.ble s.n s'.m=true:=Nat.ble_eq_true_of_le h2.m
 refine ⟨v,⟨s'.h,s'.n,s.m⟩,?_,⟨h2.same,h2.n,h2.le,rfl⟩,h4⟩
 show callStep P X (call P X n) (.fn f) args s=_
 unfold callStep
 simp only [hf,h1]
 unfold Abs.settle
 simp only [hb,h3,hk]
 rfl
theorem call_new' {X:FuncId→List Nat} {n:Nat} {f:FuncId} {args:List AV} {s:St} {fn:Func} {k:Nat} {Q:AV→Heap→Nat→Prop} (hf:P.funcs[f]? = some fn) (hk:keepAll=true)
  (h:∀ u:St,u.h=s.h→u.n=s.n→u.m=far→∃ v s',enterA P X (call P X n) f args u fn=.val v s'∧Beside u s' k∧Q v s'.h s'.n∧(plain v=true→Q v s.h s.n)) :
  ∃ v t,call P X (n+1) (.fn f) args s=.val v t∧New s t k∧Q v t.h t.n:=by
 obtain ⟨v,s',h1,h2,h3,h4⟩:=h ⟨s.h,s.n,far⟩ rfl rfl rfl
 have hb:Nat.ble s.n s'.m=true:=Nat.ble_eq_true_of_le h2.m
 cases hp:plain v with
 | true =>
  refine ⟨v,s,?_,⟨fun _ _=>rfl,Nat.le_refl _,Nat.le_add_right _ _,rfl⟩,h4 hp⟩
  show callStep P X (call P X n) (.fn f) args s=_
  unfold callStep
  simp only [hf,h1]
  unfold Abs.settle
  simp only [hb,hp]
  rfl
 | false =>
  refine ⟨v,⟨s'.h,s'.n,s.m⟩,?_,⟨h2.same,h2.n,h2.le,rfl⟩,h3⟩
  show callStep P X (call P X n) (.fn f) args s=_
  unfold callStep
  simp only [hf,h1]
  unfold Abs.settle
  simp only [hb,hp,hk]
  rfl
theorem call_any {X:FuncId→List Nat} {n:Nat} {f:FuncId} {args:List AV} {s:St} {fn:Func} {Q:AV→Heap→Nat→Nat→Prop} (hf:P.funcs[f]? = some fn) (hk:keepAll=true)
  (h:∀ u:St,u.h=s.h→u.n=s.n→u.m=far→∃ v s',enterA P X (call P X n) f args u fn=.val v s'∧Q v s'.h s'.n s'.m∧(plain v=true→s.n≤s'.m→Q v s.h s.n s'.m)) :
  ∃ v t m,call P X (n+1) (.fn f) args s=.val v t∧Q v t.h t.n m∧((s.n≤m∧t.m=s.m)∨(m<s.n∧t.m=min s.m m)):=by
 obtain ⟨v,s',h1,h2,h3⟩:=h ⟨s.h,s.n,far⟩ rfl rfl rfl
 cases hb:Nat.ble s.n s'.m with
 | true =>
  have hle:=Nat.le_of_ble_eq_true hb
  cases hp:plain v with
  | true =>
   refine ⟨v,s,s'.m,?_,h3 hp hle,.inl ⟨hle,rfl⟩⟩
   show callStep P X (call P X n) (.fn f) args s=_
   unfold callStep
   simp only [hf,h1]
   unfold Abs.settle
   simp only [hb,hp]
   rfl
  | false =>
   refine ⟨v,⟨s'.h,s'.n,s.m⟩,s'.m,?_,h2,.inl ⟨hle,rfl⟩⟩
   show callStep P X (call P X n) (.fn f) args s=_
   unfold callStep
   simp only [hf,h1]
   unfold Abs.settle
   simp only [hb,hp,hk]
   rfl
 | false =>
  have hlt:s'.m<s.n:=by
   rcases Nat.lt_or_ge s'.m s.n with h | h
   ·exact h
   ·rw [Nat.ble_eq_true_of_le h] at hb;cases hb
  refine ⟨v,⟨s'.h,s'.n,minN s.m s'.m⟩,s'.m,?_,h2,.inr ⟨hlt,minN_min _ _⟩⟩
  show callStep P X (call P X n) (.fn f) args s=_
  unfold callStep
  simp only [hf,h1]
  unfold Abs.settle
  simp only [hb]
  rfl
theorem call_some {X:FuncId→List Nat} {n:Nat} {f:FuncId} {args:List AV} {s:St} {fn:Func} {k:Nat} {Q:AV→Prop} (hf:P.funcs[f]? = some fn)
  (h:∀ u:St,u.h=s.h→u.n=s.n→u.m=far→∃ v s',enterA P X (call P X n) f args u fn=.val v s'∧Beside u s' k∧plain v=true∧Q v) :
  ∃ v,call P X (n+1) (.fn f) args s=.val v s∧Q v:=by
 obtain ⟨v,s',h1,h2,h3,h4⟩:=h ⟨s.h,s.n,far⟩ rfl rfl rfl
 exact ⟨v,call_plain hf h1 h3 h2.m,h4⟩
/-! ### Ends of what may be -/
theorem ixa2_0 (s:St) (b o:Nat):ixaA 2 1 s (.ptr b o) (.int .i64 0)=.val (.ptr b o) s:=Eq.trans (Eq.refl _) (Eq.refl _)
theorem ixa2_1 (s:St) (b o:Nat):ixaA 2 1 s (.ptr b o) (.int .i64 1)=.val (.ptr b (o+1)) s:=Eq.trans (Eq.refl _) (Eq.refl _)
theorem kFold_def (f:AV→AV→AV) (x:Arg) (r:List Arg) (L:Env) (s:St):kFold f x r L s=okA (.val (foldA f (x.ev L) (evs r L)) s):=Eq.trans (Eq.refl _) (Eq.refl _)
theorem foldA_nil (f:AV→AV→AV) (x:AV):foldA f x []=x:=Eq.trans (Eq.refl _) (Eq.refl _)
theorem foldA_cons (f:AV→AV→AV) (x y:AV) (r:List AV):foldA f x (y::r)=foldA f (f x y) r:=Eq.trans (Eq.refl _) (Eq.refl _)
theorem minN_eq (a b:Nat):minN a b=min a b:=minN_min a b
theorem maxA_i64 (x y:Int):maxA (.int .i64 x) (.int .i64 y)=.int .i64 (max x y):=by
 show AV.int .i64 (match leI y x with | true=>x | false=>y)=_
 rw [leI_eq]
 by_cases h:y≤x
 ·rw [decide_eq_true h,Int.max_eq_left h]
 ·rw [decide_eq_false h,Int.max_eq_right (by omega)]
theorem minA_i64 (x y:Int):minA (.int .i64 x) (.int .i64 y)=.int .i64 (min x y):=by
 show AV.int .i64 (match leI x y with | true=>x | false=>y)=_
 rw [leI_eq]
 by_cases h:x≤y
 ·rw [decide_eq_true h,Int.min_eq_left h]
 ·rw [decide_eq_false h,Int.min_eq_right (by omega)]
/-! ### Numbers -/
theorem kShr_def (x y:Arg) (L:Env) (s:St):kShr x y L s=shrA s (x.ev L) (y.ev L):=Eq.trans (Eq.refl _) (Eq.refl _)
def shrI (a b:Int):Int:=a.fdiv (2 ^ (min b.toNat 64))
theorem shrA_u64 (s:St) (a:Int) (k:IntKind) (b:Int) (hb:0≤b):shrA s (.int .u64 a) (.int k b)=.val (.int .u64 (shrI a b)) s:=by
 cases b with
 | ofNat b=>rfl
 | negSucc b=>omega
theorem shrI_nonneg (a b:Int) (h:0≤a):0≤shrI a b:=Int.fdiv_nonneg h (Int.pow_nonneg (by decide))
theorem cviA_int (k k':IntKind) (s:St) (n:Int):cviA k s (.int k' n)=.val (.int k (wrapA k n)) s:=Eq.trans (Eq.refl _) (Eq.refl _)
theorem wrap_u64 (n:Int) (h:0≤n∧n≤18446744073709551615):wrapA .u64 n=n:=by rw [wrapA_eq];exact IntWalk.u64_in n h
theorem wrap_u64_range (n:Int):0≤IntKind.u64.wrap n∧IntKind.u64.wrap n≤18446744073709551615:=by
 simp [IntKind.wrap,IntKind.bits,IntKind.signed];omega
theorem aMul_def (s:St) (k:IntKind) (a b:Int):aMul s k a b=.val (.int k (wrapA k (Int.mul a b))) s:=Eq.trans (Eq.refl _) (Eq.refl _)
theorem aAdd_def (s:St) (k:IntKind) (a b:Int):aAdd s k a b=.val (.int k (wrapA k (Int.add a b))) s:=Eq.trans (Eq.refl _) (Eq.refl _)
def xorI (k:IntKind) (a b:Int):Int:=k.wrap (BitVec.ofInt k.bits a ^^^ BitVec.ofInt k.bits b).toNat
theorem xorI_range (a b:Int):0≤xorI .u64 a b∧xorI .u64 a b≤18446744073709551615:=wrap_u64_range _
theorem aXor_def (s:St) (k:IntKind) (a b:Int):aXor s k a b=.val (.int k (xorI k a b)) s:=Eq.trans (Eq.refl _) (Eq.refl _)
theorem aRem_ne (s:St) (k:IntKind) (a b:Int) (h:b≠0):aRem s k a b=.val (.int k (a.tmod b)) s:=by unfold aRem;rw [if_neg h]
end Go.Abs
set_option maxRecDepth 10000
namespace Go.Proofs.Ytamlnddeiokbdaa.walk
open Go.Abs Go.Proofs.Ytamlnddeiokbdaa.code
structure Sale where
 (st gd gl gh cl ch:Int)
def Sale.cells (s:Sale):List AV:=[.int .i64 s.st,.int .i64 s.gd,.int .i64 s.gl,.int .i64 s.gh,.int .i64 s.cl,.int .i64 s.ch]
structure Sale.Ok (k g:Nat) (s:Sale):Prop where
 s0:0≤s.st
 s1:s.st<k
 d0:0≤s.gd
 d1:s.gd<g
 g0:0≤s.gl
 g1:s.gl≤s.gh
 g2:s.gh≤5000
 c0:0≤s.cl
 c1:s.cl≤s.ch
 c2:s.ch≤2000
structure Book where
 (stalls goods:Nat)
 sales:List Sale
structure Book.Ok (b:Book):Prop where
 k0:1≤b.stalls
 k1:b.stalls≤8
 g0:1≤b.goods
 g1:b.goods≤8
 l:b.sales.length≤40
 ok:∀ s ∈ b.sales,s.Ok b.stalls b.goods
abbrev bookV (b:Book) (v:AV):List AV:=[.int .i64 b.stalls,.int .i64 b.goods,v]
theorem sales_ok (N:Nat) (hN:5≤N) (b:Book) (ok:b.Ok) (v:AV) (s:St) (hB:RowsAt s.h s.n 6 (b.sales.map Sale.cells) v) (hs:s.n+3000≤far) :
  call Try.prog X N (.fn 57) [.agg (bookV b v)] s=.val (.int .i64 0) s:=by
 obtain ⟨n,rfl⟩:∃ n,N=n+1:=⟨N - 1,by omega⟩
 refine call_plain' Try.func57 (fun u uh un um=>?_) rfl
 have hff:far=1000000000:=rfl
 rw [← uh,← un] at hB
 have k2:∀ t,okA (.val v t)=.val v t:=fun t=>okA_ne hB.ne
 have l2:=hB.len
 rw [List.length_map] at l2
 obtain ⟨w,hw⟩:∃ w:St,w=u.new (.cells (bookV b v) (tag 27)):=⟨_,rfl⟩
 have wn:w.n=u.n+1:=by rw [hw];rfl
 have wm:w.m=far:=by rw [hw];exact um
 have wg:∀ c,c<u.n→w.h.get c=u.h.get c:=fun c hc=>by rw [hw,get_new_ne _ _ _ (by omega)]
 have w0:w.h.get u.n=some (.cells (bookV b v) (tag 27)):=by rw [hw];exact get_new_eq _ _ _ rfl (by omega)
 have hR:=hB.grow wg (by omega:u.n≤w.n)
 have z0:decide ((0:Int)=0)=true:=rfl
 have c1:=ok.l
 unfold bookV at w0 hw ⊢
 rw [enter57]
 simp (disch:=first|omega|(with_unfolding_all exact rfl)|(simp only[new_n,put_n,new_m];omega)|(refine put_m_le ?_;simp only[new_m];omega)) only [res57,K57,K57r0,Abs.W,reduceIte,Nat.reduceEqDiff,Nat.reduceAdd,decide_true,decide_false,kLoop_def,Nat.reduceSub,List.cons_append,List.nil_append,List.append_nil,List.length_cons,List.length_nil]
 rw [← hw]
 simp (disch:=first|omega|(with_unfolding_all exact rfl)|(simp only[new_n,put_n,new_m];omega)|(refine put_m_le ?_;simp only[new_m];omega)) only [K57r1,K57r2,K57r4,Abs.W,reduceIte,Nat.reduceEqDiff,Nat.reduceAdd,decide_true,decide_false,kLoop_def,Nat.reduceSub,List.cons_append,List.nil_append,List.append_nil,List.length_cons,List.length_nil,Env.find_set,w0,k2,l2,z0,counted_ok,Nat.zero_add]
 generalize hl1:loopN _ rounds _ _ _ _ _=q1
 obtain ⟨e,L1,s1,rfl,rfl,hE⟩:=loop_of hl1
  (fun i L' t=>L'.find 1=.ptr u.n 0∧L'.find 15=v∧L'.find 16=.int .i64 b.sales.length∧L'.find 17=.int .i64 i∧Beside w t (10 * i))
  (fun e L1 s1=>e=.exit 0∧Beside w s1 (10 * b.sales.length))
  b.sales.length (by unfold rounds;omega) ⟨by simp only [find_cons,Env.find_set,reduceIte,Nat.reduceEqDiff],by simp only [find_cons,Env.find_set,reduceIte,Nat.reduceEqDiff],by simp only [find_cons,Env.find_set,reduceIte,Nat.reduceEqDiff],by simp only [find_cons,Env.find_set,reduceIte,Nat.reduceEqDiff];rfl,Beside.refl w (by omega) wm⟩
  (fun i L' t hi ⟨q1,q15,q16,q17,hE⟩=>by
   have tn:=hE.n
   have tl:=hE.le
   have tm:=hE.m
   have tf:=hE.far
   by_cases hlt:i<b.sales.length
   ·have e0:decide ((i:Int)<(b.sales.length:Int))=true:=decide_eq_true (by omega)
    obtain ⟨p,o,cs,sz,r1,r2,r3,r4⟩:=(hR.grow hE.same tn).at_ i (by simpa using hlt)
    rw [List.getElem_map] at r4
    obtain ⟨s0,s1,d0,d1,g0,g1,g2,c0,c1,c2⟩:=ok.ok _ (List.getElem_mem hlt)
    generalize b.sales[i]=M at *
    unfold Sale.cells at r4
    have gg:=(hE.same u.n (by omega)).trans w0
    have ad:∀ s,aAdd s .i64 (i:Int) 1=.val (.int .i64 ((i:Int)+1)) s:=fun s=>aAdd_i64 s _ _ (by omega)
    refine .inl ⟨hlt,_,_,by
     simp (disch:=first|omega|(with_unfolding_all exact rfl)|(simp only[new_n,put_n,new_m];omega)|(refine put_m_le ?_;simp only[new_m];omega)) only [res57,K57r0,K57r1,K57r2,K57r3,K57r4,K57r5,K57r6,K57r7,K57r8,K57r9,K57r10,K57l0,K57r11,K57,Abs.W,reduceIte,Nat.reduceEqDiff,Nat.reduceAdd,decide_true,decide_false,kLoop_def,Nat.reduceSub,List.cons_append,List.nil_append,List.append_nil,List.length_cons,List.length_nil,Env.find_set,q1,q15,q16,q17,e0,r2,r3,r4,gg,named_ok,span_ok,or_new4,z0,ad,endO_nil,regD_ok,Nat.zero_add]
     rfl,?_,?_,?_,?_,(((hE.new _).put _ tn).new _).mono (by omega)⟩
    ·simp only [Env.find_set,q1,reduceIte,Nat.reduceEqDiff]
    ·simp only [Env.find_set,q15,reduceIte,Nat.reduceEqDiff]
    ·simp only [Env.find_set,q16,reduceIte,Nat.reduceEqDiff]
    ·simp only [Env.find_set,reduceIte,Nat.reduceEqDiff];rfl
   ·obtain rfl:i=b.sales.length:=by omega
    have e0:decide ((b.sales.length:Int)<(b.sales.length:Int))=false:=by simp
    refine .inr ⟨.exit 0,L'.set 18 (.bool false),t,by simp,?_,rfl,hE⟩
    simp (disch:=first|omega|(with_unfolding_all exact rfl)|(simp only[new_n,put_n,new_m];omega)|(refine put_m_le ?_;simp only[new_m];omega)) only [K57l0,K57r5,Abs.W,reduceIte,Nat.reduceEqDiff,Nat.reduceAdd,decide_true,decide_false,kLoop_def,Nat.reduceSub,List.cons_append,List.nil_append,List.append_nil,List.length_cons,List.length_nil,Env.find_set,q16,q17,e0])
 simp (disch:=first|omega|(with_unfolding_all exact rfl)|(simp only[new_n,put_n,new_m];omega)|(refine put_m_le ?_;simp only[new_m];omega)) only [K57r11,res57,Abs.W,reduceIte,Nat.reduceEqDiff,Nat.reduceAdd,decide_true,decide_false,kLoop_def,Nat.reduceSub,List.cons_append,List.nil_append,List.append_nil,List.length_cons,List.length_nil,Env.find_set]
 refine ⟨s1,rfl,?_⟩
 have:=hE.m
 omega
theorem check_ok (N:Nat) (hN:6≤N) (b:Book) (ok:b.Ok) (v:AV) (s:St) (hB:RowsAt s.h s.n 6 (b.sales.map Sale.cells) v) (hs:s.n+4000≤far) :
  call Try.prog X N (.fn 36) [.agg (bookV b v)] s=.val (.int .i64 0) s:=by
 obtain ⟨n,rfl⟩:∃ n,N=n+1:=⟨N - 1,by omega⟩
 refine call_plain' Try.func36 (fun u uh un um=>?_) rfl
 have hff:far=1000000000:=rfl
 rw [← uh,← un] at hB
 obtain ⟨k0,k1,g0,g1,l,o⟩:=ok
 have ok:b.Ok:=⟨k0,k1,g0,g1,l,o⟩
 have scB:scalars (bookV b v)=true:=by
  have hv:v.scalar=true:=by
   have h:=hB.len u
   cases v<;>first | rfl | cases h
  show (match (true:Bool) with | true=>scalars [.int .i64 b.goods,v] | false=>false)=true
  show scalars [v]=true
  unfold scalars
  rw [hv]
  rfl
 obtain ⟨w,hw⟩:∃ w:St,w=u.new (.cells (bookV b v) (tag 27)):=⟨_,rfl⟩
 have wn:w.n=u.n+1:=by rw [hw];rfl
 have wm:w.m=far:=by rw [hw];exact um
 have wg:∀ c,c<u.n→w.h.get c=u.h.get c:=fun c hc=>by rw [hw,get_new_ne _ _ _ (by omega)]
 have w0:w.h.get u.n=some (.cells (bookV b v) (tag 27)):=by rw [hw];exact get_new_eq _ _ _ rfl (by omega)
 have hR:=hB.grow wg (by omega:u.n≤w.n)
 have cs:=fun t:St=>sales_ok n (by omega) b ok v
 have kv:∀ t,okA (.val v t)=.val v t:=fun t=>okA_ne hB.ne
 unfold bookV at w0 hw
 rw [enter36]
 simp (disch:=first|omega|(with_unfolding_all exact rfl)|(simp only[new_n,put_n,new_m];omega)|(refine put_m_le ?_;simp only[new_m];omega)) only [res36,K36,K36r0,Abs.W,reduceIte,Nat.reduceEqDiff,Nat.reduceAdd,decide_true,decide_false,kLoop_def,Nat.reduceSub,List.cons_append,List.nil_append,List.append_nil,List.length_cons,List.length_nil,scB]
 rw [← hw]
 have hc:=sales_ok n (by omega) b ok v w hR (by omega)
 simp (disch:=first|omega|(with_unfolding_all exact rfl)|(simp only[new_n,put_n,new_m];omega)|(refine put_m_le ?_;simp only[new_m];omega)) only [K36r1,Abs.W,reduceIte,Nat.reduceEqDiff,Nat.reduceAdd,decide_true,decide_false,kLoop_def,Nat.reduceSub,List.cons_append,List.nil_append,List.append_nil,List.length_cons,List.length_nil,Env.find_set,w0,kv,within_ok,hc,or_new3,endO_nil,regD_ok,Nat.zero_add]
 exact ⟨_,rfl,by simp only [new_m];omega⟩
end Go.Proofs.Ytamlnddeiokbdaa.walk
namespace Go.Abs
def getP:List (Int × Int)→Int→Int
 | [],_=>0
 | (a,v)::r,k=>if k=a then v else getP r k
def putP:List (Int × Int)→Int→Int→List (Int × Int)
 | [],k,v=>[(k,v)]
 | (a,w)::r,k,v=>if k=a then (k,v)::r else (a,w)::putP r k v
theorem getP_putP (k v k':Int):∀ ps:List (Int × Int),getP (putP ps k v) k'=if k'=k then v else getP ps k'
 | []=>rfl
 | (a,w)::r=>by
  unfold putP
  by_cases h:k=a
  ·subst h
   rw [if_pos rfl]
   show (if k'=k then v else getP r k')=if k'=k then v else if k'=k then w else getP r k'
   by_cases h2:k'=k
   ·rw [if_pos h2,if_pos h2]
   ·rw [if_neg h2,if_neg h2,if_neg h2]
  ·rw [if_neg h]
   show (if k'=a then w else getP (putP r k v) k')=if k'=k then v else if k'=a then w else getP r k'
   rw [getP_putP k v k' r]
   by_cases h2:k'=a
   ·rw [if_pos h2,if_pos h2,if_neg (by omega)]
   ·rw [if_neg h2,if_neg h2]
def mapV (ps:List (Int × Int)):List (AV × AV):=ps.map fun p=>(.int .i64 p.1,.int .i64 p.2)
theorem eq_ints (a b:Int):Cmp.eq .int (.int .i64 a) (.int .i64 b)=some (decide (a=b)):=by
 show (if IntKind.i64=IntKind.i64 then some (eqI a b) else none)=_
 rw [if_pos rfl,eqI_eq]
 congr 1
theorem keyOk_int (k:Int):keyOk .int (.int .i64 k)=true:=by
 unfold keyOk
 rw [eq_ints,decide_eq_true rfl]
def idxP:List (Int × Int)→Int→Option Nat
 | [],_=>none
 | (a,_)::r,k=>if k=a then some 0 else (idxP r k).map (·+1)
theorem find_map (k:Int):∀ (ps:List (Int × Int)) (i:Nat),findA .int (.int .i64 k) (mapV ps) i=some ((idxP ps k).map fun j=>(i+j,.int .i64 (getP ps k)))
 | [],_=>rfl
 | (a,w)::r,i=>by
  show (match Cmp.eq .int (.int .i64 k) (.int .i64 a) with | some true=>some (some (i,AV.int .i64 w)) | some false=>findA .int (.int .i64 k) (mapV r) (Nat.succ i) | none=>none)=_
  rw [eq_ints]
  unfold idxP getP
  by_cases h:k=a
  ·rw [decide_eq_true h,if_pos h,if_pos h];rfl
  ·rw [decide_eq_false h,if_neg h,if_neg h]
   show findA .int (.int .i64 k) (mapV r) (Nat.succ i)=_
   rw [find_map k r (Nat.succ i),Option.map_map]
   congr 1
   cases idxP r k with
   | none=>rfl
   | some j =>
   show some (Nat.succ i+j,AV.int .i64 (getP r k))=some (i+(j+1),.int .i64 (getP r k))
   rw [show Nat.succ i+j=i+(j+1) by omega]
theorem idx_none (k:Int):∀ ps:List (Int × Int),idxP ps k=none→getP ps k=0∧∀ v,mapV (putP ps k v)=mapV ps++[(.int .i64 k,.int .i64 v)]
 | [],_=>⟨rfl,fun _=>rfl⟩
 | (a,w)::r,h=>by
  unfold idxP at h
  by_cases h2:k=a
  ·rw [if_pos h2] at h;cases h
  ·rw [if_neg h2] at h
   have h3:idxP r k=none:=by
    cases hh:idxP r k with
    | none=>rfl
    | some j=>rw [hh] at h;cases h
   obtain ⟨e1,e2⟩:=idx_none k r h3
   refine ⟨by unfold getP;rw [if_neg h2];exact e1,fun v=>?_⟩
   unfold putP
   rw [if_neg h2]
   show (AV.int .i64 a,AV.int .i64 w)::mapV (putP r k v)=_
   rw [e2 v]
   rfl
theorem idx_some (k:Int):∀ (ps:List (Int × Int)) (j:Nat),idxP ps k=some j→keyAt (mapV ps) j=.int .i64 k∧∀ v,mapV (putP ps k v)=setNth (mapV ps) j (.int .i64 k,.int .i64 v)
 | [],_,h=>by cases h
 | (a,w)::r,j,h=>by
  unfold idxP at h
  by_cases h2:k=a
  ·subst h2
   rw [if_pos rfl] at h
   injection h with h
   subst h
   exact ⟨rfl,fun v=>by unfold putP;rw [if_pos rfl];rfl⟩
  ·rw [if_neg h2] at h
   cases hh:idxP r k with
   | none=>rw [hh] at h;cases h
   | some i =>
    rw [hh] at h
    injection h with h
    subst h
    obtain ⟨e1,e2⟩:=idx_some k r i hh
    exact ⟨e1,fun v=>by
     unfold putP
     rw [if_neg h2]
     show (AV.int .i64 a,AV.int .i64 w)::mapV (putP r k v)=_
     rw [e2 v]
     rfl⟩
theorem look_map (ps:List (Int × Int)) (k:Int) (b:Nat) (s:St) (h:s.h.get b=some (.map (mapV ps))):lookA .int (.int .i64 0) false s (.int .i64 k) (.map b)=.val (.int .i64 (getP ps k)) s:=by
 unfold lookA
 simp only [h,keyOk_int,find_map]
 cases hh:idxP ps k with
 | none=>rw [(idx_none k ps hh).1];rfl
 | some j=>rfl
theorem sameA_int (k:Int):sameA (.int .i64 k) (.int .i64 k)=true:=by
 show (match Nat.beq (kindNo .i64) (kindNo .i64) with | true=>eqI k k | false=>false)=true
 show eqI k k=true
 rw [eqI_eq,beq_self_eq_true]
theorem upd_map (ps:List (Int × Int)) (k v:Int) (b:Nat) (s:St) (h:s.h.get b=some (.map (mapV ps))):updA .int s (.int .i64 k) (.int .i64 v) (.map b)=.val .undef (s.put b (.map (mapV (putP ps k v)))):=by
 unfold updA
 simp only [h,keyOk_int,find_map]
 cases hh:idxP ps k with
 | none=>rw [(idx_none k ps hh).2 v];rfl
 | some j =>
  obtain ⟨e1,e2⟩:=idx_some k ps j hh
  simp only [Option.map_some,Nat.zero_add,e1,sameA_int,e2 v]
theorem kLookE (c:Cmp) (z:AV) (ok:Bool) (m k:Arg) (L:Env) (s:St):kLook c z ok m k L s=lookA c z ok s (k.ev L) (m.ev L):=Eq.trans (Eq.refl _) (Eq.refl _)
noncomputable def updK (c:Cmp) (s:St) (k v m:AV):ARes:=match known v with
 | true=>updA c s k v m
 | false=>.fail
theorem kUpdE (c:Cmp) (m k v:Arg) (L:Env) (s:St):kUpd c m k v L s=updK c s (k.ev L) (v.ev L) (m.ev L):=Eq.trans (Eq.refl _) (Eq.refl _)
theorem updK_int (c:Cmp) (s:St) (k m:AV) (kk:IntKind) (n:Int):updK c s k (.int kk n) m=updA c s k (.int kk n) m:=Eq.trans (Eq.refl _) (Eq.refl _)
theorem kMapE (L:Env) (s:St):kMap L s=.val (.map s.n) (s.new (.map (mapV []))):=rfl
end Go.Abs
set_option maxRecDepth 10000
namespace Go.Proofs.Ytamlnddeiokbdaa.walk
open Go.Abs Go.Proofs.Ytamlnddeiokbdaa.code
def hereV:Bool→AV
 | false=>.func 60 [] []
 | true=>.func 61 [] []
def endV (hi:Bool):List AV:=[hereV hi,hereV (!hi)]
def spanAt:Bool→Int→Int→Int
 | false,x,_=>x
 | true,_,y=>y
theorem lo_ok (N:Nat) (hN:1≤N) (x y:Int) (s:St) (hs:s.n+100≤far):call Try.prog X N (.fn 60) [.agg [.int .i64 x,.int .i64 y]] s=.val (.int .i64 x) s:=by
 obtain ⟨n,rfl⟩:∃ n,N=n+1:=⟨N - 1,by omega⟩
 have hf:far=1000000000:=rfl
 refine call_plain' Try.func60 (fun u uh un um=>?_) rfl
 rw [enter60]
 simp (disch:=first|omega|(with_unfolding_all exact rfl)|(simp only[new_n,put_n,new_m];omega)|(refine put_m_le ?_;simp only[new_m];omega)) only [res60,K60r0,K60r1,K60,Abs.W,reduceIte,Nat.reduceEqDiff,Nat.reduceAdd,decide_true,decide_false,kLoop_def,Nat.reduceSub,List.cons_append,List.nil_append,List.append_nil,List.length_cons,List.length_nil,Env.find_set,Nat.zero_add]
 exact ⟨_,rfl,by simp only [new_m];omega⟩
theorem hi_ok (N:Nat) (hN:1≤N) (x y:Int) (s:St) (hs:s.n+100≤far):call Try.prog X N (.fn 61) [.agg [.int .i64 x,.int .i64 y]] s=.val (.int .i64 y) s:=by
 obtain ⟨n,rfl⟩:∃ n,N=n+1:=⟨N - 1,by omega⟩
 have hf:far=1000000000:=rfl
 refine call_plain' Try.func61 (fun u uh un um=>?_) rfl
 rw [enter61]
 simp (disch:=first|omega|(with_unfolding_all exact rfl)|(simp only[new_n,put_n,new_m];omega)|(refine put_m_le ?_;simp only[new_m];omega)) only [res61,K61r0,K61r1,K61,Abs.W,reduceIte,Nat.reduceEqDiff,Nat.reduceAdd,decide_true,decide_false,kLoop_def,Nat.reduceSub,List.cons_append,List.nil_append,List.append_nil,List.length_cons,List.length_nil,Env.find_set,Nat.zero_add]
 exact ⟨_,rfl,by simp only [new_m];omega⟩
theorem okA_fnv (f:FuncId) (x y:List AV) (s:St):okA (.val (.func f x y) s)=.val (.func f x y) s:=Eq.trans (Eq.refl _) (Eq.refl _)
def Sale.at (M:Sale) (hi:Bool):List AV:=[.int .i64 (spanAt hi M.gl M.gh),.int .i64 (spanAt hi M.cl M.ch)]
theorem sale_ok (N:Nat) (hN:2≤N) (hi:Bool) (M:Sale) (s:St) (hs:s.n+1000≤far):call Try.prog X N (.fn 62) [.agg (endV hi),.agg M.cells] s=.val (.agg (M.at hi)) s:=by
 obtain ⟨n,rfl⟩:∃ n,N=n+1:=⟨N - 1,by omega⟩
 have hf:far=1000000000:=rfl
 have sh2:shapeT Try.prog 103=some (some 2):=by kernel_rfl
 refine call_plain' Try.func62 (fun u uh un um=>?_) rfl
 rw [enter62]
 cases hi
 all_goals
  unfold endV Sale.cells Sale.at
  simp only [hereV,spanAt,Bool.not_true,Bool.not_false]
  simp (disch:=first|omega|(with_unfolding_all exact rfl)|(simp only[new_n,put_n,new_m];omega)|(refine put_m_le ?_;simp only[new_m];omega)) only [res62,K62r0,K62r1,K62,Abs.W,reduceIte,Nat.reduceEqDiff,Nat.reduceAdd,decide_true,decide_false,kLoop_def,Nat.reduceSub,List.cons_append,List.nil_append,List.append_nil,List.length_cons,List.length_nil,Env.find_set,okA_fnv,lo_ok,hi_ok,endO_nil,Nat.zero_add]
 all_goals
  refine ⟨_,leave_cell _ _ _ _ sh2 ?_,?_⟩
  ·simp only [find_cons,reduceIte,Nat.reduceEqDiff]
   rw [load_ptr,get_put_eq _ _ _ _ rfl (by simp only [new_n];omega),loadO_cells,partS_some]
   rfl
  ·simp only [St.put,minN_eq,new_m,new_n];omega
theorem aQuo_ne (s:St) (k:IntKind) (a b:Int) (h:b≠0):aQuo s k a b=.val (.int k (wrapA k (a.tdiv b))) s:=by unfold aQuo;rw [if_neg h]
theorem turnover_ok (N:Nat) (hN:1≤N) (g c:Int) (s:St) (hg:0≤g∧g≤100000) (hc:0≤c∧c≤100000) (hs:s.n+100≤far):call Try.prog X N (.fn 63) [.agg [.int .i64 g,.int .i64 c]] s=.val (.int .i64 (g * c / 1000)) s:=by
 obtain ⟨n,rfl⟩:∃ n,N=n+1:=⟨N - 1,by omega⟩
 have hf:far=1000000000:=rfl
 have h0:0≤g * c:=Int.mul_nonneg hg.1 hc.1
 have h1:g * c≤100000 * 100000:=Int.mul_le_mul hg.2 hc.2 hc.1 (by omega)
 have mu:∀ s,aMul s .i64 g c=.val (.int .i64 (g * c)) s:=fun s=>by
  rw [aMul_def,wrapA_eq]
  congr 2
  exact IntWalk.i64_in _ (by show -9223372036854775808≤g * c∧g * c≤9223372036854775807;omega)
 have qu:∀ s,aQuo s .i64 (g * c) 1000=.val (.int .i64 (g * c / 1000)) s:=fun s=>by
  rw [aQuo_ne _ _ _ _ (by decide),wrapA_eq,Int.tdiv_eq_ediv_of_nonneg h0]
  congr 2
  exact IntWalk.i64_in _ (by show -9223372036854775808≤g * c / 1000∧g * c / 1000≤9223372036854775807;omega)
 refine call_plain' Try.func63 (fun u uh un um=>?_) rfl
 rw [enter63]
 simp (disch:=first|omega|(with_unfolding_all exact rfl)|(simp only[new_n,put_n,new_m];omega)|(refine put_m_le ?_;simp only[new_m];omega)) only [res63,K63r0,K63r1,K63,Abs.W,reduceIte,Nat.reduceEqDiff,Nat.reduceAdd,decide_true,decide_false,kLoop_def,Nat.reduceSub,List.cons_append,List.nil_append,List.append_nil,List.length_cons,List.length_nil,Env.find_set,ixa2_0,ixa2_1,mu,qu,Nat.zero_add]
 exact ⟨_,rfl,by simp only [new_m];omega⟩
end Go.Proofs.Ytamlnddeiokbdaa.walk
set_option maxRecDepth 10000
namespace Go.Proofs.Ytamlnddeiokbdaa.walk
open Go.Abs Go.Proofs.Ytamlnddeiokbdaa.code
def Sale.turn (M:Sale) (hi:Bool):Int:=spanAt hi M.gl M.gh * spanAt hi M.cl M.ch / 1000
def sums (hi:Bool) (l:List Sale):List (Int × Int):=l.foldl (fun ps M=>putP ps M.st (getP ps M.st+M.turn hi)) []
theorem sums_snoc (hi:Bool) (l:List Sale) (M:Sale):sums hi (l++[M])=putP (sums hi l) M.st (getP (sums hi l) M.st+M.turn hi):=by unfold sums;rw [List.foldl_append];rfl
def turnOf (hi:Bool):List Sale→Int→Int
 | [],_=>0
 | M::r,k=>(if M.st=k then M.turn hi else 0)+turnOf hi r k
theorem getP_fold (hi:Bool) (k:Int):∀ (l:List Sale) (ps:List (Int × Int)),getP (l.foldl (fun ps M=>putP ps M.st (getP ps M.st+M.turn hi)) ps) k=getP ps k+turnOf hi l k
 | [],ps=>by show getP ps k=getP ps k+0;omega
 | M::r,ps=>by
  rw [List.foldl_cons,getP_fold hi k r,getP_putP]
  show _=getP ps k+((if M.st=k then M.turn hi else 0)+turnOf hi r k)
  by_cases h:k=M.st
  ·rw [if_pos h,if_pos h.symm,h];omega
  ·rw [if_neg h,if_neg (fun e=>h e.symm)];omega
theorem getP_sums (hi:Bool) (k:Int) (l:List Sale):getP (sums hi l) k=turnOf hi l k:=by
 unfold sums
 rw [getP_fold]
 show 0+_=_
 omega
theorem Sale.turn_range {k g:Nat} {M:Sale} (h:M.Ok k g) (hi:Bool):(0≤spanAt hi M.gl M.gh∧spanAt hi M.gl M.gh≤100000)∧(0≤spanAt hi M.cl M.ch∧spanAt hi M.cl M.ch≤100000)∧0≤M.turn hi∧M.turn hi≤10000000:=by
 obtain ⟨s0,s1,d0,d1,g0,g1,g2,c0,c1,c2⟩:=h
 have a:0≤spanAt hi M.gl M.gh∧spanAt hi M.gl M.gh≤100000:=by cases hi<;>simp only [spanAt]<;>omega
 have b:0≤spanAt hi M.cl M.ch∧spanAt hi M.cl M.ch≤100000:=by cases hi<;>simp only [spanAt]<;>omega
 have h0:0≤spanAt hi M.gl M.gh * spanAt hi M.cl M.ch:=Int.mul_nonneg a.1 b.1
 have h1:spanAt hi M.gl M.gh * spanAt hi M.cl M.ch≤100000 * 100000:=Int.mul_le_mul a.2 b.2 b.1 (by omega)
 exact ⟨a,b,by unfold Sale.turn;omega,by unfold Sale.turn;omega⟩
theorem turnOf_range {k g:Nat} (hi:Bool) (i:Int):∀ (l:List Sale),(∀ M ∈ l,M.Ok k g)→0≤turnOf hi l i∧turnOf hi l i≤10000000 * l.length
 | [],_=>by unfold turnOf;simp
 | M::r,h=>by
  obtain ⟨a,b⟩:=turnOf_range hi i r (fun M hM=>h M (List.mem_cons_of_mem _ hM))
  obtain ⟨_,_,c,d⟩:=Sale.turn_range (h M (List.mem_cons_self ..)) hi
  unfold turnOf
  rw [List.length_cons]
  split<;>omega
theorem turnovers_ex {N k g:Nat} (hi:Bool) {l:List Sale} {v:AV} {s:St} {r:ARes} (hr:call Try.prog X N (.fn 41) [.agg (endV hi),v] s=r) (hN:4≤N) (ok:∀ M ∈ l,M.Ok k g) (hB:RowsAt s.h s.n 6 (l.map Sale.cells) v) (hl:l.length≤100) (hs:s.n+5000≤far) :
  ∃ b t,r=.val (.map b) t∧New s t 1000∧s.n≤b∧b<t.n∧t.h.get b=some (.map (mapV (sums hi l))):=by
 obtain ⟨n,rfl⟩:∃ n,N=n+1:=⟨N - 1,by omega⟩
 have hf:far=1000000000:=rfl
 obtain ⟨v',t,e,st,b,rfl,h1,h2,h3⟩:=call_new (n:=n) (args:=[.agg (endV hi),v]) (s:=s) (k:=1000) (Q:=fun v' h m=>∃ b,v'=.map b∧s.n≤b∧b<m∧h.get b=some (.map (mapV (sums hi l)))) Try.func41 rfl (fun u uh un um=>by
  rw [← uh,← un] at hB
  rw [← un]
  have kv:∀ t,okA (.val v t)=.val v t:=fun t=>okA_ne hB.ne
  have lv:=hB.len
  rw [List.length_map] at lv
  have scE:scalars (endV hi)=true:=by cases hi<;>rfl
  obtain ⟨w,hw⟩:∃ w:St,w=(u.new (.cells (endV hi) (tag 82))).new (.map (mapV [])):=⟨_,rfl⟩
  have wn:w.n=u.n+2:=by rw [hw];rfl
  have wm:w.m=far:=by rw [hw];exact um
  have wg:∀ c,c<u.n→w.h.get c=u.h.get c:=fun c hc=>by rw [hw,get_new_ne _ _ _ (by rw [new_n];omega),get_new_ne _ _ _ (by omega)]
  have w0:w.h.get u.n=some (.cells (endV hi) (tag 82)):=by rw [hw,get_new_ne _ _ _ (by rw [new_n];omega)];exact get_new_eq _ _ _ rfl (by omega)
  have w1:w.h.get (u.n+1)=some (.map (mapV [])):=by rw [hw];exact get_new_eq _ _ _ rfl (by rw [new_n];omega)
  have hR:=hB.grow wg (by omega:u.n≤w.n)
  rw [enter41]
  simp (disch:=first|omega|(with_unfolding_all exact rfl)|(simp only[new_n,put_n,new_m];omega)|(refine put_m_le ?_;simp only[new_m];omega)) only [res41,K41r0,K41r1,K41r2,K41r3,K41r4,K41r5,K41r6,K41r7,K41,Abs.W,reduceIte,Nat.reduceEqDiff,Nat.reduceAdd,decide_true,decide_false,kLoop_def,Nat.reduceSub,List.cons_append,List.nil_append,List.append_nil,List.length_cons,List.length_nil,Env.find_set,scE,kMapE,kv,lv,Nat.zero_add]
  rw [← hw]
  clear hw
  generalize hl1:loopN _ rounds _ _ _ _ _=q1
  have w0':=w0
  unfold endV at w0'
  obtain ⟨e',L1,t1,rfl,rfl,g1,g2,g3,g4⟩:=loop_of hl1 (fun i L' t=>L'.find 2=.ptr u.n 0∧L'.find 5=.map (u.n+1)∧L'.find 9=v∧L'.find 10=.int .i64 (l.length:Int)∧L'.find 11=.int .i64 (i:Int)∧t.h.get u.n=some (.cells [hereV hi,hereV (!hi)] (tag 82))∧t.h.get (u.n+1)=some (.map (mapV (sums hi (l.take i))))∧Beside u t (2+4 * i)∧u.n+2≤t.n)
   (fun e' L' t=>e'=.exit 0∧L'.find 5=.map (u.n+1)∧t.h.get (u.n+1)=some (.map (mapV (sums hi l)))∧Beside u t 500∧u.n+2≤t.n) l.length (by unfold rounds;omega)
   ⟨by simp only [find_cons,Env.find_set,reduceIte,Nat.reduceEqDiff],by simp only [find_cons,Env.find_set,reduceIte,Nat.reduceEqDiff];rfl,by simp only [find_cons,Env.find_set,reduceIte,Nat.reduceEqDiff],by simp only [find_cons,Env.find_set,reduceIte,Nat.reduceEqDiff],by simp only [find_cons,Env.find_set,reduceIte,Nat.reduceEqDiff];rfl,w0',by rw [List.take_zero];exact w1,⟨wg,by omega,by omega,by omega,by omega⟩,by omega⟩
   (fun i L' t hi' ⟨q2,q5,q9,q10,q11,te,tm,hb,hn⟩=>by
    have tn:=hb.n
    have tl:=hb.le
    have tmm:=hb.m
    have tf:=hb.far
    by_cases hlt:i<l.length
    ·have e0:decide ((i:Int)<(l.length:Int))=true:=decide_eq_true (by omega)
     obtain ⟨pb,o,cs,cz,r1,r2,r3,r4⟩:=(hB.grow (h':=t.h) (n':=u.n) hb.same (Nat.le_refl _)).at_ i (by simpa using hlt)
     rw [List.getElem_map] at r4
     obtain ⟨ra,rb,rc,rd⟩:=Sale.turn_range (ok _ (List.getElem_mem hlt)) hi
     have hsn:sums hi (l.take (i+1))=putP (sums hi (l.take i)) l[i].st (getP (sums hi (l.take i)) l[i].st+l[i].turn hi):=by rw [List.take_succ_eq_append_getElem hlt,sums_snoc]
     have hg:=turnOf_range hi l[i].st (l.take i) (fun M hM=>ok M (List.mem_of_mem_take hM))
     rw [List.length_take,← getP_sums] at hg
     generalize l[i]=M at *
     generalize sums hi (l.take i)=ps at *
     unfold Sale.cells at r4
     have ad1:∀ s,aAdd s .i64 (i:Int) 1=.val (.int .i64 ((i:Int)+1)) s:=fun s=>aAdd_i64 s _ _ (by omega)
     have ad2:∀ s,aAdd s .i64 (getP ps M.st) (M.turn hi)=.val (.int .i64 (getP ps M.st+M.turn hi)) s:=fun s=>aAdd_i64 s _ _ (by omega)
     have so:∀ s:St,s.n+1000≤far→call Try.prog X n (.fn 62) [.agg [hereV hi,hereV (!hi)],.agg [.int .i64 M.st,.int .i64 M.gd,.int .i64 M.gl,.int .i64 M.gh,.int .i64 M.cl,.int .i64 M.ch]] s=.val (.agg [.int .i64 (spanAt hi M.gl M.gh),.int .i64 (spanAt hi M.cl M.ch)]) s:=fun s hs=>sale_ok n (by omega) hi M s hs
     have tv:∀ s:St,s.n+100≤far→call Try.prog X n (.fn 63) [.agg [.int .i64 (spanAt hi M.gl M.gh),.int .i64 (spanAt hi M.cl M.ch)]] s=.val (.int .i64 (M.turn hi)) s:=fun s hs=>turnover_ok n (by omega) _ _ s ra rb hs
     obtain ⟨x,hx⟩:∃ x:St,x=(t.new (.cells [.int .i64 0,.int .i64 0,.int .i64 0,.int .i64 0,.int .i64 0,.int .i64 0] (tag 51))).put t.n (.cells [.int .i64 M.st,.int .i64 M.gd,.int .i64 M.gl,.int .i64 M.gh,.int .i64 M.cl,.int .i64 M.ch] (tag 51)):=⟨_,rfl⟩
     have xn:x.n=t.n+1:=by rw [hx];rfl
     have xg:∀ c,c<t.n→x.h.get c=t.h.get c:=fun c hc=>by rw [hx,get_put_ne' _ _ _ _ (by omega),get_new_ne _ _ _ (by omega)]
     have xt:x.h.get t.n=some (.cells [.int .i64 M.st,.int .i64 M.gd,.int .i64 M.gl,.int .i64 M.gh,.int .i64 M.cl,.int .i64 M.ch] (tag 51)):=by rw [hx];exact get_put_eq _ _ _ _ rfl (by omega)
     have xm:u.n≤x.m∧x.m≤far:=by rw [hx];simp only [St.put,minN_eq,new_m];omega
     have xe:=(xg u.n (by omega)).trans te
     have xp:=(xg (u.n+1) (by omega)).trans tm
     have lk:=look_map ps M.st (u.n+1) x xp
     have up:=upd_map ps M.st (getP ps M.st+M.turn hi) (u.n+1) x xp
     have okh:∀ s,okA (.val (hereV hi) s)=.val (hereV hi) s:=fun s=>by cases hi<;>rfl
     suffices hgo:∃ L1 t9,K41l0 (call Try.prog X n) ⟨41,none,Try.f41.ntmps,X 41⟩ L' [] t=.done .norm L1 [] t9∧(L1.find 2=.ptr u.n 0∧L1.find 5=.map (u.n+1)∧L1.find 9=v∧L1.find 10=.int .i64 (l.length:Int)∧L1.find 11=.int .i64 ((i+1:Nat):Int)∧t9.h.get u.n=some (.cells [hereV hi,hereV (!hi)] (tag 82))∧t9.h.get (u.n+1)=some (.map (mapV (sums hi (l.take (i+1)))))∧Beside u t9 (2+4 * (i+1))∧u.n+2≤t9.n) from by
      obtain ⟨L9,t9,z1,z2⟩:=hgo
      exact .inl ⟨hlt,L9,t9,z1,z2⟩
     simp (disch:=first|omega|(with_unfolding_all exact rfl)|(simp only[new_n,put_n,new_m];omega)|(refine put_m_le ?_;simp only[new_m];omega)) only [K41l0,K41r3,K41r4,Abs.W,reduceIte,Nat.reduceEqDiff,Nat.reduceAdd,decide_true,decide_false,kLoop_def,Nat.reduceSub,List.cons_append,List.nil_append,List.append_nil,List.length_cons,List.length_nil,Env.find_set,Nat.zero_add,Nat.add_zero,q2,q5,q9,q10,q11,e0,r2,r3,r4]
     rw [← hx]
     clear hx
     simp (disch:=first|omega|(with_unfolding_all exact rfl)|(simp only[new_n,put_n,new_m];omega)|(refine put_m_le ?_;simp only[new_m];omega)) only [K41r5,K41r6,Abs.W,reduceIte,Nat.reduceEqDiff,Nat.reduceAdd,decide_true,decide_false,kLoop_def,Nat.reduceSub,List.cons_append,List.nil_append,List.append_nil,List.length_cons,List.length_nil,Env.find_set,Nat.zero_add,Nat.add_zero,q2,q5,q9,q10,q11,xt,xe,kLookE,lk,so,tv,ad2,kUpdE,updK_int,up,endO_nil,ad1]
     refine ⟨_,_,rfl,?_,?_,?_,?_,?_,?_,?_,⟨fun c hc=>?_,?_,?_,?_,?_⟩,?_⟩
     ·simp only [Env.find_set,q2,reduceIte,Nat.reduceEqDiff]
     ·simp only [Env.find_set,q5,reduceIte,Nat.reduceEqDiff]
     ·simp only [Env.find_set,q9,reduceIte,Nat.reduceEqDiff]
     ·simp only [Env.find_set,q10,reduceIte,Nat.reduceEqDiff]
     ·simp only [Env.find_set,reduceIte,Nat.reduceEqDiff];rfl
     ·rw [get_put_ne' _ _ _ _ (by omega)];exact xe
     ·rw [hsn];exact get_put_eq _ _ _ _ rfl (by omega)
     ·rw [get_put_ne' _ _ _ _ (by omega),xg c (by omega)];exact hb.same c hc
     ·simp only [put_n];omega
     ·simp only [put_n];omega
     ·simp only [St.put,minN_eq];omega
     ·simp only [St.put,minN_eq];omega
     ·simp only [put_n];omega
    ·obtain rfl:i=l.length:=by omega
     have e0:decide ((l.length:Int)<(l.length:Int))=false:=by simp
     rw [List.take_length] at tm
     refine .inr ⟨.exit 0,L'.set 12 (.bool false),t,by simp,?_,rfl,by simp only [Env.find_set,q5,reduceIte,Nat.reduceEqDiff],tm,hb.mono (by omega),hn⟩
     simp (disch:=first|omega|(with_unfolding_all exact rfl)|(simp only[new_n,put_n,new_m];omega)|(refine put_m_le ?_;simp only[new_m];omega)) only [res41,K41r0,K41r1,K41r2,K41r3,K41r4,K41r5,K41r6,K41r7,K41,K41l0,Abs.W,reduceIte,Nat.reduceEqDiff,Nat.reduceAdd,decide_true,decide_false,kLoop_def,Nat.reduceSub,List.cons_append,List.nil_append,List.append_nil,List.length_cons,List.length_nil,Env.find_set,q10,q11,e0])
  simp (disch:=first|omega|(with_unfolding_all exact rfl)|(simp only[new_n,put_n,new_m];omega)|(refine put_m_le ?_;simp only[new_m];omega)) only [res41,K41r0,K41r1,K41r2,K41r3,K41r4,K41r5,K41r6,K41r7,K41,Abs.W,reduceIte,Nat.reduceEqDiff,Nat.reduceAdd,decide_true,decide_false,kLoop_def,Nat.reduceSub,List.cons_append,List.nil_append,List.append_nil,List.length_cons,List.length_nil,Env.find_set,g1]
  refine ⟨_,_,rfl,g3.mono (by omega),rfl,u.n+1,?_,by omega,by omega,g2⟩
  first | rfl | (simp only [Env.find_set,g1,reduceIte,Nat.reduceEqDiff]))
 exact ⟨b,t,hr.symm.trans e,st,h1,h2,h3⟩
end Go.Proofs.Ytamlnddeiokbdaa.walk
set_option maxRecDepth 10000
namespace Go.Proofs.Ytamlnddeiokbdaa.walk
open Go.Abs Go.Proofs.Ytamlnddeiokbdaa.code
theorem kFuncE' (f:FuncId) (x y:List Arg) (L:Env) (s:St):kFunc f x y L s=.val (.func f (evs x L) (evs y L)) s:=Eq.trans (Eq.refl _) (Eq.refl _)
theorem cellsFn (f:FuncId) (x y:List AV):cellsOf 1 (.func f x y)=some [.func f x y]:=rfl
theorem between_ok {N f:Nat} {cap:List AV} {s:St} (lo hi:Int) (hN:1≤N) (hF:∀ (b:Bool) (t:St),(∀ c,c<s.n→t.h.get c=s.h.get c)→s.n≤t.n→t.n≤s.n+10→call Try.prog X (N - 1) (.fn f) (.agg (endV b)::cap) t=.val (.int .i64 (spanAt b lo hi)) t) (hs:s.n+100≤far) :
  call Try.prog X N (.fn 38) [.func f [] cap] s=.val (.agg [.int .i64 lo,.int .i64 hi]) s:=by
 obtain ⟨n,rfl⟩:∃ n,N=n+1:=⟨N - 1,by omega⟩
 have hf:far=1000000000:=rfl
 have sh2:shapeT Try.prog 38=some (some 2):=by kernel_rfl
 refine call_plain' Try.func38 (fun u uh un um=>?_) rfl
 obtain ⟨w,hw⟩:∃ w:St,w=u.new (.cells [.int .i64 0,.int .i64 0] (tag 38)):=⟨_,rfl⟩
 have wn:w.n=u.n+1:=by rw [hw];rfl
 have wm:w.m=far:=by rw [hw];exact um
 have wg:∀ c,c<u.n→w.h.get c=u.h.get c:=fun c hc=>by rw [hw,get_new_ne _ _ _ (by omega)]
 have w0:w.h.get u.n=some (.cells [.int .i64 0,.int .i64 0] (tag 38)):=by rw [hw];exact get_new_eq _ _ _ rfl (by omega)
 have F:∀ (b:Bool) (m:Nat),call Try.prog X n (.fn f) (.agg (endV b)::cap) ⟨w.h,w.n,m⟩=.val (.int .i64 (spanAt b lo hi)) ⟨w.h,w.n,m⟩:=fun b m=>hF b ⟨w.h,w.n,m⟩ (fun c hc=>(wg c (by omega)).trans (by rw [uh])) (by show s.n≤w.n;omega) (by show w.n≤s.n+10;omega)
 have F0:call Try.prog X n (.fn f) (.agg [.func 60 [] [],.func 61 [] []]::cap) w=.val (.int .i64 lo) w:=F false w.m
 have F1:call Try.prog X n (.fn f) (.agg [.func 61 [] [],.func 60 [] []]::cap) w=.val (.int .i64 hi) w:=F true w.m
 rw [enter38]
 simp (disch:=first|omega|(with_unfolding_all exact rfl)|(simp only[new_n,put_n,new_m];omega)|(refine put_m_le ?_;simp only[new_m];omega)) only [K38,K38r0,Abs.W,reduceIte,Nat.reduceEqDiff,Nat.reduceAdd,decide_true,decide_false,kLoop_def,Nat.reduceSub,List.cons_append,List.nil_append,List.append_nil,List.length_cons,List.length_nil,Env.find_set,Nat.zero_add]
 rw [← hw]
 clear hw
 simp (disch:=first|omega|(with_unfolding_all exact rfl)|(simp only[new_n,put_n,new_m];omega)|(refine put_m_le ?_;simp only[new_m];omega)) only [res38,K38r0,K38r1,K38r2,K38r3,K38,Abs.W,reduceIte,Nat.reduceEqDiff,Nat.reduceAdd,decide_true,decide_false,kLoop_def,Nat.reduceSub,List.cons_append,List.nil_append,List.append_nil,List.length_cons,List.length_nil,Env.find_set,okA_fnv,cellsFn,F0,F1,w0,Nat.zero_add]
 refine ⟨_,leave_cell _ _ _ _ sh2 ?_,?_⟩
 ·simp only [find_cons,reduceIte,Nat.reduceEqDiff]
  rw [load_ptr,get_put_eq _ _ _ _ rfl (by omega),loadO_cells,partS_some]
  rfl
 ·simp only [St.put,minN_eq];omega
theorem found_ok {N p q st:Nat} {b:Book} {v:AV} {s:St} (hi:Bool) (hN:5≤N) (ok:b.Ok) (hp:s.h.get p=some (.cells (bookV b v) (tag 27))) (hq:s.h.get q=some (.cells [.int .i64 (st:Int)] (tag 3))) (hpn:p<s.n) (hqn:q<s.n) (hB:RowsAt s.h s.n 6 (b.sales.map Sale.cells) v) (hs:s.n+6000≤far) :
  call Try.prog X N (.fn 50) (.agg (endV hi)::[.ptr p 0,.ptr q 0]) s=.val (.int .i64 (turnOf hi b.sales st)) s:=by
 obtain ⟨n,rfl⟩:∃ n,N=n+1:=⟨N - 1,by omega⟩
 have hf:far=1000000000:=rfl
 refine call_plain' Try.func50 (fun u uh un um=>?_) rfl
 rw [← uh] at hp hq hB
 rw [← un] at hB hpn hqn hs
 have kv:∀ t,okA (.val v t)=.val v t:=fun t=>okA_ne hB.ne
 have scE:scalars (endV hi)=true:=by cases hi<;>rfl
 obtain ⟨w,hw⟩:∃ w:St,w=u.new (.cells (endV hi) (tag 82)):=⟨_,rfl⟩
 have wn:w.n=u.n+1:=by rw [hw];rfl
 have wm:w.m=far:=by rw [hw];exact um
 have wg:∀ c,c<u.n→w.h.get c=u.h.get c:=fun c hc=>by rw [hw,get_new_ne _ _ _ (by omega)]
 have w0:w.h.get u.n=some (.cells [hereV hi,hereV (!hi)] (tag 82)):=by rw [hw];exact get_new_eq _ _ _ rfl (by omega)
 have hR:=hB.grow wg (by omega:u.n≤w.n)
 have w1:=(wg p hpn).trans hp
 have w2:=(wg q hqn).trans hq
 unfold bookV at w1
 rw [enter50]
 simp (disch:=first|omega|(with_unfolding_all exact rfl)|(simp only[new_n,put_n,new_m];omega)|(refine put_m_le ?_;simp only[new_m];omega)) only [K50,K50r0,res50,Abs.W,reduceIte,Nat.reduceEqDiff,Nat.reduceAdd,decide_true,decide_false,kLoop_def,Nat.reduceSub,List.cons_append,List.nil_append,List.append_nil,List.length_cons,List.length_nil,Env.find_set,scE,Nat.zero_add]
 rw [← hw]
 clear hw
 simp (disch:=first|omega|(with_unfolding_all exact rfl)|(simp only[new_n,put_n,new_m];omega)|(refine put_m_le ?_;simp only[new_m];omega)) only [K50r1,Abs.W,reduceIte,Nat.reduceEqDiff,Nat.reduceAdd,decide_true,decide_false,kLoop_def,Nat.reduceSub,List.cons_append,List.nil_append,List.append_nil,List.length_cons,List.length_nil,Env.find_set,w0,w1,kv,Nat.zero_add]
 generalize hc:call _ _ _ (.fn 41) _ _=r1
 obtain ⟨mb,t,rfl,st1,h1,h2,h3⟩:=turnovers_ex hi hc (by omega) ok.ok (hR) (by have:=ok.l;omega) (by show w.n+5000≤far;omega)
 have tm:t.m=far:=st1.m
 have tn:w.n≤t.n:=st1.n
 have tl:t.n≤w.n+1000:=st1.le
 rw [thenT_val _ _ _ _ _ _ _ _ (by omega)]
 have t2:=(st1.same q (by show q<w.n;omega)).trans w2
 have lk:∀ m,lookA .int (.int .i64 0) false ⟨t.h,t.n,m⟩ (.int .i64 (st:Int)) (.map mb)=.val (.int .i64 (turnOf hi b.sales st)) ⟨t.h,t.n,m⟩:=fun m=>by rw [look_map (sums hi b.sales) _ mb ⟨t.h,t.n,m⟩ h3,getP_sums]
 simp (disch:=first|omega|(with_unfolding_all exact rfl)|(simp only[new_n,put_n,new_m];omega)|(refine put_m_le ?_;simp only[new_m];omega)) only [Abs.W,reduceIte,Nat.reduceEqDiff,Nat.reduceAdd,decide_true,decide_false,kLoop_def,Nat.reduceSub,List.cons_append,List.nil_append,List.append_nil,List.length_cons,List.length_nil,Env.find_set,t2,kLookE,lk,endO_nil,Nat.zero_add]
 refine ⟨_,rfl,?_⟩
 first | omega | (simp only [minN_eq];omega)
end Go.Proofs.Ytamlnddeiokbdaa.walk
namespace Go.Abs
variable {P:Program}
structure Rows (h:Heap) (lo n w tg:Nat) (rows:List (List AV)) (v:AV):Prop where
 wide:∀ r ∈ rows,r.length=w
 is:(rows=[]∧v=.nilslice)∨(∃ b,lo≤b∧b<n∧v=.slice b 0 rows.length rows.length true∧h.get b=some (.cells rows.flatten (w+tg)))
theorem Rows.nil (h:Heap) (lo n w tg:Nat):Rows h lo n w tg [] .nilslice:=⟨fun r hr=>by (cases hr),.inl ⟨rfl,rfl⟩⟩
theorem Rows.mono {h h':Heap} {lo n n' w tg:Nat} {rows:List (List AV)} {v:AV} (r:Rows h lo n w tg rows v) (hh:∀ b,lo≤b→b<n→h'.get b=h.get b) (hn:n≤n'):Rows h' lo n' w tg rows v :=
 ⟨r.wide,r.is.imp id fun ⟨b,h0,h1,h2,h3⟩=>⟨b,h0,by omega,h2,by rw [hh b h0 h1];exact h3⟩⟩
theorem flatten_cut:∀ {rows:List (List AV)} {w i:Nat},(∀ r ∈ rows,r.length=w)→(hi:i<rows.length)→cut (i * w) w rows.flatten=some rows[i]
 | [],w,i,_,hi=>by simp at hi
 | r::rs,w,i,hw,hi=>by
  have hr:r.length=w:=hw r (List.mem_cons_self ..)
  have cut1_app:∀ (r l:List AV),cut1 r.length (r++l)=some r:=by
   intro r l
   induction r with
   | nil=>exact cut1_zero l
   | cons a r ih=>rw [List.length_cons,List.cons_append,cut1_cons,ih];rfl
  have cut_0:∀ (k:Nat) (l:List AV),cut 0 k l=cut1 k l:=by
   intro k l
   cases l with
   | nil=>rfl
   | cons a l=>rfl
  cases i with
  | zero =>
   rw [Nat.zero_mul,List.flatten_cons,cut_0,← hr,cut1_app]
   rfl
  | succ i =>
   have ih:=flatten_cut (rows:=rs) (w:=w) (i:=i) (fun x hx=>hw x (List.mem_cons_of_mem _ hx)) (by simpa using hi)
   have drop:∀ (r l:List AV) (o k:Nat),cut (o+r.length) k (r++l)=cut o k l:=by
    intro r l o k
    induction r with
    | nil=>rfl
    | cons a r ih=>rw [List.length_cons,List.cons_append,← Nat.add_assoc,cut_cons,if_neg (by omega)];exact ih
   rw [List.flatten_cons,show (i+1) * w=i * w+r.length by rw [Nat.succ_mul,hr],drop,ih]
   rfl
theorem Rows.at_ {h:Heap} {lo n w tg:Nat} {rows:List (List AV)} {v:AV} (r:Rows h lo n w tg rows v):RowsAt h n w rows v:=by
 refine ⟨fun s=>?_,fun i hi=>?_⟩
 ·rcases r.is with ⟨h1,h2⟩ | ⟨b,_,_,h2,_⟩
  ·subst h1;subst h2;rfl
  ·subst h2;rfl
 ·rcases r.is with ⟨h1,_⟩ | ⟨b,_,hb,h2,h3⟩
  ·subst h1;simp at hi
  ·subst h2
   exact ⟨b,i * w,rows.flatten,w+tg,hb,fun s=>by rw [ixs_slice _ _ _ _ _ _ _ _ hi,Nat.zero_add],h3,flatten_cut r.wide hi⟩
theorem Rows.len {h:Heap} {lo n w tg:Nat} {rows:List (List AV)} {v:AV} (r:Rows h lo n w tg rows v) (s:St):lenSlA s v=.val (.int .i64 rows.length) s:=r.at_.len s
theorem Rows.scalar {h:Heap} {lo n w tg:Nat} {rows:List (List AV)} {v:AV} (r:Rows h lo n w tg rows v):(∀ t,okA (.val v t)=.val v t)∧cellsOf 1 v=some [v]∧(∀ l,scalars (v::l)=scalars l):=by
 rcases r.is with ⟨_,h2⟩ | ⟨b,_,_,h2,_⟩<;>subst h2<;>exact ⟨fun _=>rfl,rfl,fun _=>rfl⟩
theorem flatten_len:∀ {rows:List (List AV)} {w:Nat},(∀ r ∈ rows,r.length=w)→rows.flatten.length=rows.length * w
 | [],w,_=>by simp
 | r::rs,w,hw=>by
  have:=flatten_len (rows:=rs) (w:=w) (fun x hx=>hw x (List.mem_cons_of_mem _ hx))
  rw [List.flatten_cons,List.length_append,this,hw r (List.mem_cons_self ..),List.length_cons,Nat.succ_mul,Nat.add_comm]
theorem append_row {s:St} {lo w bytes tg:Nat} {rows:List (List AV)} {v:AV} (r:Rows s.h lo s.n w tg rows v) {p sz:Nat} {row:List AV} (hp:s.h.get p=some (.cells row sz)) (hw:row.length=w) (hsc:scalars row=true)
  (hb:(rows.length+1) * bytes≤1000000) (htg:szOf (w+tg)=w) (hs:s.n<549755813888) (hlo:lo≤s.n) :
  ∃ v' s',appendA false w bytes tg s v (.slice p 0 1 1 false)=.val v' s'∧Rows s'.h lo s'.n w tg (rows++[row]) v'∧s'.n=s.n+1∧(∀ b,b<lo→s'.h.get b=s.h.get b)∧(∀ b,b<s.n→v≠.slice b 0 rows.length rows.length true→s'.h.get b=s.h.get b)∧(∀ k,k≤lo→k≤s.m→k≤s'.m)∧s'.m≤s.m∧v'=.slice s.n 0 (rows.length+1) (rows.length+1) true:=by
 have h1:∀ x,appendA false w bytes tg s x (.slice p 0 1 1 false)=growA w bytes tg 1 row s x:=by
  intro x
  have e1:firstA w 1 s (.slice p 0 1 1 false)=some row:=by
   show (match s.h.get p with | some (.cells c _)=>cut 0 (1 * w) c | some (.fam c _ k _)=>cut 0 (1 * w) (c.take k) | _=>none)=some row
   rw [hp]
   simp only [Nat.one_mul]
   have cut_0:∀ (k:Nat) (l:List AV),cut 0 k l=cut1 k l:=by
    intro k l
    cases l with
    | nil=>rfl
    | cons a l=>rfl
   have all:∀ l:List AV,cut1 l.length l=some l:=by
    intro l
    induction l with
    | nil=>rfl
    | cons a l ih=>rw [List.length_cons,cut1_cons,ih];rfl
   rw [cut_0,← hw,all]
  show (match (some 1:Option Nat) with | none=>ARes.fail | some n=>match firstA w n s (.slice p 0 1 1 false) with | none=>.fail | some new=>match Nat.beq new.length (n * w) with | false=>.fail | true=>match scalars new with | true=>(growA w bytes tg n new s x) | false=>.fail)=_
  simp only [e1,hw,Nat.one_mul,Nat.beq_refl,hsc]
 rcases r.is with ⟨h2,h3⟩ | ⟨b,hlb,hbn,h3,h4⟩
 ·subst h2;subst h3
  refine ⟨.slice s.n 0 1 1 true,s.new (.cells row (w+tg)),?_,⟨fun x hx=>?_,.inr ⟨s.n,hlo,Nat.lt_succ_self _,rfl,?_⟩⟩,rfl,fun b hb=>?_,fun b hb _=>?_,fun _ _ h=>h,Nat.le_refl _,rfl⟩
  ·rw [h1]
   show (match Nat.beq 1 0 with | true=>ARes.val .nilslice s | false=>match Nat.ble (1 * bytes) limit with | false=>.fail | true=>.val (.slice s.n 0 1 1 true) (s.new (.cells row (w+tg))))=_
   have:Nat.ble (1 * bytes) limit=true:=Nat.ble_eq_true_of_le (by unfold limit;simp at hb;omega)
   rw [this]
  ·simp at hx;subst hx;exact hw
  ·simp only [List.nil_append,List.flatten_cons,List.flatten_nil,List.append_nil]
   exact get_new_eq _ _ _ rfl hs
  ·exact get_new_ne _ _ _ (by omega)
  ·exact get_new_ne _ _ _ (by omega)
 ·subst h3
  have hfl:=flatten_len r.wide
  refine ⟨.slice s.n 0 (rows.length+1) (rows.length+1) true,(s.kill b).new (.cells (rows.flatten++row) (w+tg)),?_,⟨fun x hx=>?_,.inr ⟨s.n,hlo,Nat.lt_succ_self _,by simp,?_⟩⟩,rfl,fun c hc=>?_,fun c hc hne=>?_,fun k hk hm=>?_,minN_le_left _ _,rfl⟩
  ·rw [h1]
   unfold growA
   simp only [h4]
   have e1:Nat.ble (rows.length+1) rows.length=false:=by
    cases h:Nat.ble (rows.length+1) rows.length with
    | false=>rfl
    | true=>have:=Nat.le_of_ble_eq_true h;omega
   have e2:Nat.ble ((rows.length+1) * bytes) limit=true:=Nat.ble_eq_true_of_le hb
   simp only [e1,e2,hfl,htg,Nat.zero_add,List.drop_zero,and_self,if_true]
  ·rcases List.mem_append.mp hx with hx | hx
   ·exact r.wide x hx
   ·simp at hx;subst hx;exact hw
  ·rw [List.flatten_append,List.flatten_cons,List.flatten_nil,List.append_nil]
   exact get_new_eq _ _ _ rfl hs
  ·rw [get_new_ne _ _ _ (by show c≠s.n;omega),St.kill_h,heap_set_ne _ _ _ _ (by omega)]
  ·rw [get_new_ne _ _ _ (by show c≠s.n;omega),St.kill_h,heap_set_ne _ _ _ _ (fun e=>hne (by rw [e]))]
  ·show k≤minN s.m b
   rw [minN_min];omega
/-! ### Slices as they come in, copies, parts -/
theorem cut_zero (k:Nat) (l:List AV):cut 0 k l=cut1 k l:=by cases l<;>rfl
theorem cut1_app:∀ (r l:List AV),cut1 r.length (r++l)=some r:=by
 intro r l
 induction r with
 | nil=>exact cut1_zero l
 | cons a r ih=>rw [List.length_cons,List.cons_append,cut1_cons,ih];rfl
theorem cut1_all (l:List AV):cut1 l.length l=some l:=by have:=cut1_app l [];rwa [List.append_nil] at this
theorem cut1_some:∀ {k:Nat} {l r:List AV},cut1 k l=some r→∃ t,l=r++t∧r.length=k
 | 0,l,r,h=>by rw [cut1_zero] at h;cases h;exact ⟨l,rfl,rfl⟩
 | k+1,[],r,h=>by cases h
 | k+1,a::l,r,h=>by
  rw [cut1_cons] at h
  generalize hq:cut1 k l=q at h
  cases q with
  | none=>cases h
  | some q =>
   cases h
   obtain ⟨t,h1,h2⟩:=cut1_some hq
   exact ⟨t,by rw [h1];rfl,by rw [List.length_cons,h2]⟩
theorem cut_some:∀ {o k:Nat} {l r:List AV},cut o k l=some r→∃ a t,l=a++r++t∧a.length=o∧r.length=k
 | 0,k,l,r,h=>by
  rw [cut_zero] at h
  obtain ⟨t,h1,h2⟩:=cut1_some h
  exact ⟨[],t,by rw [h1];rfl,rfl,h2⟩
 | o+1,k,[],r,h=>by cases h
 | o+1,k,a::l,r,h=>by
  rw [cut_cons,if_neg (by omega)] at h
  obtain ⟨x,t,h1,h2,h3⟩:=cut_some h
  exact ⟨a::x,t,by rw [h1];rfl,by rw [List.length_cons,h2];omega,h3⟩
theorem cut_skip:∀ (a l:List AV) (o k:Nat),cut (a.length+o) k (a++l)=cut o k l
 | [],l,o,k=>by rw [List.length_nil,Nat.zero_add,List.nil_append]
 | x::a,l,o,k=>by
  rw [List.length_cons,List.cons_append,show a.length+1+o=(a.length+o)+1 by omega,cut_cons,if_neg (by omega)]
  exact cut_skip a l o k
theorem cut_app:∀ {o k:Nat} {l r t:List AV},cut o k l=some r→cut o k (l++t)=some r:=by
 intro o k l r t h
 obtain ⟨a,u,h1,h2,h3⟩:=cut_some h
 rw [h1,← h2,List.append_assoc,List.append_assoc]
 have:=cut_skip a (r++(u++t)) 0 k
 rw [Nat.add_zero] at this
 rw [this,cut_zero,← h3,cut1_app]
theorem cut_cut {o k i w:Nat} {c F r:List AV} (h:cut o k c=some F) (h2:cut i w F=some r):cut (o+i) w c=some r:=by
 obtain ⟨a,t,h3,h4,h5⟩:=cut_some h
 rw [h3,← h4,List.append_assoc,cut_skip]
 exact cut_app h2
structure Seq (h:Heap) (n w:Nat) (rows:List (List AV)) (v:AV):Prop where
 wide:∀ r ∈ rows,r.length=w
 is:(rows=[]∧v=.nilslice)∨∃ b o cap e c sz,b<n∧v=.slice b o rows.length cap e∧h.get b=some (.cells c sz)∧cut o (rows.length * w) c=some rows.flatten
theorem Seq.at_ {h:Heap} {n w:Nat} {rows:List (List AV)} {v:AV} (r:Seq h n w rows v):RowsAt h n w rows v:=by
 refine ⟨fun s=>?_,fun i hi=>?_⟩
 ·rcases r.is with ⟨h1,h2⟩ | ⟨b,o,cap,e,c,sz,_,h2,_⟩
  ·subst h1;subst h2;rfl
  ·subst h2;rfl
 ·rcases r.is with ⟨h1,_⟩ | ⟨b,o,cap,e,c,sz,hb,h2,h3,h4⟩
  ·subst h1;simp at hi
  ·subst h2
   exact ⟨b,o+i * w,c,sz,hb,fun s=>ixs_slice _ _ _ _ _ _ _ _ hi,h3,cut_cut h4 (flatten_cut r.wide hi)⟩
theorem Seq.grow {h h':Heap} {n n' w:Nat} {rows:List (List AV)} {v:AV} (r:Seq h n w rows v) (hh:∀ b,b<n→h'.get b=h.get b) (hn:n≤n'):Seq h' n' w rows v :=
 ⟨r.wide,r.is.imp id fun ⟨b,o,cap,e,c,sz,h1,h2,h3,h4⟩=>⟨b,o,cap,e,c,sz,by omega,h2,by rw [hh b h1];exact h3,h4⟩⟩
theorem Rows.seq {h:Heap} {lo n w tg:Nat} {rows:List (List AV)} {v:AV} (r:Rows h lo n w tg rows v):Seq h n w rows v :=
 ⟨r.wide,r.is.imp id fun ⟨b,_,h1,h2,h3⟩=>⟨b,0,_,_,_,_,h1,h2,h3,by rw [cut_zero,← flatten_len r.wide,cut1_all]⟩⟩
theorem Seq.first {s:St} {n w:Nat} {rows:List (List AV)} {v:AV} (r:Seq s.h n w rows v):lenA v=some rows.length∧firstA w rows.length s v=some rows.flatten:=by
 rcases r.is with ⟨h1,h2⟩ | ⟨b,o,cap,e,c,sz,hb,h2,h3,h4⟩
 ·subst h1;subst h2;exact ⟨rfl,rfl⟩
 ·subst h2
  refine ⟨rfl,?_⟩
  show (match s.h.get b with | some (.cells c _)=>cut o (rows.length * w) c | some (.fam c _ k _)=>cut o (rows.length * w) (c.take k) | _=>none)=_
  rw [h3]
  exact h4
theorem Seq.scalar {h:Heap} {n w:Nat} {rows:List (List AV)} {v:AV} (r:Seq h n w rows v):(∀ t,okA (.val v t)=.val v t)∧cellsOf 1 v=some [v]∧(∀ l,scalars (v::l)=scalars l):=by
 rcases r.is with ⟨_,h2⟩ | ⟨b,o,cap,e,c,sz,_,h2,_⟩<;>subst h2<;>exact ⟨fun _=>rfl,rfl,fun _=>rfl⟩
structure Own (h:Heap) (lo n w tg:Nat) (rows:List (List AV)) (v:AV):Prop where
 wide:∀ r ∈ rows,r.length=w
 is:(rows=[]∧(v=.nilslice∨∃ b,lo≤b∧b<n∧v=.slice b 0 0 0 false∧h.get b=some (.cells [] 0)))∨(rows≠[]∧∃ b,lo≤b∧b<n∧v=.slice b 0 rows.length rows.length true∧h.get b=some (.cells rows.flatten (w+tg)))
theorem Own.seq {h:Heap} {lo n w tg:Nat} {rows:List (List AV)} {v:AV} (r:Own h lo n w tg rows v):Seq h n w rows v:=by
 refine ⟨r.wide,?_⟩
 rcases r.is with ⟨h1,h2 | ⟨b,_,h3,h4,h5⟩⟩ | ⟨_,b,_,h3,h4,h5⟩
 ·exact .inl ⟨h1,h2⟩
 ·subst h1;exact .inr ⟨b,0,0,false,[],0,h3,h4,h5,by rw [List.length_nil,Nat.zero_mul];rfl⟩
 ·exact .inr ⟨b,0,_,_,_,_,h3,h4,h5,by rw [cut_zero,← flatten_len r.wide,cut1_all]⟩
theorem Own.mono {h h':Heap} {lo n n' w tg:Nat} {rows:List (List AV)} {v:AV} (r:Own h lo n w tg rows v) (hh:∀ b,lo≤b→b<n→h'.get b=h.get b) (hn:n≤n'):Own h' lo n' w tg rows v:=by
 refine ⟨r.wide,?_⟩
 rcases r.is with ⟨h1,h2 | ⟨b,h0,h3,h4,h5⟩⟩ | ⟨h1,b,h0,h3,h4,h5⟩
 ·exact .inl ⟨h1,.inl h2⟩
 ·exact .inl ⟨h1,.inr ⟨b,h0,by omega,h4,by rw [hh b h0 h3];exact h5⟩⟩
 ·exact .inr ⟨h1,b,h0,by omega,h4,by rw [hh b h0 h3];exact h5⟩
end Go.Abs
namespace Go.Abs
variable {P:Program}
theorem over_skip:∀ (a l vs:List AV) (o:Nat),over (a.length+o) vs (a++l)=(over o vs l).map (a++·)
 | [],l,vs,o=>by
  rw [List.length_nil,Nat.zero_add,List.nil_append]
  cases over o vs l<;>rfl
 | x::a,l,vs,o=>by
  rw [List.length_cons,List.cons_append,show a.length+1+o=(a.length+o)+1 by omega,over_cons,if_neg (by omega),show a.length+o+1 - 1=a.length+o by omega,over_skip a l vs o]
  cases over o vs l<;>rfl
theorem over_head:∀ (vs r l:List AV),vs.length=r.length→over 0 vs (r++l)=some (vs++l):=by
 have h1:∀ (vs r l:List AV),vs.length=r.length→over1 vs (r++l)=some (vs++l):=by
  intro vs
  induction vs with
  | nil=>intro r l h;cases r with
   | nil=>exact over1_nil _
   | cons _ _=>simp at h
  | cons v vs ih=>intro r l h;cases r with
   | nil=>simp at h
   | cons a r=>rw [List.cons_append,over1_cons,ih r l (by simpa using h)];rfl
 intro vs r l h
 have:over 0 vs (r++l)=over1 vs (r++l):=by
  cases hq:r++l with
  | nil=>rfl
  | cons a c=>rw [over_cons,if_pos rfl]
 rw [this,h1 vs r l h]
theorem over_flatten {rows:List (List AV)} {w j:Nat} {row:List AV} (hw:∀ r ∈ rows,r.length=w) (hj:j<rows.length) (hr:row.length=w):over (j * w) row rows.flatten=some (rows.set j row).flatten:=by
 have e:rows=rows.take j++rows[j]::rows.drop (j+1):=by rw [List.getElem_cons_drop];exact (List.take_append_drop j rows).symm
 have l1:(rows.take j).flatten.length=j * w:=by
  rw [flatten_len (w:=w) (fun r hr=>hw r (List.mem_of_mem_take hr)),List.length_take,Nat.min_eq_left (by omega)]
 rw [List.set_eq_take_append_cons_drop,if_pos hj]
 conv=>lhs;rw [e]
 rw [List.flatten_append,List.flatten_cons,List.flatten_append,List.flatten_cons]
 have:=over_skip (rows.take j).flatten (rows[j]++(rows.drop (j+1)).flatten) row 0
 rw [Nat.add_zero,l1] at this
 rw [this,over_head row rows[j] _ (by rw [hr,hw _ (List.getElem_mem hj)])]
 rfl
theorem zeros_len (z:List AV):∀ n,(zerosA z n).length=n * z.length
 | 0=>by simp [zerosA]
 | n+1=>by
  show (z++zerosA z n).length=_
  rw [List.length_append,zeros_len z n,Nat.succ_mul];omega
theorem zeros_flatten (z:List AV):∀ n,zerosA z n=(List.replicate n z).flatten
 | 0=>rfl
 | n+1=>by
  show z++zerosA z n=_
  rw [zeros_flatten z n,List.replicate_succ,List.flatten_cons]
theorem make_rows (z:List AV) (bytes n:Nat) (s:St) (h1:n * bytes≤1000000) (h2:n≤1000000):makeA z bytes s (.int .i64 (n:Int)) (.int .i64 (n:Int))=.val (.slice s.n 0 n n false) (s.new (.cells (List.replicate n z).flatten 0)):=by
 show (match Nat.ble n n with | false=>ARes.fail | true=>match Nat.ble (n * bytes) limit with | false=>.fail | true=>match Nat.ble n limit with | false=>.fail | true=>.val (.slice s.n 0 n n false) (s.new (.cells (zerosA z n) 0)))=_
 rw [Nat.ble_eq_true_of_le (Nat.le_refl n),Nat.ble_eq_true_of_le (by unfold limit;omega:n * bytes≤limit),Nat.ble_eq_true_of_le (by unfold limit;omega:n≤limit),zeros_flatten]
theorem kMake_def (z:List AV) (bytes:Nat) (l c:Arg) (L:Env) (s:St):kMake z bytes l c L s=makeA z bytes s (l.ev L) (c.ev L):=Eq.trans (Eq.refl _) (Eq.refl _)
def fillRows (n:Nat) (z:List AV) (l:List (List AV)):List (List AV):=l++List.replicate (n - l.length) z
theorem fillRows_len {n:Nat} {z:List AV} {l:List (List AV)} (h:l.length≤n):(fillRows n z l).length=n:=by unfold fillRows;rw [List.length_append,List.length_replicate];omega
theorem fillRows_full {n:Nat} {z:List AV} {l:List (List AV)} (h:l.length=n):fillRows n z l=l:=by unfold fillRows;rw [h,Nat.sub_self,List.replicate_zero,List.append_nil]
theorem fillRows_wide {n w:Nat} {z:List AV} {l:List (List AV)} (hz:z.length=w) (hl:∀ r ∈ l,r.length=w):∀ r ∈ fillRows n z l,r.length=w:=by
 intro r hr
 rcases List.mem_append.mp hr with h | h
 ·exact hl r h
 ·rw [List.eq_of_mem_replicate h];exact hz
theorem fillRows_over {n w:Nat} {z row:List AV} {l:List (List AV)} (hz:z.length=w) (hl:∀ r ∈ l,r.length=w) (hr:row.length=w) (h:l.length<n):over (l.length * w) row (fillRows n z l).flatten=some (fillRows n z (l++[row])).flatten:=by
 rw [over_flatten (fillRows_wide hz hl) (by rw [fillRows_len (by omega)];exact h) hr]
 congr 2
 unfold fillRows
 obtain ⟨k,hk⟩:∃ k,n - l.length=k+1:=⟨n - l.length - 1,by omega⟩
 rw [List.set_append_right _ _ (Nat.le_refl _),Nat.sub_self,hk,List.replicate_succ,List.set_cons_zero,List.append_assoc,List.length_append,List.length_singleton,show n - (l.length+1)=k by omega]
 rfl
theorem cut1_nth:∀ {p:Nat} {c:List AV} {v:AV},cut p 1 c=some [v]→nth c p=v
 | p,[],v,h=>by cases p<;>cases h
 | 0,a::c,v,h=>by
  rw [cut_zero,cut1_cons,cut1_zero] at h
  cases h
  rfl
 | p+1,a::c,v,h=>by
  rw [cut_cons,if_neg (by omega),Nat.add_sub_cancel] at h
  rw [nth_cons,if_neg (by omega),Nat.add_sub_cancel]
  exact cut1_nth h
theorem leave_nil {P:Program} (L:Env) (s:St):leaveA P [] L [] s=.val (.tup []) s:=rfl
theorem call_round {X:FuncId→List Nat} {n l:Nat} {args:List AV} {s s1 s2:St} {r r1 r2:ALoop} {a b:K} {L L2:Env} {d d2:List Nat} {e:Ex} (hl:s.h.get l=some (.loop r)) (hr:args.length=r.params.length)
  (ha:codeK P r.xs r.nt r.assign=some a) (hb:codeK P r.xs r.nt r.body=some b) (h1:a (call P X n) ⟨r.fn,some l,r.nt,r.xs⟩ (setParams r.tmps r.params args) [] s=.done .norm L d s1)
  (h2:s1.h.get l=some (.loop r1)) (h3:r1.state=.ready) (h4:b (call P X n) ⟨r.fn,some l,r.nt,r.xs⟩ L [] (s1.put l (.loop { r1 with state:=.busy }))=.done e L2 d2 s2) (h5:s2.h.get l=some (.loop r2)) :
  call P X (n+1) (.yield l) args s=.val (.bool (goesOn e)) (s2.put l (.loop { r2 with state:=if goesOn e then .ready else .done,pending:=jumpOf e })):=by
 have e1:loopAt s l=some r:=by unfold loopAt;rw [hl]
 have e2:loopAt s1 l=some r1:=by unfold loopAt;rw [h2]
 have e3:loopAt s2 l=some r2:=by unfold loopAt;rw [h5]
 show callStep P X (call P X n) (.yield l) args s=_
 unfold callStep
 simp only [e1]
 unfold roundA
 rw [if_neg (by simp [hr])]
 simp only [ha,hb,h1,e2,h3,h4]
 unfold endRoundA
 simp only [e3]
theorem range_eq {f:Arg} {ps:List Tmp} {a b:Code} {cl:CallF} {c:Ctx} {L:Env} {d:List Nat} {s s2:St} {v:AV} {r:ALoop} (hc:c.rnd=none)
  (h:callV cl [.yield (s.n+1)] ((s.new .dfr).new (.loop ⟨.ready,none,c.fn,L,ps,a,b,s.n,c.nt,c.xs⟩)) (f.ev L)=.val v s2) (hr:s2.h.get (s.n+1)=some (.loop r)) (hb:r.state≠.busy) :
  kRange f ps a b cl c L d s=jumpA L (s.n::d) (s2.put (s.n+1) (.loop { r with state:=.exhausted })) r.pending:=by
 have e1:enterLoopA c L d ps a b s=some (s.n::d,(s.new .dfr).new (.loop ⟨.ready,none,c.fn,L,ps,a,b,s.n,c.nt,c.xs⟩)):=by unfold enterLoopA;rw [hc]
 have e2:Nat.sub ((s.new .dfr).new (.loop ⟨.ready,none,c.fn,L,ps,a,b,s.n,c.nt,c.xs⟩)).n 1=s.n+1:=rfl
 have e3:loopAt s2 (s.n+1)=some r:=by unfold loopAt;rw [hr]
 unfold kRange
 simp only [e1]
 rw [e2,h]
 simp only
 rw [e3]
 cases hst:r.state with
 | busy=>exact absurd hst hb
 | _=>simp only [hst]
theorem setParams1 (L:Env) (t:Tmp) (a:AV):setParams L [t] [a]=L.set t a:=rfl
theorem leave_dfr (P:Program) (rs:List ResultVar) (x:Nat) (L:Env) (s:St) (h:s.h.get x=some .dfr):leaveA P rs L [x] s=leaveA P rs L [] (s.kill x):=by
 unfold leaveA
 have:takeDfs s [x]=some (s.kill x):=by
  show (match s.h.get x with | some .dfr=>takeDfs (s.kill x) [] | _=>none)=_
  rw [h];rfl
 rw [this]
 rfl
theorem boxA_func (sz:Nat) (s:St) (f:FuncId) (x y:List AV):boxA sz s (.func f x y)=.val (.ptr s.n 0) (s.new (.cells [.func f x y] sz)):=Eq.trans (Eq.refl _) (Eq.refl _)
theorem get_kill_ne (s:St) (b c:Nat) (h:b≠c):(s.kill c).h.get b=s.h.get b:=by rw [St.kill_h,heap_set_ne _ _ _ _ h]
theorem range_to_end {f:Arg} {ps:List Tmp} {a b:Code} {cl:CallF} {c:Ctx} {L:Env} {s s2:St} {v:AV} {r:ALoop} (hc:c.rnd=none)
  (h:callV cl [.yield (s.n+1)] ((s.new .dfr).new (.loop ⟨.ready,none,c.fn,L,ps,a,b,s.n,c.nt,c.xs⟩)) (f.ev L)=.val v s2) (hr:s2.h.get (s.n+1)=some (.loop r)) (hb:r.state=.ready) (hp:r.pending=none) :
  kRange f ps a b cl c L [] s=.done .norm L [s.n] (s2.put (s.n+1) (.loop { r with state:=.exhausted })):=by
 rw [range_eq hc h hr (by rw [hb];simp),hp]
 rfl
structure Turn (d:Nat) (u t:St) (k:Nat):Prop where
 same:∀ b,b<u.n→b≠d→t.h.get b=u.h.get b
 n:u.n≤t.n
 le:t.n≤u.n+k
end Go.Abs
namespace Go.Abs
variable {P:Program}
structure Blk (h:Heap) (n b w tg:Nat) (rows:List (List AV)) (v:AV):Prop where
 wide:∀ r ∈ rows,r.length=w
 is:∃ e sz,v=.slice b 0 rows.length rows.length e∧b<n∧h.get b=some (.cells rows.flatten sz)∧(e=true→sz=w+tg)
theorem Blk.mono {h h':Heap} {n n' b w tg:Nat} {rows:List (List AV)} {v:AV} (r:Blk h n b w tg rows v) (hh:h'.get b=h.get b) (hn:n≤n'):Blk h' n' b w tg rows v :=
 ⟨r.wide,by obtain ⟨e,sz,h1,h2,h3,h4⟩:=r.is;exact ⟨e,sz,h1,by omega,by rw [hh];exact h3,h4⟩⟩
theorem Blk.lt {h:Heap} {n b w tg:Nat} {rows:List (List AV)} {v:AV} (r:Blk h n b w tg rows v):b<n:=by obtain ⟨e,sz,h1,h2,h3,h4⟩:=r.is;exact h2
theorem Blk.okA {h:Heap} {n b w tg:Nat} {rows:List (List AV)} {v:AV} (r:Blk h n b w tg rows v) (t:St):Abs.okA (.val v t)=.val v t:=by obtain ⟨e,sz,h1,h2,h3,h4⟩:=r.is;subst h1;rfl
theorem Blk.scal {h:Heap} {n b w tg:Nat} {rows:List (List AV)} {v:AV} (r:Blk h n b w tg rows v):v.scalar=true:=by obtain ⟨e,sz,h1,h2,h3,h4⟩:=r.is;subst h1;rfl
theorem Blk.cells {h:Heap} {n b w tg:Nat} {rows:List (List AV)} {v:AV} (r:Blk h n b w tg rows v):cellsOf 1 v=some [v]:=by obtain ⟨e,sz,h1,h2,h3,h4⟩:=r.is;subst h1;rfl
theorem Blk.len {h:Heap} {n b w tg:Nat} {rows:List (List AV)} {v:AV} (r:Blk h n b w tg rows v) (s:St):lenSlA s v=.val (.int .i64 rows.length) s:=by obtain ⟨e,sz,h1,h2,h3,h4⟩:=r.is;subst h1;rfl
theorem Blk.get {h:Heap} {n b w tg:Nat} {rows:List (List AV)} {v:AV} (r:Blk h n b w tg rows v):∃ sz,h.get b=some (.cells rows.flatten sz):=by obtain ⟨e,sz,h1,h2,h3,h4⟩:=r.is;exact ⟨sz,h3⟩
theorem Blk.ixs {h:Heap} {n b w tg:Nat} {rows:List (List AV)} {v:AV} (r:Blk h n b w tg rows v) {i:Nat} (hi:i<rows.length) (s:St):ixsA w s v (.int .i64 i)=.val (.ptr b (i * w)) s:=by
 obtain ⟨e,sz,h1,h2,h3,h4⟩:=r.is
 subst h1
 rw [ixs_slice _ _ _ _ _ _ _ _ hi,Nat.zero_add]
theorem Blk.cut {h:Heap} {n b w tg:Nat} {rows:List (List AV)} {v:AV} (r:Blk h n b w tg rows v) {i:Nat} (hi:i<rows.length):Abs.cut (i * w) w rows.flatten=some rows[i]:=flatten_cut r.wide hi
theorem Blk.at_ {h:Heap} {n b w tg:Nat} {rows:List (List AV)} {v:AV} (r:Blk h n b w tg rows v):RowsAt h n w rows v :=
 ⟨r.len,fun i hi=>by
  obtain ⟨sz,hg⟩:=r.get
  exact ⟨b,i * w,_,sz,r.lt,fun s=>r.ixs hi s,hg,r.cut hi⟩⟩
theorem endO_ok {M:Env} {l:List (Nat × Nat)} (s:St) (h:endOk M l=true):endO l (.ok M s)=.ok M s:=by
 show (match endOk M l with | true=>ORes.ok M s | false=>.fail)=_
 rw [h]
theorem endOk_nil (M:Env):endOk M []=true:=rfl
theorem apart_slice {b c o n k p:Nat} {e:Bool} (h:b≠c):apartA (.slice b o n k e) (.ptr c p)=true:=by
 unfold apartA
 simp [blockOf,nbeq_f h]
theorem Blk.apart {h:Heap} {n b w tg c o:Nat} {rows:List (List AV)} {v:AV} (r:Blk h n b w tg rows v) (hc:b≠c):apartA v (.ptr c o)=true:=by
 obtain ⟨e,sz,h1,h2,h3,h4⟩:=r.is
 subst h1;exact apart_slice hc
end Go.Abs
set_option maxRecDepth 10000
namespace Go.Abs
structure IsAt (h:Heap) (n b w tg:Nat) (rows:List (List AV)) (v:AV):Prop where
 wide:∀ r ∈ rows,r.length=w
 is:(rows=[]∧v=.nilslice)∨(rows≠[]∧b<n∧v=.slice b 0 rows.length rows.length true∧h.get b=some (.cells rows.flatten (w+tg)))
theorem IsAt.nil (h:Heap) (n b w tg:Nat):IsAt h n b w tg [] .nilslice:=⟨fun _ hr=>(by cases hr),.inl ⟨rfl,rfl⟩⟩
theorem IsAt.mono {h h':Heap} {n n' b w tg:Nat} {rows:List (List AV)} {v:AV} (r:IsAt h n b w tg rows v) (hh:b<n→h'.get b=h.get b) (hn:n≤n'):IsAt h' n' b w tg rows v :=
 ⟨r.wide,r.is.imp id fun ⟨h1,h2,h3,h4⟩=>⟨h1,by omega,h3,by rw [hh h2];exact h4⟩⟩
theorem IsAt.rows {h:Heap} {n b w tg:Nat} {rows:List (List AV)} {v:AV} (r:IsAt h n b w tg rows v):Rows h 0 n w tg rows v :=
 ⟨r.wide,r.is.imp id fun ⟨_,h2,h3,h4⟩=>⟨b,Nat.zero_le _,h2,h3,h4⟩⟩
theorem IsAt.okA {h:Heap} {n b w tg:Nat} {rows:List (List AV)} {v:AV} (r:IsAt h n b w tg rows v) (t:St):Abs.okA (.val v t)=.val v t:=okA_ne r.rows.at_.ne
theorem IsAt.scal {h:Heap} {n b w tg:Nat} {rows:List (List AV)} {v:AV} (r:IsAt h n b w tg rows v):scalars [v]=true∧cellsOf 1 v=some [v]:=by
 rcases r.is with ⟨_,h2⟩ | ⟨_,_,h3,_⟩
 ·subst h2;exact ⟨rfl,rfl⟩
 ·subst h3;exact ⟨rfl,rfl⟩
theorem append_at {s:St} {b w bytes tg:Nat} {rows:List (List AV)} {v:AV} (r:IsAt s.h s.n b w tg rows v) {p sz:Nat} {row:List AV} (hp:s.h.get p=some (.cells row sz)) (hw:row.length=w) (hsc:scalars row=true)
  (hb:(rows.length+1) * bytes≤1000000) (htg:szOf (w+tg)=w) (hs:s.n<549755813888) :
  ∃ s',appendA false w bytes tg s v (.slice p 0 1 1 false)=.val (.slice s.n 0 (rows.length+1) (rows.length+1) true) s'∧IsAt s'.h s'.n s.n w tg (rows++[row]) (.slice s.n 0 (rows.length+1) (rows.length+1) true)∧s'.n=s.n+1∧(∀ c,c<s.n→c≠b→s'.h.get c=s.h.get c)∧(∀ k,k≤b→k≤s.n→k≤s.m→k≤s'.m)∧s'.m≤s.m:=by
 rcases r.is with ⟨h1,h2⟩ | ⟨h1,h2,h3,h4⟩
 ·obtain ⟨v',s',e1,e2,e3,e4,e5,e6,e7,e8⟩:=append_row (lo:=s.n) (bytes:=bytes) (⟨r.wide,.inl ⟨h1,h2⟩⟩:Rows s.h s.n s.n w tg rows v) hp hw hsc hb htg hs (Nat.le_refl _)
  subst e8
  refine ⟨s',e1,⟨e2.wide,.inr ⟨by simp,by omega,by simp,?_⟩⟩,e3,fun c hc _=>e4 c hc,fun k _ hk hm=>e6 k hk hm,e7⟩
  rcases e2.is with ⟨z,_⟩ | ⟨b',_,_,z2,z3⟩
  ·simp at z
  ·injection z2 with z2
   rw [z2];exact z3
 ·obtain ⟨v',s',e1,e2,e3,e4,e5,e6,e7,e8⟩:=append_row (lo:=b) (bytes:=bytes) (⟨r.wide,.inr ⟨b,Nat.le_refl _,h2,h3,h4⟩⟩:Rows s.h b s.n w tg rows v) hp hw hsc hb htg hs (by omega)
  subst e8
  refine ⟨s',e1,⟨e2.wide,.inr ⟨by simp,by omega,by simp,?_⟩⟩,e3,fun c hc hcb=>e5 c hc (by rw [h3];intro z;injection z with z;exact hcb z.symm),fun k hk _ hm=>e6 k hk hm,e7⟩
  rcases e2.is with ⟨z,_⟩ | ⟨b',_,_,z2,z3⟩
  ·simp at z
  ·injection z2 with z2
   rw [z2];exact z3
theorem kSlice_def (f:Option AV→Option AV→St→AV→ARes) (x:Arg) (lo hi:Option Arg) (L:Env) (s:St):kSlice f x lo hi L s=f (optEv lo L) (optEv hi L) s (x.ev L):=rfl
theorem optEv_some (a:Arg) (L:Env):optEv (some a) L=some (a.ev L):=rfl
theorem optEv_none (L:Env):optEv none L=none:=rfl
theorem boundA_nat (y i:Nat) (k:IntKind) (h:i≤y):boundA y (.int k (i:Int))=some i:=by
 show (match Nat.ble i y with | true=>some i | false=>none)=_
 rw [Nat.ble_eq_true_of_le h]
theorem slice_to (w:Nat) (s:St) (b o n c i:Nat) (e:Bool) (h:n≤c) (hi:i≤c) (hc:0<c):sliceVal w none (some (.int .i64 (i:Int))) s (.slice b o n c e)=.val (.slice b o i c e) s:=by
 have e1:boundsA n c none (some (.int .i64 (i:Int)))=some (0,i):=by
  unfold boundsA hiA loA
  simp only [boundA_nat _ _ _ hi]
 have e2:Nat.beq c 0=false:=nbeq_f (by omega)
 unfold sliceVal
 simp only [Nat.ble_eq_true_of_le h,e1,e2,Nat.zero_mul,Nat.add_zero,Nat.sub_zero]
theorem nth_skip:∀ (a l:List AV) (k:Nat),nth (a++l) (a.length+k)=nth l k
 | [],l,k=>by rw [List.length_nil,Nat.zero_add,List.nil_append]
 | x::a,l,k=>by rw [List.length_cons,List.cons_append,show a.length+1+k=(a.length+k)+1 by omega,nth_cons,if_neg (by omega)];exact nth_skip a l k
end Go.Abs
namespace Go.Proofs.Ytamlnddeiokbdaa.walk
open Go.Abs
def intRows (l:List Int):List (List AV):=l.map fun x=>[.int .i64 x]
theorem intRows_len (l:List Int):(intRows l).length=l.length:=List.length_map ..
def LAt (h:Heap) (n bl:Nat) (l:List Int) (v:AV):Prop:=∃ x,x≠bl∧IsAt h n x 1 (tag 3) (intRows l) v
theorem LAt.nil (h:Heap) (n bl:Nat):LAt h n bl [] .nilslice:=⟨bl+1,by omega,IsAt.nil _ _ _ _ _⟩
theorem LAt.move {h h':Heap} {n n' bl bl':Nat} {l:List Int} {v:AV} (a:LAt h n bl l v) (hh:∀ c,c<n→c≠bl→h'.get c=h.get c) (hn:n≤n') (hb:bl'=bl∨n≤bl'):LAt h' n' bl' l v:=by
 obtain ⟨x,h1,h2⟩:=a
 rcases h2.is with ⟨h3,h4⟩ | ⟨_,h3,_⟩
 ·exact ⟨bl'+1,by omega,h2.wide,.inl ⟨h3,h4⟩⟩
 ·exact ⟨x,by omega,h2.mono (fun _=>hh x h3 h1) hn⟩
theorem LAt.rows {h:Heap} {n bl:Nat} {l:List Int} {v:AV} (a:LAt h n bl l v):RowsAt h n 1 (intRows l) v:=by obtain ⟨x,_,h⟩:=a;exact h.rows.at_
end Go.Proofs.Ytamlnddeiokbdaa.walk
