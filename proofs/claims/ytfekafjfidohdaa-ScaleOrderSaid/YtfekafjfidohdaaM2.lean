/- Differences of numbers that are known as spans: what follows from claims, and that nothing more does. -/
import Derived.Test.YtfekafjfidohdaaM1
import Derived.Test.YtfekafjfidohdaaCodes
import Derived.Test.YtfekafjfidohdaaWalkAll
set_option linter.unusedSimpArgs false
set_option maxHeartbeats 16000000
set_option linter.unusedVariables false
namespace Go.Proofs.Ytfekafjfidohdaa.walk
abbrev Gap:=Int × Int
def Gap.plus (g h:Gap):Gap:=(g.1+h.1,g.2+h.2)
def Gap.turned (g:Gap):Gap:=(-g.2, -g.1)
def Gap.meet (g h:Gap):Gap:=(max g.1 h.1,min g.2 h.2)
theorem plus1 (g h:Gap):(g.plus h).1=g.1+h.1:=rfl
theorem plus2 (g h:Gap):(g.plus h).2=g.2+h.2:=rfl
theorem turned1 (g:Gap):g.turned.1 = -g.2:=rfl
theorem turned2 (g:Gap):g.turned.2 = -g.1:=rfl
theorem meet1 (g h:Gap):(g.meet h).1=max g.1 h.1:=rfl
theorem meet2 (g h:Gap):(g.meet h).2=min g.2 h.2:=rfl
structure Claim where
 (a b:Nat)
 gap:Gap
structure Closed (n:Nat) (E:Nat→Nat→Gap):Prop where
 zero:∀ i,i<n→E i i=(0,0)
 anti:∀ i j,i<n→j<n→(E j i).1 = -(E i j).2
 tri:∀ i j k,i<n→j<n→k<n→(E i j).2≤(E i k).2+(E k j).2
theorem Closed.anti' {n:Nat} {E:Nat→Nat→Gap} (c:Closed n E) {i j:Nat} (hi:i<n) (hj:j<n):(E j i).2 = -(E i j).1:=by
 have:=c.anti j i hj hi
 omega
theorem Closed.some_ {n:Nat} {E:Nat→Nat→Gap} (c:Closed n E) {i j:Nat} (hi:i<n) (hj:j<n):(E i j).1≤(E i j).2:=by
 have h1:=c.tri i i j hi hi hj
 have h2:=c.anti' hi hj
 rw [c.zero i hi] at h1
 simp only at h1
 omega
def Bnd (n:Nat) (B:Int) (E:Nat→Nat→Gap):Prop:=∀ i j,i<n→j<n → -B≤(E i j).1∧(E i j).2≤B
def LeE (n:Nat) (F E:Nat→Nat→Gap):Prop:=∀ i j,i<n→j<n→(E i j).1≤(F i j).1∧(F i j).2≤(E i j).2
theorem LeE.refl (n:Nat) (E:Nat→Nat→Gap):LeE n E E:=fun _ _ _ _=>⟨Int.le_refl _,Int.le_refl _⟩
theorem LeE.trans {n:Nat} {E F G:Nat→Nat→Gap} (a:LeE n E F) (b:LeE n F G):LeE n E G:=fun i j hi hj=>⟨Int.le_trans (b i j hi hj).1 (a i j hi hj).1,Int.le_trans (a i j hi hj).2 (b i j hi hj).2⟩
theorem LeE.of2 {n:Nat} {E F:Nat→Nat→Gap} (cE:Closed n E) (cF:Closed n F) (h:∀ i j,i<n→j<n→(F i j).2≤(E i j).2):LeE n F E:=fun i j hi hj=>by
 have:=h j i hj hi
 rw [cE.anti' hi hj,cF.anti' hi hj] at this
 exact ⟨by omega,h i j hi hj⟩
def Says (c:Claim) (E:Nat→Nat→Gap):Prop:=c.gap.1≤(E c.a c.b).1∧(E c.a c.b).2≤c.gap.2
theorem Says.mono {n:Nat} {c:Claim} {E F:Nat→Nat→Gap} (h:Says c E) (l:LeE n F E) (ha:c.a<n) (hb:c.b<n):Says c F:=⟨Int.le_trans h.1 (l _ _ ha hb).1,Int.le_trans (l _ _ ha hb).2 h.2⟩
def withE (E:Nat→Nat→Gap) (c:Claim) (i j:Nat):Gap :=
 ((E i j).meet (((E i c.a).plus ((E c.a c.b).meet c.gap)).plus (E c.b j))).meet (((E i c.b).plus ((E c.a c.b).meet c.gap).turned).plus (E c.a j))
def refutesE (E:Nat→Nat→Gap) (c:Claim):Prop:=((E c.a c.b).meet c.gap).1 > ((E c.a c.b).meet c.gap).2
theorem withE_1 (E:Nat→Nat→Gap) (c:Claim) (i j:Nat):(withE E c i j).1=max (max (E i j).1 ((E i c.a).1+max (E c.a c.b).1 c.gap.1+(E c.b j).1)) ((E i c.b).1 + -(min (E c.a c.b).2 c.gap.2)+(E c.a j).1):=rfl
theorem withE_2 (E:Nat→Nat→Gap) (c:Claim) (i j:Nat):(withE E c i j).2=min (min (E i j).2 ((E i c.a).2+min (E c.a c.b).2 c.gap.2+(E c.b j).2)) ((E i c.b).2 + -(max (E c.a c.b).1 c.gap.1)+(E c.a j).2):=rfl
theorem withE_le (n:Nat) (E:Nat→Nat→Gap) (c:Claim):LeE n (withE E c) E:=fun i j _ _=>by
 rw [withE_1,withE_2]
 omega
theorem tri_mins (ij ia bj ib aj ik ka bk kb ak kj g1 g2 ab ba:Int) (h1:ij≤ik+kj) (h2:ia≤ik+ka) (h3:ib≤ik+kb) (h4:bj≤bk+kj) (h5:aj≤ak+kj) (h6:ba≤bk+ka) (h7:ab≤ak+kb) (h8:0≤bk+kb) (h9:0≤ak+ka)
  (h10:ij≤ia+aj) (h11:ij≤ib+bj) (g:g1≤g2) (ha:g2≤ab) (hb : -g1≤ba) :
  min (min ij (ia+g2+bj)) (ib + -g1+aj)≤min (min ik (ia+g2+bk)) (ib + -g1+ak)+min (min kj (ka+g2+bj)) (kb + -g1+aj):=by
 omega
theorem withE_closed {n:Nat} {E:Nat→Nat→Gap} {c:Claim} (cl:Closed n E) (ha:c.a<n) (hb:c.b<n) (hr:¬ refutesE E c):Closed n (withE E c):=by
 unfold refutesE at hr
 rw [meet1,meet2] at hr
 have z:=cl.anti' ha hb
 refine ⟨fun i hi=>?_,fun i j hi hj=>?_,fun i j k hi hj hk=>?_⟩
 ·have t:=cl.tri c.b c.a i hb ha hi
  have t2:=cl.tri c.a c.b i ha hb hi
  have a1:=cl.anti' ha hi
  have a2:=cl.anti' hb hi
  have a3:=cl.anti c.a i ha hi
  have a4:=cl.anti c.b i hb hi
  have e1:(withE E c i i).1=0:=by rw [withE_1,cl.zero i hi];simp only;omega
  have e2:(withE E c i i).2=0:=by rw [withE_2,cl.zero i hi];simp only;omega
  exact Prod.ext e1 e2
 ·have a0:=cl.anti i j hi hj
  have a1:=cl.anti i c.a hi ha
  have a2:=cl.anti i c.b hi hb
  have a3:=cl.anti c.a j ha hj
  have a4:=cl.anti c.b j hb hj
  rw [withE_1,withE_2]
  omega
 ·rw [withE_2,withE_2,withE_2]
  have z1:=cl.zero c.a ha
  have z2:=cl.zero c.b hb
  have t8:=cl.tri c.b c.b k hb hb hk
  have t9:=cl.tri c.a c.a k ha ha hk
  rw [z2] at t8
  rw [z1] at t9
  exact tri_mins _ _ _ _ _ _ _ _ _ _ _ (max (E c.a c.b).1 c.gap.1) (min (E c.a c.b).2 c.gap.2) (E c.a c.b).2 (E c.b c.a).2 (cl.tri i j k hi hj hk) (cl.tri i c.a k hi ha hk) (cl.tri i c.b k hi hb hk) (cl.tri c.b j k hb hj hk) (cl.tri c.a j k ha hj hk) (cl.tri c.b c.a k hb ha hk) (cl.tri c.a c.b k ha hb hk) t8 t9 (cl.tri i j c.a hi hj ha) (cl.tri i j c.b hi hj hb) (by omega) (by omega) (by omega)
theorem withE_says {n:Nat} {E:Nat→Nat→Gap} {c:Claim} (cl:Closed n E) (ha:c.a<n) (hb:c.b<n):Says c (withE E c):=by
 have z1:=cl.zero c.a ha
 have z2:=cl.zero c.b hb
 unfold Says
 rw [withE_1,withE_2,z1,z2]
 simp only
 omega
theorem Bnd.le {n:Nat} {B:Int} {E F:Nat→Nat→Gap} (b:Bnd n B E) (l:LeE n F E):Bnd n B F:=fun i j hi hj=>by
 have:=b i j hi hj
 have:=l i j hi hj
 omega
theorem withE_most {n:Nat} {E F:Nat→Nat→Gap} {c:Claim} (cE:Closed n E) (cF:Closed n F) (l:LeE n F E) (s:Says c F) (ha:c.a<n) (hb:c.b<n):¬ refutesE E c∧LeE n F (withE E c):=by
 have k:=l _ _ ha hb
 have o:=cF.some_ ha hb
 unfold Says at s
 have hr:¬ refutesE E c:=by
  unfold refutesE
  rw [meet1,meet2]
  omega
 refine ⟨hr,LeE.of2 (withE_closed cE ha hb hr) cF fun i j hi hj=>?_⟩
 rw [withE_2]
 have t0:=(l i j hi hj).2
 have t1:=(l i c.a hi ha).2
 have t2:=(l c.b j hb hj).2
 have t3:=(l i c.b hi hb).2
 have t4:=(l c.a j ha hj).2
 have t5:=cF.tri i j c.a hi hj ha
 have t6:=cF.tri c.a j c.b ha hj hb
 have t7:=cF.tri i j c.b hi hj hb
 have t8:=cF.tri c.b j c.a hb hj ha
 have z:=cF.anti' ha hb
 omega
def moreE (n:Nat) (E:Nat→Nat→Gap) (b:Nat) (g:Gap) (i j:Nat):Gap :=
 if i<n then (if j<n then E i j else (g.plus (E b i)).turned) else if j<n then g.plus (E b j) else (0,0)
theorem moreE_closed {n:Nat} {E:Nat→Nat→Gap} {b:Nat} {g:Gap} (cl:Closed n E) (hb:b<n) (hg:g.1≤g.2):Closed (n+1) (moreE n E b g):=by
 refine ⟨fun i hi=>?_,fun i j hi hj=>?_,fun i j k hi hj hk=>?_⟩
 ·unfold moreE
  split
  ·exact cl.zero i ‹_›
  ·rfl
 ·unfold moreE
  by_cases h1:i<n<;>by_cases h2:j<n<;>simp only [h1,h2,if_true,if_false,plus1,plus2,turned1,turned2]
  ·exact cl.anti i j h1 h2
  ·omega
  ·rfl
 ·unfold moreE
  by_cases h1:i<n<;>by_cases h2:j<n<;>by_cases h3:k<n<;>simp only [h1,h2,h3,if_true,if_false,plus1,plus2,turned1,turned2]
  ·exact cl.tri i j k h1 h2 h3
  ·have:=cl.tri i j b h1 h2 hb
   have:=cl.anti' hb h1
   omega
  ·have:=cl.anti' hb h1
   have:=cl.anti' hb h3
   have:=cl.tri i b k h1 hb h3
   omega
  ·omega
  ·have:=cl.tri b j k hb h2 h3
   omega
  ·omega
  ·have:=cl.anti' hb h3
   have:=cl.tri b b k hb hb h3
   rw [cl.zero b hb] at this
   simp only at this
   omega
  ·omega
theorem moreE_old {n:Nat} {E:Nat→Nat→Gap} {b:Nat} {g:Gap} {i j:Nat} (hi:i<n) (hj:j<n):moreE n E b g i j=E i j:=by unfold moreE;rw [if_pos hi,if_pos hj]
theorem moreE_says {n:Nat} {E:Nat→Nat→Gap} {b:Nat} {g:Gap} (cl:Closed n E) (hb:b<n):moreE n E b g n b=g:=by
 unfold moreE
 rw [if_neg (Nat.lt_irrefl n),if_pos hb,cl.zero b hb]
 exact Prod.ext (Int.add_zero _) (Int.add_zero _)
theorem moreE_bnd {n:Nat} {E:Nat→Nat→Gap} {b:Nat} {g:Gap} {B k:Int} (h:Bnd n B E) (hb:b<n) (hg : -k≤g.1∧g.2≤k) (h0:0≤B∧0≤k):Bnd (n+1) (B+k) (moreE n E b g):=fun i j hi hj=>by
 unfold moreE
 by_cases h1:i<n<;>by_cases h2:j<n<;>simp only [h1,h2,if_true,if_false,plus1,plus2,turned1,turned2]
 ·have:=h i j h1 h2
  omega
 ·have:=h b i hb h1
  omega
 ·have:=h b j hb h2
  omega
 ·omega
theorem moreE_most {n:Nat} {E F:Nat→Nat→Gap} {b:Nat} {g:Gap} (cE:Closed n E) (cF:Closed (n+1) F) (l:LeE n F E) (s:Says ⟨n,b,g⟩ F) (hb:b<n) (hg:g.1≤g.2):LeE (n+1) F (moreE n E b g):=by
 refine LeE.of2 (moreE_closed cE hb hg) cF fun i j hi hj=>?_
 unfold Says at s
 simp only at s
 unfold moreE
 by_cases h1:i<n<;>by_cases h2:j<n<;>simp only [h1,h2,if_true,if_false,plus1,plus2,turned1,turned2]
 ·exact (l i j h1 h2).2
 ·obtain rfl:j=n:=by omega
  have:=cF.tri i j b hi hj (by omega)
  have:=(l b i hb h1).1
  have:=cF.anti' (i:=b) (j:=i) (by omega) hi
  have:=cF.anti' (i:=j) (j:=b) hj (by omega)
  omega
 ·obtain rfl:i=n:=by omega
  have:=cF.tri i j b hi hj (by omega)
  have:=(l b j hb h2).2
  omega
 ·obtain rfl:i=n:=by omega
  obtain rfl:j=i:=by omega
  rw [cF.zero j hi]
  exact Int.le_refl _
end Go.Proofs.Ytfekafjfidohdaa.walk
set_option maxRecDepth 10000
namespace Go.Abs
theorem aMul_i64 (s:St) (a b:Int) (h : -9223372036854775808≤a * b∧a * b≤9223372036854775807):aMul s .i64 a b=.val (.int .i64 (a * b)) s:=by
 rw [aMul_def,show Int.mul a b=a * b from rfl,wrap_in _ h]
theorem neg_i64 (s:St) (a:Int) (h : -9223372036854775807≤a∧a≤9223372036854775807):negA s (.int .i64 a)=.val (.int .i64 (-a)) s:=by
 show ARes.val (.int .i64 (wrapA .i64 (0 - a))) s=_
 rw [wrap_in _ (by omega),Int.zero_sub]
end Go.Abs
namespace Go.Proofs.Ytfekafjfidohdaa.walk
open Go.Abs Go.Proofs.Ytfekafjfidohdaa.code
theorem put_m_le0 {s:St} {b k:Nat} {o:AObj} (h:k≤s.m) (hb:k≤b):k≤(s.put b o).m:=by
 show k≤minN s.m b
 rw [minN_eq]
 omega
abbrev Small (x:Int):Prop := -1000000000000000000≤x∧x≤1000000000000000000
theorem gapOf_ok (N:Nat) (hN:1≤N) (a b:Int) (s:St) (hs:s.n+100≤far):call Try.prog X N (.fn 66) [.agg [.int .i64 a,.int .i64 b]] s=.val (.agg [.int .i64 a,.int .i64 b]) s:=by
 obtain ⟨n,rfl⟩:∃ n,N=n+1:=⟨N - 1,by omega⟩
 refine call_plain' Try.func66 (fun u uh un um=>?_) rfl
 have hf:far=1000000000:=rfl
 rw [enter66]
 simp (disch:=first|omega|(with_unfolding_all exact rfl)|(simp only[new_n,put_n,new_m];omega)|(refine put_m_le ?_;simp only[new_m];omega)) only [res66,K66r0,K66r1,K66,Abs.W,reduceIte,Nat.reduceEqDiff,Nat.reduceAdd,decide_true,decide_false,kLoop_def,Nat.reduceSub,List.cons_append,List.nil_append,List.append_nil,List.length_cons,List.length_nil,Nat.zero_add]
 refine ⟨_,leave_cell _ _ _ _ (sh:=some 2) (by kernel_rfl) ?_,?_⟩
 ·simp (disch:=first|omega|(with_unfolding_all exact rfl)|(simp only[new_n,put_n,new_m];omega)|(refine put_m_le ?_;simp only[new_m];omega)) only [Abs.W,reduceIte,Nat.reduceEqDiff,Nat.reduceAdd,decide_true,decide_false,kLoop_def,Nat.reduceSub,List.cons_append,List.nil_append,List.append_nil,List.length_cons,List.length_nil]
 ·refine put_m_le0 ?_ ?_<;>simp only [new_m,new_n]<;>omega
theorem gapSpan_ok (N:Nat) (hN:1≤N) (a b:Int) (s:St) (hs:s.n+100≤far):call Try.prog X N (.fn 30) [.agg [.int .i64 a,.int .i64 b]] s=.val (.agg [.int .i64 a,.int .i64 b]) s:=by
 obtain ⟨n,rfl⟩:∃ n,N=n+1:=⟨N - 1,by omega⟩
 refine call_plain' Try.func30 (fun u uh un um=>?_) rfl
 have hf:far=1000000000:=rfl
 rw [enter30]
 simp (disch:=first|omega|(with_unfolding_all exact rfl)|(simp only[new_n,put_n,new_m];omega)|(refine put_m_le ?_;simp only[new_m];omega)) only [res30,K30r0,K30r1,K30,Abs.W,reduceIte,Nat.reduceEqDiff,Nat.reduceAdd,decide_true,decide_false,kLoop_def,Nat.reduceSub,List.cons_append,List.nil_append,List.append_nil,List.length_cons,List.length_nil,Nat.zero_add,ixa2_0,ixa2_1]
 refine ⟨_,leave_cell _ _ _ _ (sh:=some 2) (by kernel_rfl) ?_,?_⟩
 ·simp (disch:=first|omega|(with_unfolding_all exact rfl)|(simp only[new_n,put_n,new_m];omega)|(refine put_m_le ?_;simp only[new_m];omega)) only [Abs.W,reduceIte,Nat.reduceEqDiff,Nat.reduceAdd,decide_true,decide_false,kLoop_def,Nat.reduceSub,List.cons_append,List.nil_append,List.append_nil,List.length_cons,List.length_nil]
 ·refine put_m_le0 ?_ ?_<;>simp only [new_m,new_n]<;>omega
theorem plus_ok (N:Nat) (hN:1≤N) (a b c d:Int) (s:St) (ha:Small a) (hb:Small b) (hc:Small c) (hd:Small d) (hs:s.n+100≤far):call Try.prog X N (.fn 63) [.agg [.int .i64 a,.int .i64 b],.agg [.int .i64 c,.int .i64 d]] s=.val (.agg [.int .i64 (a+c),.int .i64 (b+d)]) s:=by
 obtain ⟨n,rfl⟩:∃ n,N=n+1:=⟨N - 1,by omega⟩
 refine call_plain' Try.func63 (fun u uh un um=>?_) rfl
 have hf:far=1000000000:=rfl
 have a1:∀ s,aAdd s .i64 a c=.val (.int .i64 (a+c)) s:=fun s=>aAdd_i64 s _ _ (by omega)
 have a2:∀ s,aAdd s .i64 b d=.val (.int .i64 (b+d)) s:=fun s=>aAdd_i64 s _ _ (by omega)
 rw [enter63]
 simp (disch:=first|omega|(with_unfolding_all exact rfl)|(simp only[new_n,put_n,new_m];omega)|(refine put_m_le ?_;simp only[new_m];omega)) only [res63,K63r0,K63r1,K63,Abs.W,reduceIte,Nat.reduceEqDiff,Nat.reduceAdd,decide_true,decide_false,kLoop_def,Nat.reduceSub,List.cons_append,List.nil_append,List.append_nil,List.length_cons,List.length_nil,Nat.zero_add,ixa2_0,ixa2_1,a1,a2]
 refine ⟨_,leave_cell _ _ _ _ (sh:=some 2) (by kernel_rfl) ?_,?_⟩
 ·simp (disch:=first|omega|(with_unfolding_all exact rfl)|(simp only[new_n,put_n,new_m];omega)|(refine put_m_le ?_;simp only[new_m];omega)) only [Abs.W,reduceIte,Nat.reduceEqDiff,Nat.reduceAdd,decide_true,decide_false,kLoop_def,Nat.reduceSub,List.cons_append,List.nil_append,List.append_nil,List.length_cons,List.length_nil]
 ·refine put_m_le0 ?_ ?_<;>simp only [new_m,new_n]<;>omega
theorem turned_ok (N:Nat) (hN:1≤N) (a b:Int) (s:St) (ha:Small a) (hb:Small b) (hs:s.n+100≤far):call Try.prog X N (.fn 64) [.agg [.int .i64 a,.int .i64 b]] s=.val (.agg [.int .i64 (-b),.int .i64 (-a)]) s:=by
 obtain ⟨n,rfl⟩:∃ n,N=n+1:=⟨N - 1,by omega⟩
 refine call_plain' Try.func64 (fun u uh un um=>?_) rfl
 have hf:far=1000000000:=rfl
 have a1:∀ s,negA s (.int .i64 a)=.val (.int .i64 (-a)) s:=fun s=>neg_i64 s _ (by omega)
 have a2:∀ s,negA s (.int .i64 b)=.val (.int .i64 (-b)) s:=fun s=>neg_i64 s _ (by omega)
 rw [enter64]
 simp (disch:=first|omega|(with_unfolding_all exact rfl)|(simp only[new_n,put_n,new_m];omega)|(refine put_m_le ?_;simp only[new_m];omega)) only [res64,K64r0,K64r1,K64,Abs.W,reduceIte,Nat.reduceEqDiff,Nat.reduceAdd,decide_true,decide_false,kLoop_def,Nat.reduceSub,List.cons_append,List.nil_append,List.append_nil,List.length_cons,List.length_nil,Nat.zero_add,ixa2_0,ixa2_1,a1,a2]
 refine ⟨_,leave_cell _ _ _ _ (sh:=some 2) (by kernel_rfl) ?_,?_⟩
 ·simp (disch:=first|omega|(with_unfolding_all exact rfl)|(simp only[new_n,put_n,new_m];omega)|(refine put_m_le ?_;simp only[new_m];omega)) only [Abs.W,reduceIte,Nat.reduceEqDiff,Nat.reduceAdd,decide_true,decide_false,kLoop_def,Nat.reduceSub,List.cons_append,List.nil_append,List.append_nil,List.length_cons,List.length_nil]
 ·refine put_m_le0 ?_ ?_<;>simp only [new_m,new_n]<;>omega
theorem meet_ok (N:Nat) (hN:1≤N) (a b c d:Int) (s:St) (hs:s.n+100≤far):call Try.prog X N (.fn 67) [.agg [.int .i64 a,.int .i64 b],.agg [.int .i64 c,.int .i64 d]] s=.val (.agg [.int .i64 (max a c),.int .i64 (min b d)]) s:=by
 obtain ⟨n,rfl⟩:∃ n,N=n+1:=⟨N - 1,by omega⟩
 refine call_plain' Try.func67 (fun u uh un um=>?_) rfl
 have hf:far=1000000000:=rfl
 rw [enter67]
 simp (disch:=first|omega|(with_unfolding_all exact rfl)|(simp only[new_n,put_n,new_m];omega)|(refine put_m_le ?_;simp only[new_m];omega)) only [res67,K67r0,K67r1,K67,Abs.W,reduceIte,Nat.reduceEqDiff,Nat.reduceAdd,decide_true,decide_false,kLoop_def,Nat.reduceSub,List.cons_append,List.nil_append,List.append_nil,List.length_cons,List.length_nil,Nat.zero_add,ixa2_0,ixa2_1,kFold_def,foldA_nil,foldA_cons,maxA_i64,minA_i64]
 refine ⟨_,leave_cell _ _ _ _ (sh:=some 2) (by kernel_rfl) ?_,?_⟩
 ·simp (disch:=first|omega|(with_unfolding_all exact rfl)|(simp only[new_n,put_n,new_m];omega)|(refine put_m_le ?_;simp only[new_m];omega)) only [Abs.W,reduceIte,Nat.reduceEqDiff,Nat.reduceAdd,decide_true,decide_false,kLoop_def,Nat.reduceSub,List.cons_append,List.nil_append,List.append_nil,List.length_cons,List.length_nil]
 ·refine put_m_le0 ?_ ?_<;>simp only [new_m,new_n]<;>omega
theorem massAt_ok (N:Nat) (hN:1≤N) (a:Int) (s:St) (ha:Small a) (hs:s.n+100≤far):call Try.prog X N (.fn 29) [.int .i64 a] s=.val (.int .i64 (1+a)) s:=by
 obtain ⟨n,rfl⟩:∃ n,N=n+1:=⟨N - 1,by omega⟩
 refine call_plain' Try.func29 (fun u uh un um=>?_) rfl
 have hf:far=1000000000:=rfl
 have a1:∀ s,aAdd s .i64 1 a=.val (.int .i64 (1+a)) s:=fun s=>aAdd_i64 s _ _ (by omega)
 rw [enter29]
 simp (disch:=first|omega|(with_unfolding_all exact rfl)|(simp only[new_n,put_n,new_m];omega)|(refine put_m_le ?_;simp only[new_m];omega)) only [res29,K29r0,K29r1,K29,Abs.W,reduceIte,Nat.reduceEqDiff,Nat.reduceAdd,decide_true,decide_false,kLoop_def,Nat.reduceSub,List.cons_append,List.nil_append,List.append_nil,List.length_cons,List.length_nil,Nat.zero_add,a1]
 exact ⟨_,rfl,by omega⟩
theorem errorAt_ok (N:Nat) (hN:1≤N) (k days a d:Nat) (v1 v2 v3 v4:AV) (l1:∀ s,lenSlA s v1=.val (.int .i64 k) s) (n1:v1≠.bad) (s:St) (hk:k≤1000) (hdays:days≤1000) (ha:a≤1000) (hd:d≤1000) (hs:s.n+100≤far):call Try.prog X N (.fn 33) [.agg [v1,v2,v3,v4,.int .i64 days],.int .i64 a,.int .i64 d] s=.val (.int .i64 ((1+k+a * (days+1)+d:Nat):Int)) s:=by
 obtain ⟨n,rfl⟩:∃ n,N=n+1:=⟨N - 1,by omega⟩
 refine call_plain' Try.func33 (fun u uh un um=>?_) rfl
 have hf:far=1000000000:=rfl
 have k1:∀ t,okA (.val v1 t)=.val v1 t:=fun t=>okA_ne n1
 have hm:a * (days+1)≤1000 * 1001:=Nat.mul_le_mul ha (by omega)
 have a1:∀ s,aAdd s .i64 1 (k:Int)=.val (.int .i64 (1+(k:Int))) s:=fun s=>aAdd_i64 s _ _ (by omega)
 have a2:∀ s,aAdd s .i64 (days:Int) 1=.val (.int .i64 ((days:Int)+1)) s:=fun s=>aAdd_i64 s _ _ (by omega)
 have a3:∀ s,aMul s .i64 (a:Int) ((days:Int)+1)=.val (.int .i64 ((a * (days+1):Nat):Int)) s:=fun s=>by
  have e:(a:Int) * ((days:Int)+1)=((a * (days+1):Nat):Int):=by rw [Int.natCast_mul];rfl
  rw [aMul_i64 s _ _ (by rw [e];omega),e]
 have a4:∀ s,aAdd s .i64 (1+(k:Int)) ((a * (days+1):Nat):Int)=.val (.int .i64 ((1+k+a * (days+1):Nat):Int)) s:=fun s=>by
  rw [aAdd_i64 s _ _ (by omega)];congr 2
 have a5:∀ s,aAdd s .i64 ((1+k+a * (days+1):Nat):Int) (d:Int)=.val (.int .i64 ((1+k+a * (days+1)+d:Nat):Int)) s:=fun s=>by
  rw [aAdd_i64 s _ _ (by omega)];congr 2
 rw [enter33]
 simp (disch:=first|omega|(with_unfolding_all exact rfl)|(simp only[new_n,put_n,new_m];omega)|(refine put_m_le ?_;simp only[new_m];omega)) only [res33,K33r0,K33r1,K33,Abs.W,reduceIte,Nat.reduceEqDiff,Nat.reduceAdd,decide_true,decide_false,kLoop_def,Nat.reduceSub,List.cons_append,List.nil_append,List.append_nil,List.length_cons,List.length_nil,k1,l1,a1,a2,a3,a4,a5,Nat.zero_add]
 exact ⟨_,rfl,by simp only [new_m];omega⟩
end Go.Proofs.Ytfekafjfidohdaa.walk
set_option maxRecDepth 10000
namespace Go.Proofs.Ytfekafjfidohdaa.walk
open Go.Abs Go.Proofs.Ytfekafjfidohdaa.code
structure Mass where
 (nom lo hi:Int)
def Mass.cells (m:Mass):List AV:=[.int .i64 m.nom,.int .i64 m.lo,.int .i64 m.hi]
structure Mass.Ok (m:Mass):Prop where
 n0:1≤m.nom
 n1:m.nom≤1000000
 o0 : -10000≤m.lo
 o1:m.lo≤m.hi
 o2:m.hi≤10000
structure Weigh where
 (a b lo hi:Int)
def Weigh.cells (w:Weigh):List AV:=[.int .i64 w.a,.int .i64 w.b,.int .i64 w.lo,.int .i64 w.hi]
structure Weigh.Ok (k:Nat) (w:Weigh):Prop where
 a0:0≤w.a
 a1:w.a<k
 b0:0≤w.b
 b1:w.b<k
 ab:w.a≠w.b
 d0 : -20000≤w.lo
 d1:w.lo≤w.hi
 d2:w.hi≤20000
structure Scl where
 (fl fh dl dh:Int)
def Scl.cells (s:Scl):List AV:=[.int .i64 s.fl,.int .i64 s.fh,.int .i64 s.dl,.int .i64 s.dh]
structure Scl.Ok (s:Scl):Prop where
 f0 : -10000≤s.fl
 f1:s.fl≤s.fh
 f2:s.fh≤10000
 d0 : -10000≤s.dl
 d1:s.dl≤s.dh
 d2:s.dh≤10000
structure Trial where
 (scale day mass shown:Int)
def Trial.cells (t:Trial):List AV:=[.int .i64 t.scale,.int .i64 t.day,.int .i64 t.mass,.int .i64 t.shown]
structure Trial.Ok (k m days:Nat) (t:Trial):Prop where
 s0:0≤t.scale
 s1:t.scale<k
 m0:0≤t.mass
 m1:t.mass<m
 d0:0≤t.day
 d1:t.day≤days
 x0:0≤t.shown
 x1:t.shown≤2000000
structure Bench where
 ms:List Mass
 ws:List Weigh
 ss:List Scl
 ts:List Trial
 days:Nat
structure Bench.Ok (b:Bench):Prop where
 m0:1≤b.ms.length
 m1:b.ms.length≤5
 mok:∀ m ∈ b.ms,m.Ok
 w1:b.ws.length≤6
 wok:∀ w ∈ b.ws,w.Ok b.ms.length
 s0:1≤b.ss.length
 s1:b.ss.length≤3
 sok:∀ s ∈ b.ss,s.Ok
 d1:b.days≤8
 t1:b.ts.length≤6
 tok:∀ t ∈ b.ts,t.Ok b.ss.length b.ms.length b.days
structure BenchAt (h:Heap) (n:Nat) (b:Bench) (v1 v2 v3 v4:AV):Prop where
 m:RowsAt h n 3 (b.ms.map Mass.cells) v1
 w:RowsAt h n 4 (b.ws.map Weigh.cells) v2
 s:RowsAt h n 4 (b.ss.map Scl.cells) v3
 t:RowsAt h n 4 (b.ts.map Trial.cells) v4
theorem BenchAt.grow {h h':Heap} {n n':Nat} {b:Bench} {v1 v2 v3 v4:AV} (a:BenchAt h n b v1 v2 v3 v4) (hh:∀ b,b<n→h'.get b=h.get b) (hn:n≤n'):BenchAt h' n' b v1 v2 v3 v4:=⟨a.m.grow hh hn,a.w.grow hh hn,a.s.grow hh hn,a.t.grow hh hn⟩
abbrev benchV (v1 v2 v3 v4:AV) (days:Nat):List AV:=[v1,v2,v3,v4,.int .i64 days]
theorem ckSpan_ok (N:Nat) (hN:3≤N) (x y b:Int) (s:St) (hb:0≤b∧b≤1000000) (h0 : -b≤x) (h1:x≤y) (h2:y≤b) (hs:s.n+200≤far) :
  call Try.prog X N (.fn 60) [.agg [.int .i64 x,.int .i64 y],.int .i64 b] s=.val (.int .i64 0) s:=by
 obtain ⟨n,rfl⟩:∃ n,N=n+1:=⟨N - 1,by omega⟩
 refine call_plain' Try.func60 (fun u uh un um=>?_) rfl
 have hf:far=1000000000:=rfl
 have a1:∀ s,negA s (.int .i64 b)=.val (.int .i64 (-b)) s:=fun s=>neg_i64 s _ (by omega)
 rw [enter60]
 simp (disch:=first|omega|(with_unfolding_all exact rfl)|(simp only[new_n,put_n,new_m];omega)|(refine put_m_le ?_;simp only[new_m];omega)) only [res60,K60r0,K60r1,K60,Abs.W,reduceIte,Nat.reduceEqDiff,Nat.reduceAdd,decide_true,decide_false,kLoop_def,Nat.reduceSub,List.cons_append,List.nil_append,List.append_nil,List.length_cons,List.length_nil,span_ok,a1,um,Nat.zero_add]
 exact ⟨_,rfl,by simp only [new_m];omega⟩
theorem masses_ok (N:Nat) (hN:5≤N) (b:Bench) (ok:b.Ok) (v1 v2 v3 v4:AV) (s:St) (hB:BenchAt s.h s.n b v1 v2 v3 v4) (hs:s.n+3000≤far) :
  call Try.prog X N (.fn 46) [.agg (benchV v1 v2 v3 v4 b.days)] s=.val (.int .i64 0) s:=by
 obtain ⟨n,rfl⟩:∃ n,N=n+1:=⟨N - 1,by omega⟩
 refine call_plain' Try.func46 (fun u uh un um=>?_) rfl
 have hff:far=1000000000:=rfl
 rw [← uh,← un] at hB
 have k1:∀ t,okA (.val v1 t)=.val v1 t:=fun t=>okA_ne hB.m.ne
 have l1:=hB.m.len
 rw [List.length_map] at l1
 obtain ⟨w,hw⟩:∃ w:St,w=u.new (.cells (benchV v1 v2 v3 v4 b.days) (tag 30)):=⟨_,rfl⟩
 have wn:w.n=u.n+1:=by rw [hw];rfl
 have wm:w.m=far:=by rw [hw];exact um
 have wg:∀ c,c<u.n→w.h.get c=u.h.get c:=fun c hc=>by rw [hw,get_new_ne _ _ _ (by omega)]
 have w0:w.h.get u.n=some (.cells (benchV v1 v2 v3 v4 b.days) (tag 30)):=by rw [hw];exact get_new_eq _ _ _ rfl (by omega)
 have hR:=hB.m.grow wg (by omega:u.n≤w.n)
 have z0:decide ((0:Int)=0)=true:=rfl
 have c0:=ok.m0
 have c1:=ok.m1
 unfold benchV at w0 hw ⊢
 rw [enter46]
 simp (disch:=first|omega|(with_unfolding_all exact rfl)|(simp only[new_n,put_n,new_m];omega)|(refine put_m_le ?_;simp only[new_m];omega)) only [res46,K46,K46r0,Abs.W,reduceIte,Nat.reduceEqDiff,Nat.reduceAdd,decide_true,decide_false,kLoop_def,Nat.reduceSub,List.cons_append,List.nil_append,List.append_nil,List.length_cons,List.length_nil]
 rw [← hw]
 simp (disch:=first|omega|(with_unfolding_all exact rfl)|(simp only[new_n,put_n,new_m];omega)|(refine put_m_le ?_;simp only[new_m];omega)) only [K46r1,K46r2,K46r4,Abs.W,reduceIte,Nat.reduceEqDiff,Nat.reduceAdd,decide_true,decide_false,kLoop_def,Nat.reduceSub,List.cons_append,List.nil_append,List.append_nil,List.length_cons,List.length_nil,Env.find_set,w0,k1,l1,z0,counted_ok,Nat.zero_add]
 generalize hl1:loopN _ rounds _ _ _ _ _=q1
 obtain ⟨e,L1,s1,rfl,rfl,hE⟩:=loop_of hl1
  (fun i L' t=>L'.find 15=v1∧L'.find 16=.int .i64 b.ms.length∧L'.find 17=.int .i64 i∧Beside w t (10 * i))
  (fun e L1 s1=>e=.exit 0∧Beside w s1 (10 * b.ms.length))
  b.ms.length (by unfold rounds;omega) ⟨by simp only [find_cons,Env.find_set,reduceIte,Nat.reduceEqDiff],by simp only [find_cons,Env.find_set,reduceIte,Nat.reduceEqDiff],by simp only [find_cons,Env.find_set,reduceIte,Nat.reduceEqDiff];rfl,Beside.refl w (by omega) wm⟩
  (fun i L' t hi ⟨q15,q16,q17,hE⟩=>by
   have tn:=hE.n
   have tl:=hE.le
   have tm:=hE.m
   have tf:=hE.far
   by_cases hlt:i<b.ms.length
   ·have e0:decide ((i:Int)<(b.ms.length:Int))=true:=decide_eq_true (by omega)
    obtain ⟨p,o,cs,sz,r1,r2,r3,r4⟩:=(hR.grow hE.same tn).at_ i (by simpa using hlt)
    rw [List.getElem_map] at r4
    obtain ⟨n0,n1,o0,o1,o2⟩:=ok.mok _ (List.getElem_mem hlt)
    generalize b.ms[i]=M at *
    unfold Mass.cells at r4
    have a1:∀ s,aAdd s .i64 (i:Int) 1=.val (.int .i64 ((i:Int)+1)) s:=fun s=>aAdd_i64 s _ _ (by omega)
    refine .inl ⟨hlt,_,_,by
     simp (disch:=first|omega|(with_unfolding_all exact rfl)|(simp only[new_n,put_n,new_m];omega)|(refine put_m_le ?_;simp only[new_m];omega)) only [K46l0,K46r5,K46r6,K46r7,K46r8,K46r10,Abs.W,reduceIte,Nat.reduceEqDiff,Nat.reduceAdd,decide_true,decide_false,kLoop_def,Nat.reduceSub,List.cons_append,List.nil_append,List.append_nil,List.length_cons,List.length_nil,Env.find_set,q15,q16,q17,e0,r2,r3,r4,within_ok,ckSpan_ok,or_new2,z0,a1,endO_nil,regD_ok,Nat.zero_add]
     rfl,?_,?_,?_,(((hE.new _).put _ tn).new _).mono (by omega)⟩
    ·simp only [Env.find_set,q15,reduceIte,Nat.reduceEqDiff]
    ·simp only [Env.find_set,q16,reduceIte,Nat.reduceEqDiff]
    ·simp only [Env.find_set,reduceIte,Nat.reduceEqDiff];rfl
   ·obtain rfl:i=b.ms.length:=by omega
    have e0:decide ((b.ms.length:Int)<(b.ms.length:Int))=false:=by simp
    refine .inr ⟨.exit 0,L'.set 18 (.bool false),t,by simp,?_,rfl,hE⟩
    simp (disch:=first|omega|(with_unfolding_all exact rfl)|(simp only[new_n,put_n,new_m];omega)|(refine put_m_le ?_;simp only[new_m];omega)) only [K46l0,K46r5,Abs.W,reduceIte,Nat.reduceEqDiff,Nat.reduceAdd,decide_true,decide_false,kLoop_def,Nat.reduceSub,List.cons_append,List.nil_append,List.append_nil,List.length_cons,List.length_nil,Env.find_set,q16,q17,e0])
 simp (disch:=first|omega|(with_unfolding_all exact rfl)|(simp only[new_n,put_n,new_m];omega)|(refine put_m_le ?_;simp only[new_m];omega)) only [K46r11,res46,Abs.W,reduceIte,Nat.reduceEqDiff,Nat.reduceAdd,decide_true,decide_false,kLoop_def,Nat.reduceSub,List.cons_append,List.nil_append,List.append_nil,List.length_cons,List.length_nil,Env.find_set]
 refine ⟨s1,rfl,?_⟩
 have:=hE.m
 omega
end Go.Proofs.Ytfekafjfidohdaa.walk
set_option maxRecDepth 10000
namespace Go.Proofs.Ytfekafjfidohdaa.walk
open Go.Abs Go.Proofs.Ytfekafjfidohdaa.code
theorem weighings_ok (N:Nat) (hN:5≤N) (b:Bench) (ok:b.Ok) (v1 v2 v3 v4:AV) (s:St) (hB:BenchAt s.h s.n b v1 v2 v3 v4) (hs:s.n+3000≤far) :
  call Try.prog X N (.fn 47) [.agg (benchV v1 v2 v3 v4 b.days)] s=.val (.int .i64 0) s:=by
 obtain ⟨n,rfl⟩:∃ n,N=n+1:=⟨N - 1,by omega⟩
 refine call_plain' Try.func47 (fun u uh un um=>?_) rfl
 have hff:far=1000000000:=rfl
 rw [← uh,← un] at hB
 have k1:∀ t,okA (.val v1 t)=.val v1 t:=fun t=>okA_ne hB.m.ne
 have k2:∀ t,okA (.val v2 t)=.val v2 t:=fun t=>okA_ne hB.w.ne
 have l2:=hB.w.len
 rw [List.length_map] at l2
 have l1:=hB.m.len
 rw [List.length_map] at l1
 obtain ⟨w,hw⟩:∃ w:St,w=u.new (.cells (benchV v1 v2 v3 v4 b.days) (tag 30)):=⟨_,rfl⟩
 have wn:w.n=u.n+1:=by rw [hw];rfl
 have wm:w.m=far:=by rw [hw];exact um
 have wg:∀ c,c<u.n→w.h.get c=u.h.get c:=fun c hc=>by rw [hw,get_new_ne _ _ _ (by omega)]
 have w0:w.h.get u.n=some (.cells (benchV v1 v2 v3 v4 b.days) (tag 30)):=by rw [hw];exact get_new_eq _ _ _ rfl (by omega)
 have hR:=hB.w.grow wg (by omega:u.n≤w.n)
 have z0:decide ((0:Int)=0)=true:=rfl
 have c1:=ok.w1
 unfold benchV at w0 hw ⊢
 rw [enter47]
 simp (disch:=first|omega|(with_unfolding_all exact rfl)|(simp only[new_n,put_n,new_m];omega)|(refine put_m_le ?_;simp only[new_m];omega)) only [res47,K47,K47r0,Abs.W,reduceIte,Nat.reduceEqDiff,Nat.reduceAdd,decide_true,decide_false,kLoop_def,Nat.reduceSub,List.cons_append,List.nil_append,List.append_nil,List.length_cons,List.length_nil]
 rw [← hw]
 simp (disch:=first|omega|(with_unfolding_all exact rfl)|(simp only[new_n,put_n,new_m];omega)|(refine put_m_le ?_;simp only[new_m];omega)) only [K47r1,K47r2,K47r4,Abs.W,reduceIte,Nat.reduceEqDiff,Nat.reduceAdd,decide_true,decide_false,kLoop_def,Nat.reduceSub,List.cons_append,List.nil_append,List.append_nil,List.length_cons,List.length_nil,Env.find_set,w0,k2,l2,z0,counted_ok,Nat.zero_add]
 generalize hl1:loopN _ rounds _ _ _ _ _=q1
 obtain ⟨e,L1,s1,rfl,rfl,hE⟩:=loop_of hl1
  (fun i L' t=>L'.find 1=.ptr u.n 0∧L'.find 16=v2∧L'.find 17=.int .i64 b.ws.length∧L'.find 18=.int .i64 i∧Beside w t (10 * i))
  (fun e L1 s1=>e=.exit 0∧Beside w s1 (10 * b.ws.length))
  b.ws.length (by unfold rounds;omega) ⟨by simp only [find_cons,Env.find_set,reduceIte,Nat.reduceEqDiff],by simp only [find_cons,Env.find_set,reduceIte,Nat.reduceEqDiff],by simp only [find_cons,Env.find_set,reduceIte,Nat.reduceEqDiff],by simp only [find_cons,Env.find_set,reduceIte,Nat.reduceEqDiff];rfl,Beside.refl w (by omega) wm⟩
  (fun i L' t hi ⟨q1,q16,q17,q18,hE⟩=>by
   have tn:=hE.n
   have tl:=hE.le
   have tm:=hE.m
   have tf:=hE.far
   by_cases hlt:i<b.ws.length
   ·have e0:decide ((i:Int)<(b.ws.length:Int))=true:=decide_eq_true (by omega)
    obtain ⟨p,o,cs,sz,r1,r2,r3,r4⟩:=(hR.grow hE.same tn).at_ i (by simpa using hlt)
    rw [List.getElem_map] at r4
    obtain ⟨a0,a1,b0,b1,ab,o0,o1,o2⟩:=ok.wok _ (List.getElem_mem hlt)
    generalize b.ws[i]=M at *
    unfold Weigh.cells at r4
    have g1:=(hE.same u.n (by omega)).trans w0
    have nab:decide (M.a=M.b)=false:=decide_eq_false ab
    have ad:∀ s,aAdd s .i64 (i:Int) 1=.val (.int .i64 ((i:Int)+1)) s:=fun s=>aAdd_i64 s _ _ (by omega)
    refine .inl ⟨hlt,_,_,by
     simp (disch:=first|omega|(with_unfolding_all exact rfl)|(simp only[new_n,put_n,new_m];omega)|(refine put_m_le ?_;simp only[new_m];omega)) only [res47,K47r0,K47r1,K47r2,K47r3,K47r4,K47r5,K47r6,K47r7,K47r8,K47r9,K47r10,K47r11,K47r12,K47r13,K47r14,K47r15,K47l0,K47r16,K47,Abs.W,reduceIte,Nat.reduceEqDiff,Nat.reduceAdd,decide_true,decide_false,kLoop_def,Nat.reduceSub,List.cons_append,List.nil_append,List.append_nil,List.length_cons,List.length_nil,Env.find_set,q1,q16,q17,q18,e0,r2,r3,r4,g1,k1,l1,nab,named_ok,ckSpan_ok,or_new2,z0,ad,endO_nil,regD_ok,Nat.zero_add]
     rfl,?_,?_,?_,?_,(((hE.new _).put _ tn).new _).mono (by omega)⟩
    ·simp only [Env.find_set,q1,reduceIte,Nat.reduceEqDiff]
    ·simp only [Env.find_set,q16,reduceIte,Nat.reduceEqDiff]
    ·simp only [Env.find_set,q17,reduceIte,Nat.reduceEqDiff]
    ·simp only [Env.find_set,reduceIte,Nat.reduceEqDiff];rfl
   ·obtain rfl:i=b.ws.length:=by omega
    have e0:decide ((b.ws.length:Int)<(b.ws.length:Int))=false:=by simp
    refine .inr ⟨.exit 0,L'.set 19 (.bool false),t,by simp,?_,rfl,hE⟩
    simp (disch:=first|omega|(with_unfolding_all exact rfl)|(simp only[new_n,put_n,new_m];omega)|(refine put_m_le ?_;simp only[new_m];omega)) only [K47l0,K47r5,Abs.W,reduceIte,Nat.reduceEqDiff,Nat.reduceAdd,decide_true,decide_false,kLoop_def,Nat.reduceSub,List.cons_append,List.nil_append,List.append_nil,List.length_cons,List.length_nil,Env.find_set,q17,q18,e0])
 simp (disch:=first|omega|(with_unfolding_all exact rfl)|(simp only[new_n,put_n,new_m];omega)|(refine put_m_le ?_;simp only[new_m];omega)) only [K47r16,res47,Abs.W,reduceIte,Nat.reduceEqDiff,Nat.reduceAdd,decide_true,decide_false,kLoop_def,Nat.reduceSub,List.cons_append,List.nil_append,List.append_nil,List.length_cons,List.length_nil,Env.find_set]
 refine ⟨s1,rfl,?_⟩
 have:=hE.m
 omega
theorem scales_ok (N:Nat) (hN:5≤N) (b:Bench) (ok:b.Ok) (v1 v2 v3 v4:AV) (s:St) (hB:BenchAt s.h s.n b v1 v2 v3 v4) (hs:s.n+3000≤far) :
  call Try.prog X N (.fn 48) [.agg (benchV v1 v2 v3 v4 b.days)] s=.val (.int .i64 0) s:=by
 obtain ⟨n,rfl⟩:∃ n,N=n+1:=⟨N - 1,by omega⟩
 refine call_plain' Try.func48 (fun u uh un um=>?_) rfl
 have hff:far=1000000000:=rfl
 rw [← uh,← un] at hB
 have k1:∀ t,okA (.val v3 t)=.val v3 t:=fun t=>okA_ne hB.s.ne
 have l1:=hB.s.len
 rw [List.length_map] at l1
 obtain ⟨w,hw⟩:∃ w:St,w=u.new (.cells (benchV v1 v2 v3 v4 b.days) (tag 30)):=⟨_,rfl⟩
 have wn:w.n=u.n+1:=by rw [hw];rfl
 have wm:w.m=far:=by rw [hw];exact um
 have wg:∀ c,c<u.n→w.h.get c=u.h.get c:=fun c hc=>by rw [hw,get_new_ne _ _ _ (by omega)]
 have w0:w.h.get u.n=some (.cells (benchV v1 v2 v3 v4 b.days) (tag 30)):=by rw [hw];exact get_new_eq _ _ _ rfl (by omega)
 have hR:=hB.s.grow wg (by omega:u.n≤w.n)
 have z0:decide ((0:Int)=0)=true:=rfl
 have c0:=ok.s0
 have c1:=ok.s1
 unfold benchV at w0 hw ⊢
 rw [enter48]
 simp (disch:=first|omega|(with_unfolding_all exact rfl)|(simp only[new_n,put_n,new_m];omega)|(refine put_m_le ?_;simp only[new_m];omega)) only [res48,K48,K48r0,Abs.W,reduceIte,Nat.reduceEqDiff,Nat.reduceAdd,decide_true,decide_false,kLoop_def,Nat.reduceSub,List.cons_append,List.nil_append,List.append_nil,List.length_cons,List.length_nil]
 rw [← hw]
 simp (disch:=first|omega|(with_unfolding_all exact rfl)|(simp only[new_n,put_n,new_m];omega)|(refine put_m_le ?_;simp only[new_m];omega)) only [K48r1,K48r2,K48r4,Abs.W,reduceIte,Nat.reduceEqDiff,Nat.reduceAdd,decide_true,decide_false,kLoop_def,Nat.reduceSub,List.cons_append,List.nil_append,List.append_nil,List.length_cons,List.length_nil,Env.find_set,w0,k1,l1,z0,counted_ok,Nat.zero_add]
 generalize hl1:loopN _ rounds _ _ _ _ _=q1
 obtain ⟨e,L1,s1,rfl,rfl,hE⟩:=loop_of hl1
  (fun i L' t=>L'.find 15=v3∧L'.find 16=.int .i64 b.ss.length∧L'.find 17=.int .i64 i∧Beside w t (10 * i))
  (fun e L1 s1=>e=.exit 0∧Beside w s1 (10 * b.ss.length))
  b.ss.length (by unfold rounds;omega) ⟨by simp only [find_cons,Env.find_set,reduceIte,Nat.reduceEqDiff],by simp only [find_cons,Env.find_set,reduceIte,Nat.reduceEqDiff],by simp only [find_cons,Env.find_set,reduceIte,Nat.reduceEqDiff];rfl,Beside.refl w (by omega) wm⟩
  (fun i L' t hi ⟨q15,q16,q17,hE⟩=>by
   have tn:=hE.n
   have tl:=hE.le
   have tm:=hE.m
   have tf:=hE.far
   by_cases hlt:i<b.ss.length
   ·have e0:decide ((i:Int)<(b.ss.length:Int))=true:=decide_eq_true (by omega)
    obtain ⟨p,o,cs,sz,r1,r2,r3,r4⟩:=(hR.grow hE.same tn).at_ i (by simpa using hlt)
    rw [List.getElem_map] at r4
    obtain ⟨f0,f1,f2,o0,o1,o2⟩:=ok.sok _ (List.getElem_mem hlt)
    generalize b.ss[i]=M at *
    unfold Scl.cells at r4
    have a1:∀ s,aAdd s .i64 (i:Int) 1=.val (.int .i64 ((i:Int)+1)) s:=fun s=>aAdd_i64 s _ _ (by omega)
    refine .inl ⟨hlt,_,_,by
     simp (disch:=first|omega|(with_unfolding_all exact rfl)|(simp only[new_n,put_n,new_m];omega)|(refine put_m_le ?_;simp only[new_m];omega)) only [K48l0,K48r5,K48r6,K48r7,K48r8,K48r10,Abs.W,reduceIte,Nat.reduceEqDiff,Nat.reduceAdd,decide_true,decide_false,kLoop_def,Nat.reduceSub,List.cons_append,List.nil_append,List.append_nil,List.length_cons,List.length_nil,Env.find_set,q15,q16,q17,e0,r2,r3,r4,within_ok,ckSpan_ok,or_new2,z0,a1,endO_nil,regD_ok,Nat.zero_add]
     rfl,?_,?_,?_,(((hE.new _).put _ tn).new _).mono (by omega)⟩
    ·simp only [Env.find_set,q15,reduceIte,Nat.reduceEqDiff]
    ·simp only [Env.find_set,q16,reduceIte,Nat.reduceEqDiff]
    ·simp only [Env.find_set,reduceIte,Nat.reduceEqDiff];rfl
   ·obtain rfl:i=b.ss.length:=by omega
    have e0:decide ((b.ss.length:Int)<(b.ss.length:Int))=false:=by simp
    refine .inr ⟨.exit 0,L'.set 18 (.bool false),t,by simp,?_,rfl,hE⟩
    simp (disch:=first|omega|(with_unfolding_all exact rfl)|(simp only[new_n,put_n,new_m];omega)|(refine put_m_le ?_;simp only[new_m];omega)) only [K48l0,K48r5,Abs.W,reduceIte,Nat.reduceEqDiff,Nat.reduceAdd,decide_true,decide_false,kLoop_def,Nat.reduceSub,List.cons_append,List.nil_append,List.append_nil,List.length_cons,List.length_nil,Env.find_set,q16,q17,e0])
 simp (disch:=first|omega|(with_unfolding_all exact rfl)|(simp only[new_n,put_n,new_m];omega)|(refine put_m_le ?_;simp only[new_m];omega)) only [K48r11,res48,Abs.W,reduceIte,Nat.reduceEqDiff,Nat.reduceAdd,decide_true,decide_false,kLoop_def,Nat.reduceSub,List.cons_append,List.nil_append,List.append_nil,List.length_cons,List.length_nil,Env.find_set]
 refine ⟨s1,rfl,?_⟩
 have:=hE.m
 omega
theorem trials_ok (N:Nat) (hN:5≤N) (b:Bench) (ok:b.Ok) (v1 v2 v3 v4:AV) (s:St) (hB:BenchAt s.h s.n b v1 v2 v3 v4) (hs:s.n+3000≤far) :
  call Try.prog X N (.fn 49) [.agg (benchV v1 v2 v3 v4 b.days)] s=.val (.int .i64 0) s:=by
 obtain ⟨n,rfl⟩:∃ n,N=n+1:=⟨N - 1,by omega⟩
 refine call_plain' Try.func49 (fun u uh un um=>?_) rfl
 have hff:far=1000000000:=rfl
 rw [← uh,← un] at hB
 have k1:∀ t,okA (.val v1 t)=.val v1 t:=fun t=>okA_ne hB.m.ne
 have k3:∀ t,okA (.val v3 t)=.val v3 t:=fun t=>okA_ne hB.s.ne
 have k4:∀ t,okA (.val v4 t)=.val v4 t:=fun t=>okA_ne hB.t.ne
 have l3:=hB.s.len
 rw [List.length_map] at l3
 have l4:=hB.t.len
 rw [List.length_map] at l4
 have l1:=hB.m.len
 rw [List.length_map] at l1
 obtain ⟨w,hw⟩:∃ w:St,w=u.new (.cells (benchV v1 v2 v3 v4 b.days) (tag 30)):=⟨_,rfl⟩
 have wn:w.n=u.n+1:=by rw [hw];rfl
 have wm:w.m=far:=by rw [hw];exact um
 have wg:∀ c,c<u.n→w.h.get c=u.h.get c:=fun c hc=>by rw [hw,get_new_ne _ _ _ (by omega)]
 have w0:w.h.get u.n=some (.cells (benchV v1 v2 v3 v4 b.days) (tag 30)):=by rw [hw];exact get_new_eq _ _ _ rfl (by omega)
 have hR:=hB.t.grow wg (by omega:u.n≤w.n)
 have z0:decide ((0:Int)=0)=true:=rfl
 have c1:=ok.t1
 unfold benchV at w0 hw ⊢
 rw [enter49]
 simp (disch:=first|omega|(with_unfolding_all exact rfl)|(simp only[new_n,put_n,new_m];omega)|(refine put_m_le ?_;simp only[new_m];omega)) only [res49,K49,K49r0,Abs.W,reduceIte,Nat.reduceEqDiff,Nat.reduceAdd,decide_true,decide_false,kLoop_def,Nat.reduceSub,List.cons_append,List.nil_append,List.append_nil,List.length_cons,List.length_nil]
 rw [← hw]
 simp (disch:=first|omega|(with_unfolding_all exact rfl)|(simp only[new_n,put_n,new_m];omega)|(refine put_m_le ?_;simp only[new_m];omega)) only [K49r1,K49r2,K49r4,Abs.W,reduceIte,Nat.reduceEqDiff,Nat.reduceAdd,decide_true,decide_false,kLoop_def,Nat.reduceSub,List.cons_append,List.nil_append,List.append_nil,List.length_cons,List.length_nil,Env.find_set,w0,k4,l4,z0,counted_ok,Nat.zero_add]
 generalize hl1:loopN _ rounds _ _ _ _ _=q1
 obtain ⟨e,L1,s1,rfl,rfl,hE⟩:=loop_of hl1
  (fun i L' t=>L'.find 1=.ptr u.n 0∧L'.find 15=v4∧L'.find 16=.int .i64 b.ts.length∧L'.find 17=.int .i64 i∧Beside w t (10 * i))
  (fun e L1 s1=>e=.exit 0∧Beside w s1 (10 * b.ts.length))
  b.ts.length (by unfold rounds;omega) ⟨by simp only [find_cons,Env.find_set,reduceIte,Nat.reduceEqDiff],by simp only [find_cons,Env.find_set,reduceIte,Nat.reduceEqDiff],by simp only [find_cons,Env.find_set,reduceIte,Nat.reduceEqDiff],by simp only [find_cons,Env.find_set,reduceIte,Nat.reduceEqDiff];rfl,Beside.refl w (by omega) wm⟩
  (fun i L' t hi ⟨q1,q15,q16,q17,hE⟩=>by
   have tn:=hE.n
   have tl:=hE.le
   have tm:=hE.m
   have tf:=hE.far
   by_cases hlt:i<b.ts.length
   ·have e0:decide ((i:Int)<(b.ts.length:Int))=true:=decide_eq_true (by omega)
    obtain ⟨p,o,cs,sz,r1,r2,r3,r4⟩:=(hR.grow hE.same tn).at_ i (by simpa using hlt)
    rw [List.getElem_map] at r4
    obtain ⟨s0,s1,m0,m1,d0,d1,x0,x1⟩:=ok.tok _ (List.getElem_mem hlt)
    generalize b.ts[i]=M at *
    unfold Trial.cells at r4
    have g1:=(hE.same u.n (by omega)).trans w0
    have ad:∀ s,aAdd s .i64 (i:Int) 1=.val (.int .i64 ((i:Int)+1)) s:=fun s=>aAdd_i64 s _ _ (by omega)
    refine .inl ⟨hlt,_,_,by
     simp (disch:=first|omega|(with_unfolding_all exact rfl)|(simp only[new_n,put_n,new_m];omega)|(refine put_m_le ?_;simp only[new_m];omega)) only [K49l0,K49r5,K49r6,K49r7,K49r8,K49r10,Abs.W,reduceIte,Nat.reduceEqDiff,Nat.reduceAdd,decide_true,decide_false,kLoop_def,Nat.reduceSub,List.cons_append,List.nil_append,List.append_nil,List.length_cons,List.length_nil,Env.find_set,q1,q15,q16,q17,e0,r2,r3,r4,g1,k1,l1,k3,l3,within_ok,named_ok,or_new4,z0,ad,endO_nil,regD_ok,Nat.zero_add]
     rfl,?_,?_,?_,?_,(((hE.new _).put _ tn).new _).mono (by omega)⟩
    ·simp only [Env.find_set,q1,reduceIte,Nat.reduceEqDiff]
    ·simp only [Env.find_set,q15,reduceIte,Nat.reduceEqDiff]
    ·simp only [Env.find_set,q16,reduceIte,Nat.reduceEqDiff]
    ·simp only [Env.find_set,reduceIte,Nat.reduceEqDiff];rfl
   ·obtain rfl:i=b.ts.length:=by omega
    have e0:decide ((b.ts.length:Int)<(b.ts.length:Int))=false:=by simp
    refine .inr ⟨.exit 0,L'.set 18 (.bool false),t,by simp,?_,rfl,hE⟩
    simp (disch:=first|omega|(with_unfolding_all exact rfl)|(simp only[new_n,put_n,new_m];omega)|(refine put_m_le ?_;simp only[new_m];omega)) only [K49l0,K49r5,Abs.W,reduceIte,Nat.reduceEqDiff,Nat.reduceAdd,decide_true,decide_false,kLoop_def,Nat.reduceSub,List.cons_append,List.nil_append,List.append_nil,List.length_cons,List.length_nil,Env.find_set,q16,q17,e0])
 simp (disch:=first|omega|(with_unfolding_all exact rfl)|(simp only[new_n,put_n,new_m];omega)|(refine put_m_le ?_;simp only[new_m];omega)) only [K49r11,res49,Abs.W,reduceIte,Nat.reduceEqDiff,Nat.reduceAdd,decide_true,decide_false,kLoop_def,Nat.reduceSub,List.cons_append,List.nil_append,List.append_nil,List.length_cons,List.length_nil,Env.find_set]
 refine ⟨s1,rfl,?_⟩
 have:=hE.m
 omega
theorem ckBench_ok (N:Nat) (hN:6≤N) (b:Bench) (ok:b.Ok) (v1 v2 v3 v4:AV) (s:St) (hB:BenchAt s.h s.n b v1 v2 v3 v4) (hs:s.n+4000≤far) :
  call Try.prog X N (.fn 27) [.agg (benchV v1 v2 v3 v4 b.days)] s=.val (.int .i64 0) s:=by
 obtain ⟨n,rfl⟩:∃ n,N=n+1:=⟨N - 1,by omega⟩
 refine call_plain' Try.func27 (fun u uh un um=>?_) rfl
 have hff:far=1000000000:=rfl
 rw [← uh,← un] at hB
 obtain ⟨w,hw⟩:∃ w:St,w=u.new (.cells (benchV v1 v2 v3 v4 b.days) (tag 30)):=⟨_,rfl⟩
 have wn:w.n=u.n+1:=by rw [hw];rfl
 have wm:w.m=far:=by rw [hw];exact um
 have wg:∀ c,c<u.n→w.h.get c=u.h.get c:=fun c hc=>by rw [hw,get_new_ne _ _ _ (by omega)]
 have w0:w.h.get u.n=some (.cells (benchV v1 v2 v3 v4 b.days) (tag 30)):=by rw [hw];exact get_new_eq _ _ _ rfl (by omega)
 have hBw:∀ m,BenchAt (⟨w.h,w.n,m⟩:St).h (⟨w.h,w.n,m⟩:St).n b v1 v2 v3 v4:=fun m=>hB.grow wg (by show u.n≤w.n;omega)
 have e1:=fun m=>masses_ok n (by omega) b ok v1 v2 v3 v4 ⟨w.h,w.n,m⟩ (hBw m) (by show w.n+3000≤far;omega)
 have e2:=fun m=>weighings_ok n (by omega) b ok v1 v2 v3 v4 ⟨w.h,w.n,m⟩ (hBw m) (by show w.n+3000≤far;omega)
 have e3:=fun m=>scales_ok n (by omega) b ok v1 v2 v3 v4 ⟨w.h,w.n,m⟩ (hBw m) (by show w.n+3000≤far;omega)
 have e4:=fun m=>trials_ok n (by omega) b ok v1 v2 v3 v4 ⟨w.h,w.n,m⟩ (hBw m) (by show w.n+3000≤far;omega)
 have d1:=ok.d1
 have hwn:w.n≤far:=by omega
 have hwm:w.m≤far:=by omega
 unfold benchV at w0 hw e1 e2 e3 e4 ⊢
 rw [enter27]
 simp (disch:=first|omega|(with_unfolding_all exact rfl)|(simp only[new_n,put_n,new_m];omega)|(refine put_m_le ?_;simp only[new_m];omega)) only [res27,K27,K27r0,Abs.W,reduceIte,Nat.reduceEqDiff,Nat.reduceAdd,decide_true,decide_false,kLoop_def,Nat.reduceSub,List.cons_append,List.nil_append,List.append_nil,List.length_cons,List.length_nil]
 rw [← hw]
 simp (disch:=first|omega|(with_unfolding_all exact rfl)|(simp only[new_n,put_n,new_m];omega)|(refine put_m_le ?_;simp only[new_m];omega)) only [K27r1,Abs.W,reduceIte,Nat.reduceEqDiff,Nat.reduceAdd,decide_true,decide_false,kLoop_def,Nat.reduceSub,List.cons_append,List.nil_append,List.append_nil,List.length_cons,List.length_nil,Env.find_set,w0,e1,e2,e3,e4,thenT_same _ _ _ _ _ _ _ hwn hwm,within_ok,or_new5,endO_nil,regD_ok,Nat.zero_add]
 exact ⟨_,rfl,by simp only [new_m];omega⟩
end Go.Proofs.Ytfekafjfidohdaa.walk
namespace Go.Abs
variable {P:Program}
theorem over_skip:∀ (a l vs:List AV) (o:Nat),over (a.length+o) vs (a++l)=(over o vs l).map (a++·)
 | [],l,vs,o=>by
  rw [List.length_nil,Nat.zero_add,List.nil_append]
  cases over o vs l<;>rfl
 | x::a,l,vs,o=>by
  rw [List.length_cons,List.cons_append,show a.length+1+o=(a.length+o)+1 by omega,over_cons,if_neg (by omega),show a.length+o+1 - 1=a.length+o by omega,over_skip a l vs o]
  cases over o vs l<;>rfl
theorem over_head:∀ (vs r l:List AV),vs.length=r.length→over 0 vs (r++l)=some (vs++l):=by
 have h1:∀ (vs r l:List AV),vs.length=r.length→over1 vs (r++l)=some (vs++l):=by
  intro vs
  induction vs with
  | nil=>intro r l h;cases r with
   | nil=>exact over1_nil _
   | cons _ _=>simp at h
  | cons v vs ih=>intro r l h;cases r with
   | nil=>simp at h
   | cons a r=>rw [List.cons_append,over1_cons,ih r l (by simpa using h)];rfl
 intro vs r l h
 have:over 0 vs (r++l)=over1 vs (r++l):=by
  cases hq:r++l with
  | nil=>rfl
  | cons a c=>rw [over_cons,if_pos rfl]
 rw [this,h1 vs r l h]
theorem over_flatten {rows:List (List AV)} {w j:Nat} {row:List AV} (hw:∀ r ∈ rows,r.length=w) (hj:j<rows.length) (hr:row.length=w):over (j * w) row rows.flatten=some (rows.set j row).flatten:=by
 have e:rows=rows.take j++rows[j]::rows.drop (j+1):=by rw [List.getElem_cons_drop];exact (List.take_append_drop j rows).symm
 have l1:(rows.take j).flatten.length=j * w:=by
  rw [flatten_len (w:=w) (fun r hr=>hw r (List.mem_of_mem_take hr)),List.length_take,Nat.min_eq_left (by omega)]
 rw [List.set_eq_take_append_cons_drop,if_pos hj]
 conv=>lhs;rw [e]
 rw [List.flatten_append,List.flatten_cons,List.flatten_append,List.flatten_cons]
 have:=over_skip (rows.take j).flatten (rows[j]++(rows.drop (j+1)).flatten) row 0
 rw [Nat.add_zero,l1] at this
 rw [this,over_head row rows[j] _ (by rw [hr,hw _ (List.getElem_mem hj)])]
 rfl
theorem zeros_flatten (z:List AV):∀ n,zerosA z n=(List.replicate n z).flatten
 | 0=>rfl
 | n+1=>by
  show z++zerosA z n=_
  rw [zeros_flatten z n,List.replicate_succ,List.flatten_cons]
theorem make_rows (z:List AV) (bytes n:Nat) (s:St) (h1:n * bytes≤1000000) (h2:n≤1000000):makeA z bytes s (.int .i64 (n:Int)) (.int .i64 (n:Int))=.val (.slice s.n 0 n n false) (s.new (.cells (List.replicate n z).flatten 0)):=by
 show (match Nat.ble n n with | false=>ARes.fail | true=>match Nat.ble (n * bytes) limit with | false=>.fail | true=>match Nat.ble n limit with | false=>.fail | true=>.val (.slice s.n 0 n n false) (s.new (.cells (zerosA z n) 0)))=_
 rw [Nat.ble_eq_true_of_le (Nat.le_refl n),Nat.ble_eq_true_of_le (by unfold limit;omega:n * bytes≤limit),Nat.ble_eq_true_of_le (by unfold limit;omega:n≤limit),zeros_flatten]
theorem kMake_def (z:List AV) (bytes:Nat) (l c:Arg) (L:Env) (s:St):kMake z bytes l c L s=makeA z bytes s (l.ev L) (c.ev L):=Eq.trans (Eq.refl _) (Eq.refl _)
def fillRows (n:Nat) (z:List AV) (l:List (List AV)):List (List AV):=l++List.replicate (n - l.length) z
theorem fillRows_nil (n:Nat) (z:List AV):fillRows n z []=List.replicate n z:=by unfold fillRows;rw [List.nil_append,List.length_nil,Nat.sub_zero]
theorem fillRows_len {n:Nat} {z:List AV} {l:List (List AV)} (h:l.length≤n):(fillRows n z l).length=n:=by unfold fillRows;rw [List.length_append,List.length_replicate];omega
theorem fillRows_full {n:Nat} {z:List AV} {l:List (List AV)} (h:l.length=n):fillRows n z l=l:=by unfold fillRows;rw [h,Nat.sub_self,List.replicate_zero,List.append_nil]
theorem fillRows_wide {n w:Nat} {z:List AV} {l:List (List AV)} (hz:z.length=w) (hl:∀ r ∈ l,r.length=w):∀ r ∈ fillRows n z l,r.length=w:=by
 intro r hr
 rcases List.mem_append.mp hr with h | h
 ·exact hl r h
 ·rw [List.eq_of_mem_replicate h];exact hz
theorem fillRows_over {n w:Nat} {z row:List AV} {l:List (List AV)} (hz:z.length=w) (hl:∀ r ∈ l,r.length=w) (hr:row.length=w) (h:l.length<n):over (l.length * w) row (fillRows n z l).flatten=some (fillRows n z (l++[row])).flatten:=by
 rw [over_flatten (fillRows_wide hz hl) (by rw [fillRows_len (by omega)];exact h) hr]
 congr 2
 unfold fillRows
 obtain ⟨k,hk⟩:∃ k,n - l.length=k+1:=⟨n - l.length - 1,by omega⟩
 rw [List.set_append_right _ _ (Nat.le_refl _),Nat.sub_self,hk,List.replicate_succ,List.set_cons_zero,List.append_assoc,List.length_append,List.length_singleton,show n - (l.length+1)=k by omega]
 rfl
theorem fillRows_cut {n w:Nat} {z:List AV} {l:List (List AV)} (hz:z.length=w) (hl:∀ r ∈ l,r.length=w) {i:Nat} (hi:i<l.length):cut (i * w) w (fillRows n z l).flatten=some l[i]:=by
 have:=flatten_cut (fillRows_wide (n:=n) hz hl) (i:=i) (by unfold fillRows;rw [List.length_append];omega)
 rw [this]
 congr 1
 unfold fillRows
 exact List.getElem_append_left hi
theorem cut1_nth:∀ {p:Nat} {c:List AV} {v:AV},cut p 1 c=some [v]→nth c p=v
 | p,[],v,h=>by cases p<;>cases h
 | 0,a::c,v,h=>by
  rw [cut_zero,cut1_cons,cut1_zero] at h
  cases h
  rfl
 | p+1,a::c,v,h=>by
  rw [cut_cons,if_neg (by omega),Nat.add_sub_cancel] at h
  rw [nth_cons,if_neg (by omega),Nat.add_sub_cancel]
  exact cut1_nth h
theorem leave_nil {P:Program} (L:Env) (s:St):leaveA P [] L [] s=.val (.tup []) s:=rfl
theorem call_round {X:FuncId→List Nat} {n l:Nat} {args:List AV} {s s1 s2:St} {r r1 r2:ALoop} {a b:K} {L L2:Env} {d d2:List Nat} {e:Ex} (hl:s.h.get l=some (.loop r)) (hr:args.length=r.params.length)
  (ha:codeK P r.xs r.nt r.assign=some a) (hb:codeK P r.xs r.nt r.body=some b) (h1:a (call P X n) ⟨r.fn,some l,r.nt,r.xs⟩ (setParams r.tmps r.params args) [] s=.done .norm L d s1)
  (h2:s1.h.get l=some (.loop r1)) (h3:r1.state=.ready) (h4:b (call P X n) ⟨r.fn,some l,r.nt,r.xs⟩ L [] (s1.put l (.loop { r1 with state:=.busy }))=.done e L2 d2 s2) (h5:s2.h.get l=some (.loop r2)) :
  call P X (n+1) (.yield l) args s=.val (.bool (goesOn e)) (s2.put l (.loop { r2 with state:=if goesOn e then .ready else .done,pending:=jumpOf e })):=by
 have e1:loopAt s l=some r:=by unfold loopAt;rw [hl]
 have e2:loopAt s1 l=some r1:=by unfold loopAt;rw [h2]
 have e3:loopAt s2 l=some r2:=by unfold loopAt;rw [h5]
 show callStep P X (call P X n) (.yield l) args s=_
 unfold callStep
 simp only [e1]
 unfold roundA
 rw [if_neg (by simp [hr])]
 simp only [ha,hb,h1,e2,h3,h4]
 unfold endRoundA
 simp only [e3]
theorem range_eq {f:Arg} {ps:List Tmp} {a b:Code} {cl:CallF} {c:Ctx} {L:Env} {d:List Nat} {s s2:St} {v:AV} {r:ALoop} (hc:c.rnd=none)
  (h:callV cl [.yield (s.n+1)] ((s.new .dfr).new (.loop ⟨.ready,none,c.fn,L,ps,a,b,s.n,c.nt,c.xs⟩)) (f.ev L)=.val v s2) (hr:s2.h.get (s.n+1)=some (.loop r)) (hb:r.state≠.busy) :
  kRange f ps a b cl c L d s=jumpA L (s.n::d) (s2.put (s.n+1) (.loop { r with state:=.exhausted })) r.pending:=by
 have e1:enterLoopA c L d ps a b s=some (s.n::d,(s.new .dfr).new (.loop ⟨.ready,none,c.fn,L,ps,a,b,s.n,c.nt,c.xs⟩)):=by unfold enterLoopA;rw [hc]
 have e2:Nat.sub ((s.new .dfr).new (.loop ⟨.ready,none,c.fn,L,ps,a,b,s.n,c.nt,c.xs⟩)).n 1=s.n+1:=rfl
 have e3:loopAt s2 (s.n+1)=some r:=by unfold loopAt;rw [hr]
 unfold kRange
 simp only [e1]
 rw [e2,h]
 simp only
 rw [e3]
 cases hst:r.state with
 | busy=>exact absurd hst hb
 | _=>simp only [hst]
theorem setParams1 (L:Env) (t:Tmp) (a:AV):setParams L [t] [a]=L.set t a:=rfl
theorem leave_dfr (P:Program) (rs:List ResultVar) (x:Nat) (L:Env) (s:St) (h:s.h.get x=some .dfr):leaveA P rs L [x] s=leaveA P rs L [] (s.kill x):=by
 unfold leaveA
 have:takeDfs s [x]=some (s.kill x):=by
  show (match s.h.get x with | some .dfr=>takeDfs (s.kill x) [] | _=>none)=_
  rw [h];rfl
 rw [this]
 rfl
theorem okA_func (f:FuncId) (x y:List AV) (s:St):okA (.val (.func f x y) s)=.val (.func f x y) s:=Eq.trans (Eq.refl _) (Eq.refl _)
theorem get_kill_ne (s:St) (b c:Nat) (h:b≠c):(s.kill c).h.get b=s.h.get b:=by rw [St.kill_h,heap_set_ne _ _ _ _ h]
theorem range_to_end {f:Arg} {ps:List Tmp} {a b:Code} {cl:CallF} {c:Ctx} {L:Env} {s s2:St} {v:AV} {r:ALoop} (hc:c.rnd=none)
  (h:callV cl [.yield (s.n+1)] ((s.new .dfr).new (.loop ⟨.ready,none,c.fn,L,ps,a,b,s.n,c.nt,c.xs⟩)) (f.ev L)=.val v s2) (hr:s2.h.get (s.n+1)=some (.loop r)) (hb:r.state=.ready) (hp:r.pending=none) :
  kRange f ps a b cl c L [] s=.done .norm L [s.n] (s2.put (s.n+1) (.loop { r with state:=.exhausted })):=by
 rw [range_eq hc h hr (by rw [hb];simp),hp]
 rfl
structure Turn (d:Nat) (u t:St) (k:Nat):Prop where
 same:∀ b,b<u.n→b≠d→t.h.get b=u.h.get b
 n:u.n≤t.n
 le:t.n≤u.n+k
end Go.Abs
set_option maxRecDepth 10000
namespace Go.Proofs.Ytfekafjfidohdaa.walk
open Go.Abs Go.Proofs.Ytfekafjfidohdaa.code
def gapRow (l:List Gap):List (List AV):=l.map fun g=>[.int .i64 g.1,.int .i64 g.2]
theorem gapRow_len (l:List Gap):(gapRow l).length=l.length:=List.length_map ..
theorem gapRow_at (l:List Gap) (i:Nat) (h:i<(gapRow l).length) (h':i<l.length):(gapRow l)[i]=[.int .i64 l[i].1,.int .i64 l[i].2]:=by simp [gapRow]
structure GTab (h:Heap) (n:Nat) (T:List (List Gap)) (v:AV):Prop where
 ok:∀ t,okA (.val v t)=.val v t
 sc:v.scalar=true
 len:∀ s,lenSlA s v=.val (.int .i64 T.length) s
 at_:∀ i (hi:i<T.length),∃ b p c sz vr,b<n∧(∀ s,ixsA 1 s v (.int .i64 i)=.val (.ptr b p) s)∧h.get b=some (.cells c sz)∧nth c p=vr∧(∀ t,okA (.val vr t)=.val vr t)∧RowsAt h n 2 (gapRow T[i]) vr
theorem GTab.grow {h h':Heap} {n n':Nat} {T:List (List Gap)} {v:AV} (r:GTab h n T v) (hh:∀ b,b<n→h'.get b=h.get b) (hn:n≤n'):GTab h' n' T v :=
 ⟨r.ok,r.sc,r.len,fun i hi=>by
  obtain ⟨b,p,c,sz,vr,h1,h2,h3,h4,h5,h6⟩:=r.at_ i hi
  exact ⟨b,p,c,sz,vr,by omega,h2,by rw [hh b h1];exact h3,h4,h5,h6.grow hh hn⟩⟩
def GTabF (h:Heap) (lo n:Nat) (T:List (List Gap)) (v:AV):Prop:=∀ h':Heap,(∀ x,lo≤x→x<n→h'.get x=h.get x)→GTab h' n T v
theorem GTabF.tab {h:Heap} {lo n:Nat} {T:List (List Gap)} {v:AV} (g:GTabF h lo n T v):GTab h n T v:=g h fun _ _ _=>rfl
theorem GTabF.mono {h h':Heap} {lo n n':Nat} {T:List (List Gap)} {v:AV} (g:GTabF h lo n T v) (hh:∀ x,lo≤x→x<n→h'.get x=h.get x) (hn:n≤n'):GTabF h' lo n' T v:=fun k hk=>(g k fun x h1 h2=>(hk x h1 (by omega)).trans (hh x h1 h2)).grow (fun _ _=>rfl) hn
theorem GTabF.mono' {h h':Heap} {lo lo' n n':Nat} {T:List (List Gap)} {v:AV} (g:GTabF h lo n T v) (hh:∀ x,lo≤x→x<n→h'.get x=h.get x) (hl:lo'≤lo) (hn:n≤n'):GTabF h' lo' n' T v:=fun k hk=>(g k fun x h1 h2=>(hk x (by omega) (by omega)).trans (hh x h1 h2)).grow (fun _ _=>rfl) hn
def Square (n:Nat) (T:List (List Gap)):Prop:=T.length=n∧∀ r ∈ T,r.length=n
def ent (T:List (List Gap)) (i j:Nat):Gap:=(T.getD i []).getD j (0,0)
theorem ent_at {n:Nat} {T:List (List Gap)} (q:Square n T) {i j:Nat} (hi:i<n) (hj:j<n) (h1:i<T.length) (h2:j<T[i].length):T[i][j]=ent T i j:=by
 simp [ent,List.getD,h1,h2]
theorem GTab.row {h:Heap} {m n:Nat} {T:List (List Gap)} {v:AV} (g:GTab h m T v) (q:Square n T) {i:Nat} (hi:i<n) :
  ∃ b p c sz vr,b<m∧(∀ s,ixsA 1 s v (.int .i64 i)=.val (.ptr b p) s)∧h.get b=some (.cells c sz)∧nth c p=vr∧(∀ t,okA (.val vr t)=.val vr t)∧vr≠.bad∧(∀ s,lenSlA s vr=.val (.int .i64 n) s) ∧
   ∀ j,j<n→∃ b p c sz,b<m∧(∀ s,ixsA 2 s vr (.int .i64 j)=.val (.ptr b p) s)∧h.get b=some (.cells c sz)∧cut p 2 c=some [.int .i64 (ent T i j).1,.int .i64 (ent T i j).2]:=by
 have hi':i<T.length:=by rw [q.1];exact hi
 obtain ⟨b,p,c,sz,vr,h1,h2,h3,h4,h5,h6⟩:=g.at_ i hi'
 have hl:T[i].length=n:=q.2 _ (List.getElem_mem hi')
 have l1:=h6.len
 rw [gapRow_len,hl] at l1
 refine ⟨b,p,c,sz,vr,h1,h2,h3,h4,h5,h6.ne,l1,fun j hj=>?_⟩
 have hj':j<T[i].length:=by omega
 obtain ⟨b,p,c,sz,k1,k2,k3,k4⟩:=h6.at_ j (by rw [gapRow_len];exact hj')
 rw [gapRow_at _ _ _ hj',ent_at q hi hj hi' hj'] at k4
 exact ⟨b,p,c,sz,k1,k2,k3,k4⟩
abbrev claimV (c:Claim):AV:=.agg [.int .i64 c.a,.int .i64 c.b,.int .i64 c.gap.1,.int .i64 c.gap.2]
theorem refutes_ok (N:Nat) (hN:2≤N) (T:List (List Gap)) (n0:Nat) (v:AV) (c:Claim) (s:St) (hT:GTab s.h s.n T v) (q:Square n0 T) (ha:c.a<n0) (hb:c.b<n0) (hs:s.n+300≤far) :
  call Try.prog X N (.fn 52) [v,claimV c] s=.val (.bool (decide (((ent T c.a c.b).meet c.gap).2<((ent T c.a c.b).meet c.gap).1))) s:=by
 obtain ⟨n,rfl⟩:∃ n,N=n+1:=⟨N - 1,by omega⟩
 refine call_plain' Try.func52 (fun u uh un um=>?_) rfl
 have hf:far=1000000000:=rfl
 rw [← uh,← un] at hT
 obtain ⟨b1,p1,c1,z1,vr,d1,d2,d3,d4,d5,d6,_,d7⟩:=hT.row q ha
 obtain ⟨b2,p2,c2,z2,e1,e2,e3,e4⟩:=d7 _ hb
 have hok:=hT.ok
 rw [enter52]
 simp (disch:=first|omega|(with_unfolding_all exact rfl)|(simp only[new_n,put_n,new_m];omega)|(refine put_m_le ?_;simp only[new_m];omega)) only [res52,K52r0,K52r1,K52r2,K52,Abs.W,reduceIte,Nat.reduceEqDiff,Nat.reduceAdd,decide_true,decide_false,kLoop_def,Nat.reduceSub,List.cons_append,List.nil_append,List.append_nil,List.length_cons,List.length_nil,Nat.zero_add,Env.find_set,hok,d2,d3,d4,d5,e2,e3,e4,meet_ok,ixa2_0,ixa2_1]
 refine ⟨_,rfl,?_⟩
 refine put_m_le0 ?_ ?_<;>simp only [new_m,new_n]<;>omega
end Go.Proofs.Ytfekafjfidohdaa.walk
set_option maxRecDepth 10000
namespace Go.Proofs.Ytfekafjfidohdaa.walk
open Go.Abs Go.Proofs.Ytfekafjfidohdaa.code
def withRow (n:Nat) (T:List (List Gap)) (c:Claim) (i:Nat):List Gap:=(List.range n).map fun j=>withE (ent T) c i j
def withT (n:Nat) (T:List (List Gap)) (c:Claim):List (List Gap):=(List.range n).map fun i=>withRow n T c i
theorem withRow_len (n:Nat) (T:List (List Gap)) (c:Claim) (i:Nat):(withRow n T c i).length=n:=by unfold withRow;rw [List.length_map,List.length_range]
theorem withT_square (n:Nat) (T:List (List Gap)) (c:Claim):Square n (withT n T c):=⟨by unfold withT;rw [List.length_map,List.length_range],fun r hr=>by
 unfold withT at hr
 obtain ⟨i,_,rfl⟩:=List.mem_map.mp hr
 exact withRow_len n T c i⟩
theorem withT_ent {n:Nat} (T:List (List Gap)) (c:Claim) {i j:Nat} (hi:i<n) (hj:j<n):ent (withT n T c) i j=withE (ent T) c i j:=by
 simp [ent,withT,withRow,List.getD,hi,hj]
def SmallT (n:Nat) (T:List (List Gap)):Prop:=∀ i j,i<n→j<n → -100000000≤(ent T i j).1∧(ent T i j).1≤100000000 ∧ -100000000≤(ent T i j).2∧(ent T i j).2≤100000000
abbrev zgap:List AV:=[.int .i64 0,.int .i64 0]
theorem gapRow_wide (l:List Gap):∀ r ∈ gapRow l,r.length=2:=by
 intro r hr
 unfold gapRow at hr
 obtain ⟨g,_,rfl⟩:=List.mem_map.mp hr
 rfl
theorem gapRow_snoc (l:List Gap) (g:Gap):gapRow (l++[g])=gapRow l++[[.int .i64 g.1,.int .i64 g.2]]:=by unfold gapRow;rw [List.map_append];rfl
theorem range_snoc {α:Type} (n:Nat) (f:Nat→α):(List.range (n+1)).map f=(List.range n).map f++[f n]:=by rw [List.range_succ,List.map_append];rfl
structure InRow (u w t:St) (R n0 j k:Nat) (T:List (List Gap)) (c:Claim) (i:Nat) (L:Env) (v vr:AV):Prop where
 l0:L.find 0=v
 l3:L.find 3=.ptr u.n 0
 l5:L.find 5=.ptr (u.n+1) 0
 l6:L.find 6=.slice (u.n+2) 0 n0 n0 false
 l7:L.find 7=.int .i64 i
 l9:L.find 9=.ptr (R+1) 0
 l10:L.find 10=.ptr (R+2) 0
 l28:L.find 28=v
 l29:L.find 29=.int .i64 n0
 l30:L.find 30=.int .i64 i
 l56:L.find 56=vr
 l57:L.find 57=.int .i64 n0
 l58:L.find 58=.int .i64 j
 same:∀ b,b<w.n→b≠R→t.h.get b=w.h.get b
 n:w.n≤t.n
 le:t.n≤w.n+k
 m:u.n≤t.m
 far:t.m≤Abs.far
 row:t.h.get R=some (.cells (fillRows n0 zgap (gapRow ((List.range j).map fun j=>withE (ent T) c i j))).flatten 0)
theorem with_cell (N:Nat) (hN:1≤N) (cx:Ctx) (T:List (List Gap)) (n0:Nat) (v vr:AV) (c:Claim) (u w t:St) (R i j:Nat) (L:Env) (hT:GTab u.h u.n T v) (q:Square n0 T) (hn0:n0≤60) (ha:c.a<n0) (hb:c.b<n0) (hB:SmallT n0 T)
  (hg:∀ x,x=((ent T c.a c.b).meet c.gap).1∨x=((ent T c.a c.b).meet c.gap).2 → -100000000≤x∧x≤100000000)
  (hi:i<n0) (hj:j<n0) (hw:∀ b,b<u.n→w.h.get b=u.h.get b) (hun:u.n+3≤R) (hRw:R+3≤w.n) (hs:w.n+1000≤far)
  (gc:w.h.get u.n=some (.cells [.int .i64 c.a,.int .i64 c.b,.int .i64 c.gap.1,.int .i64 c.gap.2] (tag 109)))
  (gn:∃ cs,w.h.get (u.n+2)=some (.cells cs 0)∧nth cs i=.slice R 0 n0 n0 false)
  (g1:w.h.get (R+1)=some (.cells [.int .i64 ((ent T i c.a).plus ((ent T c.a c.b).meet c.gap)).1,.int .i64 ((ent T i c.a).plus ((ent T c.a c.b).meet c.gap)).2] (tag 81)))
  (g2:w.h.get (R+2)=some (.cells [.int .i64 ((ent T i c.b).plus ((ent T c.a c.b).meet c.gap).turned).1,.int .i64 ((ent T i c.b).plus ((ent T c.a c.b).meet c.gap).turned).2] (tag 81)))
  (hvr:∀ j,j<n0→∃ b p c sz,b<u.n∧(∀ s,ixsA 2 s vr (.int .i64 j)=.val (.ptr b p) s)∧u.h.get b=some (.cells c sz)∧cut p 2 c=some [.int .i64 (ent T i j).1,.int .i64 (ent T i j).2])
  (h:InRow u w t R n0 j j T c i L v vr) :
  ∃ L1 t1,K53l0 (call Try.prog X N) cx L [] t=.done .norm L1 [] t1∧InRow u w t1 R n0 (j+1) (j+1) T c i L1 v vr:=by
 have hf:far=1000000000:=rfl
 obtain ⟨l0,l3,l5,l6,l7,l9,l10,l28,l29,l30,l56,l57,l58,same,tn,tk,tm,tf,row⟩:=h
 have e0:decide ((j:Int)<(n0:Int))=true:=decide_eq_true (by omega)
 obtain ⟨b0,p0,c0,z0,d1,d2,d3,d4⟩:=hvr j hj
 obtain ⟨ba,pa,ca,za,va,a1,a2,a3,a4,a5,_,_,a6⟩:=hT.row q ha
 obtain ⟨bb,pb,cb,zb,vb,b1,b2,b3,b4,b5,_,_,b6⟩:=hT.row q hb
 obtain ⟨x1,y1,m1,o1,f1,f2,f3,f4⟩:=a6 j hj
 obtain ⟨x2,y2,m2,o2,k1,k2,k3,k4⟩:=b6 j hj
 obtain ⟨cs,gn1,gn2⟩:=gn
 have hok:=hT.ok
 have old:∀ b,b<u.n→t.h.get b=u.h.get b:=fun b hb=>(same b (by omega) (by omega)).trans (hw b hb)
 have w0:=(old _ d1).trans d3
 have wa:=(old _ a1).trans a3
 have wb:=(old _ b1).trans b3
 have wf:=(old _ f1).trans f3
 have wk:=(old _ k1).trans k3
 have wc:=(same u.n (by omega) (by omega)).trans gc
 have wn:=(same (u.n+2) (by omega) (by omega)).trans gn1
 have w1:=(same (R+1) (by omega) (by omega)).trans g1
 have w2:=(same (R+2) (by omega) (by omega)).trans g2
 have B0:=hB i j hi hj
 have Ba:=hB c.a j ha hj
 have Bb:=hB c.b j hb hj
 have Bia:=hB i c.a hi ha
 have Bib:=hB i c.b hi hb
 have hg1:=hg _ (.inl rfl)
 have hg2:=hg _ (.inr rfl)
 rw [plus1,plus2] at w1
 rw [plus1,plus2,turned1,turned2] at w2
 have i1:∀ s,ixsA 1 s (.slice (u.n+2) 0 n0 n0 false) (.int .i64 (i:Int))=.val (.ptr (u.n+2) i) s:=fun s=>by rw [ixs_slice _ _ _ _ _ _ _ _ hi,Nat.mul_one,Nat.zero_add]
 have i2:∀ s,ixsA 2 s (.slice R 0 n0 n0 false) (.int .i64 (j:Int))=.val (.ptr R (j * 2)) s:=fun s=>by rw [ixs_slice _ _ _ _ _ _ _ _ hj,Nat.zero_add]
 have okR:∀ t,okA (.val (.slice R 0 n0 n0 false) t)=.val (.slice R 0 n0 n0 false) t:=fun _=>rfl
 have hlen:(gapRow ((List.range j).map fun j=>withE (ent T) c i j)).length=j:=by rw [gapRow_len,List.length_map,List.length_range]
 have hov:=fillRows_over (n:=n0) (z:=zgap) (row:=[.int .i64 (withE (ent T) c i j).1,.int .i64 (withE (ent T) c i j).2]) (l:=gapRow ((List.range j).map fun j=>withE (ent T) c i j)) (w:=2) rfl (gapRow_wide _) rfl (by omega)
 rw [hlen,← gapRow_snoc,← range_snoc (f:=fun j=>withE (ent T) c i j),withE_1,withE_2] at hov
 have ad:∀ s,aAdd s .i64 (j:Int) 1=.val (.int .i64 ((j:Int)+1)) s:=fun s=>aAdd_i64 s _ _ (by omega)
 rw [meet1] at hg1 w1 w2
 rw [meet2] at hg2 w1 w2
 refine ⟨_,_,by
  simp (disch:=first|omega|(with_unfolding_all exact rfl)|(simp only[new_n,put_n,new_m];omega)|(refine put_m_le ?_;simp only[new_m];omega)) only [res53,K53r0,K53r1,K53r2,K53r3,K53r4,K53r5,K53r6,K53r7,K53r8,K53r9,K53r10,K53r11,K53r12,K53l0,K53r13,K53l1,K53r14,K53,Abs.W,reduceIte,Nat.reduceEqDiff,Nat.reduceAdd,decide_true,decide_false,kLoop_def,Nat.reduceSub,List.cons_append,List.nil_append,List.append_nil,List.length_cons,List.length_nil,Env.find_set,Nat.zero_add,l0,l3,l5,l6,l7,l9,l10,l28,l29,l30,l56,l57,l58,e0,d2,d4,w0,wa,wb,wf,wk,wc,wn,w1,w2,gn2,hok,okR,a2,a4,a5,b2,b4,b5,f2,f4,k2,k4,i1,i2,row,hov,ad,plus_ok,meet_ok]
  rfl,?_⟩
 refine ⟨by simp only [Env.find_set,l0,l3,l5,l6,l7,l9,l10,l28,l29,l30,l56,l57,l58,reduceIte,Nat.reduceEqDiff],by simp only [Env.find_set,l0,l3,l5,l6,l7,l9,l10,l28,l29,l30,l56,l57,l58,reduceIte,Nat.reduceEqDiff],by simp only [Env.find_set,l0,l3,l5,l6,l7,l9,l10,l28,l29,l30,l56,l57,l58,reduceIte,Nat.reduceEqDiff],by simp only [Env.find_set,l0,l3,l5,l6,l7,l9,l10,l28,l29,l30,l56,l57,l58,reduceIte,Nat.reduceEqDiff],by simp only [Env.find_set,l0,l3,l5,l6,l7,l9,l10,l28,l29,l30,l56,l57,l58,reduceIte,Nat.reduceEqDiff],by simp only [Env.find_set,l0,l3,l5,l6,l7,l9,l10,l28,l29,l30,l56,l57,l58,reduceIte,Nat.reduceEqDiff],by simp only [Env.find_set,l0,l3,l5,l6,l7,l9,l10,l28,l29,l30,l56,l57,l58,reduceIte,Nat.reduceEqDiff],by simp only [Env.find_set,l0,l3,l5,l6,l7,l9,l10,l28,l29,l30,l56,l57,l58,reduceIte,Nat.reduceEqDiff],by simp only [Env.find_set,l0,l3,l5,l6,l7,l9,l10,l28,l29,l30,l56,l57,l58,reduceIte,Nat.reduceEqDiff],by simp only [Env.find_set,l0,l3,l5,l6,l7,l9,l10,l28,l29,l30,l56,l57,l58,reduceIte,Nat.reduceEqDiff],by simp only [Env.find_set,l0,l3,l5,l6,l7,l9,l10,l28,l29,l30,l56,l57,l58,reduceIte,Nat.reduceEqDiff],by simp only [Env.find_set,l0,l3,l5,l6,l7,l9,l10,l28,l29,l30,l56,l57,l58,reduceIte,Nat.reduceEqDiff],by simp only [Env.find_set,reduceIte,Nat.reduceEqDiff];rfl,fun b hb hbR=>?_,?_,?_,?_,?_,?_⟩
 ·rw [get_put_ne' _ _ _ _ hbR,get_put_ne' _ _ _ _ (by omega),get_new_ne _ _ _ (by omega)];exact same b hb hbR
 ·simp only [put_n,new_n];omega
 ·simp only [put_n,new_n];omega
 ·simp only [St.put,minN_eq,new_m];omega
 ·simp only [St.put,minN_eq,new_m];omega
 ·exact get_put_eq _ _ _ _ rfl (by omega)
theorem loop_state {b:K} {n:Nat} {cl:CallF} {cx:Ctx} {L:Env} {d:List Nat} {s:St} {r:R} (h:loopN b n cl cx L d s=r):∃ w L0,w=s∧L0=L∧loopN b n cl cx L0 d w=r:=⟨s,L,rfl,rfl,h⟩
structure InTab (u t:St) (n0 i k:Nat) (T:List (List Gap)) (c:Claim) (L:Env) (v:AV):Prop where
 l0:L.find 0=v
 l3:L.find 3=.ptr u.n 0
 l5:L.find 5=.ptr (u.n+1) 0
 l6:L.find 6=.slice (u.n+2) 0 n0 n0 false
 l28:L.find 28=v
 l29:L.find 29=.int .i64 n0
 l30:L.find 30=.int .i64 i
 beside:Beside u t k
 n:u.n+3≤t.n
 g0:t.h.get u.n=some (.cells [.int .i64 c.a,.int .i64 c.b,.int .i64 c.gap.1,.int .i64 c.gap.2] (tag 109))
 g1:t.h.get (u.n+1)=some (.cells [.int .i64 ((ent T c.a c.b).meet c.gap).1,.int .i64 ((ent T c.a c.b).meet c.gap).2] (tag 81))
 g2:∃ vs:List AV,vs.length=i∧t.h.get (u.n+2)=some (.cells (fillRows n0 [.nilslice] (vs.map fun v=>[v])).flatten 0)∧∀ j (h:j<vs.length),∃ b,u.n+3≤b∧b<t.n∧vs[j]=.slice b 0 n0 n0 false∧t.h.get b=some (.cells (gapRow (withRow n0 T c j)).flatten 0)
theorem ones_wide (vs:List AV):∀ r ∈ vs.map (fun v=>[v]),r.length=1:=by
 intro r hr
 obtain ⟨v,_,rfl⟩:=List.mem_map.mp hr
 rfl
theorem InRow.set59 {u w t:St} {R n0 j k:Nat} {T:List (List Gap)} {c:Claim} {i:Nat} {L:Env} {v vr:AV} (h:InRow u w t R n0 j k T c i L v vr) (x:AV):InRow u w t R n0 j k T c i (L.set 59 x) v vr:=⟨by rw [Env.find_set,if_neg (by omega)];exact h.l0,by rw [Env.find_set,if_neg (by omega)];exact h.l3,by rw [Env.find_set,if_neg (by omega)];exact h.l5,by rw [Env.find_set,if_neg (by omega)];exact h.l6,by rw [Env.find_set,if_neg (by omega)];exact h.l7,by rw [Env.find_set,if_neg (by omega)];exact h.l9,by rw [Env.find_set,if_neg (by omega)];exact h.l10,by rw [Env.find_set,if_neg (by omega)];exact h.l28,by rw [Env.find_set,if_neg (by omega)];exact h.l29,by rw [Env.find_set,if_neg (by omega)];exact h.l30,by rw [Env.find_set,if_neg (by omega)];exact h.l56,by rw [Env.find_set,if_neg (by omega)];exact h.l57,by rw [Env.find_set,if_neg (by omega)];exact h.l58,h.same,h.n,h.le,h.m,h.far,h.row⟩
theorem with_round (N:Nat) (hN:1≤N) (cx:Ctx) (T:List (List Gap)) (n0:Nat) (v:AV) (c:Claim) (u t:St) (i k:Nat) (L:Env) (hT:GTab u.h u.n T v) (q:Square n0 T) (hn0:n0≤60) (ha:c.a<n0) (hb:c.b<n0) (hB:SmallT n0 T)
  (hg:∀ x,x=((ent T c.a c.b).meet c.gap).1∨x=((ent T c.a c.b).meet c.gap).2 → -100000000≤x∧x≤100000000)
  (hi:i<n0) (hs:u.n+k+2000≤far) (h:InTab u t n0 i k T c L v) :
  ∃ L1 t1,K53l1 (call Try.prog X N) cx L [] t=.done .norm L1 [] t1∧InTab u t1 n0 (i+1) (k+70) T c L1 v:=by
 have hf:far=1000000000:=rfl
 obtain ⟨l0,l3,l5,l6,l28,l29,l30,hE,hn3,g0,g1,vs,vl,g2,vb⟩:=h
 have tn:=hE.n
 have tl:=hE.le
 have tm:=hE.m
 have tf:=hE.far
 have e0:decide ((i:Int)<(n0:Int))=true:=decide_eq_true (by omega)
 obtain ⟨b0,p0,c0,z0,vr,d1,d2,d3,d4,d5,dne,d6,d7⟩:=hT.row q hi
 have w0:=(hE.same _ d1).trans d3
 obtain ⟨x1,y1,m1,o1,f1,f2,f3,f4⟩:=d7 _ ha
 obtain ⟨x2,y2,m2,o2,k1,k2,k3,k4⟩:=d7 _ hb
 have wf:=(hE.same _ f1).trans f3
 have wk:=(hE.same _ k1).trans k3
 have hok:=hT.ok
 have Bia:=hB i c.a hi ha
 have Bib:=hB i c.b hi hb
 have hg1:=hg _ (.inl rfl)
 have hg2:=hg _ (.inr rfl)
 have mk:∀ s:St,makeA [.int .i64 0,.int .i64 0] 16 s (.int .i64 (n0:Int)) (.int .i64 (n0:Int))=.val (.slice s.n 0 n0 n0 false) (s.new (.cells (List.replicate n0 zgap).flatten 0)):=fun s=>make_rows zgap 16 n0 s (by omega) (by omega)
 have i1:∀ s,ixsA 1 s (.slice (u.n+2) 0 n0 n0 false) (.int .i64 (i:Int))=.val (.ptr (u.n+2) i) s:=fun s=>by rw [ixs_slice _ _ _ _ _ _ _ _ hi,Nat.mul_one,Nat.zero_add]
 have okR:∀ x t,okA (.val (.slice x 0 n0 n0 false) t)=.val (.slice x 0 n0 n0 false) t:=fun _ _=>rfl
 have hov:=fillRows_over (n:=n0) (z:=[.nilslice]) (row:=[.slice t.n 0 n0 n0 false]) (l:=vs.map fun v=>[v]) (w:=1) rfl (ones_wide vs) rfl (by rw [List.length_map,vl];exact hi)
 rw [List.length_map,vl,Nat.mul_one,show (vs.map fun v=>[v])++[[AV.slice t.n 0 n0 n0 false]]=(vs++[AV.slice t.n 0 n0 n0 false]).map fun v=>[v] by rw [List.map_append];rfl] at hov
 have ad:∀ s,aAdd s .i64 (i:Int) 1=.val (.int .i64 ((i:Int)+1)) s:=fun s=>aAdd_i64 s _ _ (by omega)
 simp (disch:=first|omega|(with_unfolding_all exact rfl)|(simp only[new_n,put_n,new_m];omega)|(refine put_m_le ?_;simp only[new_m];omega)) only [res53,K53r0,K53r1,K53r2,K53r3,K53r4,K53r5,K53r6,K53r7,K53r8,K53r9,K53r10,K53r11,K53r12,K53r13,K53r14,K53,K53l1,Abs.W,reduceIte,Nat.reduceEqDiff,Nat.reduceAdd,decide_true,decide_false,kLoop_def,Nat.reduceSub,List.cons_append,List.nil_append,List.append_nil,List.length_cons,List.length_nil,kMake_def,Env.find_set,Nat.zero_add,l0,l3,l5,l6,l28,l29,l30,e0,d2,d4,d5,d6,w0,wf,wk,g0,g1,g2,hok,okR,f2,f4,k2,k4,i1,mk,hov,plus_ok,turned_ok]
 simp only [put_n,new_n]
 generalize hl:loopN _ rounds _ _ _ _ _=r1
 obtain ⟨w,L0,hw,hL0,hl'⟩:=loop_state hl
 have wn:w.n=t.n+3:=by rw [hw];rfl
 have wm:w.m≤t.m∧u.n≤w.m:=by rw [hw];simp only [St.put,minN_eq,new_m];omega
 have wg:∀ b,b<t.n→b≠u.n+2→w.h.get b=t.h.get b:=fun b h1 h2=>by rw [hw];simp (disch:=first|omega|(with_unfolding_all exact rfl)|(simp only[new_n,put_n,new_m];omega)|(refine put_m_le ?_;simp only[new_m];omega)) only [get_put_ne',get_new_ne]
 have w2:w.h.get (u.n+2)=some (.cells (fillRows n0 [.nilslice] ((vs++[AV.slice t.n 0 n0 n0 false]).map fun v=>[v])).flatten 0):=by rw [hw];simp (disch:=first|omega|(with_unfolding_all exact rfl)|(simp only[new_n,put_n,new_m];omega)|(refine put_m_le ?_;simp only[new_m];omega)) only [get_put_ne',get_new_ne,get_put_eq]
 have wR:w.h.get t.n=some (.cells (List.replicate n0 zgap).flatten 0):=by rw [hw];simp (disch:=first|omega|(with_unfolding_all exact rfl)|(simp only[new_n,put_n,new_m];omega)|(refine put_m_le ?_;simp only[new_m];omega)) only [get_put_ne',get_new_ne,get_new_eq]
 have wR1:w.h.get (t.n+1)=some (.cells [.int .i64 ((ent T i c.a).plus ((ent T c.a c.b).meet c.gap)).1,.int .i64 ((ent T i c.a).plus ((ent T c.a c.b).meet c.gap)).2] (tag 81)):=by rw [hw];simp (disch:=first|omega|(with_unfolding_all exact rfl)|(simp only[new_n,put_n,new_m];omega)|(refine put_m_le ?_;simp only[new_m];omega)) only [get_put_ne',get_new_ne,get_new_eq,get_put_eq,plus1,plus2]
 have wR2:w.h.get (t.n+2)=some (.cells [.int .i64 ((ent T i c.b).plus ((ent T c.a c.b).meet c.gap).turned).1,.int .i64 ((ent T i c.b).plus ((ent T c.a c.b).meet c.gap).turned).2] (tag 81)):=by rw [hw];simp (disch:=first|omega|(with_unfolding_all exact rfl)|(simp only[new_n,put_n,new_m];omega)|(refine put_m_le ?_;simp only[new_m];omega)) only [get_put_ne',get_new_ne,get_new_eq,get_put_eq,plus1,plus2,turned1,turned2]
 have hnth:nth (fillRows n0 [.nilslice] ((vs++[AV.slice t.n 0 n0 n0 false]).map fun v=>[v])).flatten i=.slice t.n 0 n0 n0 false:=by
  have:=fillRows_cut (n:=n0) (z:=[AV.nilslice]) (w:=1) (l:=(vs++[AV.slice t.n 0 n0 n0 false]).map fun v=>[v]) rfl (ones_wide _) (i:=i) (by rw [List.length_map,List.length_append,vl];simp)
  rw [Nat.mul_one] at this
  refine cut1_nth (this.trans ?_)
  simp [vl]
 obtain ⟨e,L1,s1,rfl,rfl,hI⟩:=loop_of hl' (fun j L' t'=>InRow u w t' t.n n0 j j T c i L' v vr) (fun e L1 s1=>e=.exit 2∧InRow u w s1 t.n n0 n0 n0 T c i L1 v vr) n0 (by unfold rounds;omega)
  ⟨by rw [hL0];simp only [Env.find_set,l0,l3,l5,l6,l28,l29,l30,reduceIte,Nat.reduceEqDiff],by rw [hL0];simp only [Env.find_set,l0,l3,l5,l6,l28,l29,l30,reduceIte,Nat.reduceEqDiff],by rw [hL0];simp only [Env.find_set,l0,l3,l5,l6,l28,l29,l30,reduceIte,Nat.reduceEqDiff],by rw [hL0];simp only [Env.find_set,l0,l3,l5,l6,l28,l29,l30,reduceIte,Nat.reduceEqDiff],by rw [hL0];simp only [Env.find_set,l0,l3,l5,l6,l28,l29,l30,reduceIte,Nat.reduceEqDiff],by rw [hL0];simp only [Env.find_set,l0,l3,l5,l6,l28,l29,l30,reduceIte,Nat.reduceEqDiff],by rw [hL0];simp only [Env.find_set,l0,l3,l5,l6,l28,l29,l30,reduceIte,Nat.reduceEqDiff],by rw [hL0];simp only [Env.find_set,l0,l3,l5,l6,l28,l29,l30,reduceIte,Nat.reduceEqDiff],by rw [hL0];simp only [Env.find_set,l0,l3,l5,l6,l28,l29,l30,reduceIte,Nat.reduceEqDiff],by rw [hL0];simp only [Env.find_set,l0,l3,l5,l6,l28,l29,l30,reduceIte,Nat.reduceEqDiff],by rw [hL0];simp only [Env.find_set,l0,l3,l5,l6,l28,l29,l30,reduceIte,Nat.reduceEqDiff],by rw [hL0];simp only [Env.find_set,l0,l3,l5,l6,l28,l29,l30,reduceIte,Nat.reduceEqDiff],by rw [hL0];simp only [Env.find_set,reduceIte,Nat.reduceEqDiff];rfl,fun _ _ _=>rfl,Nat.le_refl _,Nat.le_refl _,wm.2,by omega,by rw [wR,List.range_zero,List.map_nil];exact congrArg (fun x=>some (AObj.cells (List.flatten x) 0)) (fillRows_nil n0 zgap).symm⟩
  (fun j L' t' hj hI=>by
   by_cases hlt:j<n0
   ·obtain ⟨L2,t2,p1,p2⟩:=with_cell N hN cx T n0 v vr c u w t' t.n i j L' hT q hn0 ha hb hB hg hi hlt (fun b hb=>(wg b (by omega) (by omega)).trans (hE.same b hb)) hn3 (by omega) (by omega) ((wg _ (by omega) (by omega)).trans g0) ⟨_,w2,hnth⟩ wR1 wR2 d7 hI
    exact .inl ⟨hlt,L2,t2,p1,p2⟩
   ·obtain rfl:j=n0:=by omega
    have e1:decide ((j:Int)<(j:Int))=false:=by simp
    have q57:=hI.l57
    have q58:=hI.l58
    refine .inr ⟨.exit 2,L'.set 59 (.bool false),t',by simp,?_,rfl,hI.set59 _⟩
    simp (disch:=first|omega|(with_unfolding_all exact rfl)|(simp only[new_n,put_n,new_m];omega)|(refine put_m_le ?_;simp only[new_m];omega)) only [res53,K53r0,K53r1,K53r2,K53r3,K53r4,K53r5,K53r6,K53r7,K53r8,K53r9,K53r10,K53r11,K53r12,K53r13,K53r14,K53,K53l0,Abs.W,reduceIte,Nat.reduceEqDiff,Nat.reduceAdd,decide_true,decide_false,kLoop_def,Nat.reduceSub,List.cons_append,List.nil_append,List.append_nil,List.length_cons,List.length_nil,Env.find_set,q57,q58,e1])
 have q30:=hI.l30
 simp (disch:=first|omega|(with_unfolding_all exact rfl)|(simp only[new_n,put_n,new_m];omega)|(refine put_m_le ?_;simp only[new_m];omega)) only [res53,K53r0,K53r1,K53r2,K53r3,K53r4,K53r5,K53r6,K53r7,K53r8,K53r9,K53r10,K53r11,K53r12,K53r13,K53r14,K53,Abs.W,reduceIte,Nat.reduceEqDiff,Nat.reduceAdd,decide_true,decide_false,kLoop_def,Nat.reduceSub,List.cons_append,List.nil_append,List.append_nil,List.length_cons,List.length_nil,Env.find_set,q30,ad]
 obtain ⟨r0,r3,r5,r6,_,_,_,r28,r29,_,_,_,_,same,sn,sk,sm,sf,row⟩:=hI
 refine ⟨_,_,rfl,?_,?_,?_,?_,?_,?_,?_,⟨fun b hb=>?_,?_,?_,?_,sf⟩,?_,?_,?_,vs++[AV.slice t.n 0 n0 n0 false],by rw [List.length_append,vl];rfl,(same _ (by omega) (by omega)).trans w2,fun j hj=>?_⟩
 ·simp only [Env.find_set,r0,reduceIte,Nat.reduceEqDiff]
 ·simp only [Env.find_set,r3,reduceIte,Nat.reduceEqDiff]
 ·simp only [Env.find_set,r5,reduceIte,Nat.reduceEqDiff]
 ·simp only [Env.find_set,r6,reduceIte,Nat.reduceEqDiff]
 ·simp only [Env.find_set,r28,reduceIte,Nat.reduceEqDiff]
 ·simp only [Env.find_set,r29,reduceIte,Nat.reduceEqDiff]
 ·simp only [Env.find_set,reduceIte,Nat.reduceEqDiff];rfl
 ·exact (same b (by omega) (by omega)).trans ((wg b (by omega) (by omega)).trans (hE.same b hb))
 ·omega
 ·omega
 ·exact sm
 ·omega
 ·exact (same _ (by omega) (by omega)).trans ((wg _ (by omega) (by omega)).trans g0)
 ·exact (same _ (by omega) (by omega)).trans ((wg _ (by omega) (by omega)).trans g1)
 ·by_cases hjv:j<vs.length
  ·rw [List.getElem_append_left hjv]
   obtain ⟨b,h1,h2,h3,h4⟩:=vb j hjv
   exact ⟨b,h1,by omega,h3,(same b (by omega) (by omega)).trans ((wg b h2 (by omega)).trans h4)⟩
  ·have:j=i:=by rw [List.length_append,List.length_singleton] at hj;omega
   subst this
   refine ⟨t.n,hn3,by omega,?_,row.trans ?_⟩
   ·rw [List.getElem_append_right (by omega)];simp only [vl,Nat.sub_self,List.getElem_singleton]
   ·rw [fillRows_full (by rw [gapRow_len,List.length_map,List.length_range])]
    rfl
theorem with_ex {N:Nat} {T:List (List Gap)} {n0:Nat} {v:AV} {c:Claim} {s:St} {r:ARes} (hr:call Try.prog X N (.fn 53) [v,claimV c] s=r) (hN:2≤N) (hT:GTab s.h s.n T v) (q:Square n0 T) (hn0:n0≤60) (hp:1≤n0) (ha:c.a<n0) (hb:c.b<n0) (hB:SmallT n0 T)
  (hg:∀ x,x=((ent T c.a c.b).meet c.gap).1∨x=((ent T c.a c.b).meet c.gap).2 → -100000000≤x∧x≤100000000) (hs:s.n+8000≤far) :
  ∃ v' t,r=.val v' t∧New s t 5000∧GTabF t.h s.n t.n (withT n0 T c) v':=by
 obtain ⟨n,rfl⟩:∃ n,N=n+1:=⟨N - 1,by omega⟩
 have hf:far=1000000000:=rfl
 obtain ⟨v',t,e,st,hq⟩:=call_new (n:=n) (args:=[v,claimV c]) (s:=s) (k:=5000) (Q:=fun v' h n=>GTabF h s.n n (withT n0 T c) v') Try.func53 rfl (fun u uh un um=>by
  rw [← uh,← un] at hT
  have hok:=hT.ok
  have hlen:=hT.len
  rw [q.1] at hlen
  obtain ⟨b1,p1,c1,z1,vr,d1,d2,d3,d4,d5,dne,_,d7⟩:=hT.row q ha
  obtain ⟨b2,p2,c2,z2,e1,e2,e3,e4⟩:=d7 _ hb
  have mk:∀ s:St,makeA [.nilslice] 24 s (.int .i64 (n0:Int)) (.int .i64 (n0:Int))=.val (.slice s.n 0 n0 n0 false) (s.new (.cells (List.replicate n0 [AV.nilslice]).flatten 0)):=fun s=>make_rows [.nilslice] 24 n0 s (by omega) (by omega)
  have okR:∀ x t,okA (.val (.slice x 0 n0 n0 false) t)=.val (.slice x 0 n0 n0 false) t:=fun _ _=>rfl
  rw [enter53]
  simp (disch:=first|omega|(with_unfolding_all exact rfl)|(simp only[new_n,put_n,new_m];omega)|(refine put_m_le ?_;simp only[new_m];omega)) only [res53,K53r0,K53r1,K53r2,K53r3,K53r4,K53r5,K53r6,K53r7,K53r8,K53r9,K53r10,K53r11,K53r12,K53r13,K53r14,K53,Abs.W,reduceIte,Nat.reduceEqDiff,Nat.reduceAdd,decide_true,decide_false,kLoop_def,Nat.reduceSub,List.cons_append,List.nil_append,List.append_nil,List.length_cons,List.length_nil,kMake_def,Env.find_set,Nat.zero_add,hok,okR,hlen,d2,d3,d4,d5,e2,e3,e4,meet_ok,mk]
  simp only [put_n,new_n]
  generalize hl:loopN _ rounds _ _ _ _ _=r1
  obtain ⟨w,L0,hw,hL0,hl'⟩:=loop_state hl
  have wE:Beside u w 3:=by rw [hw];exact ((((Beside.refl u (by omega) um).new _).new _).put _ (Nat.le_succ _)).new _
  have wn:w.n=u.n+3:=by rw [hw];rfl
  have w0:w.h.get u.n=some (.cells [.int .i64 c.a,.int .i64 c.b,.int .i64 c.gap.1,.int .i64 c.gap.2] (tag 109)):=by rw [hw];simp (disch:=first|omega|(with_unfolding_all exact rfl)|(simp only[new_n,put_n,new_m];omega)|(refine put_m_le ?_;simp only[new_m];omega)) only [get_put_ne',get_new_ne,get_new_eq]
  have w1:w.h.get (u.n+1)=some (.cells [.int .i64 ((ent T c.a c.b).meet c.gap).1,.int .i64 ((ent T c.a c.b).meet c.gap).2] (tag 81)):=by rw [hw];simp (disch:=first|omega|(with_unfolding_all exact rfl)|(simp only[new_n,put_n,new_m];omega)|(refine put_m_le ?_;simp only[new_m];omega)) only [get_put_ne',get_new_ne,get_put_eq,meet1,meet2]
  have w2:w.h.get (u.n+2)=some (.cells (List.replicate n0 [AV.nilslice]).flatten 0):=by rw [hw];exact get_new_eq _ _ _ rfl (by simp only [put_n,new_n];omega)
  obtain ⟨e,L1,s1,rfl,rfl,hI⟩:=loop_of hl' (fun i L' t'=>InTab u t' n0 i (3+70 * i) T c L' v) (fun e L1 s1=>e=.exit 0∧InTab u s1 n0 n0 (3+70 * n0) T c L1 v) n0 (by unfold rounds;omega)
   ⟨by rw [hL0];simp only [find_cons,reduceIte,Nat.reduceEqDiff],by rw [hL0];simp only [find_cons,reduceIte,Nat.reduceEqDiff],by rw [hL0];simp only [find_cons,reduceIte,Nat.reduceEqDiff],by rw [hL0];simp only [find_cons,reduceIte,Nat.reduceEqDiff],by rw [hL0];simp only [find_cons,reduceIte,Nat.reduceEqDiff],by rw [hL0];simp only [find_cons,reduceIte,Nat.reduceEqDiff],by rw [hL0];simp only [find_cons,reduceIte,Nat.reduceEqDiff];rfl,wE,by omega,w0,w1,[],rfl,by rw [w2,List.map_nil,fillRows_nil],fun j h=>by simp at h⟩
   (fun i L' t' hi hI=>by
    by_cases hlt:i<n0
    ·obtain ⟨L2,t2,p1,p2⟩:=with_round n (by omega) ⟨53,none,Try.f53.ntmps,X 53⟩ T n0 v c u t' i (3+70 * i) L' hT q hn0 ha hb hB hg hlt (by omega) hI
     exact .inl ⟨hlt,L2,t2,p1,by rw [show 3+70 * (i+1)=3+70 * i+70 by omega];exact p2⟩
    ·obtain rfl:i=n0:=by omega
     have e1:decide ((i:Int)<(i:Int))=false:=by simp
     have q29:=hI.l29
     have q30:=hI.l30
     refine .inr ⟨.exit 0,L'.set 31 (.bool false),t',by simp,?_,rfl,?_⟩
     ·simp (disch:=first|omega|(with_unfolding_all exact rfl)|(simp only[new_n,put_n,new_m];omega)|(refine put_m_le ?_;simp only[new_m];omega)) only [res53,K53r0,K53r1,K53r2,K53r3,K53r4,K53r5,K53r6,K53r7,K53r8,K53r9,K53r10,K53r11,K53r12,K53r13,K53r14,K53,K53l1,Abs.W,reduceIte,Nat.reduceEqDiff,Nat.reduceAdd,decide_true,decide_false,kLoop_def,Nat.reduceSub,List.cons_append,List.nil_append,List.append_nil,List.length_cons,List.length_nil,Env.find_set,q29,q30,e1]
     ·obtain ⟨r0,r3,r5,r6,r28,r29,r30,ra,rb,rc,rd,re⟩:=hI
      refine ⟨?_,?_,?_,?_,?_,?_,?_,ra,rb,rc,rd,re⟩<;>rw [Env.find_set,if_neg (by omega)]<;>assumption)
  obtain ⟨r0,r3,r5,r6,r28,r29,r30,hE,hn3,g0,g1,vs,vl,g2,vb⟩:=hI
  simp (disch:=first|omega|(with_unfolding_all exact rfl)|(simp only[new_n,put_n,new_m];omega)|(refine put_m_le ?_;simp only[new_m];omega)) only [res53,K53r0,K53r1,K53r2,K53r3,K53r4,K53r5,K53r6,K53r7,K53r8,K53r9,K53r10,K53r11,K53r12,K53r13,K53r14,K53,Abs.W,reduceIte,Nat.reduceEqDiff,Nat.reduceAdd,decide_true,decide_false,kLoop_def,Nat.reduceSub,List.cons_append,List.nil_append,List.append_nil,List.length_cons,List.length_nil,Env.find_set,r6]
  have tn:=hE.n
  have q1:=(withT_square n0 T c).1
  refine ⟨_,_,rfl,hE.mono (by omega),rfl,fun k hk=>⟨fun _=>rfl,rfl,fun s=>by rw [lenSl_slice,q1],fun i hi=>?_⟩⟩
  rw [q1] at hi
  obtain ⟨b,h1,h2,h3,h4⟩:=vb i (by omega)
  have hl2:(gapRow (withRow n0 T c i)).length=n0:=by rw [gapRow_len,withRow_len]
  have hwi:(withT n0 T c)[i]'(by rw [q1];exact hi)=withRow n0 T c i:=by unfold withT;rw [List.getElem_map,List.getElem_range]
  rw [hwi]
  refine ⟨u.n+2,i,_,_,.slice b 0 n0 n0 false,by omega,fun s=>by rw [ixs_slice _ _ _ _ _ _ _ _ hi,Nat.mul_one,Nat.zero_add],(hk _ (by omega) (by omega)).trans g2,?_,fun _=>rfl,fun s=>by rw [lenSl_slice,hl2],fun j hj=>⟨b,j * 2,_,_,h2,fun s=>by rw [ixs_slice _ _ _ _ _ _ _ _ (by omega),Nat.zero_add],(hk _ (by omega) (by omega)).trans h4,flatten_cut (gapRow_wide _) hj⟩⟩
  have:=fillRows_cut (n:=n0) (z:=[AV.nilslice]) (w:=1) (l:=vs.map fun v=>[v]) rfl (ones_wide _) (i:=i) (by rw [List.length_map,vl];exact hi)
  rw [Nat.mul_one] at this
  refine cut1_nth (this.trans ?_)
  rw [List.getElem_map,h3])
 exact ⟨v',t,hr.symm.trans e,st,hq⟩
end Go.Proofs.Ytfekafjfidohdaa.walk
