/- Rows of spans that are the same. -/
import Derived.Test.YtfekafjfidohdaaM8
import Derived.Test.YtfekafjfidohdaaCodes
import Derived.Test.YtfekafjfidohdaaProg
import Derived.Tactics
import Derived.Tactics2
import Derived.WalkKit
import Derived.OpenShut
import Derived.Below
import Derived.Lib.Hide
import Derived.KernelRfl
import Derived.Deep.RegionHeld3
import Derived.OwnWalk
import Derived.StillTailTactics
import Derived.Test.YtfekafjfidohdaaAbsTop
import Derived.Test.YtfekafjfidohdaaAbsWalk
import Derived.Test.YtfekafjfidohdaaM1
import Derived.Test.YtfekafjfidohdaaAwake
import Derived.Test.YtfekafjfidohdaaWalkAll
set_option linter.unusedSimpArgs false
set_option maxHeartbeats 16000000
set_option linter.unusedVariables false
set_option maxRecDepth 10000
namespace Go.Proofs.Ytfekafjfidohdaa.walk
open Go.Abs Go.Proofs.Ytfekafjfidohdaa.code
theorem kEql_def (c:Cmp) (neg:Bool) (x y:Arg) (L:Env) (s:St):kEql c neg x y L s=eqlA c neg s (x.ev L) (y.ev L):=Eq.trans (Eq.refl _) (Eq.refl _)
theorem eqlSpan (a b:Int) (s:St):eqlA (.row [(0,none,.int),(1,none,.int)]) false s (.agg [.int .i64 a,.int .i64 b]) (.agg [.int .i64 a,.int .i64 b])=.val (.bool true) s:=by
 simp [eqlA,Cmp.eq,Cmp.eqs,partS_one,nth_cons,eqI_eq]
theorem sameSpans_ok (N:Nat) (hN:1≤N) {l:List Gap} {va vb:AV} {s:St} (hA:RowsAt s.h s.n 2 (gapRow l) va) (hB:RowsAt s.h s.n 2 (gapRow l) vb) (hl:l.length≤100) (hs:s.n+1000≤far) :
  call Try.prog X N (.fn 17) [va,vb] s=.val (.bool true) s:=by
 obtain ⟨n,rfl⟩:∃ n,N=n+1:=⟨N - 1,by omega⟩
 have hf:far=1000000000:=rfl
 obtain ⟨v,e,rfl⟩:=call_some (n:=n) (args:=[va,vb]) (s:=s) (k:=100) (Q:=fun v=>v=.bool true) Try.func17 (fun u uh un um=>by
  rw [← uh,← un] at hA hB
  have la:=hA.len
  rw [gapRow_len] at la
  have lb:=hB.len
  rw [gapRow_len] at lb
  have ka:∀ t,okA (.val va t)=.val va t:=fun t=>okA_ne hA.ne
  have kb:∀ t,okA (.val vb t)=.val vb t:=fun t=>okA_ne hB.ne
  have dd:decide ((l.length:Int)=(l.length:Int))=true:=by simp
  rw [enter17]
  simp (disch:=first|omega|(with_unfolding_all exact rfl)|(simp only[new_n,put_n,new_m];omega)|(refine put_m_le ?_;simp only[new_m];omega)) only [res17,K17r0,K17r1,K17r2,K17r3s6,K17r3s5,K17r3s4,K17r3s3,K17r3,K17r4,K17r5,K17r6,K17,Abs.W,reduceIte,Nat.reduceEqDiff,Nat.reduceAdd,decide_true,decide_false,kLoop_def,Nat.reduceSub,List.cons_append,List.nil_append,List.append_nil,List.length_cons,List.length_nil,Env.find_set,Nat.zero_add,ka,kb,la,lb,dd]
  generalize hlp:loopN _ rounds _ _ _ _ _=r1
  obtain ⟨e,L1,s1,rfl,rfl,rfl,f5⟩:=loop_of hlp (fun i L' t'=>t'=u∧L'.find 0=va∧L'.find 1=vb∧L'.find 5=.bool true∧L'.find 6=.int .i64 i) (fun e L' t'=>e=.exit 0∧t'=u∧L'.find 5=.bool true) l.length (by unfold rounds;omega)
   ⟨rfl,by simp only [find_cons,Env.find_set,reduceIte,Nat.reduceEqDiff],by simp only [find_cons,Env.find_set,reduceIte,Nat.reduceEqDiff],by simp only [find_cons,Env.find_set,reduceIte,Nat.reduceEqDiff],by simp only [find_cons,Env.find_set,reduceIte,Nat.reduceEqDiff];rfl⟩
   (fun i L' t' hi ⟨ht,q0,q1,q5,q6⟩=>by
    subst ht
    by_cases hlt:i<l.length
    ·have e0:decide ((i:Int)<(l.length:Int))=true:=decide_eq_true (by omega)
     obtain ⟨x0,o0,cs,sz,r1,r2,r3,r4⟩:=hA.at_ i (by rw [gapRow_len];exact hlt)
     rw [gapRow_at _ _ _ hlt] at r4
     obtain ⟨x1,o1,cs1,sz1,y1,y2,y3,y4⟩:=hB.at_ i (by rw [gapRow_len];exact hlt)
     rw [gapRow_at _ _ _ hlt] at y4
     have ad:∀ s,aAdd s .i64 (i:Int) 1=.val (.int .i64 ((i:Int)+1)) s:=fun s=>aAdd_i64 s _ _ (by omega)
     refine .inl ⟨hlt,(((L'.set 18 (.bool true)).set 5 (.bool true)).set 6 (.int .i64 ((i:Int)+1))),_,?_,rfl,?_,?_,?_,?_⟩
     ·simp (disch:=first|omega|(with_unfolding_all exact rfl)|(simp only[new_n,put_n,new_m];omega)|(refine put_m_le ?_;simp only[new_m];omega)) only [res17,K17r0,K17r1,K17r2,K17r3s6,K17r3s5,K17r3s4,K17r3s3,K17r3,K17r4,K17r5,K17r6,K17,K17l0,Abs.W,reduceIte,Nat.reduceEqDiff,Nat.reduceAdd,decide_true,decide_false,kLoop_def,Nat.reduceSub,List.cons_append,List.nil_append,List.append_nil,List.length_cons,List.length_nil,Env.find_set,q0,q1,q5,q6,ka,kb,la,lb,e0,r2,r3,r4,y2,y3,y4,kEql_def,eqlSpan,ad,Nat.zero_add]
     ·simp only [Env.find_set,q0,reduceIte,Nat.reduceEqDiff]
     ·simp only [Env.find_set,q1,reduceIte,Nat.reduceEqDiff]
     ·simp only [Env.find_set,reduceIte,Nat.reduceEqDiff]
     ·simp only [Env.find_set,reduceIte,Nat.reduceEqDiff];rfl
    ·obtain rfl:i=l.length:=by omega
     have e1:decide ((l.length:Int)<(l.length:Int))=false:=by simp
     refine .inr ⟨.exit 0,L'.set 18 (.bool false),_,by simp,?_,rfl,rfl,by simp only [Env.find_set,q5,reduceIte,Nat.reduceEqDiff]⟩
     simp (disch:=first|omega|(with_unfolding_all exact rfl)|(simp only[new_n,put_n,new_m];omega)|(refine put_m_le ?_;simp only[new_m];omega)) only [res17,K17r0,K17r1,K17r2,K17r3s6,K17r3s5,K17r3s4,K17r3s3,K17r3,K17r4,K17r5,K17r6,K17,K17l0,Abs.W,reduceIte,Nat.reduceEqDiff,Nat.reduceAdd,decide_true,decide_false,kLoop_def,Nat.reduceSub,List.cons_append,List.nil_append,List.append_nil,List.length_cons,List.length_nil,Env.find_set,q0,q5,q6,ka,la,e1,Nat.zero_add])
  simp (disch:=first|omega|(with_unfolding_all exact rfl)|(simp only[new_n,put_n,new_m];omega)|(refine put_m_le ?_;simp only[new_m];omega)) only [res17,K17r0,K17r1,K17r2,K17r3s6,K17r3s5,K17r3s4,K17r3s3,K17r3,K17r4,K17r5,K17r6,K17,Abs.W,reduceIte,Nat.reduceEqDiff,Nat.reduceAdd,decide_true,decide_false,kLoop_def,Nat.reduceSub,List.cons_append,List.nil_append,List.append_nil,List.length_cons,List.length_nil,Env.find_set,f5]
  exact ⟨_,_,rfl,(Beside.refl _ (by omega) um).mono (by omega),rfl,rfl⟩)
 exact e
end Go.Proofs.Ytfekafjfidohdaa.walk
set_option maxRecDepth 10000
namespace Go.Proofs.Ytfekafjfidohdaa.walk
open Go.Abs Go.Proofs.Ytfekafjfidohdaa.code
structure Perm (i:Nat) (f:List Nat):Prop where
 lt:∀ p,p<i→f.getD p 0<i
 all:∀ j,j<i→∃ p,p<i∧f.getD p 0=j
def mix (f:List Nat) (i k:Nat):List Nat:=(f.set i (f.getD k 0)).set k i
theorem getD_set {f:List Nat} {i x p:Nat} (hi:i<f.length):(f.set i x).getD p 0=if i=p then x else f.getD p 0:=by
 simp only [List.getD_eq_getElem?_getD,List.getElem?_set]
 by_cases h:i=p
 ·subst h;simp [hi]
 ·simp [h]
theorem mix_at {f:List Nat} {i k p:Nat} (hi:i<f.length) (hk:k<f.length):(mix f i k).getD p 0=if k=p then i else if i=p then f.getD k 0 else f.getD p 0:=by
 unfold mix
 rw [getD_set (by rw [List.length_set];exact hk),getD_set hi]
theorem Perm.step {i k:Nat} {f:List Nat} (h:Perm i f) (hi:i<f.length) (hk:k≤i):Perm (i+1) (mix f i k):=by
 refine ⟨fun p hp=>?_,fun j hj=>?_⟩
 ·rw [mix_at hi (by omega)]
  by_cases h1:k=p
  ·rw [if_pos h1];omega
  ·rw [if_neg h1]
   by_cases h2:i=p
   ·rw [if_pos h2]
    have:=h.lt k (by omega)
    omega
   ·rw [if_neg h2]
    have:=h.lt p (by omega)
    omega
 ·by_cases hji:j=i
  ·exact ⟨k,by omega,by rw [mix_at hi (by omega),if_pos rfl];exact hji.symm⟩
  ·obtain ⟨p,hp,e⟩:=h.all j (by omega)
   by_cases hpk:p=k
   ·refine ⟨i,by omega,?_⟩
    rw [mix_at hi (by omega),if_neg (by omega),if_pos rfl,← hpk]
    exact e
   ·refine ⟨p,by omega,?_⟩
    rw [mix_at hi (by omega),if_neg (by omega),if_neg (by omega)]
    exact e
def natRows (f:List Nat):List (List AV):=intRows (f.map Int.ofNat)
theorem natRows_len (f:List Nat):(natRows f).length=f.length:=by unfold natRows;rw [intRows_len,List.length_map]
theorem natRows_wide (f:List Nat):∀ r ∈ natRows f,r.length=1:=fun r hr=>by
 unfold natRows intRows at hr
 obtain ⟨x,_,rfl⟩:=List.mem_map.mp hr
 rfl
theorem natRows_at {f:List Nat} {k:Nat} (hk:k<f.length):(natRows f)[k]'(by rw [natRows_len];exact hk)=[.int .i64 (f.getD k 0:Nat)]:=by
 unfold natRows intRows
 simp [List.getD,hk]
theorem natRows_nth {f:List Nat} {k:Nat} (hk:k<f.length):nth (natRows f).flatten k=.int .i64 (f.getD k 0:Nat):=by
 have:=flatten_cut (natRows_wide f) (show k<(natRows f).length by rw [natRows_len];exact hk)
 rw [natRows_at hk,Nat.mul_one] at this
 exact cut1_nth this
theorem natRows_set (f:List Nat) (k x:Nat):(natRows f).set k [.int .i64 (x:Int)]=natRows (f.set k x):=by
 unfold natRows intRows
 rw [List.map_set,List.map_set]
 rfl
theorem natRows_over {f:List Nat} {k:Nat} (hk:k<f.length) (x:Nat):over k [.int .i64 (x:Int)] (natRows f).flatten=some (natRows (f.set k x)).flatten:=by
 have:=over_flatten (row:=[.int .i64 (x:Int)]) (natRows_wide f) (show k<(natRows f).length by rw [natRows_len];exact hk) rfl
 rw [Nat.mul_one,natRows_set] at this
 exact this
structure ShufJ (u t:St) (d m i:Nat) (f:List Nat):Prop where
 die:Die d t.h
 get:t.h.get u.n=some (.cells (natRows f).flatten 0)
 same:∀ c,c<u.n→c≠d→t.h.get c=u.h.get c
 n:t.n=u.n+1
 tm:d≤t.m
 mle:t.m≤far
 len:f.length=m
 perm:Perm i f
theorem shuf_round (N:Nat) (hN:6≤N) (cx:Ctx) {d m i:Nat} {f:List Nat} {u t:St} {L:Env} (hJ:ShufJ u t d m i f) (hi:i<m) (hm:m≤50) (hd:d<u.n) (hs:u.n+1000≤far) (q0:L.find 0=.ptr d 0) (q5:L.find 5=.slice u.n 0 m m false) (q6:L.find 6=.int .i64 i) :
  ∃ L1 t1 f1,K16l0 (call Try.prog X N) cx L [] t=.done .norm L1 [] t1∧ShufJ u t1 d m (i+1) f1∧L1.find 0=.ptr d 0∧L1.find 5=.slice u.n 0 m m false∧L1.find 6=.int .i64 (i+1:Nat):=by
 have hf:far=1000000000:=rfl
 obtain ⟨jd,jg,js,jn,jm,jl,jlen,jp⟩:=hJ
 have e0:decide ((i:Int)<(m:Int))=true:=decide_eq_true (by omega)
 have ad:∀ s,aAdd s .i64 (i:Int) 1=.val (.int .i64 ((i:Int)+1)) s:=fun s=>aAdd_i64 s _ _ (by omega)
 have okR:∀ t,okA (.val (.slice u.n 0 m m false) t)=.val (.slice u.n 0 m m false) t:=fun _=>rfl
 have lnR:∀ s,lenSlA s (.slice u.n 0 m m false)=.val (.int .i64 (m:Int)) s:=fun _=>rfl
 have ixR:∀ s k,k<m→ixsA 1 s (.slice u.n 0 m m false) (.int .i64 (k:Int))=.val (.ptr u.n k) s:=fun s k hk=>by rw [ixs_slice _ _ _ _ _ _ _ _ hk,Nat.zero_add,Nat.mul_one]
 simp (disch:=first|omega|(with_unfolding_all exact rfl)|(simp only[new_n,put_n,new_m];omega)|(refine put_m_le ?_;simp only[new_m];omega)) only [res16,K16r0,K16r1,K16r2,K16r3,K16r4,K16r5,K16r6,K16r7,K16r8,K16,K16l0,Abs.W,reduceIte,Nat.reduceEqDiff,Nat.reduceAdd,decide_true,decide_false,kLoop_def,Nat.reduceSub,List.cons_append,List.nil_append,List.append_nil,List.length_cons,List.length_nil,Env.find_set,q0,q5,q6,okR,lnR,e0,ad,Nat.zero_add]
 generalize hc:call _ _ _ (.fn 8) _ _=r
 obtain ⟨x,t1,rfl,st,d1,x0,x1⟩:=cast_ex hc (by omega) jd (by omega) (by omega) (by omega)
 obtain ⟨k,rfl⟩:∃ n:Nat,x=n:=⟨x.toNat,by omega⟩
 have n1:t.n≤t1.n:=st.n
 have k1:t1.n≤t.n:=st.le
 have g1:=(st.same u.n (by omega) (by omega)).trans jg
 have m1:=st.m jm
 have l1:=st.mle
 have nk:=natRows_nth (f:=f) (k:=k) (by omega)
 have o1:=natRows_over (f:=f) (k:=i) (by omega) (f.getD k 0)
 have o2:=natRows_over (f:=f.set i (f.getD k 0)) (k:=k) (by rw [List.length_set];omega) i
 have i1:∀ s,ixsA 1 s (.slice u.n 0 m m false) (.int .i64 (k:Int))=.val (.ptr u.n k) s:=fun s=>ixR s k (by omega)
 have i2:∀ s,ixsA 1 s (.slice u.n 0 m m false) (.int .i64 (i:Int))=.val (.ptr u.n i) s:=fun s=>ixR s i hi
 simp (disch:=first|omega|(with_unfolding_all exact rfl)|(simp only[new_n,put_n,new_m];omega)|(refine put_m_le ?_;simp only[new_m];omega)) only [res16,K16r0,K16r1,K16r2,K16r3,K16r4,K16r5,K16r6,K16r7,K16r8,K16,Abs.W,reduceIte,Nat.reduceEqDiff,Nat.reduceAdd,decide_true,decide_false,kLoop_def,Nat.reduceSub,List.cons_append,List.nil_append,List.append_nil,List.length_cons,List.length_nil,Env.find_set,q5,q6,okR,i1,i2,g1,nk,o1,o2,ad,Nat.zero_add]
 refine ⟨_,_,mix f i k,rfl,⟨d1.keep ?_,?_,fun c h1 h2=>?_,by simp only [put_n];omega,?_,?_,by unfold mix;rw [List.length_set,List.length_set];exact jlen,jp.step (by omega) (by omega)⟩,by simp only [Env.find_set,q0,reduceIte,Nat.reduceEqDiff],by simp only [Env.find_set,q5,reduceIte,Nat.reduceEqDiff],by simp only [Env.find_set,reduceIte,Nat.reduceEqDiff];rfl⟩
 ·rw [get_put_ne' _ _ _ _ (by omega),get_put_ne' _ _ _ _ (by omega)]
 ·exact get_put_eq _ _ _ _ rfl (by omega)
 ·rw [get_put_ne' _ _ _ _ (by omega),get_put_ne' _ _ _ _ (by omega),st.same c (by omega) h2]
  exact js c h1 h2
 ·simp only [St.put,minN_eq];omega
 ·simp only [St.put,minN_eq];omega
theorem Shuffle_ex {N d m:Nat} {s:St} {r:ARes} (hr:call Try.prog X N (.fn 16) [.ptr d 0,.int .i64 (m:Int)] s=r) (hN:7≤N) (hd:Die d s.h) (hlt:d<s.n) (hm:m≤50) (hs:s.n+2000≤far) :
  ∃ v f t,r=.val v t∧Stir d s t 1∧Die d t.h∧f.length=m∧Perm m f∧Blk t.h t.n s.n 1 (tag 3) (natRows f) v:=by
 obtain ⟨n,rfl⟩:∃ n,N=n+1:=⟨N - 1,by omega⟩
 have hf:far=1000000000:=rfl
 obtain ⟨v,t,e,st,f,hdt,hfl,hp,hb⟩:=call_stir (n:=n) (args:=[.ptr d 0,.int .i64 (m:Int)]) (d:=d) (s:=s) (k:=1) (Q:=fun v h n=>∃ f,Die d h∧f.length=m∧Perm m f∧Blk h n s.n 1 (tag 3) (natRows f) v) Try.func16 rfl (fun u uh un um=>by
  rw [← uh] at hd
  rw [← un] at hlt ⊢
  have mk:∀ s:St,makeA [.int .i64 0] 8 s (.int .i64 (m:Int)) (.int .i64 (m:Int))=.val (.slice s.n 0 m m false) (s.new (.cells (List.replicate m [.int .i64 0]).flatten 0)):=fun s=>make_rows [.int .i64 0] 8 m s (by omega) (by omega)
  have okR:∀ t,okA (.val (.slice u.n 0 m m false) t)=.val (.slice u.n 0 m m false) t:=fun _=>rfl
  have lnR:∀ s,lenSlA s (.slice u.n 0 m m false)=.val (.int .i64 (m:Int)) s:=fun _=>rfl
  have mx:max (0:Int) (m:Int)=(m:Int):=by omega
  rw [enter16]
  simp (disch:=first|omega|(with_unfolding_all exact rfl)|(simp only[new_n,put_n,new_m];omega)|(refine put_m_le ?_;simp only[new_m];omega)) only [res16,K16r0,K16r1,K16r2,K16r3,K16r4,K16r5,K16r6,K16r7,K16r8,K16,Abs.W,reduceIte,Nat.reduceEqDiff,Nat.reduceAdd,decide_true,decide_false,kLoop_def,Nat.reduceSub,List.cons_append,List.nil_append,List.append_nil,List.length_cons,List.length_nil,Env.find_set,Nat.zero_add,kFold_def,foldA_nil,foldA_cons,maxA_i64,mx,kMake_def,mk,okR]
  generalize hlp:loopN _ rounds _ _ _ _ _=r1
  have zr:(List.replicate m [AV.int .i64 0])=natRows (List.replicate m 0):=by unfold natRows intRows;simp
  rw [zr] at hlp
  obtain ⟨e,L1,s1,rfl,rfl,f5,f,hJ⟩:=loop_of hlp (fun i L' t'=>(∃ f,ShufJ u t' d m i f)∧L'.find 0=.ptr d 0∧L'.find 5=.slice u.n 0 m m false∧L'.find 6=.int .i64 i) (fun e L' t'=>e=.exit 0∧L'.find 5=.slice u.n 0 m m false∧∃ f,ShufJ u t' d m m f) m (by unfold rounds;omega)
   ⟨⟨List.replicate m 0,⟨hd.new hlt _,get_new_eq _ _ _ rfl (by omega),fun c h1 h2=>get_new_ne _ _ _ (by omega),rfl,by show d≤u.m;omega,by show u.m≤far;omega,List.length_replicate,⟨fun p hp=>absurd hp (Nat.not_lt_zero p),fun j hj=>absurd hj (Nat.not_lt_zero j)⟩⟩⟩,by simp only [find_cons,Env.find_set,reduceIte,Nat.reduceEqDiff],by simp only [find_cons,Env.find_set,reduceIte,Nat.reduceEqDiff],by simp only [find_cons,Env.find_set,reduceIte,Nat.reduceEqDiff];rfl⟩
   (fun i L' t' hi ⟨⟨f,hJ⟩,q0,q5,q6⟩=>by
    by_cases hlt':i<m
    ·obtain ⟨L2,t2,f1,p1,p2,p3,p4,p5⟩:=shuf_round n (by omega) ⟨16,none,Try.f16.ntmps,X 16⟩ hJ hlt' hm hlt (by omega) q0 q5 q6
     exact .inl ⟨hlt',L2,t2,p1,⟨f1,p2⟩,p3,p4,p5⟩
    ·obtain rfl:i=m:=by omega
     have e1:decide ((i:Int)<(i:Int))=false:=by simp
     refine .inr ⟨.exit 0,L'.set 14 (.bool false),t',by simp,?_,rfl,by simp only [Env.find_set,q5,reduceIte,Nat.reduceEqDiff],f,hJ⟩
     simp (disch:=first|omega|(with_unfolding_all exact rfl)|(simp only[new_n,put_n,new_m];omega)|(refine put_m_le ?_;simp only[new_m];omega)) only [res16,K16r0,K16r1,K16r2,K16r3,K16r4,K16r5,K16r6,K16r7,K16r8,K16,K16l0,Abs.W,reduceIte,Nat.reduceEqDiff,Nat.reduceAdd,decide_true,decide_false,kLoop_def,Nat.reduceSub,List.cons_append,List.nil_append,List.append_nil,List.length_cons,List.length_nil,Env.find_set,q5,q6,okR,lnR,e1,Nat.zero_add])
  simp (disch:=first|omega|(with_unfolding_all exact rfl)|(simp only[new_n,put_n,new_m];omega)|(refine put_m_le ?_;simp only[new_m];omega)) only [res16,K16r0,K16r1,K16r2,K16r3,K16r4,K16r5,K16r6,K16r7,K16r8,K16,Abs.W,reduceIte,Nat.reduceEqDiff,Nat.reduceAdd,decide_true,decide_false,kLoop_def,Nat.reduceSub,List.cons_append,List.nil_append,List.append_nil,List.length_cons,List.length_nil,Env.find_set,f5,okR]
  refine ⟨.slice u.n 0 m m false,s1,rfl,⟨fun c h1 h2=>hJ.same c h1 h2,by have:=hJ.n;omega,by have:=hJ.n;omega,fun _=>hJ.tm,by have:=hJ.mle;omega⟩,rfl,f,hJ.die,hJ.len,hJ.perm,⟨natRows_wide f,false,0,by rw [natRows_len,hJ.len],by have:=hJ.n;omega,hJ.get,fun h=>(by cases h)⟩⟩) (by omega)
 exact ⟨v,f,t,hr.symm.trans e,st,hdt,hfl,hp,hb⟩
end Go.Proofs.Ytfekafjfidohdaa.walk
set_option maxRecDepth 10000
namespace Go.Abs
theorem append_two {s:St} {b w bytes tg:Nat} {rows:List (List AV)} {v:AV} (r:IsAt s.h s.n b w tg rows v) {p sz:Nat} {r1 r2:List AV} (hp:s.h.get p=some (.cells (r1++r2) sz)) (hw1:r1.length=w) (hw2:r2.length=w) (hsc:scalars (r1++r2)=true)
  (hb:(rows.length+2) * bytes≤1000000) (htg:szOf (w+tg)=w) (hs:s.n<549755813888) :
  ∃ s',appendA false w bytes tg s v (.slice p 0 2 2 false)=.val (.slice s.n 0 (rows.length+2) (rows.length+2) true) s'∧IsAt s'.h s'.n s.n w tg (rows++[r1,r2]) (.slice s.n 0 (rows.length+2) (rows.length+2) true)∧s'.n=s.n+1∧∀ c,c<s.n→c≠b→s'.h.get c=s.h.get c:=by
 have hl:(r1++r2).length=2 * w:=by rw [List.length_append];omega
 have h1:∀ x,appendA false w bytes tg s x (.slice p 0 2 2 false)=growA w bytes tg 2 (r1++r2) s x:=by
  intro x
  have e1:firstA w 2 s (.slice p 0 2 2 false)=some (r1++r2):=by
   show (match s.h.get p with | some (.cells c _)=>cut 0 (2 * w) c | some (.fam c _ k _)=>cut 0 (2 * w) (c.take k) | _=>none)=some (r1++r2)
   rw [hp]
   simp only
   rw [cut_zero,← hl,cut1_all]
  show (match (some 2:Option Nat) with | none=>ARes.fail | some n=>match firstA w n s (.slice p 0 2 2 false) with | none=>.fail | some new=>match Nat.beq new.length (n * w) with | false=>.fail | true=>match scalars new with | true=>(growA w bytes tg n new s x) | false=>.fail)=_
  simp only [e1,hl,Nat.beq_refl,hsc]
 have wide:∀ x ∈ rows++[r1,r2],x.length=w:=fun x hx=>by
  rcases List.mem_append.mp hx with hx | hx
  ·exact r.wide x hx
  ·simp at hx
   rcases hx with rfl | rfl
   ·exact hw1
   ·exact hw2
 rcases r.is with ⟨h2,h3⟩ | ⟨h2,hbn,h3,h4⟩
 ·subst h2;subst h3
  refine ⟨s.new (.cells (r1++r2) (w+tg)),?_,⟨wide,.inr ⟨by simp,Nat.lt_succ_self _,by simp,?_⟩⟩,rfl,fun c hc _=>get_new_ne _ _ _ (by omega)⟩
  ·rw [h1]
   show (match Nat.beq 2 0 with | true=>ARes.val .nilslice s | false=>match Nat.ble (2 * bytes) limit with | false=>.fail | true=>.val (.slice s.n 0 2 2 true) (s.new (.cells (r1++r2) (w+tg))))=_
   have:Nat.ble (2 * bytes) limit=true:=Nat.ble_eq_true_of_le (by unfold limit;simp at hb;omega)
   rw [this]
   rfl
  ·simp only [List.nil_append,List.flatten_cons,List.flatten_nil,List.append_nil]
   exact get_new_eq _ _ _ rfl hs
 ·subst h3
  have hfl:=flatten_len r.wide
  refine ⟨(s.kill b).new (.cells (rows.flatten++(r1++r2)) (w+tg)),?_,⟨wide,.inr ⟨by simp,Nat.lt_succ_self _,by simp,?_⟩⟩,rfl,fun c hc hne=>?_⟩
  ·rw [h1]
   unfold growA
   simp only [h4]
   have e1:Nat.ble (rows.length+2) rows.length=false:=by
    cases h:Nat.ble (rows.length+2) rows.length with
    | false=>rfl
    | true=>have:=Nat.le_of_ble_eq_true h;omega
   have e2:Nat.ble ((rows.length+2) * bytes) limit=true:=Nat.ble_eq_true_of_le hb
   simp only [e1,e2,hfl,htg,Nat.zero_add,List.drop_zero,and_self,if_true]
  ·rw [List.flatten_append,List.flatten_cons,List.flatten_cons,List.flatten_nil,List.append_nil]
   exact get_new_eq _ _ _ rfl hs
  ·rw [get_new_ne _ _ _ (by show c≠s.n;omega),St.kill_h,heap_set_ne _ _ _ _ (by omega)]
end Go.Abs
namespace Go.Proofs.Ytfekafjfidohdaa.walk
open Go.Abs Go.Proofs.Ytfekafjfidohdaa.code
structure OrdJ (u t:St) (d p7 bw tg k:Nat) (C:AV→List AV) (rows:List (List AV)) (v:AV):Prop where
 die:Die d t.h
 g7:t.h.get p7=some (.cells (C v) (tag 30))
 is:IsAt t.h t.n bw 4 tg rows v
 lo:u.n≤bw
 same:∀ c,c<u.n→c≠d→c≠p7→t.h.get c=u.h.get c
 n:u.n≤t.n
 le:t.n≤u.n+k
theorem ord_round0 (N:Nat) (hN:6≤N) (cx:Ctx) {b:Bench} {v1 v2 v3 v4 vf v:AV} {u t:St} {L:Env} {f:List Nat} {l:List Weigh} {d p4 p7 lo nb R bw k m i:Nat} (hJ:OrdJ u t d p7 bw (tag 56) k (fun x=>[v1,x,v3,.nilslice,.int .i64 b.days]) (l.map Weigh.cells) v) (hB:BenchAt t.h nb b v1 v2 v3 v4) (hB':∀ h',(∀ c,lo≤c→c<nb→h'.get c=t.h.get c)→BenchAt h' nb b v1 v2 v3 v4) (hf:Blk u.h u.n R 1 (tag 3) (natRows f) vf) (hfl:f.length=m) (hp:Perm m f) (hm:m=b.ws.length) (hm6:m≤6) (hi:i<m) (hl:l.length≤20)
  (g4:t.h.get p4=some (.cells [v1,v2,v3,v4,.int .i64 b.days] (tag 30))) (h1:d<lo) (h2:nb≤p4) (h3:p4<p7) (h4:p7<u.n) (h5:lo≤nb) (hR:R≠d∧R≠p7∧R<u.n) (hk:k≤100) (hs:u.n+2000≤far) (q3:L.find 3=.ptr d 0) (q4:L.find 4=.ptr p4 0) (q7:L.find 7=.ptr p7 0) (q8:L.find 8=vf) (q10:L.find 10=.int .i64 i) :
  ∃ L1 t1 bw1 w1 A E,K4l0 (awm N) cx L [] t=.done .norm L1 [] t1∧OrdJ u t1 d p7 bw1 (tag 56) (k+2) (fun x=>[v1,x,v3,.nilslice,.int .i64 b.days]) ((l++[A,E]).map Weigh.cells) w1∧A=wAt b (f.getD i 0)∧A ∈ b.ws∧E ∈ b.ws∧L1.find 10=.int .i64 (i+1:Nat)∧∀ c,c<10→L1.find c=L.find c:=by
 have hff:far=1000000000:=rfl
 obtain ⟨jd,g7,is,jlo,same,n1,le⟩:=hJ
 have e0:decide ((i:Int)<(m:Int))=true:=decide_eq_true (by omega)
 have ad:∀ s,aAdd s .i64 (i:Int) 1=.val (.int .i64 ((i:Int)+1)) s:=fun s=>aAdd_i64 s _ _ (by omega)
 have kf:=hf.okA
 have lf:=hf.len
 rw [natRows_len,hfl] at lf
 have hfx:∀ j,j<m→∀ s,ixsA 1 s vf (.int .i64 (j:Int))=.val (.ptr R j) s:=fun j hj s=>by have:=hf.ixs (i:=j) (by rw [natRows_len];omega) s;rw [Nat.mul_one] at this;exact this
 obtain ⟨fsz,fg⟩:=hf.get
 have fgt:=(same R hR.2.2 hR.1 hR.2.1).trans fg
 have nf:∀ j,j<m→nth (natRows f).flatten j=.int .i64 (f.getD j 0:Nat):=fun j hj=>natRows_nth (by omega)
 have kv:=is.okA
 have ks:∀ t,okA (.val v2 t)=.val v2 t:=fun t=>okA_ne hB.w.ne
 have a0:=hp.lt i hi
 obtain ⟨x0,o0,cs,sz,r1,r2,r3,r4⟩:=hB.w.at_ (f.getD i 0) (by rw [List.length_map];omega)
 rw [List.getElem_map,wAt_at (by omega)] at r4
 have memA:wAt b (f.getD i 0) ∈ b.ws:=by rw [← wAt_at (show f.getD i 0<b.ws.length by omega)];exact List.getElem_mem _
 obtain ⟨A,hA⟩:∃ A,A=wAt b (f.getD i 0):=⟨_,rfl⟩
 rw [← hA] at r4 memA
 unfold Weigh.cells at r4
 have ix1:=hfx i hi
 have nf1:=nf i hi
 have knC:∀ args s,awm N (.fn 8) args s=call Try.prog X N (.fn 8) args s:=fun _ _=>rfl
 simp (disch:=first|omega|(with_unfolding_all exact rfl)|(simp only[new_n,put_n,new_m];omega)|(refine put_m_le ?_;simp only[new_m];omega)) only [res4,K4r0,K4r1,K4r2,K4r3,K4r4,K4r5,K4r6,K4r7,K4r8,K4r9,K4r10,K4r11,K4r12,K4r13,K4r14,K4r15,K4r16,K4r17,K4r18,K4r19s28,K4r19s25,K4r19s24,K4r19s23,K4r19s20,K4r19s19,K4r19s18,K4r19s15,K4r19s14,K4r19s13,K4r19s12,K4r19s11,K4r19s10,K4r19s7,K4r19s6,K4r19s5,K4r19,K4,K4l0,Abs.W,reduceIte,Nat.reduceEqDiff,Nat.reduceAdd,decide_true,decide_false,kLoop_def,Nat.reduceSub,List.cons_append,List.nil_append,List.append_nil,List.length_cons,List.length_nil,Env.find_set,q3,q4,q7,q8,q10,kf,lf,e0,g7,g4,kv,ks,ix1,fgt,nf1,r2,r3,r4,knC,Nat.zero_add]
 generalize hc:call _ _ _ (.fn 8) _ _=r
 obtain ⟨x,t1,rfl,st,d1,y0,y1⟩:=cast_ex hc (by omega) jd (by show d<t.n;omega) (by show t.n+100≤far;omega) (by omega)
 obtain ⟨e,rfl⟩:∃ n:Nat,x=n:=⟨x.toNat,by omega⟩
 have he:e<m:=by omega
 have m1:t.n≤t1.n:=st.n
 have m2:t1.n≤t.n:=st.le
 have g1:∀ c,c<t.n→c≠d→t1.h.get c=t.h.get c:=fun c hc hcd=>st.same c hc hcd
 have a1:=hp.lt e he
 have hB2:=hB' t1.h fun c h6 h7=>g1 c (by omega) (by omega)
 obtain ⟨x1,o1,cs1,sz1,z1,z2,z3,z4⟩:=hB2.w.at_ (f.getD e 0) (by rw [List.length_map];omega)
 rw [List.getElem_map,wAt_at (by omega)] at z4
 have memE:wAt b (f.getD e 0) ∈ b.ws:=by rw [← wAt_at (show f.getD e 0<b.ws.length by omega)];exact List.getElem_mem _
 generalize wAt b (f.getD e 0)=E at z4 memE
 unfold Weigh.cells at z4
 have ix2:=hfx e he
 have nf2:=nf e he
 have fgt1:=(g1 R (by omega) hR.1).trans fgt
 simp (disch:=first|omega|(with_unfolding_all exact rfl)|(simp only[new_n,put_n,new_m];omega)|(refine put_m_le ?_;simp only[new_m];omega)) only [thenT_turn,Abs.W,reduceIte,Nat.reduceEqDiff,Nat.reduceAdd,decide_true,decide_false,kLoop_def,Nat.reduceSub,List.cons_append,List.nil_append,List.append_nil,List.length_cons,List.length_nil,Env.find_set,ix2,fgt1,nf2,z2,z3,z4,Nat.zero_add]
 obtain ⟨y,hy⟩:∃ y:St,y=(⟨t1.h,t1.n,minN t.m t1.m⟩:St).new (.cells ([.int .i64 A.a,.int .i64 A.b,.int .i64 A.lo,.int .i64 A.hi]++[.int .i64 E.a,.int .i64 E.b,.int .i64 E.lo,.int .i64 E.hi]) 0):=⟨_,rfl⟩
 have hy2:y=(⟨t1.h,t1.n,minN t.m t1.m⟩:St).new (.cells [.int .i64 A.a,.int .i64 A.b,.int .i64 A.lo,.int .i64 A.hi,.int .i64 E.a,.int .i64 E.b,.int .i64 E.lo,.int .i64 E.hi] 0):=hy
 rw [← hy2]
 have yn:y.n=t1.n+1:=by rw [hy];rfl
 have yg:∀ c,c<t1.n→y.h.get c=t1.h.get c:=fun c hc=>by rw [hy];exact get_new_ne _ _ _ (by show c≠t1.n;omega)
 have yp:y.h.get t1.n=some (.cells ([.int .i64 A.a,.int .i64 A.b,.int .i64 A.lo,.int .i64 A.hi]++[.int .i64 E.a,.int .i64 E.b,.int .i64 E.lo,.int .i64 E.hi]) 0):=by rw [hy];exact get_new_eq _ _ _ rfl (by show t1.n<_;omega)
 have bd:bw≠d:=by omega
 obtain ⟨s7,e7,l7,s7n,s7g⟩:=append_two (bytes:=32) (is.mono (h':=y.h) (n':=y.n) (fun h=>(yg _ (by omega)).trans (g1 _ h bd)) (by omega)) yp rfl rfl rfl (by rw [List.length_map];omega) (by kernel_rfl) (by omega)
 have e7':appendA false 4 32 (tag 56) y v (.slice t1.n 0 2 2 false)=.val (.slice y.n 0 ((l.map Weigh.cells).length+2) ((l.map Weigh.cells).length+2) true) s7:=e7
 have x0d:x0≠d:=fun h=>by
  obtain ⟨F,hF⟩:=jd
  rw [h] at r3
  have:=Option.some.inj (r3.symm.trans hF)
  injection this with hc _
  subst hc
  obtain ⟨a,q,w1,w2,w3⟩:=cut_some r4
  have:=congrArg List.length w1
  simp at this
  omega
 have p7t:t1.h.get p7=t.h.get p7:=g1 p7 (by omega) (by omega)
 have p4t:t1.h.get p4=t.h.get p4:=g1 p4 (by omega) (by omega)
 have x0t:t1.h.get x0=t.h.get x0:=g1 x0 (by omega) x0d
 have k7:keptV t.h t1.h (.ptr p7 1)=true:=by rw [keptV_ptr,p7t,g7,sameO_cells]
 have k4':keptV t.h t1.h (.ptr p4 1)=true:=by rw [keptV_ptr,p4t,g4,sameO_cells]
 have kx:keptV t.h t1.h (.ptr x0 o0)=true:=by rw [keptV_ptr,x0t,r3,sameO_cells]
 have kR:keptV t.h t1.h (.ptr R i)=true:=by rw [keptV_ptr,fgt1,fgt,sameO_cells]
 have s7p:s7.h.get p7=some (.cells _ _):=(s7g p7 (by omega) (by omega)).trans ((yg p7 (by omega)).trans (p7t.trans g7))
 simp (disch:=first|omega|(with_unfolding_all exact rfl)|(simp only[new_n,put_n,new_m];omega)|(refine put_m_le ?_;simp only[new_m];omega)) only [Abs.W,reduceIte,Nat.reduceEqDiff,Nat.reduceAdd,decide_true,decide_false,kLoop_def,Nat.reduceSub,List.cons_append,List.nil_append,List.append_nil,List.length_cons,List.length_nil,Env.find_set,e7',q7,s7p,Nat.zero_add]
 rw [endT_kept (l:=[48,50,54,56,58]) (s':=t1) (by simp only [keptAll_cons,keptAll_nil,find_cons,Env.find_set,k7,k4',kx,kR,reduceIte,Nat.reduceEqDiff,Bool.and_self])]
 simp (disch:=first|omega|(with_unfolding_all exact rfl)|(simp only[new_n,put_n,new_m];omega)|(refine put_m_le ?_;simp only[new_m];omega)) only [res4,K4r0,K4r1,K4r2,K4r3,K4r4,K4r5,K4r6,K4r7,K4r8,K4r9,K4r10,K4r11,K4r12,K4r13,K4r14,K4r15,K4r16,K4r17,K4r18,K4r19s28,K4r19s25,K4r19s24,K4r19s23,K4r19s20,K4r19s19,K4r19s18,K4r19s15,K4r19s14,K4r19s13,K4r19s12,K4r19s11,K4r19s10,K4r19s7,K4r19s6,K4r19s5,K4r19,K4,Abs.W,reduceIte,Nat.reduceEqDiff,Nat.reduceAdd,decide_true,decide_false,kLoop_def,Nat.reduceSub,List.cons_append,List.nil_append,List.append_nil,List.length_cons,List.length_nil,Env.find_set,endO_nil,regD_ok,q10,ad,Nat.zero_add]
 refine ⟨_,_,y.n,.slice y.n 0 ((l.map Weigh.cells).length+2) ((l.map Weigh.cells).length+2) true,A,E,rfl,⟨d1.keep ?_,get_put_eq _ _ _ _ rfl (by omega),?_,by omega,fun c h6 h7 h8=>?_,by simp only [put_n];omega,by simp only [put_n];omega⟩,hA,memA,memE,by simp only [Env.find_set,reduceIte,Nat.reduceEqDiff];rfl,fun c hc=>?_⟩
 ·rw [get_put_ne' _ _ _ _ (by omega),s7g d (by omega) (by omega),yg d (by omega)]
 ·rw [List.map_append]
  exact l7.mono (fun _=>get_put_ne' _ _ _ _ (by omega)) (Nat.le_refl _)
 ·rw [get_put_ne' _ _ _ _ (by omega),s7g c (by omega) (by omega),yg c (by omega),g1 c (by omega) h7]
  exact same c h6 h7 h8
 ·simp only [Env.find_set]
  rw [if_neg (by omega),if_neg (by omega)]
theorem ord_loop0 (N:Nat) (hN:6≤N) (cx:Ctx) {b:Bench} {v1 v2 v3 v4 vf:AV} {u:St} {L:Env} {f:List Nat} {r:R} {d p4 p7 lo nb R m:Nat} (hr:loopN K4l0 rounds (awm N) cx L [] u=r) (hd:Die d u.h) (g7:u.h.get p7=some (.cells [v1,.nilslice,v3,.nilslice,.int .i64 b.days] (tag 30))) (hBF:∀ h',(∀ c,lo≤c→c<nb→h'.get c=u.h.get c)→BenchAt h' nb b v1 v2 v3 v4) (hf:Blk u.h u.n R 1 (tag 3) (natRows f) vf) (hfl:f.length=m) (hp:Perm m f) (hm:m=b.ws.length) (hm6:m≤6)
  (g4:u.h.get p4=some (.cells [v1,v2,v3,v4,.int .i64 b.days] (tag 30))) (h1:d<lo) (h2:nb≤p4) (h3:p4<p7) (h4:p7<u.n) (h5:lo≤nb) (hR:R≠d∧R≠p7∧R<u.n) (hs:u.n+2000≤far) (q3:L.find 3=.ptr d 0) (q4:L.find 4=.ptr p4 0) (q7:L.find 7=.ptr p7 0) (q8:L.find 8=vf) (q10:L.find 10=.int .i64 (0:Nat)) :
  ∃ L1 t1 bw1 w1,∃ l:List Weigh,r=.done (.exit 0) L1 [] t1∧OrdJ u t1 d p7 bw1 (tag 56) 20 (fun x=>[v1,x,v3,.nilslice,.int .i64 b.days]) (l.map Weigh.cells) w1∧l.length=2 * m∧(∀ x,x ∈ l↔x ∈ b.ws)∧∀ c,c<10→L1.find c=L.find c:=by
 have hff:far=1000000000:=rfl
 have kf:=hf.okA
 have lf:=hf.len
 rw [natRows_len,hfl] at lf
 obtain ⟨e,L1,s1,rfl,rfl,bw,w,l,hJ,hl,ha,hb,hq⟩:=loop_of hr (fun i L' t'=>(∃ (bw:Nat) (w:AV) (l:List Weigh),OrdJ u t' d p7 bw (tag 56) (2 * i) (fun x=>[v1,x,v3,.nilslice,.int .i64 b.days]) (l.map Weigh.cells) w∧l.length=2 * i∧(∀ x,x ∈ l→x ∈ b.ws)∧∀ p,p<i→wAt b (f.getD p 0) ∈ l)∧L'.find 10=.int .i64 i∧∀ c,c<10→L'.find c=L.find c)
  (fun e L' t'=>e=.exit 0∧∃ (bw:Nat) (w:AV) (l:List Weigh),OrdJ u t' d p7 bw (tag 56) (2 * m) (fun x=>[v1,x,v3,.nilslice,.int .i64 b.days]) (l.map Weigh.cells) w∧l.length=2 * m∧(∀ x,x ∈ l→x ∈ b.ws)∧(∀ p,p<m→wAt b (f.getD p 0) ∈ l)∧∀ c,c<10→L'.find c=L.find c) m (by unfold rounds;omega)
  ⟨⟨far+1,.nilslice,[],⟨hd,g7,IsAt.nil _ _ _ _ _,by omega,fun _ _ _ _=>rfl,Nat.le_refl _,Nat.le_refl _⟩,rfl,fun x hx=>(by cases hx),fun p hp=>absurd hp (Nat.not_lt_zero p)⟩,q10,fun _ _=>rfl⟩
  (fun i L' t' hi ⟨⟨bw,w,l,hJ,hl,ha,hb⟩,z10,g⟩=>by
   have fr:∀ h':Heap,(∀ c,lo≤c→c<nb→h'.get c=t'.h.get c)→BenchAt h' nb b v1 v2 v3 v4:=fun h' hh=>hBF h' fun c h6 h7=>(hh c h6 h7).trans (hJ.same c (by omega) (by omega) (by omega))
   have zf:=(g 8 (by omega)).trans q8
   by_cases hlt:i<m
   ·obtain ⟨L2,t2,bw2,w2,A,E,p1,p2,p3,p4',p5,p6,p8⟩:=ord_round0 N hN cx hJ (fr t'.h fun _ _ _=>rfl) fr hf hfl hp hm hm6 hlt (by omega) ((hJ.same p4 (by omega) (by omega) (by omega)).trans g4) h1 h2 h3 h4 h5 hR (by omega) hs ((g 3 (by omega)).trans q3) ((g 4 (by omega)).trans q4) ((g 7 (by omega)).trans q7) zf z10
    refine .inl ⟨hlt,L2,t2,p1,⟨bw2,w2,l++[A,E],p2,by rw [List.length_append];show l.length+2=_;omega,fun x hx=>?_,fun p hp=>?_⟩,p6,fun c hc=>(p8 c hc).trans (g c hc)⟩
    ·rcases List.mem_append.mp hx with h | h
     ·exact ha x h
     ·simp at h
      rcases h with rfl | rfl
      ·exact p4'
      ·exact p5
    ·by_cases h:p<i
     ·exact List.mem_append.mpr (.inl (hb p h))
     ·obtain rfl:p=i:=by omega
      rw [← p3]
      exact List.mem_append.mpr (.inr (by simp))
   ·obtain rfl:i=m:=by omega
    have e1:decide ((i:Int)<(i:Int))=false:=by simp
    refine .inr ⟨.exit 0,L'.set 45 (.bool false),t',by simp,?_,rfl,bw,w,l,hJ,hl,ha,hb,fun c hc=>?_⟩
    ·simp (disch:=first|omega|(with_unfolding_all exact rfl)|(simp only[new_n,put_n,new_m];omega)|(refine put_m_le ?_;simp only[new_m];omega)) only [res4,K4r0,K4r1,K4r2,K4r3,K4r4,K4r5,K4r6,K4r7,K4r8,K4r9,K4r10,K4r11,K4r12,K4r13,K4r14,K4r15,K4r16,K4r17,K4r18,K4r19s28,K4r19s25,K4r19s24,K4r19s23,K4r19s20,K4r19s19,K4r19s18,K4r19s15,K4r19s14,K4r19s13,K4r19s12,K4r19s11,K4r19s10,K4r19s7,K4r19s6,K4r19s5,K4r19,K4,K4l0,Abs.W,reduceIte,Nat.reduceEqDiff,Nat.reduceAdd,decide_true,decide_false,kLoop_def,Nat.reduceSub,List.cons_append,List.nil_append,List.append_nil,List.length_cons,List.length_nil,Env.find_set,zf,z10,kf,lf,e1,Nat.zero_add]
    ·simp only [Env.find_set]
     rw [if_neg (by omega)]
     exact g c hc)
 refine ⟨L1,s1,bw,w,l,rfl,⟨hJ.die,hJ.g7,hJ.is,hJ.lo,hJ.same,hJ.n,by have:=hJ.le;omega⟩,hl,fun x=>⟨ha x,fun hx=>?_⟩,hq⟩
 obtain ⟨j,hj,ej⟩:=List.getElem_of_mem hx
 obtain ⟨p,hpm,e⟩:=hp.all j (by omega)
 have:=hb p hpm
 rw [e,← wAt_at hj,ej] at this
 exact this
theorem ord_round1 (N:Nat) (hN:6≤N) (cx:Ctx) {b:Bench} {v1 v2 v3 v4 vf v vw:AV} {u t:St} {L:Env} {f:List Nat} {l:List Trial} {d p4 p7 lo nb R bw k m i:Nat} (hJ:OrdJ u t d p7 bw (tag 58) k (fun x=>[v1,vw,v3,x,.int .i64 b.days]) (l.map Trial.cells) v) (hvw:vw.scalar=true) (hB:BenchAt t.h nb b v1 v2 v3 v4) (hB':∀ h',(∀ c,lo≤c→c<nb→h'.get c=t.h.get c)→BenchAt h' nb b v1 v2 v3 v4) (hf:Blk u.h u.n R 1 (tag 3) (natRows f) vf) (hfl:f.length=m) (hp:Perm m f) (hm:m=b.ts.length) (hm6:m≤6) (hi:i<m) (hl:l.length≤20)
  (g4:t.h.get p4=some (.cells [v1,v2,v3,v4,.int .i64 b.days] (tag 30))) (h1:d<lo) (h2:nb≤p4) (h3:p4<p7) (h4:p7<u.n) (h5:lo≤nb) (hR:R≠d∧R≠p7∧R<u.n) (hk:k≤100) (hs:u.n+2000≤far) (q3:L.find 3=.ptr d 0) (q4:L.find 4=.ptr p4 0) (q7:L.find 7=.ptr p7 0) (q8:L.find 9=vf) (q10:L.find 11=.int .i64 i) :
  ∃ L1 t1 bw1 w1 A E,K4l1 (awm N) cx L [] t=.done .norm L1 [] t1∧OrdJ u t1 d p7 bw1 (tag 58) (k+2) (fun x=>[v1,vw,v3,x,.int .i64 b.days]) ((l++[A,E]).map Trial.cells) w1∧A=tAt b (f.getD i 0)∧A ∈ b.ts∧E ∈ b.ts∧L1.find 11=.int .i64 (i+1:Nat)∧∀ c,c<10→L1.find c=L.find c:=by
 have hff:far=1000000000:=rfl
 obtain ⟨jd,g7,is,jlo,same,n1,le⟩:=hJ
 have e0:decide ((i:Int)<(m:Int))=true:=decide_eq_true (by omega)
 have ad:∀ s,aAdd s .i64 (i:Int) 1=.val (.int .i64 ((i:Int)+1)) s:=fun s=>aAdd_i64 s _ _ (by omega)
 have kf:=hf.okA
 have lf:=hf.len
 rw [natRows_len,hfl] at lf
 have hfx:∀ j,j<m→∀ s,ixsA 1 s vf (.int .i64 (j:Int))=.val (.ptr R j) s:=fun j hj s=>by have:=hf.ixs (i:=j) (by rw [natRows_len];omega) s;rw [Nat.mul_one] at this;exact this
 obtain ⟨fsz,fg⟩:=hf.get
 have fgt:=(same R hR.2.2 hR.1 hR.2.1).trans fg
 have nf:∀ j,j<m→nth (natRows f).flatten j=.int .i64 (f.getD j 0:Nat):=fun j hj=>natRows_nth (by omega)
 have kv:=is.okA
 have ks:∀ t,okA (.val v4 t)=.val v4 t:=fun t=>okA_ne hB.t.ne
 have a0:=hp.lt i hi
 obtain ⟨x0,o0,cs,sz,r1,r2,r3,r4⟩:=hB.t.at_ (f.getD i 0) (by rw [List.length_map];omega)
 rw [List.getElem_map,tAt_at (by omega)] at r4
 have memA:tAt b (f.getD i 0) ∈ b.ts:=by rw [← tAt_at (show f.getD i 0<b.ts.length by omega)];exact List.getElem_mem _
 obtain ⟨A,hA⟩:∃ A,A=tAt b (f.getD i 0):=⟨_,rfl⟩
 rw [← hA] at r4 memA
 unfold Trial.cells at r4
 have ix1:=hfx i hi
 have nf1:=nf i hi
 have knC:∀ args s,awm N (.fn 8) args s=call Try.prog X N (.fn 8) args s:=fun _ _=>rfl
 simp (disch:=first|omega|(with_unfolding_all exact rfl)|(simp only[new_n,put_n,new_m];omega)|(refine put_m_le ?_;simp only[new_m];omega)) only [res4,K4r0,K4r1,K4r2,K4r3,K4r4,K4r5,K4r6,K4r7,K4r8,K4r9,K4r10,K4r11,K4r12,K4r13,K4r14,K4r15,K4r16,K4r17,K4r18,K4r19s28,K4r19s25,K4r19s24,K4r19s23,K4r19s20,K4r19s19,K4r19s18,K4r19s15,K4r19s14,K4r19s13,K4r19s12,K4r19s11,K4r19s10,K4r19s7,K4r19s6,K4r19s5,K4r19,K4,K4l1,Abs.W,reduceIte,Nat.reduceEqDiff,Nat.reduceAdd,decide_true,decide_false,kLoop_def,Nat.reduceSub,List.cons_append,List.nil_append,List.append_nil,List.length_cons,List.length_nil,Env.find_set,q3,q4,q7,q8,q10,kf,lf,e0,g7,g4,kv,ks,ix1,fgt,nf1,r2,r3,r4,knC,Nat.zero_add]
 generalize hc:call _ _ _ (.fn 8) _ _=r
 obtain ⟨x,t1,rfl,st,d1,y0,y1⟩:=cast_ex hc (by omega) jd (by show d<t.n;omega) (by show t.n+100≤far;omega) (by omega)
 obtain ⟨e,rfl⟩:∃ n:Nat,x=n:=⟨x.toNat,by omega⟩
 have he:e<m:=by omega
 have m1:t.n≤t1.n:=st.n
 have m2:t1.n≤t.n:=st.le
 have g1:∀ c,c<t.n→c≠d→t1.h.get c=t.h.get c:=fun c hc hcd=>st.same c hc hcd
 have a1:=hp.lt e he
 have hB2:=hB' t1.h fun c h6 h7=>g1 c (by omega) (by omega)
 obtain ⟨x1,o1,cs1,sz1,z1,z2,z3,z4⟩:=hB2.t.at_ (f.getD e 0) (by rw [List.length_map];omega)
 rw [List.getElem_map,tAt_at (by omega)] at z4
 have memE:tAt b (f.getD e 0) ∈ b.ts:=by rw [← tAt_at (show f.getD e 0<b.ts.length by omega)];exact List.getElem_mem _
 generalize tAt b (f.getD e 0)=E at z4 memE
 unfold Trial.cells at z4
 have ix2:=hfx e he
 have nf2:=nf e he
 have fgt1:=(g1 R (by omega) hR.1).trans fgt
 simp (disch:=first|omega|(with_unfolding_all exact rfl)|(simp only[new_n,put_n,new_m];omega)|(refine put_m_le ?_;simp only[new_m];omega)) only [thenT_turn,Abs.W,reduceIte,Nat.reduceEqDiff,Nat.reduceAdd,decide_true,decide_false,kLoop_def,Nat.reduceSub,List.cons_append,List.nil_append,List.append_nil,List.length_cons,List.length_nil,Env.find_set,ix2,fgt1,nf2,z2,z3,z4,Nat.zero_add]
 obtain ⟨y,hy⟩:∃ y:St,y=(⟨t1.h,t1.n,minN t.m t1.m⟩:St).new (.cells ([.int .i64 A.scale,.int .i64 A.day,.int .i64 A.mass,.int .i64 A.shown]++[.int .i64 E.scale,.int .i64 E.day,.int .i64 E.mass,.int .i64 E.shown]) 0):=⟨_,rfl⟩
 have hy2:y=(⟨t1.h,t1.n,minN t.m t1.m⟩:St).new (.cells [.int .i64 A.scale,.int .i64 A.day,.int .i64 A.mass,.int .i64 A.shown,.int .i64 E.scale,.int .i64 E.day,.int .i64 E.mass,.int .i64 E.shown] 0):=hy
 rw [← hy2]
 have yn:y.n=t1.n+1:=by rw [hy];rfl
 have yg:∀ c,c<t1.n→y.h.get c=t1.h.get c:=fun c hc=>by rw [hy];exact get_new_ne _ _ _ (by show c≠t1.n;omega)
 have yp:y.h.get t1.n=some (.cells ([.int .i64 A.scale,.int .i64 A.day,.int .i64 A.mass,.int .i64 A.shown]++[.int .i64 E.scale,.int .i64 E.day,.int .i64 E.mass,.int .i64 E.shown]) 0):=by rw [hy];exact get_new_eq _ _ _ rfl (by show t1.n<_;omega)
 have bd:bw≠d:=by omega
 obtain ⟨s7,e7,l7,s7n,s7g⟩:=append_two (bytes:=32) (is.mono (h':=y.h) (n':=y.n) (fun h=>(yg _ (by omega)).trans (g1 _ h bd)) (by omega)) yp rfl rfl rfl (by rw [List.length_map];omega) (by kernel_rfl) (by omega)
 have e7':appendA false 4 32 (tag 58) y v (.slice t1.n 0 2 2 false)=.val (.slice y.n 0 ((l.map Trial.cells).length+2) ((l.map Trial.cells).length+2) true) s7:=e7
 have x0d:x0≠d:=fun h=>by
  obtain ⟨F,hF⟩:=jd
  rw [h] at r3
  have:=Option.some.inj (r3.symm.trans hF)
  injection this with hc _
  subst hc
  obtain ⟨a,q,w1,w2,w3⟩:=cut_some r4
  have:=congrArg List.length w1
  simp at this
  omega
 have p7t:t1.h.get p7=t.h.get p7:=g1 p7 (by omega) (by omega)
 have p4t:t1.h.get p4=t.h.get p4:=g1 p4 (by omega) (by omega)
 have x0t:t1.h.get x0=t.h.get x0:=g1 x0 (by omega) x0d
 have k7:keptV t.h t1.h (.ptr p7 3)=true:=by rw [keptV_ptr,p7t,g7,sameO_cells]
 have k4':keptV t.h t1.h (.ptr p4 3)=true:=by rw [keptV_ptr,p4t,g4,sameO_cells]
 have kx:keptV t.h t1.h (.ptr x0 o0)=true:=by rw [keptV_ptr,x0t,r3,sameO_cells]
 have kR:keptV t.h t1.h (.ptr R i)=true:=by rw [keptV_ptr,fgt1,fgt,sameO_cells]
 have s7p:s7.h.get p7=some (.cells _ _):=(s7g p7 (by omega) (by omega)).trans ((yg p7 (by omega)).trans (p7t.trans g7))
 simp (disch:=first|omega|(with_unfolding_all exact rfl)|(simp only[new_n,put_n,new_m];omega)|(refine put_m_le ?_;simp only[new_m];omega)) only [Abs.W,reduceIte,Nat.reduceEqDiff,Nat.reduceAdd,decide_true,decide_false,kLoop_def,Nat.reduceSub,List.cons_append,List.nil_append,List.append_nil,List.length_cons,List.length_nil,Env.find_set,e7',q7,s7p,Nat.zero_add]
 rw [endT_kept (l:=[78,80,84,86,88]) (s':=t1) (by simp only [keptAll_cons,keptAll_nil,find_cons,Env.find_set,k7,k4',kx,kR,reduceIte,Nat.reduceEqDiff,Bool.and_self])]
 simp (disch:=first|omega|(with_unfolding_all exact rfl)|(simp only[new_n,put_n,new_m];omega)|(refine put_m_le ?_;simp only[new_m];omega)) only [res4,K4r0,K4r1,K4r2,K4r3,K4r4,K4r5,K4r6,K4r7,K4r8,K4r9,K4r10,K4r11,K4r12,K4r13,K4r14,K4r15,K4r16,K4r17,K4r18,K4r19s28,K4r19s25,K4r19s24,K4r19s23,K4r19s20,K4r19s19,K4r19s18,K4r19s15,K4r19s14,K4r19s13,K4r19s12,K4r19s11,K4r19s10,K4r19s7,K4r19s6,K4r19s5,K4r19,K4,Abs.W,reduceIte,Nat.reduceEqDiff,Nat.reduceAdd,decide_true,decide_false,kLoop_def,Nat.reduceSub,List.cons_append,List.nil_append,List.append_nil,List.length_cons,List.length_nil,Env.find_set,endO_nil,regD_ok,q10,ad,Nat.zero_add]
 refine ⟨_,_,y.n,.slice y.n 0 ((l.map Trial.cells).length+2) ((l.map Trial.cells).length+2) true,A,E,rfl,⟨d1.keep ?_,get_put_eq _ _ _ _ rfl (by omega),?_,by omega,fun c h6 h7 h8=>?_,by simp only [put_n];omega,by simp only [put_n];omega⟩,hA,memA,memE,by simp only [Env.find_set,reduceIte,Nat.reduceEqDiff];rfl,fun c hc=>?_⟩
 ·rw [get_put_ne' _ _ _ _ (by omega),s7g d (by omega) (by omega),yg d (by omega)]
 ·rw [List.map_append]
  exact l7.mono (fun _=>get_put_ne' _ _ _ _ (by omega)) (Nat.le_refl _)
 ·rw [get_put_ne' _ _ _ _ (by omega),s7g c (by omega) (by omega),yg c (by omega),g1 c (by omega) h7]
  exact same c h6 h7 h8
 ·simp only [Env.find_set]
  rw [if_neg (by omega),if_neg (by omega)]
theorem ord_loop1 (N:Nat) (hN:6≤N) (cx:Ctx) {b:Bench} {v1 v2 v3 v4 vf vw:AV} {u:St} {L:Env} {f:List Nat} {r:R} {d p4 p7 lo nb R m:Nat} (hr:loopN K4l1 rounds (awm N) cx L [] u=r) (hd:Die d u.h) (g7:u.h.get p7=some (.cells [v1,vw,v3,.nilslice,.int .i64 b.days] (tag 30))) (hvw:vw.scalar=true) (hBF:∀ h',(∀ c,lo≤c→c<nb→h'.get c=u.h.get c)→BenchAt h' nb b v1 v2 v3 v4) (hf:Blk u.h u.n R 1 (tag 3) (natRows f) vf) (hfl:f.length=m) (hp:Perm m f) (hm:m=b.ts.length) (hm6:m≤6)
  (g4:u.h.get p4=some (.cells [v1,v2,v3,v4,.int .i64 b.days] (tag 30))) (h1:d<lo) (h2:nb≤p4) (h3:p4<p7) (h4:p7<u.n) (h5:lo≤nb) (hR:R≠d∧R≠p7∧R<u.n) (hs:u.n+2000≤far) (q3:L.find 3=.ptr d 0) (q4:L.find 4=.ptr p4 0) (q7:L.find 7=.ptr p7 0) (q8:L.find 9=vf) (q10:L.find 11=.int .i64 (0:Nat)) :
  ∃ L1 t1 bw1 w1,∃ l:List Trial,r=.done (.exit 2) L1 [] t1∧OrdJ u t1 d p7 bw1 (tag 58) 20 (fun x=>[v1,vw,v3,x,.int .i64 b.days]) (l.map Trial.cells) w1∧l.length=2 * m∧(∀ x,x ∈ l↔x ∈ b.ts)∧∀ c,c<10→L1.find c=L.find c:=by
 have hff:far=1000000000:=rfl
 have kf:=hf.okA
 have lf:=hf.len
 rw [natRows_len,hfl] at lf
 obtain ⟨e,L1,s1,rfl,rfl,bw,w,l,hJ,hl,ha,hb,hq⟩:=loop_of hr (fun i L' t'=>(∃ (bw:Nat) (w:AV) (l:List Trial),OrdJ u t' d p7 bw (tag 58) (2 * i) (fun x=>[v1,vw,v3,x,.int .i64 b.days]) (l.map Trial.cells) w∧l.length=2 * i∧(∀ x,x ∈ l→x ∈ b.ts)∧∀ p,p<i→tAt b (f.getD p 0) ∈ l)∧L'.find 11=.int .i64 i∧∀ c,c<10→L'.find c=L.find c)
  (fun e L' t'=>e=.exit 2∧∃ (bw:Nat) (w:AV) (l:List Trial),OrdJ u t' d p7 bw (tag 58) (2 * m) (fun x=>[v1,vw,v3,x,.int .i64 b.days]) (l.map Trial.cells) w∧l.length=2 * m∧(∀ x,x ∈ l→x ∈ b.ts)∧(∀ p,p<m→tAt b (f.getD p 0) ∈ l)∧∀ c,c<10→L'.find c=L.find c) m (by unfold rounds;omega)
  ⟨⟨far+1,.nilslice,[],⟨hd,g7,IsAt.nil _ _ _ _ _,by omega,fun _ _ _ _=>rfl,Nat.le_refl _,Nat.le_refl _⟩,rfl,fun x hx=>(by cases hx),fun p hp=>absurd hp (Nat.not_lt_zero p)⟩,q10,fun _ _=>rfl⟩
  (fun i L' t' hi ⟨⟨bw,w,l,hJ,hl,ha,hb⟩,z10,g⟩=>by
   have fr:∀ h':Heap,(∀ c,lo≤c→c<nb→h'.get c=t'.h.get c)→BenchAt h' nb b v1 v2 v3 v4:=fun h' hh=>hBF h' fun c h6 h7=>(hh c h6 h7).trans (hJ.same c (by omega) (by omega) (by omega))
   have zf:=(g 9 (by omega)).trans q8
   by_cases hlt:i<m
   ·obtain ⟨L2,t2,bw2,w2,A,E,p1,p2,p3,p4',p5,p6,p8⟩:=ord_round1 N hN cx hJ hvw (fr t'.h fun _ _ _=>rfl) fr hf hfl hp hm hm6 hlt (by omega) ((hJ.same p4 (by omega) (by omega) (by omega)).trans g4) h1 h2 h3 h4 h5 hR (by omega) hs ((g 3 (by omega)).trans q3) ((g 4 (by omega)).trans q4) ((g 7 (by omega)).trans q7) zf z10
    refine .inl ⟨hlt,L2,t2,p1,⟨bw2,w2,l++[A,E],p2,by rw [List.length_append];show l.length+2=_;omega,fun x hx=>?_,fun p hp=>?_⟩,p6,fun c hc=>(p8 c hc).trans (g c hc)⟩
    ·rcases List.mem_append.mp hx with h | h
     ·exact ha x h
     ·simp at h
      rcases h with rfl | rfl
      ·exact p4'
      ·exact p5
    ·by_cases h:p<i
     ·exact List.mem_append.mpr (.inl (hb p h))
     ·obtain rfl:p=i:=by omega
      rw [← p3]
      exact List.mem_append.mpr (.inr (by simp))
   ·obtain rfl:i=m:=by omega
    have e1:decide ((i:Int)<(i:Int))=false:=by simp
    refine .inr ⟨.exit 2,L'.set 75 (.bool false),t',by simp,?_,rfl,bw,w,l,hJ,hl,ha,hb,fun c hc=>?_⟩
    ·simp (disch:=first|omega|(with_unfolding_all exact rfl)|(simp only[new_n,put_n,new_m];omega)|(refine put_m_le ?_;simp only[new_m];omega)) only [res4,K4r0,K4r1,K4r2,K4r3,K4r4,K4r5,K4r6,K4r7,K4r8,K4r9,K4r10,K4r11,K4r12,K4r13,K4r14,K4r15,K4r16,K4r17,K4r18,K4r19s28,K4r19s25,K4r19s24,K4r19s23,K4r19s20,K4r19s19,K4r19s18,K4r19s15,K4r19s14,K4r19s13,K4r19s12,K4r19s11,K4r19s10,K4r19s7,K4r19s6,K4r19s5,K4r19,K4,K4l1,Abs.W,reduceIte,Nat.reduceEqDiff,Nat.reduceAdd,decide_true,decide_false,kLoop_def,Nat.reduceSub,List.cons_append,List.nil_append,List.append_nil,List.length_cons,List.length_nil,Env.find_set,zf,z10,kf,lf,e1,Nat.zero_add]
    ·simp only [Env.find_set]
     rw [if_neg (by omega)]
     exact g c hc)
 refine ⟨L1,s1,bw,w,l,rfl,⟨hJ.die,hJ.g7,hJ.is,hJ.lo,hJ.same,hJ.n,by have:=hJ.le;omega⟩,hl,fun x=>⟨ha x,fun hx=>?_⟩,hq⟩
 obtain ⟨j,hj,ej⟩:=List.getElem_of_mem hx
 obtain ⟨p,hpm,e⟩:=hp.all j (by omega)
 have:=hb p hpm
 rw [e,← tAt_at hj,ej] at this
 exact this
end Go.Proofs.Ytfekafjfidohdaa.walk
set_option maxRecDepth 10000
namespace Go.Proofs.Ytfekafjfidohdaa.walk
open Go.Abs Go.Proofs.Ytfekafjfidohdaa.code
noncomputable def scoRest:K:=(kSeq (kRegion K4r2 [4]) (kSeq (kRegion K4r3 [7]) (kSeq (kRegion K4r4 []) (kSeq (kRegionD K4r5 [8,9]) (kSeq (kSeq (kRegion K4r6 [10]) (kBlock 0 (kLoop K4l0))) (kSeq (kSeq (kRegion K4r10 [11]) (kBlock 2 (kLoop K4l1))) (kSeq (kRegion K4r14 [12]) (kSeq (kRegion K4r15 [13,14]) (kSeq (kRegion K4r16 [15,16]) (kSeq (kRegion K4r17 [17,18]) (kSeq (kRegion K4r18 [19,20]) (kSeq (kRegion K4r19 [2]) kRet))))))))))))
theorem sco_body (n:Nat) (hn:13≤n) (cx:Ctx) (s:St) (d:Nat) (hd:Die d s.h) (hdn:d<s.n) (hs:s.n+9000000≤far) (hm:s.m=far) :
  ∃ s',finA Try.prog Try.f4 (scoRest (knows 13 (call Try.prog X n)) cx (.cons 3 (.ptr d 0) .nil) [] s)=.val (.bool true) s':=by
 have hf:far=1000000000:=rfl
 have knB:∀ args s,knows 13 (call Try.prog X n) (.fn 7) args s=call Try.prog X n (.fn 7) args s:=fun _ _=>rfl
 have knC:∀ args s,knows 13 (call Try.prog X n) (.fn 8) args s=call Try.prog X n (.fn 8) args s:=fun _ _=>rfl
 have knO:∀ args s,knows 13 (call Try.prog X n) (.fn 9) args s=call Try.prog X n (.fn 9) args s:=fun _ _=>rfl
 have knE:∀ args s,knows 13 (call Try.prog X n) (.fn 10) args s=call Try.prog X n (.fn 10) args s:=fun _ _=>rfl
 have knA:∀ s,knows 13 (call Try.prog X n) (.fn 13) [] s=.val (.bool true) s:=fun _=>rfl
 have knS:∀ args s,knows 13 (call Try.prog X n) (.fn 16) args s=call Try.prog X n (.fn 16) args s:=fun _ _=>rfl
 have knP:∀ args s,knows 13 (call Try.prog X n) (.fn 17) args s=call Try.prog X n (.fn 17) args s:=fun _ _=>rfl
 have ex0:∀ (a b:AV) (s:St),extA 0 s (.tup [a,b])=.val a s:=fun _ _ _=>rfl
 have ex1:∀ (a b:AV) (s:St),extA 1 s (.tup [a,b])=.val b s:=fun _ _ _=>rfl
 have ex30:∀ (a b c:AV) (s:St),extA 0 s (.tup [a,b,c])=.val a s:=fun _ _ _ _=>rfl
 have ex31:∀ (a b c:AV) (s:St),extA 1 s (.tup [a,b,c])=.val b s:=fun _ _ _ _=>rfl
 have ex32:∀ (a b c:AV) (s:St),extA 2 s (.tup [a,b,c])=.val c s:=fun _ _ _ _=>rfl
 unfold scoRest
 simp (disch:=first|omega|(with_unfolding_all exact rfl)|(simp only[new_n,put_n,new_m];omega)|(refine put_m_le ?_;simp only[new_m];omega)) only [K4r2,Abs.W,reduceIte,Nat.reduceEqDiff,Nat.reduceAdd,decide_true,decide_false,kLoop_def,Nat.reduceSub,List.cons_append,List.nil_append,List.append_nil,List.length_cons,List.length_nil,Env.find_set,knB]
 generalize hc1:call _ _ _ (.fn 7) _ _=r1
 obtain ⟨b,offs,errs,v1,v2,v3,v4,v5,v6,q,t1,rfl,st1,d1,ok,hF,hq,hBF,hst2,hst4,hwR,htR⟩:=BenchOf_ex2 (M:=4) (S:=2) (R:=3) (D:=5) hc1 (by omega) hd hdn (by omega) (by omega) (by omega) (by omega) (by omega)
 have n1:s.n≤t1.n:=st1.n
 have k1:t1.n≤s.n+2000:=st1.le
 obtain ⟨hB1,hA1⟩:=hBF t1.h fun _ _ _=>rfl
 have scB:=scB_of hB1 s
 have scF:scalars [v5,v6]=true:=by rw [scals_cons (by have:=scal_ln (hA1.o.len s);simp [scalars,this])];have:=scal_ln (hA1.len s);simp [scalars,this]
 simp (disch:=first|omega|(with_unfolding_all exact rfl)|(simp only[new_n,put_n,new_m];omega)|(refine put_m_le ?_;simp only[new_m];omega)) only [Abs.W,reduceIte,Nat.reduceEqDiff,Nat.reduceAdd,decide_true,decide_false,kLoop_def,Nat.reduceSub,List.cons_append,List.nil_append,List.append_nil,List.length_cons,List.length_nil,Env.find_set,ex30,ex31,ex32,scB,scF]
 simp only [new_n]
 generalize hy':St.put (St.put _ _ _) _ _=y
 have yn:y.n=t1.n+2:=by rw [← hy'];rfl
 have yg:∀ c,c<t1.n→y.h.get c=t1.h.get c:=fun c hc=>by rw [← hy',get_put_ne' _ _ _ _ (by omega),get_put_ne' _ _ _ _ (by omega),get_new_ne _ _ _ (by simp only [new_n];omega),get_new_ne _ _ _ (by omega)]
 have y4:y.h.get t1.n=some (.cells [v1,v2,v3,v4,.int .i64 b.days] (tag 30)):=by rw [← hy',get_put_ne' _ _ _ _ (by omega)];exact get_put_eq _ _ _ _ rfl (by omega)
 have dy:Die d y.h:=d1.keep (yg d (by omega))
 clear hy'
 have hd1:=ok.d1
 have hs0:=ok.s0
 have hs1:=ok.s1
 have hw1:=ok.w1
 have ht1:=ok.t1
 have okv2:∀ t,okA (.val v2 t)=.val v2 t:=fun t=>okA_ne hB1.w.ne
 have okv3:∀ t,okA (.val v3 t)=.val v3 t:=fun t=>okA_ne hB1.s.ne
 have okv4:∀ t,okA (.val v4 t)=.val v4 t:=fun t=>okA_ne hB1.t.ne
 have l2:=hB1.w.len
 rw [List.length_map] at l2
 have l3:=hB1.s.len
 rw [List.length_map] at l3
 have l4:=hB1.t.len
 rw [List.length_map] at l4
 have ad:∀ s,aAdd s .i64 (b.days:Int) 1=.val (.int .i64 ((b.days:Int)+1)) s:=fun s=>aAdd_i64 s _ _ (by omega)
 have scN:scalars [v1,.nilslice,v3,.nilslice,.int .i64 (b.days:Int)]=true:=by
  rw [scals_cons (by have:=scal_ln (hB1.m.len s);simp [scalars,this]),scals_cons rfl,scals_cons (by have:=scal_ln (hB1.s.len s);simp [scalars,this])];rfl
 simp (disch:=first|omega|(with_unfolding_all exact rfl)|(simp only[new_n,put_n,new_m];omega)|(refine put_m_le ?_;simp only[new_m];omega)) only [K4r3,K4r4,Abs.W,reduceIte,Nat.reduceEqDiff,Nat.reduceAdd,decide_true,decide_false,kLoop_def,Nat.reduceSub,List.cons_append,List.nil_append,List.append_nil,List.length_cons,List.length_nil,Env.find_set,y4,scB,Nat.zero_add]
 generalize hz':St.put (St.put (St.put (St.new y _) _ _) _ _) _ _=z
 have zn:z.n=y.n+1:=by rw [← hz'];rfl
 have zg:∀ c,c<y.n→z.h.get c=y.h.get c:=fun c hc=>by rw [← hz',get_put_ne' _ _ _ _ (by omega),get_put_ne' _ _ _ _ (by omega),get_put_ne' _ _ _ _ (by omega),get_new_ne _ _ _ (by omega)]
 have z7:z.h.get y.n=some (.cells [v1,.nilslice,v3,.nilslice,.int .i64 b.days] (tag 30)):=by rw [← hz'];exact get_put_eq _ _ _ _ rfl (by omega)
 clear hz'
 have z4:=(zg t1.n (by omega)).trans y4
 have dz:Die d z.h:=dy.keep (zg d (by omega))
 simp (disch:=first|omega|(with_unfolding_all exact rfl)|(simp only[new_n,put_n,new_m];omega)|(refine put_m_le ?_;simp only[new_m];omega)) only [K4r5,Abs.W,reduceIte,Nat.reduceEqDiff,Nat.reduceAdd,decide_true,decide_false,kLoop_def,Nat.reduceSub,List.cons_append,List.nil_append,List.append_nil,List.length_cons,List.length_nil,Env.find_set,z4,okv2,l2,knS,Nat.zero_add]
 generalize hc2:call _ _ _ (.fn 16) _ _=r2
 obtain ⟨vf,f,tA,rfl,stA,dA,hfl,hpf,hbf⟩:=Shuffle_ex hc2 (by omega) dz (by show d<z.n;omega) (by omega) (by show z.n+2000≤far;omega)
 have nA:z.n≤tA.n:=stA.n
 have kA:tA.n≤z.n+1:=stA.le
 have gA:∀ c,c<z.n→c≠d→tA.h.get c=z.h.get c:=fun c hc hcd=>stA.same c hc hcd
 have hbf':Blk tA.h tA.n z.n 1 (tag 3) (natRows f) vf:=hbf
 have ltA:=hbf'.lt
 have a4:=(gA t1.n (by omega) (by omega)).trans z4
 simp (disch:=first|omega|(with_unfolding_all exact rfl)|(simp only[new_n,put_n,new_m];omega)|(refine put_m_le ?_;simp only[new_m];omega)) only [thenT_turn,Abs.W,reduceIte,Nat.reduceEqDiff,Nat.reduceAdd,decide_true,decide_false,kLoop_def,Nat.reduceSub,List.cons_append,List.nil_append,List.append_nil,List.length_cons,List.length_nil,Env.find_set,a4,okv4,l4,knS,Nat.zero_add]
 generalize hc3:call _ _ _ (.fn 16) _ _=r3
 obtain ⟨vg,g,tB,rfl,stB,dB,hgl,hpg,hbg⟩:=Shuffle_ex hc3 (by omega) dA (by show d<tA.n;omega) (by omega) (by show tA.n+2000≤far;omega)
 have nB:tA.n≤tB.n:=stB.n
 have kB:tB.n≤tA.n+1:=stB.le
 have gB:∀ c,c<tA.n→c≠d→tB.h.get c=tA.h.get c:=fun c hc hcd=>stB.same c hc hcd
 have hbg':Blk tB.h tB.n tA.n 1 (tag 3) (natRows g) vg:=hbg
 have ltB:=hbg'.lt
 have kv4:keptV z.h tA.h v4=true:=(hst4.mono (h':=z.h) (n':=t1.n) (fun x h1 h2=>(zg x (by omega)).trans (yg x h2)) (Nat.le_refl _) (Nat.le_refl _)).kept fun x h1 h2=>gA x (by omega) (by omega)
 have kp4:keptV z.h tA.h (.ptr t1.n 3)=true:=by rw [keptV_ptr,a4,z4,sameO_cells]
 simp (disch:=first|omega|(with_unfolding_all exact rfl)|(simp only[new_n,put_n,new_m];omega)|(refine put_m_le ?_;simp only[new_m];omega)) only [Abs.W,reduceIte,Nat.reduceEqDiff,Nat.reduceAdd,decide_true,decide_false,kLoop_def,Nat.reduceSub,List.cons_append,List.nil_append,List.append_nil,List.length_cons,List.length_nil,Env.find_set]
 rw [endT_kept (l:=[38,39]) (s':=tA) (by simp only [keptAll_cons,keptAll_nil,find_cons,Env.find_set,kv4,kp4,reduceIte,Nat.reduceEqDiff,Bool.and_self])]
 simp (disch:=first|omega|(with_unfolding_all exact rfl)|(simp only[new_n,put_n,new_m];omega)|(refine put_m_le ?_;simp only[new_m];omega)) only [K4r6,Abs.W,reduceIte,Nat.reduceEqDiff,Nat.reduceAdd,decide_true,decide_false,kLoop_def,Nat.reduceSub,List.cons_append,List.nil_append,List.append_nil,List.length_cons,List.length_nil,Env.find_set,endO_nil,regD_ok]
 have gz:∀ c,c<z.n→c≠d→tB.h.get c=z.h.get c:=fun c hc hcd=>(gB c (by omega) hcd).trans (gA c hc hcd)
 have gt:∀ c,c<t1.n→c≠d→tB.h.get c=t1.h.get c:=fun c hc hcd=>(gz c (by omega) hcd).trans ((zg c (by omega)).trans (yg c hc))
 have hF0:∀ h':Heap,(∀ c,s.n≤c→c<t1.n→h'.get c=tB.h.get c)→BenchAt h' t1.n b v1 v2 v3 v4:=fun h' hh=>(hBF h' fun c h1 h2=>(hh c h1 h2).trans (gt c h2 (by omega))).1
 have B4:=(gz t1.n (by omega) (by omega)).trans z4
 have B7:=(gz y.n (by omega) (by omega)).trans z7
 generalize hl0:loopN _ rounds _ _ _ _ _=rl0
 obtain ⟨L1,t5,bw,vw,lw,rfl,hJ,hlw,hmw,gL1⟩:=ord_loop0 n (by omega) _ hl0 dB B7 hF0 (hbf'.mono (n':=tB.n) (gB z.n (by omega) (by omega)) (by omega)) hfl hpf rfl (by omega) B4 (by omega) (Nat.le_refl _) (by omega) (by omega) (by omega) ⟨by omega,by omega,by omega⟩ (by omega) (by simp only [find_cons,Env.find_set,reduceIte,Nat.reduceEqDiff]) (by simp only [find_cons,Env.find_set,reduceIte,Nat.reduceEqDiff]) (by simp only [find_cons,Env.find_set,reduceIte,Nat.reduceEqDiff]) (by simp only [find_cons,Env.find_set,reduceIte,Nat.reduceEqDiff]) (by simp only [find_cons,Env.find_set,reduceIte,Nat.reduceEqDiff];rfl)
 have p3:=(gL1 3 (by omega)).trans (show _=AV.ptr d 0 by simp only [find_cons,Env.find_set,reduceIte,Nat.reduceEqDiff])
 have p4:=(gL1 4 (by omega)).trans (show _=AV.ptr t1.n 0 by simp only [find_cons,Env.find_set,reduceIte,Nat.reduceEqDiff])
 have p7:=(gL1 7 (by omega)).trans (show _=AV.ptr y.n 0 by simp only [find_cons,Env.find_set,reduceIte,Nat.reduceEqDiff])
 have p9:=(gL1 9 (by omega)).trans (show _=vg by simp only [find_cons,Env.find_set,reduceIte,Nat.reduceEqDiff])
 clear gL1
 have n5:=hJ.n
 have k5:=hJ.le
 have lo5:=hJ.lo
 have sw:=hJ.is.scal.1
 have hvw:vw.scalar=true:=by
  cases h:vw.scalar with
  | true=>rfl
  | false=>simp [scalars,h] at sw
 simp (disch:=first|omega|(with_unfolding_all exact rfl)|(simp only[new_n,put_n,new_m];omega)|(refine put_m_le ?_;simp only[new_m];omega)) only [K4r10,Abs.W,reduceIte,Nat.reduceEqDiff,Nat.reduceAdd,decide_true,decide_false,kLoop_def,Nat.reduceSub,List.cons_append,List.nil_append,List.append_nil,List.length_cons,List.length_nil,Env.find_set]
 have C4:=(hJ.same t1.n (by omega) (by omega) (by omega)).trans B4
 have hF1:∀ h':Heap,(∀ c,s.n≤c→c<t1.n→h'.get c=t5.h.get c)→BenchAt h' t1.n b v1 v2 v3 v4:=fun h' hh=>hF0 h' fun c h1 h2=>(hh c h1 h2).trans (hJ.same c (by omega) (by omega) (by omega))
 generalize hl1:loopN _ rounds _ _ _ _ _=rl1
 obtain ⟨L2,t6,bt,vt,lt,rfl,hK1,hlt,hmt,gL2⟩:=ord_loop1 n (by omega) _ hl1 hJ.die hJ.g7 hvw hF1 (hbg'.mono (n':=t5.n) (hJ.same tA.n (by omega) (by omega) (by omega)) (by omega)) hgl hpg rfl (by omega) C4 (by omega) (Nat.le_refl _) (by omega) (by omega) (by omega) ⟨by omega,by omega,by omega⟩ (by omega) (by simp only [Env.find_set,p3,reduceIte,Nat.reduceEqDiff]) (by simp only [Env.find_set,p4,reduceIte,Nat.reduceEqDiff]) (by simp only [Env.find_set,p7,reduceIte,Nat.reduceEqDiff]) (by simp only [Env.find_set,p9,reduceIte,Nat.reduceEqDiff]) (by simp only [Env.find_set,reduceIte,Nat.reduceEqDiff];rfl)
 have j3:=(gL2 3 (by omega)).trans (show _=AV.ptr d 0 by simp only [Env.find_set,p3,reduceIte,Nat.reduceEqDiff])
 have j4:=(gL2 4 (by omega)).trans (show _=AV.ptr t1.n 0 by simp only [Env.find_set,p4,reduceIte,Nat.reduceEqDiff])
 have j7:=(gL2 7 (by omega)).trans (show _=AV.ptr y.n 0 by simp only [Env.find_set,p7,reduceIte,Nat.reduceEqDiff])
 clear gL2
 have n6:=hK1.n
 have k6:=hK1.le
 have lo6:=hK1.lo
 have D4:=(hK1.same t1.n (by omega) (by omega) (by omega)).trans C4
 have D7:=hK1.g7
 simp (disch:=first|omega|(with_unfolding_all exact rfl)|(simp only[new_n,put_n,new_m];omega)|(refine put_m_le ?_;simp only[new_m];omega)) only [K4r14,Abs.W,reduceIte,Nat.reduceEqDiff,Nat.reduceAdd,decide_true,decide_false,kLoop_def,Nat.reduceSub,List.cons_append,List.nil_append,List.append_nil,List.length_cons,List.length_nil,Env.find_set,j3,j4,D4,okv3,l3,knC,Nat.zero_add]
 generalize hc4:call _ _ _ (.fn 8) _ _=r4
 obtain ⟨x7,t7,rfl,st7,d7,x70,x71⟩:=cast_ex hc4 (by omega) hK1.die (by omega) (by omega) (by omega)
 obtain ⟨number,rfl⟩:∃ n:Nat,x7=n:=⟨x7.toNat,by omega⟩
 have n7:t6.n≤t7.n:=st7.n
 have k7:t7.n≤t6.n:=st7.le
 have g7:∀ c,c<t6.n→c≠d→t7.h.get c=t6.h.get c:=fun c hc hcd=>st7.same c hc hcd
 have E4:=(g7 t1.n (by omega) (by omega)).trans D4
 have E7:=(g7 y.n (by omega) (by omega)).trans D7
 have hB7:BenchAt t7.h t7.n b v1 v2 v3 v4:=(hF1 t7.h fun c h1 h2=>(g7 c (by omega) (by omega)).trans (hK1.same c (by omega) (by omega) (by omega))).grow (fun _ _=>rfl) (by omega)
 have rW:=(isAt_rows hJ.is hJ.lo).mono (h':=t7.h) (n':=t7.n) (fun c h1 h2=>(g7 c (by omega) (by omega)).trans (hK1.same c (by omega) (by omega) (by omega))) (by omega)
 have rT:=(isAt_rows hK1.is hK1.lo).mono (h':=t7.h) (n':=t7.n) (fun c h1 h2=>g7 c (by omega) (by omega)) (by omega)
 obtain ⟨o,ho'⟩:∃ o:Bench,o=⟨b.ms,lw,b.ss,lt,b.days⟩:=⟨_,rfl⟩
 have hO7:BenchAt t7.h t7.n o v1 vw v3 vt:=by rw [ho'];exact ⟨hB7.m,rW.at_,hB7.s,rT.at_⟩
 have okO:o.Ok:=by rw [ho'];exact sub_ok ok (fun w h=>(hmw w).mp h) (fun w h=>(hmt w).mp h) (by omega) (by omega)
 have hAm:Among o b:=by rw [ho'];exact among_of (fun w h=>(hmw w).mp h) (fun w h=>(hmt w).mp h)
 have hBm:Among b o:=by rw [ho'];exact among_of (b:=⟨b.ms,lw,b.ss,lt,b.days⟩) (ws:=b.ws) (ts:=b.ts) (fun w h=>(hmw w).mpr h) (fun w h=>(hmt w).mpr h)
 have hod:o.days=b.days:=by rw [ho']
 have hos:o.ss.length=b.ss.length:=by rw [ho']
 simp (disch:=first|omega|(with_unfolding_all exact rfl)|(simp only[new_n,put_n,new_m];omega)|(refine put_m_le ?_;simp only[new_m];omega)) only [K4r15,Abs.W,reduceIte,Nat.reduceEqDiff,Nat.reduceAdd,decide_true,decide_false,kLoop_def,Nat.reduceSub,List.cons_append,List.nil_append,List.append_nil,List.length_cons,List.length_nil,Env.find_set,j4,E4,knO,Nat.zero_add]
 generalize hc8:call _ _ _ (.fn 9) _ _=r8
 obtain ⟨vp,e1,t8,rfl,w8,ho1⟩:=Offs_ex (b:=b) hc8 (by omega) ok hB7 (by omega)
 have n8:=w8.n
 have k8:=w8.le
 have E7a:=(w8.same y.n (by omega)).trans E7
 simp (disch:=first|omega|(with_unfolding_all exact rfl)|(simp only[new_n,put_n,new_m];omega)|(refine put_m_le ?_;simp only[new_m];omega)) only [K4r16,Abs.W,reduceIte,Nat.reduceEqDiff,Nat.reduceAdd,decide_true,decide_false,kLoop_def,Nat.reduceSub,List.cons_append,List.nil_append,List.append_nil,List.length_cons,List.length_nil,Env.find_set,j7,E7a,ex0,ex1,knO,Nat.zero_add]
 generalize hc9:call _ _ _ (.fn 9) _ _=r9
 rw [← hod] at hc9
 obtain ⟨vq,e2,t9,rfl,w9,ho2⟩:=Offs_ex (b:=o) hc9 (by omega) okO (hO7.grow w8.same n8) (by omega)
 have n9:=w9.n
 have k9:=w9.le
 have g9:∀ c,c<t7.n→t9.h.get c=t7.h.get c:=fun c hc=>(w9.same c (by omega)).trans (w8.same c hc)
 have E4b:=(g9 t1.n (by omega)).trans E4
 simp (disch:=first|omega|(with_unfolding_all exact rfl)|(simp only[new_n,put_n,new_m];omega)|(refine put_m_le ?_;simp only[new_m];omega)) only [K4r17,Abs.W,reduceIte,Nat.reduceEqDiff,Nat.reduceAdd,decide_true,decide_false,kLoop_def,Nat.reduceSub,List.cons_append,List.nil_append,List.append_nil,List.length_cons,List.length_nil,Env.find_set,j4,E4b,ex0,ex1,knE,Nat.zero_add]
 generalize hc10:call _ _ _ (.fn 10) _ _=r10
 obtain ⟨vx,e3,t10,rfl,w10,ho3⟩:=Errors_ex (b:=b) (k:=number) hc10 (by omega) ok (by omega) (hB7.grow g9 (by omega)) (by omega)
 have n10:=w10.n
 have k10:=w10.le
 have g10:∀ c,c<t7.n→t10.h.get c=t7.h.get c:=fun c hc=>(w10.same c (by omega)).trans (g9 c hc)
 have E7c:=(g10 y.n (by omega)).trans E7
 simp (disch:=first|omega|(with_unfolding_all exact rfl)|(simp only[new_n,put_n,new_m];omega)|(refine put_m_le ?_;simp only[new_m];omega)) only [K4r18,Abs.W,reduceIte,Nat.reduceEqDiff,Nat.reduceAdd,decide_true,decide_false,kLoop_def,Nat.reduceSub,List.cons_append,List.nil_append,List.append_nil,List.length_cons,List.length_nil,Env.find_set,j7,E7c,ex0,ex1,knE,Nat.zero_add]
 generalize hc11:call _ _ _ (.fn 10) _ _=r11
 rw [← hod] at hc11
 obtain ⟨vy,e4,t11,rfl,w11,ho4⟩:=Errors_ex (b:=o) (k:=number) hc11 (by omega) okO (by omega) (hO7.grow g10 (by omega)) (by omega)
 have n11:=w11.n
 have k11:=w11.le
 have hfin:(e1=0∨e1=9)∧e2=e1∧e3=e4∧∃ l1 l2:List Gap,l1.length≤100∧l2.length≤100∧RowsAt t11.h t11.n 2 (gapRow l1) vp∧RowsAt t11.h t11.n 2 (gapRow l1) vq∧RowsAt t11.h t11.n 2 (gapRow l2) vx∧RowsAt t11.h t11.n 2 (gapRow l2) vy:=by
  have nil:RowsAt t11.h t11.n 2 (gapRow []) .nilslice:=(IsAt.nil t11.h t11.n 0 2 0).rows.at_
  cases hK:knT b (resMany b) with
  | none =>
   have hL:knT o (resMany o)=none:=by
    cases h:knT o (resMany o) with
    | none=>rfl
    | some T1 =>
     exfalso
     subst ho'
     obtain ⟨T2,h2,_⟩:=among_known (b:=⟨b.ms,lw,b.ss,lt,b.days⟩) (ws:=b.ws) (ts:=b.ts) okO ok hBm h
     have h3:knT b (resMany b)=some T2:=h2
     rw [hK] at h3
     cases h3
   obtain ⟨rfl,rfl⟩:vp=.nilslice∧e1=9:=by
    rcases ho1 with ⟨_,h1,h2⟩ | ⟨_,_,h,_⟩
    ·exact ⟨h1,h2⟩
    ·rw [hK] at h;cases h
   obtain ⟨rfl,rfl⟩:vq=.nilslice∧e2=9:=by
    rcases ho2 with ⟨_,h1,h2⟩ | ⟨_,_,h,_⟩
    ·exact ⟨h1,h2⟩
    ·rw [hL] at h;cases h
   obtain ⟨rfl,rfl⟩:vx=.nilslice∧e3=9:=by
    rcases ho3 with ⟨_,h1,h2⟩ | ⟨_,_,h,_⟩
    ·exact ⟨h1,h2⟩
    ·rw [hK] at h;cases h
   obtain ⟨rfl,rfl⟩:vy=.nilslice∧e4=9:=by
    rcases ho4 with ⟨_,h1,h2⟩ | ⟨_,_,h,_⟩
    ·exact ⟨h1,h2⟩
    ·rw [hL] at h;cases h
   exact ⟨.inr rfl,rfl,rfl,[],[],by simp,by simp,nil,nil,nil,nil⟩
  | some T =>
   subst ho'
   obtain ⟨T1,hL,hle⟩:=among_known ok okO hAm hK
   obtain ⟨T2,h2,hge⟩:=among_known (b:=⟨b.ms,lw,b.ss,lt,b.days⟩) (ws:=b.ws) (ts:=b.ts) okO ok hBm hL
   have h3:knT b (resMany b)=some T2:=h2
   rw [hK] at h3
   cases h3
   have heq:∀ i j,i<big b→j<big b→ent T1 i j=ent T i j:=fun i j hi hj=>by
    have p:=hle i j hi hj
    have q:=hge i j hi hj
    exact Prod.ext (Int.le_antisymm p.1 q.1) (Int.le_antisymm q.2 p.2)
   have z0:0<big b:=by show 0<givMany b+1;omega
   have lo1:offsOf b T1=offsOf b T:=by
    unfold offsOf
    refine List.map_congr_left fun i hi=>heq _ _ ?_ z0
    have:=List.mem_range.mp hi
    show 1+i<givMany b+1
    unfold givMany;omega
   have lo2:errsOf b T1 number=errsOf b T number:=by
    unfold errsOf
    refine List.map_congr_left fun i hi=>heq _ _ z0 ?_
    have:=List.mem_range.mp hi
    exact errAt_lt (by omega) (by omega)
   obtain ⟨rfl,q1⟩:e1=0∧RowsAt t8.h t8.n 2 (gapRow (offsOf b T)) vp:=by
    rcases ho1 with ⟨h,_⟩ | ⟨h1,T0,h,h2⟩
    ·rw [hK] at h;cases h
    ·rw [hK] at h;cases h;exact ⟨h1,h2⟩
   obtain ⟨rfl,q2⟩:e2=0∧RowsAt t9.h t9.n 2 (gapRow (offsOf b T1)) vq:=by
    rcases ho2 with ⟨h,_⟩ | ⟨h1,T0,h,h2⟩
    ·rw [hL] at h;cases h
    ·rw [hL] at h;cases h;exact ⟨h1,h2⟩
   obtain ⟨rfl,q3⟩:e3=0∧RowsAt t10.h t10.n 2 (gapRow (errsOf b T number)) vx:=by
    rcases ho3 with ⟨h,_⟩ | ⟨h1,T0,h,h2⟩
    ·rw [hK] at h;cases h
    ·rw [hK] at h;cases h;exact ⟨h1,h2⟩
   obtain ⟨rfl,q4⟩:e4=0∧RowsAt t11.h t11.n 2 (gapRow (errsOf b T1 number)) vy:=by
    rcases ho4 with ⟨h,_⟩ | ⟨h1,T0,h,h2⟩
    ·rw [hL] at h;cases h
    ·rw [hL] at h;cases h;exact ⟨h1,h2⟩
   rw [lo1] at q2
   rw [lo2] at q4
   have hm5:=ok.m1
   refine ⟨.inl rfl,rfl,rfl,offsOf b T,errsOf b T number,by unfold offsOf;rw [List.length_map,List.length_range];omega,by rw [errsOf_len'];omega,?_,?_,?_,q4⟩
   ·exact q1.grow (fun c hc=>(w11.same c (by omega)).trans ((w10.same c (by omega)).trans (w9.same c hc))) (by omega)
   ·exact q2.grow (fun c hc=>(w11.same c (by omega)).trans (w10.same c hc)) (by omega)
   ·exact q3.grow (fun c hc=>w11.same c hc) (by omega)
 obtain ⟨he1,rfl,rfl,l1,l2',hl1',hl2',R1,R2,R3,R4⟩:=hfin
 have P1:=sameSpans_ok n (by omega) R1 R2 hl1' (by omega)
 have P2:=sameSpans_ok n (by omega) R3 R4 hl2' (by omega)
 have u19s28:=fun cl L s=>congrFun (congrFun (congrFun K4r19s28.eq_1 cl) L) s
 have u19s25:=fun cl L s=>congrFun (congrFun (congrFun K4r19s25.eq_1 cl) L) s
 have u19s24:=fun cl L s=>congrFun (congrFun (congrFun K4r19s24.eq_1 cl) L) s
 have u19s23:=fun cl L s=>congrFun (congrFun (congrFun K4r19s23.eq_1 cl) L) s
 have u19s20:=fun cl L s=>congrFun (congrFun (congrFun K4r19s20.eq_1 cl) L) s
 have u19s19:=fun cl L s=>congrFun (congrFun (congrFun K4r19s19.eq_1 cl) L) s
 have u19s18:=fun cl L s=>congrFun (congrFun (congrFun K4r19s18.eq_1 cl) L) s
 have u19s15:=fun cl L s=>congrFun (congrFun (congrFun K4r19s15.eq_1 cl) L) s
 have u19s14:=fun cl L s=>congrFun (congrFun (congrFun K4r19s14.eq_1 cl) L) s
 have u19s13:=fun cl L s=>congrFun (congrFun (congrFun K4r19s13.eq_1 cl) L) s
 have u19s12:=fun cl L s=>congrFun (congrFun (congrFun K4r19s12.eq_1 cl) L) s
 have u19s11:=fun cl L s=>congrFun (congrFun (congrFun K4r19s11.eq_1 cl) L) s
 have u19s10:=fun cl L s=>congrFun (congrFun (congrFun K4r19s10.eq_1 cl) L) s
 have u19s7:=fun cl L s=>congrFun (congrFun (congrFun K4r19s7.eq_1 cl) L) s
 have u19s6:=fun cl L s=>congrFun (congrFun (congrFun K4r19s6.eq_1 cl) L) s
 have u19s5:=fun cl L s=>congrFun (congrFun (congrFun K4r19s5.eq_1 cl) L) s
 have d0:decide ((0:Int)=0)=true:=rfl
 have d90:decide ((9:Int)=0)=false:=rfl
 have d9:decide ((9:Int)=9)=true:=rfl
 have dee:∀ x:Int,decide (x=x)=true:=fun x=>by simp
 rcases he1 with rfl | rfl
 ·simp (config:={ maxSteps:=3000000 }) (disch:=first|omega|(with_unfolding_all exact rfl)|(simp only[new_n,put_n,new_m];omega)|(refine put_m_le ?_;simp only[new_m];omega)) only [K4r19,u19s28,u19s25,u19s24,u19s23,u19s20,u19s19,u19s18,u19s15,u19s14,u19s13,u19s12,u19s11,u19s10,u19s7,u19s6,u19s5,res4,Abs.W,reduceIte,Nat.reduceEqDiff,Nat.reduceAdd,decide_true,decide_false,kLoop_def,Nat.reduceSub,List.cons_append,List.nil_append,List.append_nil,List.length_cons,List.length_nil,Env.find_set,d0,d90,d9,dee,ex0,ex1,knP,P1,P2,knA]
  exact ⟨_,rfl⟩
 ·simp (config:={ maxSteps:=3000000 }) (disch:=first|omega|(with_unfolding_all exact rfl)|(simp only[new_n,put_n,new_m];omega)|(refine put_m_le ?_;simp only[new_m];omega)) only [K4r19,u19s28,u19s25,u19s24,u19s23,u19s20,u19s19,u19s18,u19s15,u19s14,u19s13,u19s12,u19s11,u19s10,u19s7,u19s6,u19s5,res4,Abs.W,reduceIte,Nat.reduceEqDiff,Nat.reduceAdd,decide_true,decide_false,kLoop_def,Nat.reduceSub,List.cons_append,List.nil_append,List.append_nil,List.length_cons,List.length_nil,Env.find_set,d0,d90,d9,dee,ex0,ex1,knP,P1,P2,knA]
  exact ⟨_,rfl⟩
end Go.Proofs.Ytfekafjfidohdaa.walk
namespace Go.Proofs.Ytfekafjfidohdaa.mdie
open Go.RowKit
def Die (b:Nat) (w:World):Prop:=∃ s,w.heap[b]? = some (.cells #[.int .u64 s] 63 (0,0))
theorem Die.old {b:Nat} {w:World} (h:Die b w):(∃ s,w.cell? ⟨b,0,none⟩=some (.int .u64 s))∧w.frozen? ⟨b,0,none⟩=false:=by
 obtain ⟨s,hs⟩:=h
 refine ⟨⟨s,?_⟩,?_⟩
 ·unfold World.cell?;simp [hs]
 ·unfold World.frozen?;simp [hs]
structure Stir (b:Nat) (w w':World):Prop where
 below:Below b w w'
 rest:∀ p:Addr,p.block≠b→p.block<w.heap.size→w'.cell? p=w.cell? p∧w'.frozen? p=w.frozen? p
 die:Die b w'
def Gives (b:Nat) (k:IntKind) (Q:Int→Prop) (w:World) (e:Ending) (w':World):Prop:=∃ r,Q r∧e=.returned (.int k r)∧Stir b w w'
theorem bits_nonneg (op:BinOp) (x y:Int):0≤bits op .u64 x y:=by
 have:=bounds_u64 (wf_bits (k:=.u64) (op:=op) (x:=x) (y:=y))
 exact this.1
theorem Stir.set {b:Nat} {w:World} (h:Die b w) (s:Int):Stir b w (w.setCell ⟨b,0,none⟩ (.int .u64 s)):=by
 obtain ⟨t,ht⟩:=h
 refine ⟨(Below.refl b w).setCell (p:=⟨b,0,none⟩) (Nat.le_refl b) _,fun p hp _=>⟨World.cell?_of_block (Below.heap_setCell _ _ _ _ hp),World.frozen?_of_block (Below.heap_setCell _ _ _ _ hp)⟩,⟨s,?_⟩⟩
 unfold World.setCell
 simp [Array.getElem?_modify,ht]
theorem roll (b:Nat) (w:World) (h:Die b w):Calls Try.prog 19 #[.pointer (some ⟨b,0,none⟩)] w (Gives b .u64 (fun r=>0≤r) w):=by
 have h':=Lib.hid h
 obtain ⟨⟨s,hs⟩,hf⟩:=h.old
 clear h
 go_enter Try.func19,Try.ntmps19
 go_wp2
 go_ret
 exact ⟨_,bits_nonneg _ _ _,rfl,Stir.set h'.out _⟩
theorem Stir.refl {b:Nat} {w:World} (h:Die b w):Stir b w w:=⟨Below.refl _ _,fun _ _ _=>⟨rfl,rfl⟩,h⟩
theorem Stir.trans {b:Nat} {u v w:World} (h:Stir b u v) (k:Stir b v w):Stir b u w :=
 ⟨h.below.trans k.below,fun p hp hb=>⟨(k.rest p hp (Nat.lt_of_lt_of_le hb h.below.size)).1.trans (h.rest p hp hb).1,(k.rest p hp (Nat.lt_of_lt_of_le hb h.below.size)).2.trans (h.rest p hp hb).2⟩,k.die⟩
theorem Die.lt {b:Nat} {w:World} (h:Die b w):b<w.heap.size:=by obtain ⟨⟨s,hs⟩,_⟩:=h.old;exact World.block_lt_of_cell? w _ hs
theorem Stir.drew {b:Nat} {w w':World} (h:Stir b w w'):Stir b w w'.drew:=h.trans ⟨⟨rfl,rfl,rfl,Nat.le_refl _,fun _ _=>rfl⟩,fun _ _ _=>⟨rfl,rfl⟩,h.die⟩
def Born (w:World) (e:Ending) (w':World):Prop:=e=.returned (.pointer (some ⟨w.heap.size,0,none⟩))∧Below w.heap.size w w'∧Die w.heap.size w'∧w.heap.size<w'.heap.size
theorem Die.born (w:World) (s:Int):Die w.heap.size (w.alloc (.cells #[.int .u64 s] 63)):=⟨s,by show (w.heap.push _)[w.heap.size]? = _;rw [Array.getElem?_push,if_pos rfl]⟩
set_option maxRecDepth 100000 in
theorem born (x:Option Addr) (n c:Nat) (w:World) (hn:n≤maxLen) (hc:∀ i,i<n→∃ b o,x=some ⟨b,o,none⟩∧∃ v,w.cell? ⟨b,o+i,none⟩=some (.int .i64 v)) :
  Calls Try.prog 6 #[.slice x n c] w (Born w):=by
 unfold maxLen at hn
 have HC:=Lib.hid hc
 clear hc
 have hdie:=Lib.hid (Die.born w 2611923443488327891)
 go_enter Try.func6,Try.ntmps6
 go_wp2
 go_loopw [4] (fun i wr=>∃ k:Nat,k≤n∧i=.int .i64 k∧Stir w.heap.size (w.alloc (.cells #[.int .u64 2611923443488327891] 63)) wr) (fun i _=>n - (intOf i).toNat)
 case atStart=>exact ⟨0,Nat.zero_le _,rfl,Stir.refl hdie.out⟩
 case round =>
  obtain ⟨k,hk,rfl,hs⟩:=hrel
  by_cases hlt:k<n
  ·obtain ⟨b,o,rfl,v,hv⟩:=HC.out k hlt
   have hb:=World.block_lt_of_cell? _ _ hv
   simp only at hb
   have hv1:wr.cell? ⟨b,o+k,none⟩=some (.int .i64 v):=((hs.rest ⟨b,o+k,none⟩ (Nat.ne_of_lt hb) (by simp;omega)).1.trans (World.cell?_of_block (Below.heap_alloc _ _ _ hb))).trans hv
   clear hv
   obtain ⟨⟨s,hd⟩,hf⟩:=hs.die.old
   have hst:=Lib.hid (fun s1:Int=>(hs.drew).trans (Stir.set hs.drew.die s1))
   have hlt':(k:Int)<(n:Int):=by omega
   have hk0:(0:Int)≤(k:Int):=by omega
   go_wp2
   go_still_tail 12,(by kernel_rfl)
   change wpList _ _ _ _ _ wr.drew
   go_wp2_with (go_at_call 19;refine (roll _ _ ?_).mono ?_;exact (hst.out _).die;rintro e w1 ⟨r,hr,rfl,hs1⟩;(have hs2:=(hst.out _).trans hs1))
   go_roundw
   case rel=>exact ⟨k+1,by omega,by go_num,hs2⟩
   case measure=>simp [intOf];omega
  ·go_wp2
   go_ret
   exact ⟨rfl,((Below.refl w.heap.size w).alloc (Nat.le_refl _) _).trans hs.below,hs.die,by have:=hs.below.size;simp at this;omega⟩
end Go.Proofs.Ytfekafjfidohdaa.mdie
namespace Go.Abs
open Go.RowKit
variable {P:Program}
theorem mid_calls {cl:CallF} (hc:CallSound P cl) {f:FuncId} {fn:Func} (hf:P.funcs[f]? = some fn) {c0 c1 rest:Code} (hb:fn.body=some (.seq c0 (.seq c1 rest))) {X:FuncId→List Nat} {k:K} {A:Array Value} {W:World} {R:Ending→World→Prop}
  (h:c0.wp P (Exit.then (fun a w=>c1.wp P (Exit.then (fun a w=>∃ ρ L s v s',ActRel ρ fn.ntmps L [] a∧Clean (X f) L∧SRel ρ s w∧finA P fn (k cl ⟨f,none,fn.ntmps,X f⟩ L [] s)=.val v s'∧∀ ρ' V W',After ρ s w ρ' s' W'→VRel ρ' v V→R (.returned V) W') fun _ _ _=>False) a w) fun _ _ _=>False)
   { tmps:=A++Array.replicate (fn.ntmps - A.size) undef,defers:=[] } W)
  (hk:codeK P (X f) fn.ntmps rest=some k):Calls P f A W R:=by
 intro cs
 obtain ⟨b,hbd⟩:∃ b:Frame,b={ (default:Frame) with fn:=f,kind:=.normal }:=⟨_,rfl⟩
 have hr:b.roundOf=none:=by rw [hbd];rfl
 have henter:Frame.enter P f A .normal=b.at { tmps:=A++Array.replicate (fn.ntmps - A.size) undef,defers:=[] } [.code (.seq c0 (.seq c1 rest))]:=by
  rw [hbd];simp [Frame.enter,Frame.at,hf,hb]
 obtain ⟨e0,a0,w0,q0,ar0⟩:=h b [.code (.seq c1 rest)] cs
 cases e0<;>simp only [Exit.then] at q0
 obtain ⟨e1,a1,w1,q1,ar1⟩:=q0 b [.code rest] cs
 cases e1<;>simp only [Exit.then] at q1
 obtain ⟨ρ,L,s,v,s',hact,hclean,hs,hfin,hR⟩:=q1
 have st1:Steps P (lone (Frame.enter P f A .normal) cs W) (lone (b.atR a1 [.code rest]) cs w1):=by
  rw [henter,Frame.atR_of_none hr]
  exact (Steps.head step_seq ar0).trans (Steps.head step_seq ar1)
 have hctx:CtxRel ρ ⟨f,none,fn.ntmps,X f⟩ b:=⟨by rw [hbd],by rw [hbd],fun _=>hr,fun l e=>by cases e⟩
 generalize hr2:k cl ⟨f,none,fn.ntmps,X f⟩ L [] s=r at hfin
 cases r with
 | fail=>cases hfin
 | done e L1 d s₁ =>
  obtain ⟨ρ₁,a₁,W₁,af,ha₁,_,_,st⟩:=codeK_sound rest hk hc rfl rfl hctx hact hclean hs hr2
  have fin:∀ (hle:leaveA P fn.results.toList L1 d s₁=.val v s') (hst:∃ t,Steps P (lone (Frame.enter P f A .normal) cs W) (lone (back b a₁ t) cs W₁)),
    ∃ V w' fr,R (.returned V) w'∧Steps P (lone (Frame.enter P f A .normal) cs W) (lone fr cs w')∧fr.fn=f∧fr.leaving P w' (.returned V):=by
   intro hle hst
   obtain ⟨V,W₂,af₂,hv,st₂⟩:=leaveA_calls ha₁ af.rel hle
   obtain ⟨t,st₁⟩:=hst
   obtain ⟨fr,h1,h2,h3⟩:=st₂ b (by rw [hbd]) (by rw [hbd];exact hf) t cs
   exact ⟨V,W₂,fr,hR _ _ _ (af.trans af₂) hv,Steps.trans st₁ h1,by rw [h2,hbd],h3⟩
  cases e with
  | exit id=>cases hfin
  | norm =>
   have z:=st [] cs
   obtain ⟨V,w',fr,h1,h2,h3,h4⟩:=fin hfin ⟨[],st1.trans (Steps.trans z (.one (stepR_end hr)))⟩
   exact ⟨.returned V,w',fr,h1,h2,h3,h4⟩
  | ret =>
   obtain ⟨k0,z⟩:=st [] cs
   obtain ⟨V,w',fr,h1,h2,h3,h4⟩:=fin hfin ⟨.code .ret::k0,st1.trans (z.trans (.one (stepR_ret hr)))⟩
   exact ⟨.returned V,w',fr,h1,h2,h3,h4⟩
end Go.Abs
set_option maxRecDepth 10000
namespace Go.Proofs.Ytfekafjfidohdaa.walk
open Go.Abs Go.RowKit Go.Proofs.Ytfekafjfidohdaa.code
noncomputable def die0 (F:Int):St:=St.new ⟨.nil,0,far⟩ (.cells [.int .u64 F] (tag 63))
def rho0 (d:Nat):Rho:=fun b=>if b=0 then some (d,(0,0)) else none
theorem die0_get {F:Int} {b:Nat} {o:AObj} (h:(die0 F).h.get b=some o):b=0∧o=.cells [.int .u64 F] (tag 63):=by
 by_cases e:b=0
 ·subst e
  have:(die0 F).h.get 0=some (.cells [.int .u64 F] (tag 63)):=get_new_eq _ _ _ rfl (by decide)
  rw [this] at h
  exact ⟨rfl,(Option.some.inj h).symm⟩
 ·unfold die0 at h
  rw [get_new_ne _ _ _ e] at h
  cases h
theorem die0_has {F:Int} {b x:Nat} {o:AObj} (h:Has (die0 F).h b x o):b=0∧x=0∧o=.cells [.int .u64 F] (tag 63):=by
 obtain ⟨y,hy,hp⟩:=h
 obtain ⟨rfl,rfl⟩:=die0_get hy
 have hl:AObj.lone (.cells [.int .u64 F] (tag 63)):=trivial
 rw [parts_lone hl] at hp
 have:=List.mem_singleton.mp hp
 cases this
 exact ⟨rfl,rfl,rfl⟩
theorem die0_rel {F:Int} {d:Nat} {W:World} (h:W.heap[d]? = some (.cells #[.int .u64 F] 63 (0,0))):SRel (rho0 d) (die0 F) W:=by
 refine ⟨⟨fun b o hb=>?_,fun b x o hb=>?_,fun b b' x x' o o' c e e' hb hb' _ _=>?_,fun g cs hg=>(by cases hg),fun b x o c e hb hr=>rfl,fun b x x' o o' c e e' hb hb' hr hr'=>?_⟩,fun b hb=>?_⟩
 ·rw [(die0_get hb).1];decide
 ·obtain ⟨rfl,rfl,rfl⟩:=die0_has hb
  exact ⟨d,(0,0),_,if_pos rfl,h,.cells rfl (.cons (.int _ _) .nil) (Typed.tag _)⟩
 ·rw [(die0_has hb).1,(die0_has hb').1]
 ·obtain ⟨_,rfl,_⟩:=die0_has hb
  obtain ⟨_,rfl,_⟩:=die0_has hb'
  rw [hr] at hr'
  cases hr'
  rfl
 ·have:1≤b:=hb
  exact if_neg (by omega)
end Go.Proofs.Ytfekafjfidohdaa.walk
set_option maxRecDepth 10000
namespace Go.Proofs.Ytfekafjfidohdaa.walk
open Go.Abs Go.RowKit Go.Proofs.Ytfekafjfidohdaa.code
set_option maxRecDepth 100000 in
theorem sco_calls (a:Option Addr) (n c:Nat) (w:World) (hn:n≤maxLen) (hc:∀ i,i<n→∃ b o,a=some ⟨b,o,none⟩∧∃ v,w.cell? ⟨b,o+i,none⟩=some (.int .i64 v)) :
  Calls Try.prog 4 #[.slice a n c] w fun e w'=>e=.returned (.bool true)∧Below w.heap.size w w':=by
 have HC:=Lib.hid hc
 clear hc
 refine mid_calls (cl:=knows 13 (call Try.prog X 20)) (knows_sound (call_sound 200) Try.func13 awake.entered (call_sound 20)) Try.func4 rfl (X:=X) (k:=scoRest) ?_ (by kernel_rfl)
 simp only [Try.ntmps4,List.size_toArray,List.length_cons,List.length_nil,Nat.reduceAdd,Nat.reduceSub,Array.replicate_succ,Array.replicate_zero,List.push_toArray,List.append_toArray,List.nil_append,List.cons_append]
 go_wp2_with (go_at_call 6;((with_reducible refine (mdie.born _ _ _ _ hn HC.out).mono ?_);rintro e w1 ⟨rfl,hB1,⟨F,hF⟩,hg1⟩))
 have hd0:walk.Die 0 (die0 F).h:=⟨F,get_new_eq _ _ _ rfl (by decide)⟩
 obtain ⟨s',hs'⟩:=sco_body 20 (by omega) ⟨4,none,Try.f4.ntmps,X 4⟩ (die0 F) 0 hd0 (by show 0<1;omega) (by show 1+9000000≤1000000000;omega) rfl
 refine ⟨rho0 w.heap.size,.cons 3 (.ptr 0 0) .nil,die0 F,.bool true,s',⟨fun t=>?_,rfl,.nil⟩,fun t ht=>?_,die0_rel hF,hs',fun ρ' V W' af hv=>?_⟩
 ·by_cases e:t=3
  ·subst e
   exact .ptr (e:=(0,0)) (if_pos rfl)
  ·rw [show (Env.cons 3 (.ptr 0 0) .nil).find t=AV.bad by rw [find_cons,if_neg (by omega)];rfl]
   exact .bad _
 ·by_cases e:t=3
  ·subst e
   have hx:(X 4).contains 3=true:=by kernel_rfl
   rw [hx] at ht
   cases ht
  ·rw [find_cons,if_neg (by omega)];rfl
 ·cases hv
  refine ⟨rfl,hB1.trans ⟨af.os,af.tape,af.output,af.size,fun k hk=>af.frame k (by omega) fun b x o e hb hr=>?_⟩⟩
  obtain ⟨_,rfl,_⟩:=die0_has hb
  have hr:some (w.heap.size,(0,0))=some (k,e):=hr
  injection hr with hr
  injection hr with hr _
  omega
end Go.Proofs.Ytfekafjfidohdaa.walk
