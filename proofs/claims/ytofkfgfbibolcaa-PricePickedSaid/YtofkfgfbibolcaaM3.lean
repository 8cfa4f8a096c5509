/- Picked sales: the whole of price.Pick. -/
import Derived.Test.YtofkfgfbibolcaaM2
import Derived.Test.YtofkfgfbibolcaaCodes
import Derived.Test.YtofkfgfbibolcaaProg
import Derived.Tactics
import Derived.Tactics2
import Derived.WalkKit
import Derived.OpenShut
import Derived.Below
import Derived.Lib.Hide
import Derived.KernelRfl
import Derived.Deep.RegionHeld3
import Derived.OwnWalk
import Derived.StillTailTactics
import Derived.Test.YtofkfgfbibolcaaAbsTop
import Derived.Test.YtofkfgfbibolcaaAbsWalk
import Derived.Test.YtofkfgfbibolcaaAwake
import Derived.Test.YtofkfgfbibolcaaWalkAll
set_option linter.unusedSimpArgs false
set_option maxHeartbeats 16000000
set_option linter.unusedVariables false
set_option maxRecDepth 10000
namespace Go.Abs
theorem leave_tt {P:Program} (a b:Nat) (L:Env) (s:St):leaveA P [.tmp a,.tmp b] L [] s=.val (.tup [L.find a,L.find b]) s:=rfl
theorem make_nat (z:List AV) (s:St) (n:Nat) (hn:n≤1000):makeA z 8 s (.int .i64 (n:Int)) (.int .i64 (n:Int))=.val (.slice s.n 0 n n false) (s.new (.cells (zerosA z n) 0)):=by
 show (match Nat.ble n n with | false=>ARes.fail | true=>match Nat.ble (n * 8) limit with | false=>.fail | true=>match Nat.ble n limit with | false=>.fail | true=>.val (.slice s.n 0 n n false) (s.new (.cells (zerosA z n) 0)))=_
 rw [Nat.ble_eq_true_of_le (Nat.le_refl n),Nat.ble_eq_true_of_le (show n * 8≤limit by unfold limit;omega),Nat.ble_eq_true_of_le (show n≤limit by unfold limit;omega)]
end Go.Abs
namespace Go.Proofs.Ytofkfgfbibolcaa.walk
open Go.Abs Go.Proofs.Ytofkfgfbibolcaa.code
theorem pick_loop (N:Nat) (hN:1≤N) {cx:Ctx} {u w:St} {b9 n bl kk T many:Nat} {v9 v11:AV} {L:Env} {r:R} (hr:loopN K7l1 rounds (call Try.prog X N) cx L [] w=r) (J:PickJ u w b9 n (List.range n) v9 [] v11 bl kk) (hn:n≤40) (hT:T≤1000000000) (hm:many≤n) (hs:u.n+kk+3000≤far)
  (q1:L.find 1=.int .i64 (T:Int)) (q9:L.find 9=v9) (q11:L.find 11=v11) (q42:L.find 42=.int .i64 (many:Int)) (q43:L.find 43=.int .i64 (0:Nat)) :
  ∃ L1 t v bl',r=.done (.exit 2) L1 [] t∧L1.find 11=v∧Beside u t (kk+300)∧u.n≤bl'∧IsAt t.h t.n bl' 1 (tag 3) (natRows (pickL many T (List.range n))) v:=by
 have hf:far=1000000000:=rfl
 obtain ⟨e,L1,t,rfl,rfl,v,bl',h1,h2,h3,h4⟩:=loop_of hr (fun j L' t'=>∃ l v9 ps v11 bl T',PickJ u t' b9 n l v9 ps v11 bl (kk+5 * j)∧L'.find 1=.int .i64 ((T':Nat):Int)∧L'.find 9=v9∧L'.find 11=v11∧L'.find 42=.int .i64 (many:Int)∧L'.find 43=.int .i64 (j:Int)∧l.length=n - j∧ps.length=j∧T'≤1000000000∧ps++pickL (many - j) T' l=pickL many T (List.range n))
  (fun e L' t'=>e=.exit 2∧∃ v bl',L'.find 11=v∧Beside u t' (kk+300)∧u.n≤bl'∧IsAt t'.h t'.n bl' 1 (tag 3) (natRows (pickL many T (List.range n))) v) many (by unfold rounds;omega)
  ⟨List.range n,v9,[],v11,bl,T,J,q1,q9,q11,q42,q43,by rw [List.length_range];rfl,rfl,hT,by rw [Nat.sub_zero];rfl⟩
  (fun j L' t' hj ⟨l,v9,ps,v11,bl,T',hJ,p1,p9,p11,p42,p43,hl,hp,hT',hpick⟩=>by
   by_cases hlt:j<many
   ·obtain ⟨L2,t2,v9',v11',bl',z1,z2,z3,z4,z5,z6,z7⟩:=pick_round N hN cx hJ (by omega) (by omega) (by omega) hT' hlt (by omega) (by omega) p1 p9 p11 p42 p43
    have hmod:T' % l.length<l.length:=Nat.mod_lt _ (by omega)
    have hel:=List.length_eraseIdx_of_lt hmod
    have hdv:=Nat.div_le_self T' l.length
    refine .inl ⟨hlt,L2,t2,z1,l.eraseIdx (T' % l.length),v9',ps++[l.getD (T' % l.length) 0],v11',bl',T' / l.length,z2,z3,z4,z5,z6,z7,by omega,by rw [List.length_append,List.length_singleton];omega,by omega,?_⟩
    rw [← hpick,List.append_assoc]
    congr 1
    obtain ⟨m,hm'⟩:∃ m,many - j=m+1:=⟨many - j - 1,by omega⟩
    rw [show many - (j+1)=m by omega,hm']
    rfl
   ·obtain rfl:j=many:=by omega
    have e0:decide ((j:Int)<(j:Int))=false:=by simp
    rw [Nat.sub_self] at hpick
    have hps:ps=pickL j T (List.range n):=by rw [← hpick];exact (List.append_nil ps).symm
    refine .inr ⟨.exit 2,L'.set 44 (.bool false),t',by simp,?_,rfl,v11,bl,?_,hJ.be.mono (by omega),hJ.lob,by rw [← hps];exact hJ.pk⟩
    ·simp (disch:=first|omega|(with_unfolding_all exact rfl)|(simp only[new_n,put_n,new_m];omega)|(refine put_m_le ?_;simp only[new_m];omega)) only [res7,K7r0,K7r1,K7r2,K7r3,K7r4,K7r5,K7r6,K7r7,K7r8,K7r9,K7r10,K7r11,K7r12,K7r13,K7r14,K7r15,K7r16,K7r17,K7r18,K7,K7l1,Abs.W,reduceIte,Nat.reduceEqDiff,Nat.reduceAdd,decide_true,decide_false,kLoop_def,Nat.reduceSub,List.cons_append,List.nil_append,List.append_nil,List.length_cons,List.length_nil,Env.find_set,p42,p43,e0]
    ·simp only [Env.find_set,p11,reduceIte,Nat.reduceEqDiff])
 exact ⟨L1,t,v,bl',rfl,h1,h2,h3,h4⟩
theorem Pick_ex {N T many:Nat} {b:Book} {v:AV} {s:St} {r:ARes} (hr:call Try.prog X N (.fn 7) [.agg (bookV b v),.int .i64 (T:Int),.int .i64 (many:Int)] s=r) (hN:8≤N) (ok:b.Ok) (hB:RowsAt s.h s.n 6 (b.sales.map Sale.cells) v) (hT:T≤1000000000) (hm:many≤b.sales.length) (hm10:many≤10) (hs:s.n+8000≤far) :
  ∃ w bl t,r=.val (.tup [w,.int .i64 0]) t∧New s t 400∧s.n≤bl∧IsAt t.h t.n bl 1 (tag 3) (natRows (pickL many T (List.range b.sales.length))) w:=by
 obtain ⟨n,rfl⟩:∃ n,N=n+1:=⟨N - 1,by omega⟩
 have hf:far=1000000000:=rfl
 have ok':=ok
 obtain ⟨k0,k1,g0,g1,hl,hok⟩:=ok'
 obtain ⟨v',t,e,st,w,bl,rfl,hq1,hq2⟩:=call_new' (n:=n) (args:=[.agg (bookV b v),.int .i64 (T:Int),.int .i64 (many:Int)]) (s:=s) (k:=400) (Q:=fun v' h m=>∃ w bl,v'=.tup [w,.int .i64 0]∧s.n≤bl∧IsAt h m bl 1 (tag 3) (natRows (pickL many T (List.range b.sales.length))) w) Try.func7 rfl (fun u uh un um=>by
  rw [← uh,← un] at hB
  rw [← un]
  have kv:∀ t,okA (.val v t)=.val v t:=fun t=>okA_ne hB.ne
  have lv:=hB.len
  rw [List.length_map] at lv
  have scB:scalars (bookV b v)=true:=by
   have hv:=scal_ln (hB.len u)
   show scalars [v]=true
   unfold scalars
   rw [hv]
   rfl
  obtain ⟨w0,hw0⟩:∃ w0:St,w0=u.new (.cells (bookV b v) (tag 27)):=⟨_,rfl⟩
  have w0n:w0.n=u.n+1:=by rw [hw0];rfl
  have w0m:w0.m=far:=by rw [hw0];exact um
  have w0g:∀ c,c<u.n→w0.h.get c=u.h.get c:=fun c hc=>by rw [hw0,get_new_ne _ _ _ (by omega)]
  have w03:w0.h.get u.n=some (.cells (bookV b v) (tag 27)):=by rw [hw0];exact get_new_eq _ _ _ rfl (by omega)
  have hR:=hB.grow w0g (by omega:u.n≤w0.n)
  have hck:=check_ok n (by omega) b ok v ⟨w0.h,w0.n,far⟩ hR (by show w0.n+4000≤far;omega)
  have hck':=check_ok n (by omega) b ok v w0 hR (by omega)
  have z0:decide ((0:Int)=0)=true:=rfl
  unfold bookV at w03 hw0
  rw [enter7]
  simp (disch:=first|omega|(with_unfolding_all exact rfl)|(simp only[new_n,put_n,new_m];omega)|(refine put_m_le ?_;simp only[new_m];omega)) only [res7,K7r0,K7r1,K7r2,K7r3,K7r4,K7r5,K7r6,K7r7,K7r8,K7r9,K7r10,K7r11,K7r12,K7r13,K7r14,K7r15,K7r16,K7r17,K7r18,K7,Abs.W,reduceIte,Nat.reduceEqDiff,Nat.reduceAdd,decide_true,decide_false,kLoop_def,Nat.reduceSub,List.cons_append,List.nil_append,List.append_nil,List.length_cons,List.length_nil,Env.find_set,scB,Nat.zero_add]
  rw [← hw0]
  simp (disch:=first|omega|(with_unfolding_all exact rfl)|(simp only[new_n,put_n,new_m];omega)|(refine put_m_le ?_;simp only[new_m];omega)) only [res7,K7r0,K7r1,K7r2,K7r3,K7r4,K7r5,K7r6,K7r7,K7r8,K7r9,K7r10,K7r11,K7r12,K7r13,K7r14,K7r15,K7r16,K7r17,K7r18,K7,Abs.W,reduceIte,Nat.reduceEqDiff,Nat.reduceAdd,decide_true,decide_false,kLoop_def,Nat.reduceSub,List.cons_append,List.nil_append,List.append_nil,List.length_cons,List.length_nil,Env.find_set,w03,kv,lv,hck,hck',within_ok,or_new3,z0,kFold_def,foldA_nil,foldA_cons,minA_i64,Nat.zero_add]
  obtain ⟨w1,hw1⟩:∃ w1:St,w1=w0.new (.cells [.int .i64 0,.int .i64 0,.int .i64 0] 0):=⟨_,rfl⟩
  rw [← hw1]
  have w1n:w1.n=w0.n+1:=by rw [hw1];rfl
  have w1m:w1.m=far:=by rw [hw1];exact w0m
  have w1g:∀ c,c<u.n→w1.h.get c=u.h.get c:=fun c hc=>by rw [hw1,get_new_ne _ _ _ (by omega)];exact w0g c hc
  have mk:=make_nat [.int .i64 0] w1 b.sales.length (by omega)
  simp (disch:=first|omega|(with_unfolding_all exact rfl)|(simp only[new_n,put_n,new_m];omega)|(refine put_m_le ?_;simp only[new_m];omega)) only [res7,K7r0,K7r1,K7r2,K7r3,K7r4,K7r5,K7r6,K7r7,K7r8,K7r9,K7r10,K7r11,K7r12,K7r13,K7r14,K7r15,K7r16,K7r17,K7r18,K7,Abs.W,reduceIte,Nat.reduceEqDiff,Nat.reduceAdd,decide_true,decide_false,kLoop_def,Nat.reduceSub,List.cons_append,List.nil_append,List.append_nil,List.length_cons,List.length_nil,Env.find_set,kMake_def,mk,Nat.zero_add]
  generalize hlp:loopN _ rounds _ _ _ _ _=rl
  obtain ⟨y,L0,hy,hL0,hlp'⟩:=loop_start hlp
  have yn:y.n=w1.n+1:=by rw [hy];rfl
  have ym:y.m=far:=by rw [hy];exact w1m
  have yg:∀ c,c<w1.n→y.h.get c=w1.h.get c:=fun c hc=>by rw [hy,get_new_ne _ _ _ (by omega)]
  have yp:y.h.get w1.n=some (.cells (List.replicate b.sales.length (.int .i64 0)) 0):=by rw [← zeros1,hy];exact get_new_eq _ _ _ rfl (by omega)
  clear hy hlp
  obtain ⟨L1,t,rfl,t1,t2,t3,t4,t5,t6⟩:=fill_loop n (n:=b.sales.length) (b9:=w1.n) hlp' hl (by omega) yp (by omega) (by omega) (by rw [hL0];simp only [find_cons,Env.find_set,reduceIte,Nat.reduceEqDiff]) (by rw [hL0];simp only [find_cons,Env.find_set,reduceIte,Nat.reduceEqDiff]) (by rw [hL0];simp only [find_cons,Env.find_set,reduceIte,Nat.reduceEqDiff];rfl)
  have f1:L1.find 1=.int .i64 (T:Int):=(t6 1 (by omega)).trans (by rw [hL0];simp only [find_cons,Env.find_set,reduceIte,Nat.reduceEqDiff])
  have f2:L1.find 2=.int .i64 (many:Int):=(t6 2 (by omega)).trans (by rw [hL0];simp only [find_cons,Env.find_set,reduceIte,Nat.reduceEqDiff])
  have f9:L1.find 9=.slice w1.n 0 b.sales.length b.sales.length false:=(t6 9 (by omega)).trans (by rw [hL0];simp only [find_cons,Env.find_set,reduceIte,Nat.reduceEqDiff])
  clear hL0 hlp'
  simp (disch:=first|omega|(with_unfolding_all exact rfl)|(simp only[new_n,put_n,new_m];omega)|(refine put_m_le ?_;simp only[new_m];omega)) only [res7,K7r0,K7r1,K7r2,K7r3,K7r4,K7r5,K7r6,K7r7,K7r8,K7r9,K7r10,K7r11,K7r12,K7r13,K7r14,K7r15,K7r16,K7r17,K7r18,K7,Abs.W,reduceIte,Nat.reduceEqDiff,Nat.reduceAdd,decide_true,decide_false,kLoop_def,Nat.reduceSub,List.cons_append,List.nil_append,List.append_nil,List.length_cons,List.length_nil,Env.find_set,f2,Nat.zero_add]
  generalize hlp:loopN _ rounds _ _ _ _ _=rl
  have be:Beside u t 10:=⟨fun c hc=>(t3 c (by omega)).trans ((yg c (by omega)).trans (w1g c hc)),by omega,by omega,by
   have:=t4 u.n (by omega) (by omega)
   omega,by omega⟩
  have hJ:PickJ u t w1.n b.sales.length (List.range b.sales.length) (.slice w1.n 0 b.sales.length b.sales.length false) [] .nilslice (far+1) 10:=⟨⟨by rw [List.length_range],by rw [List.length_range];omega,by omega,[],by rw [List.length_range,Nat.sub_self];rfl,by rw [List.append_nil];exact t1⟩,IsAt.nil _ _ _ _ _,by omega,by omega,by omega,be⟩
  obtain ⟨L2,t7,w,bl,rfl,f11,be7,hbl,hI⟩:=pick_loop n (by omega) hlp hJ hl hT hm (by omega) (by simp only [Env.find_set,f1,reduceIte,Nat.reduceEqDiff]) (by simp only [Env.find_set,f9,reduceIte,Nat.reduceEqDiff]) (by simp only [Env.find_set,reduceIte,Nat.reduceEqDiff]) (by simp only [Env.find_set,reduceIte,Nat.reduceEqDiff]) (by simp only [Env.find_set,reduceIte,Nat.reduceEqDiff];rfl)
  have kw:∀ t,okA (.val w t)=.val w t:=hI.okA
  have b7:=be7.le
  simp (disch:=first|omega|(with_unfolding_all exact rfl)|(simp only[new_n,put_n,new_m];omega)|(refine put_m_le ?_;simp only[new_m];omega)) only [res7,K7r0,K7r1,K7r2,K7r3,K7r4,K7r5,K7r6,K7r7,K7r8,K7r9,K7r10,K7r11,K7r12,K7r13,K7r14,K7r15,K7r16,K7r17,K7r18,K7,Abs.W,reduceIte,Nat.reduceEqDiff,Nat.reduceAdd,decide_true,decide_false,kLoop_def,Nat.reduceSub,List.cons_append,List.nil_append,List.append_nil,List.length_cons,List.length_nil,Env.find_set,f11,kw,Nat.zero_add]
  refine ⟨.tup [w,.int .i64 0],t7,?_,be7.mono (by omega),⟨w,bl,rfl,by omega,hI⟩,fun hp=>⟨w,u.n,rfl,Nat.le_refl _,?_⟩⟩
  ·rw [leave_tt]
   simp only [Env.find_set,reduceIte,Nat.reduceEqDiff]
  ·rcases hI.is with ⟨z,z2⟩ | ⟨_,_,z,_⟩
   ·exact ⟨hI.wide,.inl ⟨z,z2⟩⟩
   ·subst z;simp [plain,plains] at hp)
 exact ⟨w,bl,t,hr.symm.trans e,st,hq1,hq2⟩
end Go.Proofs.Ytofkfgfbibolcaa.walk
set_option maxRecDepth 10000
namespace Go.Proofs.Ytofkfgfbibolcaa.walk
open Go.Abs Go.Proofs.Ytofkfgfbibolcaa.code
theorem nat_at {h:Heap} {n:Nat} {l:List Nat} {v:AV} (r:RowsAt h n 1 (natRows l) v) {i:Nat} (hi:i<l.length):∃ b p c sz,b<n∧(∀ s,ixsA 1 s v (.int .i64 (i:Int))=.val (.ptr b p) s)∧h.get b=some (.cells c sz)∧nth c p=.int .i64 ((l.getD i 0:Nat):Int):=by
 obtain ⟨b,p,c,sz,h1,h2,h3,h4⟩:=intRow_at r (i:=i) (by rw [List.length_map];exact hi)
 refine ⟨b,p,c,sz,h1,h2,h3,?_⟩
 rw [h4]
 congr 1
 simp [List.getD,hi]
theorem nat_len {h:Heap} {n:Nat} {l:List Nat} {v:AV} (r:RowsAt h n 1 (natRows l) v) (s:St):lenSlA s v=.val (.int .i64 (l.length:Int)) s:=by
 have:=r.len s
 rw [natRows_len] at this
 exact this
theorem front_rows {h:Heap} {n b tg:Nat} {l:List Nat} {v:AV} (r:IsAt h n b 1 tg (natRows l) v) {k:Nat} (hk:k<l.length):v=.slice b 0 l.length l.length true∧RowsAt h n 1 (natRows (l.take k)) (.slice b 0 k l.length true):=by
 rcases r.is with ⟨z,_⟩ | ⟨_,z1,z2,z3⟩
 ·have:=congrArg List.length z
  rw [natRows_len] at this
  simp at this
  subst this
  simp at hk
 ·rw [natRows_len] at z2
  refine ⟨z2,fun s=>?_,fun i hi=>?_⟩
  ·rw [natRows_len,List.length_take,Nat.min_eq_left (by omega)]
   rfl
  ·rw [natRows_len,List.length_take,Nat.min_eq_left (by omega)] at hi
   refine ⟨b,i * 1,_,_,z1,fun s=>by rw [ixs_slice _ _ _ _ _ _ _ _ hi,Nat.zero_add],z3,?_⟩
   rw [flatten_cut r.wide (by rw [natRows_len];omega)]
   congr 1
   simp [natRows,intRows]
theorem has_no (N:Nat) (hN:1≤N) {l:List Nat} {x:Nat} {v:AV} {s:St} (hR:RowsAt s.h s.n 1 (natRows l) v) (hx:x ∉ l) (hl:l.length≤40) (hs:s.n+1000≤far) :
  call Try.prog X N (.fn 8) [v,.int .i64 (x:Int)] s=.val (.bool false) s:=by
 obtain ⟨n,rfl⟩:∃ n,N=n+1:=⟨N - 1,by omega⟩
 refine call_plain' Try.func8 (fun u uh un um=>?_) rfl
 have hf:far=1000000000:=rfl
 rw [← uh,← un] at hR
 have kv:∀ t,okA (.val v t)=.val v t:=fun t=>okA_ne hR.ne
 have lv:=nat_len hR
 rw [enter8]
 simp (disch:=first|omega|(with_unfolding_all exact rfl)|(simp only[new_n,put_n,new_m];omega)|(refine put_m_le ?_;simp only[new_m];omega)) only [res8,K8r0,K8r1,K8r2,K8r3,K8r4,K8r5,K8r6,K8,Abs.W,reduceIte,Nat.reduceEqDiff,Nat.reduceAdd,decide_true,decide_false,kLoop_def,Nat.reduceSub,List.cons_append,List.nil_append,List.append_nil,List.length_cons,List.length_nil,Env.find_set]
 generalize hlp:loopN _ rounds _ _ _ _ _=rl
 obtain ⟨y,L0,hy,hL0,hlp'⟩:=loop_start hlp
 obtain ⟨e,L1,t,rfl,rfl,rfl⟩:=loop_of hlp' (fun i L' t'=>t'=u∧L'.find 0=v∧L'.find 1=.int .i64 (x:Int)∧L'.find 5=.int .i64 (i:Int)) (fun e L' t'=>e=.exit 0∧t'=u) l.length (by unfold rounds;omega)
  ⟨hy,by rw [hL0];simp only [find_cons,Env.find_set,reduceIte,Nat.reduceEqDiff],by rw [hL0];simp only [find_cons,Env.find_set,reduceIte,Nat.reduceEqDiff],by rw [hL0];simp only [find_cons,Env.find_set,reduceIte,Nat.reduceEqDiff];rfl⟩
  (fun i L' t' hi ⟨ht,q0,q1,q5⟩=>by
   subst ht
   by_cases hlt:i<l.length
   ·have e0:decide ((i:Int)<(l.length:Int))=true:=decide_eq_true (by omega)
    obtain ⟨b,p,c,sz,r1,r2,r3,r4⟩:=nat_at hR hlt
    have hne:decide (((l.getD i 0:Nat):Int)=(x:Int))=false:=decide_eq_false (fun e=>hx (by
     have:l.getD i 0=x:=by omega
     rw [← this]
     simp [List.getD,hlt]))
    have ad:∀ s,aAdd s .i64 (i:Int) 1=.val (.int .i64 ((i:Int)+1)) s:=fun s=>aAdd_i64 s _ _ (by omega)
    refine .inl ⟨hlt,_,_,by
     simp (disch:=first|omega|(with_unfolding_all exact rfl)|(simp only[new_n,put_n,new_m];omega)|(refine put_m_le ?_;simp only[new_m];omega)) only [res8,K8r0,K8r1,K8r2,K8r3,K8r4,K8r5,K8r6,K8,K8l0,Abs.W,reduceIte,Nat.reduceEqDiff,Nat.reduceAdd,decide_true,decide_false,kLoop_def,Nat.reduceSub,List.cons_append,List.nil_append,List.append_nil,List.length_cons,List.length_nil,Env.find_set,Nat.zero_add,Nat.add_zero,q0,q1,q5,kv,lv,e0,r2,r3,r4,hne,ad]
     rfl,rfl,?_,?_,?_⟩
    ·simp only [Env.find_set,q0,reduceIte,Nat.reduceEqDiff]
    ·simp only [Env.find_set,q1,reduceIte,Nat.reduceEqDiff]
    ·simp only [Env.find_set,reduceIte,Nat.reduceEqDiff];rfl
   ·obtain rfl:i=l.length:=by omega
    have e0:decide ((l.length:Int)<(l.length:Int))=false:=by simp
    refine .inr ⟨.exit 0,L'.set 9 (.bool false),_,by simp,?_,rfl,rfl⟩
    simp (disch:=first|omega|(with_unfolding_all exact rfl)|(simp only[new_n,put_n,new_m];omega)|(refine put_m_le ?_;simp only[new_m];omega)) only [res8,K8r0,K8r1,K8r2,K8r3,K8r4,K8r5,K8r6,K8,K8l0,Abs.W,reduceIte,Nat.reduceEqDiff,Nat.reduceAdd,decide_true,decide_false,kLoop_def,Nat.reduceSub,List.cons_append,List.nil_append,List.append_nil,List.length_cons,List.length_nil,Env.find_set,q0,q5,kv,lv,e0])
 simp (disch:=first|omega|(with_unfolding_all exact rfl)|(simp only[new_n,put_n,new_m];omega)|(refine put_m_le ?_;simp only[new_m];omega)) only [res8,K8r0,K8r1,K8r2,K8r3,K8r4,K8r5,K8r6,K8,Abs.W,reduceIte,Nat.reduceEqDiff,Nat.reduceAdd,decide_true,decide_false,kLoop_def,Nat.reduceSub,List.cons_append,List.nil_append,List.append_nil,List.length_cons,List.length_nil,Env.find_set]
 exact ⟨_,rfl,by omega⟩
theorem first_diff:∀ (a b:List Nat),a.length=b.length→a≠b→∃ k,k<a.length∧(∀ j,j<k→a.getD j 0=b.getD j 0)∧a.getD k 0≠b.getD k 0
 | [],[],_,h=>absurd rfl h
 | x::a,y::b,hl,h=>by
  by_cases e:x=y
  ·subst e
   obtain ⟨k,h1,h2,h3⟩:=first_diff a b (by simpa using hl) (fun e=>h (by rw [e]))
   exact ⟨k+1,by simpa using h1,fun j hj=>by
    cases j with
    | zero=>rfl
    | succ j=>exact h2 j (by omega),h3⟩
  ·exact ⟨0,by simp,fun j hj=>absurd hj (Nat.not_lt_zero _),e⟩
theorem same_no (N:Nat) (hN:1≤N) {la lb:List Nat} {va vb:AV} {s:St} (hA:RowsAt s.h s.n 1 (natRows la) va) (hB:RowsAt s.h s.n 1 (natRows lb) vb) (hl:la.length=lb.length) (hne:la≠lb) (hl40:la.length≤40) (hs:s.n+1000≤far) :
  call Try.prog X N (.fn 9) [va,vb] s=.val (.bool false) s:=by
 obtain ⟨n,rfl⟩:∃ n,N=n+1:=⟨N - 1,by omega⟩
 refine call_plain' Try.func9 (fun u uh un um=>?_) rfl
 have hf:far=1000000000:=rfl
 rw [← uh,← un] at hA hB
 have ka:∀ t,okA (.val va t)=.val va t:=fun t=>okA_ne hA.ne
 have kb:∀ t,okA (.val vb t)=.val vb t:=fun t=>okA_ne hB.ne
 have lva:=nat_len hA
 have lvb:=nat_len hB
 rw [← hl] at lvb
 have dl:decide ((la.length:Int)=(la.length:Int))=true:=by simp
 obtain ⟨k,k1,k2,k3⟩:=first_diff la lb hl hne
 rw [enter9]
 simp (disch:=first|omega|(with_unfolding_all exact rfl)|(simp only[new_n,put_n,new_m];omega)|(refine put_m_le ?_;simp only[new_m];omega)) only [res9,K9r0,K9r1,K9r2,K9r3s6,K9r3s5,K9r3s4,K9r3s3,K9r3,K9r4,K9r5,K9r6,K9,Abs.W,reduceIte,Nat.reduceEqDiff,Nat.reduceAdd,decide_true,decide_false,kLoop_def,Nat.reduceSub,List.cons_append,List.nil_append,List.append_nil,List.length_cons,List.length_nil,Env.find_set,ka,kb,lva,lvb,dl]
 generalize hlp:loopN _ rounds _ _ _ _ _=rl
 obtain ⟨y,L0,hy,hL0,hlp'⟩:=loop_start hlp
 obtain ⟨e,L1,t,rfl,rfl,rfl,f5⟩:=loop_of hlp' (fun i L' t'=>t'=u∧L'.find 0=va∧L'.find 1=vb∧L'.find 5=.bool (decide (i≤k))∧L'.find 6=.int .i64 (i:Int)) (fun e L' t'=>e=.exit 0∧t'=u∧L'.find 5=.bool false) (k+1) (by unfold rounds;omega)
  ⟨hy,by rw [hL0];simp only [find_cons,Env.find_set,reduceIte,Nat.reduceEqDiff],by rw [hL0];simp only [find_cons,Env.find_set,reduceIte,Nat.reduceEqDiff],by rw [hL0,decide_eq_true (Nat.zero_le k)];simp only [find_cons,Env.find_set,reduceIte,Nat.reduceEqDiff],by rw [hL0];simp only [find_cons,Env.find_set,reduceIte,Nat.reduceEqDiff];rfl⟩
  (fun i L' t' hi ⟨ht,q0,q1,q5,q6⟩=>by
   subst ht
   by_cases hlt:i<k+1
   ·rw [decide_eq_true (show i≤k by omega)] at q5
    have e0:decide ((i:Int)<(la.length:Int))=true:=decide_eq_true (by omega)
    obtain ⟨b,p,c,sz,r1,r2,r3,r4⟩:=nat_at hA (show i<la.length by omega)
    obtain ⟨b',p',c',sz',y1,y2,y3,y4⟩:=nat_at hB (show i<lb.length by omega)
    have heq:decide (((la.getD i 0:Nat):Int)=((lb.getD i 0:Nat):Int))=decide (i+1≤k):=by
     by_cases h:i+1≤k
     ·rw [decide_eq_true h]
      exact decide_eq_true (by have:=k2 i (by omega);omega)
     ·rw [decide_eq_false h]
      obtain rfl:i=k:=by omega
      exact decide_eq_false (by omega)
    have ad:∀ s,aAdd s .i64 (i:Int) 1=.val (.int .i64 ((i:Int)+1)) s:=fun s=>aAdd_i64 s _ _ (by omega)
    refine .inl ⟨hlt,_,_,by
     simp (disch:=first|omega|(with_unfolding_all exact rfl)|(simp only[new_n,put_n,new_m];omega)|(refine put_m_le ?_;simp only[new_m];omega)) only [res9,K9r0,K9r1,K9r2,K9r3s6,K9r3s5,K9r3s4,K9r3s3,K9r3,K9r4,K9r5,K9r6,K9,K9l0,Abs.W,reduceIte,Nat.reduceEqDiff,Nat.reduceAdd,decide_true,decide_false,kLoop_def,Nat.reduceSub,List.cons_append,List.nil_append,List.append_nil,List.length_cons,List.length_nil,Env.find_set,Nat.zero_add,Nat.add_zero,q0,q1,q5,q6,ka,kb,lva,e0,r2,r3,r4,y2,y3,y4,heq,ad]
     rfl,rfl,?_,?_,?_,?_⟩
    ·simp only [Env.find_set,q0,reduceIte,Nat.reduceEqDiff]
    ·simp only [Env.find_set,q1,reduceIte,Nat.reduceEqDiff]
    ·simp only [Env.find_set,reduceIte,Nat.reduceEqDiff]
    ·simp only [Env.find_set,reduceIte,Nat.reduceEqDiff];rfl
   ·rw [decide_eq_false (show ¬ i≤k by omega)] at q5
    refine .inr ⟨.exit 0,L'.set 18 (.bool false),_,by simp,?_,rfl,rfl,by simp only [Env.find_set,q5,reduceIte,Nat.reduceEqDiff]⟩
    simp (disch:=first|omega|(with_unfolding_all exact rfl)|(simp only[new_n,put_n,new_m];omega)|(refine put_m_le ?_;simp only[new_m];omega)) only [res9,K9r0,K9r1,K9r2,K9r3s6,K9r3s5,K9r3s4,K9r3s3,K9r3,K9r4,K9r5,K9r6,K9,K9l0,Abs.W,reduceIte,Nat.reduceEqDiff,Nat.reduceAdd,decide_true,decide_false,kLoop_def,Nat.reduceSub,List.cons_append,List.nil_append,List.append_nil,List.length_cons,List.length_nil,Env.find_set,q0,q5,q6,ka,lva])
 simp (disch:=first|omega|(with_unfolding_all exact rfl)|(simp only[new_n,put_n,new_m];omega)|(refine put_m_le ?_;simp only[new_m];omega)) only [res9,K9r0,K9r1,K9r2,K9r3s6,K9r3s5,K9r3s4,K9r3s3,K9r3,K9r4,K9r5,K9r6,K9,Abs.W,reduceIte,Nat.reduceEqDiff,Nat.reduceAdd,decide_true,decide_false,kLoop_def,Nat.reduceSub,List.cons_append,List.nil_append,List.append_nil,List.length_cons,List.length_nil,Env.find_set,f5]
 exact ⟨_,rfl,by omega⟩
end Go.Proofs.Ytofkfgfbibolcaa.walk
set_option maxRecDepth 10000
namespace Go.Abs
theorem aMul_nat (s:St) (a b:Nat) (h:a * b≤1000000):aMul s .i64 (a:Int) (b:Int)=.val (.int .i64 ((a * b:Nat):Int)) s:=by
 rw [aMul_def,wrapA_eq]
 have e:Int.mul (a:Int) (b:Int)=((a * b:Nat):Int):=rfl
 rw [e]
 generalize a * b=q at *
 rw [IntWalk.i64_in _ (by omega)]
end Go.Abs
namespace Go.Proofs.Ytofkfgfbibolcaa.walk
open Go.Abs Go.Proofs.Ytofkfgfbibolcaa.code
noncomputable abbrev awp (n:Nat):CallF:=knows 10 (call Try.prog X n)
theorem waysUp_le:∀ (i n:Nat),n≤5→waysUp i n≤5 ^ i
 | 0,_,_=>Nat.le_refl _
 | i+1,n,h=>by
  have h1:=waysUp_le i n h
  show waysUp i n * (n - i)≤5 ^ i * 5
  exact Nat.mul_le_mul h1 (by omega)
theorem waysUp_125 {i n:Nat} (hi:i≤3) (hn:n≤5):waysUp i n≤125:=by
 have h:=waysUp_le i n hn
 have:5 ^ i≤5 ^ 3:=Nat.pow_le_pow_right (by omega) hi
 omega
theorem ways_loop (N:Nat) {cx:Ctx} {w:St} {p4 n many:Nat} {k g:Int} {v:AV} {E:Env} {r:R} (hr:loopN K3l0 rounds (awp N) cx E [] w=r) (hg:w.h.get p4=some (.cells [.int .i64 k,.int .i64 g,v] (tag 27))) (kv:∀ t,okA (.val v t)=.val v t) (lv:∀ s,lenSlA s v=.val (.int .i64 (n:Int)) s) (hn:n≤5) (hm:many≤3) (hmn:many≤n)
  (q4:E.find 4=.ptr p4 0) (q5:E.find 5=.int .i64 (many:Int)) (q6:E.find 6=.int .i64 (1:Nat)) (q7:E.find 7=.int .i64 (0:Nat)) (hs:w.n+100≤far) :
  ∃ E1,r=.done (.exit 0) E1 [] w∧E1.find 6=.int .i64 (waysUp many n:Nat)∧∀ c,c<6→E1.find c=E.find c:=by
 have hf:far=1000000000:=rfl
 obtain ⟨e,E1,t,rfl,rfl,rfl,h1,h2⟩:=loop_of hr (fun i E' t'=>t'=w∧E'.find 6=.int .i64 ((waysUp i n:Nat):Int)∧E'.find 7=.int .i64 (i:Int)∧∀ c,c<6→E'.find c=E.find c) (fun e E' t'=>e=.exit 0∧t'=w∧E'.find 6=.int .i64 ((waysUp many n:Nat):Int)∧∀ c,c<6→E'.find c=E.find c) many (by unfold rounds;omega)
  ⟨rfl,q6,q7,fun _ _=>rfl⟩
  (fun i E' t' hi ⟨ht,p6,p7,g'⟩=>by
   subst ht
   have p4':=(g' 4 (by omega)).trans q4
   have p5:=(g' 5 (by omega)).trans q5
   by_cases hlt:i<many
   ·have e0:decide ((i:Int)<(many:Int))=true:=decide_eq_true (by omega)
    have sb:∀ s,aSub s .i64 (n:Int) (i:Int)=.val (.int .i64 ((n - i:Nat):Int)) s:=fun s=>by rw [aSub_i64 s _ _ (by omega)];congr 2;omega
    have hw:=waysUp_125 (i:=i) (n:=n) (by omega) hn
    have ml:∀ s,aMul s .i64 ((waysUp i n:Nat):Int) ((n - i:Nat):Int)=.val (.int .i64 ((waysUp i n * (n - i):Nat):Int)) s:=fun s=>aMul_nat s _ _ (Nat.le_trans (Nat.mul_le_mul hw (show n - i≤5 by omega)) (by omega))
    have ad:∀ s,aAdd s .i64 (i:Int) 1=.val (.int .i64 ((i:Int)+1)) s:=fun s=>aAdd_i64 s _ _ (by omega)
    refine .inl ⟨hlt,_,_,by
     simp (disch:=first|omega|(with_unfolding_all exact rfl)|(simp only[new_n,put_n,new_m];omega)|(refine put_m_le ?_;simp only[new_m];omega)) only [res3,K3r0,K3r1,K3r2,K3r3,K3r4,K3r5,K3r6,K3r7,K3r8,K3r9,K3r10,K3r11,K3r12,K3r13,K3r14s7,K3r14s6,K3r14s5,K3r14s4,K3r14,K3r15,K3r16,K3r17,K3r18s24,K3r18s23,K3r18s22,K3r18s21,K3r18s20,K3r18s19,K3r18s18,K3r18s17,K3r18s14,K3r18s13,K3r18s12,K3r18s11,K3r18s10,K3r18s9,K3r18s8,K3r18s7,K3r18,K3r19,K3r20,K3r21,K3r22,K3r23,K3r24,K3r25,K3r26,K3r27,K3r28,K3,K3l0,Abs.W,reduceIte,Nat.reduceEqDiff,Nat.reduceAdd,decide_true,decide_false,kLoop_def,Nat.reduceSub,List.cons_append,List.nil_append,List.append_nil,List.length_cons,List.length_nil,Env.find_set,Nat.zero_add,Nat.add_zero,p4',p5,p6,p7,hg,kv,lv,e0,sb,ml,ad]
     rfl,rfl,?_,?_,fun c hc=>?_⟩
    ·simp only [Env.find_set,reduceIte,Nat.reduceEqDiff];rfl
    ·simp only [Env.find_set,reduceIte,Nat.reduceEqDiff];rfl
    ·simp only [Env.find_set]
     rw [if_neg (by omega),if_neg (by omega),if_neg (by omega)]
     exact g' c hc
   ·obtain rfl:i=many:=by omega
    have e0:decide ((i:Int)<(i:Int))=false:=by simp
    refine .inr ⟨.exit 0,E'.set 28 (.bool false),_,by simp,?_,rfl,rfl,?_,fun c hc=>?_⟩
    ·simp (disch:=first|omega|(with_unfolding_all exact rfl)|(simp only[new_n,put_n,new_m];omega)|(refine put_m_le ?_;simp only[new_m];omega)) only [res3,K3r0,K3r1,K3r2,K3r3,K3r4,K3r5,K3r6,K3r7,K3r8,K3r9,K3r10,K3r11,K3r12,K3r13,K3r14s7,K3r14s6,K3r14s5,K3r14s4,K3r14,K3r15,K3r16,K3r17,K3r18s24,K3r18s23,K3r18s22,K3r18s21,K3r18s20,K3r18s19,K3r18s18,K3r18s17,K3r18s14,K3r18s13,K3r18s12,K3r18s11,K3r18s10,K3r18s9,K3r18s8,K3r18s7,K3r18,K3r19,K3r20,K3r21,K3r22,K3r23,K3r24,K3r25,K3r26,K3r27,K3r28,K3,K3l0,Abs.W,reduceIte,Nat.reduceEqDiff,Nat.reduceAdd,decide_true,decide_false,kLoop_def,Nat.reduceSub,List.cons_append,List.nil_append,List.append_nil,List.length_cons,List.length_nil,Env.find_set,p5,p7,e0]
    ·simp only [Env.find_set,p6,reduceIte,Nat.reduceEqDiff]
    ·simp only [Env.find_set]
     rw [if_neg (by omega)]
     exact g' c hc)
 exact ⟨E1,rfl,h1,h2⟩
theorem look_loop (N:Nat) (hN:1≤N) {cx:Ctx} {w:St} {p4 n bl:Nat} {k g:Int} {v vl:AV} {pl:List Nat} {E:Env} {r:R} (hr:loopN K3l1 rounds (awp N) cx E [] w=r) (hg:w.h.get p4=some (.cells [.int .i64 k,.int .i64 g,v] (tag 27))) (kv:∀ t,okA (.val v t)=.val v t) (lv:∀ s,lenSlA s v=.val (.int .i64 (n:Int)) s) (hP:IsAt w.h w.n bl 1 (tag 3) (natRows pl) vl) (hl:pl.length≤40) (hd:pl.Nodup) (hlt':∀ x ∈ pl,x<n)
  (q4:E.find 4=.ptr p4 0) (q11:E.find 11=vl) (q13:E.find 13=.int .i64 (0:Nat)) (hs:w.n+2000≤far) :
  ∃ E1,r=.done (.exit 4) E1 [] w∧∀ c,c<13→E1.find c=E.find c:=by
 have hf:far=1000000000:=rfl
 have kl:∀ t,okA (.val vl t)=.val vl t:=hP.okA
 have hR:=hP.rows.at_
 have ll:=nat_len hR
 have knH:∀ args s,awp N (.fn 8) args s=call Try.prog X N (.fn 8) args s:=fun _ _=>rfl
 obtain ⟨e,E1,t,rfl,rfl,rfl,h2⟩:=loop_of hr (fun i E' t'=>t'=w∧E'.find 13=.int .i64 (i:Int)∧∀ c,c<13→E'.find c=E.find c) (fun e E' t'=>e=.exit 4∧t'=w∧∀ c,c<13→E'.find c=E.find c) pl.length (by unfold rounds;omega)
  ⟨rfl,q13,fun _ _=>rfl⟩
  (fun i E' t' hi ⟨ht,p13,g'⟩=>by
   subst ht
   have p4':=(g' 4 (by omega)).trans q4
   have p11:=(g' 11 (by omega)).trans q11
   by_cases hlt:i<pl.length
   ·have e0:decide ((i:Int)<(pl.length:Int))=true:=decide_eq_true (by omega)
    obtain ⟨b,p,c,sz,r1,r2,r3,r4⟩:=nat_at hR hlt
    obtain ⟨hv,hfr⟩:=front_rows hP hlt
    have hgd:pl.getD i 0=pl[i]:=by simp [List.getD,hlt]
    have hin:pl[i]<n:=hlt' _ (List.getElem_mem hlt)
    have hno:pl[i] ∉ pl.take i:=by
     intro hm
     obtain ⟨j,hj,e⟩:=List.getElem_of_mem hm
     rw [List.getElem_take] at e
     rw [List.length_take] at hj
     have:=getElem_inj hd (by omega) hlt e
     omega
    rw [hgd] at r4
    have dn:decide (((pl[i]:Nat):Int)<0)=false:=decide_eq_false (by omega)
    have dg:decide ((n:Int)≤((pl[i]:Nat):Int))=false:=decide_eq_false (by omega)
    have dg':decide (((pl[i]:Nat):Int) ≥ (n:Int))=false:=decide_eq_false (by omega)
    have sl:∀ s,sliceVal 1 none (some (.int .i64 (i:Int))) s vl=.val (.slice bl 0 i pl.length true) s:=fun s=>by rw [hv];exact slice_to 1 s bl 0 pl.length pl.length i true (Nat.le_refl _) (by omega) (by omega)
    have hh:∀ m,call Try.prog X N (.fn 8) [.slice bl 0 i pl.length true,.int .i64 ((pl[i]:Nat):Int)] ⟨t'.h,t'.n,m⟩=.val (.bool false) ⟨t'.h,t'.n,m⟩:=fun m=>has_no N hN (l:=pl.take i) hfr hno (by rw [List.length_take];omega) (by show t'.n+1000≤far;omega)
    have hh':call Try.prog X N (.fn 8) [.slice bl 0 i pl.length true,.int .i64 ((pl[i]:Nat):Int)] t'=.val (.bool false) t':=hh t'.m
    have ad:∀ s,aAdd s .i64 (i:Int) 1=.val (.int .i64 ((i:Int)+1)) s:=fun s=>aAdd_i64 s _ _ (by omega)
    refine .inl ⟨hlt,_,_,by
     simp (config:={ maxSteps:=3000000 }) (disch:=first|omega|(with_unfolding_all exact rfl)|(simp only[new_n,put_n,new_m];omega)|(refine put_m_le ?_;simp only[new_m];omega)) only [res3,K3r0,K3r1,K3r2,K3r3,K3r4,K3r5,K3r6,K3r7,K3r8,K3r9,K3r10,K3r11,K3r12,K3r13,K3r14s7,K3r14s6,K3r14s5,K3r14s4,K3r14,K3r15,K3r16,K3r17,K3r18s24,K3r18s23,K3r18s22,K3r18s21,K3r18s20,K3r18s19,K3r18s18,K3r18s17,K3r18s14,K3r18s13,K3r18s12,K3r18s11,K3r18s10,K3r18s9,K3r18s8,K3r18s7,K3r18,K3r19,K3r20,K3r21,K3r22,K3r23,K3r24,K3r25,K3r26,K3r27,K3r28,K3,K3l1,Abs.W,reduceIte,Nat.reduceEqDiff,Nat.reduceAdd,decide_true,decide_false,kLoop_def,Nat.reduceSub,List.cons_append,List.nil_append,List.append_nil,List.length_cons,List.length_nil,Env.find_set,Nat.zero_add,Nat.add_zero,p4',p11,p13,hg,kv,lv,kl,ll,e0,r2,r3,r4,dn,dg,dg',kSlice_def,optEv_some,optEv_none,sl,knH,hh',ad,endO_nil]
     rfl,rfl,?_,fun c hc=>?_⟩
    ·simp only [Env.find_set,reduceIte,Nat.reduceEqDiff];rfl
    ·simp only [Env.find_set]
     rw [if_neg (by omega),if_neg (by omega),if_neg (by omega)]
     exact g' c hc
   ·obtain rfl:i=pl.length:=by omega
    have e0:decide ((pl.length:Int)<(pl.length:Int))=false:=by simp
    refine .inr ⟨.exit 4,E'.set 67 (.bool false),_,by simp,?_,rfl,rfl,fun c hc=>?_⟩
    ·simp (disch:=first|omega|(with_unfolding_all exact rfl)|(simp only[new_n,put_n,new_m];omega)|(refine put_m_le ?_;simp only[new_m];omega)) only [res3,K3r0,K3r1,K3r2,K3r3,K3r4,K3r5,K3r6,K3r7,K3r8,K3r9,K3r10,K3r11,K3r12,K3r13,K3r14s7,K3r14s6,K3r14s5,K3r14s4,K3r14,K3r15,K3r16,K3r17,K3r18s24,K3r18s23,K3r18s22,K3r18s21,K3r18s20,K3r18s19,K3r18s18,K3r18s17,K3r18s14,K3r18s13,K3r18s12,K3r18s11,K3r18s10,K3r18s9,K3r18s8,K3r18s7,K3r18,K3r19,K3r20,K3r21,K3r22,K3r23,K3r24,K3r25,K3r26,K3r27,K3r28,K3,K3l1,Abs.W,reduceIte,Nat.reduceEqDiff,Nat.reduceAdd,decide_true,decide_false,kLoop_def,Nat.reduceSub,List.cons_append,List.nil_append,List.append_nil,List.length_cons,List.length_nil,Env.find_set,p11,p13,kl,ll,e0]
    ·simp only [Env.find_set]
     rw [if_neg (by omega)]
     exact g' c hc)
 exact ⟨E1,rfl,h2⟩
end Go.Proofs.Ytofkfgfbibolcaa.walk
set_option maxRecDepth 10000
namespace Go.Proofs.Ytofkfgfbibolcaa.walk
open Go.Abs Go.Proofs.Ytofkfgfbibolcaa.code
theorem lat_of {h:Heap} {n lo bl bm:Nat} {l:List Int} {v:AV} (r:IsAt h n bl 1 (tag 3) (intRows l) v) (hb:lo≤bl) (hm:bm<lo∨far<bm) (hn:n≤far):LAt h n bm l v:=by
 rcases r.is with ⟨h3,h4⟩ | ⟨_,h3,_⟩
 ·exact ⟨bm+1,by omega,r.wide,.inl ⟨h3,h4⟩⟩
 ·exact ⟨bl,by omega,r⟩
def MetM (h:Heap) (n bm:Nat) (M:List (List Nat)) (v:AV):Prop :=
 ∃ vs:List AV,vs.length=M.length∧IsAt h n bm 1 (tag 22) (vs.map fun v=>[v]) v∧∀ j (h1:j<vs.length) (h2:j<M.length),LAt h n bm (M[j].map Int.ofNat) vs[j]
theorem MetM.nil (h:Heap) (n bm:Nat):MetM h n bm [] .nilslice:=⟨[],rfl,IsAt.nil _ _ _ _ _,fun j h1 _=>by simp at h1⟩
theorem MetM.move {h h':Heap} {n n' bm:Nat} {M:List (List Nat)} {v:AV} (a:MetM h n bm M v) (hh:∀ c,c<n→h'.get c=h.get c) (hn:n≤n'):MetM h' n' bm M v:=by
 obtain ⟨vs,h1,h2,h3⟩:=a
 exact ⟨vs,h1,h2.mono (fun h=>hh _ h) hn,fun j j1 j2=>(h3 j j1 j2).move (fun c hc _=>hh c hc) hn (.inl rfl)⟩
theorem MetM.okA {h:Heap} {n bm:Nat} {M:List (List Nat)} {v:AV} (a:MetM h n bm M v) (t:St):Abs.okA (.val v t)=.val v t:=by obtain ⟨rows,h1,h2,h3⟩:=a;exact h2.okA t
theorem MetM.len {h:Heap} {n bm:Nat} {M:List (List Nat)} {v:AV} (a:MetM h n bm M v) (s:St):lenSlA s v=.val (.int .i64 (M.length:Int)) s:=by
 obtain ⟨vs,h1,h2,h3⟩:=a
 have:=h2.rows.at_.len s
 rw [List.length_map,h1] at this
 exact this
theorem MetM.get {h:Heap} {n bm:Nat} {M:List (List Nat)} {v:AV} (a:MetM h n bm M v) {j:Nat} (hj:j<M.length) :
  ∃ w p c sz,LAt h n bm (M[j].map Int.ofNat) w∧(∀ s,ixsA 1 s v (.int .i64 (j:Int))=.val (.ptr bm p) s)∧h.get bm=some (.cells c sz)∧nth c p=w:=by
 obtain ⟨vs,h1,h2,h3⟩:=a
 have hr:j<vs.length:=by omega
 rcases h2.is with ⟨z,_⟩ | ⟨_,z1,z2,z3⟩
 ·rw [List.map_eq_nil_iff] at z
  subst z
  simp at hr
 ·refine ⟨vs[j],0+j * 1,_,_,h3 j hr hj,fun s=>by rw [z2];exact ixs_slice 1 s bm 0 _ _ true j (by rw [List.length_map];exact hr),z3,?_⟩
  rw [Nat.zero_add]
  have:=flatten_cut (rows:=vs.map fun v=>[v]) (w:=1) (i:=j) h2.wide (by rw [List.length_map];exact hr)
  exact cut1_nth (this.trans (by simp))
theorem MetM.push {s:St} {bm:Nat} {M:List (List Nat)} {v:AV} (a:MetM s.h s.n bm M v) {l:List Nat} {w:AV} (hw:LAt s.h s.n bm (l.map Int.ofNat) w) {p sz:Nat} (hp:s.h.get p=some (.cells [w] sz)) (hl:M.length+1≤1000) (hs:s.n+10≤far) :
  ∃ v' s',appendA false 1 24 (tag 22) s v (.slice p 0 1 1 false)=.val v' s'∧MetM s'.h s'.n s.n (M++[l]) v'∧s'.n=s.n+1∧(∀ c,c<s.n→c≠bm→s'.h.get c=s.h.get c):=by
 have hf:far=1000000000:=rfl
 obtain ⟨vs,h1,h2,h3⟩:=a
 have hsc:scalars [w]=true:=by obtain ⟨x,_,h⟩:=hw;exact h.scal.1
 obtain ⟨s',e1,e2,e3,e4,e5,e6⟩:=append_at (bytes:=24) h2 hp rfl hsc (by rw [List.length_map];omega) (by kernel_rfl) (by omega)
 refine ⟨_,s',e1,⟨vs++[w],by simp [h1],?_,fun j j1 j2=>?_⟩,e3,e4⟩
 ·rw [List.map_append];exact e2
 ·by_cases e:j<vs.length
  ·rw [List.getElem_append_left e,List.getElem_append_left (by omega)]
   exact (h3 j e (by omega)).move (fun c hc hb=>e4 c hc hb) (by omega) (.inr (Nat.le_refl _))
  ·have hj:j=vs.length:=by rw [List.length_append,List.length_singleton] at j1;omega
   subst hj
   rw [List.getElem_append_right (Nat.le_refl _),List.getElem_append_right (by omega)]
   simp only [h1,Nat.sub_self,List.getElem_singleton]
   exact hw.move (fun c hc hb=>e4 c hc hb) (by omega) (.inr (Nat.le_refl _))
theorem met_loop (N:Nat) (hN:1≤N) {cx:Ctx} {w:St} {bm:Nat} {M:List (List Nat)} {vm vl:AV} {pl:List Nat} {E:Env} {r:R} (hr:loopN K3l2 rounds (awp N) cx E [] w=r) (hM:MetM w.h w.n bm M vm) (hP:RowsAt w.h w.n 1 (natRows pl) vl) (hl:pl.length≤40) (hM1:M.length≤1000) (hne:∀ m ∈ M,m.length=pl.length∧m≠pl)
  (q9:E.find 9=vm) (q11:E.find 11=vl) (q14:E.find 14=.int .i64 (0:Nat)) (hs:w.n+2000≤far) :
  ∃ E1,r=.done (.exit 6) E1 [] w∧∀ c,c<14→E1.find c=E.find c:=by
 have hf:far=1000000000:=rfl
 have kl:∀ t,okA (.val vl t)=.val vl t:=fun t=>okA_ne hP.ne
 have km:∀ t,okA (.val vm t)=.val vm t:=hM.okA
 have lm:=hM.len
 have knS:∀ args s,awp N (.fn 9) args s=call Try.prog X N (.fn 9) args s:=fun _ _=>rfl
 obtain ⟨e,E1,t,rfl,rfl,rfl,h2⟩:=loop_of hr (fun i E' t'=>t'=w∧E'.find 14=.int .i64 (i:Int)∧∀ c,c<14→E'.find c=E.find c) (fun e E' t'=>e=.exit 6∧t'=w∧∀ c,c<14→E'.find c=E.find c) M.length (by unfold rounds;omega)
  ⟨rfl,q14,fun _ _=>rfl⟩
  (fun i E' t' hi ⟨ht,p14,g'⟩=>by
   subst ht
   have p9:=(g' 9 (by omega)).trans q9
   have p11:=(g' 11 (by omega)).trans q11
   by_cases hlt:i<M.length
   ·have e0:decide ((i:Int)<(M.length:Int))=true:=decide_eq_true (by omega)
    obtain ⟨wm,p,c,sz,f1,f2,f3,f4⟩:=hM.get hlt
    have kw:∀ t,okA (.val wm t)=.val wm t:=fun t=>okA_ne f1.rows.ne
    obtain ⟨n1,n2⟩:=hne _ (List.getElem_mem hlt)
    have hh:=same_no N hN (la:=M[i]) (lb:=pl) (va:=wm) (vb:=vl) (s:=t') f1.rows hP n1 n2 (by omega) (by omega)
    have ad:∀ s,aAdd s .i64 (i:Int) 1=.val (.int .i64 ((i:Int)+1)) s:=fun s=>aAdd_i64 s _ _ (by omega)
    refine .inl ⟨hlt,_,_,by
     simp (disch:=first|omega|(with_unfolding_all exact rfl)|(simp only[new_n,put_n,new_m];omega)|(refine put_m_le ?_;simp only[new_m];omega)) only [res3,K3r0,K3r1,K3r2,K3r3,K3r4,K3r5,K3r6,K3r7,K3r8,K3r9,K3r10,K3r11,K3r12,K3r13,K3r14s7,K3r14s6,K3r14s5,K3r14s4,K3r14,K3r15,K3r16,K3r17,K3r18s24,K3r18s23,K3r18s22,K3r18s21,K3r18s20,K3r18s19,K3r18s18,K3r18s17,K3r18s14,K3r18s13,K3r18s12,K3r18s11,K3r18s10,K3r18s9,K3r18s8,K3r18s7,K3r18,K3r19,K3r20,K3r21,K3r22,K3r23,K3r24,K3r25,K3r26,K3r27,K3r28,K3,K3l2,Abs.W,reduceIte,Nat.reduceEqDiff,Nat.reduceAdd,decide_true,decide_false,kLoop_def,Nat.reduceSub,List.cons_append,List.nil_append,List.append_nil,List.length_cons,List.length_nil,Env.find_set,Nat.zero_add,Nat.add_zero,p9,p11,p14,km,lm,kl,kw,e0,f2,f3,f4,knS,hh,ad]
     rfl,rfl,?_,fun c hc=>?_⟩
    ·simp only [Env.find_set,reduceIte,Nat.reduceEqDiff];rfl
    ·simp only [Env.find_set]
     rw [if_neg (by omega),if_neg (by omega),if_neg (by omega)]
     exact g' c hc
   ·obtain rfl:i=M.length:=by omega
    have e0:decide ((M.length:Int)<(M.length:Int))=false:=by simp
    refine .inr ⟨.exit 6,E'.set 98 (.bool false),_,by simp,?_,rfl,rfl,fun c hc=>?_⟩
    ·simp (disch:=first|omega|(with_unfolding_all exact rfl)|(simp only[new_n,put_n,new_m];omega)|(refine put_m_le ?_;simp only[new_m];omega)) only [res3,K3r0,K3r1,K3r2,K3r3,K3r4,K3r5,K3r6,K3r7,K3r8,K3r9,K3r10,K3r11,K3r12,K3r13,K3r14s7,K3r14s6,K3r14s5,K3r14s4,K3r14,K3r15,K3r16,K3r17,K3r18s24,K3r18s23,K3r18s22,K3r18s21,K3r18s20,K3r18s19,K3r18s18,K3r18s17,K3r18s14,K3r18s13,K3r18s12,K3r18s11,K3r18s10,K3r18s9,K3r18s8,K3r18s7,K3r18,K3r19,K3r20,K3r21,K3r22,K3r23,K3r24,K3r25,K3r26,K3r27,K3r28,K3,K3l2,Abs.W,reduceIte,Nat.reduceEqDiff,Nat.reduceAdd,decide_true,decide_false,kLoop_def,Nat.reduceSub,List.cons_append,List.nil_append,List.append_nil,List.length_cons,List.length_nil,Env.find_set,p9,p14,km,lm,e0]
    ·simp only [Env.find_set]
     rw [if_neg (by omega)]
     exact g' c hc)
 exact ⟨E1,rfl,h2⟩
structure RoundJ (w t:St) (bm:Nat) (M:List (List Nat)) (vm:AV) (kk:Nat):Prop where
 met:MetM t.h t.n bm M vm
 lo:w.n≤bm
 hi:bm<t.n∨far<bm
 same:∀ c,c<w.n→t.h.get c=w.h.get c
 n:w.n≤t.n
 le:t.n≤w.n+kk
def picks (many n from_ j:Nat):List (List Nat):=(List.range j).map fun i=>pickL many (from_+i) (List.range n)
theorem picks_succ (many n from_ j:Nat):picks many n from_ (j+1)=picks many n from_ j++[pickL many (from_+j) (List.range n)]:=by
 unfold picks
 rw [List.range_succ,List.map_append]
 rfl
theorem picks_len (many n from_ j:Nat):(picks many n from_ j).length=j:=by unfold picks;rw [List.length_map,List.length_range]
theorem law_round (N:Nat) (hN:8≤N) (cx:Ctx) {w t:St} {p4 bm many from_ j kk:Nat} {b:Book} {v vm:AV} {E:Env} (J:RoundJ w t bm (picks many b.sales.length from_ j) vm kk) (ok:b.Ok) (hp4:p4<w.n) (hg:w.h.get p4=some (.cells (bookV b v) (tag 27))) (hB:RowsAt w.h w.n 6 (b.sales.map Sale.cells) v) (hn:b.sales.length≤5) (hm:many≤3) (hmn:many≤b.sales.length) (hj:j<ways many b.sales.length) (hf':from_+ways many b.sales.length≤1000000000) (hs:w.n+kk+20000≤far)
  (q4:E.find 4=.ptr p4 0) (q5:E.find 5=.int .i64 (many:Int)) (q6:E.find 6=.int .i64 ((ways many b.sales.length:Nat):Int)) (q8:E.find 8=.int .i64 (from_:Int)) (q9:E.find 9=vm) (q10:E.find 10=.int .i64 (j:Int)) :
  ∃ E1 t1 vm1 bm1,K3l3 (awp N) cx E [] t=.done .norm E1 [] t1∧RoundJ w t1 bm1 (picks many b.sales.length from_ (j+1)) vm1 (kk+410)∧E1.find 9=vm1∧E1.find 10=.int .i64 (j+1:Nat)∧∀ c,c<9→E1.find c=E.find c:=by
 have hf:far=1000000000:=rfl
 obtain ⟨jm,jlo,jhi,js,jn,jle⟩:=J
 have hw:=waysUp_125 (i:=many) (n:=b.sales.length) hm hn
 rw [ways_up] at hw
 have g4:=(js p4 hp4).trans hg
 have hBt:=hB.grow js jn
 have kv:∀ t,okA (.val v t)=.val v t:=fun t=>okA_ne hB.ne
 have lv:=hB.len
 rw [List.length_map] at lv
 have scB:scalars (bookV b v)=true:=by
  have hv:=scal_ln (hB.len w)
  show scalars [v]=true
  unfold scalars
  rw [hv]
  rfl
 have e0:decide ((j:Int)<((ways many b.sales.length:Nat):Int))=true:=decide_eq_true (by omega)
 have ad:∀ s,aAdd s .i64 (j:Int) 1=.val (.int .i64 ((j:Int)+1)) s:=fun s=>aAdd_i64 s _ _ (by omega)
 have adf:∀ s,aAdd s .i64 (from_:Int) (j:Int)=.val (.int .i64 ((from_+j:Nat):Int)) s:=fun s=>by rw [aAdd_i64 s _ _ (by omega)];rfl
 have knP:∀ args s,awp N (.fn 7) args s=call Try.prog X N (.fn 7) args s:=fun _ _=>rfl
 have ex0:∀ (a b:AV) (s:St),extA 0 s (.tup [a,b])=.val a s:=fun _ _ _=>rfl
 have ex1:∀ (a b:AV) (s:St),extA 1 s (.tup [a,b])=.val b s:=fun _ _ _=>rfl
 have d0:decide ((0:Int)=0)=true:=rfl
 have dm:decide ((many:Int)=(many:Int))=true:=by simp
 unfold bookV at g4
 simp (disch:=first|omega|(with_unfolding_all exact rfl)|(simp only[new_n,put_n,new_m];omega)|(refine put_m_le ?_;simp only[new_m];omega)) only [res3,K3r0,K3r1,K3r2,K3r3,K3r4,K3r5,K3r6,K3r7,K3r8,K3r9,K3r10,K3r11,K3r12,K3r13,K3r14s7,K3r14s6,K3r14s5,K3r14s4,K3r14,K3r15,K3r16,K3r17,K3r18s24,K3r18s23,K3r18s22,K3r18s21,K3r18s20,K3r18s19,K3r18s18,K3r18s17,K3r18s14,K3r18s13,K3r18s12,K3r18s11,K3r18s10,K3r18s9,K3r18s8,K3r18s7,K3r18,K3r19,K3r20,K3r21,K3r22,K3r23,K3r24,K3r25,K3r26,K3r27,K3r28,K3,K3l3,Abs.W,reduceIte,Nat.reduceEqDiff,Nat.reduceAdd,decide_true,decide_false,kLoop_def,Nat.reduceSub,List.cons_append,List.nil_append,List.append_nil,List.length_cons,List.length_nil,Env.find_set,Nat.zero_add,Nat.add_zero,q4,q5,q6,q8,q10,g4,e0,adf,knP]
 generalize hc:call _ _ _ (.fn 7) _ _=rc
 obtain ⟨vl,bl,t1,rfl,st,hbl,hI⟩:=Pick_ex (T:=from_+j) (many:=many) (b:=b) hc hN ok hBt (by omega) hmn (by omega) (by omega)
 have n1:=st.n
 have k1:=st.le
 obtain ⟨pl,hpl⟩:∃ pl,pl=pickL many (from_+j) (List.range b.sales.length):=⟨_,rfl⟩
 rw [← hpl] at hI
 have pll:pl.length=many:=by rw [hpl,pickL_len]
 have kvl:∀ t,okA (.val vl t)=.val vl t:=hI.okA
 have lvl:=nat_len hI.rows.at_
 rw [pll] at lvl
 simp (disch:=first|omega|(with_unfolding_all exact rfl)|(simp only[new_n,put_n,new_m];omega)|(refine put_m_le ?_;simp only[new_m];omega)) only [res3,K3r0,K3r1,K3r2,K3r3,K3r4,K3r5,K3r6,K3r7,K3r8,K3r9,K3r10,K3r11,K3r12,K3r13,K3r14s7,K3r14s6,K3r14s5,K3r14s4,K3r14,K3r15,K3r16,K3r17,K3r18s24,K3r18s23,K3r18s22,K3r18s21,K3r18s20,K3r18s19,K3r18s18,K3r18s17,K3r18s14,K3r18s13,K3r18s12,K3r18s11,K3r18s10,K3r18s9,K3r18s8,K3r18s7,K3r18,K3r19,K3r20,K3r21,K3r22,K3r23,K3r24,K3r25,K3r26,K3r27,K3r28,K3,Abs.W,reduceIte,Nat.reduceEqDiff,Nat.reduceAdd,decide_true,decide_false,kLoop_def,Nat.reduceSub,List.cons_append,List.nil_append,List.append_nil,List.length_cons,List.length_nil,Env.find_set,Nat.zero_add,Nat.add_zero,q5,ex0,ex1,kvl,lvl,d0,dm]
 have g41:=(st.same p4 (by omega)).trans g4
 have dnd:pl.Nodup:=by rw [hpl];exact pickL_nodup _ _ _ (by rw [List.length_range];omega) (range_nodup _)
 have din:∀ x ∈ pl,x<b.sales.length:=fun x hx=>by
  rw [hpl] at hx
  exact List.mem_range.mp (pickL_mem _ _ _ (by rw [List.length_range];omega) x hx)
 generalize hl1:loopN _ rounds _ _ _ _ _=rl1
 obtain ⟨E1,rfl,e1⟩:=look_loop N (by omega) hl1 g41 kv lv hI (by omega) dnd din (by simp only [Env.find_set,q4,reduceIte,Nat.reduceEqDiff]) (by simp only [Env.find_set,reduceIte,Nat.reduceEqDiff]) (by simp only [Env.find_set,reduceIte,Nat.reduceEqDiff];rfl) (by omega)
 have f9:E1.find 9=vm:=(e1 9 (by omega)).trans (by simp only [Env.find_set,q9,reduceIte,Nat.reduceEqDiff])
 have f11:E1.find 11=vl:=(e1 11 (by omega)).trans (by simp only [Env.find_set,reduceIte,Nat.reduceEqDiff])
 simp (disch:=first|omega|(with_unfolding_all exact rfl)|(simp only[new_n,put_n,new_m];omega)|(refine put_m_le ?_;simp only[new_m];omega)) only [Abs.W,reduceIte,Nat.reduceEqDiff,Nat.reduceAdd,decide_true,decide_false,kLoop_def,Nat.reduceSub,List.cons_append,List.nil_append,List.append_nil,List.length_cons,List.length_nil,Env.find_set,Nat.zero_add]
 generalize hl2:loopN _ rounds _ _ _ _ _=rl2
 have hM1:MetM t1.h t1.n bm (picks many b.sales.length from_ j) vm:=jm.move st.same n1
 obtain ⟨E2,rfl,e2⟩:=met_loop N (by omega) hl2 hM1 hI.rows.at_ (by omega) (by rw [picks_len];omega) (fun m hm'=>by
  unfold picks at hm'
  obtain ⟨i,hi,rfl⟩:=List.mem_map.mp hm'
  have hi:=List.mem_range.mp hi
  refine ⟨by rw [pickL_len,pll],fun e=>?_⟩
  rw [hpl] at e
  have:=pick_other hmn (by omega) hj e
  omega) (by simp only [Env.find_set,f9,reduceIte,Nat.reduceEqDiff]) (by simp only [Env.find_set,f11,reduceIte,Nat.reduceEqDiff]) (by simp only [Env.find_set,reduceIte,Nat.reduceEqDiff];rfl) (by omega)
 have h9:E2.find 9=vm:=(e2 9 (by omega)).trans (by simp only [Env.find_set,f9,reduceIte,Nat.reduceEqDiff])
 have h11:E2.find 11=vl:=(e2 11 (by omega)).trans (by simp only [Env.find_set,f11,reduceIte,Nat.reduceEqDiff])
 have h10:E2.find 10=.int .i64 (j:Int):=(e2 10 (by omega)).trans (by
  simp only [Env.find_set,reduceIte,Nat.reduceEqDiff]
  exact (e1 10 (by omega)).trans (by simp only [Env.find_set,q10,reduceIte,Nat.reduceEqDiff]))
 have hc9:∀ c,c<9→E2.find c=E.find c:=fun c hc=>by
  rw [e2 c (by omega)]
  simp only [Env.find_set]
  rw [if_neg (by omega),e1 c (by omega)]
  simp only [Env.find_set]
  rw [if_neg (by omega),if_neg (by omega),if_neg (by omega),if_neg (by omega),if_neg (by omega)]
 obtain ⟨y,hy⟩:∃ y:St,y=t1.new (.cells [vl] 0):=⟨_,rfl⟩
 have yn:y.n=t1.n+1:=by rw [hy];rfl
 have yg:∀ c,c<t1.n→y.h.get c=t1.h.get c:=fun c hc=>by rw [hy];exact get_new_ne _ _ _ (by omega)
 have yp:y.h.get t1.n=some (.cells [vl] 0):=by rw [hy];exact get_new_eq _ _ _ rfl (by omega)
 have hlat:LAt t1.h t1.n bm (pl.map Int.ofNat) vl:=lat_of hI hbl (by omega) (by omega)
 obtain ⟨vm1,s7,e7,hM7,s7n,s7g⟩:=(hM1.move (h':=y.h) (n':=y.n) yg (by omega)).push (hlat.move (fun c hc _=>yg c hc) (by omega) (.inl rfl)) yp (by rw [picks_len];omega) (by omega)
 have kvm:∀ t,okA (.val vm t)=.val vm t:=hM1.okA
 have cvl:cellsOf 1 vl=some [vl]:=hI.scal.2
 rw [hy] at e7
 simp (disch:=first|omega|(with_unfolding_all exact rfl)|(simp only[new_n,put_n,new_m];omega)|(refine put_m_le ?_;simp only[new_m];omega)) only [Abs.W,reduceIte,Nat.reduceEqDiff,Nat.reduceAdd,decide_true,decide_false,kLoop_def,Nat.reduceSub,List.cons_append,List.nil_append,List.append_nil,List.length_cons,List.length_nil,Env.find_set,h9,h11,cvl,e7,h10,ad,Nat.zero_add]
 rw [hpl,← picks_succ] at hM7
 refine ⟨_,s7,vm1,y.n,rfl,⟨hM7,by omega,by omega,fun c hc=>?_,by omega,by omega⟩,by simp only [Env.find_set,reduceIte,Nat.reduceEqDiff],by simp only [Env.find_set,reduceIte,Nat.reduceEqDiff];rfl,fun c hc=>?_⟩
 ·rw [s7g c (by omega) (by omega),yg c (by omega),st.same c (by omega)]
  exact js c hc
 ·simp only [Env.find_set]
  rw [if_neg (by omega),if_neg (by omega)]
  exact hc9 c hc
end Go.Proofs.Ytofkfgfbibolcaa.walk
set_option maxRecDepth 10000
namespace Go.Proofs.Ytofkfgfbibolcaa.walk
open Go.Abs Go.Proofs.Ytofkfgfbibolcaa.code
theorem law_loop (N:Nat) (hN:8≤N) {cx:Ctx} {w:St} {p4 many from_:Nat} {b:Book} {v:AV} {E:Env} {r:R} (hr:loopN K3l3 rounds (awp N) cx E [] w=r) (ok:b.Ok) (hp4:p4<w.n) (hg:w.h.get p4=some (.cells (bookV b v) (tag 27))) (hB:RowsAt w.h w.n 6 (b.sales.map Sale.cells) v) (hn:b.sales.length≤5) (hm:many≤3) (hmn:many≤b.sales.length) (hf':from_+ways many b.sales.length≤1000000000) (hs:w.n+100000≤far)
  (q4:E.find 4=.ptr p4 0) (q5:E.find 5=.int .i64 (many:Int)) (q6:E.find 6=.int .i64 ((ways many b.sales.length:Nat):Int)) (q8:E.find 8=.int .i64 (from_:Int)) (q9:E.find 9=.nilslice) (q10:E.find 10=.int .i64 (0:Nat)) :
  ∃ E1 t,r=.done (.exit 2) E1 [] t:=by
 have hf:far=1000000000:=rfl
 have hw:=waysUp_125 (i:=many) (n:=b.sales.length) hm hn
 rw [ways_up] at hw
 obtain ⟨e,E1,t,rfl,rfl⟩:=loop_of hr (fun j E' t'=>∃ vm bm,RoundJ w t' bm (picks many b.sales.length from_ j) vm (410 * j)∧E'.find 9=vm∧E'.find 10=.int .i64 (j:Int)∧∀ c,c<9→E'.find c=E.find c) (fun e E' t'=>e=.exit 2) (ways many b.sales.length) (by unfold rounds;omega)
  ⟨.nilslice,far+1,⟨MetM.nil _ _ _,by omega,.inr (by omega),fun _ _=>rfl,Nat.le_refl _,Nat.le_refl _⟩,q9,q10,fun _ _=>rfl⟩
  (fun j E' t' hj ⟨vm,bm,hJ,p9,p10,g⟩=>by
   have p4':=(g 4 (by omega)).trans q4
   have p5:=(g 5 (by omega)).trans q5
   have p6:=(g 6 (by omega)).trans q6
   have p8:=(g 8 (by omega)).trans q8
   by_cases hlt:j<ways many b.sales.length
   ·obtain ⟨E2,t2,vm2,bm2,z1,z2,z3,z4,z5⟩:=law_round N hN cx hJ ok hp4 hg hB hn hm hmn hlt hf' (by omega) p4' p5 p6 p8 p9 p10
    obtain ⟨a1,a2,a3,a4,a5,a6⟩:=z2
    exact .inl ⟨hlt,E2,t2,z1,vm2,bm2,⟨a1,a2,a3,a4,a5,by omega⟩,z3,z4,fun c hc=>(z5 c hc).trans (g c hc)⟩
   ·obtain rfl:j=ways many b.sales.length:=by omega
    have e0:decide (((ways many b.sales.length:Nat):Int)<((ways many b.sales.length:Nat):Int))=false:=by simp
    refine .inr ⟨.exit 2,E'.set 44 (.bool false),t',by simp,?_,rfl⟩
    simp (disch:=first|omega|(with_unfolding_all exact rfl)|(simp only[new_n,put_n,new_m];omega)|(refine put_m_le ?_;simp only[new_m];omega)) only [res3,K3r0,K3r1,K3r2,K3r3,K3r4,K3r5,K3r6,K3r7,K3r8,K3r9,K3r10,K3r11,K3r12,K3r13,K3r14s7,K3r14s6,K3r14s5,K3r14s4,K3r14,K3r15,K3r16,K3r17,K3r18s24,K3r18s23,K3r18s22,K3r18s21,K3r18s20,K3r18s19,K3r18s18,K3r18s17,K3r18s14,K3r18s13,K3r18s12,K3r18s11,K3r18s10,K3r18s9,K3r18s8,K3r18s7,K3r18,K3r19,K3r20,K3r21,K3r22,K3r23,K3r24,K3r25,K3r26,K3r27,K3r28,K3,K3l3,Abs.W,reduceIte,Nat.reduceEqDiff,Nat.reduceAdd,decide_true,decide_false,kLoop_def,Nat.reduceSub,List.cons_append,List.nil_append,List.append_nil,List.length_cons,List.length_nil,Env.find_set,p6,p10,e0])
 exact ⟨E1,t,rfl⟩
noncomputable def pikRest:K:=(kSeq (kRegion K3r2 [4]) (kSeq (kRegion K3r3 [5]) (kSeq (kRegion K3r4 [6]) (kSeq (kSeq (kRegion K3r5 [7]) (kBlock 0 (kLoop K3l0))) (kSeq (kRegion K3r9 [8]) (kSeq (kRegion K3r10 [9]) (kSeq (kSeq (kRegion K3r11 [10]) (kBlock 2 (kLoop K3l3))) (kSeq (kRegion K3r28 [2]) kRet))))))))
theorem pik_body (n:Nat) (hn:13≤n) (cx:Ctx) (s:St) (d:Nat) (hd:Die d s.h) (hdn:d<s.n) (hs:s.n+9000000≤far) (hm:s.m=far) :
  ∃ s',finA Try.prog Try.f3 (pikRest (knows 10 (call Try.prog X n)) cx (.cons 3 (.ptr d 0) .nil) [] s)=.val (.bool true) s':=by
 have hf:far=1000000000:=rfl
 have knB:∀ args s,knows 10 (call Try.prog X n) (.fn 5) args s=call Try.prog X n (.fn 5) args s:=fun _ _=>rfl
 have knC:∀ args s,knows 10 (call Try.prog X n) (.fn 6) args s=call Try.prog X n (.fn 6) args s:=fun _ _=>rfl
 have knA:∀ s,knows 10 (call Try.prog X n) (.fn 10) [] s=.val (.bool true) s:=fun _=>rfl
 unfold pikRest
 simp (disch:=first|omega|(with_unfolding_all exact rfl)|(simp only[new_n,put_n,new_m];omega)|(refine put_m_le ?_;simp only[new_m];omega)) only [K3r2,Abs.W,reduceIte,Nat.reduceEqDiff,Nat.reduceAdd,decide_true,decide_false,kLoop_def,Nat.reduceSub,List.cons_append,List.nil_append,List.append_nil,List.length_cons,List.length_nil,Env.find_set,knB]
 generalize hc1:call _ _ _ (.fn 5) _ _=r1
 obtain ⟨b,v,bl,t1,rfl,st1,d1,ok,hlen,hbl,hI⟩:=BookOf_ex (k:=3) (g:=3) (n:=5) hc1 (by omega) hd hdn (by omega) (by omega) (by omega) (by omega)
 have n1:=st1.n
 have k1:=st1.le
 have scB:scalars (bookV b v)=true:=by show scalars [v]=true;exact hI.scal.1
 have kv:∀ t,okA (.val v t)=.val v t:=hI.okA
 have lv:∀ s,lenSlA s v=.val (.int .i64 (b.sales.length:Int)) s:=fun s=>by have:=hI.rows.at_.len s;rw [List.length_map] at this;exact this
 unfold bookV at scB
 simp (disch:=first|omega|(with_unfolding_all exact rfl)|(simp only[new_n,put_n,new_m];omega)|(refine put_m_le ?_;simp only[new_m];omega)) only [Abs.W,reduceIte,Nat.reduceEqDiff,Nat.reduceAdd,decide_true,decide_false,kLoop_def,Nat.reduceSub,List.cons_append,List.nil_append,List.append_nil,List.length_cons,List.length_nil,Env.find_set,scB,Nat.zero_add]
 obtain ⟨y,hy⟩:∃ y:St,y=(t1.new (.cells [.int .i64 0,.int .i64 0,.nilslice] (tag 27))).put t1.n (.cells (bookV b v) (tag 27)):=⟨_,rfl⟩
 have yn:y.n=t1.n+1:=by rw [hy];rfl
 have yg:∀ c,c<t1.n→y.h.get c=t1.h.get c:=fun c hc=>by rw [hy,get_put_ne' _ _ _ _ (by omega),get_new_ne _ _ _ (by omega)]
 have y4:y.h.get t1.n=some (.cells (bookV b v) (tag 27)):=by rw [hy];exact get_put_eq _ _ _ _ rfl (by omega)
 have dy:Die d y.h:=Die.keep d1 (yg d (by omega))
 have hIy:=hI.mono (h':=y.h) (n':=y.n) (fun h=>yg bl h) (by omega)
 have hy':=hy
 unfold bookV at hy'
 rw [← hy']
 clear hy hy'
 have ad3:∀ s,aAdd s .i64 (min 3 (b.sales.length:Int)) 1=.val (.int .i64 (min 3 (b.sales.length:Int)+1)) s:=fun s=>aAdd_i64 s _ _ (by omega)
 have y4':=y4
 unfold bookV at y4'
 simp (disch:=first|omega|(with_unfolding_all exact rfl)|(simp only[new_n,put_n,new_m];omega)|(refine put_m_le ?_;simp only[new_m];omega)) only [K3r3,Abs.W,reduceIte,Nat.reduceEqDiff,Nat.reduceAdd,decide_true,decide_false,kLoop_def,Nat.reduceSub,List.cons_append,List.nil_append,List.append_nil,List.length_cons,List.length_nil,Env.find_set,y4',kv,lv,kFold_def,foldA_nil,foldA_cons,minA_i64,ad3,knC,Nat.zero_add]
 generalize hc2:call _ _ _ (.fn 6) _ _=r2
 obtain ⟨x2,t2,rfl,st2,d2,x20,x21⟩:=cast_ex hc2 (by omega) dy (by omega) (by omega) (by omega)
 obtain ⟨many,rfl⟩:∃ n:Nat,x2=n:=⟨x2.toNat,by omega⟩
 have n2:=st2.n
 have k2:=st2.le
 have g2:∀ c,c<y.n→c≠d→t2.h.get c=y.h.get c:=fun c hc hcd=>st2.same c hc hcd
 have z4:=(g2 t1.n (by omega) (by omega)).trans y4
 have z4':=z4
 unfold bookV at z4'
 simp (disch:=first|omega|(with_unfolding_all exact rfl)|(simp only[new_n,put_n,new_m];omega)|(refine put_m_le ?_;simp only[new_m];omega)) only [K3r4,K3r5,Abs.W,reduceIte,Nat.reduceEqDiff,Nat.reduceAdd,decide_true,decide_false,kLoop_def,Nat.reduceSub,List.cons_append,List.nil_append,List.append_nil,List.length_cons,List.length_nil,Env.find_set,Nat.zero_add]
 generalize hl1:loopN _ rounds _ _ _ _ _=rl1
 obtain ⟨E1,rfl,f6,g1⟩:=ways_loop n (n:=b.sales.length) (many:=many) (p4:=t1.n) hl1 z4' kv lv hlen (by omega) (by omega) (by simp only [find_cons,Env.find_set,reduceIte,Nat.reduceEqDiff]) (by simp only [find_cons,Env.find_set,reduceIte,Nat.reduceEqDiff]) (by simp only [find_cons,Env.find_set,reduceIte,Nat.reduceEqDiff];rfl) (by simp only [find_cons,Env.find_set,reduceIte,Nat.reduceEqDiff];rfl) (by omega)
 have hw:=waysUp_125 (i:=many) (n:=b.sales.length) (by omega) hlen
 have wp:=ways_pos many b.sales.length (by omega)
 rw [ways_up] at f6 hw
 have f3:E1.find 3=.ptr d 0:=(g1 3 (by omega)).trans (by simp only [find_cons,Env.find_set,reduceIte,Nat.reduceEqDiff])
 have f4:E1.find 4=.ptr t1.n 0:=(g1 4 (by omega)).trans (by simp only [find_cons,Env.find_set,reduceIte,Nat.reduceEqDiff])
 have f5:E1.find 5=.int .i64 (many:Int):=(g1 5 (by omega)).trans (by simp only [find_cons,Env.find_set,reduceIte,Nat.reduceEqDiff])
 have sbw:∀ s,aSub s .i64 1000000000 ((ways many b.sales.length:Nat):Int)=.val (.int .i64 (1000000000 - ((ways many b.sales.length:Nat):Int))) s:=fun s=>aSub_i64 s _ _ (by omega)
 simp (disch:=first|omega|(with_unfolding_all exact rfl)|(simp only[new_n,put_n,new_m];omega)|(refine put_m_le ?_;simp only[new_m];omega)) only [K3r9,Abs.W,reduceIte,Nat.reduceEqDiff,Nat.reduceAdd,decide_true,decide_false,kLoop_def,Nat.reduceSub,List.cons_append,List.nil_append,List.append_nil,List.length_cons,List.length_nil,Env.find_set,f3,f6,sbw,knC,Nat.zero_add]
 generalize hc3:call _ _ _ (.fn 6) _ _=r3
 obtain ⟨x3,t3,rfl,st3,d3,x30,x31⟩:=cast_ex hc3 (by omega) d2 (by omega) (by omega) (by omega)
 obtain ⟨from_,rfl⟩:∃ n:Nat,x3=n:=⟨x3.toNat,by omega⟩
 have n3:=st3.n
 have k3:=st3.le
 have g3:∀ c,c<y.n→c≠d→t3.h.get c=y.h.get c:=fun c hc hcd=>(st3.same c (by omega) hcd).trans (g2 c hc hcd)
 have w4:=(g3 t1.n (by omega) (by omega)).trans y4
 have hI3:=hIy.mono (h':=t3.h) (n':=t3.n) (fun h=>g3 bl h (by omega)) (by omega)
 simp (disch:=first|omega|(with_unfolding_all exact rfl)|(simp only[new_n,put_n,new_m];omega)|(refine put_m_le ?_;simp only[new_m];omega)) only [K3r10,K3r11,Abs.W,reduceIte,Nat.reduceEqDiff,Nat.reduceAdd,decide_true,decide_false,kLoop_def,Nat.reduceSub,List.cons_append,List.nil_append,List.append_nil,List.length_cons,List.length_nil,Env.find_set,Nat.zero_add]
 generalize hl2:loopN _ rounds _ _ _ _ _=rl2
 obtain ⟨E2,t4,rfl⟩:=law_loop n (by omega) (p4:=t1.n) (many:=many) (from_:=from_) (b:=b) (v:=v) hl2 ok (by omega) w4 hI3.rows.at_ hlen (by omega) (by omega) (by omega) (by omega)
  (by simp only [Env.find_set,f4,reduceIte,Nat.reduceEqDiff]) (by simp only [Env.find_set,f5,reduceIte,Nat.reduceEqDiff]) (by simp only [Env.find_set,f6,reduceIte,Nat.reduceEqDiff]) (by simp only [Env.find_set,reduceIte,Nat.reduceEqDiff]) (by simp only [Env.find_set,reduceIte,Nat.reduceEqDiff]) (by simp only [Env.find_set,reduceIte,Nat.reduceEqDiff];rfl)
 simp (disch:=first|omega|(with_unfolding_all exact rfl)|(simp only[new_n,put_n,new_m];omega)|(refine put_m_le ?_;simp only[new_m];omega)) only [K3r28,res3,Abs.W,reduceIte,Nat.reduceEqDiff,Nat.reduceAdd,decide_true,decide_false,kLoop_def,Nat.reduceSub,List.cons_append,List.nil_append,List.append_nil,List.length_cons,List.length_nil,Env.find_set,knA]
 exact ⟨_,rfl⟩
end Go.Proofs.Ytofkfgfbibolcaa.walk
set_option maxRecDepth 10000
namespace Go.Proofs.Ytofkfgfbibolcaa.walk
open Go.Abs Go.Proofs.Ytofkfgfbibolcaa.code
end Go.Proofs.Ytofkfgfbibolcaa.walk
namespace Go.Proofs.Ytofkfgfbibolcaa.mdie
open Go.RowKit
def Die (b:Nat) (w:World):Prop:=∃ s,w.heap[b]? = some (.cells #[.int .u64 s] 40 (0,0))
theorem Die.old {b:Nat} {w:World} (h:Die b w):(∃ s,w.cell? ⟨b,0,none⟩=some (.int .u64 s))∧w.frozen? ⟨b,0,none⟩=false:=by
 obtain ⟨s,hs⟩:=h
 refine ⟨⟨s,?_⟩,?_⟩
 ·unfold World.cell?;simp [hs]
 ·unfold World.frozen?;simp [hs]
structure Stir (b:Nat) (w w':World):Prop where
 below:Below b w w'
 rest:∀ p:Addr,p.block≠b→p.block<w.heap.size→w'.cell? p=w.cell? p∧w'.frozen? p=w.frozen? p
 die:Die b w'
def Gives (b:Nat) (k:IntKind) (Q:Int→Prop) (w:World) (e:Ending) (w':World):Prop:=∃ r,Q r∧e=.returned (.int k r)∧Stir b w w'
theorem bits_nonneg (op:BinOp) (x y:Int):0≤bits op .u64 x y:=by
 have:=bounds_u64 (wf_bits (k:=.u64) (op:=op) (x:=x) (y:=y))
 exact this.1
theorem Stir.set {b:Nat} {w:World} (h:Die b w) (s:Int):Stir b w (w.setCell ⟨b,0,none⟩ (.int .u64 s)):=by
 obtain ⟨t,ht⟩:=h
 refine ⟨(Below.refl b w).setCell (p:=⟨b,0,none⟩) (Nat.le_refl b) _,fun p hp _=>⟨World.cell?_of_block (Below.heap_setCell _ _ _ _ hp),World.frozen?_of_block (Below.heap_setCell _ _ _ _ hp)⟩,⟨s,?_⟩⟩
 unfold World.setCell
 simp [Array.getElem?_modify,ht]
theorem roll (b:Nat) (w:World) (h:Die b w):Calls Try.prog 11 #[.pointer (some ⟨b,0,none⟩)] w (Gives b .u64 (fun r=>0≤r) w):=by
 have h':=Lib.hid h
 obtain ⟨⟨s,hs⟩,hf⟩:=h.old
 clear h
 go_enter Try.func11,Try.ntmps11
 go_wp2
 go_ret
 exact ⟨_,bits_nonneg _ _ _,rfl,Stir.set h'.out _⟩
theorem Stir.refl {b:Nat} {w:World} (h:Die b w):Stir b w w:=⟨Below.refl _ _,fun _ _ _=>⟨rfl,rfl⟩,h⟩
theorem Stir.trans {b:Nat} {u v w:World} (h:Stir b u v) (k:Stir b v w):Stir b u w :=
 ⟨h.below.trans k.below,fun p hp hb=>⟨(k.rest p hp (Nat.lt_of_lt_of_le hb h.below.size)).1.trans (h.rest p hp hb).1,(k.rest p hp (Nat.lt_of_lt_of_le hb h.below.size)).2.trans (h.rest p hp hb).2⟩,k.die⟩
theorem Die.lt {b:Nat} {w:World} (h:Die b w):b<w.heap.size:=by obtain ⟨⟨s,hs⟩,_⟩:=h.old;exact World.block_lt_of_cell? w _ hs
theorem Stir.drew {b:Nat} {w w':World} (h:Stir b w w'):Stir b w w'.drew:=h.trans ⟨⟨rfl,rfl,rfl,Nat.le_refl _,fun _ _=>rfl⟩,fun _ _ _=>⟨rfl,rfl⟩,h.die⟩
def Born (w:World) (e:Ending) (w':World):Prop:=e=.returned (.pointer (some ⟨w.heap.size,0,none⟩))∧Below w.heap.size w w'∧Die w.heap.size w'∧w.heap.size<w'.heap.size
theorem Die.born (w:World) (s:Int):Die w.heap.size (w.alloc (.cells #[.int .u64 s] 40)):=⟨s,by show (w.heap.push _)[w.heap.size]? = _;rw [Array.getElem?_push,if_pos rfl]⟩
set_option maxRecDepth 100000 in
theorem born (x:Option Addr) (n c:Nat) (w:World) (hn:n≤maxLen) (hc:∀ i,i<n→∃ b o,x=some ⟨b,o,none⟩∧∃ v,w.cell? ⟨b,o+i,none⟩=some (.int .i64 v)) :
  Calls Try.prog 4 #[.slice x n c] w (Born w):=by
 unfold maxLen at hn
 have HC:=Lib.hid hc
 clear hc
 have hdie:=Lib.hid (Die.born w 2611923443488327891)
 go_enter Try.func4,Try.ntmps4
 go_wp2
 go_loopw [4] (fun i wr=>∃ k:Nat,k≤n∧i=.int .i64 k∧Stir w.heap.size (w.alloc (.cells #[.int .u64 2611923443488327891] 40)) wr) (fun i _=>n - (intOf i).toNat)
 case atStart=>exact ⟨0,Nat.zero_le _,rfl,Stir.refl hdie.out⟩
 case round =>
  obtain ⟨k,hk,rfl,hs⟩:=hrel
  by_cases hlt:k<n
  ·obtain ⟨b,o,rfl,v,hv⟩:=HC.out k hlt
   have hb:=World.block_lt_of_cell? _ _ hv
   simp only at hb
   have hv1:wr.cell? ⟨b,o+k,none⟩=some (.int .i64 v):=((hs.rest ⟨b,o+k,none⟩ (Nat.ne_of_lt hb) (by simp;omega)).1.trans (World.cell?_of_block (Below.heap_alloc _ _ _ hb))).trans hv
   clear hv
   obtain ⟨⟨s,hd⟩,hf⟩:=hs.die.old
   have hst:=Lib.hid (fun s1:Int=>(hs.drew).trans (Stir.set hs.drew.die s1))
   have hlt':(k:Int)<(n:Int):=by omega
   have hk0:(0:Int)≤(k:Int):=by omega
   go_wp2
   go_still_tail 12,(by kernel_rfl)
   change wpList _ _ _ _ _ wr.drew
   go_wp2_with (go_at_call 11;refine (roll _ _ ?_).mono ?_;exact (hst.out _).die;rintro e w1 ⟨r,hr,rfl,hs1⟩;(have hs2:=(hst.out _).trans hs1))
   go_roundw
   case rel=>exact ⟨k+1,by omega,by go_num,hs2⟩
   case measure=>simp [intOf];omega
  ·go_wp2
   go_ret
   exact ⟨rfl,((Below.refl w.heap.size w).alloc (Nat.le_refl _) _).trans hs.below,hs.die,by have:=hs.below.size;simp at this;omega⟩
end Go.Proofs.Ytofkfgfbibolcaa.mdie
namespace Go.Abs
open Go.RowKit
variable {P:Program}
theorem mid_calls {cl:CallF} (hc:CallSound P cl) {f:FuncId} {fn:Func} (hf:P.funcs[f]? = some fn) {c0 c1 rest:Code} (hb:fn.body=some (.seq c0 (.seq c1 rest))) {X:FuncId→List Nat} {k:K} {A:Array Value} {W:World} {R:Ending→World→Prop}
  (h:c0.wp P (Exit.then (fun a w=>c1.wp P (Exit.then (fun a w=>∃ ρ L s v s',ActRel ρ fn.ntmps L [] a∧Clean (X f) L∧SRel ρ s w∧finA P fn (k cl ⟨f,none,fn.ntmps,X f⟩ L [] s)=.val v s'∧∀ ρ' V W',After ρ s w ρ' s' W'→VRel ρ' v V→R (.returned V) W') fun _ _ _=>False) a w) fun _ _ _=>False)
   { tmps:=A++Array.replicate (fn.ntmps - A.size) undef,defers:=[] } W)
  (hk:codeK P (X f) fn.ntmps rest=some k):Calls P f A W R:=by
 intro cs
 obtain ⟨b,hbd⟩:∃ b:Frame,b={ (default:Frame) with fn:=f,kind:=.normal }:=⟨_,rfl⟩
 have hr:b.roundOf=none:=by rw [hbd];rfl
 have henter:Frame.enter P f A .normal=b.at { tmps:=A++Array.replicate (fn.ntmps - A.size) undef,defers:=[] } [.code (.seq c0 (.seq c1 rest))]:=by
  rw [hbd];simp [Frame.enter,Frame.at,hf,hb]
 obtain ⟨e0,a0,w0,q0,ar0⟩:=h b [.code (.seq c1 rest)] cs
 cases e0<;>simp only [Exit.then] at q0
 obtain ⟨e1,a1,w1,q1,ar1⟩:=q0 b [.code rest] cs
 cases e1<;>simp only [Exit.then] at q1
 obtain ⟨ρ,L,s,v,s',hact,hclean,hs,hfin,hR⟩:=q1
 have st1:Steps P (lone (Frame.enter P f A .normal) cs W) (lone (b.atR a1 [.code rest]) cs w1):=by
  rw [henter,Frame.atR_of_none hr]
  exact (Steps.head step_seq ar0).trans (Steps.head step_seq ar1)
 have hctx:CtxRel ρ ⟨f,none,fn.ntmps,X f⟩ b:=⟨by rw [hbd],by rw [hbd],fun _=>hr,fun l e=>by cases e⟩
 generalize hr2:k cl ⟨f,none,fn.ntmps,X f⟩ L [] s=r at hfin
 cases r with
 | fail=>cases hfin
 | done e L1 d s₁ =>
  obtain ⟨ρ₁,a₁,W₁,af,ha₁,_,_,st⟩:=codeK_sound rest hk hc rfl rfl hctx hact hclean hs hr2
  have fin:∀ (hle:leaveA P fn.results.toList L1 d s₁=.val v s') (hst:∃ t,Steps P (lone (Frame.enter P f A .normal) cs W) (lone (back b a₁ t) cs W₁)),
    ∃ V w' fr,R (.returned V) w'∧Steps P (lone (Frame.enter P f A .normal) cs W) (lone fr cs w')∧fr.fn=f∧fr.leaving P w' (.returned V):=by
   intro hle hst
   obtain ⟨V,W₂,af₂,hv,st₂⟩:=leaveA_calls ha₁ af.rel hle
   obtain ⟨t,st₁⟩:=hst
   obtain ⟨fr,h1,h2,h3⟩:=st₂ b (by rw [hbd]) (by rw [hbd];exact hf) t cs
   exact ⟨V,W₂,fr,hR _ _ _ (af.trans af₂) hv,Steps.trans st₁ h1,by rw [h2,hbd],h3⟩
  cases e with
  | exit id=>cases hfin
  | norm =>
   have z:=st [] cs
   obtain ⟨V,w',fr,h1,h2,h3,h4⟩:=fin hfin ⟨[],st1.trans (Steps.trans z (.one (stepR_end hr)))⟩
   exact ⟨.returned V,w',fr,h1,h2,h3,h4⟩
  | ret =>
   obtain ⟨k0,z⟩:=st [] cs
   obtain ⟨V,w',fr,h1,h2,h3,h4⟩:=fin hfin ⟨.code .ret::k0,st1.trans (z.trans (.one (stepR_ret hr)))⟩
   exact ⟨.returned V,w',fr,h1,h2,h3,h4⟩
end Go.Abs
set_option maxRecDepth 10000
namespace Go.Proofs.Ytofkfgfbibolcaa.walk
open Go.Abs Go.RowKit Go.Proofs.Ytofkfgfbibolcaa.code
noncomputable def die0 (F:Int):St:=St.new ⟨.nil,0,far⟩ (.cells [.int .u64 F] (tag 40))
def rho0 (d:Nat):Rho:=fun b=>if b=0 then some (d,(0,0)) else none
theorem die0_get {F:Int} {b:Nat} {o:AObj} (h:(die0 F).h.get b=some o):b=0∧o=.cells [.int .u64 F] (tag 40):=by
 by_cases e:b=0
 ·subst e
  have:(die0 F).h.get 0=some (.cells [.int .u64 F] (tag 40)):=get_new_eq _ _ _ rfl (by decide)
  rw [this] at h
  exact ⟨rfl,(Option.some.inj h).symm⟩
 ·unfold die0 at h
  rw [get_new_ne _ _ _ e] at h
  cases h
theorem die0_has {F:Int} {b x:Nat} {o:AObj} (h:Has (die0 F).h b x o):b=0∧x=0∧o=.cells [.int .u64 F] (tag 40):=by
 obtain ⟨y,hy,hp⟩:=h
 obtain ⟨rfl,rfl⟩:=die0_get hy
 have hl:AObj.lone (.cells [.int .u64 F] (tag 40)):=trivial
 rw [parts_lone hl] at hp
 have:=List.mem_singleton.mp hp
 cases this
 exact ⟨rfl,rfl,rfl⟩
theorem die0_rel {F:Int} {d:Nat} {W:World} (h:W.heap[d]? = some (.cells #[.int .u64 F] 40 (0,0))):SRel (rho0 d) (die0 F) W:=by
 refine ⟨⟨fun b o hb=>?_,fun b x o hb=>?_,fun b b' x x' o o' c e e' hb hb' _ _=>?_,fun g cs hg=>(by cases hg),fun b x o c e hb hr=>rfl,fun b x x' o o' c e e' hb hb' hr hr'=>?_⟩,fun b hb=>?_⟩
 ·rw [(die0_get hb).1];decide
 ·obtain ⟨rfl,rfl,rfl⟩:=die0_has hb
  exact ⟨d,(0,0),_,if_pos rfl,h,.cells rfl (.cons (.int _ _) .nil) (Typed.tag _)⟩
 ·rw [(die0_has hb).1,(die0_has hb').1]
 ·obtain ⟨_,rfl,_⟩:=die0_has hb
  obtain ⟨_,rfl,_⟩:=die0_has hb'
  rw [hr] at hr'
  cases hr'
  rfl
 ·have:1≤b:=hb
  exact if_neg (by omega)
end Go.Proofs.Ytofkfgfbibolcaa.walk
set_option maxRecDepth 10000
namespace Go.Proofs.Ytofkfgfbibolcaa.walk
open Go.Abs Go.RowKit Go.Proofs.Ytofkfgfbibolcaa.code
set_option maxRecDepth 100000 in
theorem pik_calls (a:Option Addr) (n c:Nat) (w:World) (hn:n≤maxLen) (hc:∀ i,i<n→∃ b o,a=some ⟨b,o,none⟩∧∃ v,w.cell? ⟨b,o+i,none⟩=some (.int .i64 v)) :
  Calls Try.prog 3 #[.slice a n c] w fun e w'=>e=.returned (.bool true)∧Below w.heap.size w w':=by
 have HC:=Lib.hid hc
 clear hc
 refine mid_calls (cl:=knows 10 (call Try.prog X 20)) (knows_sound (call_sound 200) Try.func10 awake.entered (call_sound 20)) Try.func3 rfl (X:=X) (k:=pikRest) ?_ (by kernel_rfl)
 simp only [Try.ntmps3,List.size_toArray,List.length_cons,List.length_nil,Nat.reduceAdd,Nat.reduceSub,Array.replicate_succ,Array.replicate_zero,List.push_toArray,List.append_toArray,List.nil_append,List.cons_append]
 go_wp2_with (go_at_call 4;((with_reducible refine (mdie.born _ _ _ _ hn HC.out).mono ?_);rintro e w1 ⟨rfl,hB1,⟨F,hF⟩,hg1⟩))
 have hd0:walk.Die 0 (die0 F).h:=⟨F,get_new_eq _ _ _ rfl (by decide)⟩
 obtain ⟨s',hs'⟩:=pik_body 20 (by omega) ⟨3,none,Try.f3.ntmps,X 3⟩ (die0 F) 0 hd0 (by show 0<1;omega) (by show 1+9000000≤1000000000;omega) rfl
 refine ⟨rho0 w.heap.size,.cons 3 (.ptr 0 0) .nil,die0 F,.bool true,s',⟨fun t=>?_,rfl,.nil⟩,fun t ht=>?_,die0_rel hF,hs',fun ρ' V W' af hv=>?_⟩
 ·by_cases e:t=3
  ·subst e
   exact .ptr (e:=(0,0)) (if_pos rfl)
  ·rw [show (Env.cons 3 (.ptr 0 0) .nil).find t=AV.bad by rw [find_cons,if_neg (by omega)];rfl]
   exact .bad _
 ·by_cases e:t=3
  ·subst e
   have hx:(X 3).contains 3=true:=by kernel_rfl
   rw [hx] at ht
   cases ht
  ·rw [find_cons,if_neg (by omega)];rfl
 ·cases hv
  refine ⟨rfl,hB1.trans ⟨af.os,af.tape,af.output,af.size,fun k hk=>af.frame k (by omega) fun b x o e hb hr=>?_⟩⟩
  obtain ⟨_,rfl,_⟩:=die0_has hb
  have hr:some (w.heap.size,(0,0))=some (k,e):=hr
  injection hr with hr
  injection hr with hr _
  omega
end Go.Proofs.Ytofkfgfbibolcaa.walk
