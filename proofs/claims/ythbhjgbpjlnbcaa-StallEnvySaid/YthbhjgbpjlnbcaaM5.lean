/- The places of all that can have a stall, for all stalls. -/
import Derived.Test.YthbhjgbpjlnbcaaM4
import Derived.Test.YthbhjgbpjlnbcaaCodes
import Derived.Test.YthbhjgbpjlnbcaaM2
import Derived.Test.YthbhjgbpjlnbcaaWalkAll
set_option maxHeartbeats 16000000
set_option linter.unusedVariables false
set_option maxRecDepth 10000
namespace Go.Proofs.Ythbhjgbpjlnbcaa.walk
open Go.Abs Go.Proofs.Ythbhjgbpjlnbcaa.code
def RkS (h:Heap) (n bm lo:Nat) (l:Letting) (k:Nat) (v:AV):Prop :=
 ∃ ms:List Nat,ms.length=k∧IsAt h n bm 1 (tag 91) (ms.map fun m=>[.map m]) v∧∀ j (hj:j<ms.length),lo≤ms[j]∧ms[j]<n∧ms[j]≠bm∧∃ g,RankOf l j g∧h.get ms[j]=some (.map (mapV (plAll g)))
section
variable {h h':Heap} {n n' bm lo k:Nat} {l:Letting} {v:AV}
theorem RkS.nil (h:Heap) (n bm lo:Nat) (l:Letting):RkS h n bm lo l 0 .nilslice:=⟨[],rfl,IsAt.nil _ _ _ _ _,fun j hj=>by simp at hj⟩
theorem RkS.move (a:RkS h n bm lo l k v) (hb:bm<n→lo≤bm) (hh:∀ c,c<n→lo≤c→h'.get c=h.get c) (hn:n≤n'):RkS h' n' bm lo l k v:=by
 obtain ⟨ms,h1,h2,h3⟩:=a
 refine ⟨ms,h1,h2.mono (fun h=>hh _ h (hb h)) hn,fun j hj=>?_⟩
 obtain ⟨a1,a2,a3,g,a4,a5⟩:=h3 j hj
 exact ⟨a1,by omega,a3,g,a4,by rw [hh _ a2 a1];exact a5⟩
theorem RkS.weak {lo':Nat} (a:RkS h n bm lo l k v) (hl:lo'≤lo):RkS h n bm lo' l k v:=by
 obtain ⟨ms,h1,h2,h3⟩:=a
 refine ⟨ms,h1,h2,fun j hj=>?_⟩
 obtain ⟨a1,a2⟩:=h3 j hj
 exact ⟨by omega,a2⟩
theorem RkS.okA (a:RkS h n bm lo l k v) (t:St):Abs.okA (.val v t)=.val v t:=by obtain ⟨_,_,h2,_⟩:=a;exact h2.okA t
theorem RkS.get (a:RkS h n bm lo l k v) {j:Nat} (hj:j<k) :
  ∃ m p c sz g,(∀ s,ixsA 1 s v (.int .i64 (j:Int))=.val (.ptr bm p) s)∧h.get bm=some (.cells c sz)∧nth c p=.map m∧RankOf l j g∧h.get m=some (.map (mapV (plAll g)))∧bm<n∧m<n:=by
 obtain ⟨ms,h1,h2,h3⟩:=a
 have hr:j<ms.length:=by omega
 obtain ⟨a1,a2,a3,g,a4,a5⟩:=h3 j hr
 rcases h2.is with ⟨z,_⟩ | ⟨_,z1,z2,z3⟩
 ·rw [List.map_eq_nil_iff] at z
  subst z
  simp at hr
 ·refine ⟨ms[j],0+j * 1,_,_,g,fun s=>by rw [z2];exact ixs_slice 1 s bm 0 _ _ true j (by rw [List.length_map];exact hr),z3,?_,a4,a5,z1,a2⟩
  rw [Nat.zero_add]
  have:=flatten_cut (rows:=ms.map fun m=>[AV.map m]) (w:=1) (i:=j) h2.wide (by rw [List.length_map];exact hr)
  exact cut1_nth (this.trans (by simp))
theorem RkS.slice (a:RkS h n bm lo l k v) (hk:0<k):v=.slice bm 0 k k true∧bm<n:=by
 obtain ⟨ms,h1,h2,h3⟩:=a
 rcases h2.is with ⟨z,_⟩ | ⟨_,z1,z2,z3⟩
 ·rw [List.map_eq_nil_iff] at z
  subst z
  simp at h1;omega
 ·rw [List.length_map,h1] at z2
  exact ⟨z2,z1⟩
end
theorem RkS.push {s:St} {bm lo k m:Nat} {l:Letting} {v:AV} {g:List Nat} (a:RkS s.h s.n bm lo l k v) (hg:RankOf l k g) (hm:s.h.get m=some (.map (mapV (plAll g)))) (hlo:lo≤m) (hmn:m<s.n) (hmb:m≠bm) {p sz:Nat} (hp:s.h.get p=some (.cells [.map m] sz)) (hl:k+1≤1000) (hs:s.n+10≤far) :
  ∃ v' s',appendA false 1 8 (tag 91) s v (.slice p 0 1 1 false)=.val v' s'∧RkS s'.h s'.n s.n lo l (k+1) v'∧s'.n=s.n+1∧(∀ c,c<s.n→c≠bm→s'.h.get c=s.h.get c)∧(∀ k,k≤bm→k≤s.n→k≤s.m→k≤s'.m)∧s'.m≤s.m:=by
 have hf:far=1000000000:=rfl
 obtain ⟨ms,h1,h2,h3⟩:=a
 obtain ⟨s',e1,e2,e3,e4,e5,e6⟩:=append_at (bytes:=8) h2 hp rfl rfl (by rw [List.length_map];omega) (by kernel_rfl) (by omega)
 refine ⟨_,s',e1,⟨ms++[m],by simp [h1],by rw [List.map_append];exact e2,fun j hj=>?_⟩,e3,e4,e5,e6⟩
 by_cases e:j<ms.length
 ·obtain ⟨a1,a2,a3,g',a4,a5⟩:=h3 j e
  rw [List.getElem_append_left e]
  exact ⟨a1,by omega,by omega,g',a4,by rw [e4 _ a2 a3];exact a5⟩
 ·have hj:j=ms.length:=by rw [List.length_append,List.length_singleton] at hj;omega
  subst hj
  rw [List.getElem_append_right (Nat.le_refl _)]
  simp only [Nat.sub_self,List.getElem_singleton]
  rw [h1]
  exact ⟨hlo,by omega,by omega,g,hg,by rw [e4 _ hmn hmb];exact hm⟩
theorem rank_ex {N:Nat} {no na:Nat→Prop} {l:Letting} {vS vA:AV} {s:St} {r:ARes} (hr:call Try.prog X N (.fn 39) [.agg (letV vS vA)] s=r) (hN:15≤N) (ok:l.Ok) (hL:LetAt no na s.h s.n l vS vA) (hs:s.n+700000≤far) :
  ∃ v t bm,r=.val v t∧New s t 30000∧RkS t.h t.n bm s.n l l.stalls.length v∧s.n≤bm:=by
 obtain ⟨n,rfl⟩:∃ n,N=n+1:=⟨N - 1,by omega⟩
 have hf:far=1000000000:=rfl
 obtain ⟨v,t,e,st,bm,hq⟩:=call_new (n:=n) (args:=[.agg (letV vS vA)]) (s:=s) (k:=30000) (Q:=fun v h n=>∃ bm,RkS h n bm s.n l l.stalls.length v∧s.n≤bm) Try.func39 rfl (fun u uh un um=>by
  rw [← uh,← un] at hL
  rw [← un]
  have k0:=ok.k0
  have k1:=ok.k1
  have kA:=hL.okV
  have kS:=hL.okS
  have lS:=hL.lenS
  obtain ⟨m,hm⟩:∃ m,m=l.stalls.length:=⟨_,rfl⟩
  obtain ⟨w,hw⟩:∃ w:St,w=u.new (.cells [vS,vA] (tag 28)):=⟨_,rfl⟩
  have wn:w.n=u.n+1:=by rw [hw];rfl
  have wm:w.m=far:=by rw [hw];exact um
  have wg:∀ c,c<u.n→w.h.get c=u.h.get c:=fun c hc=>by rw [hw,get_new_ne _ _ _ (by omega)]
  have w0:w.h.get u.n=some (.cells [vS,vA] (tag 28)):=by rw [hw];exact get_new_eq _ _ _ rfl (by omega)
  rw [← hm] at lS k0 k1 ⊢
  rw [enter39]
  simp (disch:=first|omega|(with_unfolding_all exact rfl)|(simp only[new_n,put_n,new_m];omega)|(refine put_m_le ?_;simp only[new_m];omega)) only [K39,K39r0,Abs.W,reduceIte,Nat.reduceEqDiff,Nat.reduceAdd]
  rw [← hw]
  simp (disch:=first|omega|(with_unfolding_all exact rfl)|(simp only[new_n,put_n,new_m];omega)|(refine put_m_le ?_;simp only[new_m];omega)) only [K39r1,K39r2,Abs.W,reduceIte,Nat.reduceEqDiff,kLoop_def,Nat.reduceSub,w0,kS,lS,Nat.zero_add]
  generalize hlp:loopN _ rounds _ _ _ _ _=q1
  obtain ⟨e,L1,s1,rfl,rfl,v,bm,f3,hR,hb,hn1,hn2,hs1,hm1,hm2⟩:=loop_of hlp (fun i L t=>∃ v bm,L.find 1=.ptr u.n 0∧L.find 3=v∧L.find 7=.int .i64 (m:Int)∧L.find 8=.int .i64 (i:Nat)∧RkS t.h t.n bm (u.n+1) l i v∧u.n+1≤bm∧(bm<t.n∨far≤bm)∧w.n≤t.n∧t.n≤w.n+3003 * i∧(∀ c,c<w.n→t.h.get c=w.h.get c)∧u.n≤t.m∧t.m≤far)
   (fun e L t=>e=.exit 0∧∃ v bm,L.find 3=v∧RkS t.h t.n bm (u.n+1) l m v∧u.n+1≤bm∧w.n≤t.n∧t.n≤w.n+3003 * m∧(∀ c,c<w.n→t.h.get c=w.h.get c)∧u.n≤t.m∧t.m≤far) m (by unfold rounds;omega)
   ⟨.nilslice,far,by simp only [find_cons,reduceIte,Nat.reduceEqDiff],by simp only [find_cons,reduceIte,Nat.reduceEqDiff],by simp only [find_cons,reduceIte,Nat.reduceEqDiff],by simp only [find_cons,reduceIte,Nat.reduceEqDiff];rfl,RkS.nil _ _ _ _ _,by omega,.inr (Nat.le_refl _),by omega,by omega,fun _ _=>rfl,by omega,by omega⟩
   (fun i L t hi ⟨v,bm,q1,q3,q7,q8,hR,hb,hbn,hn1,hn2,hsm,hm1,hm2⟩=>by
    by_cases hlt:i<m
    ·have e0:decide ((i:Int)<(m:Int))=true:=decide_eq_true (by omega)
     have t0:=(hsm u.n (by omega)).trans w0
     have kv:=hR.okA
     have hLt:=hL.grow (h':=t.h) (n':=t.n) (fun c hc=>(hsm c (by omega)).trans (wg c hc)) (by omega)
     have ad:∀ s,aAdd s .i64 (i:Int) 1=.val (.int .i64 ((i:Int)+1)) s:=fun s=>aAdd_i64 s _ _ (by omega)
     simp (disch:=first|omega|(with_unfolding_all exact rfl)|(simp only[new_n,put_n,new_m];omega)|(refine put_m_le ?_;simp only[new_m];omega)) only [K39l0,K39r3,K39r4,K39r5,K39r6,Abs.W,reduceIte,Nat.reduceEqDiff,Nat.reduceSub,efs,q1,q3,q7,q8,e0,t0]
     generalize hc:call _ _ _ (.fn 49) _ _=rc
     obtain ⟨v1,bd,g,t1,rfl,s1,hbd,hI,hG⟩:=ranks_ex hc (by omega) ok (by omega) hLt (by omega)
     have s1n:=s1.n
     have s1l:=s1.le
     have s1m:=s1.m
     simp (disch:=first|omega|(with_unfolding_all exact rfl)|(simp only[new_n,put_n,new_m];omega)|(refine put_m_le ?_;simp only[new_m];omega)) only [Abs.W,reduceIte,Nat.reduceEqDiff,efs]
     generalize hc2:call _ _ _ (.fn 54) _ _=rc
     have gl:g.length≤8:=by rw [hG.same.len];exact ableL_len ok i
     obtain ⟨t2,rfl,s2,n2,g2⟩:=places_ex hc2 (by omega) hI.rows.at_ gl (by omega)
     have s2m:=s2.m
     obtain ⟨y,hy⟩:∃ y:St,y=t2.new (.cells [.map t1.n] 0):=⟨_,rfl⟩
     have yn:y.n=t2.n+1:=by rw [hy];rfl
     have ym:y.m=t2.m:=by rw [hy];rfl
     have yg:∀ c,c<t2.n→y.h.get c=t2.h.get c:=fun c hc=>by rw [hy,get_new_ne _ _ _ (by omega)]
     have yp:y.h.get t2.n=some (.cells [.map t1.n] 0):=by rw [hy];exact get_new_eq _ _ _ rfl (by omega)
     have yt:∀ c,c<t.n→y.h.get c=t.h.get c:=fun c hc=>(yg c (by omega)).trans ((s2.same c (by omega)).trans (s1.same c hc))
     have hRy:RkS y.h y.n bm (u.n+1) l i v:=hR.move (fun _=>hb) (fun c hc _=>yt c hc) (by omega)
     have ymp:y.h.get t1.n=some (.map (mapV (plAll g))):=(yg t1.n (by omega)).trans g2
     obtain ⟨v',s',e3,hR',n3,h3,hb3,m3⟩:=hRy.push hG ymp (by omega) (by omega) (by omega) yp (by omega) (by omega)
     rw [hy] at e3
     have ceM:∀ b,cellsOf 1 (.map b)=some [.map b]:=fun _=>rfl
     refine .inl ⟨hlt,_,_,by
      simp (disch:=first|omega|(with_unfolding_all exact rfl)|(simp only[new_n,put_n,new_m];omega)|(refine put_m_le ?_;simp only[new_m];omega)) only [Abs.W,reduceIte,Nat.reduceEqDiff,Nat.reduceSub,efs,q8,ceM,e3,ad]
      rfl,v',y.n,?_,?_,?_,?_,hR',by omega,.inl (by omega),by omega,by omega,fun c hc=>(h3 c (by omega) (by omega)).trans ((yt c (by omega)).trans (hsm c hc)),?_,by omega⟩
     ·simp only [efs,q1,reduceIte,Nat.reduceEqDiff]
     ·simp only [efs,reduceIte,Nat.reduceEqDiff]
     ·simp only [efs,q7,reduceIte,Nat.reduceEqDiff]
     ·simp only [efs,reduceIte,Nat.reduceEqDiff];rfl
     ·exact hb3 u.n (by omega) (by omega) (by omega)
    ·obtain rfl:i=m:=by omega
     have e0:decide ((i:Int)<(i:Int))=false:=by simp
     refine .inr ⟨.exit 0,L.set 9 (.bool false),t,by simp,?_,rfl,v,bm,?_,hR,hb,hn1,hn2,hsm,hm1,hm2⟩
     ·simp (disch:=first|omega|(with_unfolding_all exact rfl)|(simp only[new_n,put_n,new_m];omega)|(refine put_m_le ?_;simp only[new_m];omega)) only [K39l0,K39r3,Abs.W,reduceIte,efs,q7,q8,e0]
     ·simp only [efs,q3,reduceIte,Nat.reduceEqDiff])
  have kv:=hR.okA
  obtain ⟨hv,_⟩:=hR.slice (by omega)
  simp (disch:=first|omega|(with_unfolding_all exact rfl)|(simp only[new_n,put_n,new_m];omega)|(refine put_m_le ?_;simp only[new_m];omega)) only [K39r7,res39,Abs.W,reduceIte,Nat.reduceEqDiff,efs,f3]
  exact ⟨_,_,rfl,⟨fun c hc=>(hs1 c (by omega)).trans (wg c hc),by omega,by omega,hm1,hm2⟩,by rw [hv];rfl,bm,hR.weak (by omega),by omega⟩)
 exact ⟨v,t,bm,hr.symm.trans e,st,hq⟩
end Go.Proofs.Ythbhjgbpjlnbcaa.walk
set_option maxRecDepth 10000
namespace Go.Proofs.Ythbhjgbpjlnbcaa.walk
open Go.Abs Go.Proofs.Ythbhjgbpjlnbcaa.code
theorem RankOf.lt {l:Letting} {st:Nat} {g:List Nat} (r:RankOf l st g) {a b:Nat} (ha:a ∈ ableL l st) (hb:b ∈ ableL l st):getP (plAll g) a<getP (plAll g) b↔keyL l st a<keyL l st b:=by
 obtain ⟨i,i1,i2⟩:=mem_at.mp ((r.same.mem a).mpr ha)
 obtain ⟨j,j1,j2⟩:=mem_at.mp ((r.same.mem b).mpr hb)
 have li:=r.same.len
 subst i2 j2
 rw [plAll_at r.same.nd i1,plAll_at r.same.nd j1]
 rcases Nat.lt_trichotomy i j with h | h | h
 ·have:=r.up i j h (by omega)
  exact ⟨fun _=>this,fun _=>by omega⟩
 ·subst h
  exact ⟨fun h=>by omega,fun h=>by omega⟩
 ·have:=r.up j i h (by omega)
  exact ⟨fun h=>by omega,fun h=>by omega⟩
def betterB (l:Letting) (st a:Nat) (h:Int):Bool:=decide (h = -1) || decide (keyL l st a<keyL l st h.toNat)
theorem better_ok (N:Nat) (hN:1≤N) {l:Letting} {bm lo k st a:Nat} {h:Int} {v:AV} {s:St} (hR:RkS s.h s.n bm lo l k v) (hst:st<k) (ha:a ∈ ableL l st) (hh:h = -1∨∃ b:Nat,h=b∧b ∈ ableL l st) (hs:s.n+100≤far) :
  call Try.prog X N (.fn 43) [v,.int .i64 (st:Int),.int .i64 (a:Int),.int .i64 h] s=.val (.bool (betterB l st a h)) s:=by
 obtain ⟨n,rfl⟩:∃ n,N=n+1:=⟨N - 1,by omega⟩
 refine call_plain' Try.func43 (fun u uh un um=>?_) rfl
 have hf:far=1000000000:=rfl
 rw [← uh,← un] at hR
 have kv:=hR.okA
 obtain ⟨m,p,c,sz,g,r1,r2,r3,r4,r5,r6,r7⟩:=hR.get hst
 have la:=look_map (plAll g) (a:Int) m u r5
 have lb:=look_map (plAll g) h m u r5
 rw [enter43]
 unfold betterB
 have okm:∀ b t,okA (.val (.map b) t)=.val (.map b) t:=fun _ _=>rfl
 rcases hh with rfl | ⟨b,rfl,hb⟩
 ·have e0:decide ((-1:Int) = -1)=true:=rfl
  rw [e0]
  simp (disch:=first|omega|(with_unfolding_all exact rfl)|(simp only[new_n,put_n,new_m];omega)|(refine put_m_le ?_;simp only[new_m];omega)) only [res43,K43r0,K43r1s16,K43r1s15,K43r1s14,K43r1s13,K43r1s12,K43r1s11,K43r1s10,K43r1s9,K43r1s8,K43r1s7,K43r1s6,K43r1s5,K43r1s4,K43r1,K43,Abs.W,reduceIte,Nat.reduceEqDiff,Nat.reduceAdd,decide_true,Bool.true_or]
  exact ⟨_,rfl,by omega⟩
 ·have e0:decide ((b:Int) = -1)=false:=decide_eq_false (by omega)
  have e1:decide (getP (plAll g) a<getP (plAll g) b)=decide (keyL l st a<keyL l st b):=by
   simp only [r4.lt ha hb]
  rw [e0]
  simp (disch:=first|omega|(with_unfolding_all exact rfl)|(simp only[new_n,put_n,new_m];omega)|(refine put_m_le ?_;simp only[new_m];omega)) only [res43,K43r0,K43r1s16,K43r1s15,K43r1s14,K43r1s13,K43r1s12,K43r1s11,K43r1s10,K43r1s9,K43r1s8,K43r1s7,K43r1s6,K43r1s5,K43r1s4,K43r1,K43,Abs.W,reduceIte,Nat.reduceEqDiff,Nat.reduceAdd,e0,Bool.false_or,r1,r2,r3,okm,kLookE,la,lb,e1,Int.toNat_natCast,Nat.zero_add]
  exact ⟨_,rfl,by omega⟩
theorem mul64_ok (N:Nat) (hN:1≤N) (k:Nat) (hk:k≤8) (s:St) (hs:s.n≤far):call Try.prog X N (.fn 70) [.int .u64 1,.int .u64 (k:Int)] s=.val (.tup [.int .u64 0,.int .u64 (k:Int)]) s:=by
 obtain ⟨n,rfl⟩:∃ n,N=n+1:=⟨N - 1,by omega⟩
 have:∀ u:St,enterA Try.prog X (call Try.prog X n) 70 [.int .u64 1,.int .u64 (k:Int)] u Try.f70=.val (.tup [.int .u64 0,.int .u64 (k:Int)]) u:=by
  have:k=0∨k=1∨k=2∨k=3∨k=4∨k=5∨k=6∨k=7∨k=8:=by omega
  rcases this with rfl | rfl | rfl | rfl | rfl | rfl | rfl | rfl | rfl<;>exact fun u=>by rw [enter70];kernel_rfl
 exact call_plain (s':=⟨s.h,s.n,far⟩) Try.func70 (this _) rfl hs
theorem mul_ok (N:Nat) (hN:2≤N) (k:Nat) (hk:k≤8) (s:St) (hs:s.n≤far):call Try.prog X N (.fn 55) [.int .u64 1,.int .u64 (k:Int)] s=.val (.tup [.int .u64 0,.int .u64 (k:Int)]) s:=by
 obtain ⟨n,rfl⟩:∃ n,N=n+1:=⟨N - 1,by omega⟩
 refine call_plain' Try.func55 (fun u uh un um=>?_) rfl
 have hf:far=1000000000:=rfl
 have c1:=mul64_ok n (by omega) k hk u (by omega)
 have ex0:∀ (a b:AV) (s:St),extA 0 s (.tup [a,b])=.val a s:=fun _ _ _=>rfl
 have ex1:∀ (a b:AV) (s:St),extA 1 s (.tup [a,b])=.val b s:=fun _ _ _=>rfl
 have okt:∀ (a b:AV) (s:St),okA (.val (.tup [a,b]) s)=.val (.tup [a,b]) s:=fun _ _ _=>rfl
 rw [enter55]
 simp (disch:=first|omega|(with_unfolding_all exact rfl)|(simp only[new_n,put_n,new_m];omega)|(refine put_m_le ?_;simp only[new_m];omega)) only [res55,K55r0,K55r1,K55r2,K55r3,K55r4,K55,Abs.W,reduceIte,Nat.reduceEqDiff,Nat.reduceAdd,c1,ex0,ex1]
 exact ⟨_,rfl,by omega⟩
def repA (n k:Nat):List AV:=List.replicate n (.int .i64 (-1))++List.replicate (k - n) (.int .i64 0)
theorem repA_over {n m k:Nat} (h:n+m≤k):over n (List.replicate m (.int .i64 (-1))) (repA n k)=some (repA (n+m) k):=by
 have:=over_skip (List.replicate n (.int .i64 (-1))) (List.replicate (k - n) (.int .i64 0)) (List.replicate m (.int .i64 (-1))) 0
 rw [Nat.add_zero,List.length_replicate] at this
 unfold repA
 rw [this,show k - n=m+(k - (n+m)) by omega,← List.replicate_append_replicate,over_head _ _ _ (by rw [List.length_replicate,List.length_replicate])]
 show some (_++(_++_))=_
 rw [← List.append_assoc,List.replicate_append_replicate]
theorem repA_cut {n m k:Nat} (h:m≤n):cut 0 m (repA n k)=some (List.replicate m (.int .i64 (-1))):=by
 unfold repA
 rw [show n=m+(n - m) by omega,← List.replicate_append_replicate,List.append_assoc,cut_zero]
 have:=cut1_app (List.replicate m (AV.int .i64 (-1))) (List.replicate (n - m) (.int .i64 (-1))++List.replicate (k - (m+(n - m))) (.int .i64 0))
 rwa [List.length_replicate] at this
theorem rep_scal (n:Nat):scalars (List.replicate n (.int .i64 (-1)))=true:=by
 induction n with
 | zero=>rfl
 | succ n ih=>rw [List.replicate_succ];exact ih
theorem copy_rep {b n k sz:Nat} {w:St} (hg:w.h.get b=some (.cells (repA n k) sz)) (h0:0<n) (h:n<k) :
  copyA 1 w (.slice b n (k - n) (k - n) false) (.slice b 0 n k false)=.val (.int .i64 ((min n (k - n):Nat):Int)) (w.put b (.cells (repA (n+min n (k - n)) k) sz)):=by
 have e1:Nat.min n (k - n)=min n (k - n):=rfl
 have e2:firstA 1 (min n (k - n)) w (.slice b 0 n k false)=some (List.replicate (min n (k - n)) (.int .i64 (-1))):=by
  show (match w.h.get b with | some (.cells c _)=>Abs.cut 0 (min n (k - n) * 1) c | some (.fam c _ q _)=>Abs.cut 0 (min n (k - n) * 1) (c.take q) | _=>none)=_
  rw [hg]
  simp only [Nat.mul_one]
  exact repA_cut (by omega)
 have e3:=repA_over (n:=n) (m:=min n (k - n)) (k:=k) (by omega)
 unfold copyA
 simp only [lenA,e1,e2,rep_scal,hg,e3]
theorem copy_one {b p k sz sz2:Nat} {e:Bool} {w:St} (hg:w.h.get b=some (.cells (repA 0 k) sz)) (hp:w.h.get p=some (.cells [.int .i64 (-1)] sz2)) (h0:0<k) :
  copyA 1 w (.slice b 0 k k false) (.slice p 0 1 1 e)=.val (.int .i64 ((1:Nat):Int)) (w.put b (.cells (repA 1 k) sz)):=by
 have e1:Nat.min 1 k=1:=Nat.min_eq_left (by omega)
 have e2:firstA 1 1 w (.slice p 0 1 1 e)=some (List.replicate 1 (.int .i64 (-1))):=by
  show (match w.h.get p with | some (.cells c _)=>Abs.cut 0 (1 * 1) c | some (.fam c _ q _)=>Abs.cut 0 (1 * 1) (c.take q) | _=>none)=_
  rw [hp]
  rfl
 have e3:=repA_over (n:=0) (m:=1) (k:=k) (by omega)
 rw [Nat.zero_add] at e3
 unfold copyA
 simp only [lenA,e1,e2,rep_scal,hg,e3]
theorem repeat_ex {N p k sz:Nat} {e:Bool} {s:St} {r:ARes} (hr:call Try.prog X N (.fn 40) [.slice p 0 1 1 e,.int .i64 (k:Int)] s=r) (hN:4≤N) (hk0:1≤k) (hk:k≤8) (hg:s.h.get p=some (.cells [.int .i64 (-1)] sz)) (hp:p<s.n) (hs:s.n+100≤far) :
  ∃ t,r=.val (.slice s.n 0 k k false) t∧New s t 1∧t.n=s.n+1∧t.h.get s.n=some (.cells (repA k k) 0):=by
 obtain ⟨n,rfl⟩:∃ n,N=n+1:=⟨N - 1,by omega⟩
 have hf:far=1000000000:=rfl
 obtain ⟨v,t,e,st,rfl,hq,hg⟩:=call_new (n:=n) (args:=[.slice p 0 1 1 e,.int .i64 (k:Int)]) (s:=s) (k:=1) (Q:=fun v h n=>v=.slice s.n 0 k k false∧n=s.n+1∧h.get s.n=some (.cells (repA k k) 0)) Try.func40 rfl (fun u uh un um=>by
  rw [← uh] at hg
  rw [← un] at hp
  rw [← un]
  have c1:=mul_ok n (by omega) k hk u (by omega)
  have ex0:∀ (a b:AV) (s:St),extA 0 s (.tup [a,b])=.val a s:=fun _ _ _=>rfl
  have ex1:∀ (a b:AV) (s:St),extA 1 s (.tup [a,b])=.val b s:=fun _ _ _=>rfl
  have okt:∀ (a b:AV) (s:St),okA (.val (.tup [a,b]) s)=.val (.tup [a,b]) s:=fun _ _ _=>rfl
  have e0:decide ((k:Int)<0)=false:=decide_eq_false (by omega)
  have e1:∀ s,cviA .u64 s (.int .i64 (k:Int))=.val (.int .u64 (k:Int)) s:=fun s=>by
   have:k=0∨k=1∨k=2∨k=3∨k=4∨k=5∨k=6∨k=7∨k=8:=by omega
   rcases this with rfl | rfl | rfl | rfl | rfl | rfl | rfl | rfl | rfl<;>rfl
  have e1':∀ s,cviA .u64 s (.int .i64 ((1:Nat):Int))=.val (.int .u64 1) s:=fun s=>rfl
  have e2:∀ s,cviA .i64 s (.int .u64 (k:Int))=.val (.int .i64 (k:Int)) s:=fun s=>by
   have:k=0∨k=1∨k=2∨k=3∨k=4∨k=5∨k=6∨k=7∨k=8:=by omega
   rcases this with rfl | rfl | rfl | rfl | rfl | rfl | rfl | rfl | rfl<;>rfl
  have g0:∀ s,gtrA s .u64 0 (.int .u64 0)=.val (.bool false) s:=fun s=>rfl
  have g1:∀ s,gtrA s .u64 (k:Int) (.int .u64 9223372036854775807)=.val (.bool false) s:=fun s=>by
   have:k=0∨k=1∨k=2∨k=3∨k=4∨k=5∨k=6∨k=7∨k=8:=by omega
   rcases this with rfl | rfl | rfl | rfl | rfl | rfl | rfl | rfl | rfl<;>rfl
  have mk:∀ s:St,makeA [.int .i64 0] 8 s (.int .i64 (k:Int)) (.int .i64 (k:Int))=.val (.slice s.n 0 k k false) (s.new (.cells (List.replicate k [.int .i64 0]).flatten 0)):=fun s=>make_rows [.int .i64 0] 8 k s (by omega) (by omega)
  have zr:(List.replicate k [AV.int .i64 0]).flatten=repA 0 k:=by unfold repA;simp
  rw [zr] at mk
  have u4:=eq3 K40r4s4.eq_1
  have u5:=eq3 K40r4s5.eq_1
  obtain ⟨w,hw⟩:∃ w:St,w=u.new (.cells (repA 0 k) 0):=⟨_,rfl⟩
  have wn:w.n=u.n+1:=by rw [hw];rfl
  have wm:w.m=far:=by rw [hw];exact um
  have wg:∀ c,c<u.n→w.h.get c=u.h.get c:=fun c hc=>by rw [hw,get_new_ne _ _ _ (by omega)]
  have w0:w.h.get u.n=some (.cells (repA 0 k) 0):=by rw [hw];exact get_new_eq _ _ _ rfl (by omega)
  have cp:=copy_one (e:=e) w0 ((wg p hp).trans hg) (by omega)
  rw [enter40]
  simp (disch:=first|omega|(with_unfolding_all exact rfl)|(simp only[new_n,put_n,new_m];omega)|(refine put_m_le ?_;simp only[new_m];omega)) only [K40,K40r0,K40r1,K40r3,K40r4,K40r6,u4,u5,Abs.W,reduceIte,Nat.reduceEqDiff,Nat.reduceAdd,e0,e1,e1',e2,c1,ex0,ex1,g0,g1,kMake_def,mk,Nat.zero_add]
  rw [← hw]
  simp (disch:=first|omega|(with_unfolding_all exact rfl)|(simp only[new_n,put_n,new_m];omega)|(refine put_m_le ?_;simp only[new_m];omega)) only [K40r7,Abs.W,reduceIte,Nat.reduceEqDiff,kLoop_def,cp]
  generalize hy:St.put _ _ _=y
  have yn:y.n=w.n:=by rw [← hy,put_n]
  have yg:∀ c,c<u.n→y.h.get c=u.h.get c:=fun c hc=>by rw [← hy,get_put_ne' _ _ _ _ (by omega)];exact wg c hc
  have yp:y.h.get u.n=some (.cells (repA 1 k) 0):=by rw [← hy];exact get_put_eq _ _ _ _ rfl (by omega)
  have ym:u.n≤y.m∧y.m≤far:=by rw [← hy];simp only [St.put,minN_eq];omega
  generalize hlp:loopN _ rounds _ _ _ _ _=q1
  obtain ⟨e,L1,s1,rfl,rfl,f7,hg,hn,hs1,hm1,hm2⟩:=loop_of hlp (fun i L t=>∃ c:Nat,L.find 7=.slice u.n 0 k k false∧L.find 8=.int .i64 (c:Int)∧1≤c∧c≤k∧(i+1≤c∨c=k)∧t.h.get u.n=some (.cells (repA c k) 0)∧t.n=u.n+1∧(∀ c,c<u.n→t.h.get c=u.h.get c)∧u.n≤t.m∧t.m≤far)
   (fun e L t=>e=.exit 0∧L.find 7=.slice u.n 0 k k false∧t.h.get u.n=some (.cells (repA k k) 0)∧t.n=u.n+1∧(∀ c,c<u.n→t.h.get c=u.h.get c)∧u.n≤t.m∧t.m≤far) k (by unfold rounds;omega)
   ⟨1,by simp only [find_cons,reduceIte,Nat.reduceEqDiff],by simp only [find_cons,reduceIte,Nat.reduceEqDiff],by omega,by omega,by omega,yp,by omega,yg,ym.1,ym.2⟩
   (fun i L t hi ⟨c,q7,q8,h1,h2,h3,hg,hn,hsm,hm1,hm2⟩=>by
    have lk:∀ s,lenSlA s (.slice u.n 0 k k false)=.val (.int .i64 (k:Int)) s:=fun s=>rfl
    by_cases hlt:c<k
    ·have e0:decide ((c:Int)<(k:Int))=true:=decide_eq_true (by omega)
     have sl1:=fun s=>slice_from 1 s u.n 0 k k c false (Nat.le_refl _) h2 hlt
     have sl2:=fun s=>slice_all s u.n k c h2 (by omega)
     have cp:=copy_rep hg (by omega) hlt
     have ad:∀ s,aAdd s .i64 (c:Int) ((min c (k - c):Nat):Int)=.val (.int .i64 ((c+min c (k - c):Nat):Int)) s:=fun s=>by rw [aAdd_i64 s _ _ (by omega)];rfl
     refine .inl ⟨by omega,_,_,by
      simp (disch:=first|omega|(with_unfolding_all exact rfl)|(simp only[new_n,put_n,new_m];omega)|(refine put_m_le ?_;simp only[new_m];omega)) only [K40l0,K40r8,K40r9,Abs.W,reduceIte,Nat.reduceEqDiff,efs,q7,q8,e0,lk,kSlice_def,optEv_some,optEv_none,sl1,sl2,cp,ad,Nat.zero_add,Nat.mul_one]
      rfl,c+min c (k - c),?_,?_,by omega,by omega,by omega,get_put_eq _ _ _ _ rfl (by omega),by rw [put_n];exact hn,fun c hc=>by rw [get_put_ne' _ _ _ _ (by omega)];exact hsm c hc,by simp only [St.put,minN_eq];omega,by simp only [St.put,minN_eq];omega⟩
     ·simp only [efs,q7,reduceIte,Nat.reduceEqDiff]
     ·simp only [efs,reduceIte,Nat.reduceEqDiff]
    ·obtain rfl:c=k:=by omega
     have e0:decide ((c:Int)<(c:Int))=false:=by simp
     refine .inr ⟨.exit 0,L.set 37 (.bool false),t,by simp,?_,rfl,?_,hg,hn,hsm,hm1,hm2⟩
     ·simp (disch:=first|omega|(with_unfolding_all exact rfl)|(simp only[new_n,put_n,new_m];omega)|(refine put_m_le ?_;simp only[new_m];omega)) only [K40l0,K40r8,Abs.W,reduceIte,Nat.reduceEqDiff,efs,q7,q8,lk,e0]
     ·simp only [efs,q7,reduceIte,Nat.reduceEqDiff])
  simp (disch:=first|omega|(with_unfolding_all exact rfl)|(simp only[new_n,put_n,new_m];omega)|(refine put_m_le ?_;simp only[new_m];omega)) only [K40r10,res40,Abs.W,reduceIte,Nat.reduceEqDiff,efs,f7]
  exact ⟨_,_,rfl,⟨hs1,by omega,by omega,hm1,hm2⟩,rfl,rfl,hn,hg⟩)
 exact ⟨t,hr.symm.trans e,st,hq,hg⟩
end Go.Proofs.Ythbhjgbpjlnbcaa.walk
set_option maxRecDepth 10000
namespace Go.Proofs.Ythbhjgbpjlnbcaa.walk
open Go.Abs Go.Proofs.Ythbhjgbpjlnbcaa.code
def QAt (h:Heap) (n b:Nat) (q:List Nat) (v:AV):Prop :=
 b<n∧∃ o c sz,h.get b=some (.cells c sz) ∧
  ((v=.slice b o q.length q.length false∧cut o q.length c=some (arr q)) ∨
  (q≠[]∧v=.slice b o q.length q.length true∧c.length=o+q.length∧c.drop o=arr q∧szOf sz=1) ∨
  (q=[]∧v=.tail b o∧c.length=o∧szOf sz=1))
section
variable {h h':Heap} {n n' b:Nat} {q:List Nat} {v:AV}
theorem QAt.move (a:QAt h n b q v) (hh:h'.get b=h.get b) (hn:n≤n'):QAt h' n' b q v:=by
 obtain ⟨h1,o,c,sz,h2,h3⟩:=a
 exact ⟨by omega,o,c,sz,hh.trans h2,h3⟩
theorem QAt.okA (a:QAt h n b q v) (t:St):Abs.okA (.val v t)=.val v t:=by
 obtain ⟨h1,o,c,sz,h2,⟨rfl,_⟩ | ⟨_,rfl,_⟩ | ⟨_,rfl,_⟩⟩:=a<;>rfl
theorem QAt.scal (a:QAt h n b q v):scalars [v]=true∧cellsOf 1 v=some [v]:=by
 obtain ⟨h1,o,c,sz,h2,⟨rfl,_⟩ | ⟨_,rfl,_⟩ | ⟨_,rfl,_⟩⟩:=a<;>exact ⟨rfl,rfl⟩
theorem QAt.len (a:QAt h n b q v) (s:St):lenSlA s v=.val (.int .i64 (q.length:Int)) s:=by
 obtain ⟨h1,o,c,sz,h2,⟨rfl,_⟩ | ⟨_,rfl,_⟩ | ⟨rfl,rfl,_⟩⟩:=a<;>rfl
theorem cut_drop {c:List AV} {o k:Nat} {l:List AV} (h:cut o k c=some l):l=(c.drop o).take k∧l.length=k:=by
 induction o generalizing c with
 | zero =>
  rw [cut_zero] at h
  obtain ⟨t,h1,h2⟩:=cut1_some h
  subst h1
  exact ⟨by rw [List.drop_zero,← h2,List.take_left],h2⟩
 | succ o ih =>
  cases c with
  | nil=>cases k<;>cases h<;>first | exact ⟨rfl,rfl⟩ | skip
  | cons x c=>rw [List.drop_succ_cons];exact ih h
theorem QAt.head {a:Nat} {r:List Nat} (x:QAt h n b (a::r) v):∃ o c sz,(∀ s,ixsA 1 s v (.int .i64 0)=.val (.ptr b o) s)∧h.get b=some (.cells c sz)∧nth c o=.int .i64 (a:Nat):=by
 obtain ⟨h1,o,c,sz,h2,h3⟩:=x
 have key:∀ {l:List AV},l=(.int .i64 (a:Int))::arr r→(∃ t,c.drop o=l++t)→nth c o=.int .i64 (a:Nat):=fun {l} hl ⟨t,ht⟩=>by
  have e:c=c.take o++c.drop o:=(List.take_append_drop o c).symm
  have ol:o≤c.length:=by
   rcases Nat.lt_or_ge c.length o with h | h
   ·rw [List.drop_eq_nil_of_le (by omega),hl] at ht
    cases ht
   ·exact h
  have:cut o 1 c=some [.int .i64 (a:Int)]:=by
   have h1:=cut_skip (c.take o) (c.drop o) 0 1
   rw [Nat.add_zero,List.length_take,Nat.min_eq_left ol,← e] at h1
   rw [h1,ht,hl]
   rfl
  exact cut1_nth this
 rcases h3 with ⟨rfl,h4⟩ | ⟨_,rfl,h4,h5,_⟩ | ⟨h4,_⟩
 ·refine ⟨o,c,sz,fun s=>by have:=ixs_slice 1 s b o (a::r).length (a::r).length false 0 (by simp);rwa [Nat.zero_mul,Nat.add_zero] at this,h2,key (l:=arr (a::r)) rfl ⟨(c.drop o).drop (a::r).length,?_⟩⟩
  rw [(cut_drop h4).1,List.take_append_drop]
 ·exact ⟨o,c,sz,fun s=>by have:=ixs_slice 1 s b o (a::r).length (a::r).length true 0 (by simp);rwa [Nat.zero_mul,Nat.add_zero] at this,h2,key (l:=arr (a::r)) rfl ⟨[],by rw [h5,List.append_nil]⟩⟩
 ·cases h4
theorem QAt.tail {a:Nat} {r:List Nat} (x:QAt h n b (a::r) v):∃ v',(∀ s,sliceVal 1 (some (.int .i64 1)) none s v=.val v' s)∧QAt h n b r v':=by
 obtain ⟨h1,o,c,sz,h2,h3⟩:=x
 rcases h3 with ⟨rfl,h4⟩ | ⟨_,rfl,h4,h5,h6⟩ | ⟨h4,_⟩
 ·cases r with
  | nil=>exact ⟨.slice b o 0 0 false,fun s=>rfl,h1,o,c,sz,h2,.inl ⟨rfl,by
    obtain ⟨e1,e2⟩:=cut_drop h4
    have ol:o≤c.length:=by
     rcases Nat.lt_or_ge c.length o with h | h
     ·rw [List.drop_eq_nil_of_le (by omega)] at e1
      rw [e1] at e2;simp at e2
     ·exact h
    have h1:=cut_skip (c.take o) (c.drop o) 0 0
    rw [Nat.add_zero,List.length_take,Nat.min_eq_left ol,List.take_append_drop] at h1
    show cut o 0 c=_
    rw [h1,cut_zero]
    cases c.drop o<;>rfl⟩⟩
  | cons x r =>
   refine ⟨.slice b (o+1 * 1) ((a::x::r).length - 1) ((a::x::r).length - 1) false,fun s=>slice_from 1 s b o _ _ 1 false (Nat.le_refl _) (by simp) (by simp),h1,o+1 * 1,c,sz,h2,.inl ⟨rfl,?_⟩⟩
   obtain ⟨e1,e2⟩:=cut_drop h4
   have ol:o+1≤c.length:=by
    have:=congrArg List.length e1
    rw [e2,List.length_take,List.length_drop] at this
    simp at this;omega
   have h1:=cut_skip (c.take (o+1)) (c.drop (o+1)) 0 (x::r).length
   rw [Nat.add_zero,List.length_take,Nat.min_eq_left ol,List.take_append_drop] at h1
   rw [Nat.one_mul,h1,cut_zero]
   have e3:c.drop (o+1)=arr (x::r)++(c.drop (o+1)).drop (x::r).length:=by
    have e4:(c.drop o).take (a::x::r).length=arr (a::x::r):=e1.symm
    have e5:(c.drop (o+1)).take (x::r).length=arr (x::r):=by
     have:=congrArg (List.drop 1) e4
     rw [List.drop_take,List.drop_drop] at this
     exact this
    rw [← e5,List.take_append_drop]
   rw [e3]
   have:=cut1_app (arr (x::r)) ((c.drop (o+1)).drop (x::r).length)
   rwa [arr_len] at this
 ·cases r with
  | nil=>exact ⟨.tail b (o+1 * 1),fun s=>rfl,h1,o+1 * 1,c,sz,h2,.inr (.inr ⟨rfl,rfl,by simpa using h4,h6⟩)⟩
  | cons x r =>
   refine ⟨.slice b (o+1 * 1) ((a::x::r).length - 1) ((a::x::r).length - 1) true,fun s=>slice_from 1 s b o _ _ 1 true (Nat.le_refl _) (by simp) (by simp),h1,o+1 * 1,c,sz,h2,.inr (.inl ⟨by simp,rfl,by simp at h4 ⊢;omega,?_,h6⟩)⟩
   have:=congrArg (List.drop 1) h5
   rw [List.drop_drop] at this
   exact this
 ·cases h4
end
theorem app_grow {s:St} {w bytes tg p sz:Nat} {row:List AV} (hp:s.h.get p=some (.cells row sz)) (hw:row.length=w) (hsc:scalars row=true) (x:AV):appendA false w bytes tg s x (.slice p 0 1 1 false)=growA w bytes tg 1 row s x:=by
 have e1:firstA w 1 s (.slice p 0 1 1 false)=some row:=by
  show (match s.h.get p with | some (.cells c _)=>Abs.cut 0 (1 * w) c | some (.fam c _ k _)=>Abs.cut 0 (1 * w) (c.take k) | _=>none)=some row
  rw [hp]
  simp only [Nat.one_mul]
  rw [cut_zero,← hw,cut1_all]
 show (match (some 1:Option Nat) with | none=>ARes.fail | some n=>match firstA w n s (.slice p 0 1 1 false) with | none=>.fail | some new=>match Nat.beq new.length (n * w) with | false=>.fail | true=>match scalars new with | true=>growA w bytes tg n new s x | false=>.fail)=_
 simp only [e1,hw,Nat.one_mul,Nat.beq_refl,hsc]
theorem QAt.push {s:St} {b:Nat} {q:List Nat} {v:AV} (a:QAt s.h s.n b q v) {x p sz:Nat} (hp:s.h.get p=some (.cells [.int .i64 (x:Int)] sz)) (hq:q.length≤1000) (hs:s.n+10≤far) :
  ∃ v' s',appendA false 1 8 (tag 3) s v (.slice p 0 1 1 false)=.val v' s'∧QAt s'.h s'.n s.n (q++[x]) v'∧s'.n=s.n+1∧(∀ c,c<s.n→c≠b→s'.h.get c=s.h.get c)∧min s.m b≤s'.m∧s'.m≤s.m:=by
 have hf:far=1000000000:=rfl
 obtain ⟨h1,o,c,sz,h2,h3⟩:=a
 have e0:Nat.ble (q.length+1) q.length=false:=by
  cases h:Nat.ble (q.length+1) q.length with
  | false=>rfl
  | true=>have:=Nat.le_of_ble_eq_true h;omega
 have e2:Nat.ble ((q.length+1) * 8) limit=true:=Nat.ble_eq_true_of_le (by unfold limit;omega)
 have ql:(q++[x]).length=q.length+1:=by simp
 have qa:arr (q++[x])=arr q++[.int .i64 (x:Int)]:=arr_app q [x]
 rw [app_grow (w:=1) (bytes:=8) (tg:=tag 3) hp rfl rfl v]
 rcases h3 with ⟨rfl,h4⟩ | ⟨h0,rfl,h4,h5,h6⟩ | ⟨rfl,rfl,h4,h5⟩
 ·refine ⟨.slice s.n 0 (q.length+1) (q.length+1) true,s.new (.cells (arr q++[.int .i64 (x:Int)]) (1+tag 3)),?_,⟨by rw [new_n];omega,0,_,_,get_new_eq _ _ _ rfl (by omega),.inr (.inl ⟨by simp,by rw [ql],by rw [← qa,arr_len,Nat.zero_add],by rw [qa];rfl,by kernel_rfl⟩)⟩,rfl,fun c hc _=>get_new_ne _ _ _ (by omega),by rw [new_m];omega,by rw [new_m];omega⟩
  unfold growA
  simp only [h2,e0,e2,Nat.mul_one,h4]
 ·refine ⟨.slice s.n 0 (q.length+1) (q.length+1) true,(s.kill b).new (.cells (arr q++[.int .i64 (x:Int)]) (if o=0∧sz=1+tag 3 then sz else 1)),?_,⟨by show s.n<s.n+1;omega,0,_,_,get_new_eq _ _ _ rfl (by show s.n<_;omega),.inr (.inl ⟨by simp,by rw [ql],by rw [← qa,arr_len,Nat.zero_add],by rw [qa];rfl,?_⟩)⟩,rfl,fun c hc hb=>?_,?_,?_⟩
  ·unfold growA
   simp only [h2,e0,e2,Nat.mul_one,h4,h5,h6,and_self,if_true]
  ·split
   ·exact h6
   ·kernel_rfl
  ·rw [get_new_ne _ _ _ (by show c≠s.n;omega),get_kill_ne _ _ _ hb]
  ·rw [new_m];simp only [St.kill,minN_eq];omega
  ·rw [new_m];simp only [St.kill,minN_eq];omega
 ·refine ⟨.slice s.n 0 1 1 true,(s.kill b).new (.cells [.int .i64 (x:Int)] 1),?_,⟨by show s.n<s.n+1;omega,0,_,_,get_new_eq _ _ _ rfl (by show s.n<_;omega),.inr (.inl ⟨by simp,rfl,rfl,rfl,by kernel_rfl⟩)⟩,rfl,fun c hc hb=>?_,?_,?_⟩
  ·have e3:Nat.ble (1 * 8) limit=true:=by kernel_rfl
   have e4:Nat.beq 1 0=false:=rfl
   unfold growA
   simp only [h2,e3,h4,h5,and_self,if_true]
  ·rw [get_new_ne _ _ _ (by show c≠s.n;omega),get_kill_ne _ _ _ hb]
  ·rw [new_m];simp only [St.kill,minN_eq];omega
  ·rw [new_m];simp only [St.kill,minN_eq];omega
end Go.Proofs.Ythbhjgbpjlnbcaa.walk
set_option maxRecDepth 10000
namespace Go.Proofs.Ythbhjgbpjlnbcaa.walk
open Go.Abs Go.Proofs.Ythbhjgbpjlnbcaa.code
def applAt (l:Letting) (a:Nat):Appl:=l.appls.getD a ⟨0,0,[],[]⟩
def mktOf (l:Letting):Mkt:=⟨l.appls.length,l.stalls.length,fun a=>(reachOf l.stalls (applAt l a)).map fun x=>x.1.toNat,keyL l⟩
theorem applAt_of {l:Letting} {a:Nat} (ha:a<l.appls.length):applAt l a=l.appls[a]:=applOf ha
theorem reach_mem {l:Letting} (ok:l.Ok) {a:Nat} (ha:a<l.appls.length) {x:Int × Int} (h:x ∈ reachOf l.stalls (applAt l a)):∃ k:Nat,x.1=k∧k<l.stalls.length∧x.1 ∈ l.appls[a].wishes:=by
 rw [applAt_of ha] at h
 unfold reachOf at h
 obtain ⟨h1,_⟩:=zip_mem (List.mem_filter.mp h).1
 obtain ⟨h2,h3⟩:=(ok.ap _ (List.getElem_mem ha)).w _ h1
 exact ⟨x.1.toNat,by omega,by omega,h1⟩
theorem zip_fst:∀ {a b:List Int},b.length=a.length→(a.zip b).map Prod.fst=a
 | [],_,_=>rfl
 | x::a,[],h=>by simp at h
 | x::a,y::b,h=>by
  rw [List.zip_cons_cons,List.map_cons,zip_fst (by simpa using h)]
theorem reach_nodup {l:Letting} (ok:l.Ok) {a:Nat} (ha:a<l.appls.length):((reachOf l.stalls (applAt l a)).map Prod.fst).Nodup:=by
 have A:=ok.ap _ (List.getElem_mem ha)
 rw [applAt_of ha]
 unfold reachOf
 have h1:((l.appls[a].wishes.zip l.appls[a].bids).filter (can l.stalls)).map Prod.fst |>.Sublist ((l.appls[a].wishes.zip l.appls[a].bids).map Prod.fst):=List.filter_sublist.map _
 rw [zip_fst A.bl] at h1
 exact A.nd.sublist h1
theorem nodup_toNat:∀ {l:List Int},(∀ x ∈ l,0≤x)→l.Nodup→(l.map Int.toNat).Nodup
 | [],_,_=>List.nodup_nil
 | x::l,h,hd=>by
  obtain ⟨h1,h2⟩:=List.nodup_cons.mp hd
  rw [List.map_cons]
  refine List.nodup_cons.mpr ⟨fun hm=>?_,nodup_toNat (fun y hy=>h y (List.mem_cons_of_mem _ hy)) h2⟩
  obtain ⟨y,y1,y2⟩:=List.mem_map.mp hm
  have a1:=h y (List.mem_cons_of_mem _ y1)
  have a2:=h x (List.mem_cons_self ..)
  exact h1 (by rw [show x=y by omega];exact y1)
theorem mktOf_ok {l:Letting} (ok:l.Ok):(mktOf l).Ok:=by
 refine ⟨fun a ha=>?_,fun a ha s hs=>?_,fun s a b ha hb h=>keyL_ne ok s ha hb h⟩
 ·show ((reachOf l.stalls (applAt l a)).map fun x=>x.1.toNat).Nodup
  have e:(reachOf l.stalls (applAt l a)).map (fun x=>x.1.toNat)=((reachOf l.stalls (applAt l a)).map Prod.fst).map Int.toNat:=by rw [List.map_map];rfl
  rw [e]
  refine nodup_toNat (fun x hx=>?_) (reach_nodup ok ha)
  obtain ⟨y,y1,y2⟩:=List.mem_map.mp hx
  obtain ⟨k,k1,_⟩:=reach_mem ok ha y1
  omega
 ·obtain ⟨y,y1,y2⟩:=List.mem_map.mp hs
  obtain ⟨k,k1,k2,_⟩:=reach_mem ok ha y1
  show s<l.stalls.length
  omega
theorem bidOf_iff (st:Int):∀ T:List (Int × Int),(bidOf st T).2=true↔∃ x ∈ T,x.1=st
 | []=>by simp [bidOf]
 | x::T=>by
  unfold bidOf
  by_cases h:x.1=st
  ·rw [if_pos h];simp [h]
  ·rw [if_neg h,bidOf_iff st T];simp [h]
theorem canI_iff {l:Letting} (ok:l.Ok) {a st:Nat} (ha:a<l.appls.length):canI l st a=true↔st ∈ (mktOf l).R a:=by
 unfold canI bidI
 show (bidOf (st:Int) (reachOf l.stalls (applAt l a))).2=true↔_
 rw [bidOf_iff]
 show _↔st ∈ (reachOf l.stalls (applAt l a)).map fun x=>x.1.toNat
 rw [List.mem_map]
 constructor
 ·rintro ⟨x,h1,h2⟩;exact ⟨x,h1,by rw [h2];exact Int.toNat_natCast st⟩
 ·rintro ⟨x,h1,h2⟩
  obtain ⟨k,k1,_⟩:=reach_mem ok ha h1
  exact ⟨x,h1,by omega⟩
theorem able_iff {l:Letting} (ok:l.Ok) {a st:Nat} (ha:a<l.appls.length):a ∈ ableL l st↔st ∈ (mktOf l).R a:=by
 rw [ableL_mem,← canI_iff ok ha];exact ⟨fun h=>h.2,fun h=>⟨ha,h⟩⟩
theorem betterB_iff (l:Letting) (st a:Nat) (h:Int):betterB l st a h=true↔(mktOf l).Better st a h:=by
 unfold betterB Mkt.Better
 simp only [Bool.or_eq_true,decide_eq_true_eq]
 rfl
end Go.Proofs.Ythbhjgbpjlnbcaa.walk
set_option maxRecDepth 10000
namespace Go.Proofs.Ythbhjgbpjlnbcaa.walk
open Go.Abs Go.Proofs.Ythbhjgbpjlnbcaa.code
theorem idx_at {l:List Int} {x:Int} {i:Nat} (hi:i<l.length) (hx:l[i]=x) (h:∀ y ∈ l.take i,y≠x):l.idxOf x=i:=by
 have e:l=l.take i++l[i]::l.drop (i+1):=(take_split hi).symm
 have hn:x ∉ l.take i:=fun hm=>h x hm rfl
 rw [e,List.idxOf_append,if_neg hn,hx,List.idxOf_cons_self,List.length_take]
 omega
theorem idx_none' {l:List Int} {x:Int} (h:∀ y ∈ l,y≠x):l.idxOf x=l.length:=List.idxOf_eq_length fun hm=>h x hm rfl
theorem wish_ok (N:Nat) (hN:1≤N) {no:Nat→Prop} {a b bv wv:AV} {wl:List Int} {st:Int} {s:St} (hR:Sl no s.h s.n 1 (intRows wl) wv) (hl:wl.length≤8) (hs:s.n+100≤far) :
  call Try.prog X N (.fn 30) [.agg [a,b,wv,bv],.int .i64 st] s=.val (.int .i64 (wl.idxOf st:Nat)) s:=by
 obtain ⟨n,rfl⟩:∃ n,N=n+1:=⟨N - 1,by omega⟩
 refine call_plain' Try.func30 (fun u uh un um=>?_) rfl
 have hf:far=1000000000:=rfl
 rw [← uh,← un] at hR
 obtain ⟨w,hw⟩:∃ w:St,w=u.new (.cells [a,b,wv,bv] (tag 37)):=⟨_,rfl⟩
 have wn:w.n=u.n+1:=by rw [hw];rfl
 have wm:w.m=far:=by rw [hw];exact um
 have wg:∀ c,c<u.n→w.h.get c=u.h.get c:=fun c hc=>by rw [hw,get_new_ne _ _ _ (by omega)]
 have w0:w.h.get u.n=some (.cells [a,b,wv,bv] (tag 37)):=by rw [hw];exact get_new_eq _ _ _ rfl (by omega)
 have hRw:=hR.grow wg (by omega:u.n≤w.n)
 have kv:=hRw.okA
 have lv:=rowLen hRw.at_
 rw [enter30]
 simp (disch:=first|omega|(with_unfolding_all exact rfl)|(simp only[new_n,put_n,new_m];omega)|(refine put_m_le ?_;simp only[new_m];omega)) only [K30,K30r0,Abs.W,reduceIte,Nat.reduceEqDiff,Nat.reduceAdd]
 rw [← hw]
 simp (disch:=first|omega|(with_unfolding_all exact rfl)|(simp only[new_n,put_n,new_m];omega)|(refine put_m_le ?_;simp only[new_m];omega)) only [K30r1,Abs.W,reduceIte,Nat.reduceEqDiff,kLoop_def]
 generalize hlp:loopN _ rounds _ _ _ _ _=q1
 obtain ⟨e,L1,s1,rfl,rfl,hQ⟩:=loop_of hlp (fun i L t=>t=w∧L.find 1=.int .i64 st∧L.find 2=.ptr u.n 0∧L.find 5=.int .i64 (i:Nat)∧∀ y ∈ wl.take i,y≠st)
  (fun e L t=>t=w∧((e=.ret∧L.find 4=.int .i64 (wl.idxOf st:Nat))∨(e=.exit 0∧L.find 2=.ptr u.n 0∧wl.idxOf st=wl.length))) wl.length (by unfold rounds;omega)
  ⟨rfl,by simp only [find_cons,reduceIte,Nat.reduceEqDiff],by simp only [find_cons,reduceIte,Nat.reduceEqDiff],by simp only [find_cons,reduceIte,Nat.reduceEqDiff];rfl,by simp⟩
  (fun i L t hi ⟨ht,q1,q2,q5,hx⟩=>by
   subst ht
   by_cases hlt:i<wl.length
   ·have e0:decide ((i:Int)<(wl.length:Int))=true:=decide_eq_true (by omega)
    obtain ⟨b1,p1,c1,sz1,r1,r2,r3,r4⟩:=rowInt hRw.at_ hlt
    have ad:∀ s,aAdd s .i64 (i:Int) 1=.val (.int .i64 ((i:Int)+1)) s:=fun s=>aAdd_i64 s _ _ (by omega)
    by_cases he:wl[i]=st
    ·have e1:decide (wl[i]=st)=true:=decide_eq_true he
     refine .inr ⟨.ret,_,t,by simp,by
      simp (disch:=first|omega|(with_unfolding_all exact rfl)|(simp only[new_n,put_n,new_m];omega)|(refine put_m_le ?_;simp only[new_m];omega)) only [K30l0,K30r2,K30r3,K30r4,Abs.W,reduceIte,Nat.reduceEqDiff,Nat.reduceSub,efs,q1,q2,q5,w0,kv,lv,e0,r2,r3,r4,e1,Nat.zero_add]
      rfl,rfl,.inl ⟨rfl,by rw [idx_at hlt he hx];simp only [efs,reduceIte,Nat.reduceEqDiff]⟩⟩
    ·have e1:decide (wl[i]=st)=false:=decide_eq_false he
     refine .inl ⟨hlt,_,t,by
      simp (disch:=first|omega|(with_unfolding_all exact rfl)|(simp only[new_n,put_n,new_m];omega)|(refine put_m_le ?_;simp only[new_m];omega)) only [K30l0,K30r2,K30r3,K30r5,Abs.W,reduceIte,Nat.reduceEqDiff,Nat.reduceSub,efs,q1,q2,q5,w0,kv,lv,e0,r2,r3,r4,e1,ad,Nat.zero_add]
      rfl,rfl,?_,?_,?_,?_⟩
     ·simp only [efs,q1,reduceIte,Nat.reduceEqDiff]
     ·simp only [efs,q2,reduceIte,Nat.reduceEqDiff]
     ·simp only [efs,reduceIte,Nat.reduceEqDiff];rfl
     ·intro y hy
      rw [take_snoc hlt] at hy
      rcases List.mem_append.mp hy with h | h
      ·exact hx y h
      ·rw [List.mem_singleton.mp h];exact he
   ·obtain rfl:i=wl.length:=by omega
    have e0:decide ((wl.length:Int)<(wl.length:Int))=false:=by simp
    rw [List.take_length] at hx
    refine .inr ⟨.exit 0,L.set 10 (.bool false),t,by simp,?_,rfl,.inr ⟨rfl,?_,idx_none' hx⟩⟩
    ·simp (disch:=first|omega|(with_unfolding_all exact rfl)|(simp only[new_n,put_n,new_m];omega)|(refine put_m_le ?_;simp only[new_m];omega)) only [K30l0,K30r2,Abs.W,reduceIte,Nat.reduceEqDiff,Nat.reduceSub,efs,q2,q5,w0,kv,lv,e0,Nat.zero_add]
    ·simp only [efs,q2,reduceIte,Nat.reduceEqDiff])
 rcases hQ with ⟨rfl,h4⟩ | ⟨rfl,h2,h3⟩
 ·simp (disch:=first|omega|(with_unfolding_all exact rfl)|(simp only[new_n,put_n,new_m];omega)|(refine put_m_le ?_;simp only[new_m];omega)) only [res30,Abs.W,h4]
  exact ⟨_,rfl,by omega⟩
 ·rw [h3]
  simp (disch:=first|omega|(with_unfolding_all exact rfl)|(simp only[new_n,put_n,new_m];omega)|(refine put_m_le ?_;simp only[new_m];omega)) only [K30r6,res30,Abs.W,reduceIte,Nat.reduceEqDiff,Nat.reduceSub,efs,h2,w0,kv,lv,Nat.zero_add]
  exact ⟨_,rfl,by omega⟩
def placeI (l:Letting) (hs:List Int) (a:Nat):Nat:=if hs.idxOf (a:Int)<hs.length then (applAt l a).wishes.idxOf ((hs.idxOf (a:Int):Nat):Int) else (applAt l a).wishes.length
theorem place_ok (N:Nat) (hN:2≤N) {no na nh:Nat→Prop} {l:Letting} {vS vA hv:AV} {hs:List Int} {a:Nat} {s:St} (ok:l.Ok) (ha:a<l.appls.length) (hL:LetAt no na s.h s.n l vS vA) (hH:Sl nh s.h s.n 1 (intRows hs) hv) (hl:hs.length≤8) (hs':s.n+300≤far) :
  call Try.prog X N (.fn 23) [.agg (letV vS vA),hv,.int .i64 (a:Int)] s=.val (.int .i64 (placeI l hs a:Nat)) s:=by
 obtain ⟨n,rfl⟩:∃ n,N=n+1:=⟨N - 1,by omega⟩
 refine call_plain' Try.func23 (fun u uh un um=>?_) rfl
 have hf:far=1000000000:=rfl
 rw [← uh,← un] at hL hH
 obtain ⟨w,hw⟩:∃ w:St,w=u.new (.cells [vS,vA] (tag 28)):=⟨_,rfl⟩
 have wn:w.n=u.n+1:=by rw [hw];rfl
 have wm:w.m=far:=by rw [hw];exact um
 have wg:∀ c,c<u.n→w.h.get c=u.h.get c:=fun c hc=>by rw [hw,get_new_ne _ _ _ (by omega)]
 have w0:w.h.get u.n=some (.cells [vS,vA] (tag 28)):=by rw [hw];exact get_new_eq _ _ _ rfl (by omega)
 have hLw:=hL.grow wg (by omega:u.n≤w.n)
 have hHw:=hH.grow wg (by omega:u.n≤w.n)
 have kh:=hHw.okA
 have lh:=rowLen hHw.at_
 have kA:=hLw.okV
 obtain ⟨ww,pa,oa,ca,za,r1,r2,r3,r4,r5,r6⟩:=hLw.getA2 ha
 obtain ⟨w1,w2⟩:=ww
 simp only at r4 r5 r6
 have wl8:=(ok.ap _ (List.getElem_mem ha)).wl
 have k5:=r5.okA
 have l5:=rowLen r5.at_
 have eA:applAt l a=l.appls[a]:=applAt_of ha
 unfold placeI
 rw [eA]
 generalize l.appls[a]=A at *
 have cn:=cut_nth r4 (show 2<4 by omega)
 have n2:nth [AV.int .i64 A.years,.int .i64 A.token,w1,w2] 2=w1:=rfl
 rw [n2] at cn
 rw [enter23]
 simp (disch:=first|omega|(with_unfolding_all exact rfl)|(simp only[new_n,put_n,new_m];omega)|(refine put_m_le ?_;simp only[new_m];omega)) only [K23,K23r0,Abs.W,reduceIte,Nat.reduceEqDiff,Nat.reduceAdd]
 rw [← hw]
 simp (disch:=first|omega|(with_unfolding_all exact rfl)|(simp only[new_n,put_n,new_m];omega)|(refine put_m_le ?_;simp only[new_m];omega)) only [K23r1,Abs.W,reduceIte,Nat.reduceEqDiff,kLoop_def]
 generalize hlp:loopN _ rounds _ _ _ _ _=q1
 obtain ⟨e,L1,s1,rfl,rfl,hQ⟩:=loop_of hlp (fun i L t=>t=w∧L.find 1=hv∧L.find 2=.int .i64 (a:Int)∧L.find 3=.ptr u.n 0∧L.find 7=.int .i64 (i:Nat)∧∀ y ∈ hs.take i,y≠(a:Int))
  (fun e L t=>t=w∧((e=.ret∧hs.idxOf (a:Int)<hs.length∧L.find 6=.int .i64 (A.wishes.idxOf ((hs.idxOf (a:Int):Nat):Int):Nat))∨(e=.exit 0∧L.find 2=.int .i64 (a:Int)∧L.find 3=.ptr u.n 0∧hs.idxOf (a:Int)=hs.length))) hs.length (by unfold rounds;omega)
  ⟨rfl,by simp only [find_cons,reduceIte,Nat.reduceEqDiff],by simp only [find_cons,reduceIte,Nat.reduceEqDiff],by simp only [find_cons,reduceIte,Nat.reduceEqDiff],by simp only [find_cons,reduceIte,Nat.reduceEqDiff];rfl,by simp⟩
  (fun i L t hi ⟨ht,q1,q2,q3,q7,hx⟩=>by
   subst ht
   by_cases hlt:i<hs.length
   ·have e0:decide ((i:Int)<(hs.length:Int))=true:=decide_eq_true (by omega)
    obtain ⟨b1,p1,c1,sz1,x1,x2,x3,x4⟩:=rowInt hHw.at_ hlt
    have ad:∀ s,aAdd s .i64 (i:Int) 1=.val (.int .i64 ((i:Int)+1)) s:=fun s=>aAdd_i64 s _ _ (by omega)
    by_cases he:hs[i]=(a:Int)
    ·have e1:decide (hs[i]=(a:Int))=true:=decide_eq_true he
     have wo:=wish_ok n (by omega) (a:=.int .i64 A.years) (b:=.int .i64 A.token) (bv:=w2) (st:=(i:Int)) r5 wl8 (by omega)
     refine .inr ⟨.ret,_,t,by simp,by
      simp (disch:=first|omega|(with_unfolding_all exact rfl)|(simp only[new_n,put_n,new_m];omega)|(refine put_m_le ?_;simp only[new_m];omega)) only [K23l0,K23r2,K23r3,K23r4,Abs.W,reduceIte,Nat.reduceEqDiff,Nat.reduceSub,efs,q1,q2,q3,q7,w0,lh,kA,e0,x2,x3,x4,e1,r2,r3,r4,wo,Nat.zero_add]
      rfl,rfl,.inl ⟨rfl,by rw [idx_at hlt he hx];exact hlt,by rw [idx_at hlt he hx];simp only [efs,reduceIte,Nat.reduceEqDiff]⟩⟩
    ·have e1:decide (hs[i]=(a:Int))=false:=decide_eq_false he
     refine .inl ⟨hlt,_,t,by
      simp (disch:=first|omega|(with_unfolding_all exact rfl)|(simp only[new_n,put_n,new_m];omega)|(refine put_m_le ?_;simp only[new_m];omega)) only [K23l0,K23r2,K23r3,K23r5,Abs.W,reduceIte,Nat.reduceEqDiff,efs,q1,q2,q7,lh,e0,x2,x3,x4,e1,ad]
      rfl,rfl,?_,?_,?_,?_,?_⟩
     ·simp only [efs,q1,reduceIte,Nat.reduceEqDiff]
     ·simp only [efs,q2,reduceIte,Nat.reduceEqDiff]
     ·simp only [efs,q3,reduceIte,Nat.reduceEqDiff]
     ·simp only [efs,reduceIte,Nat.reduceEqDiff];rfl
     ·intro y hy
      rw [take_snoc hlt] at hy
      rcases List.mem_append.mp hy with h | h
      ·exact hx y h
      ·rw [List.mem_singleton.mp h];exact he
   ·obtain rfl:i=hs.length:=by omega
    have e0:decide ((hs.length:Int)<(hs.length:Int))=false:=by simp
    rw [List.take_length] at hx
    refine .inr ⟨.exit 0,L.set 11 (.bool false),t,by simp,?_,rfl,.inr ⟨rfl,?_,?_,idx_none' hx⟩⟩
    ·simp (disch:=first|omega|(with_unfolding_all exact rfl)|(simp only[new_n,put_n,new_m];omega)|(refine put_m_le ?_;simp only[new_m];omega)) only [K23l0,K23r2,Abs.W,reduceIte,Nat.reduceEqDiff,efs,q1,q7,lh,e0]
    ·simp only [efs,q2,reduceIte,Nat.reduceEqDiff]
    ·simp only [efs,q3,reduceIte,Nat.reduceEqDiff])
 rcases hQ with ⟨rfl,h1,h4⟩ | ⟨rfl,h2,h3,h5⟩
 ·rw [if_pos h1]
  simp (disch:=first|omega|(with_unfolding_all exact rfl)|(simp only[new_n,put_n,new_m];omega)|(refine put_m_le ?_;simp only[new_m];omega)) only [res23,Abs.W,h4]
  exact ⟨_,rfl,by omega⟩
 ·rw [if_neg (by omega)]
  simp (disch:=first|omega|(with_unfolding_all exact rfl)|(simp only[new_n,put_n,new_m];omega)|(refine put_m_le ?_;simp only[new_m];omega)) only [K23r6,res23,Abs.W,reduceIte,Nat.reduceEqDiff,Nat.reduceSub,efs,h2,h3,w0,kA,r2,r3,cn,k5,l5,Nat.zero_add]
  exact ⟨_,rfl,by omega⟩
end Go.Proofs.Ythbhjgbpjlnbcaa.walk
set_option maxRecDepth 10000
namespace Go.Proofs.Ythbhjgbpjlnbcaa.walk
open Go.Abs Go.Proofs.Ythbhjgbpjlnbcaa.code
def hcell (hs:List Int):List AV:=(intRows hs).flatten
theorem hcell_wide (hs:List Int):∀ r ∈ intRows hs,r.length=1:=fun r hr=>by
 unfold intRows at hr
 obtain ⟨x,_,rfl⟩:=List.mem_map.mp hr
 rfl
theorem hcell_nth {hs:List Int} {i:Nat} (h:i<hs.length):nth (hcell hs) i=.int .i64 (hs.getD i (-1)):=by
 have h2:i<(intRows hs).length:=by unfold intRows;rw [List.length_map];exact h
 have:=flatten_cut (hcell_wide hs) h2
 rw [Nat.mul_one] at this
 refine cut1_nth (this.trans ?_)
 have e:∀ (l:List (List AV)) (e:l=hs.map fun x=>[.int .i64 x]) (hi:i<l.length),l[i]=[.int .i64 (hs.getD i (-1))]:=fun l e hi=>by subst e;simp [List.getD,h]
 exact congrArg some (e _ rfl h2)
theorem hcell_over {hs:List Int} {i:Nat} (h:i<hs.length) (x:Int):over i [.int .i64 x] (hcell hs)=some (hcell (hs.set i x)):=by
 have h2:i<(intRows hs).length:=by unfold intRows;rw [List.length_map];exact h
 have:=over_flatten (row:=[.int .i64 x]) (hcell_wide hs) h2 rfl
 rw [Nat.mul_one] at this
 unfold hcell
 rw [this]
 congr 2
 unfold intRows
 rw [List.map_set]
def Held (l:Letting) (st:Nat) (h:Int):Prop:=h = -1∨∃ b:Nat,h=b∧b ∈ ableL l st
structure Dis (lb pr ph bh pw p8 b:Nat):Prop where
 l5:pr≠lb
 l6:ph≠lb
 lh:bh≠lb
 lw:pw≠lb
 l8:p8≠lb
 ll:b≠lb
 h5:pr≠bh
 h6:ph≠bh
 h8:p8≠bh
 w5:pr≠pw
 w6:ph≠pw
 wh:bh≠pw
 w8:p8≠pw
 b5:pr≠b
 b6:ph≠b
 bh':bh≠b
 bw:pw≠b
 b8:p8≠b
theorem offer_body (M:Nat) (hM:1≤M) {l:Letting} (cx:Ctx) {t:St} {O:AObj} {lb pr ph bh pw p8 b bm lo nr k a st u0 z5 z6 zh z7 z8:Nat} {vr vq:AV} {hs:List Int} {r:List Nat} {L1:Env}
  (f5:L1.find 5=.ptr pr 0) (f6:L1.find 6=.ptr ph 0) (f7:L1.find 7=.ptr pw 0) (f8:L1.find 8=.ptr p8 0) (f9:L1.find 9=.int .i64 (st:Int))
  (g5:t.h.get pr=some (.cells [vr] z5)) (hR:RkS t.h nr bm lo l k vr) (g6:t.h.get ph=some (.cells [.slice bh 0 k k false] z6)) (gh:t.h.get bh=some (.cells (hcell hs) zh)) (hk:hs.length=k) (g7:t.h.get pw=some (.cells [vq] z7)) (hQ:QAt t.h t.n b r vq) (g8:t.h.get p8=some (.cells [.int .i64 (a:Int)] z8))
  (d1:nr≤lb) (d2:bm<nr→lo≤bm) (d3:nr≤t.n) (dd:Dis lb pr ph bh pw p8 b) (dl:lb<t.n) (dh:bh<t.n) (dw:pw<t.n) (dp:ph<t.n)
  (hst:st<k) (ha:a ∈ ableL l st) (hh:Held l st (hs.getD st (-1))) (hr:r.length≤100) (hs':t.n+200≤far) (u1:u0≤lb) (u2:u0≤bh) (u3:u0≤pw) (u4:u0≤b) (u5:u0≤t.m) :
  ∃ e L2 t2,K18b0 (call Try.prog X M) cx L1 [] (t.put lb O)=.done e L2 [] t2 ∧
   ((betterB l st a (hs.getD st (-1))=false∧e=.norm∧t2=t.put lb O)∨(betterB l st a (hs.getD st (-1))=true∧e=.exit 1∧t2.h.get bh=some (.cells (hcell (hs.set st a)) zh)∧∃ vq' b',t2.h.get pw=some (.cells [vq'] z7)∧QAt t2.h t2.n b' (Mkt.behind r (hs.getD st (-1))) vq'∧(b'=b∨t.n≤b'))) ∧
   t2.h.get lb=some O∧(∀ y,y<t.n→y≠lb→y≠bh→y≠pw→y≠b→t2.h.get y=t.h.get y)∧t.n≤t2.n∧t2.n≤t.n+10∧u0≤t2.m∧t2.m≤t.m:=by
 have hf:far=1000000000:=rfl
 obtain ⟨z,hz⟩:∃ z:St,z=t.put lb O:=⟨_,rfl⟩
 have zn:z.n=t.n:=by rw [hz];rfl
 have zm:z.m=min t.m lb:=by rw [hz];simp only [St.put,minN_eq]
 have zg:∀ c,c≠lb→z.h.get c=t.h.get c:=fun c hc=>by rw [hz,get_put_ne' _ _ _ _ hc]
 have zl:z.h.get lb=some O:=by rw [hz];exact get_put_eq _ _ _ _ rfl (by omega)
 have y5:=(zg pr dd.l5).trans g5
 have y6:=(zg ph dd.l6).trans g6
 have yh:=(zg bh dd.lh).trans gh
 have y7:=(zg pw dd.lw).trans g7
 have y8:=(zg p8 dd.l8).trans g8
 have hRz:RkS z.h z.n bm lo l k vr:=hR.move d2 (fun c h1 _=>zg c (by omega)) (by omega)
 have hQz:QAt z.h z.n b r vq:=hQ.move (zg b dd.ll) (by omega)
 have kvr:=hRz.okA
 have kvq:=hQz.okA
 have bo:=better_ok M hM hRz hst ha hh (by omega)
 have ix:=fun s=>ixs_slice 1 s bh 0 k k false st hst
 have nt:=hcell_nth (hs:=hs) (i:=st) (by omega)
 have ov:=hcell_over (hs:=hs) (i:=st) (by omega) (a:Int)
 obtain ⟨hv,hhv⟩:∃ hv,hv=hs.getD st (-1):=⟨_,rfl⟩
 rw [← hhv] at nt bo hh ⊢
 rw [← hz]
 have n1:∀ s (c:Bool),notA s (.bool c)=.val (.bool !c) s:=fun _ _=>rfl
 cases hb:betterB l st a hv with
 | false =>
  rw [hb] at bo
  simp (disch:=first|omega|(with_unfolding_all exact rfl)|(simp only[new_n,put_n,new_m];omega)|(refine put_m_le ?_;simp only[new_m];omega)) only [K18b0,K18b0r0,K18b0r1,Abs.W,reduceIte,Nat.reduceEqDiff,Nat.reduceSub,efs,f5,f6,f8,f9,y5,y6,yh,y8,kvr,ix,nt,bo,n1,Nat.zero_add,Nat.mul_one]
  exact ⟨_,_,_,rfl,.inl ⟨trivial,rfl,rfl⟩,zl,fun y h1 h2 _ _ _=>zg y h2,by omega,by omega,by omega,by omega⟩
 | true =>
  rw [hb] at bo
  obtain ⟨y,hy⟩:∃ y:St,y=z.put bh (.cells (hcell (hs.set st a)) zh):=⟨_,rfl⟩
  have yn:y.n=z.n:=by rw [hy,put_n]
  have ym:y.m=min z.m bh:=by rw [hy];simp only [St.put,minN_eq]
  have yg:∀ c,c≠bh→y.h.get c=z.h.get c:=fun c hc=>by rw [hy,get_put_ne' _ _ _ _ hc]
  have ygh:y.h.get bh=some (.cells (hcell (hs.set st a)) zh):=by rw [hy];exact get_put_eq _ _ _ _ rfl (by omega)
  have w7:=(yg pw dd.wh.symm).trans y7
  have hQy:QAt y.h y.n b r vq:=hQz.move (yg b dd.bh'.symm) (by omega)
  rcases hh with rfl | ⟨c,rfl,hc⟩
  ·have e0:decide ((-1:Int) ≠ -1)=false:=rfl
   simp (disch:=first|omega|(with_unfolding_all exact rfl)|(simp only[new_n,put_n,new_m];omega)|(refine put_m_le ?_;simp only[new_m];omega)) only [K18b0,K18b0r0,K18b0r1,K18b0r2,K18b0r3,Abs.W,reduceIte,Nat.reduceEqDiff,decide_true,Nat.reduceSub,efs,f5,f6,f8,f9,y5,y6,yh,y8,kvr,ix,nt,bo,n1,ov,Nat.zero_add,Nat.mul_one]
   rw [← hy]
   simp (disch:=first|omega|(with_unfolding_all exact rfl)|(simp only[new_n,put_n,new_m];omega)|(refine put_m_le ?_;simp only[new_m];omega)) only [blkR_pass]
   exact ⟨_,_,_,rfl,.inr ⟨trivial,rfl,ygh,vq,b,w7,hQy,.inl rfl⟩,(yg lb dd.lh.symm).trans zl,fun y h1 h2 h3 _ _=>(yg y h3).trans (zg y h2),by omega,by omega,by omega,by omega⟩
  ·have e0:decide ((c:Int) = -1)=false:=decide_eq_false (by omega)
   obtain ⟨x,hx⟩:∃ x:St,x=y.new (.cells [.int .i64 (c:Int)] 0):=⟨_,rfl⟩
   have xn:x.n=y.n+1:=by rw [hx];rfl
   have xm:x.m=y.m:=by rw [hx];rfl
   have xg:∀ c,c<y.n→x.h.get c=y.h.get c:=fun c hc=>by rw [hx,get_new_ne _ _ _ (by omega)]
   have xp:x.h.get y.n=some (.cells [.int .i64 (c:Int)] 0):=by rw [hx];exact get_new_eq _ _ _ rfl (by omega)
   obtain ⟨vq',s7,e7,hQ7,n7,g7',m7,m7'⟩:=(hQy.move (h':=x.h) (n':=x.n) (xg b hQy.1) (by omega)).push xp (by omega) (by omega)
   have hQ7':=hQ7.scal
   rw [hx] at e7
   have xw:=(g7' pw (by omega) dd.bw).trans ((xg pw (by omega)).trans w7)
   have eb:Mkt.behind r ((c:Int))=r++[c]:=by
    unfold Mkt.behind
    rw [if_neg (by omega),Int.toNat_natCast]
   rw [eb]
   have bb:=hQy.1
   simp (disch:=first|omega|(with_unfolding_all exact rfl)|(simp only[new_n,put_n,new_m];omega)|(refine put_m_le ?_;simp only[new_m];omega)) only [K18b0,K18b0r0,K18b0r1,K18b0r2,K18b0r3,K18b0r4,Abs.W,reduceIte,Nat.reduceEqDiff,Nat.reduceSub,efs,f5,f6,f7,f8,f9,y5,y6,yh,y8,kvr,ix,nt,bo,n1,ov,e0,Nat.zero_add,Nat.mul_one]
   rw [← hy]
   simp (disch:=first|omega|(with_unfolding_all exact rfl)|(simp only[new_n,put_n,new_m];omega)|(refine put_m_le ?_;simp only[new_m];omega)) only [Abs.W,reduceIte,Nat.reduceEqDiff,Nat.reduceSub,blkR_pass,efs,f7,w7,kvq,e7,xw,hQ7'.1,hQ7'.2]
   refine ⟨_,_,_,rfl,.inr ⟨trivial,rfl,?_,vq',x.n,get_put_eq _ _ _ _ rfl (by omega),hQ7.move (get_put_ne' _ _ _ _ (by omega)) (by rw [put_n];omega),.inr (by omega)⟩,?_,fun c h1 h2 h3 h4 h5=>?_,by rw [put_n];omega,by rw [put_n];omega,by simp only [St.put,minN_eq];omega,by simp only [St.put,minN_eq];omega⟩
   ·rw [get_put_ne' _ _ _ _ dd.wh,g7' bh (by omega) dd.bh',xg bh (by omega)];exact ygh
   ·rw [get_put_ne' _ _ _ _ dd.lw.symm,g7' lb (by omega) dd.ll.symm,xg lb (by omega),yg lb dd.lh.symm];exact zl
   ·rw [get_put_ne' _ _ _ _ h4,g7' c (by omega) h5,xg c (by omega),yg c h3];exact zg c h2
end Go.Proofs.Ythbhjgbpjlnbcaa.walk
set_option maxRecDepth 10000
namespace Go.Proofs.Ythbhjgbpjlnbcaa.walk
open Go.Abs Go.Proofs.Ythbhjgbpjlnbcaa.code
def holdF (hs:List Int):Nat→Int:=fun s=>hs.getD s (-1)
theorem holdF_set {hs:List Int} {s:Nat} (h:s<hs.length) (a:Int):holdF (hs.set s a)=Mkt.upd (holdF hs) s a:=by
 funext t
 unfold holdF Mkt.upd
 by_cases e:t=s
 ·subst e
  rw [if_pos rfl]
  simp [List.getD,h]
 ·rw [if_neg e]
  simp [List.getD,List.getElem?_set_ne (Ne.symm e)]
structure OfferB (no na:Nat→Prop) (w:St) (u0 nr bm pr bh ph b0 pw z5 z6:Nat) (l:Letting) (vS vA vr:AV):Prop where
 box:w.h.get u0=some (.cells [vS,vA] (tag 28))
 lt:LetAt no na w.h u0 l vS vA
 g5:w.h.get pr=some (.cells [vr] z5)
 rk:RkS w.h nr bm (u0+1) l l.stalls.length vr
 rb:bm<nr→u0+1≤bm
 g6:w.h.get ph=some (.cells [.slice bh 0 l.stalls.length l.stalls.length false] z6)
 o0:u0<pr
 o1:nr≤pr
 o2:pr<bh
 o3:bh<ph
 o4:ph<b0
 o5:b0<pw
 o6:pw<w.n
structure OfferJ (w t:St) (u0 bh b0 pw zh z7:Nat) (l:Letting) (hs:List Int) (q:List Nat) (d:List Nat) (kk:Nat):Prop where
 gh:t.h.get bh=some (.cells (hcell hs) zh)
 hk:hs.length=l.stalls.length
 qu:∃ vq b,t.h.get pw=some (.cells [vq] z7)∧QAt t.h t.n b q vq∧(b=b0∨w.n≤b)
 same:∀ c,c<w.n→c≠bh→c≠pw→c≠b0→t.h.get c=w.h.get c
 n:w.n≤t.n
 le:t.n≤w.n+kk
 m:u0≤t.m
 ml:t.m≤far
 dd:∀ c ∈ d,w.n≤c∧c<t.n∧t.h.get c=some .dfr
 dn:d.Nodup
theorem rnd_le {a b c d e:Nat} (h1:a≤b+2+10 * (10+2000)) (h2:b=c+3) (h3:c≤d+e):a≤d+(e+30000):=by
 rw [← Nat.add_assoc]
 omega
theorem offer_round (M:Nat) (hM:1≤M) {no na:Nat→Prop} {w t:St} {u0 nr bm pr bh ph b0 pw z5 z6 zh z7 kk a:Nat} {l:Letting} {vS vA vr:AV} {hs:List Int} {r d:List Nat} {L:Env} (ok:l.Ok) (B:OfferB no na w u0 nr bm pr bh ph b0 pw z5 z6 l vS vA vr) (J:OfferJ w t u0 bh b0 pw zh z7 l hs (a::r) d kk) (I:(mktOf l).Inv (holdF hs) (a::r)) (hr:r.length≤90)
  (f1:L.find 1=.ptr u0 0) (f5:L.find 5=.ptr pr 0) (f6:L.find 6=.ptr ph 0) (f7:L.find 7=.ptr pw 0) (hs':w.n+kk+100000≤far) :
  ∃ L1 d1 t1 hs1 q1,K18l0 (call Try.prog X (M+4)) ⟨18,none,Try.f18.ntmps,X 18⟩ L d t=.done .norm L1 d1 t1∧OfferJ w t1 u0 bh b0 pw zh z7 l hs1 q1 d1 (kk+30000)∧(mktOf l).Inv (holdF hs1) q1∧(mktOf l).meas (holdF hs1) q1+1≤(mktOf l).meas (holdF hs) (a::r)∧L1.find 1=.ptr u0 0∧L1.find 5=.ptr pr 0∧L1.find 6=.ptr ph 0∧L1.find 7=.ptr pw 0:=by
 have hf:far=1000000000:=rfl
 obtain ⟨box,hL,g5,rk,rb,g6,o0,o1,o2,o3,o4,o5,o6⟩:=B
 obtain ⟨gh,hk,⟨vq,b,gw,hQ,hb⟩,same,jn,jle,jm,jml,dd,dn⟩:=J
 have ha:a<l.appls.length:=(I.qn a (List.mem_cons_self ..)).1
 have kS:=hL.okS
 have kA:=hL.okV
 have kq:=hQ.okA
 have lq:=hQ.len
 have e0:decide ((0:Int)<((r.length+1:Nat):Int))=true:=decide_eq_true (by omega)
 obtain ⟨o,cq,zq,h1,h2,h3⟩:=hQ.head
 obtain ⟨v',t1,hQ'⟩:=hQ.tail
 have bl:=hQ.1
 have sc:=hQ'.scal
 have kq':=hQ'.okA
 obtain ⟨y1,hy1⟩:∃ y1:St,y1=(t.new (.cells [.int .i64 0] (tag 3))).put t.n (.cells [.int .i64 (a:Int)] (tag 3)):=⟨_,rfl⟩
 have y1n:y1.n=t.n+1:=by rw [hy1];rfl
 have y1m:y1.m=min t.m t.n:=by rw [hy1];simp only [St.put,minN_eq,new_m]
 have y1g:∀ c,c<t.n→y1.h.get c=t.h.get c:=fun c hc=>by rw [hy1,get_put_ne' _ _ _ _ (by omega),get_new_ne _ _ _ (by omega)]
 have y1p:y1.h.get t.n=some (.cells [.int .i64 (a:Int)] (tag 3)):=by rw [hy1];exact get_put_eq _ _ _ _ rfl (by omega)
 have y1w:=(y1g pw (by omega)).trans gw
 obtain ⟨y2,hy2⟩:∃ y2:St,y2=y1.put pw (.cells [v'] z7):=⟨_,rfl⟩
 have y2n:y2.n=t.n+1:=by rw [hy2,put_n];exact y1n
 have y2m:y2.m=min y1.m pw:=by rw [hy2];simp only [St.put,minN_eq]
 have y2g:∀ c,c<t.n→c≠pw→y2.h.get c=t.h.get c:=fun c hc hw=>by rw [hy2,get_put_ne' _ _ _ _ hw];exact y1g c hc
 have y2w:y2.h.get pw=some (.cells [v'] z7):=by rw [hy2];exact get_put_eq _ _ _ _ rfl (by omega)
 have y2p:y2.h.get t.n=some (.cells [.int .i64 (a:Int)] (tag 3)):=by rw [hy2,get_put_ne' _ _ _ _ (by omega)];exact y1p
 have y20:y2.h.get u0=some (.cells [vS,vA] (tag 28)):=by rw [y2g u0 (by omega) (by omega),same u0 (by omega) (by omega) (by omega) (by omega)];exact box
 have re:=reach_ok (M+4) (by omega) [vS,vA] (a:Int) y2 (by omega)
 obtain ⟨s0,hs0⟩:∃ s0:St,s0=(y2.new (.cells [vS,vA] (tag 28))).new (.cells [.int .i64 (a:Int)] (tag 3)):=⟨_,rfl⟩
 have s0n:s0.n=t.n+3:=by rw [hs0];show y2.n+1+1=_;omega
 have s0m:s0.m=y2.m:=by rw [hs0];rfl
 have s0g:∀ c,c<y2.n→s0.h.get c=y2.h.get c:=fun c hc=>by rw [hs0,get_new_ne _ _ _ (by rw [new_n];omega),get_new_ne _ _ _ (by omega)]
 have s00:s0.h.get (t.n+1)=some (.cells [vS,vA] (tag 28)):=by rw [hs0,get_new_ne _ _ _ (by rw [new_n];omega)];exact get_new_eq _ _ _ (by omega) (by omega)
 have s01:s0.h.get (t.n+2)=some (.cells [.int .i64 (a:Int)] (tag 3)):=by rw [hs0];exact get_new_eq _ _ _ (by rw [new_n];omega) (by rw [new_n];omega)
 rw [← hs0,y2n] at re
 have s0t:∀ c,c<t.n→c≠pw→s0.h.get c=t.h.get c:=fun c hc hw=>(s0g c (by omega)).trans (y2g c hc hw)
 have s0p:=(s0g t.n (by omega)).trans y2p
 have s0w:=(s0g pw (by omega)).trans y2w
 simp (disch:=first|omega|(with_unfolding_all exact rfl)|(simp only[new_n,put_n,new_m];omega)|(refine put_m_le ?_;simp only[new_m];omega)) only [K18l0,K18r7,K18r8,Abs.W,reduceIte,Nat.reduceEqDiff,Nat.reduceSub,efs,f7,gw,kq,lq,e0,h1,h2,h3]
 rw [← hy1]
 simp (disch:=first|omega|(with_unfolding_all exact rfl)|(simp only[new_n,put_n,new_m];omega)|(refine put_m_le ?_;simp only[new_m];omega)) only [K18r9,Abs.W,reduceIte,Nat.reduceEqDiff,Nat.reduceSub,efs,f7,y1w,kq,kSlice_def,optEv_some,optEv_none,t1,sc.1,sc.2]
 rw [← hy2]
 simp (disch:=first|omega|(with_unfolding_all exact rfl)|(simp only[new_n,put_n,new_m];omega)|(refine put_m_le ?_;simp only[new_m];omega)) only [K18r10,Abs.W,reduceIte,Nat.reduceEqDiff,Nat.reduceSub,efs,f1,y20,y2p,re]
 obtain ⟨L0,hL0⟩:∃ L0,L0=Env.set 35 (.func 56 [] [.ptr (t.n+1) 0,.ptr (t.n+1+1) 0]) (Env.set 8 (.ptr t.n 0) (Env.set 27 (.bool true) L)):=⟨_,rfl⟩
 rw [← hL0]
 have k1:L0.find 1=.ptr u0 0:=by rw [hL0];simp only [efs,f1,reduceIte,Nat.reduceEqDiff]
 have k5:L0.find 5=.ptr pr 0:=by rw [hL0];simp only [efs,f5,reduceIte,Nat.reduceEqDiff]
 have k6:L0.find 6=.ptr ph 0:=by rw [hL0];simp only [efs,f6,reduceIte,Nat.reduceEqDiff]
 have k7:L0.find 7=.ptr pw 0:=by rw [hL0];simp only [efs,f7,reduceIte,Nat.reduceEqDiff]
 have k8:L0.find 8=.ptr t.n 0:=by rw [hL0];simp only [efs,reduceIte,Nat.reduceEqDiff]
 have k35:L0.find 35=.func 56 [] [.ptr (t.n+1) 0,.ptr (t.n+2) 0]:=by rw [hL0];simp only [efs,reduceIte,Nat.reduceEqDiff]
 clear hL0 re t1 h1 h2 h3
 have s0u:∀ c,c<u0→s0.h.get c=w.h.get c:=fun c hc=>(s0t c (by omega) (by omega)).trans (same c (by omega) (by omega) (by omega) (by omega))
 have hLb:=hL.bound.move (h':=s0.h) (n':=u0) (no':=fun y=>no y∧y<u0) (na':=fun y=>na y∧y<u0) (fun b h1 h2=>⟨s0u b h1,h2⟩) (fun b h1 h2=>⟨s0u b h1,h2⟩) (Nat.le_refl _)
 have hh:=reach1_hands (N:=M+1) (p1:=t.n+1) (p2:=t.n+2) (H:=s0.h) (rd:=fun y=>y=t.n+1∨y=t.n+2∨(no y∧y<u0)∨(na y∧y<u0)) ok hLb ha s00 s01 (.inl rfl) (.inr (.inl rfl)) (fun y h=>.inr (.inr (.inl h))) (fun y h=>.inr (.inr (.inr h)))
 have rl:∀ y,(y=t.n+1∨y=t.n+2∨(no y∧y<u0)∨(na y∧y<u0))→y=t.n+1∨y=t.n+2∨y<u0:=fun y h=>by
  rcases h with h | h | h | h
  ·exact .inl h
  ·exact .inr (.inl h)
  ·exact .inr (.inr h.2)
  ·exact .inr (.inr h.2)
 have hTm:∀ x ∈ reachOf l.stalls l.appls[a],∃ st:Nat,x.1=st∧st<l.stalls.length∧a ∈ ableL l st:=fun x hx=>by
  rw [← applAt_of ha] at hx
  obtain ⟨st,h1,h2,_⟩:=reach_mem ok ha hx
  refine ⟨st,h1,h2,(able_iff ok ha).mpr (List.mem_map.mpr ⟨x,hx,by rw [h1];exact Int.toNat_natCast st⟩)⟩
 have hRT:(mktOf l).R a=(reachOf l.stalls l.appls[a]).map fun x=>x.1.toNat:=by rw [← applAt_of ha];rfl
 have hbl2:u0<b:=by omega
 have sw:∀ c,c<w.n→c≠bh→c≠pw→c≠b0→s0.h.get c=w.h.get c:=fun c h1 h2 h3 h4=>(s0t c (by omega) h3).trans (same c h1 h2 h3 h4)
 have sb:s0.h.get b=t.h.get b:=s0t b bl (by omega)
 have sh:s0.h.get bh=t.h.get bh:=s0t bh (by omega) (by omega)
 generalize reachOf l.stalls l.appls[a]=T at hh hTm hRT
 obtain ⟨e,s',e1,hE,e3,e4,e5,e6,e7,e8⟩:=hands_range (P:=Try.prog) (X:=X) (M:=M) (Z:=M+4) hh (f:=.tmp 35) (ps:=[36,37]) (c:=⟨18,none,Try.f18.ntmps,X 18⟩) (L:=L0) (d:=d) (s:=s0) rfl (by rw [ev_tmp,k35]) (fun _=>rfl) code18a0 code18b0 10 u0 300 (fun y=>y=bh∨y=pw∨y=b) (fun _ _=>True) (fun _ _ _ _ _=>trivial) (fun _=>trivial)
  (fun p h n=>(∀ x ∈ p,betterB l x.1.toNat a (hs.getD x.1.toNat (-1))=false)∧h.get bh=s0.h.get bh∧h.get pw=s0.h.get pw∧h.get b=s0.h.get b)
  (fun e p x kx h n=>e=.exit 1∧(∀ x ∈ p,betterB l x.1.toNat a (hs.getD x.1.toNat (-1))=false)∧betterB l x.1.toNat a (hs.getD x.1.toNat (-1))=true∧h.get bh=some (.cells (hcell (hs.set x.1.toNat a)) zh)∧∃ vq' b',h.get pw=some (.cells [vq'] z7)∧QAt h n b' (Mkt.behind r (hs.getD x.1.toNat (-1))) vq'∧(b'=b∨kx≤b'))
  (fun y hy=>⟨by have:=rl y hy;omega,rfl⟩) (fun y hy=>⟨fun h=>by have:=rl y h;omega,by omega⟩) (by omega) (by omega) (by omega) (by omega) ⟨(fun _ h=>(by cases h)),rfl,rfl,rfl⟩
  (fun p h h' n n' hb' hn ⟨h0,h1,h2,h3⟩=>⟨h0,(hb' _ (by omega)).trans h1,(hb' _ (by omega)).trans h2,(hb' _ (by omega)).trans h3⟩)
  (fun e p x kx h h' n n' hb' hn ⟨h0,h1,h2,h3,vq',b',h4,h5,h6⟩=>⟨h0,h1,h2,(hb' _ (by omega)).trans h3,vq',b',(hb' _ (by omega)).trans h4,h5.move (hb' _ (by omega)) hn,h6⟩)
  (fun p x rest t' ht ⟨p1,p2,p3,p4⟩ hfr htn htf htm htm' _=>by
   have hmem:x ∈ T:=by rw [← ht];simp
   obtain ⟨st,x1,x2,x3⟩:=hTm x hmem
   obtain ⟨xs,xb⟩:=x
   simp only at x1
   subst x1
   have etn:((st:Int),xb).1.toNat=st:=Int.toNat_natCast st
   have hass:K18a0 (call Try.prog X M) ⟨18,some (s0.n+1),Try.f18.ntmps,X 18⟩ (setParams L0 [36,37] (ev2 ((st:Int),xb))) [] t'=.done .norm (((L0.set 36 (.int .i64 (st:Int))).set 37 (.int .i64 xb)).set 9 (.int .i64 (st:Int))) [] t':=by
    simp (disch:=first|omega|(with_unfolding_all exact rfl)|(simp only[new_n,put_n,new_m];omega)|(refine put_m_le ?_;simp only[new_m];omega)) only [K18a0,K18a0r0,ev2,setParams2,Abs.W,reduceIte,Nat.reduceEqDiff,efs,Nat.reduceEqDiff]
   obtain ⟨L1,hL1⟩:∃ L1,L1=(((L0.set 36 (.int .i64 (st:Int))).set 37 (.int .i64 xb)).set 9 (.int .i64 (st:Int))):=⟨_,rfl⟩
   rw [← hL1] at hass
   have l5:L1.find 5=.ptr pr 0:=by rw [hL1];simp only [efs,k5,reduceIte,Nat.reduceEqDiff]
   have l6:L1.find 6=.ptr ph 0:=by rw [hL1];simp only [efs,k6,reduceIte,Nat.reduceEqDiff]
   have l7:L1.find 7=.ptr pw 0:=by rw [hL1];simp only [efs,k7,reduceIte,Nat.reduceEqDiff]
   have l8:L1.find 8=.ptr t.n 0:=by rw [hL1];simp only [efs,k8,reduceIte,Nat.reduceEqDiff]
   have l9:L1.find 9=.int .i64 (st:Int):=by rw [hL1];simp only [efs,reduceIte,Nat.reduceEqDiff]
   clear hL1
   have tw:∀ c,c<w.n→c≠bh→c≠pw→c≠b0→t'.h.get c=w.h.get c:=fun c h1 h2 h3 h4=>(hfr c (by omega) (by omega)).trans (sw c h1 h2 h3 h4)
   have held:Held l st (hs.getD st (-1)):=by
    rcases I.form st with h | ⟨c,h⟩
    ·exact .inl h
    ·obtain ⟨q1,q2⟩:=I.hold st c h
     exact .inr ⟨c,h,(able_iff ok q1).mpr q2⟩
   have hR':RkS t'.h nr bm (u0+1) l l.stalls.length vr:=rk.move rb (fun c h1 _=>tw c (by omega) (by omega) (by omega) (by omega)) (Nat.le_refl _)
   obtain ⟨e,L2,t2,b1,b2,b3,b4,b5,b6,b7,b8⟩:=offer_body M hM (cx:=⟨18,some (s0.n+1),Try.f18.ntmps,X 18⟩) (t:=t') (O:=.loop { loopO ⟨18,none,Try.f18.ntmps,X 18⟩ L0 [36,37] (rangeAt Try.f18 0).1 (rangeAt Try.f18 0).2 s0 with state:=.busy }) (lb:=s0.n+1) (b:=b) (u0:=u0) (r:=r) l5 l6 l7 l8 l9
    ((tw pr (by omega) (by omega) (by omega) (by omega)).trans g5) hR' ((tw ph (by omega) (by omega) (by omega) (by omega)).trans g6) (p2.trans (sh.trans gh)) hk (p3.trans s0w) (hQ'.move (p4.trans sb) (by omega)) ((hfr t.n (by omega) (by omega)).trans s0p)
    (by omega) rb (by omega) ⟨by omega,by omega,by omega,by omega,by omega,by omega,by omega,by omega,by omega,by omega,by omega,by omega,by omega,by omega,by omega,by omega,by omega,by omega⟩ (by omega) (by omega) (by omega) (by omega) x2 x3 held (by omega) (by omega) (by omega) (by omega) (by omega) (by omega) htm
   refine ⟨L1,t',e,L2,t2,hass,rfl,b1,fun he=>?_,fun he=>?_,b3,fun y h1 h2 h3=>b4 y h1 h2 (fun h=>h3 (.inl h)) (fun h=>h3 (.inr (.inl h))) (fun h=>h3 (.inr (.inr h))),b5,b6,b7,b8,trivial⟩
   ·rcases b2 with ⟨c1,_,c3⟩ | ⟨_,c2,_⟩
    ·subst c3
     refine ⟨fun y hy=>?_,?_,?_,?_⟩
     ·rcases List.mem_append.mp hy with h | h
      ·exact p1 y h
      ·rw [List.mem_singleton.mp h];exact c1
     ·rw [get_put_ne' _ _ _ _ (by omega)];exact p2
     ·rw [get_put_ne' _ _ _ _ (by omega)];exact p3
     ·rw [get_put_ne' _ _ _ _ (by omega)];exact p4
    ·subst c2;cases he
   ·rcases b2 with ⟨_,c2,_⟩ | ⟨c1,c2,c3,vq',b',c4,c5,c6⟩
    ·exact absurd c2 he
    ·exact ⟨c2,p1,c1,c3,vq',b',c4,c5,c6⟩)
 rw [e1]
 have bnd:∀ c ∈ d,b≠c:=fun c hc e=>by
  obtain ⟨_,o,cc,zz,hg,_⟩:=hQ
  have:=(dd c hc).2.2
  rw [← e,hg] at this
  cases this
 have sd:∀ c ∈ s0.n::d,w.n≤c∧c<s'.n∧s'.h.get c=some .dfr:=fun c hc=>by
  rcases List.mem_cons.mp hc with rfl | hc
  ·exact ⟨by omega,by omega,e4⟩
  ·obtain ⟨c1,c2,c3⟩:=dd c hc
   have c4:=bnd c hc
   refine ⟨c1,by omega,?_⟩
   rw [e3 c (by omega) (by omega),s0t c c2 (by omega)]
   exact c3
 have snd:(s0.n::d).Nodup:=List.nodup_cons.mpr ⟨fun h=>by have:=(dd _ h).2.1;omega,dn⟩
 have ssame:∀ c,c<w.n→c≠bh→c≠pw→c≠b0→s'.h.get c=w.h.get c:=fun c h1 h2 h3 h4=>(e3 c (by omega) (by omega)).trans (sw c h1 h2 h3 h4)
 have hn1:w.n≤s'.n:=by omega
 have hn2:s'.n≤w.n+(kk+30000):=rnd_le e6 s0n jle
 have hm2:s'.m≤far:=by omega
 rcases hE with ⟨rfl,⟨q1,q2,q3,q4⟩,_⟩ | ⟨_,p,x,rest,kx,hT,hkx,⟨rfl,q1,q2,q3,vq',b',q4,q5,q6⟩,_⟩
 ·rw [blkR_norm,blkR_norm]
  refine ⟨L0,_,s',hs,r,rfl,⟨q2.trans (sh.trans gh),hk,⟨v',b,q3.trans s0w,hQ'.move (q4.trans sb) (by omega),hb⟩,ssame,hn1,hn2,e7,hm2,sd,snd⟩,I.refuse (fun s hsm hb=>?_),Nat.le_of_eq (Mkt.meas_refuse _ _ _),k1,k5,k6,k7⟩
  rw [hRT] at hsm
  obtain ⟨x,hx,rfl⟩:=List.mem_map.mp hsm
  have:=q1 x hx
  have h2:betterB l x.1.toNat a (hs.getD x.1.toNat (-1))=true:=(betterB_iff l _ a _).mpr hb
  rw [h2] at this
  cases this
 ·rw [blkR_pass _ _ _ _ _ (by omega),blkR_exit]
  obtain ⟨st,x1,x2,x3⟩:=hTm x (by rw [← hT];simp)
  have etn:x.1.toNat=st:=by rw [x1];exact Int.toNat_natCast st
  rw [etn] at q2 q3 q5
  have hb':=(betterB_iff l st a _).mp q2
  have hsl:st<hs.length:=by omega
  have hR2:(mktOf l).R a=p.map (fun x=>x.1.toNat)++st::rest.map (fun x=>x.1.toNat):=by
   rw [hRT,← hT,List.map_append,List.map_cons,etn]
  refine ⟨L0,_,s',hs.set st a,Mkt.behind r (hs.getD st (-1)),rfl,⟨q3,by rw [List.length_set];exact hk,⟨vq',b',q4,q5,by omega⟩,ssame,hn1,hn2,e7,hm2,sd,snd⟩,?_,?_,k1,k5,k6,k7⟩
  ·rw [holdF_set hsl]
   refine I.take (mktOf_ok ok) hR2 (fun t ht hb=>?_) hb'
   obtain ⟨y,hy,rfl⟩:=List.mem_map.mp ht
   have:=q1 y hy
   have h2:betterB l y.1.toNat a (hs.getD y.1.toNat (-1))=true:=(betterB_iff l _ a _).mpr hb
   rw [h2] at this
   cases this
  ·rw [holdF_set hsl]
   exact Mkt.meas_take (H:=holdF hs) ha x2 hb'
end Go.Proofs.Ythbhjgbpjlnbcaa.walk
set_option maxRecDepth 10000
namespace Go.Proofs.Ythbhjgbpjlnbcaa.walk
open Go.Abs Go.Proofs.Ythbhjgbpjlnbcaa.code
structure ValidH (l:Letting) (hs:List Int):Prop where
 len:hs.length=l.stalls.length
 can:∀ s (h:s<hs.length),hs[s] = -1∨∃ a:Nat,hs[s]=a∧a<l.appls.length∧canI l s a=true
 once:∀ s t (h:s<hs.length) (h':t<hs.length),hs[s]=hs[t]→hs[s] ≠ -1→s=t
theorem checkHolder_ok (N:Nat) (hN:8≤N) {no na nb:Nat→Prop} {l:Letting} {vS vA vB:AV} {hs:List Int} {st:Nat} {s:St} (ok:l.Ok) (V:ValidH l hs) (hst:st<hs.length) (hL:LetAt no na s.h s.n l vS vA) (hB:Sl nb s.h s.n 1 (intRows (hs.take st)) vB) (hs':s.n+200000≤far) :
  call Try.prog X N (.fn 45) [.agg (letV vS vA),vB,.int .i64 hs[st]] s=.val (.int .i64 0) s:=by
 obtain ⟨n,rfl⟩:∃ n,N=n+1:=⟨N - 1,by omega⟩
 refine call_plain' Try.func45 (fun u uh un um=>?_) rfl
 have hf:far=1000000000:=rfl
 rw [← uh,← un] at hL hB
 obtain ⟨w,hw⟩:∃ w:St,w=u.new (.cells [vS,vA] (tag 28)):=⟨_,rfl⟩
 have wn:w.n=u.n+1:=by rw [hw];rfl
 have wm:w.m=far:=by rw [hw];exact um
 have wg:∀ c,c<u.n→w.h.get c=u.h.get c:=fun c hc=>by rw [hw,get_new_ne _ _ _ (by omega)]
 have w0:w.h.get u.n=some (.cells [vS,vA] (tag 28)):=by rw [hw];exact get_new_eq _ _ _ rfl (by omega)
 have hLw:=hL.grow wg (by omega:u.n≤w.n)
 have hBw:=hB.grow wg (by omega:u.n≤w.n)
 have kA:=hLw.okV
 have kS:=hLw.okS
 have lA:=hLw.lenA
 have kB:=hBw.okA
 have hlt:(hs.take st).length=st:=by rw [List.length_take];omega
 have lB:∀ s,lenSlA s vB=.val (.int .i64 (st:Int)) s:=fun s=>by have:=rowLen hBw.at_ s;rwa [hlt] at this
 have z0:decide ((0:Int)=0)=true:=rfl
 have ex0:∀ (a b:AV) (s:St),extA 0 s (.tup [a,b])=.val a s:=fun _ _ _=>rfl
 have ex1:∀ (a b:AV) (s:St),extA 1 s (.tup [a,b])=.val b s:=fun _ _ _=>rfl
 have okt:∀ (a b:AV) (s:St),okA (.val (.tup [a,b]) s)=.val (.tup [a,b]) s:=fun _ _ _=>rfl
 have n1:∀ s (c:Bool),notA s (.bool c)=.val (.bool !c) s:=fun _ _=>rfl
 have k1:=ok.k1
 have vl:=V.len
 rw [enter45]
 simp (disch:=first|omega|(with_unfolding_all exact rfl)|(simp only[new_n,put_n,new_m];omega)|(refine put_m_le ?_;simp only[new_m];omega)) only [K45,K45r0,Abs.W,reduceIte,Nat.reduceEqDiff,Nat.reduceAdd]
 rw [← hw]
 have hnot:hs[st] ≠ -1→hs[st] ∉ hs.take st:=fun h hm=>by
  obtain ⟨i,hi,he⟩:=List.getElem_of_mem hm
  rw [hlt] at hi
  rw [List.getElem_take] at he
  have:=V.once i st (by omega) hst he (by rw [he];exact h)
  omega
 rcases V.can st hst with h | ⟨a,h,ha,hc⟩
 ·rw [h]
  have e1:decide ((-1:Int) = -1)=true:=rfl
  simp (disch:=first|omega|(with_unfolding_all exact rfl)|(simp only[new_n,put_n,new_m];omega)|(refine put_m_le ?_;simp only[new_m];omega)) only [K45r1,K45r2,res45,Abs.W,reduceIte,Nat.reduceEqDiff,decide_true]
  exact ⟨_,rfl,by omega⟩
 ·have hn:=hnot (by rw [h];omega)
  rw [h] at hn ⊢
  have e1:decide ((a:Int) = -1)=false:=decide_eq_false (by omega)
  have c1:=named_ok n (by omega) (a:Int) (l.appls.length:Int) w (by omega) (by omega) (by omega)
  have c2:=contains_ok n (by omega) (hs.take st) (a:Int) vB w hBw.at_ (by omega) (by omega)
  have e2:decide ((a:Int) ∈ hs.take st)=false:=decide_eq_false hn
  rw [e2] at c2
  have c3:=bid_ok n (by omega) ok ha st hLw (by omega)
  have hc':(bidI l st a).2=true:=hc
  rw [hc'] at c3
  simp (disch:=first|omega|(with_unfolding_all exact rfl)|(simp only[new_n,put_n,new_m];omega)|(refine put_m_le ?_;simp only[new_m];omega)) only [K45r1,K45r3,K45r4,K45r6,K45r8,K45r9,K45r11,res45,Abs.W,reduceIte,Nat.reduceEqDiff,decide_true,Nat.reduceSub,e1,w0,kA,lA,c1,c2,c3,lB,ex0,ex1,n1,Nat.zero_add]
  exact ⟨_,rfl,by omega⟩
theorem checkHolders_ok (N:Nat) (hN:9≤N) {no na nh:Nat→Prop} {l:Letting} {vS vA vH:AV} {hs:List Int} {s:St} (ok:l.Ok) (V:ValidH l hs) (hL:LetAt no na s.h s.n l vS vA) (hH:Sl nh s.h s.n 1 (intRows hs) vH) (hs':s.n+300000≤far) :
  call Try.prog X N (.fn 21) [.agg (letV vS vA),vH] s=.val (.int .i64 0) s:=by
 obtain ⟨n,rfl⟩:∃ n,N=n+1:=⟨N - 1,by omega⟩
 refine call_plain' Try.func21 (fun u uh un um=>?_) rfl
 have hf:far=1000000000:=rfl
 rw [← uh,← un] at hL hH
 obtain ⟨w,hw⟩:∃ w:St,w=u.new (.cells [vS,vA] (tag 28)):=⟨_,rfl⟩
 have wn:w.n=u.n+1:=by rw [hw];rfl
 have wm:w.m=far:=by rw [hw];exact um
 have wg:∀ c,c<u.n→w.h.get c=u.h.get c:=fun c hc=>by rw [hw,get_new_ne _ _ _ (by omega)]
 have w0:w.h.get u.n=some (.cells [vS,vA] (tag 28)):=by rw [hw];exact get_new_eq _ _ _ rfl (by omega)
 have hLw:=hL.grow wg (by omega:u.n≤w.n)
 have hHw:=hH.grow wg (by omega:u.n≤w.n)
 have kA:=hLw.okV
 have kS:=hLw.okS
 have lS:=hLw.lenS
 have kH:=hHw.okA
 have lH:=rowLen hHw.at_
 have k1:=ok.k1
 have vl:=V.len
 have z0:decide ((0:Int)=0)=true:=rfl
 have z1:decide ((hs.length:Int)=(l.stalls.length:Int))=true:=decide_eq_true (by omega)
 have c1:=check_ok n (by omega) l ok vS vA w hLw (by omega)
 rw [enter21]
 simp (disch:=first|omega|(with_unfolding_all exact rfl)|(simp only[new_n,put_n,new_m];omega)|(refine put_m_le ?_;simp only[new_m];omega)) only [K21,K21r0,Abs.W,reduceIte,Nat.reduceEqDiff,Nat.reduceAdd]
 rw [← hw]
 simp (disch:=first|omega|(with_unfolding_all exact rfl)|(simp only[new_n,put_n,new_m];omega)|(refine put_m_le ?_;simp only[new_m];omega)) only [K21r1,K21r2,K21r4,K21r6,Abs.W,reduceIte,Nat.reduceEqDiff,decide_true,kLoop_def,Nat.reduceSub,w0,kS,lS,c1,z1,lH,Nat.zero_add]
 generalize hlp:loopN _ rounds _ _ _ _ _=q1
 obtain ⟨e,L1,t,rfl,rfl,rfl⟩:=loop_of hlp (fun i L t=>t=w∧L.find 1=vH∧L.find 2=.ptr u.n 0∧L.find 20=vH∧L.find 21=.int .i64 (hs.length:Int)∧L.find 22=.int .i64 (i:Nat)) (fun e L t=>e=.exit 0∧t=w) hs.length (by unfold rounds;omega)
  ⟨rfl,by simp only [find_cons,reduceIte,Nat.reduceEqDiff],by simp only [find_cons,reduceIte,Nat.reduceEqDiff],by simp only [find_cons,reduceIte,Nat.reduceEqDiff],by simp only [find_cons,reduceIte,Nat.reduceEqDiff],by simp only [find_cons,reduceIte,Nat.reduceEqDiff];rfl⟩
  (fun i L t hi ⟨ht,q1,q2,q20,q21,q22⟩=>by
   subst ht
   by_cases hlt:i<hs.length
   ·have e0:decide ((i:Int)<(hs.length:Int))=true:=decide_eq_true (by omega)
    obtain ⟨b1,p1,c1',sz1,x1,x2,x3,x4⟩:=rowInt hHw.at_ hlt
    obtain ⟨vB,t1,t2⟩:=hHw.to (i:=i) (by rw [intRows_len];omega)
    rw [intRows_take] at t2
    have c2:=checkHolder_ok n (by omega) ok V hlt hLw t2 (by omega)
    have ad:∀ s,aAdd s .i64 (i:Int) 1=.val (.int .i64 ((i:Int)+1)) s:=fun s=>aAdd_i64 s _ _ (by omega)
    refine .inl ⟨hlt,_,t,by
     simp (disch:=first|omega|(with_unfolding_all exact rfl)|(simp only[new_n,put_n,new_m];omega)|(refine put_m_le ?_;simp only[new_m];omega)) only [K21l0,K21r7,K21r8,K21r9,K21r10,K21r12,Abs.W,reduceIte,Nat.reduceEqDiff,decide_true,Nat.reduceSub,efs,q1,q2,q20,q21,q22,e0,x2,x3,x4,w0,kSlice_def,optEv_some,optEv_none,t1,c2,ad]
     rfl,rfl,?_,?_,?_,?_,?_⟩
    ·simp only [efs,q1,reduceIte,Nat.reduceEqDiff]
    ·simp only [efs,q2,reduceIte,Nat.reduceEqDiff]
    ·simp only [efs,q20,reduceIte,Nat.reduceEqDiff]
    ·simp only [efs,q21,reduceIte,Nat.reduceEqDiff]
    ·simp only [efs,reduceIte,Nat.reduceEqDiff];rfl
   ·obtain rfl:i=hs.length:=by omega
    have e0:decide ((hs.length:Int)<(hs.length:Int))=false:=by simp
    refine .inr ⟨.exit 0,L.set 23 (.bool false),t,by simp,?_,rfl,rfl⟩
    simp (disch:=first|omega|(with_unfolding_all exact rfl)|(simp only[new_n,put_n,new_m];omega)|(refine put_m_le ?_;simp only[new_m];omega)) only [K21l0,K21r7,Abs.W,reduceIte,efs,q21,q22,e0])
 simp (disch:=first|omega|(with_unfolding_all exact rfl)|(simp only[new_n,put_n,new_m];omega)|(refine put_m_le ?_;simp only[new_m];omega)) only [K21r13,res21,Abs.W,reduceIte,efs]
 exact ⟨_,rfl,by omega⟩
end Go.Proofs.Ythbhjgbpjlnbcaa.walk
