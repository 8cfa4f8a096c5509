/- Who envies what: one applicant. -/
import Derived.Test.YthbhjgbpjlnbcaaM8
import Derived.Test.YthbhjgbpjlnbcaaM5
import Derived.Test.YthbhjgbpjlnbcaaM7
import Derived.Test.YthbhjgbpjlnbcaaWalkAll
set_option maxHeartbeats 16000000
set_option linter.unusedVariables false
set_option maxRecDepth 10000
namespace Go.Proofs.Ythbhjgbpjlnbcaa.walk
open Go.Abs Go.Proofs.Ythbhjgbpjlnbcaa.code
def EnvI (l:Letting) (hs:List Int) (i pE kf:Nat) (p:List (Int × Int)) (h:Heap) (n:Nat):Prop :=
 ∃ vE bE,h.get pE=some (.cells [vE] (tag 22))∧IsAt h n bE 1 (tag 3) (natRows (betterL l hs i p)) vE∧kf≤bE∧(bE<n∨far<bE)∧∀ x ∈ p,holdF hs x.1.toNat≠i
theorem EnvI.keep {l:Letting} {hs:List Int} {i pE kf n n':Nat} {p:List (Int × Int)} {h h':Heap} (a:EnvI l hs i pE kf p h n) (h1:h'.get pE=h.get pE) (h2:∀ b,kf≤b→b<n→h'.get b=h.get b) (hn:n≤n'):EnvI l hs i pE kf p h' n':=by
 obtain ⟨vE,bE,a1,a2,a3,a4,a5⟩:=a
 exact ⟨vE,bE,h1.trans a1,a2.mono (fun h=>h2 bE a3 h) hn,a3,by omega,a5⟩
theorem env_sort {N bL:Nat} (hN:2≤N) {E:List Nat} {vL:AV} {s:St} (iL:IsAt s.h s.n bL 1 (tag 3) (natRows E) vL) (nd:E.Nodup) (ln:E.length≤8) (hs:s.n+400000≤far) (hm:s.m≤far) :
  ∃ t2 g,call Try.prog X (N+3) (.fn 44) [vL] s=.val (.tup []) t2∧IsAt t2.h t2.n bL 1 (tag 3) (natRows g) vL∧g.Pairwise (·<·)∧(∀ x,x ∈ g↔x ∈ E)∧(∀ c,c≠bL→t2.h.get c=s.h.get c)∧t2.n=s.n∧min s.m bL≤t2.m∧t2.m≤s.m:=by
 have hf:far=1000000000:=rfl
 by_cases e:E=[]
 ·subst e
  have hv:vL=.nilslice:=by
   rcases iL.is with ⟨_,z⟩ | ⟨z,_⟩
   ·exact z
   ·exact absurd rfl z
  subst hv
  exact ⟨s,[],sortf0O_ex (fun _=>rfl) (by omega),iL,List.Pairwise.nil,fun _=>Iff.rfl,fun _ _=>rfl,rfl,by omega,Nat.le_refl _⟩
 ·have hne:natRows E≠[]:=fun h=>e (by
   have:=congrArg List.length h
   rw [natRows_len] at this
   exact List.length_eq_zero_iff.mp this)
  rcases iL.is with ⟨z,_⟩ | ⟨_,z1,z2,z3⟩
  ·exact absurd z hne
  ·rw [natRows_len] at z2
   subst z2
   obtain ⟨t2,h1,g,⟨jc,js,jn,jm,jml,jun,⟨sl,smm,snd⟩⟩,hU⟩:=sortfO_ex (N:=N) (e:=true) hN z3 rfl nd ln z1 (by omega) hm
   have hg:natRows g≠[]:=fun h=>hne (by
    have:=congrArg List.length h
    rw [natRows_len,sl] at this
    exact List.length_eq_zero_iff.mp (by rw [natRows_len];exact this))
   refine ⟨t2,g,h1,⟨natRows_wide g,.inr ⟨hg,by omega,by rw [natRows_len,sl],jc⟩⟩,upto_pairwise (by rw [sl];exact hU),smm,js,jn,jm,jml⟩
theorem flatMap_len' {α β:Type} (c:Nat) (g:α→List β):∀ L:List α,(∀ x ∈ L,(g x).length≤c)→(L.flatMap g).length≤L.length * c
 | [],_=>by simp
 | x::L,h=>by
  rw [List.flatMap_cons,List.length_append,List.length_cons,Nat.succ_mul]
  have h1:=h x (List.mem_cons_self ..)
  have h2:=flatMap_len' c g L fun y hy=>h y (List.mem_cons_of_mem _ hy)
  omega
theorem envP_len {l:Letting} (ok:l.Ok) (hs:List Int) {i:Nat} (hi:i≤l.appls.length):(envP l hs i).length≤64:=by
 have k1:=ok.k1
 have m1:=ok.m1
 unfold envP
 refine Nat.le_trans (flatMap_len' 8 _ _ fun a _=>?_) ?_
 ·rw [List.length_map]
  unfold envS
  refine Nat.le_trans (List.length_filter_le _ _) ?_
  rw [List.length_range];exact k1
 ·rw [List.length_range];omega
theorem env_inner (N:Nat) {cx:Ctx} {w:St} {i b8 bL p10 z10 u0:Nat} {g:List Nat} {P:List (Nat × Nat)} {v8 vL:AV} {d:List Nat} {L:Env} {r:R} (hr:loopN K20l0 rounds (call Try.prog X N) cx L d w=r) (ig:IsAt w.h w.n bL 1 (tag 3) (natRows g) vL) (i8:IsAt w.h w.n b8 2 (tag 59) (P.map pairRow) v8) (h8:b8<w.n∨far<b8) (g10:w.h.get p10=some (.cells [.int .i64 (i:Int)] z10)) (h10:p10<w.n∧p10≠b8) (hLb:bL≠b8∧u0≤b8) (hg:g.length≤8) (hP:P.length≤64) (hu:u0≤w.n) (hm:u0≤w.m) (hmf:w.m≤far) (hs:w.n+1000≤far)
  (q8:L.find 8=v8) (q10:L.find 10=.ptr p10 0) (q55:L.find 55=vL) (q56:L.find 56=.int .i64 (g.length:Int)) (q57:L.find 57=.int .i64 (0:Nat)) :
  ∃ L1 t v9 b9,r=.done (.exit 4) L1 d t∧L1.find 8=v9∧IsAt t.h t.n b9 2 (tag 59) ((P++g.map fun st=>(i,st)).map pairRow) v9∧(b9=b8∨w.n≤b9)∧(b9<t.n∨far<b9)∧(∀ c,c<w.n→c≠b8→t.h.get c=w.h.get c)∧w.n≤t.n∧t.n≤w.n+20∧u0≤t.m∧t.m≤w.m∧∀ c,c<55→c≠8→c≠14→L1.find c=L.find c:=by
 have hf:far=1000000000:=rfl
 obtain ⟨e,L1,d1,t,rfl,rfl,rfl,v9,b9,h1,h2,h3,h4,h5,h6,h7,h9,h10',h11⟩:=loop_d hr (fun j L' d' t'=>d'=d∧∃ v9 b9,L'.find 8=v9∧IsAt t'.h t'.n b9 2 (tag 59) ((P++(g.take j).map fun st=>(i,st)).map pairRow) v9∧(b9=b8∨w.n≤b9)∧(b9<t'.n∨far<b9)∧(∀ c,c<w.n→c≠b8→t'.h.get c=w.h.get c)∧w.n≤t'.n∧t'.n≤w.n+2 * j∧u0≤t'.m∧t'.m≤w.m∧L'.find 57=.int .i64 (j:Nat)∧∀ c,c<57→c≠8→c≠14→L'.find c=L.find c)
  (fun e L' d' t'=>e=.exit 4∧d'=d∧∃ v9 b9,L'.find 8=v9∧IsAt t'.h t'.n b9 2 (tag 59) ((P++g.map fun st=>(i,st)).map pairRow) v9∧(b9=b8∨w.n≤b9)∧(b9<t'.n∨far<b9)∧(∀ c,c<w.n→c≠b8→t'.h.get c=w.h.get c)∧w.n≤t'.n∧t'.n≤w.n+20∧u0≤t'.m∧t'.m≤w.m∧∀ c,c<55→c≠8→c≠14→L'.find c=L.find c) g.length (by unfold rounds;omega)
  ⟨rfl,v8,b8,q8,by simp only [List.take_zero,List.map_nil,List.append_nil];exact i8,.inl rfl,h8,fun _ _ _=>rfl,Nat.le_refl _,by omega,hm,Nat.le_refl _,q57,fun _ _ _ _=>rfl⟩
  (fun j L' d' t' hj ⟨hd,v9,b9,p8,i9,o9,o9',same,jn,jle,jm,jml,p57,q⟩=>by
   subst hd
   have p55:=(q 55 (by omega) (by omega) (by omega)).trans q55
   have p56:=(q 56 (by omega) (by omega) (by omega)).trans q56
   have p10':=(q 10 (by omega) (by omega) (by omega)).trans q10
   have igt:=ig.mono (h':=t'.h) (n':=t'.n) (fun h=>same bL h hLb.1) jn
   by_cases hlt:j<g.length
   ·have e0:decide ((j:Int)<(g.length:Int))=true:=decide_eq_true (by omega)
    obtain ⟨bq,pq,cq,zq,r1,r2,r3,r4⟩:=natRow igt.rows.at_ hlt
    have t10:=(same p10 h10.1 h10.2).trans g10
    have ad:∀ s,aAdd s .i64 (j:Int) 1=.val (.int .i64 ((j:Int)+1)) s:=fun s=>aAdd_i64 s _ _ (by omega)
    obtain ⟨a,ha⟩:∃ a:St,a=t'.new (.cells [.int .i64 (i:Int),.int .i64 ((g[j]:Nat):Int)] 0):=⟨_,rfl⟩
    have an:a.n=t'.n+1:=by rw [ha];rfl
    have am:a.m=t'.m:=by rw [ha];rfl
    have ag:∀ c,c<t'.n→a.h.get c=t'.h.get c:=fun c hc=>by rw [ha,get_new_ne _ _ _ (by omega)]
    have ap:a.h.get t'.n=some (.cells [.int .i64 (i:Int),.int .i64 ((g[j]:Nat):Int)] 0):=by rw [ha];exact get_new_eq _ _ _ rfl (by omega)
    have hlen:((P++(g.take j).map fun st=>(i,st)).map pairRow).length≤72:=by
     rw [List.length_map,List.length_append,List.length_map,List.length_take];omega
    obtain ⟨s7,e7,l7,n7,g7,m7,m7'⟩:=append_at (bytes:=16) (i9.mono (h':=a.h) (n':=a.n) (fun h=>ag b9 h) (by omega)) ap rfl rfl (by omega) (by kernel_rfl) (by omega)
    have ecat:(P++(g.take j).map fun st=>(i,st)).map pairRow++[[.int .i64 (i:Int),.int .i64 ((g[j]:Nat):Int)]]=(P++(g.take (j+1)).map fun st=>(i,st)).map pairRow:=by
     simp only [take_snoc hlt,List.map_append,List.append_assoc,List.map_cons,List.map_nil]
     rfl
    rw [ecat] at l7
    obtain ⟨v7,hv7⟩:∃ v7,v7=AV.slice a.n 0 (((P++(g.take j).map fun st=>(i,st)).map pairRow).length+1) (((P++(g.take j).map fun st=>(i,st)).map pairRow).length+1) true:=⟨_,rfl⟩
    rw [← hv7] at e7 l7
    rw [ha] at e7
    have k9:=i9.okA
    have mu:=m7 u0 (by rcases o9 with h | h<;>omega) (by omega) (by omega)
    refine .inl ⟨hlt,_,d',s7,by
     simp (disch:=first|omega|(with_unfolding_all exact rfl)|(simp only[new_n,put_n,new_m];omega)|(refine put_m_le ?_;simp only[new_m];omega)) only [K20l0,K20r13,K20r14,K20r15,K20r16,Abs.W,reduceIte,Nat.reduceEqDiff,Nat.reduceAdd,Nat.reduceSub,Env.find_set,p8,p10',p55,p56,p57,e0,r2,r3,r4,t10,e7,ad,Nat.zero_add]
     rfl,rfl,v7,a.n,?_,l7,.inr (by omega),.inl (by omega),fun c h1 h2=>?_,by omega,by omega,mu,by omega,?_,fun c h1 h2 h3=>?_⟩
    ·simp only [Env.find_set,reduceIte,Nat.reduceEqDiff]
    ·rw [g7 c (by omega) (by rcases o9 with h | h<;>omega),ag c (by omega)];exact same c h1 h2
    ·simp only [Env.find_set,reduceIte,Nat.reduceEqDiff];rfl
    ·simp only [Env.find_set]
     repeat rw [if_neg (by omega)]
     exact q c h1 h2 h3
   ·obtain rfl:j=g.length:=by omega
    have e0:decide ((g.length:Int)<(g.length:Int))=false:=by simp
    rw [List.take_length] at i9
    refine .inr ⟨.exit 4,L'.set 58 (.bool false),d',t',by simp,?_,rfl,rfl,v9,b9,?_,i9,o9,o9',same,jn,by omega,jm,jml,fun c h1 h2 h3=>?_⟩
    ·simp (disch:=first|omega|(with_unfolding_all exact rfl)|(simp only[new_n,put_n,new_m];omega)|(refine put_m_le ?_;simp only[new_m];omega)) only [K20l0,K20r13,Abs.W,reduceIte,Env.find_set,p56,p57,e0]
    ·simp only [Env.find_set,p8,reduceIte,Nat.reduceEqDiff]
    ·simp only [Env.find_set]
     rw [if_neg (by omega)]
     exact q c (by omega) h2 h3)
 exact ⟨L1,t,v9,b9,rfl,h1,h2,h3,h4,h5,h6,h7,h9,h10',h11⟩
end Go.Proofs.Ythbhjgbpjlnbcaa.walk
set_option maxRecDepth 10000
namespace Go.Proofs.Ythbhjgbpjlnbcaa.walk
open Go.Abs Go.Proofs.Ythbhjgbpjlnbcaa.code
def Stopped (hs:List Int) (i:Nat) (rest:List (Int × Int)):Prop:=rest=[]∨∃ x r,rest=x::r∧holdF hs x.1.toNat=i
def CellsOr (t:St) (b:Nat):Prop:=far<b∨∃ c z,t.h.get b=some (.cells c z)
theorem env_round (M:Nat) (hM:1≤M) {no na nh:Nat→Prop} {w t:St} {u0 nr bm pr z5 kk i bE b8:Nat} {l:Letting} {vS vA vr vH vE v8:AV} {hs:List Int} {d:List Nat} {L:Env} (ok:l.Ok) (hi:i<l.appls.length) (hl:hs.length=l.stalls.length) (V:ValidH l hs)
  (box:w.h.get u0=some (.cells [vS,vA] (tag 28))) (boxH:w.h.get (u0+1)=some (.cells [vH] (tag 22))) (hL:LetAt no na w.h u0 l vS vA) (hH:Sl nh w.h w.n 1 (intRows hs) vH) (g5:w.h.get pr=some (.cells [vr] z5)) (rk:RkS w.h nr bm (u0+2) l l.stalls.length vr) (rb:bm<nr→u0+2≤bm) (o1:nr≤pr) (o2:pr<w.n) (o0:u0+1<pr)
  (ixE:∀ s,ixsA 1 s vE (.int .i64 (i:Int))=.val (.ptr bE i) s) (gE:∃ c z,w.h.get bE=some (.cells c z)∧nth c i=.int .i64 (i:Int)) (hbE:bE<w.n)
  (same:∀ c,c<w.n→t.h.get c=w.h.get c) (jn:w.n≤t.n) (jle:t.n≤w.n+kk) (jm:u0≤t.m) (jml:t.m≤far) (dd:∀ c ∈ d,w.n≤c∧c<t.n∧t.h.get c=some .dfr) (dn:d.Nodup) (hs':w.n+kk+1000000≤far)
  (f2:L.find 2=.ptr u0 0) (f3:L.find 3=.ptr (u0+1) 0) (f7:L.find 7=.ptr pr 0) (f8:L.find 8=v8) (i8:IsAt t.h t.n b8 2 (tag 59) ((envP l hs i).map pairRow) v8) (h8:w.n≤b8∧(b8<t.n∨far<b8)) (f24:L.find 24=vE) (f25:L.find 25=.int .i64 (l.appls.length:Int)) (f26:L.find 26=.int .i64 (i:Nat)) :
  ∃ L1 d1 t1 v9 b9,K20l1 (call Try.prog X (M+4)) ⟨20,none,Try.f20.ntmps,X 20⟩ L d t=.done .norm L1 d1 t1∧(∀ c,c<w.n→t1.h.get c=w.h.get c)∧w.n≤t1.n∧t1.n≤w.n+(kk+30000)∧u0≤t1.m∧t1.m≤far∧(∀ c ∈ d1,w.n≤c∧c<t1.n∧t1.h.get c=some .dfr)∧d1.Nodup∧L1.find 26=.int .i64 (i+1:Nat)∧L1.find 8=v9∧IsAt t1.h t1.n b9 2 (tag 59) ((envP l hs (i+1)).map pairRow) v9∧w.n≤b9∧(b9<t1.n∨far<b9)∧∀ c,c<26→c ∈ [2,3,7,24,25]→L1.find c=L.find c:=by
 have hf:far=1000000000:=rfl
 obtain ⟨b8,i8,h8,hc8⟩:∃ b,IsAt t.h t.n b 2 (tag 59) ((envP l hs i).map pairRow) v8∧(w.n≤b∧(b<t.n∨far<b))∧CellsOr t b:=by
  rcases i8.is with ⟨z,z2⟩ | ⟨_,z1,_,z3⟩
  ·refine ⟨far+w.n+1,?_,⟨by omega,by omega⟩,.inl (by omega)⟩
   rw [z,z2]
   exact IsAt.nil _ _ _ _ _
  ·exact ⟨b8,i8,h8,.inr ⟨_,_,z3⟩⟩
 obtain ⟨cE,zE,gE,nE⟩:=gE
 have kS:=hL.okS
 have kA:=hL.okV
 have kH:=hH.okA
 have m1:=ok.m1
 have e0:decide ((i:Int)<(l.appls.length:Int))=true:=decide_eq_true (by omega)
 have tE:=(same bE hbE).trans gE
 have t0:=(same u0 (by omega)).trans box
 obtain ⟨y1,hy1⟩:∃ y1:St,y1=((t.new (.cells [.int .i64 0] (tag 3))).put t.n (.cells [.int .i64 (i:Int)] (tag 3))).new (.cells [.nilslice] (tag 22)):=⟨_,rfl⟩
 have y1n:y1.n=t.n+2:=by rw [hy1];rfl
 have y1m:y1.m=min t.m t.n:=by rw [hy1,new_m];simp only [St.put,minN_eq,new_m]
 have y1g:∀ c,c<t.n→y1.h.get c=t.h.get c:=fun c hc=>by rw [hy1,get_new_ne _ _ _ (by simp only [put_n,new_n];omega),get_put_ne' _ _ _ _ (by omega),get_new_ne _ _ _ (by omega)]
 have y1p:y1.h.get t.n=some (.cells [.int .i64 (i:Int)] (tag 3)):=by rw [hy1,get_new_ne _ _ _ (by simp only [put_n,new_n];omega)];exact get_put_eq _ _ _ _ rfl (by omega)
 have y1q:y1.h.get (t.n+1)=some (.cells [.nilslice] (tag 22)):=by rw [hy1];exact get_new_eq _ _ _ (by simp only [put_n,new_n]) (by simp only [put_n,new_n];omega)
 have re:=reach_ok (M+4) (by omega) [vS,vA] (i:Int) y1 (by omega)
 obtain ⟨s0,hs0⟩:∃ s0:St,s0=(y1.new (.cells [vS,vA] (tag 28))).new (.cells [.int .i64 (i:Int)] (tag 3)):=⟨_,rfl⟩
 have s0n:s0.n=t.n+4:=by rw [hs0];show y1.n+1+1=_;omega
 have s0m:s0.m=y1.m:=by rw [hs0];rfl
 have s0g:∀ c,c<y1.n→s0.h.get c=y1.h.get c:=fun c hc=>by rw [hs0,get_new_ne _ _ _ (by rw [new_n];omega),get_new_ne _ _ _ (by omega)]
 have s00:s0.h.get (t.n+2)=some (.cells [vS,vA] (tag 28)):=by rw [hs0,get_new_ne _ _ _ (by rw [new_n];omega)];exact get_new_eq _ _ _ (by omega) (by omega)
 have s01:s0.h.get (t.n+3)=some (.cells [.int .i64 (i:Int)] (tag 3)):=by rw [hs0];exact get_new_eq _ _ _ (by rw [new_n];omega) (by rw [new_n];omega)
 rw [← hs0,y1n] at re
 have s0w:∀ c,c<w.n→s0.h.get c=w.h.get c:=fun c hc=>(s0g c (by omega)).trans ((y1g c (by omega)).trans (same c hc))
 have s0p:=(s0g t.n (by omega)).trans y1p
 have s0q:=(s0g (t.n+1) (by omega)).trans y1q
 have y10:=(y1g u0 (by omega)).trans t0
 simp (disch:=first|omega|(with_unfolding_all exact rfl)|(simp only[new_n,put_n,new_m];omega)|(refine put_m_le ?_;simp only[new_m];omega)) only [K20l1,K20r7,K20r8,K20r9,Abs.W,reduceIte,Nat.reduceEqDiff,Nat.reduceSub,Env.find_set,f24,f25,f26,e0,ixE,tE,nE,put_n,new_n]
 rw [← hy1]
 simp (disch:=first|omega|(with_unfolding_all exact rfl)|(simp only[new_n,put_n,new_m];omega)|(refine put_m_le ?_;simp only[new_m];omega)) only [K20r10,Abs.W,reduceIte,Nat.reduceEqDiff,Nat.reduceSub,Env.find_set,f2,y10,y1p,re]
 obtain ⟨L0,hL0⟩:∃ L0,L0=Env.set 32 (.func 56 [] [.ptr (t.n+2) 0,.ptr (t.n+2+1) 0]) (Env.set 11 (.ptr (t.n+1) 0) (Env.set 10 (.ptr t.n 0) (Env.set 27 (.bool true) L))):=⟨_,rfl⟩
 rw [← hL0]
 have kL:∀ c,c<27→c≠10→c≠11→L0.find c=L.find c:=fun c h1 h2 h3=>by
  rw [hL0]
  simp only [Env.find_set]
  repeat rw [if_neg (by omega)]
 have k10:L0.find 10=.ptr t.n 0:=by rw [hL0];simp only [Env.find_set,reduceIte,Nat.reduceEqDiff]
 have k11:L0.find 11=.ptr (t.n+1) 0:=by rw [hL0];simp only [Env.find_set,reduceIte,Nat.reduceEqDiff]
 have k32:L0.find 32=.func 56 [] [.ptr (t.n+2) 0,.ptr (t.n+3) 0]:=by rw [hL0];simp only [Env.find_set,reduceIte,Nat.reduceEqDiff]
 clear hL0 re
 have k3:=(kL 3 (by omega) (by omega) (by omega)).trans f3
 have k7:=(kL 7 (by omega) (by omega) (by omega)).trans f7
 have hLb:=hL.bound.move (h':=s0.h) (n':=u0) (no':=fun y=>no y∧y<u0) (na':=fun y=>na y∧y<u0) (fun b h1 h2=>⟨s0w b (by omega),h2⟩) (fun b h1 h2=>⟨s0w b (by omega),h2⟩) (Nat.le_refl _)
 have hh:=reach1_hands (N:=M+1) (p1:=t.n+2) (p2:=t.n+3) (H:=s0.h) (rd:=fun y=>y=t.n+2∨y=t.n+3∨(no y∧y<u0)∨(na y∧y<u0)) ok hLb hi s00 s01 (.inl rfl) (.inr (.inl rfl)) (fun y h=>.inr (.inr (.inl h))) (fun y h=>.inr (.inr (.inr h)))
 have rl:∀ y,(y=t.n+2∨y=t.n+3∨(no y∧y<u0)∨(na y∧y<u0))→y=t.n+2∨y=t.n+3∨y<u0:=fun y h=>by
  rcases h with h | h | h | h
  ·exact .inl h
  ·exact .inr (.inl h)
  ·exact .inr (.inr h.2)
  ·exact .inr (.inr h.2)
 have hTm:∀ x ∈ reachOf l.stalls l.appls[i],∃ st:Nat,x.1=st∧st<l.stalls.length∧i ∈ ableL l st:=fun x hx=>by
  rw [← applAt_of hi] at hx
  obtain ⟨st,h1,h2,_⟩:=reach_mem ok hi hx
  refine ⟨st,h1,h2,(able_iff ok hi).mpr (List.mem_map.mpr ⟨x,hx,by rw [h1];exact Int.toNat_natCast st⟩)⟩
 have eT:reachOf l.stalls (applAt l i)=reachOf l.stalls l.appls[i]:=by rw [applAt_of hi]
 obtain ⟨T,hTe⟩:∃ T,T=reachOf l.stalls l.appls[i]:=⟨_,rfl⟩
 rw [← hTe] at hh hTm eT
 have k1:=ok.k1
 obtain ⟨e,s',kf,hkf,e1,hE,e3,e4,e5,e6,e7,e8⟩:=hands_range2 (P:=Try.prog) (X:=X) (M:=M) (Z:=M+4) hh (f:=.tmp 32) (ps:=[33,34]) (c:=⟨20,none,Try.f20.ntmps,X 20⟩) (L:=L0) (d:=d) (s:=s0) rfl (by rw [ev_tmp,k32]) (fun _=>rfl) code20a0 code20b0 10 u0 300 (fun y=>y=t.n+1) (fun _ _=>True) (fun _ _ _ _ _=>trivial) (fun _=>trivial)
  (fun kf p h n=>EnvI l hs i (t.n+1) kf p h n) (fun kf e p x k h n=>e=.exit 2∧holdF hs x.1.toNat=i∧EnvI l hs i (t.n+1) kf p h n)
  (fun y hy=>⟨by have:=rl y hy;omega,rfl⟩) (fun y hy=>⟨fun h=>by have:=rl y h;omega,by omega⟩) (by omega) (by omega) (by omega) (by omega) (fun kf hkf=>⟨.nilslice,far+1+kf,s0q,IsAt.nil _ _ _ _ _,by omega,.inr (by omega),fun x hx=>(by cases hx)⟩)
  (fun kf p h h' n n' hkf hb hn hp=>hp.keep (hb _ (.inl (by omega))) (fun b h1 h2=>hb b (.inr ⟨h1,h2⟩)) hn)
  (fun kf e p x k h h' n n' hkf hk hb hn ⟨q1,q2,hp⟩=>⟨q1,q2,hp.keep (hb _ (.inl (by omega))) (fun b h1 h2=>hb b (.inr h1)) hn⟩)
  (fun kf p x rest t' hkf ht hp hfr htn htf htm htm' _=>by
   have hmem:x ∈ T:=by rw [← ht];simp
   obtain ⟨st,x1,x2,x3⟩:=hTm x hmem
   obtain ⟨xs,xb⟩:=x
   simp only at x1
   subst x1
   have etn:((st:Int),xb).1.toNat=st:=Int.toNat_natCast st
   have hass:K20a0 (call Try.prog X M) ⟨20,some (s0.n+1),Try.f20.ntmps,X 20⟩ (setParams L0 [33,34] (ev2 ((st:Int),xb))) [] t'=.done .norm (((L0.set 33 (.int .i64 (st:Int))).set 34 (.int .i64 xb)).set 12 (.int .i64 (st:Int))) [] t':=by
    simp (disch:=first|omega|(with_unfolding_all exact rfl)|(simp only[new_n,put_n,new_m];omega)|(refine put_m_le ?_;simp only[new_m];omega)) only [K20a0,K20a0r0,ev2,setParams2,Abs.W,reduceIte,Nat.reduceEqDiff,Env.find_set,Nat.reduceEqDiff]
   obtain ⟨L1,hL1⟩:∃ L1,L1=(((L0.set 33 (.int .i64 (st:Int))).set 34 (.int .i64 xb)).set 12 (.int .i64 (st:Int))):=⟨_,rfl⟩
   rw [← hL1] at hass
   have l3:L1.find 3=.ptr (u0+1) 0:=by rw [hL1];simp only [Env.find_set,k3,reduceIte,Nat.reduceEqDiff]
   have l7:L1.find 7=.ptr pr 0:=by rw [hL1];simp only [Env.find_set,k7,reduceIte,Nat.reduceEqDiff]
   have l10:L1.find 10=.ptr t.n 0:=by rw [hL1];simp only [Env.find_set,k10,reduceIte,Nat.reduceEqDiff]
   have l12:L1.find 12=.int .i64 (st:Int):=by rw [hL1];simp only [Env.find_set,reduceIte,Nat.reduceEqDiff]
   have k11':L1.find 11=.ptr (t.n+1) 0:=by rw [hL1];simp only [Env.find_set,k11,reduceIte,Nat.reduceEqDiff]
   clear hL1
   have tw:∀ c,c<w.n→t'.h.get c=w.h.get c:=fun c h1=>(hfr c (by omega) (by omega)).trans (s0w c h1)
   obtain ⟨z,hz⟩:∃ z:St,z=t'.put (s0.n+1) (.loop { loopO ⟨20,none,Try.f20.ntmps,X 20⟩ L0 [33,34] (rangeAt Try.f20 0).1 (rangeAt Try.f20 0).2 s0 with state:=.busy }):=⟨_,rfl⟩
   have zn:z.n=t'.n:=by rw [hz];rfl
   have zm:z.m=min t'.m (s0.n+1):=by rw [hz];simp only [St.put,minN_eq]
   have zg:∀ c,c≠s0.n+1→z.h.get c=t'.h.get c:=fun c hc=>by rw [hz,get_put_ne' _ _ _ _ hc]
   have zl:z.h.get (s0.n+1)=some (.loop { loopO ⟨20,none,Try.f20.ntmps,X 20⟩ L0 [33,34] (rangeAt Try.f20 0).1 (rangeAt Try.f20 0).2 s0 with state:=.busy }):=by rw [hz];exact get_put_eq _ _ _ _ rfl (by omega)
   have zw:∀ c,c<w.n→z.h.get c=w.h.get c:=fun c hc=>(zg c (by omega)).trans (tw c hc)
   have z1:=(zw (u0+1) (by omega)).trans boxH
   have z7:=(zw pr o2).trans g5
   have z10:=(zg t.n (by omega)).trans ((hfr t.n (by omega) (by omega)).trans s0p)
   obtain ⟨vE',bE',hb1,hb2,hb3,hb4,hb5⟩:=hp
   have z11:=(zg (t.n+1) (by omega)).trans hb1
   have l11:L1.find 11=.ptr (t.n+1) 0:=k11'
   have hHz:=hH.grow zw (by omega:w.n≤z.n)
   obtain ⟨bh,ph,ch,zh,r1,r2,r3,r4⟩:=rowInt hHz.at_ (show st<hs.length by omega)
   have hRz:RkS z.h z.n bm (u0+2) l l.stalls.length vr:=rk.move rb (fun c h1 _=>zw c (by omega)) (by omega)
   have kr:=hRz.okA
   have eh:hs[st]=holdF hs st:=by unfold holdF;simp [List.getD,show st<hs.length by omega]
   refine ⟨L1,t',?_⟩
   rw [hass,← hz]
   by_cases he:hs[st]=(i:Int)
   ·have d1:decide (hs[st]=(i:Int))=true:=decide_eq_true he
    simp (disch:=first|omega|(with_unfolding_all exact rfl)|(simp only[new_n,put_n,new_m];omega)|(refine put_m_le ?_;simp only[new_m];omega)) only [K20b0,K20b0r0,Abs.W,reduceIte,Nat.reduceEqDiff,Nat.reduceSub,blkR_pass,Env.find_set,l3,l10,l12,z1,z10,kH,r2,r3,r4,d1]
    exact ⟨.exit 2,_,_,trivial,trivial,rfl,fun h=>(by cases h),fun _=>⟨rfl,by rw [etn,← eh];exact he,EnvI.keep (h:=t'.h) (n:=t'.n) ⟨vE',bE',hb1,hb2,hb3,hb4,hb5⟩ (zg _ (by omega)) (fun b h1 h2=>zg b (by omega)) (by omega)⟩,zl,fun c h1 h2 _=>zg c h2,by omega,by omega,by omega,by omega,trivial⟩
   ·have d1:decide (hs[st]=(i:Int))=false:=decide_eq_false he
    have held:Held l st hs[st]:=by
     rcases V.can st (by omega) with h | ⟨c,h,q1,q2⟩
     ·exact .inl h
     ·exact .inr ⟨c,h,(able_iff ok q1).mpr ((canI_iff ok q1).mp q2)⟩
    have bo:=better_ok M hM hRz x2 x3 held (by omega)
    have hni:∀ x ∈ p++[((st:Int),xb)],holdF hs x.1.toNat≠i:=fun y hy=>by
     rcases List.mem_append.mp hy with h | h
     ·exact hb5 y h
     ·rw [List.mem_singleton.mp h,etn,← eh];exact he
    have hsn:=betterL_snoc l hs i p ((st:Int),xb)
    have egd:hs.getD st (-1)=hs[st]:=by simp [List.getD,show st<hs.length by omega]
    rw [etn,egd] at hsn
    cases hb:betterB l st i hs[st] with
    | false =>
     rw [hb] at bo hsn
     have hsn:betterL l hs i (p++[((st:Int),xb)])=betterL l hs i p:=by rw [hsn];simp
     simp (disch:=first|omega|(with_unfolding_all exact rfl)|(simp only[new_n,put_n,new_m];omega)|(refine put_m_le ?_;simp only[new_m];omega)) only [K20b0,K20b0r0,K20b0r1,Abs.W,reduceIte,Nat.reduceEqDiff,Nat.reduceSub,Env.find_set,l3,l7,l10,l12,z1,z7,z10,kH,kr,r2,r3,r4,d1,bo]
     exact ⟨.norm,_,_,trivial,trivial,rfl,fun _=>⟨vE',bE',z11,by rw [hsn];exact hb2.mono (fun h=>zg bE' (by omega)) (by omega),hb3,by omega,hni⟩,fun h=>absurd rfl h,zl,fun c h1 h2 _=>zg c h2,by omega,by omega,by omega,by omega,trivial⟩
    | true =>
     rw [hb] at bo hsn
     rw [if_pos rfl] at hsn
     have kE':=hb2.okA
     have hlen:=(betterL_nodup ok hs hi (p:=p) (rest:=((st:Int),xb)::rest) (by rw [eT,ht])).2
     obtain ⟨a,ha⟩:∃ a:St,a=z.new (.cells [.int .i64 (st:Int)] 0):=⟨_,rfl⟩
     have an:a.n=z.n+1:=by rw [ha];rfl
     have am:a.m=z.m:=by rw [ha];rfl
     have ag:∀ c,c<z.n→a.h.get c=z.h.get c:=fun c hc=>by rw [ha,get_new_ne _ _ _ (by omega)]
     have ap:a.h.get z.n=some (.cells [.int .i64 (st:Int)] 0):=by rw [ha];exact get_new_eq _ _ _ rfl (by omega)
     obtain ⟨s7,e7,l7',n7,g7,m7,m7'⟩:=append_at (bytes:=8) (hb2.mono (h':=a.h) (n':=a.n) (fun h=>(ag bE' (by omega)).trans (zg bE' (by omega))) (by omega)) ap rfl rfl (by rw [natRows_len];omega) (by kernel_rfl) (by omega)
     rw [natRows_len] at e7 l7'
     have ecat:natRows (betterL l hs i p)++[[.int .i64 (st:Int)]]=natRows (betterL l hs i (p++[((st:Int),xb)])):=by
      rw [hsn]
      unfold natRows intRows
      rw [List.map_append,List.map_append]
      rfl
     rw [ecat] at l7'
     obtain ⟨v7,hv7⟩:∃ v7,v7=AV.slice a.n 0 ((betterL l hs i p).length+1) ((betterL l hs i p).length+1) true:=⟨_,rfl⟩
     rw [← hv7] at e7 l7'
     have sc7:scalars [v7]=true:=by rw [hv7];rfl
     have cc7:cellsOf 1 v7=some [v7]:=by rw [hv7];rfl
     rw [ha] at e7
     have s711:=(g7 (t.n+1) (by omega) (by omega)).trans ((ag (t.n+1) (by omega)).trans z11)
     simp (disch:=first|omega|(with_unfolding_all exact rfl)|(simp only[new_n,put_n,new_m];omega)|(refine put_m_le ?_;simp only[new_m];omega)) only [K20b0,K20b0r0,K20b0r1,K20b0r2,Abs.W,reduceIte,Nat.reduceEqDiff,Nat.reduceSub,Env.find_set,l3,l7,l10,l11,l12,z1,z7,z10,z11,kH,kr,kE',r2,r3,r4,d1,bo,e7,s711,sc7,cc7]
     have mu:=m7 u0 (by omega) (by omega) (by omega)
     refine ⟨.norm,_,_,trivial,trivial,rfl,fun _=>⟨v7,a.n,get_put_eq _ _ _ _ rfl (by omega),l7'.mono (fun _=>get_put_ne' _ _ _ _ (by omega)) (by rw [put_n];omega),by omega,.inl (by rw [put_n];omega),hni⟩,fun h=>absurd rfl h,?_,fun c h1 h2 h3=>?_,by rw [put_n];omega,by rw [put_n];omega,?_,?_,trivial⟩
     ·rw [get_put_ne' _ _ _ _ (by omega),g7 _ (by omega) (by omega),ag _ (by omega)];exact zl
     ·rw [get_put_ne' _ _ _ _ h3,g7 c (by omega) (by omega),ag c (by omega)];exact zg c h2
     ·simp only [St.put,minN_eq];omega
     ·simp only [St.put,minN_eq];omega)
 rw [e1]
 have hex:∃ L1,blkR 2 (R.done e L0 (s0.n::d) s')=.done .norm L1 (s0.n::d) s'∧L1=L0:=by
  rcases hE with ⟨rfl,_,_⟩ | ⟨_,p,x,rest,kx,_,_,⟨rfl,_⟩,_⟩
  ·exact ⟨L0,by rw [blkR_norm],rfl⟩
  ·exact ⟨L0,by rw [blkR_exit],rfl⟩
 have hres:∃ p rest,p++rest=reachOf l.stalls (applAt l i)∧Stopped hs i rest∧EnvI l hs i (t.n+1) kf p s'.h s'.n:=by
  rw [eT]
  rcases hE with ⟨_,h,_⟩ | ⟨_,p,x,rest,kx,hT,_,⟨_,h1,h2⟩,_⟩
  ·exact ⟨T,[],by simp,.inl rfl,h⟩
  ·exact ⟨p,x::rest,hT,.inr ⟨x,rest,rfl,h1⟩,h2⟩
 obtain ⟨_,hex,rfl⟩:=hex
 rw [hex]
 clear hE hex
 obtain ⟨p,rest,hTp,hrest,vL,bL,sq,iL,hL1,hL2,hL3⟩:=hres
 obtain ⟨bL,iL,hL1,hL2,hLne⟩:∃ b,IsAt s'.h s'.n b 1 (tag 3) (natRows (betterL l hs i p)) vL∧kf≤b∧(b<s'.n∨far<b)∧b≠b8:=by
  obtain ⟨_,h8b⟩:=h8
  rcases iL.is with ⟨z,z2⟩ | ⟨_,z1,_⟩
  ·refine ⟨far+b8+kf+1,?_,by omega,by omega,by omega⟩
   rw [z,z2]
   exact IsAt.nil _ _ _ _ _
  ·exact ⟨bL,iL,hL1,.inl z1,by omega⟩
 have hsame:∀ c,c<s0.n→c≠t.n+1→s'.h.get c=s0.h.get c:=e3
 obtain ⟨nd,ln⟩:=betterL_nodup ok hs hi hTp
 obtain ⟨t2,g,so,ig,hg1,hg2,t2g,t2n,t2m,t2m'⟩:=env_sort (N:=M+1) (by omega) iL nd ln (by omega) (by omega)
 have hgS:=envS_of ok V hi hTp hL3 hrest hg1 hg2
 have kL':=iL.okA
 have lL':∀ s,lenSlA s vL=.val (.int .i64 (g.length:Int)) s:=fun s=>natLen ig.rows.at_ s
 have sq2:=(t2g (t.n+1) (by omega)).trans sq
 simp (disch:=first|omega|(with_unfolding_all exact rfl)|(simp only[new_n,put_n,new_m];omega)|(refine put_m_le ?_;simp only[new_m];omega)) only [K20r11,K20r12,Abs.W,reduceIte,Nat.reduceEqDiff,kLoop_def,Nat.reduceSub,k11,sq,so,sq2,kL',lL']
 generalize hlp:loopN _ rounds _ _ _ _ _=rl
 have t2t:∀ c,c<t.n→t2.h.get c=t.h.get c:=fun c hc=>(t2g c (by omega)).trans ((hsame c (by omega) (by omega)).trans ((s0g c (by omega)).trans (y1g c hc)))
 have hgl:g.length≤8:=by
  have:=len_sub (k:=betterL l hs i p) (hg1.imp (fun h=>Nat.ne_of_lt h)) fun x hx=>(hg2 x).mp hx
  omega
 have p10:=(t2g t.n (by omega)).trans ((hsame t.n (by omega) (by omega)).trans s0p)
 have hpl:(envP l hs i).length≤64:=envP_len ok hs (by omega)
 have ha:b8<t2.n∨far<b8:=by omega
 have hb':t.n<t2.n∧t.n≠b8:=by omega
 have hd':u0≤b8:=by omega
 have he':u0≤t2.n:=by omega
 have hf':u0≤t2.m:=by omega
 have hg':t2.m≤far:=by omega
 have hh':t2.n+1000≤far:=by omega
 have i82:=i8.mono (h':=t2.h) (n':=t2.n) (fun h=>t2t b8 h) (by omega)
 have k8':=(kL 8 (by omega) (by omega) (by omega)).trans f8
 obtain ⟨L3,t3,v9,b9,rfl,q8,i9,hb9,hb9',t3g,t3n,t3n',t3m,t3m',qL⟩:=env_inner (M+4) (i:=i) (g:=g) (P:=envP l hs i) (u0:=u0) (bL:=bL) (vL:=vL) hlp ig i82 ha p10 hb' ⟨hLne,hd'⟩ hgl hpl he' hf' hg' hh'
  (by simp only [Env.find_set,k8',reduceIte,Nat.reduceEqDiff]) (by simp only [Env.find_set,k10,reduceIte,Nat.reduceEqDiff]) (by simp only [Env.find_set,reduceIte,Nat.reduceEqDiff]) (by simp only [Env.find_set,reduceIte,Nat.reduceEqDiff]) (by simp only [Env.find_set,reduceIte,Nat.reduceEqDiff];rfl)
 have k26:=(kL 26 (by omega) (by omega) (by omega)).trans f26
 have ad:∀ s,aAdd s .i64 (i:Int) 1=.val (.int .i64 ((i:Int)+1)) s:=fun s=>aAdd_i64 s _ _ (by omega)
 have q26:L3.find 26=.int .i64 (i:Nat):=(qL 26 (by omega) (by omega) (by omega)).trans (by simp only [Env.find_set,k26,reduceIte,Nat.reduceEqDiff])
 simp (disch:=first|omega|(with_unfolding_all exact rfl)|(simp only[new_n,put_n,new_m];omega)|(refine put_m_le ?_;simp only[new_m];omega)) only [K20r17,Abs.W,reduceIte,Nat.reduceEqDiff,q26,ad]
 have t3w:∀ c,c<t.n→c≠b8→t3.h.get c=t.h.get c:=fun c h1 h2=>(t3g c (by omega) h2).trans (t2t c h1)
 have sd:∀ c ∈ s0.n::d,w.n≤c∧c<t3.n∧t3.h.get c=some .dfr:=fun c hc=>by
  rcases List.mem_cons.mp hc with rfl | hc
  ·refine ⟨by omega,by omega,?_⟩
   rw [t3g s0.n (by omega) (by omega),t2g s0.n (by omega)]
   exact e4
  ·obtain ⟨c1,c2,c3⟩:=dd c hc
   refine ⟨c1,by omega,?_⟩
   rw [t3w c c2 (fun e=>?_)]
   ·exact c3
   ·subst e
    rcases hc8 with z | ⟨_,_,z3⟩
    ·omega
    ·rw [c3] at z3;cases z3
 have snd:(s0.n::d).Nodup:=List.nodup_cons.mpr ⟨fun h=>by have:=(dd _ h).2.1;omega,dn⟩
 refine ⟨_,s0.n::d,t3,v9,b9,rfl,fun c hc=>(t3w c (by omega) (by omega)).trans (same c hc),by omega,by rw [← Nat.add_assoc];omega,by omega,by omega,sd,snd,?_,?_,?_,by omega,by omega,fun c hc hm=>?_⟩
 ·simp only [Env.find_set,reduceIte];rfl
 ·simp only [Env.find_set,q8,reduceIte,Nat.reduceEqDiff]
 ·rw [envP_succ,← hgS];exact i9
 ·simp only [List.mem_cons,List.mem_nil_iff,or_false] at hm
  simp only [Env.find_set]
  repeat rw [if_neg (by omega)]
  rw [qL c (by omega) (by omega) (by omega)]
  simp only [Env.find_set]
  repeat rw [if_neg (by omega)]
  exact kL c (by omega) (by omega) (by omega)
end Go.Proofs.Ythbhjgbpjlnbcaa.walk
set_option maxRecDepth 10000
namespace Go.Proofs.Ythbhjgbpjlnbcaa.walk
open Go.Abs Go.Proofs.Ythbhjgbpjlnbcaa.code
theorem envies_ex {N:Nat} {no na nh:Nat→Prop} {l:Letting} {vS vA vH:AV} {hs:List Int} {s:St} {r:ARes} (hr:call Try.prog X N (.fn 20) [.agg (letV vS vA),vH] s=r) (hN:16≤N) (ok:l.Ok) (V:ValidH l hs) (hL:LetAt no na s.h s.n l vS vA) (hH:Sl nh s.h s.n 1 (intRows hs) vH) (hs':s.n+4000000≤far) :
  ∃ v8 b8 t,r=.val (.tup [v8,.int .i64 0]) t∧New s t 300000∧IsAt t.h t.n b8 2 (tag 59) ((envP l hs l.appls.length).map pairRow) v8∧s.n≤b8:=by
 have hl:=V.len
 obtain ⟨M,rfl⟩:∃ M,N=M+5:=⟨N - 5,by omega⟩
 have hf:far=1000000000:=rfl
 obtain ⟨v,t,e,st,v8,b8,rfl,hq⟩:=call_new' (n:=M+4) (args:=[.agg (letV vS vA),vH]) (s:=s) (k:=300000) (Q:=fun v h n=>∃ v8 b8,v=.tup [v8,.int .i64 0]∧IsAt h n b8 2 (tag 59) ((envP l hs l.appls.length).map pairRow) v8∧s.n≤b8) Try.func20 rfl (fun u uh un um=>by
  rw [← uh,← un] at hL hH
  rw [← uh,← un]
  have k0:=ok.k0
  have k1:=ok.k1
  have m1:=ok.m1
  have kA:=hL.okV
  have kS:=hL.okS
  have lS:=hL.lenS
  have z0:decide ((0:Int)=0)=true:=rfl
  have hvH:∃ b o cap e,vH=.slice b o (intRows hs).length cap e:=by
   rcases hH.is with ⟨z,_⟩ | ⟨b,o,cap,e,c,sz,_,_,_,z,_⟩
   ·have:=intRows_len hs
    rw [z] at this;simp at this;omega
   ·exact ⟨b,o,cap,e,z⟩
  obtain ⟨bb,oo,cc,ee,hvH⟩:=hvH
  have bx:∀ s,boxA (tag 22) s vH=.val (.ptr s.n 0) (s.new (.cells [vH] (tag 22))):=fun s=>by rw [hvH];rfl
  obtain ⟨w0,hw0⟩:∃ w:St,w=(u.new (.cells [vS,vA] (tag 28))).new (.cells [vH] (tag 22)):=⟨_,rfl⟩
  have w0n:w0.n=u.n+2:=by rw [hw0];rfl
  have w0m:w0.m=far:=by rw [hw0];exact um
  have w0g:∀ c,c<u.n→w0.h.get c=u.h.get c:=fun c hc=>by rw [hw0,get_new_ne _ _ _ (by rw [new_n];omega),get_new_ne _ _ _ (by omega)]
  have w00:w0.h.get u.n=some (.cells [vS,vA] (tag 28)):=by rw [hw0,get_new_ne _ _ _ (by rw [new_n];omega)];exact get_new_eq _ _ _ rfl (by omega)
  have w01:w0.h.get (u.n+1)=some (.cells [vH] (tag 22)):=by rw [hw0];exact get_new_eq _ _ _ rfl (by rw [new_n];omega)
  have hM:=hL.grow w0g (by omega:u.n≤w0.n)
  have hHM:=hH.grow w0g (by omega:u.n≤w0.n)
  have kH:=hHM.okA
  have c1:=checkHolders_ok (M+4) (by omega) ok V hM hHM (by omega)
  rw [enter20]
  simp (disch:=first|omega|(with_unfolding_all exact rfl)|(simp only[new_n,put_n,new_m];omega)|(refine put_m_le ?_;simp only[new_m];omega)) only [K20,K20r0,Abs.W,reduceIte,Nat.reduceEqDiff,Nat.reduceAdd,bx,new_n]
  rw [← hw0]
  simp (disch:=first|omega|(with_unfolding_all exact rfl)|(simp only[new_n,put_n,new_m];omega)|(refine put_m_le ?_;simp only[new_m];omega)) only [K20r1,K20r2,K20r4,Abs.W,reduceIte,Nat.reduceEqDiff,decide_true,Nat.reduceSub,w00,w01,c1,kH]
  generalize hc:call _ _ _ (.fn 39) _ _=rc
  obtain ⟨vr,t1,bm,rfl,s1,hR,hbm⟩:=rank_ex hc (by omega) ok hM (by omega)
  have s1n:=s1.n
  have s1l:=s1.le
  have s1m:=s1.m
  obtain ⟨hv,hbm2⟩:=hR.slice (by omega)
  subst hv
  have t1g:∀ c,c<w0.n→t1.h.get c=w0.h.get c:=s1.same
  simp (disch:=first|omega|(with_unfolding_all exact rfl)|(simp only[new_n,put_n,new_m];omega)|(refine put_m_le ?_;simp only[new_m];omega)) only [Abs.W,reduceIte,Nat.reduceEqDiff,Nat.reduceSub]
  generalize hy:St.put _ _ _=y
  have yn:y.n=t1.n+1:=by rw [← hy,put_n,new_n]
  have yg:∀ c,c<t1.n→y.h.get c=t1.h.get c:=fun c hc=>by rw [← hy,get_put_ne' _ _ _ _ (by omega),get_new_ne _ _ _ (by omega)]
  have yp:∃ z5,y.h.get t1.n=some (.cells [.slice bm 0 l.stalls.length l.stalls.length true] z5):=⟨_,by rw [← hy];exact get_put_eq _ _ _ _ rfl (by omega)⟩
  have ym:y.m=min t1.m t1.n:=by rw [← hy];simp only [St.put,minN_eq,new_m]
  obtain ⟨z5,yp⟩:=yp
  have y0:=(yg u.n (by omega)).trans ((t1g u.n (by omega)).trans w00)
  have hLy:=hL.grow (h':=y.h) (n':=y.n) (fun c hc=>(yg c (by omega)).trans ((t1g c (by omega)).trans (w0g c hc))) (by omega)
  simp (disch:=first|omega|(with_unfolding_all exact rfl)|(simp only[new_n,put_n,new_m];omega)|(refine put_m_le ?_;simp only[new_m];omega)) only [K20r5,K20r6,Abs.W,reduceIte,Nat.reduceEqDiff,Nat.reduceSub,y0]
  generalize hc3:call _ _ _ (.fn 41) _ _=rc
  obtain ⟨w,rfl,s3,wn,wE⟩:=everybody_ex hc3 (by omega) ok hLy (by omega)
  have s3m:=s3.m
  have lE:∀ s,lenSlA s (.slice (y.n+1) 0 l.appls.length l.appls.length false)=.val (.int .i64 (l.appls.length:Int)) s:=fun _=>rfl
  simp (disch:=first|omega|(with_unfolding_all exact rfl)|(simp only[new_n,put_n,new_m];omega)|(refine put_m_le ?_;simp only[new_m];omega)) only [Abs.W,reduceIte,Nat.reduceEqDiff,kLoop_def,lE]
  have b0:∀ c,c<t1.n→w.h.get c=t1.h.get c:=fun c hc=>(s3.same c (by omega)).trans (yg c hc)
  have bu:∀ c,c<u.n→w.h.get c=u.h.get c:=fun c hc=>(b0 c (by omega)).trans ((t1g c (by omega)).trans (w0g c hc))
  have rk:=(hR.move (h':=w.h) (fun _=>by omega) (fun c h1 _=>b0 c h1) (Nat.le_refl _)).weak (lo':=u.n+2) (by omega)
  generalize hlp:loopN _ rounds _ _ _ _ _=rl
  obtain ⟨e,L1,d1,s',rfl,rfl,same,jn,jle,jm,jml,dd,dn,v8,b8,f8,i8,o8,o8'⟩:=loop_d hlp (fun i L d t=>(∀ c,c<w.n→t.h.get c=w.h.get c)∧w.n≤t.n∧t.n≤w.n+30000 * i∧u.n≤t.m∧t.m≤far∧(∀ c ∈ d,w.n≤c∧c<t.n∧t.h.get c=some .dfr)∧d.Nodup∧L.find 2=.ptr u.n 0∧L.find 3=.ptr (u.n+1) 0∧L.find 7=.ptr t1.n 0∧(∃ v8 b8,L.find 8=v8∧IsAt t.h t.n b8 2 (tag 59) ((envP l hs i).map pairRow) v8∧w.n≤b8∧(b8<t.n∨far<b8))∧L.find 24=.slice (y.n+1) 0 l.appls.length l.appls.length false∧L.find 25=.int .i64 (l.appls.length:Int)∧L.find 26=.int .i64 (i:Nat))
   (fun e L d t=>e=.exit 0∧(∀ c,c<w.n→t.h.get c=w.h.get c)∧w.n≤t.n∧t.n≤w.n+240000∧u.n≤t.m∧t.m≤far∧(∀ c ∈ d,w.n≤c∧c<t.n∧t.h.get c=some .dfr)∧d.Nodup∧∃ v8 b8,L.find 8=v8∧IsAt t.h t.n b8 2 (tag 59) ((envP l hs l.appls.length).map pairRow) v8∧w.n≤b8∧(b8<t.n∨far<b8)) l.appls.length (by unfold rounds;omega)
   ⟨fun _ _=>rfl,Nat.le_refl _,by omega,by omega,by omega,fun c h=>(by cases h),List.nodup_nil,by simp only [find_cons,reduceIte,Nat.reduceEqDiff],by simp only [find_cons,reduceIte,Nat.reduceEqDiff],by simp only [find_cons,reduceIte,Nat.reduceEqDiff],⟨.nilslice,far+1+w.n,by simp only [find_cons,reduceIte,Nat.reduceEqDiff],IsAt.nil _ _ _ _ _,by omega,.inr (by omega)⟩,by simp only [find_cons,reduceIte,Nat.reduceEqDiff],by simp only [find_cons,reduceIte,Nat.reduceEqDiff],by simp only [find_cons,reduceIte,Nat.reduceEqDiff];rfl⟩
   (fun i L d t hi ⟨same,jn,jle,jm,jml,dd,dn,q2,q3,q7,⟨v8,b8,q8,i8,o8,o8'⟩,q24,q25,q26⟩=>by
    by_cases hlt:i<l.appls.length
    ·obtain ⟨L1,d1,t2,v9,b9,x1,x2,x3,x4,x5,x6,x7,x8,x9,x11,x12,x13,x14,x10⟩:=env_round M (by omega) (w:=w) (bE:=y.n+1) ok hlt hl V ((b0 u.n (by omega)).trans ((t1g u.n (by omega)).trans w00)) ((b0 (u.n+1) (by omega)).trans ((t1g (u.n+1) (by omega)).trans w01)) (hL.bound.move (h':=w.h) (n':=u.n) (no':=fun y=>no y∧y<u.n) (na':=fun y=>na y∧y<u.n) (fun b h1 h2=>⟨bu b h1,h2⟩) (fun b h1 h2=>⟨bu b h1,h2⟩) (Nat.le_refl _)) (hH.grow bu (by omega:u.n≤w.n)) ((s3.same t1.n (by omega)).trans yp) rk (fun _=>by omega) (Nat.le_refl _) (by omega) (by omega)
      (fun s=>by rw [ixs_slice 1 s (y.n+1) 0 _ _ false i hlt,Nat.zero_add,Nat.mul_one]) ⟨_,_,wE,by rw [natRows_nth (by rw [List.length_range];exact hlt)];simp [List.getD,hlt]⟩ (by omega) same jn jle jm jml dd dn (by omega) q2 q3 q7 q8 i8 ⟨o8,o8'⟩ q24 q25 q26
     exact .inl ⟨hlt,L1,d1,t2,x1,x2,x3,by rw [Nat.mul_succ];exact x4,x5,x6,x7,x8,(x10 2 (by omega) (by simp)).trans q2,(x10 3 (by omega) (by simp)).trans q3,(x10 7 (by omega) (by simp)).trans q7,⟨v9,b9,x11,x12,x13,x14⟩,(x10 24 (by omega) (by simp)).trans q24,(x10 25 (by omega) (by simp)).trans q25,x9⟩
    ·obtain rfl:i=l.appls.length:=by omega
     have e0:decide ((l.appls.length:Int)<(l.appls.length:Int))=false:=by simp
     refine .inr ⟨.exit 0,L.set 27 (.bool false),d,t,by simp,?_,rfl,same,jn,by omega,jm,jml,dd,dn,v8,b8,?_,i8,o8,o8'⟩
     ·simp (disch:=first|omega|(with_unfolding_all exact rfl)|(simp only[new_n,put_n,new_m];omega)|(refine put_m_le ?_;simp only[new_m];omega)) only [K20l1,K20r7,Abs.W,reduceIte,Env.find_set,q25,q26,e0]
     ·simp only [Env.find_set,q8,reduceIte,Nat.reduceEqDiff])
  obtain ⟨b8,i8,o8,hc8⟩:∃ b,IsAt s'.h s'.n b 2 (tag 59) ((envP l hs l.appls.length).map pairRow) v8∧w.n≤b∧CellsOr s' b:=by
   rcases i8.is with ⟨z,z2⟩ | ⟨_,z1,_,z3⟩
   ·refine ⟨far+w.n+1,?_,by omega,.inl (by omega)⟩
    rw [z,z2]
    exact IsAt.nil _ _ _ _ _
   ·exact ⟨b8,i8,o8,.inr ⟨_,_,z3⟩⟩
  obtain ⟨s'',ed,d0,d1n,d2,d3⟩:=take_dfrs dn (fun c hc=>(dd c hc).2.2)
  simp (disch:=first|omega|(with_unfolding_all exact rfl)|(simp only[new_n,put_n,new_m];omega)|(refine put_m_le ?_;simp only[new_m];omega)) only [K20r18,res20,Abs.W,reduceIte,Nat.reduceEqDiff,f8]
  rw [leave_dfrs ed]
  have dl:∀ c ∈ d1,w.n≤c:=fun c hc=>(dd c hc).1
  have hsm:=d2 u.n jm (fun c hc=>by have:=dl c hc;omega)
  have lv:leaveA Try.prog [.tmp 4,.tmp 5] (Env.set 5 (.int .i64 0) (Env.set 4 v8 L1)) [] s''=.val (.tup [v8,.int .i64 0]) s'':=by
   have e2:(Env.set 5 (.int .i64 0) (Env.set 4 v8 L1)).find 4=v8:=by simp only [Env.find_set,reduceIte,Nat.reduceEqDiff]
   have e3:(Env.set 5 (.int .i64 0) (Env.set 4 v8 L1)).find 5=.int .i64 0:=by simp only [Env.find_set,reduceIte,Nat.reduceEqDiff]
   show ARes.val (oneA [Env.find 4 _,Env.find 5 _]) s''=_
   rw [e2,e3]
   rfl
  rw [lv]
  have i9:IsAt s''.h s''.n b8 2 (tag 59) ((envP l hs l.appls.length).map pairRow) v8:=i8.mono (fun h=>d0 b8 (fun hm=>by
   rcases hc8 with z | ⟨_,_,z3⟩
   ·have:=(dd b8 hm).2.1;omega
   ·rw [(dd b8 hm).2.2] at z3;cases z3)) (by omega)
  refine ⟨_,_,rfl,⟨fun c hc=>?_,by omega,by omega,hsm,by omega⟩,⟨v8,b8,rfl,i9,by omega⟩,fun hp=>⟨v8,b8,rfl,?_,by omega⟩⟩
  ·rw [d0 c (fun h=>by have:=dl _ h;omega),same c (by omega)]
   exact bu c hc
  ·rcases i8.is with ⟨z,z2⟩ | ⟨_,_,z2,_⟩
   ·rw [z,z2];exact IsAt.nil _ _ _ _ _
   ·rw [z2] at hp;cases hp)
 exact ⟨v8,b8,t,hr.symm.trans e,st,hq⟩
end Go.Proofs.Ythbhjgbpjlnbcaa.walk
set_option maxRecDepth 10000
namespace Go.Proofs.Ythbhjgbpjlnbcaa.walk
open Go.Abs Go.Proofs.Ythbhjgbpjlnbcaa.code
noncomputable abbrev awd (n:Nat):CallF:=knows 14 (call Try.prog X n)
def MetS (h:Heap) (n bm lo:Nat) (M:List (List Nat)) (v:AV):Prop :=
 ∃ vs:List AV,vs.length=M.length∧IsAt h n bm 1 (tag 22) (vs.map fun v=>[v]) v∧∀ j (h1:j<vs.length) (h2:j<M.length),Sl (fun x=>lo≤x∧x≠bm) h n 1 (natRows M[j]) vs[j]
section
variable {h h':Heap} {n n' bm lo:Nat} {M:List (List Nat)} {v:AV}
theorem MetS.nil (h:Heap) (n bm lo:Nat):MetS h n bm lo [] .nilslice:=⟨[],rfl,IsAt.nil _ _ _ _ _,fun j h1 _=>by simp at h1⟩
theorem MetS.move (a:MetS h n bm lo M v) (hb:bm<n→lo≤bm) (hh:∀ c,c<n→lo≤c→h'.get c=h.get c) (hn:n≤n'):MetS h' n' bm lo M v:=by
 obtain ⟨vs,h1,h2,h3⟩:=a
 exact ⟨vs,h1,h2.mono (fun h=>hh _ h (hb h)) hn,fun j j1 j2=>(h3 j j1 j2).move (fun c hc hl=>⟨hh c hc hl.1,hl⟩) hn⟩
theorem MetS.okA (a:MetS h n bm lo M v) (t:St):Abs.okA (.val v t)=.val v t:=by obtain ⟨rows,h1,h2,h3⟩:=a;exact h2.okA t
theorem MetS.len (a:MetS h n bm lo M v) (s:St):lenSlA s v=.val (.int .i64 (M.length:Int)) s:=by
 obtain ⟨vs,h1,h2,h3⟩:=a
 have:=h2.rows.at_.len s
 rw [List.length_map,h1] at this
 exact this
theorem MetS.get (a:MetS h n bm lo M v) {j:Nat} (hj:j<M.length) :
  ∃ w p c sz,Sl (fun x=>lo≤x∧x≠bm) h n 1 (natRows M[j]) w∧(∀ s,ixsA 1 s v (.int .i64 (j:Int))=.val (.ptr bm p) s)∧h.get bm=some (.cells c sz)∧nth c p=w:=by
 obtain ⟨vs,h1,h2,h3⟩:=a
 have hr:j<vs.length:=by omega
 rcases h2.is with ⟨z,_⟩ | ⟨_,z1,z2,z3⟩
 ·rw [List.map_eq_nil_iff] at z
  subst z
  simp at hr
 ·refine ⟨vs[j],0+j * 1,_,_,h3 j hr hj,fun s=>by rw [z2];exact ixs_slice 1 s bm 0 _ _ true j (by rw [List.length_map];exact hr),z3,?_⟩
  rw [Nat.zero_add]
  have:=flatten_cut (rows:=vs.map fun v=>[v]) (w:=1) (i:=j) h2.wide (by rw [List.length_map];exact hr)
  exact cut1_nth (this.trans (by simp))
end
theorem MetS.push {s:St} {bm lo:Nat} {M:List (List Nat)} {v:AV} (a:MetS s.h s.n bm lo M v) {l:List Nat} {w:AV} (hw:Sl (fun x=>lo≤x∧x≠bm) s.h s.n 1 (natRows l) w) {p sz:Nat} (hp:s.h.get p=some (.cells [w] sz)) (hl:M.length+1≤1000) (hs:s.n+10≤far) :
  ∃ v' s',appendA false 1 24 (tag 22) s v (.slice p 0 1 1 false)=.val v' s'∧MetS s'.h s'.n s.n lo (M++[l]) v'∧s'.n=s.n+1∧(∀ c,c<s.n→c≠bm→s'.h.get c=s.h.get c):=by
 have hf:far=1000000000:=rfl
 obtain ⟨vs,h1,h2,h3⟩:=a
 obtain ⟨s',e1,e2,e3,e4,e5,e6⟩:=append_at (bytes:=24) h2 hp rfl hw.scal.1 (by rw [List.length_map];omega) (by kernel_rfl) (by omega)
 have mv:∀ {l:List Nat} {w:AV},Sl (fun x=>lo≤x∧x≠bm) s.h s.n 1 (natRows l) w→Sl (fun x=>lo≤x∧x≠s.n) s'.h s'.n 1 (natRows l) w:=fun q=>q.move (fun b b1 b2=>⟨e4 b b1 b2.2,b2.1,by omega⟩) (by omega)
 refine ⟨_,s',e1,⟨vs++[w],by simp [h1],?_,fun j j1 j2=>?_⟩,e3,e4⟩
 ·rw [List.map_append];exact e2
 ·by_cases e:j<vs.length
  ·rw [List.getElem_append_left e,List.getElem_append_left (by omega)]
   exact mv (h3 j e (by omega))
  ·have hj:j=vs.length:=by rw [List.length_append,List.length_singleton] at j1;omega
   subst hj
   rw [List.getElem_append_right (Nat.le_refl _),List.getElem_append_right (by omega)]
   simp only [h1,Nat.sub_self,List.getElem_singleton]
   exact mv hw
/-! ### The draw has each once -/
def draws (n base from_ j:Nat):List (List Nat):=(List.range j).map fun i=>pickL n (base+from_+i) (List.range n)
structure DrawnJ (w t:St) (p4 lo bS bA who bm n base from_ j kk:Nat) (l:Letting) (vS vA vm:AV):Prop where
 own:∃ x,0≤x∧x≤1000000000∧LetOwn t.h w.n lo bS bA (l.withTok who x) vS vA
 g4:t.h.get p4=some (.cells [vS,vA] (tag 28))
 met:MetS t.h t.n bm w.n (draws n base from_ j) vm
 bmc:(w.n≤bm∧bm<t.n)∨far<bm
 n:w.n≤t.n
 le:t.n≤w.n+kk
end Go.Proofs.Ythbhjgbpjlnbcaa.walk
set_option maxRecDepth 10000
namespace Go.Proofs.Ythbhjgbpjlnbcaa.walk
open Go.Abs Go.Proofs.Ythbhjgbpjlnbcaa.code
theorem R_sub {l:Letting} (ok:l.Ok) {a:Nat} (ha:a<l.appls.length) {s:Nat} (hs:s ∈ (mktOf l).R a):l.appls[a].wishes.idxOf (s:Int)<l.appls[a].wishes.length:=by
 obtain ⟨x,x1,x2⟩:=List.mem_map.mp hs
 obtain ⟨k,k1,_,k3⟩:=reach_mem ok ha x1
 have e:x.1=(s:Int):=by omega
 rw [e] at k3
 exact List.idxOf_lt_length_of_mem k3
theorem placeI_lt {l:Letting} (ok:l.Ok) {hs:List Int} {a:Nat} (ha:a<l.appls.length) (S:(mktOf l).Stable (holdF hs)):placeI l hs a=l.appls[a].wishes.length↔¬ ∃ s,holdF hs s=a:=by
 constructor
 ·rintro h ⟨s,h1⟩
  have e:=placeI_some (l:=l) (fun t ht=>S.inj t s a ht h1) h1
  have h2:=R_sub ok ha (S.hold s a h1).2
  rw [e,applAt_of ha] at h
  omega
 ·intro h
  rw [placeI_none h,applAt_of ha]
theorem best_facts {l:Letting} (ok:l.Ok) {hb hs:List Int} (I:(mktOf l).Inv (holdF hb) []) (V:ValidH l hs) (he:envP l hs l.appls.length=[]):(∀ a,∀ ha:a<l.appls.length,placeI l hb a≤placeI l hs a∧(placeI l hb a=l.appls[a].wishes.length↔placeI l hs a=l.appls[a].wishes.length))∧∀ s,s<l.stalls.length→(holdF hb s = -1↔holdF hs s = -1):=by
 have okm:=mktOf_ok ok
 have S:=stable_of ok V he
 obtain ⟨r1,r2⟩:=Mkt.rural okm I S
 refine ⟨fun a ha=>⟨?_,?_⟩,r2⟩
 ·refine place_mono ok ha (fun s t h1 h2=>S.inj s t a h1 h2) (fun s t h1 h2=>I.inj s t a h1 h2) fun t ht=>?_
  obtain ⟨s,h1,h2⟩:=I.best okm S.toFair ht
  exact ⟨s,h1,(I.hold s a h1).2,(S.hold t a ht).2,h2⟩
 ·rw [placeI_lt ok ha I.stable,placeI_lt ok ha S,r1 a]
theorem boolEql (neg:Bool) (s:St) (a b:Bool):eqlA .bool neg s (.bool a) (.bool b)=.val (.bool (xor (a == b) neg)) s:=by cases a<;>cases b<;>cases neg<;>rfl
theorem kEqlB (c:Cmp) (neg:Bool) (x y:Arg) (L:Env) (s:St):kEql c neg x y L s=eqlA c neg s (x.ev L) (y.ev L):=Eq.trans (Eq.refl _) (Eq.refl _)
theorem best_loop0 (N:Nat) (hN:8≤N) {cx:Ctx} {w:St} {p3 z3 bM pM zM i:Nat} {l:Letting} {vS vA vB vM vG:AV} {cM:List AV} {no na nb ng:Nat→Prop} {hb hs:List Int} {L:Env} {r:R} (hr:loopN K5l0 rounds (awd N) cx L [] w=r) (ok:l.Ok) (hL:LetAt no na w.h w.n l vS vA) (g3:w.h.get p3=some (.cells [vS,vA] z3)) (hB:Sl nb w.h w.n 1 (intRows hb) vB) (hG:Sl ng w.h w.n 1 (intRows hs) vG) (kM:∀ t,okA (.val vM t)=.val vM t) (ixM:∀ s,ixsA 1 s vM (.int .i64 (i:Int))=.val (.ptr bM pM) s) (gM:w.h.get bM=some (.cells cM zM)) (nM:nth cM pM=vG) (hbl:hb.length≤8) (hsl:hs.length≤8)
  (hle:∀ a,∀ ha:a<l.appls.length,placeI l hb a≤placeI l hs a∧(placeI l hb a=l.appls[a].wishes.length↔placeI l hs a=l.appls[a].wishes.length)) (hm:w.m≤far) (hs':w.n+3000≤far)
  (q3:L.find 3=.ptr p3 0) (q4:L.find 4=vB) (q6:L.find 6=vM) (q8:L.find 8=.int .i64 (i:Nat)) (q11:L.find 11=.int .i64 (0:Nat)) :
  ∃ L1,r=.done (.exit 2) L1 [] w∧∀ c,c<9→L1.find c=L.find c:=by
 have hf:far=1000000000:=rfl
 have knP:∀ args s,awd N (.fn 23) args s=call Try.prog X N (.fn 23) args s:=fun _ _=>rfl
 have m1:=ok.m1
 have kA:=hL.okV
 have kS:=hL.okS
 have lA:=hL.lenA
 have kB:=hB.okA
 have kG:=hG.okA
 obtain ⟨e,L1,t,rfl,rfl,rfl,hq⟩:=loop_of hr (fun a L' t'=>t'=w∧L'.find 11=.int .i64 (a:Nat)∧∀ c,c<11→c<9→L'.find c=L.find c) (fun e L' t'=>e=.exit 2∧t'=w∧∀ c,c<9→L'.find c=L.find c) l.appls.length (by unfold rounds;omega)
  ⟨rfl,q11,fun _ _ _=>rfl⟩
  (fun a L' t' ha ⟨hw,p11,q⟩=>by
   subst hw
   have p3':=(q 3 (by omega) (by omega)).trans q3
   by_cases hlt:a<l.appls.length
   ·have e0:decide ((a:Int)<(l.appls.length:Int))=true:=decide_eq_true (by omega)
    have p4:=(q 4 (by omega) (by omega)).trans q4
    have p6:=(q 6 (by omega) (by omega)).trans q6
    have p8:=(q 8 (by omega) (by omega)).trans q8
    have ad:∀ s,aAdd s .i64 (a:Int) 1=.val (.int .i64 ((a:Int)+1)) s:=fun s=>aAdd_i64 s _ _ (by omega)
    have pl1:=place_ok N (by omega) (s:=⟨t'.h,t'.n,far⟩) ok hlt hL hB hbl (by show t'.n+300≤far;omega)
    have pl2:=place_ok N (by omega) (s:=t') ok hlt hL hG hsl (by omega)
    obtain ⟨h1,h2⟩:=hle a hlt
    have e1:decide ((placeI l hs a:Int)<(placeI l hb a:Int))=false:=decide_eq_false (by omega)
    obtain ⟨ww,pa,oa,ca,za,r1,r2,r3,r4,r5,r6⟩:=hL.getA2 hlt
    obtain ⟨w1,w2⟩:=ww
    simp only at r4 r5 r6
    have c2:=cut_nth r4 (show 2<4 by omega)
    have n2:nth [AV.int .i64 l.appls[a].years,.int .i64 l.appls[a].token,w1,w2] 2=w1:=rfl
    rw [n2] at c2
    have k1:=r5.okA
    have lw:=rowLen r5.at_
    have e2:decide ((placeI l hb a:Int)=(l.appls[a].wishes.length:Int))=decide ((placeI l hs a:Int)=(l.appls[a].wishes.length:Int)):=by
     rw [decide_eq_decide]
     constructor
     ·intro h;have:=h2.mp (by omega);omega
     ·intro h;have:=h2.mpr (by omega);omega
    obtain ⟨bb,hbb⟩:∃ b,decide ((placeI l hs a:Int)=(l.appls[a].wishes.length:Int))=b:=⟨_,rfl⟩
    rw [hbb] at e2
    have e3:∀ s,eqlA .bool true s (.bool bb) (.bool bb)=.val (.bool false) s:=fun s=>by rw [boolEql];cases bb<;>rfl
    have u5:=fun cl L s=>congrFun (congrFun (congrFun K5r18s5.eq_1 cl) L) s
    have u6:=fun cl L s=>congrFun (congrFun (congrFun K5r18s6.eq_1 cl) L) s
    have u7:=fun cl L s=>congrFun (congrFun (congrFun K5r18s7.eq_1 cl) L) s
    have u8:=fun cl L s=>congrFun (congrFun (congrFun K5r18s8.eq_1 cl) L) s
    have u9:=fun cl L s=>congrFun (congrFun (congrFun K5r18s9.eq_1 cl) L) s
    have u10:=fun cl L s=>congrFun (congrFun (congrFun K5r18s10.eq_1 cl) L) s
    have u11:=fun cl L s=>congrFun (congrFun (congrFun K5r18s11.eq_1 cl) L) s
    refine .inl ⟨hlt,_,t',by
     simp (config:={ maxSteps:=2000000 }) (disch:=first|omega|(with_unfolding_all exact rfl)|(simp only[new_n,put_n,new_m];omega)|(refine put_m_le ?_;simp only[new_m];omega)) only [K5l0,K5r15,K5r16,K5r17,K5r18,u5,u6,u7,u8,u9,u10,u11,K5r20,Abs.W,reduceIte,Nat.reduceEqDiff,Nat.reduceSub,Env.find_set,p3',p4,p6,p8,p11,g3,kA,lA,kG,ixM,gM,nM,knP,pl1,pl2,e0,e1,e2,hbb,e3,kEqlB,r2,r3,c2,k1,lw,ad,Nat.zero_add]
     rfl,rfl,?_,fun c hc hc2=>?_⟩
    ·simp only [Env.find_set,reduceIte,Nat.reduceEqDiff];rfl
    ·simp only [Env.find_set]
     repeat rw [if_neg (by omega)]
     exact q c hc hc2
   ·obtain rfl:a=l.appls.length:=by omega
    have e0:decide ((l.appls.length:Int)<(l.appls.length:Int))=false:=by simp
    refine .inr ⟨.exit 2,L'.set 69 (.bool false),t',by simp,?_,rfl,rfl,fun c hc=>?_⟩
    ·simp (disch:=first|omega|(with_unfolding_all exact rfl)|(simp only[new_n,put_n,new_m];omega)|(refine put_m_le ?_;simp only[new_m];omega)) only [K5l0,K5r15,Abs.W,reduceIte,Nat.reduceEqDiff,Nat.reduceSub,Env.find_set,p3',p11,g3,kA,lA,e0,Nat.zero_add]
    ·simp only [Env.find_set]
     rw [if_neg (by omega)]
     exact q c (by omega) hc)
 exact ⟨L1,rfl,hq⟩
theorem best_loop1 (N:Nat) {cx:Ctx} {w:St} {bM pM zM i:Nat} {vB vM vG:AV} {cM:List AV} {nb ng:Nat→Prop} {hb hs:List Int} {L:Env} {r:R} (hr:loopN K5l1 rounds (awd N) cx L [] w=r) (hB:Sl nb w.h w.n 1 (intRows hb) vB) (hG:Sl ng w.h w.n 1 (intRows hs) vG) (kM:∀ t,okA (.val vM t)=.val vM t) (ixM:∀ s,ixsA 1 s vM (.int .i64 (i:Int))=.val (.ptr bM pM) s) (gM:w.h.get bM=some (.cells cM zM)) (nM:nth cM pM=vG) (hbl:hb.length≤8) (hsl:hs.length=hb.length)
  (heq:∀ s,∀ h:s<hb.length,∀ h':s<hs.length,(hb[s]<0↔hs[s]<0)) (hm:w.m≤far) (hs':w.n+3000≤far) (q4:L.find 4=vB) (q6:L.find 6=vM) (q8:L.find 8=.int .i64 (i:Nat)) (q15:L.find 15=.int .i64 (0:Nat)) :
  ∃ L1,r=.done (.exit 4) L1 [] w∧∀ c,c<9→L1.find c=L.find c:=by
 have hf:far=1000000000:=rfl
 have kB:=hB.okA
 have lB:=rowLen hB.at_
 have kG:=hG.okA
 obtain ⟨e,L1,t,rfl,rfl,rfl,hq⟩:=loop_of hr (fun a L' t'=>t'=w∧L'.find 15=.int .i64 (a:Nat)∧∀ c,c<9→L'.find c=L.find c) (fun e L' t'=>e=.exit 4∧t'=w∧∀ c,c<9→L'.find c=L.find c) hb.length (by unfold rounds;omega)
  ⟨rfl,q15,fun _ _=>rfl⟩
  (fun a L' t' ha ⟨hw,p15,q⟩=>by
   subst hw
   have p4:=(q 4 (by omega)).trans q4
   by_cases hlt:a<hb.length
   ·have e0:decide ((a:Int)<(hb.length:Int))=true:=decide_eq_true (by omega)
    have p6:=(q 6 (by omega)).trans q6
    have p8:=(q 8 (by omega)).trans q8
    have ad:∀ s,aAdd s .i64 (a:Int) 1=.val (.int .i64 ((a:Int)+1)) s:=fun s=>aAdd_i64 s _ _ (by omega)
    obtain ⟨b1,p1,c1,z1,x1,x2,x3,x4⟩:=rowInt hB.at_ hlt
    obtain ⟨b2,p2,c2,z2,y1,y2,y3,y4⟩:=rowInt hG.at_ (show a<hs.length by omega)
    have h:=heq a hlt (by omega)
    have e2:decide (hb[a]<0)=decide (hs[a]'(by omega)<0):=by rw [decide_eq_decide];exact h
    obtain ⟨bb,hbb⟩:∃ b,decide (hs[a]'(by omega)<0)=b:=⟨_,rfl⟩
    rw [hbb] at e2
    have e3:∀ s,eqlA .bool true s (.bool bb) (.bool bb)=.val (.bool false) s:=fun s=>by rw [boolEql];cases bb<;>rfl
    refine .inl ⟨hlt,_,t',by
     simp (config:={ maxSteps:=2000000 }) (disch:=first|omega|(with_unfolding_all exact rfl)|(simp only[new_n,put_n,new_m];omega)|(refine put_m_le ?_;simp only[new_m];omega)) only [K5l1,K5r22,K5r23,K5r25,Abs.W,reduceIte,Nat.reduceEqDiff,Env.find_set,p4,p6,p8,p15,lB,kG,ixM,gM,nM,x2,x3,x4,y2,y3,y4,e0,e2,hbb,e3,kEqlB,ad]
     rfl,rfl,?_,fun c hc=>?_⟩
    ·simp only [Env.find_set,reduceIte,Nat.reduceEqDiff];rfl
    ·simp only [Env.find_set]
     repeat rw [if_neg (by omega)]
     exact q c hc
   ·obtain rfl:a=hb.length:=by omega
    have e0:decide ((hb.length:Int)<(hb.length:Int))=false:=by simp
    refine .inr ⟨.exit 4,L'.set 105 (.bool false),t',by simp,?_,rfl,rfl,fun c hc=>?_⟩
    ·simp (disch:=first|omega|(with_unfolding_all exact rfl)|(simp only[new_n,put_n,new_m];omega)|(refine put_m_le ?_;simp only[new_m];omega)) only [K5l1,K5r22,Abs.W,reduceIte,Nat.reduceEqDiff,Env.find_set,p4,p15,lB,e0]
    ·simp only [Env.find_set]
     rw [if_neg (by omega)]
     exact q c hc)
 exact ⟨L1,rfl,hq⟩
end Go.Proofs.Ythbhjgbpjlnbcaa.walk
set_option maxRecDepth 10000
namespace Go.Proofs.Ythbhjgbpjlnbcaa.walk
open Go.Abs Go.Proofs.Ythbhjgbpjlnbcaa.code
theorem take_mem {M:List (List Int)} {i:Nat} (h:i<M.length) (x:List Int):decide (x ∈ M.take (i+1))=(decide (x ∈ M.take i) || decide (M[i]=x)):=by
 rw [take_snoc h,Bool.eq_iff_iff,Bool.or_eq_true,decide_eq_true_eq,decide_eq_true_eq,decide_eq_true_eq,List.mem_append,List.mem_singleton]
 exact ⟨fun h=>h.imp id Eq.symm,fun h=>h.imp id Eq.symm⟩
theorem best_round (N:Nat) (hN:17≤N) (cx:Ctx) {w t:St} {p3 z3 bM i kk:Nat} {l:Letting} {vS vA vB vM:AV} {M:List (List Int)} {no na nb nM:Nat→Prop} {hb:List Int} {L:Env} (ok:l.Ok) (hL:LetAt no na w.h w.n l vS vA) (g3:w.h.get p3=some (.cells [vS,vA] z3)) (hp:p3<w.n) (hB:Sl nb w.h w.n 1 (intRows hb) vB) (hbl:hb.length=l.stalls.length) (I:(mktOf l).Inv (holdF hb) []) (hM:TabI w.h w.n bM nM M vM) (hV:∀ g ∈ M,ValidH l g) (hMl:M.length≤1000)
  (hi:i<M.length) (same:∀ c,c<w.n→t.h.get c=w.h.get c) (jn:w.n≤t.n) (jle:t.n≤w.n+kk) (jml:t.m≤far) (hs:w.n+kk+5000000≤far)
  (q3:L.find 3=.ptr p3 0) (q4:L.find 4=vB) (q6:L.find 6=vM) (q7:L.find 7=.bool (decide (hb ∈ M.take i))) (q8:L.find 8=.int .i64 (i:Nat)) :
  ∃ L1 t1,K5l2 (awd N) cx L [] t=.done .norm L1 [] t1∧(∀ c,c<w.n→t1.h.get c=w.h.get c)∧w.n≤t1.n∧t1.n≤w.n+(kk+300000)∧t1.m≤far∧L1.find 7=.bool (decide (hb ∈ M.take (i+1)))∧L1.find 8=.int .i64 (i+1:Nat)∧∀ c,c<7→L1.find c=L.find c:=by
 have hf:far=1000000000:=rfl
 have knE:∀ args s,awd N (.fn 20) args s=call Try.prog X N (.fn 20) args s:=fun _ _=>rfl
 have knS:∀ args s,awd N (.fn 17) args s=call Try.prog X N (.fn 17) args s:=fun _ _=>rfl
 have k1:=ok.k1
 have hbM:bM<w.n:=by obtain ⟨_,_,_,_,_,h3,_⟩:=hM;exact h3
 have hMt:TabI t.h t.n bM (fun x=>nM x∧x<w.n) M vM:=by
  obtain ⟨vs,e,sz,h1,h2,h3,h4,h5,h6,h7,h8⟩:=hM
  exact ⟨vs,e,sz,h1,h2,by omega,h4,(same bM h3).trans h5,h6,h7,fun j j1 j2=>(h8 j j1 j2).move (fun c hc hl=>⟨same c hc,hl.1,hl.2,hc⟩) jn⟩
 have kM:=hM.okA
 have lM:=hM.len
 obtain ⟨vG,pM,cM,zM,G1,G2,G3,G4⟩:=hMt.get hi
 have Vg:=hV M[i] (List.getElem_mem hi)
 have etk:=take_mem hi hb
 have hLt:=hL.grow (h':=t.h) (n':=t.n) same jn
 have t3:=(same p3 hp).trans g3
 have kS:=hLt.okS
 have kA:=hLt.okV
 have kG:=G1.okA
 have e0:decide ((i:Int)<(M.length:Int))=true:=decide_eq_true (by omega)
 have ad:∀ s,aAdd s .i64 (i:Int) 1=.val (.int .i64 ((i:Int)+1)) s:=fun s=>aAdd_i64 s _ _ (by omega)
 have ex0:∀ (a b:AV) (s:St),extA 0 s (.tup [a,b])=.val a s:=fun _ _ _=>rfl
 have ex1:∀ (a b:AV) (s:St),extA 1 s (.tup [a,b])=.val b s:=fun _ _ _=>rfl
 have okt:∀ (a b:AV) (s:St),okA (.val (.tup [a,b]) s)=.val (.tup [a,b]) s:=fun _ _ _=>rfl
 have z0:decide ((0:Int)=0)=true:=rfl
 simp (disch:=first|omega|(with_unfolding_all exact rfl)|(simp only[new_n,put_n,new_m];omega)|(refine put_m_le ?_;simp only[new_m];omega)) only [K5l2,K5r8,K5r9,Abs.W,reduceIte,Nat.reduceEqDiff,Nat.reduceSub,Env.find_set,q3,q6,q8,t3,lM,e0,G2,G3,G4,kG,knE]
 generalize hc:call _ _ _ (.fn 20) _ _=rc
 obtain ⟨v8,b8,t1,rfl,s1,i8,hb8⟩:=envies_ex hc (by omega) ok Vg hLt G1 (by omega)
 have s1n:=s1.n
 have s1l:=s1.le
 have s1m:=s1.m
 have k8:=i8.okA
 have l8:∀ s,lenSlA s v8=.val (.int .i64 ((envP l M[i] l.appls.length).length:Int)) s:=fun s=>by
  have:=i8.rows.at_.len s
  rwa [List.length_map] at this
 have t1w:∀ c,c<w.n→t1.h.get c=w.h.get c:=fun c hc=>(s1.same c (by omega)).trans (same c hc)
 by_cases he:envP l M[i] l.appls.length=[]
 ·rw [he] at l8
  have e1:decide ((0:Int)<(([]:List (Nat × Nat)).length:Int))=false:=rfl
  obtain ⟨hF,hH⟩:=best_facts ok I Vg he
  have G5:Sl (fun x=>x≠bM∧nM x∧x<w.n) t1.h t1.n 1 (intRows M[i]) vG:=G1.grow s1.same (by omega)
  have hB1:=hB.grow (h':=t1.h) (n':=t1.n) t1w (by omega)
  have hL1:=hL.grow (h':=t1.h) (n':=t1.n) t1w (by omega)
  have g31:=(t1w p3 hp).trans g3
  have gM1:=(s1.same bM (by omega)).trans G3
  have so:=same_ok N (by omega) M[i] hb vG vB t1 G5.at_ hB1.at_ (by rw [Vg.len];omega) (by omega)
  have kB:=hB.okA
  have u3:=fun cl L s=>congrFun (congrFun (congrFun K5r13s3.eq_1 cl) L) s
  have u4:=fun cl L s=>congrFun (congrFun (congrFun K5r13s4.eq_1 cl) L) s
  have u5:=fun cl L s=>congrFun (congrFun (congrFun K5r13s5.eq_1 cl) L) s
  have u6:=fun cl L s=>congrFun (congrFun (congrFun K5r13s6.eq_1 cl) L) s
  have u7:=fun cl L s=>congrFun (congrFun (congrFun K5r13s7.eq_1 cl) L) s
  have u8:=fun cl L s=>congrFun (congrFun (congrFun K5r13s8.eq_1 cl) L) s
  have hfound:∀ (Lx:Env) (rr:ORes),K5r13 (awd N) Lx t1=rr→Lx.find 4=vB→Lx.find 6=vM→Lx.find 7=.bool (decide (hb ∈ M.take i))→Lx.find 8=.int .i64 (i:Nat)→∃ Mx,rr=.ok Mx t1∧Mx.find 7=.bool (decide (hb ∈ M.take (i+1))):=fun Lx rr hrr f4 f6 f7 f8=>by
   rw [etk,← hrr]
   cases hd:decide (hb ∈ M.take i) with
   | true =>
    rw [hd] at f7
    refine ⟨_,by
     simp (disch:=first|omega|(with_unfolding_all exact rfl)|(simp only[new_n,put_n,new_m];omega)|(refine put_m_le ?_;simp only[new_m];omega)) only [K5r13,u3,u4,u5,u6,u7,u8,Abs.W,reduceIte,Nat.reduceEqDiff,f7]
     rfl,?_⟩
    simp only [find_cons,reduceIte,Nat.reduceEqDiff];rfl
   | false =>
    rw [hd] at f7
    refine ⟨_,by
     simp (disch:=first|omega|(with_unfolding_all exact rfl)|(simp only[new_n,put_n,new_m];omega)|(refine put_m_le ?_;simp only[new_m];omega)) only [K5r13,u3,u4,u5,u6,u7,u8,Abs.W,reduceIte,Nat.reduceEqDiff,f4,f6,f7,f8,G2,gM1,G4,kG,knS,so]
     rfl,?_⟩
    simp only [find_cons,reduceIte,Nat.reduceEqDiff,Bool.false_or]
  have z00:((([]:List (Nat × Nat)).length:Nat):Int)=0:=rfl
  have e1':decide ((0:Int)<((0:Nat):Int))=false:=rfl
  simp (disch:=first|omega|(with_unfolding_all exact rfl)|(simp only[new_n,put_n,new_m];omega)|(refine put_m_le ?_;simp only[new_m];omega)) only [K5r10,K5r12,Abs.W,reduceIte,Nat.reduceEqDiff,decide_true,Env.find_set,ex0,ex1,l8,e1']
  generalize hr13:K5r13 _ _ _=rr
  obtain ⟨Mx,rfl,hx7⟩:=hfound _ _ hr13 (by simp only [Env.find_set,q4,reduceIte,Nat.reduceEqDiff]) (by simp only [Env.find_set,q6,reduceIte,Nat.reduceEqDiff]) (by simp only [Env.find_set,q7,reduceIte,Nat.reduceEqDiff]) (by simp only [Env.find_set,q8,reduceIte,Nat.reduceEqDiff])
  clear hr13
  simp (disch:=first|omega|(with_unfolding_all exact rfl)|(simp only[new_n,put_n,new_m];omega)|(refine put_m_le ?_;simp only[new_m];omega)) only [K5r14,Abs.W,reduceIte,Nat.reduceEqDiff,kLoop_def,Env.find_set,hx7]
  generalize hlp:loopN _ rounds _ _ _ _ _=rl
  obtain ⟨L3,rfl,h3⟩:=best_loop0 N (by omega) hlp ok hL1 g31 hB1 G5 kM G2 gM1 G4 (by omega) (by rw [Vg.len];exact k1) hF (by omega) (by omega)
   (by simp only [Env.find_set,q3,reduceIte,Nat.reduceEqDiff]) (by simp only [Env.find_set,q4,reduceIte,Nat.reduceEqDiff]) (by simp only [Env.find_set,q6,reduceIte,Nat.reduceEqDiff]) (by simp only [Env.find_set,q8,reduceIte,Nat.reduceEqDiff]) (by simp only [Env.find_set,reduceIte,Nat.reduceEqDiff];rfl)
  simp (disch:=first|omega|(with_unfolding_all exact rfl)|(simp only[new_n,put_n,new_m];omega)|(refine put_m_le ?_;simp only[new_m];omega)) only [K5r21,Abs.W,reduceIte,kLoop_def]
  generalize hlp:loopN _ rounds _ _ _ _ _=rl
  obtain ⟨L4,rfl,h4⟩:=best_loop1 N hlp hB1 G5 kM G2 gM1 G4 (by omega) (by rw [Vg.len,hbl]) (fun s h h'=>by
    have:=hH s (by omega)
    rw [holdF_get h,holdF_get h'] at this
    have a1:hb[s]<0↔hb[s] = -1:=by
     rcases I.form s with q | ⟨c,q⟩
     ·rw [holdF_get h] at q;omega
     ·rw [holdF_get h] at q;omega
    have a2:M[i][s]<0↔M[i][s] = -1:=by
     rcases Vg.can s h' with q | ⟨c,q,_⟩<;>omega
    rw [a1,a2];exact this) (by omega) (by omega)
   (by simp only [Env.find_set,h3 4 (by omega),q4,reduceIte,Nat.reduceEqDiff]) (by simp only [Env.find_set,h3 6 (by omega),q6,reduceIte,Nat.reduceEqDiff]) (by simp only [Env.find_set,h3 8 (by omega),q8,reduceIte,Nat.reduceEqDiff]) (by simp only [Env.find_set,reduceIte];rfl)
  have f8:L4.find 8=.int .i64 (i:Nat):=(h4 8 (by omega)).trans (by simp only [Env.find_set,h3 8 (by omega),q8,reduceIte,Nat.reduceEqDiff])
  refine ⟨_,t1,by
   simp (disch:=first|omega|(with_unfolding_all exact rfl)|(simp only[new_n,put_n,new_m];omega)|(refine put_m_le ?_;simp only[new_m];omega)) only [K5r26,Abs.W,reduceIte,Nat.reduceEqDiff,f8,ad]
   rfl,t1w,by omega,by rw [← Nat.add_assoc];omega,by omega,?_,?_,fun c hc=>?_⟩
  ·simp only [Env.find_set,h4 7 (by omega),h3 7 (by omega),reduceIte,Nat.reduceEqDiff]
  ·simp only [Env.find_set,reduceIte];rfl
  ·simp only [Env.find_set]
   repeat rw [if_neg (by omega)]
   rw [h4 c (by omega)]
   simp only [Env.find_set]
   repeat rw [if_neg (by omega)]
   rw [h3 c (by omega)]
   simp only [Env.find_set]
   repeat rw [if_neg (by omega)]
 ·have hpos:0<(envP l M[i] l.appls.length).length:=List.length_pos_iff.mpr he
  have e1:decide ((0:Int)<((envP l M[i] l.appls.length).length:Int))=true:=decide_eq_true (by omega)
  have hne:M[i]≠hb:=fun h=>he (by rw [h];exact envP_nil ok I.stable)
  have etk:decide (hb ∈ M.take (i+1))=decide (hb ∈ M.take i):=by rw [etk,decide_eq_false hne,Bool.or_false]
  refine ⟨_,t1,by
   simp (disch:=first|omega|(with_unfolding_all exact rfl)|(simp only[new_n,put_n,new_m];omega)|(refine put_m_le ?_;simp only[new_m];omega)) only [K5r10,K5r12,K5r26,Abs.W,reduceIte,Nat.reduceEqDiff,decide_true,Env.find_set,ex0,ex1,l8,e1,q8,ad]
   rfl,t1w,by omega,by rw [← Nat.add_assoc];omega,by omega,?_,?_,fun c hc=>?_⟩
  ·rw [etk]
   simp only [Env.find_set,q7,reduceIte,Nat.reduceEqDiff]
  ·simp only [Env.find_set,reduceIte,Nat.reduceEqDiff];rfl
  ·simp only [Env.find_set]
   repeat rw [if_neg (by omega)]
theorem best_loop (N:Nat) (hN:17≤N) {cx:Ctx} {w:St} {p3 z3 bM:Nat} {l:Letting} {vS vA vB vM:AV} {M:List (List Int)} {no na nb nM:Nat→Prop} {hb:List Int} {L:Env} {r:R} (hr:loopN K5l2 rounds (awd N) cx L [] w=r) (ok:l.Ok) (hL:LetAt no na w.h w.n l vS vA) (g3:w.h.get p3=some (.cells [vS,vA] z3)) (hp:p3<w.n) (hB:Sl nb w.h w.n 1 (intRows hb) vB) (hbl:hb.length=l.stalls.length) (I:(mktOf l).Inv (holdF hb) []) (hM:TabI w.h w.n bM nM M vM) (hV:∀ g ∈ M,ValidH l g) (hMl:M.length≤625) (hm:w.m≤far) (hs:w.n+195000000≤far)
  (q3:L.find 3=.ptr p3 0) (q4:L.find 4=vB) (q6:L.find 6=vM) (q7:L.find 7=.bool false) (q8:L.find 8=.int .i64 (0:Nat)) :
  ∃ L1 t,r=.done (.exit 0) L1 [] t∧L1.find 7=.bool (decide (hb ∈ M)):=by
 have hf:far=1000000000:=rfl
 have kM:=hM.okA
 have lM:=hM.len
 obtain ⟨e,L1,t,rfl,rfl,h1⟩:=loop_of hr (fun i L' t'=>(∀ c,c<w.n→t'.h.get c=w.h.get c)∧w.n≤t'.n∧t'.n≤w.n+300000 * i∧t'.m≤far∧L'.find 7=.bool (decide (hb ∈ M.take i))∧L'.find 8=.int .i64 (i:Nat)∧∀ c,c<7→L'.find c=L.find c) (fun e L' t'=>e=.exit 0∧L'.find 7=.bool (decide (hb ∈ M))) M.length (by unfold rounds;omega)
  ⟨fun _ _=>rfl,Nat.le_refl _,by omega,hm,by rw [q7];simp,q8,fun _ _=>rfl⟩
  (fun i L' t' hi ⟨same,jn,jle,jml,p7,p8,q⟩=>by
   by_cases hlt:i<M.length
   ·obtain ⟨L2,t2,x1,x2,x3,x4,x5,x6,x7,x8⟩:=best_round N hN cx ok hL g3 hp hB hbl I hM hV (by omega) hlt same jn jle jml (by omega) ((q 3 (by omega)).trans q3) ((q 4 (by omega)).trans q4) ((q 6 (by omega)).trans q6) p7 p8
    exact .inl ⟨hlt,L2,t2,x1,x2,x3,by rw [Nat.mul_succ];exact x4,x5,x6,x7,fun c hc=>(x8 c hc).trans (q c hc)⟩
   ·obtain rfl:i=M.length:=by omega
    have e0:decide ((M.length:Int)<(M.length:Int))=false:=by simp
    have p6:=(q 6 (by omega)).trans q6
    rw [List.take_length] at p7
    refine .inr ⟨.exit 0,L'.set 39 (.bool false),t',by simp,?_,rfl,?_⟩
    ·simp (disch:=first|omega|(with_unfolding_all exact rfl)|(simp only[new_n,put_n,new_m];omega)|(refine put_m_le ?_;simp only[new_m];omega)) only [K5l2,K5r8,Abs.W,reduceIte,Nat.reduceEqDiff,Env.find_set,p6,p8,lM,e0]
    ·simp only [Env.find_set,p7,reduceIte,Nat.reduceEqDiff])
 exact ⟨L1,t,rfl,h1⟩
theorem all_few {l:Letting} (hm:l.appls.length≤4) (hk:l.stalls.length≤4):(allL l l.stalls.length []).length≤625∧allSz l.stalls.length≤20000:=by
 refine ⟨Nat.le_trans (allL_len l hm _ _) ?_,?_⟩
 ·have:l.stalls.length=0∨l.stalls.length=1∨l.stalls.length=2∨l.stalls.length=3∨l.stalls.length=4:=by omega
  rcases this with h | h | h | h | h<;>rw [h]<;>decide
 ·have:l.stalls.length=0∨l.stalls.length=1∨l.stalls.length=2∨l.stalls.length=3∨l.stalls.length=4:=by omega
  rcases this with h | h | h | h | h<;>rw [h]<;>decide
noncomputable def besFirst:OpsF:=(oCall (.tmp 18) (.con (.func 12 [] [])) [(.tmp 17),(.con (.int Go.IntKind.i64 4)),(.con (.int Go.IntKind.i64 4))] (oVal (.tmp 3) (kAlloc [.nilslice,.nilslice] (tag 28)) (oVal .none (kStore 2 (.tmp 3) (.tmp 18)) oNil)))
noncomputable def besRest:K:=(kSeq (kRegion K5r2 [4,5]) (kSeq (kSeq (kRegion K5r3 [33]) (kCond (.tmp 33) (kSeq (kRegion K5r4 [2]) kRet) kSkip)) (kSeq (kRegion K5r5 [6]) (kSeq (kRegion K5r6 [7]) (kSeq (kSeq (kRegion K5r7 [8]) (kBlock 0 (kLoop K5l2))) (kSeq (kRegion K5r27 [2]) kRet))))))
theorem bes_body (n:Nat) (hn:20≤n) (cx:Ctx) (s:St) (d:Nat) (hd:Die d s.h) (hdn:d<s.n) (hs:s.n+900000000≤far) (hm:s.m≤far) :
  ∃ M s1 s',besFirst (awd n) (.cons 17 (.ptr d 0) .nil) s=.ok M s1∧∀ kl,kl=[3]→finA Try.prog Try.f5 (besRest (awd n) cx (keepK kl M .nil) [] s1)=.val (.bool true) s':=by
 have hf:far=1000000000:=rfl
 have knB:∀ args s,awd n (.fn 12) args s=call Try.prog X n (.fn 12) args s:=fun _ _=>rfl
 have knD:∀ args s,awd n (.fn 18) args s=call Try.prog X n (.fn 18) args s:=fun _ _=>rfl
 have knE:∀ args s,awd n (.fn 22) args s=call Try.prog X n (.fn 22) args s:=fun _ _=>rfl
 have knA:∀ s,awd n (.fn 14) [] s=.val (.bool true) s:=fun _=>rfl
 unfold besFirst
 simp (disch:=first|omega|(with_unfolding_all exact rfl)|(simp only[new_n,put_n,new_m];omega)|(refine put_m_le ?_;simp only[new_m];omega)) only [Abs.W,reduceIte,knB]
 generalize hc1:call _ _ _ (.fn 12) _ _=r1
 obtain ⟨l,vS,vA,bS,bA,t1,rfl,st1,d1,ok,hk,hmm,own⟩:=LettingOf_ex (k:=4) (m:=4) hc1 (by omega) hd hdn (by omega) (by omega) (by omega)
 have n1:=st1.n
 have k1:=st1.le
 have m1:=st1.mle
 have scB:=own.at_.scal
 have kA:=own.at_.okV
 have kS:=own.at_.okS
 have lS:=own.at_.lenS
 simp (disch:=first|omega|(with_unfolding_all exact rfl)|(simp only[new_n,put_n,new_m];omega)|(refine put_m_le ?_;simp only[new_m];omega)) only [Abs.W,reduceIte,Nat.reduceEqDiff,Nat.reduceAdd,Nat.reduceSub,scB,Nat.zero_add]
 obtain ⟨y,hy⟩:∃ y:St,y=(t1.new (.cells [.nilslice,.nilslice] (tag 28))).put t1.n (.cells [vS,vA] (tag 28)):=⟨_,rfl⟩
 have yn:y.n=t1.n+1:=by rw [hy];rfl
 have ym:y.m≤t1.m:=by rw [hy];simp only [St.put,minN_eq,new_m];omega
 have yg:∀ c,c<t1.n→y.h.get c=t1.h.get c:=fun c hc=>by rw [hy,get_put_ne' _ _ _ _ (by omega),get_new_ne _ _ _ (by omega)]
 have y4:y.h.get t1.n=some (.cells [vS,vA] (tag 28)):=by rw [hy];exact get_put_eq _ _ _ _ rfl (by omega)
 have owny:=own.grow (h':=y.h) (n':=y.n) (fun c h1 _=>yg c h1) (by omega)
 rw [← hy]
 clear hy
 have fin:∀ kl,kl=[3]→∀ M:Env,M.find 3=.ptr t1.n 0→∃ s',finA Try.prog Try.f5 (besRest (awd n) cx (keepK kl M .nil) [] y)=.val (.bool true) s':=fun kl hkl M hM=>by
  subst hkl
  have ex0:∀ (a b:AV) (s:St),extA 0 s (.tup [a,b])=.val a s:=fun _ _ _=>rfl
  have ex1:∀ (a b:AV) (s:St),extA 1 s (.tup [a,b])=.val b s:=fun _ _ _=>rfl
  have okt:∀ (a b:AV) (s:St),okA (.val (.tup [a,b]) s)=.val (.tup [a,b]) s:=fun _ _ _=>rfl
  have z0:decide ((0:Int)=0)=true:=rfl
  have z1:decide ((l.stalls.length:Int)=(l.stalls.length:Int))=true:=by simp
  unfold besRest
  simp (disch:=first|omega|(with_unfolding_all exact rfl)|(simp only[new_n,put_n,new_m];omega)|(refine put_m_le ?_;simp only[new_m];omega)) only [K5r2,Abs.W,reduceIte,Nat.reduceEqDiff,Nat.reduceSub,hM,y4,knD]
  generalize hc3:call _ _ _ (.fn 18) _ _=r3
  obtain ⟨vX,t3,hsX,rfl,s3,SX,hXl,IX⟩:=Let_ex hc3 (by omega) ok owny.at_ (by omega)
  have n3:=s3.n
  have k3:=s3.le
  have m3:=s3.m
  have kX:=SX.okA
  have lX:∀ s,lenSlA s vX=.val (.int .i64 (l.stalls.length:Int)) s:=fun s=>by
   have:=rowLen SX.at_ s
   rw [hXl] at this
   exact this
  have x4:=(s3.same t1.n (by omega)).trans y4
  have own3:=owny.grow (h':=t3.h) (n':=t3.n) (fun c h1 _=>s3.same c h1) (by omega)
  have u4:=fun cl L s=>congrFun (congrFun (congrFun K5r3s4.eq_1 cl) L) s
  have u5:=fun cl L s=>congrFun (congrFun (congrFun K5r3s5.eq_1 cl) L) s
  have u6:=fun cl L s=>congrFun (congrFun (congrFun K5r3s6.eq_1 cl) L) s
  have u7:=fun cl L s=>congrFun (congrFun (congrFun K5r3s7.eq_1 cl) L) s
  have u8:=fun cl L s=>congrFun (congrFun (congrFun K5r3s8.eq_1 cl) L) s
  have u9:=fun cl L s=>congrFun (congrFun (congrFun K5r3s9.eq_1 cl) L) s
  simp (disch:=first|omega|(with_unfolding_all exact rfl)|(simp only[new_n,put_n,new_m];omega)|(refine put_m_le ?_;simp only[new_m];omega)) only [K5r3,u4,u5,u6,u7,u8,u9,K5r5,Abs.W,reduceIte,Nat.reduceEqDiff,decide_true,Nat.reduceSub,ex0,ex1,x4,kS,lX,lS,knE,Nat.zero_add]
  generalize hc5:call _ _ _ (.fn 22) _ _=r5
  obtain ⟨hfew,hasz⟩:=all_few hmm hk
  obtain ⟨bM,vM,t5,rfl,s5,hT,hbM⟩:=all_ex l.stalls.length (f:=[]) (nf:=fun _=>False) hc5 (by omega) ok hmm hk (by simp) own3.at_ (Sl.nil _ _ _ _) (by omega)
  have n5:=s5.n
  have k5:=s5.le
  have m5:=s5.m
  have x5:=(s5.same t1.n (by omega)).trans x4
  have own5:=own3.grow (h':=t5.h) (n':=t5.n) (fun c h1 _=>s5.same c h1) (by omega)
  have SX5:=SX.grow s5.same (by omega:t3.n≤t5.n)
  have kM:=hT.okA
  simp (disch:=first|omega|(with_unfolding_all exact rfl)|(simp only[new_n,put_n,new_m];omega)|(refine put_m_le ?_;simp only[new_m];omega)) only [K5r6,K5r7,Abs.W,reduceIte,Nat.reduceEqDiff,kLoop_def]
  generalize hlp:loopN _ rounds _ _ _ _ _=rl
  obtain ⟨L1,t6,rfl,f7⟩:=best_loop n (by omega) (p3:=t1.n) hlp ok own5.at_ x5 (by omega) SX5 hXl IX hT (allL_valid l l.stalls.length [] (by simp) (part_nil l)) hfew (by omega) (by omega)
   (by simp only [find_cons,reduceIte,Nat.reduceEqDiff]) (by simp only [find_cons,reduceIte,Nat.reduceEqDiff]) (by simp only [find_cons,reduceIte,Nat.reduceEqDiff]) (by simp only [find_cons,reduceIte,Nat.reduceEqDiff]) (by simp only [find_cons,reduceIte,Nat.reduceEqDiff];rfl)
  have hall:=allL_all (Inv_valid ok hXl IX) l.stalls.length [] (by simp) (by simp)
  rw [decide_eq_true hall] at f7
  simp (disch:=first|omega|(with_unfolding_all exact rfl)|(simp only[new_n,put_n,new_m];omega)|(refine put_m_le ?_;simp only[new_m];omega)) only [K5r27,K5r27s3,res5,Abs.W,reduceIte,Nat.reduceEqDiff,Env.find_set,f7,knA]
  exact ⟨_,rfl⟩
 generalize hM0:Env.cons 3 _ _=M0
 have f0:M0.find 3=.ptr t1.n 0:=by rw [← hM0];simp only [find_cons,reduceIte,Nat.reduceEqDiff]
 obtain ⟨s',hs'⟩:=fin [3] rfl M0 f0
 exact ⟨M0,y,s',rfl,fun kl hkl=>by subst hkl;exact hs'⟩
end Go.Proofs.Ythbhjgbpjlnbcaa.walk
