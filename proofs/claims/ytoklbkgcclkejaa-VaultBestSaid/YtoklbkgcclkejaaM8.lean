/- Things that are handed out by several values each, and loops that take them. -/
import Derived.Test.YtoklbkgcclkejaaM1
import Derived.Test.YtoklbkgcclkejaaM7
import Derived.Test.YtoklbkgcclkejaaWalkAll
set_option linter.unusedSimpArgs false
set_option linter.unusedVariables false
set_option maxHeartbeats 16000000
set_option linter.unusedVariables false
set_option maxRecDepth 10000
namespace Go.Abs
structure TakesL {α:Type} (P:Program) (X:FuncId→List Nat) (N l k0 w rm:Nat) (own:Nat→Prop) (ev:α→List AV) (T:List α) (μ:List α→Nat→Prop) (J:List α→Heap→Nat→Prop):Prop where
 mono:∀ p m m',m'≤m→μ p m→μ p m'
 nil:∀ m,μ [] m
 few:k0≤1000000000
 keep:∀ p h h' n n',(∀ b,b<n→h'.get b=h.get b)→n≤n'→J p h n→J p h' n'
 take:∀ p x rest (s:St),p++x::rest=T→J p s.h s.n→l<s.n→s.n+rm≤far→w≤s.m→s.m≤far→μ p s.m→∃ s',Abs.call P X N (.yield l) (ev x) s=.val (.bool true) s'∧J (p++[x]) s'.h s'.n ∧
  (∀ y,y<s.n→y≠l→¬ own y→s'.h.get y=s.h.get y)∧s.n≤s'.n∧s'.n≤s.n+k0∧w≤s'.m∧s'.m≤s.m∧s'.m≤l∧μ (p++[x]) s'.m
def HandsL {α:Type} (P:Program) (X:FuncId→List Nat) (N Z cb:Nat) (H:Heap) (rd:Nat→Prop) (g:FuncId) (cap:List AV) (ev:α→List AV) (T:List α):Prop :=
 ∀ (l k0 w rm:Nat) (own:Nat→Prop) (μ:List α→Nat→Prop) (J:List α→Heap→Nat→Prop) (s:St),TakesL P X N l k0 w rm own ev T μ J→(∀ y,own y→¬ rd y)→¬ rd l→(∀ y,rd y→y<s.n∧s.h.get y=H.get y)→l<s.n→w≤l→s.n+60 * (k0+cb)+rm+1000≤far→J [] s.h s.n→w≤s.m→s.m≤far →
  ∃ s',Abs.call P X Z (.fn g) (.yield l::cap) s=.val (.tup []) s'∧J T s'.h s'.n∧(∀ y,y<s.n→y≠l→¬ own y→s'.h.get y=s.h.get y)∧s.n≤s'.n∧s'.n≤s.n+60 * (k0+cb)∧w≤s'.m∧s'.m≤s.m∧μ T s'.m
theorem handsL_range {α:Type} {P:Program} {X:FuncId→List Nat} {M Z cb:Nat} {H:Heap} {rd:Nat→Prop} {g:FuncId} {cap:List AV} {ev:α→List AV} {T:List α} (hh:HandsL P X (M+1) Z cb H rd g cap ev T) {f:Arg} {ps:List Tmp} {a b:Code} {ka kb:K} {c:Ctx} {L:Env} {s:St} (hc:c.rnd=none) (hf:f.ev L=.func g [] cap) (hps:∀ x,ps.length=(ev x).length) (ha:jY P c.xs c.nt a=some ka) (hb:jY P c.xs c.nt b=some kb)
  (k0 w rm:Nat) (own:Nat→Prop) (μ:List α→Nat→Prop) (μm:∀ p m m',m'≤m→μ p m→μ p m') (μ0:∀ m,μ [] m) (I:List α→Heap→Nat→Prop) (hk0:k0≤1000000000) (hH:∀ y,rd y→y<s.n∧s.h.get y=H.get y) (ho:∀ y,own y→¬ rd y∧y≠s.n∧y≠s.n+1) (hw:w≤s.n) (hwm:w≤s.m) (hm:s.m≤far) (hs:s.n+60 * (k0+cb)+rm+10000≤far)
  (hI0:I [] s.h s.n) (keep:∀ p h h' n n',(∀ y,y<n→y≠s.n+1→h'.get y=h.get y)→s.n≤n→n≤n'→I p h n→I p h' n')
  (round:∀ p x rest (t:St),p++x::rest=T→I p t.h t.n→(∀ y,y<s.n→¬ own y→t.h.get y=s.h.get y)→s.n+2≤t.n→t.n+rm≤far→w≤t.m→t.m≤far→μ p t.m→∃ L1 t1 L2 t2,ka (Abs.call P X M) ⟨c.fn,some (s.n+1),c.nt,c.xs⟩ (yv L ps (ev x)) [] t=.done .norm L1 [] t1∧t1.h.get (s.n+1)=t.h.get (s.n+1)∧kb (Abs.call P X M) ⟨c.fn,some (s.n+1),c.nt,c.xs⟩ L1 [] (t1.put (s.n+1) (.loop { vw c L ps a b s with state:=.busy }))=.done .norm L2 [] t2∧I (p++[x]) t2.h t2.n∧t2.h.get (s.n+1)=some (.loop { vw c L ps a b s with state:=.busy })∧(∀ y,y<t.n→y≠s.n+1→¬ own y→t2.h.get y=t.h.get y)∧t.n≤t2.n∧t2.n≤t.n+k0∧w≤t2.m∧t2.m≤t.m∧μ (p++[x]) t2.m) :
  ∃ s',we f ps a b (Abs.call P X Z) c L [] s=.done .norm L [s.n] s'∧I T s'.h s'.n∧(∀ y,y<s.n→¬ own y→s'.h.get y=s.h.get y)∧s'.h.get s.n=some .dfr∧s.n+2≤s'.n∧s'.n≤s.n+2+60 * (k0+cb)∧w≤s'.m∧s'.m≤s.m∧μ T s'.m:=by
 have hff:far=1000000000:=rfl
 obtain ⟨S0,hS0⟩:∃ S0:St,S0=(s.new .dfr).new (.loop (vw c L ps a b s)):=⟨_,rfl⟩
 have n0:S0.n=s.n+2:=by rw [hS0];rfl
 have m0:S0.m=s.m:=by rw [hS0];rfl
 have g0:∀ y,y<s.n→S0.h.get y=s.h.get y:=fun y hy=>by rw [hS0,zH _ _ _ (by rw [zP];omega),zH _ _ _ (by omega)]
 have gd:S0.h.get s.n=some .dfr:=by rw [hS0,zH _ _ _ (by rw [zP];omega)];exact zL _ _ _ rfl (by omega)
 have gl:S0.h.get (s.n+1)=some (.loop (vw c L ps a b s)):=by rw [hS0];exact zL _ _ _ rfl (by rw [zP];omega)
 obtain ⟨s2,e2,⟨j1,j2,j3,j4,j5⟩,k2,k3,k4,k5,k6,k7⟩:=hh (s.n+1) k0 w rm own μ (fun p h n=>h.get (s.n+1)=some (.loop (vw c L ps a b s))∧I p h n∧(∀ y,y<s.n→¬ own y→h.get y=s.h.get y)∧h.get s.n=some .dfr∧s.n+1<n) S0
  ⟨μm,μ0,hk0,fun p h h' n n' hb hn ⟨j1,j2,j3,j4,j5⟩=>⟨(hb _ (by omega)).trans j1,keep p h h' n n' (fun y hy _=>hb y hy) (by omega) hn j2,fun y hy ho'=>(hb y (by omega)).trans (j3 y hy ho'),(hb _ (by omega)).trans j4,by omega⟩,fun p x rest t ht ⟨j1,j2,j3,j4,j5⟩ hl hfar hwt hmt hμ=>by
   obtain ⟨L1,t1,L2,t2,r1,r2,r3,r4,r5,r6,r7,r8,r9,r10,r11⟩:=round p x rest t ht j2 j3 (by omega) (by omega) hwt hmt hμ
   have hcr:=call_round (P:=P) (X:=X) (n:=M) (l:=s.n+1) (args:=ev x) (r:=vw c L ps a b s) (r1:=vw c L ps a b s) j1 (hps x).symm ha hb r1 (r2.trans j1) rfl r3 r5
   rw [goes_norm,jump_norm] at hcr
   refine ⟨_,hcr,⟨zT _ _ _ _ rfl (by omega),keep (p++[x]) t2.h _ t2.n _ (fun y _ hy=>zM _ _ _ _ hy) (by omega) (Nat.le_refl _) r4,fun y hy ho'=>?_,?_,by rw [zR];omega⟩,fun y hy hyl hyo=>?_,by rw [zR];omega,by rw [zR];omega,?_,?_,?_,?_⟩
   ·rw [zM _ _ _ _ (by omega),r6 y (by omega) (by omega) ho'];exact j3 y hy ho'
   ·rw [zM _ _ _ _ (by omega),r6 s.n (by omega) (by omega) (fun h=>(ho _ h).2.1 rfl)];exact j4
   ·rw [zM _ _ _ _ hyl];exact r6 y hy hyl hyo
   ·simp only [St.put,zU];omega
   ·simp only [St.put,zU];omega
   ·simp only [St.put,zU];omega
   ·exact μm _ _ _ (by simp only [St.put,zU];omega) r11⟩
  (fun y hy=>(ho y hy).1) (fun h=>by have:=(hH _ h).1;omega) (fun y hy=>⟨by have:=(hH y hy).1;omega,(g0 y (hH y hy).1).trans (hH y hy).2⟩) (by omega) (by omega) (by omega) ⟨gl,keep [] s.h S0.h s.n S0.n (fun y hy _=>g0 y hy) (Nat.le_refl _) (by omega) hI0,fun y hy _=>g0 y hy,gd,by omega⟩ (by omega) (by omega)
 have hr:=range_to_end (f:=f) (ps:=ps) (a:=a) (b:=b) (cl:=Abs.call P X Z) (c:=c) (L:=L) (s:=s) (s2:=s2) (v:=.tup []) (r:=vw c L ps a b s) hc (by rw [hf,callV_func];rw [hS0] at e2;exact e2) j1 rfl rfl
 refine ⟨_,hr,keep T s2.h _ s2.n _ (fun y _ hy=>zM _ _ _ _ hy) (by omega) (Nat.le_refl _) j2,fun y hy ho'=>?_,?_,by rw [zR];omega,by rw [zR];omega,?_,?_,μm _ _ _ (by simp only [St.put,zU];omega) k7⟩
 ·rw [zM _ _ _ _ (by omega)];exact j3 y hy ho'
 ·rw [zM _ _ _ _ (by omega)];exact j4
 ·simp only [St.put,zU];omega
 ·simp only [St.put,zU];omega
end Go.Abs
set_option maxRecDepth 10000
namespace Go.Proofs.Ytoklbkgcclkejaa.walk
open Go.Abs Go.Proofs.Ytoklbkgcclkejaa.code
theorem backward_ok (N:Nat) (hN:1≤N) (v:AV) (s:St) (bx:∀ sz s,boxA sz s v=.val (.ptr s.n 0) (s.new (.cells [v] sz))) (hs:s.n+100≤far):call Try.prog X N (.fn 97) [v] s=.val (.func 103 [] [.ptr s.n 0]) (s.new (.cells [v] (tag 25))):=by
 obtain ⟨n,rfl⟩:∃ n,N=n+1:=⟨N - 1,by omega⟩
 have hf:far=1000000000:=rfl
 obtain ⟨w,t,e,st,hv,hh⟩:=wP (n:=n) (args:=[v]) (s:=s) (k:=1) (Q:=fun w h n=>w=.func 103 [] [.ptr s.n 0]∧h=(s.new (.cells [v] (tag 25))).h∧n=s.n+1) Try.func97 rfl (fun u uh un um=>by
  rw [enter97]
  simp (disch:=first|omega|with_unfolding_all exact rfl) only [K97,K97r0,K97r1,res97,Abs.W,reduceIte,Nat.reduceEqDiff,Nat.reduceAdd,Nat.reduceSub,bx,kFuncE,wH]
  refine ⟨_,_,rfl,(Beside.refl u (by omega) um).new _,rfl,by rw [un],?_,?_⟩
  ·show (u.new _).h=(s.new _).h
   unfold St.new
   simp only [uh,un]
  ·show u.n+1=_
   omega)
 rw [e,hv]
 congr 1
 exact St.ext3 hh.1 hh.2 st.m
abbrev evB (O:List (Int × Int)) (i:Nat):List AV:=[.int .i64 (i:Int),.agg (jE (O.getD i (0,0)))]
abbrev vJ (n:Nat):List Nat:=(List.range n).reverse
theorem back_len (n:Nat):(vJ n).length=n:=by simp [vJ]
theorem back_at {n i:Nat} (h:i<(vJ n).length):(vJ n)[i]=n - 1 - i:=by simp [vJ]
theorem back_split {n i:Nat} (h:i<n):(vJ n).take (i+1)=(vJ n).take i++[n - 1 - i]∧(vJ n).take i++(n - 1 - i)::(vJ n).drop (i+1)=vJ n:=by
 have hl:i<(vJ n).length:=by rw [back_len];exact h
 have e:=back_at hl
 refine ⟨by rw [jq hl,e],?_⟩
 conv=>rhs;rw [← List.take_append_drop i (vJ n),List.drop_eq_getElem_cons hl,e]
theorem back1_hands {N p:Nat} {rd:Nat→Prop} {v:AV} {O:List (Int × Int)} {H0:Heap} (gp:H0.get p=some (.cells [v] (tag 25))) (hp:rd p) (kv:∀ t,okA (.val v t)=.val v t) (lv:∀ s,jA s v=.val (.int .i64 (O.length:Int)) s) (hget:∀ i (hi:i<O.length),∃ b o c sz,rd b∧(∀ s,jR 2 s v (.int .i64 (i:Int))=.val (.ptr b o) s)∧H0.get b=some (.cells c sz)∧cut o 2 c=some (jE O[i])) (h24:O.length≤24) :
  HandsL Try.prog X N (N+1) 10 H0 rd 103 [.ptr p 0] (evB O) (vJ O.length):=by
 intro l k0 w rm own μ J s hT ho hrl hH hl hw hs hJ hwm hm
 have hf:far=1000000000:=rfl
 have kf:=hT.few
 have hbl:=back_len O.length
 have hkm:∀ i,i≤24→k0 * i≤k0 * 24:=fun i hi=>Nat.mul_le_mul_left _ hi
 obtain ⟨v',t,mm,e,⟨rfl,a1,a2,a3,a4,a5,a6,a7,a8⟩,hm'⟩:=call_any (n:=N) (args:=[.yield l,.ptr p 0]) (s:=s) (Q:=fun v h n m'=>v=.tup []∧J (vJ O.length) h n∧(∀ y,y<s.n→y≠l→¬ own y→h.get y=s.h.get y)∧s.n≤n∧n≤s.n+k0 * 24∧w≤m'∧m'≤far∧(O.length=0∨m'≤l)∧μ (vJ O.length) m') Try.func103 rfl (fun u uh un um=>by
  have gpu:u.h.get p=some (.cells [v] (tag 25)):=by rw [uh,(hH p hp).2];exact gp
  have aS:∀ s,yl s .i64 (O.length:Int) 1=.val (.int .i64 ((O.length:Int) - 1)) s:=fun s=>yC s _ _ (by omega)
  rw [enter103]
  simp (disch:=first|omega|with_unfolding_all exact rfl) only [K103,K103r0,Abs.W,reduceIte,Nat.reduceEqDiff,Nat.reduceAdd,Nat.reduceSub,gpu,kv,lv,aS,Nat.zero_add]
  generalize hlp:jL _ rounds _ _ _ _ _=rl
  have h0:Bedd u u l w (k0 * 0) own:=⟨fun _ _ _ _=>rfl,Nat.le_refl _,by omega,by omega,by omega⟩
  have hJ0:J ((vJ O.length).take 0) u.h u.n:=by rw [uh,un];exact hJ
  obtain ⟨e,L1,s1,rfl,rfl,hD,hJ1,hz⟩:=jT hlp (fun i L' t'=>L'.find 0=.yield l∧L'.find 1=.ptr p 0∧L'.find 3=.int .i64 ((O.length:Int) - 1 - (i:Int))∧Bedd u t' l w (k0 * i) own∧J ((vJ O.length).take i) t'.h t'.n∧((i=0∨t'.m≤l)∧μ ((vJ O.length).take i) t'.m))
   (fun e L1 t'=>e=.exit 0∧Bedd u t' l w (k0 * 24) own∧J (vJ O.length) t'.h t'.n∧((O.length=0∨t'.m≤l)∧μ (vJ O.length) t'.m)) O.length (by unfold rounds;omega)
   ⟨(by simp only [zI,efs,reduceIte,Nat.reduceEqDiff]),(by simp only [zI,efs,reduceIte,Nat.reduceEqDiff]),(by simp only [zI,efs,reduceIte,Nat.reduceEqDiff];congr 1;omega),h0,hJ0,.inl rfl,hT.nil _⟩
   (fun i L' t' hi ⟨q0,q1,q3,hD,hJi,hz⟩=>by
    have hki:=hkm i (by omega)
    by_cases hlt:i<O.length
    ·obtain ⟨j,hj⟩:∃ j:Nat,j=O.length - 1 - i:=⟨_,rfl⟩
     have hjl:j<O.length:=by omega
     rw [show (O.length:Int) - 1 - (i:Int)=(j:Int) by omega] at q3
     obtain ⟨hsn,hsp⟩:=back_split hlt
     rw [← hj] at hsn hsp
     obtain ⟨b,o,c,sz,hrb,g1,g2,g3⟩:=hget j hjl
     have hms:k0 * (i+1)=k0 * i+k0:=Nat.mul_succ _ _
     have hki2:=hkm (i+1) (by omega)
     have sm:∀ y,rd y→t'.h.get y=H0.get y:=fun y hy=>by
      have h1:=hH y hy
      rw [hD.same y (by omega) (fun e=>hrl (e▸hy)) (fun h=>ho y h hy),uh];exact h1.2
     have gpt:=(sm p hp).trans gp
     have gbt:=(sm b hrb).trans g2
     have e0:decide ((j:Int)<0)=false:=decide_eq_false (by omega)
     have e0':decide (0≤(j:Int))=true:=decide_eq_true (by omega)
     have aj:∀ s,yl s .i64 (j:Int) 1=.val (.int .i64 ((O.length:Int) - 1 - ((i+1:Nat):Int))) s:=fun s=>by rw [yC s _ _ (by omega)];congr 2;omega
     have hdn:=hD.n
     have hdl:=hD.le
     have hdm:=hD.m
     have hdf:=hD.mle
     obtain ⟨s2,e2,k1,k3,k4,k5,k6,k7,k8,k9⟩:=hT.take _ _ _ t' hsp hJi (by omega) (by omega) (by omega) (by omega) hz.2
     have e2':call Try.prog X N (.yield l) [.int .i64 (j:Int),.agg (jE O[j])] t'=.val (.bool true) s2:=by
      have hgd:O.getD j (0,0)=O[j]:=by rw [List.getD_eq_getElem?_getD,List.getElem?_eq_getElem hjl];rfl
      rw [← hgd];exact e2
     have okc:∀ t,okA (.val (.agg (jE O[j])) t)=.val (.agg (jE O[j])) t:=fun _=>rfl
     refine .inl ⟨hlt,?_⟩
     simp (disch:=first|omega|with_unfolding_all exact rfl) only [K103l0,K103r1,K103r2,K103r3,Abs.W,reduceIte,Nat.reduceEqDiff,Nat.reduceAdd,Nat.reduceSub,Nat.zero_add,q0,q1,q3,e0,e0',gpt,kv,g1,gbt,g3,okc,e2',aj]
     rw [hsn]
     refine ⟨_,_,rfl,?_,?_,?_,⟨fun y hy h1 h2=>(k3 y (by omega) h1 h2).trans (hD.same y hy h1 h2),by omega,by omega,by omega,by omega⟩,k1,.inr k8,k9⟩
     ·simp only [efs,q0,reduceIte,Nat.reduceEqDiff]
     ·simp only [efs,q1,reduceIte,Nat.reduceEqDiff]
     ·simp only [efs,reduceIte,Nat.reduceEqDiff]
    ·obtain rfl:i=O.length:=by omega
     rw [show (O.length:Int) - 1 - (O.length:Int) = -1 by omega] at q3
     have e0:decide ((-1:Int)<0)=true:=rfl
     have e0':decide (0≤(-1:Int))=false:=rfl
     have hpl:(vJ O.length).take O.length=vJ O.length:=List.take_of_length_le (by rw [hbl];exact Nat.le_refl _)
     rw [hpl] at hJi hz
     refine .inr ⟨.exit 0,L'.set 8 (.bool false),t',by simp,?_,rfl,⟨hD.same,hD.n,by have:=hD.le;omega,hD.m,hD.mle⟩,hJi,hz⟩
     simp (disch:=first|omega|with_unfolding_all exact rfl) only [K103l0,K103r1,Abs.W,reduceIte,Nat.reduceEqDiff,Nat.reduceAdd,Nat.reduceSub,q3,e0,e0'])
  obtain ⟨d1',d2,d3,d4,d5⟩:=hD
  simp (disch:=first|omega|with_unfolding_all exact rfl) only [res103,Abs.W,reduceIte,Nat.reduceEqDiff,Nat.reduceAdd,Nat.reduceSub,leave_nil]
  refine ⟨_,_,rfl,⟨rfl,hJ1,fun y hy h1 h2=>by rw [d1' y (by omega) h1 h2,uh],by omega,by omega,d4,d5,hz.1,hz.2⟩,fun _ hle=>?_⟩
  rcases hz.1 with h | h
  ·have hb0:vJ O.length=[]:=List.length_eq_zero_iff.mp (by rw [hbl,h])
   exact ⟨by first | rfl | trivial,by rw [hb0];exact hJ,by intros;first | rfl | trivial,Nat.le_refl _,by omega,d4,d5,.inl h,hz.2⟩
  ·omega)
 have hkk:=hkm 24 (Nat.le_refl _)
 refine ⟨t,e,a1,a2,a3,by omega,?_,?_,?_⟩
 ·rcases hm' with ⟨_,hm'⟩ | ⟨_,hm'⟩<;>omega
 ·rcases hm' with ⟨_,hm'⟩ | ⟨_,hm'⟩<;>omega
 ·rcases a7 with h | h
  ·have hb0:vJ O.length=[]:=List.length_eq_zero_iff.mp (by rw [hbl,h])
   rw [hb0];exact hT.nil _
  ·exact hT.mono _ _ _ (by rcases hm' with ⟨h1,hm'⟩ | ⟨h1,hm'⟩<;>omega) a8
end Go.Proofs.Ytoklbkgcclkejaa.walk
set_option maxRecDepth 10000
namespace Go.Proofs.Ytoklbkgcclkejaa.walk
open Go.Abs Go.Proofs.Ytoklbkgcclkejaa.code
noncomputable def HallR.takesB (H:HallR) (l:List PutR) (P:PutR):Bool:=@decide (H.Takes l P) (Classical.propDecidable _)
theorem vE {H:HallR} {l:List PutR} {P:PutR}:H.takesB l P=true↔H.Takes l P:=by
 unfold HallR.takesB
 exact @decide_eq_true_iff _ (Classical.propDecidable _)
def HallR.rent (H:HallR) (k:Nat):Int:=(H.kind k).rent
noncomputable def HallR.topN (H:HallR) (c:Int × Int) (n:Nat):Int × Int:=(List.range n).foldl (fun t k=>if Bt (H.rent k,1) t∧H.takesB [] (jN c k)=true then (H.rent k,1) else t) (0,0)
theorem topN_succ (H:HallR) (c:Int × Int) (n:Nat):H.topN c (n+1)=if Bt (H.rent n,1) (H.topN c n)∧H.takesB [] (jN c n)=true then (H.rent n,1) else H.topN c n:=by
 unfold HallR.topN
 rw [List.range_succ,List.foldl_append,List.foldl_cons,List.foldl_nil]
theorem Jt {H:HallR} (ok:H.Ok) (c:Int × Int):∀ n,n≤H.kinds.length→(0≤(H.topN c n).1∧(H.topN c n).1≤1000000)∧0≤(H.topN c n).2∧(H.topN c n).2≤1
 | 0,_=>⟨⟨Int.le_refl _,by show (0:Int)≤_;omega⟩,Int.le_refl _,by show (0:Int)≤_;omega⟩
 | n+1,hn=>by
  have h1:=Jt ok c n (by omega)
  have h2:=vj ok (show n<H.kinds.length by omega)
  have h3:=h2.r0
  have h4:=h2.r1
  rw [topN_succ]
  split
  ·exact ⟨⟨h3,h4⟩,by show (0:Int)≤1;omega,by show (1:Int)≤1;omega⟩
  ·exact h1
theorem hope_kinds (M:Nat) (hM:6≤M) (cx:Ctx) {t:St} {w0 p rb p2 p7 p8:Nat} {sc:List AV} {H:HallR} {vW vS vB vK:AV} {c:Int × Int} {L:Env} {r:R} (hS:SiteC sc H vW vS vB vK rb) (ok:H.Ok) (hH:HallAt (fun b=>b<w0) t.h t.n H vW vS vB vK) (g:t.h.get p=some (vG sc)) (gr:t.h.get rb=some (.cells (Zc p) 0)) (hp:p<w0) (hrb:rb<w0) (g2:t.h.get p2=some (.cells [.ptr p 0] (tag 78))) (hp2:p2<t.n∧p2≠p8) (g7:t.h.get p7=some (.cells [.int .i64 c.1,.int .i64 c.2] (tag 27))) (h7:p7<t.n∧p7≠p8) (g8:t.h.get p8=some (.cells [.int .i64 0,.int .i64 0] (tag 120))) (h8:w0≤p8∧p8<t.n) (hw0:w0≤t.n) (hc:H.In c) (hs:t.n+10000≤far) (hm:t.m≤far)
  (q2:L.find 2=.ptr p2 0) (q7:L.find 7=.ptr p7 0) (q8:L.find 8=.ptr p8 0) (q24:L.find 24=vK) (q25:L.find 25=.int .i64 (H.kinds.length:Int)) (q26:L.find 26=.int .i64 0) (hr:jL K81b0l0 rounds (call Try.prog X M) cx L [] t=r) :
  ∃ L1 t1,r=.done (.exit 2) L1 [] t1∧(∀ b,b<t.n→b≠p8→t1.h.get b=t.h.get b)∧t.n≤t1.n∧t1.n≤t.n+30∧(∀ k,k≤p8→k≤t.m→k≤t1.m)∧t1.m≤t.m∧t1.h.get p8=some (.cells [.int .i64 (H.topN c H.kinds.length).1,.int .i64 (H.topN c H.kinds.length).2] (tag 120))∧L1.find 2=L.find 2∧L1.find 5=L.find 5∧L1.find 6=L.find 6∧L1.find 8=L.find 8:=by
 have hf:far=1000000000:=rfl
 have hk6:=ok.k1
 have kK:=hH.k.okA
 have w6:=ok.w1
 have w4:=ok.d1
 have u5:=eq3 K81b0r5s5.eq_1
 have u6:=eq3 K81b0r5s6.eq_1
 have u7:=eq3 K81b0r5s7.eq_1
 have u8:=eq3 K81b0r5s8.eq_1
 have u9:=eq3 K81b0r5s9.eq_1
 obtain ⟨e,L1,t1,rfl,rfl,j⟩:=jT hr (fun i L' t'=>L'.find 2=.ptr p2 0∧L'.find 7=.ptr p7 0∧L'.find 8=.ptr p8 0∧L'.find 24=vK∧L'.find 25=.int .i64 (H.kinds.length:Int)∧L'.find 26=.int .i64 (i:Int)∧L'.find 5=L.find 5∧L'.find 6=L.find 6∧(∀ b,b<t.n→b≠p8→t'.h.get b=t.h.get b)∧t.n≤t'.n∧t'.n≤t.n+3 * i∧(∀ k,k≤p8→k≤t.m→k≤t'.m)∧t'.m≤t.m∧t'.h.get p8=some (.cells [.int .i64 (H.topN c i).1,.int .i64 (H.topN c i).2] (tag 120)))
  (fun e L1 t1=>e=.exit 2∧(∀ b,b<t.n→b≠p8→t1.h.get b=t.h.get b)∧t.n≤t1.n∧t1.n≤t.n+30∧(∀ k,k≤p8→k≤t.m→k≤t1.m)∧t1.m≤t.m∧t1.h.get p8=some (.cells [.int .i64 (H.topN c H.kinds.length).1,.int .i64 (H.topN c H.kinds.length).2] (tag 120))∧L1.find 2=L.find 2∧L1.find 5=L.find 5∧L1.find 6=L.find 6∧L1.find 8=L.find 8) H.kinds.length (by unfold rounds;omega)
  ⟨q2,q7,q8,q24,q25,q26,rfl,rfl,fun _ _ _=>rfl,Nat.le_refl _,by omega,fun _ _ h=>h,Nat.le_refl _,g8⟩
  (fun i L' t' hi ⟨l2,l7,l8,l24,l25,l26,l5,l6,tg,tn,tl,tm,tml,tb⟩=>by
   by_cases hlt:i<H.kinds.length
   ·have e0:decide ((i:Int)<(H.kinds.length:Int))=true:=decide_eq_true (by omega)
    have ad:∀ s,jH s .i64 (i:Int) 1=.val (.int .i64 ((i:Int)+1)) s:=fun s=>ze s _ _ (by omega)
    have hbd:=Jt ok c i (by omega)
    have hsu:=topN_succ H c i
    generalize H.topN c i=T at *
    have hHt:HallAt (fun b=>b<w0) t'.h t'.n H vW vS vB vK:=hH.move (fun b h1 h2=>⟨tg b h1 (by omega),h2⟩) tn
    obtain ⟨aw,kb,ko,kc,ksz,⟨kb1,kbw⟩,kb2,kb3,kcut,hAw⟩:=hHt.k.get hlt
    have hki:H.kind i=H.kinds[i]:=by unfold HallR.kind;rw [List.getD_eq_getElem?_getD,List.getElem?_eq_getElem hlt];rfl
    rw [← hki] at kcut hAw
    have hkr:=vj ok hlt
    have hr0:=hkr.r0
    have hr1:=hkr.r1
    have hrent:H.rent i=(H.kind i).rent:=rfl
    generalize H.kind i=Kd at *
    have hsc:scalars (Kd.row aw)=true:=by
     show scalars [aw,.int .i64 Kd.rent,.int .i64 Kd.most]=true
     rw [hAw.scal.2.2];rfl
    have okr:∀ t,okA (.val (.agg (Kd.row aw)) t)=.val (.agg (Kd.row aw)) t:=fun _=>rfl
    have r4:nth (Kd.row aw) 4=.int .i64 Kd.rent:=rfl
    obtain ⟨A,hA⟩:∃ A:St,A=(t'.new (.cells [.int .i64 0,.int .i64 0,.bool false,.nilslice,.int .i64 0,.int .i64 0] (tag 49))).put t'.n (.cells (Kd.row aw) (tag 49)):=⟨_,rfl⟩
    have stA:jX 6 (t'.new (.cells [.int .i64 0,.int .i64 0,.bool false,.nilslice,.int .i64 0,.int .i64 0] (tag 49))) (.agg (Kd.row aw)) (.ptr t'.n 0)=.val .undef A:=by
     rw [hA];exact jr _ 6 _ _ _ _ (zL _ _ _ rfl (by omega)) rfl rfl hsc
    have An:A.n=t'.n+1:=by rw [hA];rfl
    have Am:A.m=min t'.m t'.n:=by rw [hA];simp only [St.put,zU,zN]
    have Ag:∀ b,b<t'.n→A.h.get b=t'.h.get b:=fun b hb=>by rw [hA,zM _ _ _ _ (by omega),zH _ _ _ (by omega)]
    have A10:A.h.get t'.n=some (.cells (Kd.row aw) (tag 49)):=by rw [hA];exact zT _ _ _ _ rfl (by omega)
    clear hA
    obtain ⟨B,hB⟩:∃ B:St,B=(A.new (.cells [.int .i64 0,.int .i64 0] (tag 120))).put A.n (.cells [.int .i64 Kd.rent,.int .i64 1] (tag 120)):=⟨_,rfl⟩
    have stB:jX 2 (A.new (.cells [.int .i64 0,.int .i64 0] (tag 120))) (.agg [.int .i64 Kd.rent,.int .i64 1]) (.ptr A.n 0)=.val .undef B:=by
     rw [hB];exact jr _ 2 _ _ _ _ (zL _ _ _ rfl (by omega)) rfl rfl rfl
    have Bn:B.n=A.n+1:=by rw [hB];rfl
    have Bm:B.m=min A.m A.n:=by rw [hB];simp only [St.put,zU,zN]
    have Bg:∀ b,b<A.n→B.h.get b=A.h.get b:=fun b hb=>by rw [hB,zM _ _ _ _ (by omega),zH _ _ _ (by omega)]
    have B11:B.h.get A.n=some (.cells [.int .i64 Kd.rent,.int .i64 1] (tag 120)):=by rw [hB];exact zT _ _ _ _ rfl (by omega)
    clear hB
    have Bt':∀ b,b<t'.n→B.h.get b=t'.h.get b:=fun b hb=>(Bg b (by omega)).trans (Ag b hb)
    have B8:=(Bt' p8 (by omega)).trans tb
    have B7:=(Bt' p7 (by omega)).trans ((tg p7 h7.1 h7.2).trans g7)
    have B2:=(Bt' p2 (by omega)).trans ((tg p2 hp2.1 hp2.2).trans g2)
    have ebt:=beats_ok M (by omega) (Kd.rent,1) T B (by omega)
    simp only at ebt
    have okW:∀ (a b:Int) t,okA (.val (.agg [.int .i64 a,.int .i64 b]) t)=.val (.agg [.int .i64 a,.int .i64 b]) t:=fun _ _ _=>rfl
    obtain ⟨⟨c0,c1⟩,c2,c3⟩:=hc
    have hPin:(jN c i).In H:=⟨hlt,by show -100≤c.1;omega,by show c.1≤100;omega,by show -100≤c.2;omega,by show c.2≤100;omega⟩
    have hHB:HallAt (fun b=>b<w0) B.h B.n H vW vS vB vK:=hHt.move (fun b h1 h2=>⟨Bt' b h1,h2⟩) (by omega)
    obtain ⟨is,eis,his⟩:=takes_ok M hM hS ok hHB.b hHB.k (puts (l:=[]) (Sl.nil (fun b=>b<w0) B.h B.n 3)) (fun _ h=>by cases h) (fun _ h=>by cases h) (by simp) hPin ((Bt' p (by omega)).trans ((tg p (by omega) (by omega)).trans g)) ((Bt' rb (by omega)).trans ((tg rb (by omega) (by omega)).trans gr)) (by omega) (by omega) (by omega)
    have eis':call Try.prog X M (.fn 54) [.ptr p 0,.nilslice,.agg [.int .i64 c.1,.int .i64 c.2,.int .i64 (i:Int)]] B=.val (.bool is) B:=eis
    have hstep:H.topN c (i+1)=if Bt (Kd.rent,1) T∧is=true then (Kd.rent,1) else T:=by
     rw [hsu,hrent]
     by_cases h:H.Takes [] (jN c i)
     ·rw [vE.mpr h,his.mpr h]
     ·have h1:H.takesB [] (jN c i)=false:=by rw [← Bool.not_eq_true,vE];exact h
      have h2:is=false:=by rw [← Bool.not_eq_true,his];exact h
      rw [h1,h2]
    by_cases hb:Bt (Kd.rent,1) T
    ·have hbt:decide (Bt (Kd.rent,1) T)=true:=decide_eq_true hb
     rw [hbt] at ebt
     cases is with
     | true =>
      rw [if_pos ⟨hb,rfl⟩] at hstep
      have st8:jX 2 B (.agg [.int .i64 Kd.rent,.int .i64 1]) (.ptr p8 0)=.val .undef (B.put p8 (.cells [.int .i64 Kd.rent,.int .i64 1] (tag 120))):=jr _ 2 _ _ _ _ B8 rfl rfl rfl
      refine .inl ⟨hlt,?_⟩
      simp (disch:=first|omega|with_unfolding_all exact rfl) only [K81b0l0,K81b0r2,K81b0r3,K81b0r4,K81b0r5,u5,u6,u7,u8,u9,K81b0r6,K81b0r7,Abs.W,reduceIte,Nat.reduceEqDiff,Nat.reduceAdd,Nat.reduceSub,Nat.zero_add,l2,l7,l8,l24,l25,l26,e0,kK,kb2,kb3,kcut,okr,stA,A10,r4,stB,B11,B8,okW,ebt,B2,B7,eis',st8,ad]
      refine ⟨_,_,rfl,?_,?_,?_,?_,?_,?_,?_,?_,fun b h1 h2=>?_,?_,?_,fun k h1 h2=>?_,?_,?_⟩
      ·simp only [efs,l2,reduceIte,Nat.reduceEqDiff]
      ·simp only [efs,l7,reduceIte,Nat.reduceEqDiff]
      ·simp only [efs,l8,reduceIte,Nat.reduceEqDiff]
      ·simp only [efs,l24,reduceIte,Nat.reduceEqDiff]
      ·simp only [efs,l25,reduceIte,Nat.reduceEqDiff]
      ·simp only [efs,reduceIte,Nat.reduceEqDiff];rfl
      ·simp only [efs,l5,reduceIte,Nat.reduceEqDiff]
      ·simp only [efs,l6,reduceIte,Nat.reduceEqDiff]
      ·rw [zM _ _ _ _ h2,Bt' b (by omega)];exact tg b h1 h2
      ·rw [zR];omega
      ·rw [zR];omega
      ·have:=tm k h1 h2;simp only [St.put,zU];omega
      ·simp only [St.put,zU];omega
      ·rw [zT _ _ _ _ rfl (by omega),hstep]
     | false =>
      rw [if_neg (fun h=>by cases h.2)] at hstep
      refine .inl ⟨hlt,?_⟩
      simp (disch:=first|omega|with_unfolding_all exact rfl) only [K81b0l0,K81b0r2,K81b0r3,K81b0r4,K81b0r5,u5,u6,u7,u8,u9,K81b0r6,K81b0r7,Abs.W,reduceIte,Nat.reduceEqDiff,Nat.reduceAdd,Nat.reduceSub,Nat.zero_add,l2,l7,l8,l24,l25,l26,e0,kK,kb2,kb3,kcut,okr,stA,A10,r4,stB,B11,B8,okW,ebt,B2,B7,eis',ad]
      refine ⟨_,_,rfl,?_,?_,?_,?_,?_,?_,?_,?_,fun b h1 h2=>(Bt' b (by omega)).trans (tg b h1 h2),by omega,by omega,fun k h1 h2=>by have:=tm k h1 h2;omega,by omega,by rw [hstep];exact B8⟩
      ·simp only [efs,l2,reduceIte,Nat.reduceEqDiff]
      ·simp only [efs,l7,reduceIte,Nat.reduceEqDiff]
      ·simp only [efs,l8,reduceIte,Nat.reduceEqDiff]
      ·simp only [efs,l24,reduceIte,Nat.reduceEqDiff]
      ·simp only [efs,l25,reduceIte,Nat.reduceEqDiff]
      ·simp only [efs,reduceIte,Nat.reduceEqDiff];rfl
      ·simp only [efs,l5,reduceIte,Nat.reduceEqDiff]
      ·simp only [efs,l6,reduceIte,Nat.reduceEqDiff]
    ·have hbt:decide (Bt (Kd.rent,1) T)=false:=decide_eq_false hb
     rw [hbt] at ebt
     rw [if_neg (fun h=>hb h.1)] at hstep
     refine .inl ⟨hlt,?_⟩
     simp (disch:=first|omega|with_unfolding_all exact rfl) only [K81b0l0,K81b0r2,K81b0r3,K81b0r4,K81b0r5,u5,u6,u7,u8,u9,K81b0r6,K81b0r7,Abs.W,reduceIte,Nat.reduceEqDiff,Nat.reduceAdd,Nat.reduceSub,Nat.zero_add,l2,l7,l8,l24,l25,l26,e0,kK,kb2,kb3,kcut,okr,stA,A10,r4,stB,B11,B8,okW,ebt,ad]
     refine ⟨_,_,rfl,?_,?_,?_,?_,?_,?_,?_,?_,fun b h1 h2=>(Bt' b (by omega)).trans (tg b h1 h2),by omega,by omega,fun k h1 h2=>by have:=tm k h1 h2;omega,by omega,by rw [hstep];exact B8⟩
     ·simp only [efs,l2,reduceIte,Nat.reduceEqDiff]
     ·simp only [efs,l7,reduceIte,Nat.reduceEqDiff]
     ·simp only [efs,l8,reduceIte,Nat.reduceEqDiff]
     ·simp only [efs,l24,reduceIte,Nat.reduceEqDiff]
     ·simp only [efs,l25,reduceIte,Nat.reduceEqDiff]
     ·simp only [efs,reduceIte,Nat.reduceEqDiff];rfl
     ·simp only [efs,l5,reduceIte,Nat.reduceEqDiff]
     ·simp only [efs,l6,reduceIte,Nat.reduceEqDiff]
   ·obtain rfl:i=H.kinds.length:=by omega
    have e0:decide ((H.kinds.length:Int)<(H.kinds.length:Int))=false:=by simp
    refine .inr ⟨.exit 2,L'.set 27 (.bool false),t',by simp,?_,rfl,tg,tn,by omega,tm,tml,tb,?_,?_,?_,?_⟩
    ·simp (disch:=first|omega|with_unfolding_all exact rfl) only [K81b0l0,K81b0r2,Abs.W,reduceIte,Nat.reduceEqDiff,Nat.reduceAdd,Nat.reduceSub,l25,l26,e0]
    ·simp only [efs,l2,q2,reduceIte,Nat.reduceEqDiff]
    ·simp only [efs,l5,reduceIte,Nat.reduceEqDiff]
    ·simp only [efs,l6,reduceIte,Nat.reduceEqDiff]
    ·simp only [efs,l8,q8,reduceIte,Nat.reduceEqDiff])
 exact ⟨L1,t1,rfl,j⟩
end Go.Proofs.Ytoklbkgcclkejaa.walk
set_option maxRecDepth 10000
namespace Go.Proofs.Ytoklbkgcclkejaa.walk
open Go.Abs Go.Proofs.Ytoklbkgcclkejaa.code
noncomputable def HallR.hopeL (H:HallR) (O:List (Int × Int)):Int × Int:=hopeAt H.kinds.length H.takesB H.rent O
theorem hopeL_cons (H:HallR) (c:Int × Int) (O:List (Int × Int)):H.hopeL (c::O)=wplus (H.hopeL O) (H.topN c H.kinds.length):=rfl
theorem hopeL_bound {H:HallR} (ok:H.Ok):∀ O:List (Int × Int),(0≤(H.hopeL O).1∧(H.hopeL O).1≤1000000 * O.length)∧0≤(H.hopeL O).2∧(H.hopeL O).2≤O.length
 | []=>⟨⟨Int.le_refl _,by show (0:Int)≤_;simp⟩,Int.le_refl _,by show (0:Int)≤_;simp⟩
 | c::O=>by
  have h1:=hopeL_bound ok O
  have h2:=Jt ok c H.kinds.length (Nat.le_refl _)
  rw [hopeL_cons]
  unfold wplus
  simp only [List.length_cons]
  omega
noncomputable def HallR.hopeRow (H:HallR) (O:List (Int × Int)) (i j:Nat):List AV:=wtR (if i≤j then H.hopeL (O.drop j) else (0,0))
noncomputable def HallR.hopeRows (H:HallR) (O:List (Int × Int)) (i:Nat):List (List AV):=(List.range (O.length+1)).map (H.hopeRow O i)
theorem ZB (H:HallR) (O:List (Int × Int)) (i:Nat):(H.hopeRows O i).length=O.length+1:=by unfold HallR.hopeRows;simp
theorem JZ (H:HallR) (O:List (Int × Int)) (i:Nat):∀ r ∈ H.hopeRows O i,r.length=2:=range_wide fun _=>rfl
theorem hopeRows_at (H:HallR) (O:List (Int × Int)) (i:Nat) {j:Nat} (h:j<O.length+1):(H.hopeRows O i)[j]'(by rw [ZB];exact h)=H.hopeRow O i j:=by simp [HallR.hopeRows]
theorem hopeRows_end (H:HallR) (O:List (Int × Int)):H.hopeRows O O.length=List.replicate (O.length+1) [.int .i64 0,.int .i64 0]:=by
 rw [range_rep]
 unfold HallR.hopeRows
 refine List.map_congr_left fun j hj=>?_
 have hj':=List.mem_range.mp hj
 unfold HallR.hopeRow
 by_cases h:O.length≤j
 ·rw [if_pos h,List.drop_of_length_le h];rfl
 ·rw [if_neg h]
theorem hopeRows_set (H:HallR) (O:List (Int × Int)) {i:Nat} (hi:i<O.length):(H.hopeRows O (i+1)).set i (wtR (H.hopeL (O.drop i)))=H.hopeRows O i:=by
 unfold HallR.hopeRows
 rw [range_set]
 refine List.map_congr_left fun j _=>?_
 unfold HallR.hopeRow
 by_cases e:j=i
 ·subst e;rw [if_pos rfl,if_pos (Nat.le_refl _)]
 ·rw [if_neg e]
  by_cases h:i≤j
  ·rw [if_pos h,if_pos (by omega)]
  ·rw [if_neg h,if_neg (by omega)]
theorem hope_ex {N:Nat} {no:Nat→Prop} {sc:List AV} {H:HallR} {vW vS vB vK v:AV} {rb p:Nat} {O:List (Int × Int)} {s:St} {r:ARes} (hr:call Try.prog X N (.fn 81) [.ptr p 0,v] s=r) (hN:9≤N) (hS:SiteC sc H vW vS vB vK rb) (ok:H.Ok) (hH:HallAt no s.h s.n H vW vS vB vK) (g:s.h.get p=some (vG sc)) (gr:s.h.get rb=some (.cells (Zc p) 0)) (hp:p<s.n) (hrb:rb<s.n) (hO:Sl no s.h s.n 2 (O.map jE) v) (hin:∀ c ∈ O,H.In c) (h24:O.length≤24) (hs:s.n+40000≤far) :
  ∃ t hb,r=.val (.slice hb 0 (O.length+1) (O.length+1) false) t∧New s t 8000∧s.n≤hb∧hb<t.n∧t.h.get hb=some (.cells (H.hopeRows O 0).flatten 0):=by
 obtain ⟨M,rfl⟩:∃ M,N=M+3:=⟨N - 3,by omega⟩
 have hf:far=1000000000:=rfl
 obtain ⟨w,t,e,st,hb,rfl,hb1,hb2,hb3⟩:=wP (n:=M+2) (args:=[.ptr p 0,v]) (s:=s) (k:=8000) (Q:=fun w h n=>∃ hb,w=.slice hb 0 (O.length+1) (O.length+1) false∧s.n≤hb∧hb<n∧h.get hb=some (.cells (H.hopeRows O 0).flatten 0)) Try.func81 rfl (fun u uh un um=>by
  rw [← uh,← un] at hH hO
  rw [← uh] at g gr
  rw [← un] at hp hrb hs ⊢
  have kv:=hO.okA
  have lv:=Jw hO
  have hsk:=hS.k
  have kK:=hH.k.okA
  have lK:=hH.k.len
  have bx:∀ sz s,boxA sz s v=.val (.ptr s.n 0) (s.new (.cells [v] sz)):=fun sz s=>by
   rcases hO.is with ⟨_,h⟩ | ⟨_,_,_,_,_,_,_,_,_,h,_⟩<;>rw [h]<;>rfl
  have bxp:∀ sz s,boxA sz s (.ptr p 0)=.val (.ptr s.n 0) (s.new (.cells [.ptr p 0] sz)):=fun _ _=>rfl
  have ad1:∀ s,jH s .i64 (O.length:Int) 1=.val (.int .i64 ((O.length+1:Nat):Int)) s:=fun s=>by rw [ze s _ _ (by omega)];rfl
  have mk:∀ s:St,makeA [.int .i64 0,.int .i64 0] 16 s (.int .i64 ((O.length+1:Nat):Int)) (.int .i64 ((O.length+1:Nat):Int))=.val (.slice s.n 0 (O.length+1) (O.length+1) false) (s.new (.cells (H.hopeRows O O.length).flatten 0)):=fun s=>by rw [hopeRows_end];exact make_rows _ 16 _ s (by omega) (by omega)
  obtain ⟨vh,hvh⟩:∃ vh:AV,vh=.slice (u.n+1) 0 (O.length+1) (O.length+1) false:=⟨_,rfl⟩
  have kh:∀ t,okA (.val vh t)=.val vh t:=fun t=>by rw [hvh];rfl
  obtain ⟨x0,hx0⟩:∃ x:St,x=((u.new (.cells [.ptr p 0] (tag 78))).new (.cells (H.hopeRows O O.length).flatten 0)).new (.cells [.nilslice] (tag 117)):=⟨_,rfl⟩
  have x0n:x0.n=u.n+3:=by rw [hx0];rfl
  have x0m:x0.m=far:=by rw [hx0];exact um
  have x0g:∀ c,c<u.n→x0.h.get c=u.h.get c:=fun c hc=>by rw [hx0,zH _ _ _ (by simp only [zP];omega),zH _ _ _ (by simp only [zP];omega),zH _ _ _ (by omega)]
  have x02:x0.h.get u.n=some (.cells [.ptr p 0] (tag 78)):=by rw [hx0,zH _ _ _ (by simp only [zP];omega),zH _ _ _ (by simp only [zP];omega)];exact zL _ _ _ rfl (by omega)
  have x0h:x0.h.get (u.n+1)=some (.cells (H.hopeRows O O.length).flatten 0):=by rw [hx0,zH _ _ _ (by simp only [zP];omega)];exact zL _ _ _ rfl (by simp only [zP];omega)
  have x05:x0.h.get (u.n+2)=some (.cells [.nilslice] (tag 117)):=by rw [hx0];exact zL _ _ _ rfl (by simp only [zP];omega)
  obtain ⟨x1,hx1⟩:∃ x:St,x=x0.put (u.n+2) (.cells [vh] (tag 117)):=⟨_,rfl⟩
  have stx:jX 1 x0 vh (.ptr (u.n+2) 0)=.val .undef x1:=by
   rw [hx1];exact yQ x05 (by show 0<1;omega) (by rw [hvh];rfl) (by rw [hvh];rfl)
  have x1n:x1.n=u.n+3:=by rw [hx1,zR];exact x0n
  have x1m:x1.m=min far (u.n+2):=by rw [hx1];simp only [St.put,zU,x0m]
  have x1g:∀ c,c≠u.n+2→x1.h.get c=x0.h.get c:=fun c hc=>by rw [hx1,zM _ _ _ _ hc]
  have x15:x1.h.get (u.n+2)=some (.cells [vh] (tag 117)):=by rw [hx1];exact zT _ _ _ _ rfl (by omega)
  have x12:=(x1g u.n (by omega)).trans x02
  have x1h:=(x1g (u.n+1) (by omega)).trans x0h
  have xu:∀ c,c<u.n→x1.h.get c=u.h.get c:=fun c hc=>(x1g c (by omega)).trans (x0g c hc)
  have eba:=backward_ok (M+2) (by omega) v x1 bx (by omega)
  obtain ⟨s0,hs0⟩:∃ s0:St,s0=x1.new (.cells [v] (tag 25)):=⟨_,rfl⟩
  have s0n:s0.n=u.n+4:=by rw [hs0];show x1.n+1=_;omega
  have s0m:s0.m=x1.m:=by rw [hs0];rfl
  have s0g:∀ c,c<x1.n→s0.h.get c=x1.h.get c:=fun c hc=>by rw [hs0,zH _ _ _ (by omega)]
  have s0p:s0.h.get (u.n+3)=some (.cells [v] (tag 25)):=by rw [hs0];exact zL _ _ _ (by omega) (by omega)
  rw [← hs0,x1n] at eba
  rw [enter81]
  simp (disch:=first|omega|(with_unfolding_all exact rfl)|(simp only[zP,zR,zN];omega)|(refine zO ?_;simp only[zN];omega)) only [K81,K81r0,K81r1,Abs.W,reduceIte,Nat.reduceEqDiff,Nat.reduceAdd,Nat.reduceSub,bxp,lv,kv,ad1,kMake_def,mk,zP]
  rw [← hx0,← hvh]
  have stx':storeV 1 x0 vh (u.n+1+1) 0 (x0.h.get (u.n+1+1))=.val .undef x1:=by have h:=stx;rw [store_ptr] at h;exact h
  simp (disch:=first|omega|(with_unfolding_all exact rfl)|(simp only[zP,zR,zN];omega)|(refine zO ?_;simp only[zN];omega)) only [Abs.W,reduceIte,Nat.reduceEqDiff,Nat.reduceAdd,Nat.reduceSub,stx']
  simp (disch:=first|omega|(with_unfolding_all exact rfl)|(simp only[zP,zR,zN];omega)|(refine zO ?_;simp only[zN];omega)) only [K81r2,Abs.W,reduceIte,Nat.reduceEqDiff,Nat.reduceAdd,Nat.reduceSub,kv,eba,wH]
  clear eba hs0 hx1 hx0
  generalize hL0:Env.cons 0 _ _=L0
  have f2:L0.find 2=.ptr u.n 0:=by rw [← hL0];simp only [zI,reduceIte,Nat.reduceEqDiff]
  have f5:L0.find 5=.ptr (u.n+2) 0:=by rw [← hL0];simp only [zI,reduceIte,Nat.reduceEqDiff]
  have f17:L0.find 17=.func 103 [] [.ptr (u.n+3) 0]:=by rw [← hL0];simp only [zI,reduceIte,Nat.reduceEqDiff]
  clear hL0
  have xs:∀ c,c<u.n+3→s0.h.get c=x1.h.get c:=fun c hc=>s0g c (by omega)
  have hO0:Sl (fun c=>c<u.n) s0.h s0.n 2 (O.map jE) v:=hO.move (fun c h1 h2=>⟨(xs c (by omega)).trans (xu c h1),h1⟩) (by omega)
  have hh:=back1_hands (N:=M+1) (p:=u.n+3) (rd:=fun y=>y=u.n+3∨y<u.n) s0p (.inl rfl) kv lv (fun i hi=>by
   obtain ⟨b,o,c,sz,⟨z1,z2⟩,z3,z4,z5⟩:=Jx hO0 hi
   exact ⟨b,o,c,sz,.inr z2,z3,z4,z5⟩) h24
  obtain ⟨s',e1,i1,e3,e4,e5,e6,e7,e8,_⟩:=handsL_range (P:=Try.prog) (X:=X) (M:=M) (Z:=M+2) hh (f:=.tmp 17) (ps:=[18,19]) (c:=⟨81,none,Try.f81.ntmps,X 81⟩) (L:=L0) (s:=s0) rfl (by rw [ev_tmp,f17]) (fun _=>rfl) code81a0 code81b0 60 u.n 20000 (fun y=>y=u.n+1∨s0.n+2≤y) (fun _ _=>True) (fun _ _ _ _ _=>trivial) (fun _=>trivial) (fun pp h _=>h.get (u.n+1)=some (.cells (H.hopeRows O (O.length - pp.length)).flatten 0))
   (by omega) (fun y hy=>⟨by omega,rfl⟩) (fun y hy=>by omega) (by omega) (by omega) (by omega) (by omega) ((xs _ (by omega)).trans x1h) (fun p h h' n n' hb hn0 hn h1=>(hb _ (by omega) (by omega)).trans h1)
   (fun pp x rest t ht i1 hfr htn htf htm htm' _=>by
    have hpl:pp.length<O.length:=by
     have:=congrArg List.length ht
     rw [List.length_append,List.length_cons,back_len] at this
     omega
    have hxe:x=O.length - 1 - pp.length:=by
     have h1:(vJ O.length)[pp.length]'(by rw [back_len];exact hpl)=O.length - 1 - pp.length:=back_at _
     rw [← h1]
     simp only [← ht]
     simp
    have hxl:x<O.length:=by omega
    rw [show O.length - pp.length=x+1 by omega] at i1
    obtain ⟨c,hcd⟩:∃ c,c=O.getD x (0,0):=⟨_,rfl⟩
    have hcx:O[x]=c:=by rw [hcd,List.getD_eq_getElem?_getD,List.getElem?_eq_getElem hxl];rfl
    have hcin:H.In c:=by rw [← hcx];exact hin _ (List.getElem_mem hxl)
    have hdrop:O.drop x=c::O.drop (x+1):=by rw [List.drop_eq_getElem_cons hxl,hcx]
    have hev:evB O x=[.int .i64 (x:Int),.agg [.int .i64 c.1,.int .i64 c.2]]:=by rw [hcd]
    have tg:∀ b,b<u.n+3→b≠u.n+1→t.h.get b=x1.h.get b:=fun b hb hb'=>(hfr b (by omega) (by omega)).trans (xs b hb)
    obtain ⟨y',hy'⟩:∃ y:St,y=(t.new (.cells [.int .i64 0,.int .i64 0] (tag 27))).put t.n (.cells [.int .i64 c.1,.int .i64 c.2] (tag 27)):=⟨_,rfl⟩
    have yn':y'.n=t.n+1:=by rw [hy'];rfl
    have yg':∀ b,b<t.n→y'.h.get b=t.h.get b:=fun b hb=>by rw [hy',zM _ _ _ _ (by omega),zH _ _ _ (by omega)]
    have yt':y'.h.get t.n=some (.cells [.int .i64 c.1,.int .i64 c.2] (tag 27)):=by rw [hy'];exact zT _ _ _ _ rfl (by omega)
    have ym':y'.m=min t.m t.n:=by rw [hy'];simp only [St.put,zU,zN]
    obtain ⟨lo,hlo⟩:∃ o:AObj,o=.loop { vw ⟨81,none,Try.f81.ntmps,X 81⟩ L0 [18,19] (yO Try.f81 0).1 (yO Try.f81 0).2 s0 with state:=.busy }:=⟨_,rfl⟩
    obtain ⟨z,hz⟩:∃ z:St,z=y'.put (s0.n+1) lo:=⟨_,rfl⟩
    have zn:z.n=y'.n:=by rw [hz];rfl
    have zg:∀ b,b≠s0.n+1→z.h.get b=y'.h.get b:=fun b hb=>by rw [hz,zM _ _ _ _ hb]
    have zl:z.h.get (s0.n+1)=some lo:=by rw [hz];exact zT _ _ _ _ rfl (by omega)
    have zm:z.m=min y'.m (s0.n+1):=by rw [hz];simp only [St.put,zU]
    obtain ⟨Z,hZ⟩:∃ Z:St,Z=z.new (.cells [.int .i64 0,.int .i64 0] (tag 120)):=⟨_,rfl⟩
    have Zn:Z.n=z.n+1:=by rw [hZ];rfl
    have Zm:Z.m=z.m:=by rw [hZ];rfl
    have Zg:∀ b,b<z.n→Z.h.get b=z.h.get b:=fun b hb=>by rw [hZ,zH _ _ _ (by omega)]
    have Z8:Z.h.get z.n=some (.cells [.int .i64 0,.int .i64 0] (tag 120)):=by rw [hZ];exact zL _ _ _ rfl (by omega)
    have Zt:∀ b,b<t.n→b≠s0.n+1→Z.h.get b=t.h.get b:=fun b hb hb'=>(Zg b (by omega)).trans ((zg b hb').trans (yg' b hb))
    have Zu:∀ b,b<u.n→Z.h.get b=u.h.get b:=fun b hb=>(Zt b (by omega) (by omega)).trans ((tg b (by omega) (by omega)).trans (xu b hb))
    have Z7:=(Zg t.n (by omega)).trans ((zg t.n (by omega)).trans yt')
    have Z2:=(Zt u.n (by omega) (by omega)).trans ((tg u.n (by omega) (by omega)).trans x12)
    have Z5:=(Zt (u.n+2) (by omega) (by omega)).trans ((tg (u.n+2) (by omega) (by omega)).trans x15)
    have Zh:=(Zt (u.n+1) (by omega) (by omega)).trans i1
    have Zp:=(Zu p hp).trans g
    have hHZ:HallAt (fun b=>b<u.n) Z.h Z.n H vW vS vB vK:=hH.move (fun b h1 h2=>⟨Zu b h1,h1⟩) (by omega)
    have hka:K81a0 (call Try.prog X M) ⟨81,some (s0.n+1),Try.f81.ntmps,X 81⟩ (yv L0 [18,19] (evB O x)) [] t=.done .norm ((((L0.set 18 (.int .i64 (x:Int))).set 19 (.agg [.int .i64 c.1,.int .i64 c.2])).set 6 (.int .i64 (x:Int))).set 7 (.ptr t.n 0)) [] y':=by
     rw [hev,hy',show yv L0 [18,19] [.int .i64 (x:Int),.agg [.int .i64 c.1,.int .i64 c.2]]=(L0.set 18 (.int .i64 (x:Int))).set 19 (.agg [.int .i64 c.1,.int .i64 c.2]) from rfl]
     simp (disch:=first|omega|(with_unfolding_all exact rfl)|(simp only[zP,zR,zN];omega)|(refine zO ?_;simp only[zN];omega)) only [K81a0,K81a0r0,K81a0r1,Abs.W,reduceIte,Nat.reduceEqDiff,Nat.reduceAdd,Nat.reduceSub,Nat.reduceEqDiff]
    generalize hL1:(((L0.set 18 (.int .i64 (x:Int))).set 19 (.agg [.int .i64 c.1,.int .i64 c.2])).set 6 (.int .i64 (x:Int))).set 7 (.ptr t.n 0)=L1 at hka
    have m2:L1.find 2=.ptr u.n 0:=by rw [← hL1];simp only [efs,f2,reduceIte,Nat.reduceEqDiff]
    have m5:L1.find 5=.ptr (u.n+2) 0:=by rw [← hL1];simp only [efs,f5,reduceIte,Nat.reduceEqDiff]
    have m6:L1.find 6=.int .i64 (x:Int):=by rw [← hL1];simp only [efs,reduceIte,Nat.reduceEqDiff]
    have m7:L1.find 7=.ptr t.n 0:=by rw [← hL1];simp only [efs,reduceIte,Nat.reduceEqDiff]
    clear hL1
    have kb:∃ L2 t2,K81b0 (call Try.prog X M) ⟨81,some (s0.n+1),Try.f81.ntmps,X 81⟩ L1 [] z=.done .norm L2 [] t2∧t2.h.get (u.n+1)=some (.cells (H.hopeRows O x).flatten 0)∧(∀ b,b<Z.n→b≠u.n+1→b≠z.n→t2.h.get b=Z.h.get b)∧Z.n≤t2.n∧t2.n≤Z.n+30∧u.n≤t2.m∧t2.m≤Z.m:=by
     simp (disch:=first|omega|(with_unfolding_all exact rfl)|(simp only[zP,zR,zN];omega)|(refine zO ?_;simp only[zN];omega)) only [K81b0,K81b0r0,Abs.W,reduceIte,Nat.reduceEqDiff,Nat.reduceAdd,Nat.reduceSub]
     rw [← hZ]
     simp (disch:=first|omega|(with_unfolding_all exact rfl)|(simp only[zP,zR,zN];omega)|(refine zO ?_;simp only[zN];omega)) only [K81b0r1,Abs.W,reduceIte,Nat.reduceEqDiff,Nat.reduceAdd,Nat.reduceSub,m2,Z2,Zp,hsk,kK,lK,Nat.zero_add]
     generalize hlp:jL _ rounds _ _ _ _ _=rl
     obtain ⟨L3,t3,rfl,j1,j2,j3,j4,j5,j6,j7,j8,j9,j10⟩:=hope_kinds M (by omega) _ (w0:=u.n) (p:=p) (rb:=rb) (p2:=u.n) (p7:=t.n) (p8:=z.n) (c:=c) hS ok hHZ Zp ((Zu rb hrb).trans gr) hp hrb Z2 ⟨by omega,by omega⟩ Z7 ⟨by omega,by omega⟩ Z8 ⟨by omega,by omega⟩ (by omega) hcin (by omega) (by omega) (by simp only [efs,m2,reduceIte,Nat.reduceEqDiff]) (by simp only [efs,m7,reduceIte,Nat.reduceEqDiff]) (by simp only [efs,reduceIte,Nat.reduceEqDiff]) (by simp only [efs,reduceIte,Nat.reduceEqDiff]) (by simp only [efs,reduceIte,Nat.reduceEqDiff]) (by simp only [efs,reduceIte,Nat.reduceEqDiff]) hlp
     have n5:L3.find 5=.ptr (u.n+2) 0:=by rw [j8];simp only [efs,m5,reduceIte,Nat.reduceEqDiff]
     have n6:L3.find 6=.int .i64 (x:Int):=by rw [j9];simp only [efs,m6,reduceIte,Nat.reduceEqDiff]
     have n8:L3.find 8=.ptr z.n 0:=by rw [j10];simp only [efs,reduceIte,Nat.reduceEqDiff]
     have t5:=(j1 (u.n+2) (by omega) (by omega)).trans Z5
     have th:=(j1 (u.n+1) (by omega) (by omega)).trans Zh
     have ax:∀ s,jH s .i64 (x:Int) 1=.val (.int .i64 ((x+1:Nat):Int)) s:=fun s=>by rw [ze s _ _ (by omega)];rfl
     have i1':∀ s,jR 2 s vh (.int .i64 ((x+1:Nat):Int))=.val (.ptr (u.n+1) ((x+1) * 2)) s:=fun s=>by rw [hvh,jj _ _ _ _ _ _ _ _ (by omega),Nat.zero_add]
     have i2':∀ s,jR 2 s vh (.int .i64 (x:Int))=.val (.ptr (u.n+1) (x * 2)) s:=fun s=>by rw [hvh,jj _ _ _ _ _ _ _ _ (by omega),Nat.zero_add]
     have hcut:cut ((x+1) * 2) 2 (H.hopeRows O (x+1)).flatten=some [.int .i64 (H.hopeL (O.drop (x+1))).1,.int .i64 (H.hopeL (O.drop (x+1))).2]:=by
      rw [yI (JZ H O _) (by rw [ZB];omega),hopeRows_at H O _ (by omega)]
      unfold HallR.hopeRow;rw [if_pos (Nat.le_refl _)]
     have hb1:=hopeL_bound ok (O.drop (x+1))
     have hb2:=Jt ok c H.kinds.length (Nat.le_refl _)
     have hdl:(O.drop (x+1)).length≤24:=by rw [List.length_drop];omega
     have epl:=plus_ok M (by omega) (H.hopeL (O.drop (x+1))) (H.topN c H.kinds.length) ⟨t3.h,t3.n,far⟩ ⟨⟨hb1.1.1,by omega⟩,hb1.2.1,by omega⟩ ⟨⟨hb2.1.1,by omega⟩,hb2.2.1,by omega⟩ (by show t3.n+10≤far;omega)
     have hts:=fun v=>jy (v:=v) (s:=t3) (h:=(by omega:t3.n≤far)) (hm:=(by omega:t3.m≤far))
     have okW:∀ (a b:Int) t,okA (.val (.agg [.int .i64 a,.int .i64 b]) t)=.val (.agg [.int .i64 a,.int .i64 b]) t:=fun _ _ _=>rfl
     have stF:=store_row (R:=[.int .i64 ((H.hopeL (O.drop (x+1))).1+(H.topN c H.kinds.length).1),.int .i64 ((H.hopeL (O.drop (x+1))).2+(H.topN c H.kinds.length).2)]) (j:=x) th (JZ H O _) (by rw [ZB];omega) rfl rfl
     rw [show [AV.int .i64 ((H.hopeL (O.drop (x+1))).1+(H.topN c H.kinds.length).1),AV.int .i64 ((H.hopeL (O.drop (x+1))).2+(H.topN c H.kinds.length).2)]=wtR (H.hopeL (O.drop x)) from by rw [hdrop,hopeL_cons];rfl,hopeRows_set H O hxl,show wtR (H.hopeL (O.drop x))=[AV.int .i64 ((H.hopeL (O.drop (x+1))).1+(H.topN c H.kinds.length).1),AV.int .i64 ((H.hopeL (O.drop (x+1))).2+(H.topN c H.kinds.length).2)] from by rw [hdrop,hopeL_cons];rfl] at stF
     simp (disch:=first|omega|(with_unfolding_all exact rfl)|(simp only[zP,zR,zN];omega)|(refine zO ?_;simp only[zN];omega)) only [K81b0r8,Abs.W,reduceIte,Nat.reduceEqDiff,Nat.reduceAdd,Nat.reduceSub,n5,n6,n8,t5,kh,ax,i1',i2',th,hcut,okW,j6,epl,hts,stF,Nat.zero_add]
     refine ⟨_,_,rfl,zT _ _ _ _ rfl (by omega),fun b h1 h2 h3=>?_,by rw [zR];omega,by rw [zR];omega,?_,?_⟩
     ·rw [zM _ _ _ _ h2];exact j1 b h1 h3
     ·have:=j4 u.n (by omega) (by omega);simp only [St.put,zU];omega
     ·simp only [St.put,zU];omega
    obtain ⟨L2,t2,r1,r2,r3,r4,r5,r6,r7⟩:=kb
    refine ⟨L1,y',L2,t2,hka,yg' _ (by omega),by rw [← hlo,← hz];exact r1,?_,?_,fun b h1 h2 h3=>?_,by omega,by omega,r6,by omega,trivial⟩
    ·rw [List.length_append,List.length_singleton,show O.length - (pp.length+1)=x by omega];exact r2
    ·rw [← hlo,r3 _ (by omega) (by omega) (by omega),Zg _ (by omega)];exact zl
    ·rw [r3 b (by omega) (by omega) (by omega)];exact Zt b h1 h2)
  rw [e1]
  rw [back_len,Nat.sub_self] at i1
  have su:∀ c,c<u.n→s'.h.get c=u.h.get c:=fun c hc=>(e3 c (by omega) (by omega)).trans ((xs c (by omega)).trans (xu c hc))
  have g5:=(e3 (u.n+2) (by omega) (by omega)).trans ((xs _ (by omega)).trans x15)
  simp (disch:=first|omega|(with_unfolding_all exact rfl)|(simp only[zP,zR,zN];omega)|(refine zO ?_;simp only[zN];omega)) only [K81r3,Abs.W,reduceIte,Nat.reduceEqDiff,Nat.reduceAdd,Nat.reduceSub,f5,g5,kh,Nat.zero_add]
  rw [leave_dfr _ _ _ _ _ e4,res81]
  simp (disch:=first|omega|(with_unfolding_all exact rfl)|(simp only[zP,zR,zN];omega)|(refine zO ?_;simp only[zN];omega)) only [Abs.W,reduceIte,Nat.reduceEqDiff,Nat.reduceAdd,Nat.reduceSub,kh]
  refine ⟨_,_,rfl,⟨fun c hc=>?_,?_,?_,?_,?_⟩,by rw [hvh];rfl,u.n+1,hvh,by omega,?_,?_⟩
  ·rw [vV _ _ _ (by omega)];exact su c hc
  ·simp only [St.kill];omega
  ·simp only [St.kill];omega
  ·simp only [St.kill,zU];omega
  ·simp only [St.kill,zU];omega
  ·simp only [St.kill];omega
  ·rw [vV _ _ _ (by omega)];exact i1)
 exact ⟨t,hb,hr.symm.trans e,st,hb1,hb2,hb3⟩
end Go.Proofs.Ytoklbkgcclkejaa.walk
namespace Go.Proofs.Ytoklbkgcclkejaa.walk
open Go.Abs Go.Proofs.Ytoklbkgcclkejaa.code
theorem kind_hi {H:HallR} (ok:H.Ok) (k:Nat):0≤(H.kind k).hi:=by
 by_cases hk:k<H.kinds.length
 ·have h:=vj ok hk
  have:=h.l0
  have:=h.l1
  omega
 ·unfold HallR.kind
  rw [List.getD_eq_getElem?_getD,List.getElem?_eq_none (by omega)]
  exact Int.le_refl _
theorem highs_pos {H:HallR} (ok:H.Ok):∀ (l:List PutR) (b:Nat),0≤tot (H.highs l) b
 | [],_=>Int.le_refl _
 | p::l,b=>by
  have h1:=highs_pos ok l b
  have h2:=kind_hi ok p.kind
  show 0≤(if H.bay p=b then (H.kind p.kind).hi else 0)+tot (H.highs l) b
  split<;>omega
theorem takes_nil {H:HallR} (ok:H.Ok) {l:List PutR} {P:PutR} (h:H.Takes l P):H.Takes [] P:=by
 obtain ⟨h1,h2,h3⟩:=h
 refine ⟨gv.mpr ⟨(gv.mp h1).1,fun _ h=>(by cases h)⟩,?_,?_⟩
 ·show ((0:Nat):Int)<_
  omega
 ·have:=highs_pos ok l (H.bay P)
  show (H.kind P.kind).hi+0≤_
  omega
def HallR.worth (H:HallR) (l:List PutR):Int × Int:=(tot (H.rents l) 0,(l.length:Int))
theorem worth_put (H:HallR) (l:List PutR) (p:PutR):H.worth (l++[p])=wplus (H.worth l) (H.rent p.kind,1):=by
 unfold HallR.worth wplus
 rw [Prod.mk.injEq]
 refine ⟨?_,by rw [List.length_append];rfl⟩
 unfold HallR.rents
 rw [List.map_append]
 show tot (_++[(0,(H.kind p.kind).rent)]) 0=_
 rw [ZY];rfl
structure HallR.Good (H:HallR) (l:List PutR):Prop where
 v:H.Valid l
 s:H.verdict l=1
 i:∀ q ∈ l,q.In H
theorem good_nil {H:HallR} (ok:H.Ok):H.Good [] :=
 ⟨⟨fun _ h=>(by cases h),List.Pairwise.nil,fun k hk=>(vj ok hk).m0⟩,(sure_iff ok fun _ h=>(by cases h)).mpr fun b hb=>by
  have hbl:=ok.bl
  have:=ok.b (H.bears[b]'(by omega)) (List.getElem_mem _)
  show (0:Int)≤_
  rw [List.getD_eq_getElem?_getD,List.getElem?_eq_getElem (by omega)]
  exact this.1,fun _ h=>(by cases h)⟩
theorem put_in {H:HallR} (ok:H.Ok) {c:Int × Int} (hc:H.In c) {k:Nat} (hk:k<H.kinds.length):(jN c k).In H:=by
 obtain ⟨⟨a,b⟩,e,f⟩:=hc
 have:=ok.w1
 have:=ok.d1
 exact ⟨hk,by show -100≤c.1;omega,by show c.1≤100;omega,by show -100≤c.2;omega,by show c.2≤100;omega⟩
theorem good_put {H:HallR} (ok:H.Ok) {l:List PutR} (g:H.Good l) {c:Int × Int} (hc:H.In c) {k:Nat} (hk:k<H.kinds.length):H.Takes l (jN c k)↔H.Good (l++[jN c k]):=by
 have hp:=put_in ok hc hk
 rw [takes_iff ok g.v g.s g.i hp]
 refine ⟨fun h=>⟨h.1,h.2,fun q hq=>?_⟩,fun h=>⟨h.v,h.s⟩⟩
 rcases List.mem_append.mp hq with h | h
 ·exact g.i q h
 ·rw [List.mem_singleton.mp h];exact hp
noncomputable def HallR.goodL (H:HallR) (l:List PutR) (P:PutR):Bool:=@decide (H.Valid (l++[P])∧H.verdict (l++[P])=1) (Classical.propDecidable _)
theorem goodL_iff {H:HallR} {l:List PutR} {P:PutR}:H.goodL l P=true↔H.Valid (l++[P])∧H.verdict (l++[P])=1:=by
 unfold HallR.goodL
 exact @decide_eq_true_iff _ (Classical.propDecidable _)
noncomputable def HallR.lays (H:HallR):List (Int × Int)→List PutR→List (List PutR)
 | [],l=>[l]
 | c::rest,l=>H.lays rest l++(List.range H.kinds.length).flatMap fun k=>if H.goodL l (jN c k)=true then H.lays rest (l++[jN c k]) else []
theorem lays_ext {H:HallR} (ok:H.Ok):∀ (cs:List (Int × Int)) (l x:List PutR),(∀ c ∈ cs,H.In c)→H.Good l→(x ∈ H.lays cs l↔Ext H.kinds.length H.takesB (cs.filter fun c=>!decide (c ∈ H.shut)) l x)
 | [],l,x,_,_=>by
  show x ∈ [l]↔Ext _ _ [] l x
  rw [List.mem_singleton]
  exact ⟨fun h=>by rw [h];exact .nil l,fun h=>by cases h;rfl⟩
 | c::rest,l,x,hc,g=>by
  have hcc:=hc c (List.mem_cons_self ..)
  have hcr:∀ d ∈ rest,H.In d:=fun d hd=>hc d (List.mem_cons_of_mem _ hd)
  have ih0:=lays_ext ok rest l x hcr g
  have hlays:x ∈ H.lays (c::rest) l↔x ∈ H.lays rest l∨∃ k,k<H.kinds.length∧H.Takes l (jN c k)∧x ∈ H.lays rest (l++[jN c k]):=by
   show x ∈ H.lays rest l++(List.range H.kinds.length).flatMap (fun k=>if H.goodL l (jN c k)=true then H.lays rest (l++[jN c k]) else [])↔_
   rw [List.mem_append,List.mem_flatMap]
   refine or_congr Iff.rfl ⟨?_,?_⟩
   ·rintro ⟨k,hk,hx⟩
    have hk':=List.mem_range.mp hk
    by_cases hg:H.goodL l (jN c k)=true
    ·rw [if_pos hg] at hx
     exact ⟨k,hk',(takes_iff ok g.v g.s g.i (put_in ok hcc hk')).mpr (goodL_iff.mp hg),hx⟩
    ·rw [if_neg hg] at hx;cases hx
   ·rintro ⟨k,hk,ht,hx⟩
    refine ⟨k,List.mem_range.mpr hk,?_⟩
    rw [if_pos (goodL_iff.mpr ((takes_iff ok g.v g.s g.i (put_in ok hcc hk)).mp ht))]
    exact hx
  rw [hlays,ih0,List.filter_cons]
  by_cases hsh:c ∈ H.shut
  ·rw [decide_eq_true hsh]
   simp only [Bool.not_true,Bool.false_eq_true,if_false]
   refine ⟨fun h=>h.elim id fun ⟨k,hk,ht,_⟩=>?_,.inl⟩
   exact absurd hsh (gv.mp ht.e).1.s
  ·rw [decide_eq_false hsh]
   simp only [Bool.not_false,if_true]
   constructor
   ·rintro (h | ⟨k,hk,ht,hx⟩)
    ·exact .skip h
    ·have g':=(good_put ok g hcc hk).mp ht
     exact .put k hk (vE.mpr ht) ((lays_ext ok rest (l++[jN c k]) x hcr g').mp hx)
   ·intro h
    cases h with
    | skip h=>exact .inl h
    | put k hk ht h =>
     have ht':=vE.mp ht
     have g':=(good_put ok g hcc hk).mp ht'
     exact .inr ⟨k,hk,ht',(lays_ext ok rest (l++[jN c k]) x hcr g').mpr h⟩
theorem ext_good {H:HallR} (ok:H.Ok) {cs:List (Int × Int)} {l x:List PutR} (h:Ext H.kinds.length H.takesB cs l x) (hc:∀ c ∈ cs,H.In c) (g:H.Good l):H.Good x:=by
 induction h with
 | nil l=>exact g
 | skip _ ih=>exact ih (fun d hd=>hc d (List.mem_cons_of_mem _ hd)) g
 | put k hk ht _ ih=>exact ih (fun d hd=>hc d (List.mem_cons_of_mem _ hd)) ((good_put ok g (hc _ (List.mem_cons_self ..)) hk).mp (vE.mp ht))
end Go.Proofs.Ytoklbkgcclkejaa.walk
namespace Go.Proofs.Ytoklbkgcclkejaa.walk
open Go.Abs Go.Proofs.Ytoklbkgcclkejaa.code
theorem places_later {H:HallR} (w0:1≤H.wide):H.placesI.Pairwise Later:=by
 refine List.pairwise_iff_getElem.mpr fun i j hi hj hij=>?_
 rw [Ze,Ze]
 unfold Later
 simp only
 have h1:=Nat.div_add_mod i H.wide
 have h2:=Nat.div_add_mod j H.wide
 have h3:=Nat.div_le_div_right (c:=H.wide) (Nat.le_of_lt hij)
 by_cases e:i / H.wide=j / H.wide
 ·rw [e] at h1
  omega
 ·omega
theorem opens_later {H:HallR} (w0:1≤H.wide):H.opens.Pairwise Later:=(places_later w0).filter _
theorem places_in {H:HallR} (w0:1≤H.wide):∀ c ∈ H.placesI,H.In c:=fun c hc=>by
 obtain ⟨i,hi,rfl⟩:=List.getElem_of_mem hc
 exact placesI_in w0 hi
noncomputable def HallR.best (H:HallR):(Int × Int) × List PutR:=srch H.kinds.length H.takesB H.worth H.rent H.opens [] ((0,0),[])
theorem takesB_nil {H:HallR} (ok:H.Ok):∀ l p,H.takesB l p=true→H.takesB [] p=true:=fun _ _ h=>vE.mpr (takes_nil ok (vE.mp h))
theorem best_is {H:HallR} (ok:H.Ok):H.best.1=H.worth H.best.2∧H.Good H.best.2∧H.best.2 ∈ H.lays H.placesI []∧∀ x ∈ H.lays H.placesI [],H.Good x∧¬ Bt (H.worth x) (H.worth H.best.2)∧(H.worth x=H.worth H.best.2→¬ First x H.best.2):=by
 have hin:=places_in ok.w0
 have hF:=srch_is (K:=H.kinds.length) (tB:=H.takesB) (w:=H.worth) (rent:=H.rent) (worth_put H) (fun _=>rfl) (takesB_nil ok) H.opens [] ((0,0),[]) (opens_later ok.w0)
 have hE:∀ x,x ∈ H.lays H.placesI []↔Ext H.kinds.length H.takesB H.opens [] x:=fun x=>lays_ext ok H.placesI [] x hin (good_nil ok)
 have hoi:∀ c ∈ H.opens,H.In c:=fun c hc=>hin c (List.mem_filter.mp hc).1
 have hg:∀ x,Ext H.kinds.length H.takesB H.opens [] x→H.Good x:=fun x hx=>ext_good ok hx hoi (good_nil ok)
 obtain ⟨h1,h2⟩:=hF
 have hb:H.best=srch H.kinds.length H.takesB H.worth H.rent H.opens [] ((0,0),[]):=rfl
 rw [← hb] at h1 h2
 rcases h2 with h2 | ⟨a1,a2,a3,a4⟩
 ·rw [h2] at h1 ⊢
  have hs:=ext_self H.kinds.length H.takesB H.opens []
  refine ⟨rfl,good_nil ok,(hE _).mpr hs,fun x hx=>⟨hg x ((hE x).mp hx),h1 x ((hE x).mp hx),fun e=>?_⟩⟩
  have:(x.length:Int)=0:=congrArg Prod.snd e
  have:x=[]:=List.length_eq_zero_iff.mp (by omega)
  subst this
  exact first_nil _
 ·exact ⟨a2,hg _ a1,(hE _).mpr a1,fun x hx=>⟨hg x ((hE x).mp hx),by rw [← a2];exact h1 x ((hE x).mp hx),fun e=>a4 x ((hE x).mp hx) (by rw [a2];exact e)⟩⟩
end Go.Proofs.Ytoklbkgcclkejaa.walk
set_option maxRecDepth 10000
namespace Go.Proofs.Ytoklbkgcclkejaa.walk
open Go.Abs Go.Proofs.Ytoklbkgcclkejaa.code
def Desc (vs:List (Nat × Nat)):Prop:=vs.Pairwise fun a b=>b.1<a.1
theorem wB (v w k:Nat) (r:List (Nat × Nat)):ww v ((w,k)::r)=if v=w then some (k,(w,k)::r) else ww v r:=by
 show (match Nat.beq v w with | true=>some (k,(w,k)::r) | false=>ww v r)=_
 by_cases h:v=w
 ·subst h;rw [Nat.beq_refl,if_pos rfl]
 ·rw [vO h,if_neg h]
theorem verAt_cons (v w k:Nat) (r:List (Nat × Nat)):verAt v ((w,k)::r)=if v=w then some k else verAt v r:=by
 show (match Nat.beq v w with | true=>some k | false=>verAt v r)=_
 by_cases h:v=w
 ·subst h;rw [Nat.beq_refl,if_pos rfl]
 ·rw [vO h,if_neg h]
theorem drop_ver:∀ {vs:List (Nat × Nat)} {v k:Nat} {t:List (Nat × Nat)},ww v vs=some (k,t)→verAt v vs=some k
 | [],_,_,_,h=>by cases h
 | (w,j)::r,v,k,t,h=>by
  rw [wB] at h
  rw [verAt_cons]
  by_cases e:v=w
  ·rw [if_pos e] at h ⊢
   injection h with h
   injection h with h1 h2
   rw [h1]
  ·rw [if_neg e] at h ⊢
   exact drop_ver h
theorem drop_suf:∀ {vs:List (Nat × Nat)} {v k:Nat} {t:List (Nat × Nat)},ww v vs=some (k,t)→∃ p,vs=p++t
 | [],_,_,_,h=>by cases h
 | (w,j)::r,v,k,t,h=>by
  rw [wB] at h
  by_cases e:v=w
  ·rw [if_pos e] at h
   injection h with h
   injection h with h1 h2
   exact ⟨[],h2⟩
  ·rw [if_neg e] at h
   obtain ⟨p,hp⟩:=drop_suf h
   exact ⟨(w,j)::p,by rw [hp];rfl⟩
theorem drop_next:∀ {vs:List (Nat × Nat)} {a k b j:Nat} {rest:List (Nat × Nat)},Desc vs→ww a vs=some (k,(a,k)::(b,j)::rest)→ww b vs=some (j,(b,j)::rest)
 | [],_,_,_,_,_,_,h=>by cases h
 | (w,i)::r,a,k,b,j,rest,hd,h=>by
  obtain ⟨hw,hr⟩:=List.pairwise_cons.mp hd
  rw [wB] at h ⊢
  by_cases e:a=w
  ·rw [if_pos e] at h
   injection h with h
   injection h with h1 h2
   injection h2 with h2 h3
   subst h3
   have hb:b<w:=hw (b,j) (List.mem_cons_self ..)
   rw [if_neg (by omega),wB,if_pos rfl]
  ·rw [if_neg e] at h
   obtain ⟨p,hp⟩:=drop_suf h
   have hb:b<w:=hw (b,j) (by rw [hp];simp)
   rw [if_neg (by omega)]
   exact drop_next hr h
theorem Zl (k x j:Nat) (r:List (Nat × Nat)):leAll k ((x,j)::r)=true↔j≤k∧leAll k r=true:=by
 show (match Nat.ble j k with | true=>leAll k r | false=>false)=true↔_
 cases h:Nat.ble j k with
 | true=>exact ⟨fun e=>⟨Nat.le_of_ble_eq_true h,e⟩,fun e=>e.2⟩
 | false=>exact ⟨fun e=>(by cases e),fun e=>by rw [Nat.ble_eq_true_of_le e.1] at h;cases h⟩
theorem leAll_mono:∀ {r:List (Nat × Nat)} {k k':Nat},k≤k'→leAll k r=true→leAll k' r=true
 | [],_,_,_,_=>rfl
 | (x,j)::r,k,k',hk,h=>by
  obtain ⟨h1,h2⟩:=(Zl k x j r).mp h
  exact (Zl k' x j r).mpr ⟨by omega,leAll_mono hk h2⟩
def yo (l:List PutR):List AV:=(l.map PutR.row).flatten
theorem gK (l:List PutR):(yo l).length=l.length * 3:=by
 unfold yo
 rw [yH (w:=3) (fun r hr=>by obtain ⟨p,_,rfl⟩:=List.mem_map.mp hr;rfl),List.length_map]
theorem putRows_app (l:List PutR) (P:PutR):yo (l++[P])=yo l++P.row:=by unfold yo;rw [List.map_append,List.flatten_append];simp
def FamAt (h:Heap) (n lo:Nat) (v:AV) (rest:List (Nat × Nat)) (l:List PutR):Prop :=
 (l=[]∧v=.nilslice∧rest=[]) ∨
 (∃ P b,l=[P]∧rest=[]∧lo≤b∧b<n∧v=.slice b 0 1 1 true∧(h.get b=some (.cells P.row (3+tag 51))∨∃ c vs,h.get b=some (.fam c 3 3 vs)∧c.take 3=P.row)) ∨
 (2≤l.length∧∃ b ver c vs,lo≤b∧b<n∧v=.vs b ver l.length∧h.get b=some (.fam c 3 3 vs)∧ww ver vs=some (l.length * 3,(ver,l.length * 3)::rest)∧c.take (l.length * 3)=yo l∧leAll (l.length * 3) ((b,3)::(ver,l.length * 3)::rest)=true∧Desc vs∧∀ x ∈ vs,x.1<n)
theorem FamAt.block {h:Heap} {n lo:Nat} {v:AV} {rest:List (Nat × Nat)} {l:List PutR} (r:FamAt h n lo v rest l):∀ b,jK v=some b→lo≤b∧b<n:=fun b hb=>by
 rcases r with ⟨_,h1,_⟩ | ⟨_,b',_,_,h1,h2,h3,_⟩ | ⟨_,b',_,_,_,h1,h2,h3,_⟩
 ·rw [h1] at hb;cases hb
 ·rw [h3] at hb
  have hb:some b'=some b:=hb
  injection hb with hb
  omega
 ·rw [h3] at hb
  have hb:some b'=some b:=hb
  injection hb with hb
  omega
theorem FamAt.grow {h h':Heap} {n n' lo:Nat} {v:AV} {rest:List (Nat × Nat)} {l:List PutR} (r:FamAt h n lo v rest l) (hh:∀ b,b<n→jK v=some b→h'.get b=h.get b) (hn:n≤n'):FamAt h' n' lo v rest l:=by
 rcases r with r | ⟨P,b,h1,h2,h3,h4,h5,h6⟩ | ⟨h0,b,ver,c,vs,h1,h2,h3,h4,h5,h6,h7,h8,h9⟩
 ·exact .inl r
 ·exact .inr (.inl ⟨P,b,h1,h2,h3,by omega,h5,by rw [hh b h4 (by rw [h5];rfl)];exact h6⟩)
 ·exact .inr (.inr ⟨h0,b,ver,c,vs,h1,by omega,h3,by rw [hh b h2 (by rw [h3];rfl)];exact h4,h5,h6,h7,h8,fun x hx=>Nat.lt_of_lt_of_le (h9 x hx) hn⟩)
theorem FamAt.puts {no:Nat→Prop} {h:Heap} {n lo:Nat} {v:AV} {rest:List (Nat × Nat)} {l:List PutR} (r:FamAt h n lo v rest l) (hno:∀ b,lo≤b→b<n→no b):Puts no h n l v:=by
 rcases r with ⟨h1,h2,_⟩ | ⟨P,b,h1,h2,h3,h4,h5,h6⟩ | ⟨h0,b,ver,c,vs,h1,h2,h3,h4,h5,h6,h7,h8,h9⟩
 ·subst h1;subst h2
  exact ⟨fun _=>rfl,fun _=>rfl,fun hi=>by simp at hi⟩
 ·subst h1;subst h5
  refine ⟨fun _=>rfl,fun _=>rfl,fun {i} hi=>?_⟩
  obtain rfl:i=0:=by simp at hi;exact hi
  refine ⟨.ptr b 0,fun s=>?_,fun s' hs=>?_⟩
  ·rw [jj _ _ _ _ _ _ _ _ (by omega)]
  ·rw [Zk,hs b h4 (hno b h3 h4)]
   rcases h6 with h6 | ⟨c,vs,h6,h7⟩
   ·rw [h6];rfl
   ·rw [h6]
    show ARes.val (yP (some 3) (c.take 3) 0) s'=_
    rw [h7];rfl
 ·subst h3
  refine ⟨fun _=>rfl,fun _=>rfl,fun {i} hi=>⟨.vp b ver (i * 3),fun s=>?_,fun s' hs=>?_⟩⟩
  ·show (Bool.casesOn (motive:=fun _=>ARes) (Nat.ble (Nat.succ i) l.length) ARes.fail (.val (.vp b ver (Nat.mul i 3)) s))=_
   rw [Nat.ble_eq_true_of_le hi];rfl
  ·show loadV (some 3) s' b ver (i * 3)=_
   unfold loadV gI
   rw [hs b h2 (hno b h1 h2),h4]
   simp only [drop_ver h5,h6]
   rw [wX]
   unfold yo
   rw [yI (w:=3) (fun r hr=>by obtain ⟨p,_,rfl⟩:=List.mem_map.mp hr;rfl) (by rw [List.length_map];exact hi),List.getElem_map]
   rfl
end Go.Proofs.Ytoklbkgcclkejaa.walk
set_option maxRecDepth 10000
namespace Go.Proofs.Ytoklbkgcclkejaa.walk
open Go.Abs Go.Proofs.Ytoklbkgcclkejaa.code
theorem fam_append {s:St} {lo p sz:Nat} {v:AV} {rest:List (Nat × Nat)} {l:List PutR} {P:PutR} (r:FamAt s.h s.n lo v rest l) (hl:l.length≤30) (hp:s.h.get p=some (.cells P.row sz)) (hlo:lo≤s.n) (hs:s.n<549755813888) :
  ∃ v' s' rest',jV true 3 24 (tag 51) s v (.slice p 0 1 1 false)=.val v' s'∧FamAt s'.h s'.n lo v' rest' (l++[P])∧s'.n=s.n+1∧(∀ c,c<s.n→jK v≠some c→s'.h.get c=s.h.get c)∧(∀ k,k≤lo→k≤s.m→k≤s'.m)∧s'.m≤s.m∧(∀ b,jK v'=some b→jK v=some b∨b=s.n)∧(∀ b,jK v=some b→jK v'=some b)∧∀ h'' n'',FamAt h'' n'' lo v' rest' (l++[P])→FamAt h'' n'' lo v rest l:=by
 have hP3:P.row.length=3:=rfl
 have e1:wk 3 1 s (.slice p 0 1 1 false)=some P.row:=by
  show (match s.h.get p with | some (.cells c _)=>cut 0 3 c | some (.fam c _ k _)=>cut 0 3 (c.take k) | _=>none)=_
  rw [hp];rfl
 have e2:jV true 3 24 (tag 51) s v (.slice p 0 1 1 false)=growF 3 24 (tag 51) 1 P.row s v:=by
  show (match wk 3 1 s (.slice p 0 1 1 false) with | none=>ARes.fail | some new=>match Nat.beq new.length (1 * 3) with | false=>.fail | true=>match scalars new with | true=>growF 3 24 (tag 51) 1 new s v | false=>.fail)=_
  rw [e1];rfl
 rw [e2]
 have r0:=r
 rcases r with ⟨h1,h2,h3⟩ | ⟨Q,b,h1,h2,h3,h4,h5,h6⟩ | ⟨h0,b,ver,c,vs,h1,h2,h3,h4,h5,h6,h7,h8,h9⟩
 ·subst h1;subst h2;subst h3
  refine ⟨.slice s.n 0 1 1 true,s.new (.cells P.row (3+tag 51)),[],rfl,.inr (.inl ⟨P,s.n,rfl,rfl,hlo,Nat.lt_succ_self _,rfl,.inl (zL _ _ _ rfl hs)⟩),rfl,fun c hc _=>zH _ _ _ (by omega),fun _ _ h=>h,Nat.le_refl _,fun b hb=>?_,fun b hb=>(by cases hb),fun _ _ _=>.inl ⟨rfl,rfl,rfl⟩⟩
  have:some s.n=some b:=hb
  injection this with this
  exact .inr this.symm
 ·subst h1;subst h2;subst h5
  have hg:(s.put b (.fam (Q.row++P.row) 3 3 [(s.n,6)])).bump.h.get b=some (.fam (Q.row++P.row) 3 3 [(s.n,6)]):=zT _ _ _ _ rfl (by omega)
  refine ⟨.vs b s.n 2,(s.put b (.fam (Q.row++P.row) 3 3 [(s.n,6)])).bump,[],?_,.inr (.inr ⟨Nat.le_refl 2,b,s.n,_,_,h3,Nat.lt_succ_of_lt h4,rfl,hg,?_,rfl,rfl,List.pairwise_singleton _ _,fun x hx=>?_⟩),rfl,fun c hc hcb=>zM _ _ _ _ (fun h=>hcb (by rw [h];rfl)),fun k hk hm=>?_,?_,fun c hc=>.inl hc,fun c hc=>hc,fun h'' n'' f=>?_⟩
  ·show (match s.h.get b with
    | some (.cells c sz)=>if c.length=1 * 3∧ye sz=3 then famA 3 b c.length c.length 1 1 c P.row [] s else .fail
    | some (.fam c sz k _)=>if sz=3 then famA 3 b k k 1 1 c P.row [] s else .fail
    | _=>.fail)=_
   rcases h6 with h6 | ⟨c,vs,h6,h7⟩
   ·rw [h6];rfl
   ·rw [h6]
    have hcl:3≤c.length:=by
     have:=congrArg List.length h7
     rw [List.length_take] at this
     have h8:Q.row.length=3:=rfl
     omega
    show famA 3 b 3 3 1 1 c P.row [] s=_
    unfold famA
    rw [if_pos ⟨rfl,hcl,Nat.one_pos,rfl⟩,h7];rfl
  ·rw [wB,if_pos rfl];rfl
  ·rw [List.mem_singleton.mp hx];exact Nat.lt_succ_self _
  ·show k≤jv s.m b
   rw [zU];omega
  ·show jv s.m b≤s.m
   rw [zU];omega
  ·rcases f with ⟨f1,_⟩ | ⟨_,_,f1,_⟩ | ⟨_,b',ver',c',vs',f1,f2,f3,f4,f5,f6,_⟩
   ·cases f1
   ·cases f1
   ·injection f3 with g1 g2 g3
    subst g1
    refine .inr (.inl ⟨Q,b,rfl,rfl,f1,f2,rfl,.inr ⟨c',vs',f4,?_⟩⟩)
    have h:=congrArg (List.take 3) f6
    rw [List.take_take] at h
    exact h
 ·subst h3
  have hcl:l.length * 3≤c.length:=by
   have:=congrArg List.length h6
   rw [List.length_take,gK] at this
   omega
  obtain ⟨pre,hpre⟩:=drop_suf h5
  have hd:Desc ((ver,l.length * 3)::rest):=by
   have:=h8
   rw [hpre] at this
   exact (List.pairwise_append.mp this).2.1
  have hlt:∀ x ∈ (ver,l.length * 3)::rest,x.1<s.n:=fun x hx=>h9 x (by rw [hpre];exact List.mem_append_right _ hx)
  have hla:(l++[P]).length=l.length+1:=by rw [List.length_append,List.length_singleton]
  obtain ⟨o,ho⟩:∃ o:AObj,o=.fam (c.take (l.length * 3)++P.row) 3 3 ((s.n,l.length * 3+3)::(ver,l.length * 3)::rest):=⟨_,rfl⟩
  have hg:(s.put b o).bump.h.get b=some o:=zT _ _ _ _ rfl (by omega)
  refine ⟨.vs b s.n (l.length+1),(s.put b o).bump,(ver,l.length * 3)::rest,?_,.inr (.inr ⟨by omega,b,s.n,_,_,h1,Nat.lt_succ_of_lt h2,by rw [hla],by rw [hg,ho],?_,?_,?_,?_,fun x hx=>?_⟩),rfl,fun c hc hcb=>zM _ _ _ _ (fun h=>hcb (by rw [h];rfl)),fun k hk hm=>?_,?_,fun c hc=>.inl hc,fun c hc=>hc,fun h'' n'' f=>?_⟩
  ·show (match Nat.ble ((l.length+1) * 24) limit with
    | true=>match s.h.get b with
     | some (.fam c sz k0 vs)=>match ww ver vs with
      | some (k,rest)=>if sz=3 then famA 3 b k0 k l.length 1 c P.row rest s else .fail
      | none=>.fail
     | _=>.fail
    | false=>.fail)=_
   rw [Nat.ble_eq_true_of_le (show (l.length+1) * 24≤limit by unfold limit;omega),h4]
   simp only [h5,if_true]
   unfold famA
   rw [if_pos ⟨rfl,hcl,Nat.one_pos,h7⟩,ho];rfl
  ·rw [wB,if_pos rfl,hla,Nat.succ_mul]
  ·rw [hla,Nat.succ_mul,putRows_app,h6,List.take_of_length_le (by rw [List.length_append,gK];exact Nat.le_refl _)]
  ·rw [hla,Nat.succ_mul]
   obtain ⟨q1,q2⟩:=(Zl _ _ _ _).mp h7
   exact (Zl _ _ _ _).mpr ⟨by omega,(Zl _ _ _ _).mpr ⟨Nat.le_refl _,leAll_mono (Nat.le_add_right _ _) q2⟩⟩
  ·exact List.pairwise_cons.mpr ⟨fun x hx=>hlt x hx,hd⟩
  ·rcases List.mem_cons.mp hx with e | hx
   ·rw [e];exact Nat.lt_succ_self _
   ·exact Nat.lt_succ_of_lt (hlt x hx)
  ·show k≤jv s.m b
   rw [zU];omega
  ·show jv s.m b≤s.m
   rw [zU];omega
  ·rcases f with ⟨f1,_⟩ | ⟨_,_,f1,_⟩ | ⟨_,b',ver',c',vs',f1,f2,f3,f4,f5,f6,f7,f8,f9⟩
   ·simp at f1
   ·have:=congrArg List.length f1
    rw [hla,List.length_singleton] at this
    omega
   ·injection f3 with g1 g2 g3
    subst g1;subst g2
    rw [hla] at f5 f6
    refine .inr (.inr ⟨h0,b,ver,c',vs',f1,f2,rfl,f4,drop_next f8 f5,?_,h7,f8,f9⟩)
    have h:=congrArg (List.take (l.length * 3)) f6
    rw [List.take_take,Nat.min_eq_left (by omega),putRows_app,List.take_left' (gK l)] at h
    exact h
end Go.Proofs.Ytoklbkgcclkejaa.walk
set_option maxRecDepth 10000
namespace Go.Proofs.Ytoklbkgcclkejaa.walk
open Go.Abs Go.Proofs.Ytoklbkgcclkejaa.code
theorem fam_first {s:St} {n lo:Nat} {v:AV} {rest:List (Nat × Nat)} {l:List PutR} (r:FamAt s.h n lo v rest l):wk 3 l.length s v=some (yo l)∧lenA v=some l.length∧(l≠[]→∀ s,eqlA .nilS false s v .nilslice=.val (.bool false) s):=by
 rcases r with ⟨h1,h2,h3⟩ | ⟨Q,b,h1,h2,h3,h4,h5,h6⟩ | ⟨h0,b,ver,c,vs,h1,h2,h3,h4,h5,h6,h7,h8,h9⟩
 ·subst h1;subst h2
  exact ⟨rfl,rfl,fun h=>absurd rfl h⟩
 ·subst h1;subst h5
  refine ⟨?_,rfl,fun _ s=>by simp [eqlA,Cmp.eq]⟩
  show (match s.h.get b with | some (.cells c _)=>cut 0 3 c | some (.fam c _ k _)=>cut 0 3 (c.take k) | _=>none)=_
  rcases h6 with h6 | ⟨c,vs,h6,h7⟩
  ·rw [h6];rfl
  ·rw [h6]
   show cut 0 3 (c.take 3)=_
   rw [h7];rfl
 ·subst h3
  refine ⟨?_,rfl,fun _ s=>by simp [eqlA,Cmp.eq]⟩
  show (match (match s.h.get b with | some (.fam c _ _ vs)=>(match verAt ver vs with | some k=>some (c.take k) | none=>none) | _=>none) with | some c=>cut 0 (l.length * 3) c | none=>none)=_
  rw [h4]
  simp only [drop_ver h5,h6]
  rw [yT,← gK,vX]
theorem cloneP_ex {N:Nat} {s:St} {r:ARes} {v:AV} {lo:Nat} {rest:List (Nat × Nat)} (l:List PutR) (hr:call Try.prog X N (.fn 84) [v] s=r) (hN:1≤N) (hp:FamAt s.h s.n lo v rest l) (h0:l≠[]) (hk:l.length≤30) (hs:s.n+100≤far) :
  ∃ bc t,r=.val (.slice bc 0 l.length l.length true) t∧New s t 2∧s.n≤bc∧bc<t.n∧t.h.get bc=some (.cells (yo l) (3+tag 51)):=by
 obtain ⟨n,rfl⟩:∃ n,N=n+1:=⟨N - 1,by omega⟩
 have hf:far=1000000000:=rfl
 obtain ⟨w,t,e,st,bc,rfl,hq⟩:=wP (n:=n) (args:=[v]) (s:=s) (k:=2) (Q:=fun w h m=>∃ bc,w=.slice bc 0 l.length l.length true∧s.n≤bc∧bc<m∧h.get bc=some (.cells (yo l) (3+tag 51))) Try.func84 rfl (fun u uh un um=>by
  rw [← uh,← un] at hp
  rw [← un] at hs ⊢
  rw [enter84]
  have kv:=(hp.puts (no:=fun _=>True) fun _ _ _=>trivial).okA
  have hnil:=(fam_first hp).2.2 h0
  obtain ⟨w,hw⟩:∃ w:St,w=u.new (.cells [] 0):=⟨_,rfl⟩
  have wn:w.n=u.n+1:=by rw [hw];rfl
  have hlen:=gK l
  have happ:jV false 3 24 (tag 51) w (.slice u.n 0 0 0 false) v=.val (.slice w.n 0 l.length l.length true) (w.new (.cells (yo l) (3+tag 51))):=by
   have hpw:FamAt w.h w.n lo v rest l:=hp.grow (fun b hb hv=>by rw [hw,zH _ _ _ (by omega)]) (by omega)
   obtain ⟨e1,p2,_⟩:=fam_first hpw
   have e2:Nat.beq (yo l).length (l.length * 3)=true:=by rw [hlen];exact Nat.beq_refl _
   have e3:scalars (yo l)=true:=gX (put_scal l)
   unfold jV
   simp only [p2,e1,e2,e3]
   have g0:w.h.get u.n=some (.cells [] 0):=by rw [hw];exact zL _ _ _ rfl (by omega)
   unfold vg
   have e4:Nat.ble l.length 0=false:=by
    cases h:Nat.ble l.length 0 with
    | false=>rfl
    | true =>
     have:=Nat.le_of_ble_eq_true h
     exact absurd (List.length_eq_zero_iff.mp (Nat.le_zero.mp this)) h0
   have e5:Nat.ble (l.length * 24) limit=true:=Nat.ble_eq_true_of_le (by show l.length * 24≤limit;unfold limit;omega)
   have e6:cut 0 0 ([]:List AV)=some []:=rfl
   simp only [g0,Nat.zero_add,Nat.zero_mul,e4,e5,e6,List.nil_append]
  simp (disch:=first|omega|with_unfolding_all exact rfl) only [res84,K84r0,K84r1,K84r2,K84r3,K84,Abs.W,reduceIte,Nat.reduceEqDiff,Nat.reduceAdd,Nat.reduceSub,kEqlE,hnil,kv,Bool.false_eq_true]
  rw [← hw]
  have okR:∀ x t,okA (.val (.slice x 0 l.length l.length true) t)=.val (.slice x 0 l.length l.length true) t:=fun _ _=>rfl
  simp (disch:=first|omega|with_unfolding_all exact rfl) only [Abs.W,reduceIte,Nat.reduceEqDiff,Nat.reduceAdd,Nat.reduceSub,happ,okR]
  exact ⟨_,_,rfl,⟨fun c hc=>by rw [zH _ _ _ (by omega),hw,zH _ _ _ (by omega)],by simp only [zP];omega,by simp only [zP];omega,by rw [zN,hw,zN];omega,by rw [zN,hw,zN];omega⟩,rfl,_,rfl,by omega,by simp only [zP];omega,zL _ _ _ rfl (by omega)⟩)
 exact ⟨bc,t,hr.symm.trans e,st,hq⟩
end Go.Proofs.Ytoklbkgcclkejaa.walk
set_option maxRecDepth 10000
namespace Go.Proofs.Ytoklbkgcclkejaa.walk
open Go.Abs Go.Proofs.Ytoklbkgcclkejaa.code
structure SFix (h0:Heap) (lo pt pc ph ps po pf hb p rb:Nat) (sc:List AV) (H:HallR) (vW vS vB vK vo:AV) (O:List (Int × Int)):Prop where
 bh:h0.get ph=some (.cells [.slice hb 0 (O.length+1) (O.length+1) false] (tag 117))
 bb:h0.get hb=some (.cells (H.hopeRows O 0).flatten 0)
 bs:h0.get ps=some (.cells [.ptr p 0] (tag 78))
 bo:h0.get po=some (.cells [vo] (tag 25))
 bf:∃ sz,h0.get pf=some (.cells [.func 82 [] [.ptr pt 0,.ptr pc 0,.ptr ph 0,.ptr ps 0,.ptr po 0,.ptr pf 0]] sz)
 c:SiteC sc H vW vS vB vK rb
 g:h0.get p=some (vG sc)
 gr:h0.get rb=some (.cells (Zc p) 0)
 hH:HallAt (fun b=>b≠pt∧b≠pc) h0 lo H vW vS vB vK
 hO:Sl (fun b=>b≠pt∧b≠pc) h0 lo 2 (O.map jE) vo
 lt:(ph<lo∧ps<lo∧po<lo∧pf<lo∧hb<lo∧p<lo∧rb<lo)∧pt<lo∧pc<lo
 ne:(ph≠pt∧ps≠pt∧po≠pt∧pf≠pt∧hb≠pt∧p≠pt∧rb≠pt)∧(ph≠pc∧ps≠pc∧po≠pc∧pf≠pc∧hb≠pc∧p≠pc∧rb≠pc)∧pt≠pc
 oin:∀ c ∈ O,H.In c
 o8:O.length≤6
 k2:H.kinds.length≤2
def ChosenAt (h:Heap) (n lo:Nat) (v vc:AV) (C:List PutR):Prop :=
 (C=[]∧vc=.nilslice)∨∃ bc,lo≤bc∧bc<n∧vc=.slice bc 0 C.length C.length true∧C≠[]∧jK v≠some bc∧h.get bc=some (.cells (yo C) (3+tag 51))
theorem ChosenAt.grow {h h':Heap} {n n' lo:Nat} {v v' vc:AV} {C:List PutR} (r:ChosenAt h n lo v vc C) (hh:∀ b,lo≤b→b<n→jK v≠some b→h'.get b=h.get b∧jK v'≠some b) (hn:n≤n'):ChosenAt h' n' lo v' vc C:=by
 rcases r with r | ⟨bc,h1,h2,h3,h4,h5,h6⟩
 ·exact .inl r
 ·obtain ⟨q1,q2⟩:=hh bc h1 h2 h5
  exact .inr ⟨bc,h1,by omega,h3,h4,q2,q1.trans h6⟩
structure SNow (h0 h:Heap) (n lo pt pc:Nat) (v:AV) (rest:List (Nat × Nat)) (l:List PutR) (T:(Int × Int) × List PutR):Prop where
 same:∀ b,b<lo→b≠pt→b≠pc→h.get b=h0.get b
 top:h.get pt=some (.cells [.int .i64 T.1.1,.int .i64 T.1.2] (tag 120))
 cho:∃ vc,h.get pc=some (.cells [vc] (tag 32))∧ChosenAt h n lo v vc T.2
 fam:FamAt h n lo v rest l
 lo:lo≤n
def wide:Nat→Nat
 | 0=>20
 | m+1=>3 * (30+wide m)+30
structure SPost (h0:Heap) (s t:St) (lo pt pc:Nat) (v:AV) (rest:List (Nat × Nat)) (l:List PutR) (T T':(Int × Int) × List PutR) (k:Nat):Prop where
 now:SNow h0 t.h t.n lo pt pc v rest l T'
 old:∀ b,b<s.n→b≠pt→b≠pc→jK v≠some b→t.h.get b=s.h.get b
 n:s.n≤t.n
 le:t.n≤s.n+k
 m:∀ k,k≤pt→k≤pc→k≤s.m→k≤t.m
 mle:t.m≤s.m
 or:t.m≤pt∨T'=T
theorem SPost.refl {h0:Heap} {s:St} {lo pt pc:Nat} {v:AV} {rest:List (Nat × Nat)} {l:List PutR} {T:(Int × Int) × List PutR} (a:SNow h0 s.h s.n lo pt pc v rest l T):SPost h0 s s lo pt pc v rest l T T 0 :=
 ⟨a,fun _ _ _ _ _=>rfl,Nat.le_refl _,Nat.le_refl _,fun _ _ _ h=>h,Nat.le_refl _,.inr rfl⟩
theorem SPost.trans {h0:Heap} {s t u:St} {lo pt pc:Nat} {v:AV} {rest:List (Nat × Nat)} {l:List PutR} {T T1 T2:(Int × Int) × List PutR} {k1 k2:Nat} (a:SPost h0 s t lo pt pc v rest l T T1 k1) (b:SPost h0 t u lo pt pc v rest l T1 T2 k2):SPost h0 s u lo pt pc v rest l T T2 (k1+k2):=by
 obtain ⟨a1,a2,a3,a4,a5,a6,a7⟩:=a
 obtain ⟨b1,b2,b3,b4,b5,b6,b7⟩:=b
 refine ⟨b1,fun x h1 h2 h3 h4=>(b2 x (by omega) h2 h3 h4).trans (a2 x h1 h2 h3 h4),by omega,by omega,fun k h1 h2 h3=>b5 k h1 h2 (a5 k h1 h2 h3),by omega,?_⟩
 rcases b7 with b7 | b7
 ·exact .inl b7
 ·rcases a7 with a7 | a7
  ·left;omega
  ·right;rw [b7,a7]
def SOk (N m:Nat) (h0:Heap) (lo pt pc ph ps po pf:Nat) (H:HallR) (O:List (Int × Int)):Prop :=
 ∀ (s:St) (v:AV) (rest:List (Nat × Nat)) (l:List PutR) (T:(Int × Int) × List PutR) (i:Nat),i+m=O.length→SNow h0 s.h s.n lo pt pc v rest l T→H.Good l→l.length≤i→s.n+60000+wide m≤far→s.m≤far →
  ∃ t,call Try.prog X N (.fn 82) [v,.agg [.int .i64 (H.worth l).1,.int .i64 (H.worth l).2],.int .i64 (i:Int),.ptr pt 0,.ptr pc 0,.ptr ph 0,.ptr ps 0,.ptr po 0,.ptr pf 0] s=.val (.tup []) t∧SPost h0 s t lo pt pc v rest l T (srch H.kinds.length H.takesB H.worth H.rent (O.drop i) l T) (wide m)
end Go.Proofs.Ytoklbkgcclkejaa.walk
set_option maxRecDepth 10000
namespace Go.Proofs.Ytoklbkgcclkejaa.walk
open Go.Abs Go.Proofs.Ytoklbkgcclkejaa.code
theorem cloneP_nil (N:Nat) (hN:1≤N) (s:St) (hs:s.n+10≤far):call Try.prog X N (.fn 84) [.nilslice] s=.val .nilslice s:=by
 obtain ⟨n,rfl⟩:∃ n,N=n+1:=⟨N - 1,by omega⟩
 refine zq Try.func84 (fun u uh un um=>?_) rfl
 have hf:far=1000000000:=rfl
 have hnil:∀ s,eqlA .nilS false s .nilslice .nilslice=.val (.bool true) s:=fun s=>by simp [eqlA,Cmp.eq]
 rw [enter84]
 simp (disch:=first|omega|with_unfolding_all exact rfl) only [res84,K84r0,K84r1,K84r2,K84r3,K84,Abs.W,reduceIte,Nat.reduceEqDiff,Nat.reduceAdd,Nat.reduceSub,kEqlE,hnil]
 exact ⟨_,rfl,by omega⟩
theorem s_bump (M:Nat) (hM:2≤M) (cx:Ctx) {h0:Heap} {s:St} {lo pt pc q:Nat} {v:AV} {rest:List (Nat × Nat)} {l:List PutR} {T:(Int × Int) × List PutR} {H:HallR} {L:Env} (S:SNow h0 s.h s.n lo pt pc v rest l T) (hl:l.length≤30) (hq:lo≤q∧q<s.n∧jK v≠some q) (gq:s.h.get q=some (.cells [.int .i64 (H.worth l).1,.int .i64 (H.worth l).2] (tag 120))) (hlt:pt<lo∧pc<lo∧pt≠pc∧pt≤pc) (hs:s.n+1000≤far) (hm:s.m≤far)
  (q0:L.find 0=v) (q3:L.find 3=.ptr pt 0) (q4:L.find 4=.ptr pc 0) (q10:L.find 10=.ptr q 0) :
  ∃ b t,(zG (zD K82r1 [17]) (zv (.tmp 17) (zr K82r2 []) zw)) (call Try.prog X M) cx L [] s=.done .norm (L.set 17 (.bool b)) [] t∧SPost h0 s t lo pt pc v rest l T (bump H.worth l T) 10:=by
 have hf:far=1000000000:=rfl
 obtain ⟨a1,a2,⟨vc,a3,a4⟩,a5,a6⟩:=id S
 have kv:=(a5.puts (no:=fun _=>True) fun _ _ _=>trivial).okA
 have hbl:=a5.block
 have nb:∀ b,b<lo→jK v≠some b:=fun b hb h=>by have:=hbl b h;omega
 have okW:∀ (a b:Int) t,okA (.val (.agg [.int .i64 a,.int .i64 b]) t)=.val (.agg [.int .i64 a,.int .i64 b]) t:=fun _ _ _=>rfl
 have ebt:=beats_ok M (by omega) (H.worth l) T.1 s (by omega)
 by_cases hb:Bt (H.worth l) T.1
 ·have hbt:decide (Bt (H.worth l) T.1)=true:=decide_eq_true hb
  rw [hbt] at ebt
  have hbu:bump H.worth l T=(H.worth l,l):=by unfold bump;rw [if_pos hb]
  rw [hbu]
  -- the copy
  obtain ⟨vc',t1,e1,st1,hch⟩:∃ vc' t1,call Try.prog X M (.fn 84) [v] ⟨s.h,s.n,far⟩=.val vc' t1∧New ⟨s.h,s.n,far⟩ t1 2∧((l=[]∧vc'=.nilslice)∨∃ bc,s.n≤bc∧bc<t1.n∧vc'=.slice bc 0 l.length l.length true∧l≠[]∧t1.h.get bc=some (.cells (yo l) (3+tag 51))):=by
   by_cases hl0:l=[]
   ·have hv:v=.nilslice:=by
     rcases a5 with ⟨_,h,_⟩ | ⟨P,_,h,_⟩ | ⟨h,_⟩
     ·exact h
     ·rw [hl0] at h;cases h
     ·rw [hl0] at h;simp at h
    rw [hv]
    exact ⟨_,_,cloneP_nil M (by omega) ⟨s.h,s.n,far⟩ (by show s.n+10≤far;omega),⟨fun _ _=>rfl,Nat.le_refl _,Nat.le_add_right _ _,rfl⟩,.inl ⟨hl0,rfl⟩⟩
   ·obtain ⟨bc,t1,e,st,h1,h2,h3⟩:=cloneP_ex (N:=M) (s:=⟨s.h,s.n,far⟩) l rfl (by omega) a5 hl0 hl (by show s.n+100≤far;omega)
    exact ⟨_,_,e,st,.inr ⟨bc,h1,h2,rfl,hl0,h3⟩⟩
  have n1:s.n≤t1.n:=st1.n
  have k1:t1.n≤s.n+2:=st1.le
  have m1:t1.m=far:=st1.m
  have g1:∀ b,b<s.n→t1.h.get b=s.h.get b:=fun b hb=>st1.same b hb
  have okc:∀ t,okA (.val vc' t)=.val vc' t:=fun t=>by
   rcases hch with ⟨_,h⟩ | ⟨_,_,_,h,_⟩<;>rw [h]<;>rfl
  have scc:cellsOf 1 vc'=some [vc']∧scalars [vc']=true:=by
   rcases hch with ⟨_,h⟩ | ⟨_,_,_,h,_⟩<;>rw [h]<;>exact ⟨rfl,rfl⟩
  obtain ⟨y,hy⟩:∃ y:St,y=⟨t1.h,t1.n,jv s.m t1.m⟩:=⟨_,rfl⟩
  have yn:y.n=t1.n:=by rw [hy]
  have yh:y.h=t1.h:=by rw [hy]
  have ym:y.m=s.m:=by rw [hy];show jv s.m t1.m=_;rw [zU];omega
  have tv:∀ ws v d rest cl L,thenT (some ws) (.val v t1) d rest cl L s=rest cl (d.put v L) y:=fun ws v d rest cl L=>by rw [hy];exact ZH _ _ _ _ _ _ _ _ (by omega)
  have yt:y.h.get pt=some (.cells [.int .i64 T.1.1,.int .i64 T.1.2] (tag 120)):=by rw [yh,g1 pt (by omega)];exact a2
  have yc:y.h.get pc=some (.cells [vc] (tag 32)):=by rw [yh,g1 pc (by omega)];exact a3
  have st2:jX 2 y (.agg [.int .i64 (H.worth l).1,.int .i64 (H.worth l).2]) (.ptr pt 0)=.val .undef (y.put pt (.cells [.int .i64 (H.worth l).1,.int .i64 (H.worth l).2] (tag 120))):=jr _ 2 _ _ _ _ yt rfl rfl rfl
  have st3:jX 1 (y.put pt (.cells [.int .i64 (H.worth l).1,.int .i64 (H.worth l).2] (tag 120))) vc' (.ptr pc 0)=.val .undef ((y.put pt (.cells [.int .i64 (H.worth l).1,.int .i64 (H.worth l).2] (tag 120))).put pc (.cells [vc'] (tag 32))):=yQ (c:=[vc]) (by rw [zM _ _ _ _ (by omega)];exact yc) (by show 0<1;omega) scc.1 scc.2
  obtain ⟨z,hz⟩:∃ z:St,z=(y.put pt (.cells [.int .i64 (H.worth l).1,.int .i64 (H.worth l).2] (tag 120))).put pc (.cells [vc'] (tag 32)):=⟨_,rfl⟩
  have zn:z.n=y.n:=by rw [hz];rfl
  have zm:z.m=min (min s.m pt) pc:=by rw [hz];simp only [St.put,zU,ym]
  have zg:∀ b,b≠pt→b≠pc→z.h.get b=t1.h.get b:=fun b h1 h2=>by rw [hz,zM _ _ _ _ h2,zM _ _ _ _ h1,yh]
  have zt:z.h.get pt=some (.cells [.int .i64 (H.worth l).1,.int .i64 (H.worth l).2] (tag 120)):=by rw [hz,zM _ _ _ _ (by omega)];exact zT _ _ _ _ rfl (by omega)
  have zc:z.h.get pc=some (.cells [vc'] (tag 32)):=by rw [hz];exact zT _ _ _ _ rfl (by omega)
  rw [← hz] at st3
  refine ⟨true,z,?_,⟨⟨fun b h1 h2 h3=>?_,zt,⟨vc',zc,?_⟩,a5.grow (fun b h1 h2=>?_) (by omega),by omega⟩,fun b h1 h2 h3 _=>(zg b h2 h3).trans (g1 b h1),by omega,by omega,fun k h1 h2 h3=>by omega,by omega,.inl (by omega)⟩⟩
  ·simp (disch:=first|omega|with_unfolding_all exact rfl) only [K82r1,K82r2,Abs.W,reduceIte,Nat.reduceEqDiff,Nat.reduceAdd,Nat.reduceSub,q0,q3,q4,q10,gq,a2,okW,ebt,kv,e1,tv,okc,st2,st3,Nat.zero_add]
  ·rw [zg b h2 h3,g1 b (by omega)];exact a1 b h1 h2 h3
  ·rcases hch with ⟨h1,h2⟩ | ⟨bc,h1,h2,h3,h4,h5⟩
   ·exact .inl ⟨h1,h2⟩
   ·exact .inr ⟨bc,by omega,by omega,h3,h4,fun h=>by have:=hbl bc h;omega,(zg bc (by omega) (by omega)).trans h5⟩
  ·have h3:=hbl b h2
   rw [zg b (by omega) (by omega)];exact g1 b h1
 ·have hbt:decide (Bt (H.worth l) T.1)=false:=decide_eq_false hb
  rw [hbt] at ebt
  have hbu:bump H.worth l T=T:=by unfold bump;rw [if_neg hb]
  rw [hbu]
  refine ⟨false,s,?_,⟨S,fun _ _ _ _ _=>rfl,Nat.le_refl _,by omega,fun _ _ _ h=>h,Nat.le_refl _,.inr rfl⟩⟩
  simp (disch:=first|omega|with_unfolding_all exact rfl) only [K82r1,Abs.W,reduceIte,Nat.reduceEqDiff,Nat.reduceAdd,Nat.reduceSub,q3,q10,gq,a2,okW,ebt,Nat.zero_add]
end Go.Proofs.Ytoklbkgcclkejaa.walk
set_option maxRecDepth 10000
namespace Go.Proofs.Ytoklbkgcclkejaa.walk
open Go.Abs Go.Proofs.Ytoklbkgcclkejaa.code
theorem s_hope (M:Nat) (hM:2≤M) (cx:Ctx) {h0:Heap} {s:St} {lo pt pc ph ps po pf hb p rb q i:Nat} {sc:List AV} {v vo:AV} {rest:List (Nat × Nat)} {l:List PutR} {T:(Int × Int) × List PutR} {H:HallR} {vW vS vB vK:AV} {O:List (Int × Int)} {L:Env} (ok:H.Ok) (F:SFix h0 lo pt pc ph ps po pf hb p rb sc H vW vS vB vK vo O) (S:SNow h0 s.h s.n lo pt pc v rest l T) (hg:H.Good l) (hl:l.length≤30) (hi:i≤O.length) (gq:s.h.get q=some (.cells [.int .i64 (H.worth l).1,.int .i64 (H.worth l).2] (tag 120))) (hs:s.n+1000≤far) (hm:s.m≤far)
  (q2:L.find 2=.int .i64 (i:Int)) (q3:L.find 3=.ptr pt 0) (q5:L.find 5=.ptr ph 0) (q10:L.find 10=.ptr q 0) :
  zr K82r3 [29] (call Try.prog X M) cx L [] s=.done .norm (L.set 29 (.bool (!decide (Bt (wplus (H.worth l) (H.hopeL (O.drop i))) T.1)))) [] s:=by
 have hf:far=1000000000:=rfl
 have hlt:=F.lt
 have hne:=F.ne
 have o8:=F.o8
 have gh:=(S.same ph (by omega) (by omega) (by omega)).trans F.bh
 have gb:=(S.same hb (by omega) (by omega) (by omega)).trans F.bb
 have hix:∀ s,jR 2 s (.slice hb 0 (O.length+1) (O.length+1) false) (.int .i64 (i:Int))=.val (.ptr hb (i * 2)) s:=fun s=>by rw [jj _ _ _ _ _ _ _ _ (by omega),Nat.zero_add]
 have hcut:cut (i * 2) 2 (H.hopeRows O 0).flatten=some [.int .i64 (H.hopeL (O.drop i)).1,.int .i64 (H.hopeL (O.drop i)).2]:=by
  rw [yI (JZ H O _) (by rw [ZB];omega),hopeRows_at H O _ (by omega)]
  unfold HallR.hopeRow;rw [if_pos (Nat.zero_le _)]
 have okW:∀ (a b:Int) t,okA (.val (.agg [.int .i64 a,.int .i64 b]) t)=.val (.agg [.int .i64 a,.int .i64 b]) t:=fun _ _ _=>rfl
 have okS:∀ t,okA (.val (.slice hb 0 (O.length+1) (O.length+1) false) t)=.val (.slice hb 0 (O.length+1) (O.length+1) false) t:=fun _=>rfl
 have hb1:=hopeL_bound ok (O.drop i)
 have hdl:(O.drop i).length≤6:=by rw [List.length_drop];omega
 have hlen:l.length≤30:=hl
 have hr:(0≤(H.worth l).1∧(H.worth l).1≤100000000)∧0≤(H.worth l).2∧(H.worth l).2≤100000000:=by
  have h:=ZG (H.rents l) 0 1000000 (by omega) fun x hx=>by
   obtain ⟨p,hp,rfl⟩:=List.mem_map.mp hx
   have h:=vj ok (hg.i p hp).k
   exact ⟨h.r0,h.r1⟩
  have e:(H.rents l).length=l.length:=by unfold HallR.rents;rw [List.length_map]
  rw [e] at h
  unfold HallR.worth
  simp only
  omega
 have epl:=plus_ok M (by omega) (H.worth l) (H.hopeL (O.drop i)) ⟨s.h,s.n,far⟩ hr ⟨⟨hb1.1.1,by omega⟩,hb1.2.1,by omega⟩ (by show s.n+10≤far;omega)
 have hts:=fun v=>jy (v:=v) (s:=s) (h:=(by omega:s.n≤far)) (hm:=hm)
 have ebt:=beats_ok M (by omega) (wplus (H.worth l) (H.hopeL (O.drop i))) T.1 s (by omega)
 have ebt':call Try.prog X M (.fn 83) [.agg [.int .i64 ((H.worth l).1+(H.hopeL (O.drop i)).1),.int .i64 ((H.worth l).2+(H.hopeL (O.drop i)).2)],.agg [.int .i64 T.1.1,.int .i64 T.1.2]] s=.val (.bool (decide (Bt (wplus (H.worth l) (H.hopeL (O.drop i))) T.1))) s:=ebt
 have gt:=S.top
 simp (disch:=first|omega|with_unfolding_all exact rfl) only [K82r3,Abs.W,reduceIte,Nat.reduceEqDiff,Nat.reduceAdd,Nat.reduceSub,q2,q3,q5,q10,gq,gh,gb,hix,hcut,okW,okS,epl,hts,gt,ebt',Nat.zero_add]
end Go.Proofs.Ytoklbkgcclkejaa.walk
set_option maxRecDepth 10000
namespace Go.Proofs.Ytoklbkgcclkejaa.walk
open Go.Abs Go.Proofs.Ytoklbkgcclkejaa.code
structure SAt (h:Heap) (n pt pc ph ps po pf hb p rb:Nat) (sc:List AV) (H:HallR) (vW vS vB vK vo:AV) (O:List (Int × Int)):Prop where
 bh:h.get ph=some (.cells [.slice hb 0 (O.length+1) (O.length+1) false] (tag 117))
 bb:h.get hb=some (.cells (H.hopeRows O 0).flatten 0)
 bs:h.get ps=some (.cells [.ptr p 0] (tag 78))
 bo:h.get po=some (.cells [vo] (tag 25))
 bf:∃ sz,h.get pf=some (.cells [.func 82 [] [.ptr pt 0,.ptr pc 0,.ptr ph 0,.ptr ps 0,.ptr po 0,.ptr pf 0]] sz)
 g:h.get p=some (vG sc)
 gr:h.get rb=some (.cells (Zc p) 0)
 hH:HallAt (fun b=>b≠pt∧b≠pc) h n H vW vS vB vK
 hO:Sl (fun b=>b≠pt∧b≠pc) h n 2 (O.map jE) vo
 lp:p<n∧rb<n
theorem SFix.at_ {h0 h:Heap} {n lo pt pc ph ps po pf hb p rb:Nat} {sc:List AV} {H:HallR} {vW vS vB vK vo v:AV} {O:List (Int × Int)} {rest:List (Nat × Nat)} {l:List PutR} {T:(Int × Int) × List PutR} (F:SFix h0 lo pt pc ph ps po pf hb p rb sc H vW vS vB vK vo O) (S:SNow h0 h n lo pt pc v rest l T):SAt h n pt pc ph ps po pf hb p rb sc H vW vS vB vK vo O:=by
 have tf:=S.same
 have hlo:=S.lo
 obtain ⟨⟨l1,l2,l3,l4,l5,l6,l7⟩,l8,l9⟩:=F.lt
 obtain ⟨⟨n1,n2,n3,n4,n5,n6,n7⟩,⟨m1,m2,m3,m4,m5,m6,m7⟩,_⟩:=F.ne
 obtain ⟨sz,hf⟩:=F.bf
 exact ⟨(tf ph l1 n1 m1).trans F.bh,(tf hb l5 n5 m5).trans F.bb,(tf ps l2 n2 m2).trans F.bs,(tf po l3 n3 m3).trans F.bo,⟨sz,(tf pf l4 n4 m4).trans hf⟩,(tf p l6 n6 m6).trans F.g,(tf rb l7 n7 m7).trans F.gr,F.hH.move (fun b h1 h2=>⟨tf b h1 h2.1 h2.2,h2⟩) hlo,F.hO.move (fun b h1 h2=>⟨tf b h1 h2.1 h2.2,h2⟩) hlo,Nat.lt_of_lt_of_le l6 hlo,Nat.lt_of_lt_of_le l7 hlo⟩
theorem SNow.grow {h0 h h':Heap} {n n' lo pt pc:Nat} {v:AV} {rest:List (Nat × Nat)} {l:List PutR} {T:(Int × Int) × List PutR} (S:SNow h0 h n lo pt pc v rest l T) (hh:∀ b,b<n→h'.get b=h.get b) (hn:n≤n') (hp:pt<n∧pc<n):SNow h0 h' n' lo pt pc v rest l T:=by
 have hlo:=S.lo
 obtain ⟨a1,a2,⟨vc,a3,a4⟩,a5,a6⟩:=S
 exact ⟨fun b h1 h2 h3=>(hh b (by omega)).trans (a1 b h1 h2 h3),(hh pt hp.1).trans a2,⟨vc,(hh pc hp.2).trans a3,a4.grow (fun b h1 h2 h3=>⟨hh b h2,h3⟩) hn⟩,a5.grow (fun b h1 h2=>hh b h1) hn,by omega⟩
end Go.Proofs.Ytoklbkgcclkejaa.walk
