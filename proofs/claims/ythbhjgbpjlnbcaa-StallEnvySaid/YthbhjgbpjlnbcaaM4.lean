/- Lists of which some are left out; places in a list. -/
import Derived.Test.YthbhjgbpjlnbcaaM3
import Derived.Test.YthbhjgbpjlnbcaaM2
import Derived.Test.YthbhjgbpjlnbcaaCodes
import Derived.Test.YthbhjgbpjlnbcaaAbsOps
import Derived.Test.YthbhjgbpjlnbcaaWalkAll
set_option maxHeartbeats 16000000
set_option linter.unusedVariables false
set_option maxRecDepth 10000
namespace Go.Proofs.Ythbhjgbpjlnbcaa.walk
open Go.Abs Go.Proofs.Ythbhjgbpjlnbcaa.code
def Dels (N nb:Nat) (dv:AV) (rd:Nat→Prop) (H:Heap) (d:Nat→Bool) (f:List Nat):Prop :=
 ∀ s:St,(∀ y,rd y→s.h.get y=H.get y)→nb≤s.n→s.n+300000≤far→∀ a ∈ f,callV (call Try.prog X N) [.int .i64 (a:Int)] s dv=.val (.bool (d a)) s
theorem indexf_ex {N nb:Nat} {v dv:AV} {rd:Nat→Prop} {d:Nat→Bool} {f:List Nat} {s:St} {r:ARes} (hr:call Try.prog X (N+1) (.fn 84) [v,dv] s=r) (hD:Dels N nb dv rd s.h d f) (hdv:dv.scalar=true) (hR:RowsAt s.h s.n 1 (natRows f) v) (hl:f.length≤8) (hnb:nb≤s.n) (hs:s.n+400000≤far) :
  ∃ i:Int,r=.val (.int .i64 i) s∧((i = -1∧∀ a ∈ f,d a=false)∨∃ k:Nat,i=k∧k<f.length∧d (at0 f k)=true∧∀ a ∈ f.take k,d a=false):=by
 have hf:far=1000000000:=rfl
 obtain ⟨w,e,i,rfl,hi⟩:=call_some (n:=N) (s:=s) (k:=0) (args:=[v,dv]) (Q:=fun w=>∃ i:Int,w=.int .i64 i∧((i = -1∧∀ a ∈ f,d a=false)∨∃ k:Nat,i=k∧k<f.length∧d (at0 f k)=true∧∀ a ∈ f.take k,d a=false)) Try.func84 (fun u uh un um=>by
  rw [← uh,← un] at hR
  rw [← uh] at hD
  rw [← un] at hnb
  have kv:∀ t,okA (.val v t)=.val v t:=fun t=>okA_ne hR.ne
  have lv:=natLen hR
  rw [enter84]
  simp (disch:=first|omega|(with_unfolding_all exact rfl)|(simp only[new_n,put_n,new_m];omega)|(refine put_m_le ?_;simp only[new_m];omega)) only [K84r0,K84r1,K84r7,K84,Abs.W,reduceIte,Nat.reduceEqDiff,Nat.reduceAdd,kLoop_def,lv]
  generalize hlp:loopN _ rounds _ _ _ _ _=q1
  obtain ⟨e,L1,s1,rfl,rfl,hQ⟩:=loop_of hlp (fun i L t=>t=u∧L.find 0=v∧L.find 1=dv∧L.find 7=.int .i64 f.length∧L.find 8=.int .i64 i∧∀ a ∈ f.take i,d a=false)
   (fun e L t=>t=u∧((e=.ret∧∃ k:Nat,L.find 4=.int .i64 (k:Int)∧k<f.length∧d (at0 f k)=true∧∀ a ∈ f.take k,d a=false)∨(e=.exit 0∧∀ a ∈ f,d a=false))) f.length (by unfold rounds;omega)
   ⟨rfl,by simp only [find_cons,reduceIte,Nat.reduceEqDiff],by simp only [find_cons,reduceIte,Nat.reduceEqDiff],by simp only [find_cons,reduceIte,Nat.reduceEqDiff],by simp only [find_cons,reduceIte,Nat.reduceEqDiff];rfl,by simp⟩
   (fun i L t hi ⟨ht,q0,q1,q7,q8,hx⟩=>by
    subst ht
    by_cases hlt:i<f.length
    ·have e0:decide ((i:Int)<(f.length:Int))=true:=decide_eq_true (by omega)
     obtain ⟨b,p,c,sz,r1,r2,r3,r4⟩:=natRow hR hlt
     have ad:∀ s,aAdd s .i64 (i:Int) 1=.val (.int .i64 ((i:Int)+1)) s:=fun s=>aAdd_i64 s _ _ (by omega)
     have hc:=hD t (fun _ _=>rfl) hnb (by omega) f[i] (List.getElem_mem hlt)
     have ea:at0 f i=f[i]:=by simp [at0,List.getD,hlt]
     cases hd:d f[i] with
     | true =>
      rw [hd] at hc
      refine .inr ⟨.ret,_,t,by simp,by
       simp (disch:=first|omega|(with_unfolding_all exact rfl)|(simp only[new_n,put_n,new_m];omega)|(refine put_m_le ?_;simp only[new_m];omega)) only [K84r2,K84r3,K84r4,K84r5,K84r6,K84l0,Abs.W,reduceIte,Nat.reduceEqDiff,efs,q0,q1,q7,q8,e0,r2,r3,r4,hc]
       rfl,rfl,.inl ⟨rfl,i,by simp only [efs,reduceIte,Nat.reduceEqDiff],hlt,by rw [ea];exact hd,hx⟩⟩
     | false =>
      rw [hd] at hc
      refine .inl ⟨hlt,_,t,by
       simp (disch:=first|omega|(with_unfolding_all exact rfl)|(simp only[new_n,put_n,new_m];omega)|(refine put_m_le ?_;simp only[new_m];omega)) only [K84r2,K84r3,K84r4,K84r5,K84r6,K84l0,Abs.W,reduceIte,Nat.reduceEqDiff,efs,q0,q1,q7,q8,e0,r2,r3,r4,hc,ad]
       rfl,rfl,?_,?_,?_,?_,?_⟩
      ·simp only [efs,q0,reduceIte,Nat.reduceEqDiff]
      ·simp only [efs,q1,reduceIte,Nat.reduceEqDiff]
      ·simp only [efs,q7,reduceIte,Nat.reduceEqDiff]
      ·simp only [efs,reduceIte,Nat.reduceEqDiff];rfl
      ·intro a ha
       rw [take_snoc hlt] at ha
       rcases List.mem_append.mp ha with h | h
       ·exact hx a h
       ·rw [List.mem_singleton.mp h];exact hd
    ·obtain rfl:i=f.length:=by omega
     have e0:decide ((f.length:Int)<(f.length:Int))=false:=by simp
     refine .inr ⟨.exit 0,L.set 9 (.bool false),t,by simp,?_,rfl,.inr ⟨rfl,by rwa [List.take_length] at hx⟩⟩
     simp (disch:=first|omega|(with_unfolding_all exact rfl)|(simp only[new_n,put_n,new_m];omega)|(refine put_m_le ?_;simp only[new_m];omega)) only [K84r2,K84r3,K84r4,K84r5,K84r6,K84l0,Abs.W,reduceIte,efs,q7,q8,e0])
  have hB:Beside s1 s1 0:=Beside.refl s1 (by omega) um
  rcases hQ with ⟨rfl,k,h4,hx⟩ | ⟨rfl,hx⟩
  ·simp (disch:=first|omega|(with_unfolding_all exact rfl)|(simp only[new_n,put_n,new_m];omega)|(refine put_m_le ?_;simp only[new_m];omega)) only [res84,Abs.W,h4]
   exact ⟨_,_,rfl,hB,rfl,_,rfl,.inr ⟨k,rfl,hx⟩⟩
  ·simp (disch:=first|omega|(with_unfolding_all exact rfl)|(simp only[new_n,put_n,new_m];omega)|(refine put_m_le ?_;simp only[new_m];omega)) only [res84,Abs.W,reduceIte,efs]
   exact ⟨_,_,rfl,hB,rfl,_,rfl,.inl ⟨rfl,hx⟩⟩)
 exact ⟨i,hr.symm.trans e,hi⟩
theorem natRows_app (f g:List Nat):natRows (f++g)=natRows f++natRows g:=by unfold natRows intRows;rw [List.map_append,List.map_append]
theorem natRows_tail {g:List Nat} {i k:Nat} (h:g.length=i+k):over i (zerosA [.int .i64 0] k) (natRows g).flatten=some (natRows (g.take i++List.replicate k 0)).flatten:=by
 have e:natRows g=natRows (g.take i)++natRows (g.drop i):=by rw [← natRows_app,List.take_append_drop]
 have l1:(natRows (g.take i)).flatten.length=i:=by rw [flatten_len (natRows_wide _),natRows_len,List.length_take];omega
 have l2:(natRows (g.drop i)).flatten.length=k:=by rw [flatten_len (natRows_wide _),natRows_len,List.length_drop];omega
 have z:zerosA [.int .i64 0] k=(natRows (List.replicate k 0)).flatten:=by
  rw [zeros_flatten]
  congr 1
  unfold natRows intRows
  simp
 have lz:(natRows (List.replicate k 0)).flatten.length=k:=by rw [flatten_len (natRows_wide _),natRows_len,List.length_replicate];omega
 rw [e,List.flatten_append,z]
 have:=over_skip (natRows (g.take i)).flatten (natRows (g.drop i)).flatten (natRows (List.replicate k 0)).flatten 0
 rw [Nat.add_zero,l1] at this
 rw [this]
 have h2:=over_zero (natRows (List.replicate k 0)).flatten (natRows (g.drop i)).flatten (by rw [lz,l2])
 rw [h2,natRows_app,List.flatten_append]
 rfl
theorem slice_all (s:St) (b n i:Nat) (h:i≤n) (hn:0<n):sliceVal 1 none (some (.int .i64 (i:Int))) s (.slice b 0 n n false)=.val (.slice b 0 i n false) s:=slice_to 1 s b 0 n n i false (Nat.le_refl _) h hn
theorem delete_ex {N nb bd n sz:Nat} {dv:AV} {rd:Nat→Prop} {d:Nat→Bool} {f:List Nat} {s:St} {r:ARes} (hr:call Try.prog X (N+2) (.fn 61) [.slice bd 0 n n false,dv] s=r) (hD:∀ M,N≤M→Dels M nb dv rd s.h d f) (hdv:dv.scalar=true) (hrd:¬ rd bd) (hg:s.h.get bd=some (.cells (natRows f).flatten sz)) (hfn:f.length=n) (hl:n≤8) (hbd:bd<s.n) (hnb:nb≤s.n) (hm:s.m≤far) (hs:s.n+500000≤far) :
  ∃ g k t,r=.val (.slice bd 0 k n false) t∧t.h.get bd=some (.cells (natRows g).flatten sz)∧g.length=n∧g.take k=f.filter (fun a=>!d a)∧k=(f.filter (fun a=>!d a)).length∧(∀ c,c≠bd→t.h.get c=s.h.get c)∧t.n=s.n∧min s.m bd≤t.m∧t.m≤s.m:=by
 have hf:far=1000000000:=rfl
 obtain ⟨v',t,mm,e,⟨g,k,rfl,a1,a2,a3,a4,a5,a6,a7⟩,hm'⟩:=call_any (X:=X) (n:=N+1) (args:=[.slice bd 0 n n false,dv]) (s:=s) (Q:=fun v h n' m'=>∃ g k,v=.slice bd 0 k n false∧h.get bd=some (.cells (natRows g).flatten sz)∧g.length=n∧g.take k=f.filter (fun a=>!d a)∧k=(f.filter (fun a=>!d a)).length∧(∀ c,c≠bd→h.get c=s.h.get c)∧n'=s.n∧bd≤m'∧m'≤far) Try.func61 rfl (fun u uh un um=>by
  rw [← uh] at hg
  have hD':∀ M,N≤M→Dels M nb dv rd u.h d f:=fun M h=>by rw [uh];exact hD M h
  rw [← un] at hbd hnb
  have hRu:RowsAt u.h u.n 1 (natRows f) (.slice bd 0 n n false):=⟨fun s=>by rw [natRows_len,hfn];rfl,fun i hi=>⟨bd,i,_,_,hbd,fun s=>by
   rw [natRows_len,hfn] at hi
   rw [ixs_slice 1 s bd 0 n n false i hi,Nat.zero_add,Nat.mul_one],hg,by have:=flatten_cut (natRows_wide f) hi;rwa [Nat.mul_one] at this⟩⟩
  rw [enter61]
  simp (disch:=first|omega|(with_unfolding_all exact rfl)|(simp only[new_n,put_n,new_m];omega)|(refine put_m_le ?_;simp only[new_m];omega)) only [K61,K61r0,K61r1,Abs.W,reduceIte,Nat.reduceEqDiff,Nat.reduceAdd]
  generalize hc:call _ _ _ (.fn 84) _ _=rc
  obtain ⟨i,rfl,hi⟩:=indexf_ex (N:=N) hc (hD' N (Nat.le_refl _)) hdv hRu (by omega) hnb (by omega)
  rcases hi with ⟨rfl,hall⟩ | ⟨k,rfl,hk,hdk,hpre⟩
  ·have e0:decide ((-1:Int) = -1)=true:=rfl
   have hfil:f.filter (fun a=>!d a)=f:=List.filter_eq_self.mpr fun a ha=>by rw [hall a ha];rfl
   simp (disch:=first|omega|(with_unfolding_all exact rfl)|(simp only[new_n,put_n,new_m];omega)|(refine put_m_le ?_;simp only[new_m];omega)) only [K61r2,K61r3,res61,Abs.W,reduceIte,Nat.reduceEqDiff,decide_true]
   exact ⟨_,_,rfl,⟨f,n,rfl,hg,hfn,by rw [hfil,← hfn,List.take_length],by rw [hfil,hfn],fun c _=>by rw [uh],un,by omega,by omega⟩,fun hp=>by cases hp⟩
  ·have e0:decide ((k:Int) = -1)=false:=decide_eq_false (by omega)
   have ad1:∀ s,aAdd s .i64 (k:Int) 1=.val (.int .i64 ((k+1:Nat):Int)) s:=fun s=>by rw [aAdd_i64 s _ _ (by omega)];rfl
   simp (disch:=first|omega|(with_unfolding_all exact rfl)|(simp only[new_n,put_n,new_m];omega)|(refine put_m_le ?_;simp only[new_m];omega)) only [K61r2,K61r4,Abs.W,reduceIte,Nat.reduceEqDiff,kLoop_def,e0,ad1]
   generalize hlp:loopN _ rounds _ _ _ _ _=rl
   have hfk:f.filter (fun a=>!d a)=f.filter (fun a=>!d a):=rfl
   have hft:(f.take (k+1)).filter (fun a=>!d a)=f.take k:=by
    have ea:at0 f k=f[k]:=by simp [at0,List.getD,hk]
    rw [ea] at hdk
    rw [take_snoc hk,List.filter_append,List.filter_eq_self.mpr fun a ha=>by rw [hpre a ha];rfl]
    simp [hdk]
   obtain ⟨e1,L1,s1,rfl,rfl,g,i,h0,h1,h5,b1,b2,b3,b4,b5,b6,b7,b8⟩:=loop_of hlp (fun q L' t'=>∃ g i,L'.find 0=.slice bd 0 n n false∧L'.find 1=dv∧L'.find 5=.int .i64 (i:Nat)∧L'.find 6=.int .i64 (k+1+q:Nat)∧t'.h.get bd=some (.cells (natRows g).flatten sz)∧g.length=n∧g.take i=(f.take (k+1+q)).filter (fun a=>!d a)∧i<k+1+q∧g.drop (k+1+q)=f.drop (k+1+q)∧(∀ c,c≠bd→t'.h.get c=u.h.get c)∧t'.n=u.n∧bd≤t'.m∧t'.m≤far)
    (fun e1 L' t'=>e1=.exit 0∧∃ g i,L'.find 0=.slice bd 0 n n false∧L'.find 1=dv∧L'.find 5=.int .i64 (i:Nat)∧t'.h.get bd=some (.cells (natRows g).flatten sz)∧g.length=n∧g.take i=f.filter (fun a=>!d a)∧i<n∧(∀ c,c≠bd→t'.h.get c=u.h.get c)∧t'.n=u.n∧bd≤t'.m∧t'.m≤far) (n - (k+1)) (by unfold rounds;omega)
    ⟨f,k,by simp only [find_cons,reduceIte,Nat.reduceEqDiff],by simp only [find_cons,reduceIte,Nat.reduceEqDiff],by simp only [find_cons,reduceIte,Nat.reduceEqDiff],by simp only [find_cons,reduceIte,Nat.reduceEqDiff],hg,hfn,by rw [Nat.add_zero,hft],by omega,rfl,fun _ _=>rfl,rfl,by omega,by omega⟩
    (fun q L' t' hq ⟨g,i,q0,q1,q5,q6,b1,b2,b3,b4,b5,b6,b7,b8,b9⟩=>by
     by_cases hlt:k+1+q<n
     ·have e0:decide (((k+1+q:Nat):Int)<(n:Int))=true:=decide_eq_true (by omega)
      have hjf:k+1+q<f.length:=by omega
      have hjg:k+1+q<g.length:=by omega
      have egf:g[k+1+q]=f[k+1+q]:=by
       have h1:=List.drop_eq_getElem_cons hjg
       have h2:=List.drop_eq_getElem_cons hjf
       rw [b5] at h1
       rw [h1] at h2
       injection h2
      have ij:∀ s,ixsA 1 s (.slice bd 0 n n false) (.int .i64 ((k+1+q:Nat):Int))=.val (.ptr bd (k+1+q)) s:=fun s=>by rw [ixs_slice 1 s bd 0 n n false _ hlt,Nat.zero_add,Nat.mul_one]
      have ii:∀ s,ixsA 1 s (.slice bd 0 n n false) (.int .i64 (i:Int))=.val (.ptr bd i) s:=fun s=>by rw [ixs_slice 1 s bd 0 n n false i (by omega),Nat.zero_add,Nat.mul_one]
      have nj:=natRows_nth (f:=g) (k:=k+1+q) hjg
      have e2:g.getD (k+1+q) 0=f[k+1+q]:=by simp [List.getD,hjg,egf]
      rw [e2] at nj
      have hc:=hD' (N+1) (by omega) t' (fun y hy=>b6 y (fun h=>hrd (h▸hy))) (by omega) (by omega) f[k+1+q] (List.getElem_mem hjf)
      have ad:∀ s,aAdd s .i64 ((k+1+q:Nat):Int) 1=.val (.int .i64 ((k+1+(q+1):Nat):Int)) s:=fun s=>by rw [aAdd_i64 s _ _ (by omega)];rfl
      have adi:∀ s,aAdd s .i64 (i:Int) 1=.val (.int .i64 ((i+1:Nat):Int)) s:=fun s=>by rw [aAdd_i64 s _ _ (by omega)];rfl
      have hdr:∀ g':List Nat,g'.length=n→(∀ p,k+1+q<p→at0 g' p=at0 g p)→g'.drop (k+1+(q+1))=f.drop (k+1+(q+1)):=fun g' hl' hp=>by
       have h1:g.drop (k+1+(q+1))=f.drop (k+1+(q+1)):=by
        have:=congrArg (List.drop 1) b5
        rwa [List.drop_drop,List.drop_drop] at this
       rw [← h1]
       apply List.ext_getElem
       ·simp [hl',b2]
       ·intro z z1 z2
        rw [List.getElem_drop,List.getElem_drop]
        rw [List.length_drop] at z1 z2
        have:=hp (k+1+(q+1)+z) (by omega)
        simpa [at0,List.getD,show k+1+(q+1)+z<g'.length by omega,show k+1+(q+1)+z<g.length by omega] using this
      cases hd:d f[k+1+q] with
      | true =>
       rw [hd] at hc
       refine .inl ⟨by omega,_,t',by
        simp (disch:=first|omega|(with_unfolding_all exact rfl)|(simp only[new_n,put_n,new_m];omega)|(refine put_m_le ?_;simp only[new_m];omega)) only [K61l0,K61r5,K61r6,K61r7,K61r10,Abs.W,reduceIte,Nat.reduceEqDiff,efs,q0,q1,q6,e0,ij,b1,nj,hc,ad]
        rfl,g,i,?_,?_,?_,?_,b1,b2,?_,by omega,hdr g b2 (fun _ _=>rfl),b6,b7,b8,b9⟩
       ·simp only [efs,q0,reduceIte,Nat.reduceEqDiff]
       ·simp only [efs,q1,reduceIte,Nat.reduceEqDiff]
       ·simp only [efs,q5,reduceIte,Nat.reduceEqDiff]
       ·simp only [efs,reduceIte,Nat.reduceEqDiff]
       ·rw [show k+1+(q+1)=k+1+q+1 by omega,take_snoc hjf,List.filter_append,b3]
        simp [hd]
      | false =>
       rw [hd] at hc
       have ov:=natRows_over (f:=g) (k:=i) (by omega) f[k+1+q]
       refine .inl ⟨by omega,_,_,by
        simp (disch:=first|omega|(with_unfolding_all exact rfl)|(simp only[new_n,put_n,new_m];omega)|(refine put_m_le ?_;simp only[new_m];omega)) only [K61l0,K61r5,K61r6,K61r7,K61r8,K61r9,K61r10,Abs.W,reduceIte,Nat.reduceEqDiff,efs,q0,q1,q5,q6,e0,ij,ii,b1,nj,hc,ov,ad,adi]
        rfl,g.set i f[k+1+q],i+1,?_,?_,?_,?_,get_put_eq _ _ _ _ rfl (by omega),by rw [List.length_set];exact b2,?_,by omega,hdr _ (by rw [List.length_set];exact b2) (fun p hp=>?_),fun c hc=>by rw [get_put_ne' _ _ _ _ hc];exact b6 c hc,by rw [put_n];exact b7,?_,?_⟩
       ·simp only [efs,q0,reduceIte,Nat.reduceEqDiff]
       ·simp only [efs,q1,reduceIte,Nat.reduceEqDiff]
       ·simp only [efs,reduceIte,Nat.reduceEqDiff]
       ·simp only [efs,reduceIte,Nat.reduceEqDiff]
       ·rw [show k+1+(q+1)=k+1+q+1 by omega,take_snoc hjf,List.filter_append,← b3,take_snoc (show i<(g.set i f[k+1+q]).length by rw [List.length_set];omega),List.getElem_set_self]
        congr 1
        ·rw [List.take_set,List.set_eq_of_length_le (by rw [List.length_take];omega)]
        ·simp [hd]
       ·unfold at0
        rw [getD_set (by omega),if_neg (by omega)]
       ·simp only [St.put,minN_eq];omega
       ·simp only [St.put,minN_eq];omega
     ·have hkq:k+1+q=n:=by omega
      have e0:decide (((k+1+q:Nat):Int)<(n:Int))=false:=decide_eq_false (by omega)
      rw [hkq,← hfn,List.take_length] at b3
      refine .inr ⟨.exit 0,L'.set 19 (.bool false),t',by simp,?_,rfl,g,i,?_,?_,?_,b1,b2,b3,by omega,b6,b7,b8,b9⟩
      ·have ln0:∀ s,lenSlA s (.slice bd 0 n n false)=.val (.int .i64 (n:Int)) s:=fun _=>rfl
       simp (disch:=first|omega|(with_unfolding_all exact rfl)|(simp only[new_n,put_n,new_m];omega)|(refine put_m_le ?_;simp only[new_m];omega)) only [K61l0,K61r5,Abs.W,reduceIte,Nat.reduceEqDiff,efs,q0,q6,e0]
      ·simp only [efs,q0,reduceIte,Nat.reduceEqDiff]
      ·simp only [efs,q1,reduceIte,Nat.reduceEqDiff]
      ·simp only [efs,q5,reduceIte,Nat.reduceEqDiff])
   have sf:=fun s=>slice_from 1 s bd 0 n n i false (Nat.le_refl _) (by omega) b4
   have st:=fun s=>slice_all s bd n i (by omega) (by omega)
   have cl:∀ s:St,s.h.get bd=some (.cells (natRows g).flatten sz)→clearA [.int .i64 0] s (.slice bd (0+i * 1) (n - i) (n - i) false)=.val .undef (s.put bd (.cells (natRows (g.take i++List.replicate (n - i) 0)).flatten sz)):=fun s h=>by
    have hov:=natRows_tail (g:=g) (i:=i) (k:=n - i) (by omega)
    have hsc:=zeros_scalar [.int .i64 0] rfl (n - i)
    unfold clearA
    simp only [Nat.zero_add,Nat.mul_one,nbeq_f (show n - i≠0 by omega),hsc,h,hov]
   simp (disch:=first|omega|(with_unfolding_all exact rfl)|(simp only[new_n,put_n,new_m];omega)|(refine put_m_le ?_;simp only[new_m];omega)) only [K61r11,K61r12,res61,Abs.W,reduceIte,Nat.reduceEqDiff,efs,h0,h5,kSlice_def,optEv_some,optEv_none,sf,st,cl]
   have lk:i=(f.filter (fun a=>!d a)).length:=by rw [← b3,List.length_take];omega
   refine ⟨_,_,rfl,⟨_,i,rfl,get_put_eq _ _ _ _ rfl (by omega),by rw [List.length_append,List.length_take,List.length_replicate];omega,?_,lk,fun c hc=>by rw [get_put_ne' _ _ _ _ hc,b5 c hc,uh],by rw [put_n];omega,?_,?_⟩,fun hp=>by cases hp⟩
   ·rw [List.take_append_of_le_length (by rw [List.length_take];omega),List.take_take,Nat.min_self];exact b3
   ·simp only [St.put,minN_eq];omega
   ·simp only [St.put,minN_eq];omega)
 refine ⟨g,k,t,hr.symm.trans e,a1,a2,a3,a4,a5,a6,?_,?_⟩
 ·rcases hm' with ⟨_,hm'⟩ | ⟨_,hm'⟩<;>omega
 ·rcases hm' with ⟨_,hm'⟩ | ⟨_,hm'⟩<;>omega
end Go.Proofs.Ythbhjgbpjlnbcaa.walk
set_option maxRecDepth 10000
namespace Go.Proofs.Ythbhjgbpjlnbcaa.walk
open Go.Abs Go.Proofs.Ythbhjgbpjlnbcaa.code
def plOf (f:List Nat):Nat→List (Int × Int)
 | 0=>[]
 | k+1=>putP (plOf f k) (at0 f k:Nat) k
theorem plOf_get {f:List Nat} (hd:f.Nodup):∀ {k:Nat},k≤f.length→∀ {i:Nat},i<k→getP (plOf f k) (at0 f i:Nat)=i
 | 0,_,_,h=>by omega
 | k+1,hk,i,hi=>by
  show getP (putP (plOf f k) (at0 f k:Nat) k) _=_
  rw [getP_putP]
  by_cases e:i=k
  ·subst e;rw [if_pos rfl]
  ·have:¬ ((at0 f i:Nat):Int)=(at0 f k:Nat):=fun h=>e (at0_inj hd (by omega) (by omega) (by omega))
   rw [if_neg this]
   exact plOf_get hd (by omega) (by omega)
def plAll (f:List Nat):List (Int × Int):=plOf f f.length
theorem plAll_at {f:List Nat} (hd:f.Nodup) {i:Nat} (hi:i<f.length):getP (plAll f) (at0 f i:Nat)=i:=plOf_get hd (Nat.le_refl _) hi
theorem places_ex {N:Nat} {f:List Nat} {v:AV} {s:St} {r:ARes} (hr:call Try.prog X N (.fn 54) [v] s=r) (hN:1≤N) (hR:RowsAt s.h s.n 1 (natRows f) v) (hl:f.length≤8) (hs:s.n+100≤far) :
  ∃ t,r=.val (.map s.n) t∧New s t 1∧t.n=s.n+1∧t.h.get s.n=some (.map (mapV (plAll f))):=by
 obtain ⟨n,rfl⟩:∃ n,N=n+1:=⟨N - 1,by omega⟩
 have hf:far=1000000000:=rfl
 obtain ⟨v,t,e,st,rfl,hq,hg⟩:=call_new (n:=n) (args:=[v]) (s:=s) (k:=1) (Q:=fun v h n=>v=.map s.n∧n=s.n+1∧h.get s.n=some (.map (mapV (plAll f)))) Try.func54 rfl (fun u uh un um=>by
  rw [← uh,← un] at hR
  rw [← un]
  have kv:∀ t,okA (.val v t)=.val v t:=fun t=>okA_ne hR.ne
  have lv:=natLen hR
  have uk:∀ s:St,∀ i x:Int,updK .int s (.int .i64 x) (.int .i64 i) (.map u.n)=updA .int s (.int .i64 x) (.int .i64 i) (.map u.n):=fun _ _ _=>rfl
  rw [enter54]
  simp (disch:=first|omega|(with_unfolding_all exact rfl)|(simp only[new_n,put_n,new_m];omega)|(refine put_m_le ?_;simp only[new_m];omega)) only [K54r0,K54r1,K54r2,K54r7,K54,Abs.W,reduceIte,Nat.reduceEqDiff,kLoop_def,kMapE,lv,Nat.zero_add]
  generalize hlp:loopN _ rounds _ _ _ _ _=q1
  obtain ⟨e,L1,s1,rfl,rfl,f3,hg,hn,hs1,hm1,hm2⟩:=loop_of hlp (fun i L t=>L.find 3=.map u.n∧L.find 7=v∧L.find 8=.int .i64 f.length∧L.find 9=.int .i64 (i:Nat)∧t.h.get u.n=some (.map (mapV (plOf f i)))∧t.n=u.n+1∧(∀ c,c<u.n→t.h.get c=u.h.get c)∧u.n≤t.m∧t.m≤far)
   (fun e L t=>e=.exit 0∧L.find 3=.map u.n∧t.h.get u.n=some (.map (mapV (plAll f)))∧t.n=u.n+1∧(∀ c,c<u.n→t.h.get c=u.h.get c)∧u.n≤t.m∧t.m≤far) f.length (by unfold rounds;omega)
   ⟨by simp only [find_cons,reduceIte,Nat.reduceEqDiff],by simp only [find_cons,reduceIte,Nat.reduceEqDiff],by simp only [find_cons,reduceIte,Nat.reduceEqDiff],by simp only [find_cons,reduceIte,Nat.reduceEqDiff];rfl,get_new_eq _ _ _ rfl (by omega),by rw [new_n],fun c hc=>get_new_ne _ _ _ (by omega),by rw [new_m];omega,by rw [new_m];omega⟩
   (fun i L t hi ⟨q3,q7,q8,q9,hg,hn,hsm,hm1,hm2⟩=>by
    by_cases hlt:i<f.length
    ·have e0:decide ((i:Int)<(f.length:Int))=true:=decide_eq_true (by omega)
     have hRt:RowsAt t.h t.n 1 (natRows f) v:=hR.grow hsm (by omega)
     obtain ⟨b,p,c,sz,r1,r2,r3,r4⟩:=natRow hRt hlt
     have ea:at0 f i=f[i]:=by simp [at0,List.getD,hlt]
     have up:=upd_map (plOf f i) (f[i]:Nat) (i:Nat) u.n t hg
     have ep:putP (plOf f i) (f[i]:Nat) (i:Nat)=plOf f (i+1):=by rw [← ea];rfl
     rw [ep] at up
     have ad:∀ s,aAdd s .i64 (i:Int) 1=.val (.int .i64 ((i:Int)+1)) s:=fun s=>aAdd_i64 s _ _ (by omega)
     refine .inl ⟨hlt,_,_,by
      simp (disch:=first|omega|(with_unfolding_all exact rfl)|(simp only[new_n,put_n,new_m];omega)|(refine put_m_le ?_;simp only[new_m];omega)) only [K54r3,K54r4,K54r5,K54r6,K54l0,Abs.W,reduceIte,Nat.reduceEqDiff,efs,q3,q7,q8,q9,e0,r2,r3,r4,kUpdE,uk,up,ad]
      rfl,?_,?_,?_,?_,get_put_eq _ _ _ _ rfl (by omega),by rw [put_n];exact hn,fun c hc=>by rw [get_put_ne' _ _ _ _ (by omega)];exact hsm c hc,by simp only [St.put,minN_eq];omega,by simp only [St.put,minN_eq];omega⟩
     ·simp only [efs,q3,reduceIte,Nat.reduceEqDiff]
     ·simp only [efs,q7,reduceIte,Nat.reduceEqDiff]
     ·simp only [efs,q8,reduceIte,Nat.reduceEqDiff]
     ·simp only [efs,reduceIte,Nat.reduceEqDiff];rfl
    ·obtain rfl:i=f.length:=by omega
     have e0:decide ((f.length:Int)<(f.length:Int))=false:=by simp
     refine .inr ⟨.exit 0,L.set 10 (.bool false),t,by simp,?_,rfl,?_,hg,hn,hsm,hm1,hm2⟩
     ·simp (disch:=first|omega|(with_unfolding_all exact rfl)|(simp only[new_n,put_n,new_m];omega)|(refine put_m_le ?_;simp only[new_m];omega)) only [K54r3,K54r4,K54r5,K54r6,K54l0,Abs.W,reduceIte,efs,q8,q9,e0]
     ·simp only [efs,q3,reduceIte,Nat.reduceEqDiff])
  simp (disch:=first|omega|(with_unfolding_all exact rfl)|(simp only[new_n,put_n,new_m];omega)|(refine put_m_le ?_;simp only[new_m];omega)) only [res54,Abs.W,reduceIte,Nat.reduceEqDiff,efs,f3]
  exact ⟨_,_,rfl,⟨hs1,by omega,by omega,hm1,hm2⟩,rfl,rfl,hn,hg⟩)
 exact ⟨t,hr.symm.trans e,st,hq,hg⟩
end Go.Proofs.Ythbhjgbpjlnbcaa.walk
set_option maxRecDepth 10000
namespace Go.Abs
theorem ixa8 (s:St) (b i:Nat) (h:i<8):ixaA 8 1 s (.ptr b 0) (.int .i64 (i:Int))=.val (.ptr b i) s:=by
 show placeA s b 0 8 1 i=_
 unfold placeA
 rw [Nat.ble_eq_true_of_le (show Nat.succ i≤8 from h)]
 show ARes.val (.ptr b (0+i * 1)) s=_
 rw [Nat.zero_add,Nat.mul_one]
def pl8 (i:Nat):Nat:=if 8=i then 0 else i
theorem sliceArr_from (s:St) (b i:Nat) (h:i≤8):sliceArr 8 1 (some (.int .i64 (i:Int))) none s (.ptr b 0)=.val (.slice b (pl8 i) (8 - i) (8 - i) false) s:=by
 have e1:boundsA 8 8 (some (.int .i64 (i:Int))) none=some (i,8):=by
  unfold boundsA hiA loA
  simp only [boundA_nat _ _ _ h]
 unfold sliceArr
 simp only [e1,Nat.zero_add,Nat.mul_one]
 rfl
theorem sliceArr_to (s:St) (b i:Nat) (h:i≤8):sliceArr 8 1 none (some (.int .i64 (i:Int))) s (.ptr b 0)=.val (.slice b 0 i 8 false) s:=by
 have e1:boundsA 8 8 none (some (.int .i64 (i:Int)))=some (0,i):=by
  unfold boundsA hiA loA
  simp only [boundA_nat _ _ _ h]
 unfold sliceArr
 simp only [e1]
 rfl
theorem aRem_nat (s:St) (a b:Nat) (h:0<b):aRem s .i64 (a:Int) (b:Int)=.val (.int .i64 ((a % b:Nat):Int)) s:=by
 unfold aRem
 rw [if_neg (by omega)]
 have e:((a:Int).tmod (b:Int))=((a % b:Nat):Int):=rfl
 rw [e]
theorem aQuo_nat (s:St) (a b:Nat) (h:0<b) (ha:a≤9223372036854775807):aQuo s .i64 (a:Int) (b:Int)=.val (.int .i64 ((a / b:Nat):Int)) s:=by
 unfold aQuo
 rw [if_neg (by omega)]
 have e:((a:Int).tdiv (b:Int))=((a / b:Nat):Int):=rfl
 have h1:=Nat.div_le_self a b
 rw [e]
 generalize a / b=q at h1 ⊢
 rw [wrap_in _ (by omega)]
end Go.Abs
namespace Go.Proofs.Ythbhjgbpjlnbcaa.walk
open Go.Abs Go.Proofs.Ythbhjgbpjlnbcaa.code
def arr (f:List Nat):List AV:=(natRows f).flatten
theorem arr_nth {f:List Nat} {k:Nat} (hk:k<f.length):nth (arr f) k=.int .i64 (f.getD k 0:Nat):=natRows_nth hk
theorem arr_over {f:List Nat} {k:Nat} (hk:k<f.length) (x:Nat):over k [.int .i64 (x:Int)] (arr f)=some (arr (f.set k x)):=natRows_over hk x
theorem arr_len (f:List Nat):(arr f).length=f.length:=by unfold arr;rw [flatten_len (natRows_wide f),natRows_len,Nat.mul_one]
theorem arr_scal (f:List Nat):scalars (arr f)=true:=scalars_flatten fun r hr=>by
 unfold natRows intRows at hr
 obtain ⟨x,_,rfl⟩:=List.mem_map.mp hr
 rfl
theorem arr_all {f:List Nat} (h:f.length=8):cut 0 8 (arr f)=some (arr f):=by
 have:=cut1_all (arr f)
 rw [arr_len,h] at this
 rw [cut_zero];exact this
theorem arr_overAll {f g:List Nat} (h:f.length=8) (hg:g.length=8):over 0 (arr g) (arr f)=some (arr g):=over_zero _ _ (by rw [arr_len,arr_len,h,hg])
theorem arr_plains (f:List Nat):plain (.agg (arr f))=true:=by
 unfold arr natRows intRows
 induction f with
 | nil=>rfl
 | cons a f ih =>
  rw [List.map_cons,List.map_cons,List.flatten_cons]
  exact ih
theorem arr_zero:([.int .i64 0,.int .i64 0,.int .i64 0,.int .i64 0,.int .i64 0,.int .i64 0,.int .i64 0,.int .i64 0]:List AV)=arr (List.replicate 8 0):=rfl
def drop8 (f:List Nat) (p:Nat):List Nat:=f.eraseIdx p++[f.getD 7 0]
theorem drop8_len {f:List Nat} {p:Nat} (h:f.length=8) (hp:p<8):(drop8 f p).length=8:=by unfold drop8;rw [List.length_append,List.length_eraseIdx_of_lt (by omega),h];rfl
theorem arr_app (f g:List Nat):arr (f++g)=arr f++arr g:=by unfold arr natRows intRows;rw [List.map_append,List.map_append,List.flatten_append]
theorem arr_shift {f:List Nat} {p:Nat} (h:f.length=8) (hp:p<8):over p (arr (f.drop (p+1))) (arr f)=some (arr (drop8 f p)):=by
 have e:f=f.take p++f.drop p:=(List.take_append_drop p f).symm
 have e2:arr f=arr (f.take p)++(arr ((f.drop p).take (7 - p))++arr ((f.drop p).drop (7 - p))):=by
  rw [← arr_app,← arr_app,List.take_append_drop,List.take_append_drop]
 have l1:(arr (f.take p)).length=p:=by rw [arr_len,List.length_take];omega
 have:=over_skip (arr (f.take p)) (arr ((f.drop p).take (7 - p))++arr ((f.drop p).drop (7 - p))) (arr (f.drop (p+1))) 0
 rw [Nat.add_zero,l1] at this
 rw [e2,this,over_head _ _ _ (by rw [arr_len,arr_len,List.length_drop,List.length_take,List.length_drop];omega)]
 show some (arr (f.take p)++(arr (f.drop (p+1))++arr ((f.drop p).drop (7 - p))))=_
 rw [← arr_app,← arr_app]
 congr 2
 unfold drop8
 rw [List.eraseIdx_eq_take_drop_succ,List.append_assoc,List.drop_drop,show p+(7 - p)=7 by omega]
 congr 2
 rw [List.drop_eq_getElem_cons (by omega),List.drop_eq_nil_of_le (by omega)]
 simp [List.getD,h]
theorem without_ok (N:Nat) (hN:1≤N) {f:List Nat} {p:Nat} (h:f.length=8) (hp:p<8) (s:St) (hs:s.n+20≤far) :
  call Try.prog X N (.fn 53) [.agg (arr f),.int .i64 (p:Int)] s=.val (.agg (arr (drop8 f p))) s:=by
 obtain ⟨n,rfl⟩:∃ n,N=n+1:=⟨N - 1,by omega⟩
 refine call_plain' Try.func53 (fun u uh un um=>?_) (arr_plains _)
 have hf:far=1000000000:=rfl
 obtain ⟨w,hw⟩:∃ w:St,w=(u.new (.cells (arr f) (tag 69))).new (.cells (arr (List.replicate 8 0)) (tag 69)):=⟨_,rfl⟩
 have wn:w.n=u.n+2:=by rw [hw];rfl
 have wm:w.m=far:=by rw [hw];exact um
 have w0:w.h.get u.n=some (.cells (arr f) (tag 69)):=by rw [hw,get_new_ne _ _ _ (by simp only [new_n];omega)];exact get_new_eq _ _ _ rfl (by omega)
 have w1:w.h.get (u.n+1)=some (.cells (arr (List.replicate 8 0)) (tag 69)):=by rw [hw];exact get_new_eq _ _ _ rfl (by simp only [new_n];omega)
 have ad:∀ s,aAdd s .i64 (p:Int) 1=.val (.int .i64 ((p+1:Nat):Int)) s:=fun s=>by rw [aAdd_i64 s _ _ (by omega)];rfl
 have sl1:=fun s=>sliceArr_from s u.n p (by omega)
 have sl2:=fun s=>sliceArr_from s u.n (p+1) (by omega)
 have cp:copyA 1 w (.slice u.n (pl8 p) (8 - p) (8 - p) false) (.slice u.n (pl8 (p+1)) (8 - (p+1)) (8 - (p+1)) false)=.val (.int .i64 ((8 - (p+1):Nat):Int)) (w.put u.n (.cells (arr (drop8 f p)) (tag 69))):=by
  have e1:Nat.min (8 - (p+1)) (8 - p)=8 - (p+1):=Nat.min_eq_left (by omega)
  have e2:firstA 1 (8 - (p+1)) w (.slice u.n (pl8 (p+1)) (8 - (p+1)) (8 - (p+1)) false)=some (arr (f.drop (p+1))):=by
   show (match w.h.get u.n with | some (.cells c _)=>Abs.cut (pl8 (p+1)) ((8 - (p+1)) * 1) c | some (.fam c _ k _)=>Abs.cut (pl8 (p+1)) ((8 - (p+1)) * 1) (c.take k) | _=>none)=_
   rw [w0]
   simp only [Nat.mul_one]
   unfold pl8
   by_cases h8:8=p+1
   ·rw [if_pos h8,← h8,Nat.sub_self,cut_zero,cut1_zero,List.drop_eq_nil_of_le (by omega)]
    rfl
   ·rw [if_neg h8]
    have e3:arr f=arr (f.take (p+1))++arr (f.drop (p+1)):=by rw [← arr_app,List.take_append_drop]
    have l1:(arr (f.take (p+1))).length=p+1:=by rw [arr_len,List.length_take];omega
    have:=cut_skip (arr (f.take (p+1))) (arr (f.drop (p+1))) 0 (8 - (p+1))
    rw [Nat.add_zero,l1] at this
    rw [e3,this,cut_zero]
    have:=cut1_all (arr (f.drop (p+1)))
    rw [arr_len,List.length_drop,h] at this
    exact this
  have e4:pl8 p=p:=if_neg (by omega)
  rw [e4]
  unfold copyA
  simp only [lenA,e1,e2,arr_scal,w0,arr_shift h hp]
 rw [enter53]
 have kb:∀ s:St,boxA (tag 69) s (.agg (arr f))=.val (.ptr s.n 0) (s.new (.cells (arr f) (tag 69))):=fun s=>rfl
 simp (disch:=first|omega|(with_unfolding_all exact rfl)|(simp only[new_n,put_n,new_m];omega)|(refine put_m_le ?_;simp only[new_m];omega)) only [K53,K53r0,Abs.W,reduceIte,Nat.reduceEqDiff,Nat.reduceAdd,arr_zero]
 rw [← hw]
 simp (disch:=first|omega|(with_unfolding_all exact rfl)|(simp only[new_n,put_n,new_m];omega)|(refine put_m_le ?_;simp only[new_m];omega)) only [K53r1,Abs.W,reduceIte,Nat.reduceEqDiff,ad,kSlice_def,optEv_some,optEv_none,sl1,sl2,cp,new_n]
 obtain ⟨z,hz⟩:∃ z:St,z=w.put u.n (.cells (arr (drop8 f p)) (tag 69)):=⟨_,rfl⟩
 have zn:z.n=u.n+2:=by rw [hz];exact wn
 have zm:u.n≤z.m:=by rw [hz];simp only [St.put,minN_eq];omega
 have z0:z.h.get u.n=some (.cells (arr (drop8 f p)) (tag 69)):=by rw [hz];exact get_put_eq _ _ _ _ rfl (by omega)
 have z1:z.h.get (u.n+1)=some (.cells (arr (List.replicate 8 0)) (tag 69)):=by rw [hz,get_put_ne' _ _ _ _ (by omega)];exact w1
 have l8:=drop8_len h hp
 have al:=arr_all l8
 have ao:=arr_overAll (f:=List.replicate 8 0) (g:=drop8 f p) rfl l8
 have asx:=arr_scal (drop8 f p)
 have aln:=arr_len (drop8 f p)
 rw [← hz]
 simp (disch:=first|omega|(with_unfolding_all exact rfl)|(simp only[new_n,put_n,new_m];omega)|(refine put_m_le ?_;simp only[new_m];omega)) only [K53r2,res53,Abs.W,reduceIte,Nat.reduceEqDiff,z0,z1,al,ao,asx,aln,l8]
 have sh8:shapeT Try.prog 69=some (some 8):=by kernel_rfl
 refine ⟨_,leave_cell _ _ _ _ sh8 ?_,?_⟩
 ·simp only [find_cons,reduceIte,Nat.reduceEqDiff]
  rw [load_ptr,get_put_eq _ _ _ _ rfl (by omega),loadO_cells,partS_some,al]
  rfl
 ·simp only [St.put,minN_eq];omega
end Go.Proofs.Ythbhjgbpjlnbcaa.walk
set_option maxRecDepth 10000
namespace Go.Proofs.Ythbhjgbpjlnbcaa.walk
open Go.Abs Go.Proofs.Ythbhjgbpjlnbcaa.code
def tok:List Appl→Nat
 | []=>0
 | a::r=>a.token.toNat+tok r
theorem tok_snoc (l:List Appl) (a:Appl):tok (l++[a])=tok l+a.token.toNat:=by
 induction l with
 | nil=>simp [tok]
 | cons b l ih=>rw [List.cons_append];show b.token.toNat+tok (l++[a])=b.token.toNat+tok l+_;omega
theorem tok_le:∀ {l:List Appl},(∀ a ∈ l,a.token≤1000000000)→tok l≤l.length * 1000000000
 | [],_=>by simp [tok]
 | a::l,h=>by
  have h1:=h a (List.mem_cons_self ..)
  have h2:=tok_le (l:=l) fun x hx=>h x (List.mem_cons_of_mem _ hx)
  show a.token.toNat+tok l≤(l.length+1) * 1000000000
  omega
def leftF (i:Nat):List Nat:=List.range i++List.replicate (8 - i) 0
theorem set_rep {d:List Nat} {k x:Nat}:(d++List.replicate (k+1) 0).set d.length x=(d++[x])++List.replicate k 0:=by
 rw [List.set_append_right _ _ (Nat.le_refl _),Nat.sub_self,List.replicate_succ,List.set_cons_zero,List.append_assoc]
 rfl
theorem leftF_set {i:Nat} (h:i<8):(leftF i).set i i=leftF (i+1):=by
 unfold leftF
 obtain ⟨k,hk⟩:∃ k,8 - i=k+1:=⟨7 - i,by omega⟩
 have:=set_rep (d:=List.range i) (k:=k) (x:=i)
 rw [List.length_range] at this
 rw [hk,this,List.range_succ,show 8 - (i+1)=k by omega]
theorem leftF_len {i:Nat} (h:i≤8):(leftF i).length=8:=by unfold leftF;rw [List.length_append,List.length_range,List.length_replicate];omega
theorem take_erase:∀ {l:List Nat} {p k:Nat},p≤k→(l.eraseIdx p).take k=(l.take (k+1)).eraseIdx p
 | [],p,k,_=>by simp
 | a::l,0,k,_=>by simp
 | a::l,p+1,k,h=>by
  obtain ⟨k',rfl⟩:∃ k',k=k'+1:=⟨k - 1,by omega⟩
  rw [List.eraseIdx_cons_succ,List.take_succ_cons,List.take_succ_cons,List.eraseIdx_cons_succ,take_erase (by omega)]
theorem drop8_take {f:List Nat} {p k:Nat} (h:f.length=8) (hp:p≤k) (hk:k≤7):(drop8 f p).take k=(f.take (k+1)).eraseIdx p:=by
 unfold drop8
 rw [List.take_append_of_le_length (by rw [List.length_eraseIdx_of_lt (by omega)];omega),take_erase hp]
structure DrawJ (w t:St) (b:Nat) (lf df:List Nat) (kk:Nat):Prop where
 g3:t.h.get (b+2)=some (.cells (arr lf) (tag 69))
 g4:t.h.get (b+3)=some (.cells (arr df) (tag 69))
 same:∀ c,c<w.n→c≠b+2→c≠b+3→t.h.get c=w.h.get c
 n:w.n≤t.n
 le:t.n≤w.n+kk
 m:b≤t.m
 mle:t.m≤far
theorem draw_round1 (N:Nat) (cx:Ctx) {no na:Nat→Prop} {w t:St} {b i kk:Nat} {l:Letting} {vS vA:AV} {L:Env} {df:List Nat} (J:DrawJ w t b (leftF i) df kk) (ok:l.Ok) (hL:LetAt no na w.h b l vS vA) (hw:w.n=b+4) (hi:i<l.appls.length) (hs:w.n+kk+100≤far)
  (q3:L.find 3=.ptr (b+2) 0) (q5:L.find 5=.int .i64 (tok (l.appls.take i):Nat)) (q12:L.find 12=vA) (q13:L.find 13=.int .i64 l.appls.length) (q14:L.find 14=.int .i64 (i:Nat)) :
  ∃ L1 t1,K36l0 (call Try.prog X N) cx L [] t=.done .norm L1 [] t1∧DrawJ w t1 b (leftF (i+1)) df (kk+1)∧L1.find 5=.int .i64 (tok (l.appls.take (i+1)):Nat)∧L1.find 14=.int .i64 (i+1:Nat)∧(∀ c,c<5→L1.find c=L.find c)∧L1.find 12=vA∧L1.find 13=.int .i64 l.appls.length:=by
 have hf:far=1000000000:=rfl
 obtain ⟨j3,j4,js,jn,jle,jm,jml⟩:=J
 have m1:=ok.m1
 have e0:decide ((i:Int)<(l.appls.length:Int))=true:=decide_eq_true (by omega)
 have hT:LetAt no na t.h b l vS vA:=hL.grow (fun c hc=>js c (by omega) (by omega) (by omega)) (Nat.le_refl _)
 obtain ⟨ww,p,o,cs,sz,r1,r2,r3,r4,r5,r6⟩:=hT.getA hi
 obtain ⟨y0,y1,t0,t1,wk,nd,wl,bl,bb⟩:=ok.ap _ (List.getElem_mem hi)
 have hk:tok (l.appls.take (i+1))=tok (l.appls.take i)+(l.appls[i]).token.toNat:=by rw [take_snoc hi,tok_snoc]
 have hle:=tok_le (l:=l.appls.take i) (fun a ha=>(ok.ap a (List.mem_of_mem_take ha)).t1)
 rw [List.length_take,Nat.min_eq_left (by omega)] at hle
 obtain ⟨w1,w2⟩:=ww
 simp only at r4 r5 r6
 generalize l.appls[i]=M at *
 have ad:∀ s,aAdd s .i64 (i:Int) 1=.val (.int .i64 ((i:Int)+1)) s:=fun s=>aAdd_i64 s _ _ (by omega)
 have at_:∀ s,aAdd s .i64 ((tok (l.appls.take i):Nat):Int) M.token=.val (.int .i64 ((tok (l.appls.take (i+1)):Nat):Int)) s:=fun s=>by rw [aAdd_i64 s _ _ (by omega)];congr 2;omega
 have sc:scalars [.int .i64 M.years,.int .i64 M.token,w1,w2]=true:=by
  rw [scal_int,scal_int,r5.scal.2.2];exact r6.scal.1
 obtain ⟨y,hy⟩:∃ y:St,y=(t.new (.cells [.int .i64 0,.int .i64 0,.nilslice,.nilslice] (tag 37))).put t.n (.cells [.int .i64 M.years,.int .i64 M.token,w1,w2] (tag 37)):=⟨_,rfl⟩
 have yn:y.n=t.n+1:=by rw [hy];rfl
 have ym:y.m=min t.m t.n:=by rw [hy];simp only [St.put,minN_eq,new_m]
 have yg:∀ c,c<t.n→y.h.get c=t.h.get c:=fun c hc=>by rw [hy,get_put_ne' _ _ _ _ (by omega),get_new_ne _ _ _ (by omega)]
 have yp:y.h.get t.n=some (.cells [.int .i64 M.years,.int .i64 M.token,w1,w2] (tag 37)):=by rw [hy];exact get_put_eq _ _ _ _ rfl (by omega)
 have y3:=(yg (b+2) (by omega)).trans j3
 have ix:=fun s=>ixa8 s (b+2) i (by omega)
 have ov:=arr_over (f:=leftF i) (k:=i) (by rw [leftF_len (by omega)];omega) i
 rw [leftF_set (by omega)] at ov
 simp (disch:=first|omega|(with_unfolding_all exact rfl)|(simp only[new_n,put_n,new_m];omega)|(refine put_m_le ?_;simp only[new_m];omega)) only [K36r4,K36r5,K36r6,K36r7,K36r8,K36l0,Abs.W,reduceIte,Nat.reduceEqDiff,Nat.reduceAdd,Nat.reduceSub,efs,q3,q12,q13,q14,e0,r2,r3,r4,sc,Nat.zero_add]
 rw [← hy]
 simp (disch:=first|omega|(with_unfolding_all exact rfl)|(simp only[new_n,put_n,new_m];omega)|(refine put_m_le ?_;simp only[new_m];omega)) only [Abs.W,reduceIte,Nat.reduceEqDiff,Nat.reduceSub,efs,q5,q14,y3,ix,ov,yp,at_,ad,Nat.zero_add]
 refine ⟨_,_,rfl,⟨get_put_eq _ _ _ _ rfl (by omega),?_,fun c h1 h2 h3=>?_,by simp only [put_n];omega,by simp only [put_n];omega,?_,?_⟩,by simp only [efs,reduceIte,Nat.reduceEqDiff],by simp only [efs,reduceIte,Nat.reduceEqDiff];rfl,fun c hc=>?_,by simp only [efs,q12,reduceIte,Nat.reduceEqDiff],by simp only [efs,q13,reduceIte,Nat.reduceEqDiff]⟩
 ·rw [get_put_ne' _ _ _ _ (by omega),yg _ (by omega)];exact j4
 ·rw [get_put_ne' _ _ _ _ (by omega),yg _ (by omega)];exact js c h1 h2 h3
 ·simp only [St.put,minN_eq];omega
 ·simp only [St.put,minN_eq];omega
 ·simp only [efs]
  repeat rw [if_neg (by omega)]
theorem draw_round2 (N:Nat) (hN:1≤N) (cx:Ctx) {w t:St} {b i kk n T:Nat} {l:Letting} {vS vA:AV} {L:Env} {lf R done:List Nat} (J:DrawJ w t b lf (done++List.replicate (8 - i) 0) kk) (hw:w.n=b+4) (g1:w.h.get b=some (.cells [vS,vA] (tag 28))) (hl:∀ s,lenSlA s vA=.val (.int .i64 (n:Int)) s) (kA:∀ t,okA (.val vA t)=.val vA t)
  (hi:i<n) (hn:n≤8) (hlf:lf.length=8) (hd:done.length=i) (hR:R.length=n - i) (hlR:lf.take (n - i)=R) (hT:T≤9000000000) (hs:w.n+kk+100≤far)
  (q1:L.find 1=.ptr b 0) (q3:L.find 3=.ptr (b+2) 0) (q4:L.find 4=.ptr (b+3) 0) (q5:L.find 5=.int .i64 (T:Nat)) (q29:L.find 29=.int .i64 (n:Int)) (q30:L.find 30=.int .i64 (i:Nat)) :
  ∃ L1 t1,K36l1 (call Try.prog X N) cx L [] t=.done .norm L1 [] t1∧DrawJ w t1 b (drop8 lf (T % (n - i))) ((done++[R.getD (T % (n - i)) 0])++List.replicate (8 - (i+1)) 0) kk∧(drop8 lf (T % (n - i))).take (n - (i+1))=R.eraseIdx (T % (n - i))∧L1.find 5=.int .i64 (T / (n - i):Nat)∧L1.find 30=.int .i64 (i+1:Nat)∧(∀ c,c<5→L1.find c=L.find c)∧L1.find 29=.int .i64 (n:Int):=by
 have hf:far=1000000000:=rfl
 obtain ⟨j3,j4,js,jn,jle,jm,jml⟩:=J
 have e0:decide ((i:Int)<(n:Int))=true:=decide_eq_true (by omega)
 have gb:=(js b (by omega) (by omega) (by omega)).trans g1
 obtain ⟨m,hm⟩:∃ m,m=n - i:=⟨_,rfl⟩
 rw [← hm] at hR hlR ⊢
 have sb:∀ s,aSub s .i64 (n:Int) (i:Int)=.val (.int .i64 (m:Int)) s:=fun s=>by rw [aSub_i64 s _ _ (by omega)];congr 2;omega
 have rm:∀ s,aRem s .i64 (T:Int) (m:Int)=.val (.int .i64 ((T % m:Nat):Int)) s:=fun s=>aRem_nat s T m (by omega)
 have qm:∀ s,aQuo s .i64 (T:Int) (m:Int)=.val (.int .i64 ((T / m:Nat):Int)) s:=fun s=>aQuo_nat s T m (by omega) (by omega)
 have hlt:T % m<m:=Nat.mod_lt _ (by omega)
 generalize T / m=T2 at *
 generalize T % m=p at *
 have ad:∀ s,aAdd s .i64 (i:Int) 1=.val (.int .i64 ((i:Int)+1)) s:=fun s=>aAdd_i64 s _ _ (by omega)
 have ixl:=fun s=>ixa8 s (b+2) p (by omega)
 have ixd:=fun s=>ixa8 s (b+3) i (by omega)
 have nl:=arr_nth (f:=lf) (k:=p) (by omega)
 have eR:R.getD p 0=lf.getD p 0:=by rw [← hlR];simp [List.getD,hlt]
 obtain ⟨k8,hk8⟩:∃ k8,8 - i=k8+1:=⟨7 - i,by omega⟩
 have dl:(done++List.replicate (8 - i) 0).length=8:=by rw [List.length_append,List.length_replicate];omega
 have ov:=arr_over (f:=done++List.replicate (8 - i) 0) (k:=i) (by omega) (lf.getD p 0)
 have ov2:(done++List.replicate (8 - i) 0).set i (lf.getD p 0)=(done++[R.getD p 0])++List.replicate (8 - (i+1)) 0:=by
  rw [hk8,eR,← hd,set_rep,show 8 - (done.length+1)=k8 by omega]
 rw [ov2] at ov
 have al:=arr_all hlf
 have wo:=without_ok N hN (f:=lf) (p:=p) hlf (by omega)
 have l8:=drop8_len (f:=lf) (p:=p) hlf (by omega)
 have ao:=arr_overAll (f:=lf) (g:=drop8 lf p) hlf l8
 have asx:=arr_scal (drop8 lf p)
 have aln:=arr_len (drop8 lf p)
 simp (disch:=first|omega|(with_unfolding_all exact rfl)|(simp only[new_n,put_n,new_m];omega)|(refine put_m_le ?_;simp only[new_m];omega)) only [K36r10,K36r11,K36r12,K36r13,K36r14,K36r15,K36r16,K36r17,K36l1,Abs.W,reduceIte,Nat.reduceEqDiff,Nat.reduceSub,efs,q1,q3,q4,q5,q29,q30,gb,hl,kA,e0,sb,rm,qm,ixl,ixd,j3,j4,nl,ov,al,wo,ao,asx,aln,l8,ad,Nat.zero_add]
 refine ⟨_,_,rfl,⟨get_put_eq _ _ _ _ rfl (by omega),?_,fun c h1 h2 h3=>?_,by simp only [put_n];omega,by simp only [put_n];omega,?_,?_⟩,?_,by simp only [efs,reduceIte,Nat.reduceEqDiff],by simp only [efs,reduceIte,Nat.reduceEqDiff];rfl,fun c hc=>?_,by simp only [efs,q29,reduceIte,Nat.reduceEqDiff]⟩
 ·rw [get_put_ne' _ _ _ _ (by omega)];exact get_put_eq _ _ _ _ rfl (by omega)
 ·rw [get_put_ne' _ _ _ _ (by omega),get_put_ne' _ _ _ _ (by omega)];exact js c h1 h2 h3
 ·simp only [St.put,minN_eq];omega
 ·simp only [St.put,minN_eq];omega
 ·rw [drop8_take hlf (by omega) (by omega),show n - (i+1)+1=m by omega,hlR]
 ·simp only [efs]
  repeat rw [if_neg (by omega)]
def drawL (l:Letting):List Nat:=pickL l.appls.length (tok l.appls) (List.range l.appls.length)
theorem drawL_len (l:Letting):(drawL l).length=l.appls.length:=pickL_len _ _ _
theorem draw_ok (N:Nat) (hN:2≤N) {no na:Nat→Prop} (l:Letting) (ok:l.Ok) (vS vA:AV) (s:St) (hL:LetAt no na s.h s.n l vS vA) (hs:s.n+1000≤far) :
  call Try.prog X N (.fn 36) [.agg (letV vS vA)] s=.val (.agg (arr (drawL l++List.replicate (8 - l.appls.length) 0))) s:=by
 obtain ⟨n,rfl⟩:∃ n,N=n+1:=⟨N - 1,by omega⟩
 refine call_plain' Try.func36 (fun u uh un um=>?_) (arr_plains _)
 have hf:far=1000000000:=rfl
 rw [← uh,← un] at hL
 have kA:=hL.okV
 have lA:=hL.lenA
 have m1:=ok.m1
 obtain ⟨w,hw⟩:∃ w:St,w=(((u.new (.cells [vS,vA] (tag 28))).new (.cells (arr (List.replicate 8 0)) (tag 69))).new (.cells (arr (List.replicate 8 0)) (tag 69))).new (.cells (arr (List.replicate 8 0)) (tag 69)):=⟨_,rfl⟩
 have wn:w.n=u.n+4:=by rw [hw];rfl
 have wm:w.m=far:=by rw [hw];exact um
 have wg:∀ c,c<u.n→w.h.get c=u.h.get c:=fun c hc=>by rw [hw,get_new_ne _ _ _ (by simp only [new_n];omega),get_new_ne _ _ _ (by simp only [new_n];omega),get_new_ne _ _ _ (by simp only [new_n];omega),get_new_ne _ _ _ (by omega)]
 have w0:w.h.get u.n=some (.cells [vS,vA] (tag 28)):=by rw [hw,get_new_ne _ _ _ (by simp only [new_n];omega),get_new_ne _ _ _ (by simp only [new_n];omega),get_new_ne _ _ _ (by simp only [new_n];omega)];exact get_new_eq _ _ _ rfl (by omega)
 have w1:w.h.get (u.n+1)=some (.cells (arr (List.replicate 8 0)) (tag 69)):=by rw [hw,get_new_ne _ _ _ (by simp only [new_n];omega),get_new_ne _ _ _ (by simp only [new_n];omega)];exact get_new_eq _ _ _ rfl (by simp only [new_n];omega)
 have w2:w.h.get (u.n+2)=some (.cells (arr (List.replicate 8 0)) (tag 69)):=by rw [hw,get_new_ne _ _ _ (by simp only [new_n];omega)];exact get_new_eq _ _ _ rfl (by simp only [new_n];omega)
 have w3:w.h.get (u.n+3)=some (.cells (arr (List.replicate 8 0)) (tag 69)):=by rw [hw];exact get_new_eq _ _ _ rfl (by simp only [new_n];omega)
 have hM:=hL.grow wg (Nat.le_refl _)
 rw [enter36]
 simp (disch:=first|omega|(with_unfolding_all exact rfl)|(simp only[new_n,put_n,new_m];omega)|(refine put_m_le ?_;simp only[new_m];omega)) only [K36,K36r0,K36r1,K36r2,K36r3,Abs.W,reduceIte,Nat.reduceEqDiff,Nat.reduceAdd,Nat.reduceSub,arr_zero]
 rw [← hw]
 simp (disch:=first|omega|(with_unfolding_all exact rfl)|(simp only[new_n,put_n,new_m];omega)|(refine put_m_le ?_;simp only[new_m];omega)) only [new_n,Abs.W,reduceIte,Nat.reduceEqDiff,kLoop_def,kA,lA]
 generalize hl1:loopN _ rounds _ _ _ _ _=q1
 obtain ⟨e,L1,t1,rfl,rfl,J1,f5,fc⟩:=loop_of hl1
  (fun i L' t=>DrawJ w t u.n (leftF i) (List.replicate 8 0) i∧L'.find 5=.int .i64 (tok (l.appls.take i):Nat)∧L'.find 14=.int .i64 (i:Nat)∧(L'.find 1=.ptr u.n 0∧L'.find 2=.ptr (u.n+1) 0∧L'.find 3=.ptr (u.n+2) 0∧L'.find 4=.ptr (u.n+3) 0)∧L'.find 12=vA∧L'.find 13=.int .i64 l.appls.length)
  (fun e L' t=>e=.exit 0∧DrawJ w t u.n (leftF l.appls.length) (List.replicate 8 0) l.appls.length∧L'.find 5=.int .i64 (tok l.appls:Nat)∧(L'.find 1=.ptr u.n 0∧L'.find 2=.ptr (u.n+1) 0∧L'.find 3=.ptr (u.n+2) 0∧L'.find 4=.ptr (u.n+3) 0))
  l.appls.length (by unfold rounds;omega) ⟨⟨w2,w3,fun _ _ _ _=>rfl,Nat.le_refl _,Nat.le_refl _,by omega,by omega⟩,by simp only [find_cons,reduceIte,Nat.reduceEqDiff];rfl,by simp only [find_cons,reduceIte,Nat.reduceEqDiff];rfl,⟨by simp only [find_cons,reduceIte,Nat.reduceEqDiff],by simp only [find_cons,reduceIte,Nat.reduceEqDiff],by simp only [find_cons,reduceIte,Nat.reduceEqDiff],by simp only [find_cons,reduceIte,Nat.reduceEqDiff]⟩,by simp only [find_cons,reduceIte,Nat.reduceEqDiff],by simp only [find_cons,reduceIte,Nat.reduceEqDiff]⟩
  (fun i L' t hi ⟨hJ,q5,q14,⟨q1,q2,q3,q4⟩,q12,q13⟩=>by
   by_cases hlt:i<l.appls.length
   ·obtain ⟨L2,t2,z1,z2,z3,z4,z5,z6,z7⟩:=draw_round1 n _ hJ ok hM wn hlt (by omega) q3 q5 q12 q13 q14
    exact .inl ⟨hlt,L2,t2,z1,z2,z3,z4,⟨(z5 1 (by omega)).trans q1,(z5 2 (by omega)).trans q2,(z5 3 (by omega)).trans q3,(z5 4 (by omega)).trans q4⟩,z6,z7⟩
   ·obtain rfl:i=l.appls.length:=by omega
    have e0:decide ((l.appls.length:Int)<(l.appls.length:Int))=false:=by simp
    rw [List.take_length] at q5
    refine .inr ⟨.exit 0,L'.set 15 (.bool false),t,by simp,?_,rfl,hJ,?_,?_,?_,?_,?_⟩
    ·simp (disch:=first|omega|(with_unfolding_all exact rfl)|(simp only[new_n,put_n,new_m];omega)|(refine put_m_le ?_;simp only[new_m];omega)) only [K36r4,K36r5,K36r6,K36r7,K36r8,K36l0,Abs.W,reduceIte,efs,q13,q14,e0]
    all_goals simp only [efs,q1,q2,q3,q4,q5,reduceIte,Nat.reduceEqDiff])
 obtain ⟨f1,f2,f3,f4⟩:=fc
 have gb1:=(J1.same u.n (by omega) (by omega) (by omega)).trans w0
 simp (disch:=first|omega|(with_unfolding_all exact rfl)|(simp only[new_n,put_n,new_m];omega)|(refine put_m_le ?_;simp only[new_m];omega)) only [K36r9,Abs.W,reduceIte,Nat.reduceEqDiff,kLoop_def,Nat.reduceSub,f1,gb1,kA,lA,Nat.zero_add]
 generalize hl2:loopN _ rounds _ _ _ _ _=q2
 have tl:=tok_le (l:=l.appls) (fun a ha=>(ok.ap a ha).t1)
 obtain ⟨e,L2,t2,rfl,rfl,lf,J2,h2,h4⟩:=loop_of hl2
  (fun i L' t=>∃ lf R done T,DrawJ w t u.n lf (done++List.replicate (8 - i) 0) l.appls.length∧lf.length=8∧done.length=i∧R.length=l.appls.length - i∧lf.take (l.appls.length - i)=R∧T≤9000000000∧done++pickL (l.appls.length - i) T R=drawL l∧L'.find 5=.int .i64 (T:Nat)∧L'.find 30=.int .i64 (i:Nat)∧(L'.find 1=.ptr u.n 0∧L'.find 2=.ptr (u.n+1) 0∧L'.find 3=.ptr (u.n+2) 0∧L'.find 4=.ptr (u.n+3) 0)∧L'.find 29=.int .i64 l.appls.length)
  (fun e L' t=>e=.exit 2∧∃ lf,DrawJ w t u.n lf (drawL l++List.replicate (8 - l.appls.length) 0) l.appls.length∧L'.find 2=.ptr (u.n+1) 0∧L'.find 4=.ptr (u.n+3) 0)
  l.appls.length (by unfold rounds;omega) ⟨leftF l.appls.length,List.range l.appls.length,[],tok l.appls,J1,leftF_len (by omega),rfl,List.length_range,by
    unfold leftF
    rw [Nat.sub_zero,List.take_append_of_le_length (by rw [List.length_range];omega),List.take_of_length_le (by rw [List.length_range];omega)],by omega,rfl,by simp only [efs,f5,reduceIte,Nat.reduceEqDiff],by simp only [efs,reduceIte,Nat.reduceEqDiff];rfl,⟨by simp only [efs,f1,reduceIte,Nat.reduceEqDiff],by simp only [efs,f2,reduceIte,Nat.reduceEqDiff],by simp only [efs,f3,reduceIte,Nat.reduceEqDiff],by simp only [efs,f4,reduceIte,Nat.reduceEqDiff]⟩,by simp only [efs,reduceIte,Nat.reduceEqDiff]⟩
  (fun i L' t hi ⟨lf,R,done,T,hJ,c1,c2,c3,c4,c5,c6,q5,q30,⟨q1,q2,q3,q4⟩,q29⟩=>by
   by_cases hlt:i<l.appls.length
   ·obtain ⟨L3,t3,z1,z2,z3,z4,z5,z6,z7⟩:=draw_round2 n (by omega) ⟨36,none,Try.f36.ntmps,X 36⟩ (l:=l) hJ wn w0 lA kA hlt (by omega) c1 c2 c3 c4 c5 (by omega) q1 q3 q4 q5 q29 q30
    have hp:T % (l.appls.length - i)<l.appls.length - i:=Nat.mod_lt _ (by omega)
    refine .inl ⟨hlt,L3,t3,z1,_,R.eraseIdx (T % (l.appls.length - i)),done++[R.getD (T % (l.appls.length - i)) 0],_,z2,drop8_len c1 (by omega),by simp [c2],by rw [List.length_eraseIdx_of_lt (by omega)];omega,z3,Nat.le_trans (Nat.div_le_self ..) c5,?_,z4,z5,⟨(z6 1 (by omega)).trans q1,(z6 2 (by omega)).trans q2,(z6 3 (by omega)).trans q3,(z6 4 (by omega)).trans q4⟩,z7⟩
    rw [← c6,show l.appls.length - i=(l.appls.length - (i+1))+1 by omega]
    conv=>rhs;unfold pickL
    rw [c3,show l.appls.length - (i+1)+1=l.appls.length - i by omega,List.append_assoc]
    rfl
   ·obtain rfl:i=l.appls.length:=by omega
    have e0:decide ((l.appls.length:Int)<(l.appls.length:Int))=false:=by simp
    have c6':done=drawL l:=by rw [← c6,Nat.sub_self];show done=done++[];rw [List.append_nil]
    subst c6'
    refine .inr ⟨.exit 2,L'.set 31 (.bool false),t,by simp,?_,rfl,lf,hJ,?_,?_⟩
    ·simp (disch:=first|omega|(with_unfolding_all exact rfl)|(simp only[new_n,put_n,new_m];omega)|(refine put_m_le ?_;simp only[new_m];omega)) only [K36r10,K36r11,K36r12,K36r13,K36r14,K36r15,K36r16,K36r17,K36l1,Abs.W,reduceIte,efs,q29,q30,e0]
    all_goals simp only [efs,q2,q4,reduceIte,Nat.reduceEqDiff])
 have l8:(drawL l++List.replicate (8 - l.appls.length) 0).length=8:=by rw [List.length_append,List.length_replicate,drawL_len];omega
 have al:=arr_all l8
 have ao:=arr_overAll (f:=List.replicate 8 0) (g:=drawL l++List.replicate (8 - l.appls.length) 0) rfl l8
 have asx:=arr_scal (drawL l++List.replicate (8 - l.appls.length) 0)
 have aln:=arr_len (drawL l++List.replicate (8 - l.appls.length) 0)
 have g4:=J2.g4
 have g2:=(J2.same (u.n+1) (by omega) (by omega) (by omega)).trans w1
 have tn:=J2.n
 have tl2:=J2.le
 have tm:=J2.m
 generalize drawL l++List.replicate (8 - l.appls.length) 0=df at *
 simp (disch:=first|omega|(with_unfolding_all exact rfl)|(simp only[new_n,put_n,new_m];omega)|(refine put_m_le ?_;simp only[new_m];omega)) only [K36r18,res36,Abs.W,reduceIte,Nat.reduceEqDiff,h2,h4,g4,g2,al,ao,asx,aln,l8]
 have sh8:shapeT Try.prog 69=some (some 8):=by kernel_rfl
 refine ⟨_,leave_cell _ _ _ _ sh8 ?_,?_⟩
 ·simp only [h2]
  rw [load_ptr,get_put_eq _ _ _ _ rfl (by omega),loadO_cells,partS_some,al]
  rfl
 ·simp only [St.put,minN_eq];omega
end Go.Proofs.Ythbhjgbpjlnbcaa.walk
set_option maxRecDepth 10000
namespace Go.Proofs.Ythbhjgbpjlnbcaa.walk
open Go.Abs Go.Proofs.Ythbhjgbpjlnbcaa.code
theorem perm_ix:∀ {l:List Nat} {i:Nat} (h:i<l.length),List.Perm (l[i]::l.eraseIdx i) l
 | a::r,0,_=>List.Perm.refl _
 | a::r,i+1,h=>by
  show List.Perm (r[i]'(by simpa using h)::a::r.eraseIdx i) (a::r)
  exact (List.Perm.swap a _ _).trans ((perm_ix (by simpa using h)).cons a)
theorem pickL_perm:∀ (m T:Nat) (l:List Nat),l.length=m→List.Perm (pickL m T l) l
 | 0,_,l,h=>by rw [List.length_eq_zero_iff.mp h];exact List.Perm.nil
 | m+1,T,l,h=>by
  have hp:T % l.length<l.length:=Nat.mod_lt _ (by omega)
  unfold pickL
  have e:l.getD (T % l.length) 0=l[T % l.length]:=by simp [List.getD,hp]
  rw [e]
  exact (List.Perm.cons _ (pickL_perm m _ _ (by rw [List.length_eraseIdx_of_lt hp];omega))).trans (perm_ix hp)
theorem drawL_perm (l:Letting):List.Perm (drawL l) (List.range l.appls.length):=pickL_perm _ _ _ List.length_range
theorem drawL_nd (l:Letting):(drawL l).Nodup:=(drawL_perm l).nodup_iff.mpr List.nodup_range
theorem drawL_mem (l:Letting) {a:Nat}:a ∈ drawL l↔a<l.appls.length:=(drawL_perm l).mem_iff.trans List.mem_range
def drI (l:Letting):Int→Int:=getP (plAll (drawL l))
theorem drI_at (l:Letting) {a:Nat} (ha:a<l.appls.length):∃ i,i<l.appls.length∧at0 (drawL l) i=a∧drI l a=i:=by
 obtain ⟨i,h1,h2⟩:=mem_at.mp ((drawL_mem l).mpr ha)
 refine ⟨i,by rw [← drawL_len l];exact h1,h2,?_⟩
 rw [← h2];exact plAll_at (drawL_nd l) h1
theorem drI_lt {l:Letting} (ok:l.Ok) {a:Nat} (ha:a<l.appls.length):0≤drI l a∧drI l a≤7:=by
 obtain ⟨i,h1,_,h2⟩:=drI_at l ha
 have:=ok.m1
 omega
theorem drI_ne {l:Letting} {a b:Nat} (ha:a<l.appls.length) (hb:b<l.appls.length) (h:a≠b):drI l a≠drI l b:=by
 obtain ⟨i,_,h1,h2⟩:=drI_at l ha
 obtain ⟨j,_,h3,h4⟩:=drI_at l hb
 intro e
 have:i=j:=by omega
 subst this
 exact h (h1.symm.trans h3)
def canI (l:Letting) (st a:Nat):Bool:=(bidI l st a).2
def keyL (l:Letting) (st:Nat):Nat→Int:=keyI l st (drI l)
theorem keyL_ne {l:Letting} (ok:l.Ok) (st:Nat) {a b:Nat} (ha:a<l.appls.length) (hb:b<l.appls.length) (h:a≠b):keyL l st a≠keyL l st b:=(ahead_key ok st ha hb h (drI_lt ok ha) (drI_lt ok hb) (drI_ne ha hb h)).2
def ableL (l:Letting) (st:Nat):List Nat:=(List.range l.appls.length).filter (canI l st)
theorem ableL_mem {l:Letting} {st a:Nat}:a ∈ ableL l st↔a<l.appls.length∧canI l st a=true:=by
 unfold ableL;rw [List.mem_filter,List.mem_range]
theorem ableL_len {l:Letting} (ok:l.Ok) (st:Nat):(ableL l st).length≤8:=by
 have h1:=List.length_filter_le (canI l st) (List.range l.appls.length)
 rw [List.length_range] at h1
 have:=ok.m1
 unfold ableL;omega
structure RankOf (l:Letting) (st:Nat) (g:List Nat):Prop where
 same:Same (ableL l st) g (ableL l st).length
 up:Upto (keyL l st) g (ableL l st).length
theorem rows_take {h:Heap} {n b m k sz:Nat} {g:List Nat} (hg:h.get b=some (.cells (natRows g).flatten sz)) (hb:b<n) (hm:g.length=m) (hk:k≤m):RowsAt h n 1 (natRows (g.take k)) (.slice b 0 k m false):=by
 have hl:(natRows (g.take k)).length=k:=by rw [natRows_len,List.length_take];omega
 refine ⟨fun s=>by rw [hl];rfl,fun i hi=>⟨b,i,_,_,hb,fun s=>?_,hg,?_⟩⟩
 ·rw [hl] at hi
  rw [ixs_slice 1 s b 0 k m false i hi,Nat.zero_add,Nat.mul_one]
 ·rw [hl] at hi
  have hi2:i<(natRows g).length:=by rw [natRows_len];omega
  have:=flatten_cut (natRows_wide g) hi2
  rw [Nat.mul_one] at this
  rw [this]
  congr 1
  rw [natRows_at (show i<g.length by omega),natRows_at (show i<(g.take k).length by rw [List.length_take];omega)]
  simp [List.getD,hi]
theorem ranks_ex {N:Nat} {no na:Nat→Prop} {l:Letting} {vS vA:AV} {st:Nat} {s:St} {r:ARes} (hr:call Try.prog X N (.fn 49) [.agg (letV vS vA),.int .i64 (st:Int)] s=r) (hN:14≤N) (ok:l.Ok) (hst:st<l.stalls.length) (hL:LetAt no na s.h s.n l vS vA) (hs:s.n+600000≤far) :
  ∃ w bd g t,r=.val w t∧New s t 3000∧s.n≤bd∧IsAt t.h t.n bd 1 (tag 3) (natRows g) w∧RankOf l st g:=by
 obtain ⟨N,rfl⟩:∃ n,N=n+7:=⟨N - 7,by omega⟩
 have hf:far=1000000000:=rfl
 obtain ⟨w',t,e,st',bd,g,hq⟩:=call_new' (n:=N+6) (args:=[.agg (letV vS vA),.int .i64 (st:Int)]) (s:=s) (k:=3000) (Q:=fun w h n=>∃ bd g,s.n≤bd∧IsAt h n bd 1 (tag 3) (natRows g) w∧RankOf l st g) Try.func49 rfl (fun u uh un um=>by
  rw [← uh,← un] at hL
  rw [← un]
  have m1:=ok.m1
  have kA:=hL.okV
  have kS:=hL.okS
  have lA:=hL.lenA
  obtain ⟨ws,_,qA,_⟩:=hL.ap
  have sA:=qA.scal
  have sS:=hL.st.scal
  obtain ⟨w,hw⟩:∃ w:St,w=(u.new (.cells [vS,vA] (tag 28))).new (.cells [.int .i64 (st:Int)] (tag 3)):=⟨_,rfl⟩
  have wn:w.n=u.n+2:=by rw [hw];rfl
  have wm:w.m=far:=by rw [hw];exact um
  have wg:∀ c,c<u.n→w.h.get c=u.h.get c:=fun c hc=>by rw [hw,get_new_ne _ _ _ (by rw [new_n];omega),get_new_ne _ _ _ (by omega)]
  have w0:w.h.get u.n=some (.cells [vS,vA] (tag 28)):=by rw [hw,get_new_ne _ _ _ (by rw [new_n];omega)];exact get_new_eq _ _ _ rfl (by omega)
  have w1:w.h.get (u.n+1)=some (.cells [.int .i64 (st:Int)] (tag 3)):=by rw [hw];exact get_new_eq _ _ _ rfl (by rw [new_n];omega)
  have hM:=hL.grow wg (by omega:u.n≤w.n)
  have c2:=draw_ok (N+6) (by omega) l ok vS vA w hM (by omega)
  have l8:(drawL l++List.replicate (8 - l.appls.length) 0).length=8:=by rw [List.length_append,List.length_replicate,drawL_len];omega
  obtain ⟨df,hdf⟩:∃ df,df=drawL l++List.replicate (8 - l.appls.length) 0:=⟨_,rfl⟩
  rw [← hdf] at c2 l8
  have ao:=arr_overAll (f:=List.replicate 8 0) (g:=df) rfl l8
  have asx:=arr_scal df
  have aln:=arr_len df
  have sl:=fun s=>sliceArr_to s w.n l.appls.length (by omega)
  have okr:∀ s,okA (.val (.agg (arr df)) s)=.val (.agg (arr df)) s:=fun _=>rfl
  rw [enter49]
  simp (disch:=first|omega|(with_unfolding_all exact rfl)|(simp only[new_n,put_n,new_m];omega)|(refine put_m_le ?_;simp only[new_m];omega)) only [K49,K49r0,Abs.W,reduceIte,Nat.reduceEqDiff,Nat.reduceAdd,boxIntE,new_n]
  rw [← hw]
  simp (disch:=first|omega|(with_unfolding_all exact rfl)|(simp only[new_n,put_n,new_m];omega)|(refine put_m_le ?_;simp only[new_m];omega)) only [K49r1,Abs.W,reduceIte,Nat.reduceEqDiff,Nat.reduceSub,w0,c2,ao,asx,aln,l8,arr_zero]
  generalize hy:St.put _ _ _=y
  have yn:y.n=u.n+3:=by rw [← hy,put_n,new_n];omega
  have yg:∀ c,c<w.n→y.h.get c=w.h.get c:=fun c hc=>by rw [← hy,get_put_ne' _ _ _ _ (by omega),get_new_ne _ _ _ (by omega)]
  have yd:∃ z,y.h.get w.n=some (.cells (arr df) z):=⟨_,by rw [← hy];exact get_put_eq _ _ _ _ rfl (by omega)⟩
  have ym:u.n≤y.m:=by rw [← hy];simp only [St.put,minN_eq,new_m];omega
  have ym2:y.m≤far:=by rw [← hy];simp only [St.put,minN_eq,new_m];omega
  obtain ⟨z,yd⟩:=yd
  have y0:=(yg u.n (by omega)).trans w0
  have y1:=(yg (u.n+1) (by omega)).trans w1
  simp (disch:=first|omega|(with_unfolding_all exact rfl)|(simp only[new_n,put_n,new_m];omega)|(refine put_m_le ?_;simp only[new_m];omega)) only [K49r2,Abs.W,reduceIte,Nat.reduceEqDiff,Nat.reduceSub,y0,y1,kA,lA,kSlice_def,optEv_some,optEv_none,sl,Nat.zero_add]
  generalize hc:call _ _ _ (.fn 54) _ _=rc
  have etk:df.take l.appls.length=drawL l:=by rw [hdf,← drawL_len l];simp
  have hRd:=rows_take (k:=l.appls.length) (n:=y.n) yd (by omega) l8 (by omega)
  rw [etk] at hRd
  obtain ⟨t1,rfl,s1,n1,g1⟩:=places_ex (f:=drawL l) hc (by omega) hRd (by rw [drawL_len];omega) (by show y.n+100≤far;omega)
  have n1':t1.n=y.n+1:=n1
  have k1:t1.m=far:=s1.m
  have h1:∀ c,c<y.n→t1.h.get c=y.h.get c:=s1.same
  have g1':t1.h.get y.n=some (.map (mapV (plAll (drawL l)))):=g1
  have scM:∀ b l,scalars (.map b::l)=scalars l:=fun _ _=>rfl
  have ceM:∀ b,cellsOf 1 (.map b)=some [.map b]:=fun _=>rfl
  simp (disch:=first|omega|(with_unfolding_all exact rfl)|(simp only[new_n,put_n,new_m];omega)|(refine put_m_le ?_;simp only[new_m];omega)) only [thenT_val,Abs.W,reduceIte,Nat.reduceEqDiff,Nat.reduceAdd,Nat.reduceSub,scM,ceM,sS.2.2,sA.2.2,Nat.zero_add]
  generalize hq:St.put _ _ _=q
  have qn:q.n=u.n+5:=by rw [← hq,put_n,new_n];show t1.n+1=_;omega
  have qg:∀ c,c<t1.n→q.h.get c=t1.h.get c:=fun c hc=>by rw [← hq,get_put_ne' _ _ _ _ (by omega)];exact get_new_ne _ _ _ (by show c≠t1.n;omega)
  have qq:∃ z,q.h.get t1.n=some (.cells [vS,vA,.int .i64 (st:Int),.map y.n] z):=⟨_,by rw [← hq];exact get_put_eq _ _ _ _ rfl (by omega)⟩
  have qm:u.n≤q.m∧q.m≤far:=by rw [← hq];simp only [St.put,minN_eq,new_m];omega
  obtain ⟨z2,qq⟩:=qq
  have qgu:∀ c,c<u.n→q.h.get c=u.h.get c:=fun c hc=>(qg c (by omega)).trans ((h1 c (by omega)).trans ((yg c (by omega)).trans (wg c hc)))
  have q0:=(qg u.n (by omega)).trans ((h1 u.n (by omega)).trans y0)
  have q1:=(qg (u.n+1) (by omega)).trans ((h1 (u.n+1) (by omega)).trans y1)
  have qmp:=(qg y.n (by omega)).trans g1'
  have hLq:=hL.grow qgu (by omega:u.n≤q.n)
  simp (disch:=first|omega|(with_unfolding_all exact rfl)|(simp only[new_n,put_n,new_m];omega)|(refine put_m_le ?_;simp only[new_m];omega)) only [K49r3,Abs.W,reduceIte,Nat.reduceEqDiff,Nat.reduceSub,q0]
  generalize hc2:call _ _ _ (.fn 41) _ _=rc
  obtain ⟨t2,rfl,s2,n2,g2⟩:=everybody_ex hc2 (by omega) ok hLq (by omega)
  have m2:=s2.m
  have h2:=s2.same
  simp (disch:=first|omega|(with_unfolding_all exact rfl)|(simp only[new_n,put_n,new_m];omega)|(refine put_m_le ?_;simp only[new_m];omega)) only [Abs.W,reduceIte,Nat.reduceEqDiff,kFuncE]
  generalize hc3:call _ _ _ (.fn 61) _ _=rc
  have hD:∀ M,N+4≤M→Dels M q.n (.func 62 [] [.ptr u.n 0,.ptr (u.n+1) 0]) (fun y=>y<q.n) t2.h (fun a=>!canI l st a) (List.range l.appls.length):=fun M hM s hs hn hfar a ha=>by
   rw [callV_func]
   have hLs:=hLq.bound.move (h':=s.h) (n':=s.n) (no':=fun y=>no y∧y<q.n) (na':=fun y=>na y∧y<q.n) (fun b h1 h2'=>⟨(hs b h1).trans (h2 b h1),h2'⟩) (fun b h1 h2'=>⟨(hs b h1).trans (h2 b h1),h2'⟩) hn
   exact able_ok M (by omega) ok (List.mem_range.mp ha) hLs ((hs u.n (by omega)).trans ((h2 u.n (by omega)).trans q0)) ((hs (u.n+1) (by omega)).trans ((h2 (u.n+1) (by omega)).trans q1)) (by omega)
  obtain ⟨g3,k3,t3,rfl,d1,d2,d3,d4,d5,d6,d7,d8⟩:=delete_ex (N:=N+4) hc3 hD rfl (by omega) g2 List.length_range m1 (by omega) (by omega) (by omega) (by omega)
  have eab:(List.range l.appls.length).filter (fun a=>!(!canI l st a))=ableL l st:=by unfold ableL;simp
  rw [eab] at d3 d4
  have hk3:k3≤l.appls.length:=by
   have:=List.length_filter_le (canI l st) (List.range l.appls.length)
   rw [List.length_range] at this
   rw [d4];exact this
  have hRt:=rows_take (n:=t3.n) d1 (by omega) d2 hk3
  rw [d3] at hRt
  have t3g:∀ c,c<q.n→t3.h.get c=q.h.get c:=fun c hc=>(d5 c (by omega)).trans (h2 c hc)
  have t3q:=(t3g t1.n (by omega)).trans qq
  have t3m:=(t3g y.n (by omega)).trans qmp
  simp (disch:=first|omega|(with_unfolding_all exact rfl)|(simp only[new_n,put_n,new_m];omega)|(refine put_m_le ?_;simp only[new_m];omega)) only [K49r4,Abs.W,reduceIte,Nat.reduceEqDiff,Nat.reduceSub,kFuncE,t3q]
  generalize hc4:call _ _ _ (.fn 63) _ _=rc
  have hLt:=hLq.bound.move (h':=t3.h) (n':=q.n) (no':=fun y=>no y∧y<q.n) (na':=fun y=>na y∧y<q.n) (fun b h1 h2'=>⟨t3g b h1,h2'⟩) (fun b h1 h2'=>⟨t3g b h1,h2'⟩) (Nat.le_refl _)
  obtain ⟨v4,bd,g,t4,rfl,s4,hbd,hI,hS,hU⟩:=sorted_ex (N:=N) (nb:=q.n) (f:=ableL l st) hc4 (by omega) ok hst hLt t3m (by omega) (by omega) (fun a ha=>⟨(ableL_mem.mp ha).1,drI_lt ok (ableL_mem.mp ha).1⟩) (fun a ha b hb hab=>drI_ne (ableL_mem.mp ha).1 (ableL_mem.mp hb).1 hab) hRt (List.nodup_range.sublist List.filter_sublist) (ableL_len ok st) (by omega)
  have n4:=s4.n
  have l4:=s4.le
  have m4:=s4.m
  have kv4:∀ t,okA (.val v4 t)=.val v4 t:=fun t=>hI.okA t
  simp (disch:=first|omega|(with_unfolding_all exact rfl)|(simp only[new_n,put_n,new_m];omega)|(refine put_m_le ?_;simp only[new_m];omega)) only [Abs.W,reduceIte,Nat.reduceEqDiff,res49]
  refine ⟨_,_,rfl,⟨fun c hc=>(s4.same c (by omega)).trans ((t3g c (by omega)).trans (qgu c hc)),by omega,by omega,by omega,by omega⟩,⟨bd,g,by omega,hI,hS,hU⟩,fun hp=>?_⟩
  rcases hI.is with ⟨z1,z2⟩ | ⟨_,_,z,_⟩
  ·exact ⟨u.n,g,Nat.le_refl _,by rw [z1,z2];exact IsAt.nil _ _ _ _ _,hS,hU⟩
  ·subst z;cases hp)
 exact ⟨w',bd,g,t,hr.symm.trans e,st',hq⟩
end Go.Proofs.Ythbhjgbpjlnbcaa.walk
set_option maxRecDepth 10000
namespace Go.Proofs.Ythbhjgbpjlnbcaa.walk
structure Mkt where
 n:Nat
 k:Nat
 R:Nat→List Nat
 key:Nat→Nat→Int
structure Mkt.Ok (m:Mkt):Prop where
 nd:∀ a,a<m.n→(m.R a).Nodup
 lt:∀ a,a<m.n→∀ s ∈ m.R a,s<m.k
 ne:∀ s a b,a<m.n→b<m.n→a≠b→m.key s a≠m.key s b
namespace Mkt
variable (m:Mkt)
def pos (a s:Nat):Nat:=(m.R a).idxOf s
def Better (s a:Nat) (h:Int):Prop:=h = -1∨m.key s a<m.key s h.toNat
instance (s a:Nat) (h:Int):Decidable (m.Better s a h):=by unfold Better;infer_instance
variable {m}
theorem pos_lt {a s:Nat} (h:s ∈ m.R a):m.pos a s<(m.R a).length:=List.idxOf_lt_length_of_mem h
theorem pos_inj {a s t:Nat} (hs:s ∈ m.R a) (ht:t ∈ m.R a) (e:m.pos a s=m.pos a t):s=t:=by
 have h1:=List.getElem_idxOf (pos_lt hs)
 have h2:=List.getElem_idxOf (pos_lt ht)
 unfold pos at e
 rw [← h1,← h2]
 congr 1
theorem pos_app {a s t:Nat} {p r:List Nat} (h:m.R a=p++s::r) (hs:s ∉ p) (ht:t ∈ m.R a):t ∈ p↔m.pos a t<m.pos a s:=by
 unfold pos
 rw [h,List.idxOf_append,List.idxOf_append,if_neg hs,List.idxOf_cons_self]
 constructor
 ·intro h;rw [if_pos h];have:=List.idxOf_lt_length_of_mem h;omega
 ·intro h2
  by_cases h3:t ∈ p
  ·exact h3
  ·rw [if_neg h3] at h2;omega
variable (m)
structure Fair (μ:Nat→Int):Prop where
 form:∀ s,μ s = -1∨∃ a:Nat,μ s=a
 hold:∀ s (a:Nat),μ s=a→a<m.n∧s ∈ m.R a
 inj:∀ s t (a:Nat),μ s=a→μ t=a→s=t
 fair:∀ a,a<m.n→∀ s ∈ m.R a,(∃ t,μ t=a∧m.pos a t≤m.pos a s)∨μ s = -1∨¬ m.key s a<m.key s (μ s).toNat
structure Inv (H:Nat→Int) (q:List Nat):Prop where
 form:∀ s,H s = -1∨∃ a:Nat,H s=a
 hold:∀ s (a:Nat),H s=a→a<m.n∧s ∈ m.R a
 inj:∀ s t (a:Nat),H s=a→H t=a→s=t
 qn:∀ a ∈ q,a<m.n∧∀ s,H s≠a
 qd:q.Nodup
 stab:∀ a,a<m.n→a ∉ q→∀ s ∈ m.R a,(∃ t,H t=a∧m.pos a t≤m.pos a s)∨¬ m.Better s a (H s)
 opt:∀ μ,m.Fair μ→∀ s t (a:Nat),H s=a→μ t=a→m.pos a s≤m.pos a t
variable {m}
def upd (H:Nat→Int) (s:Nat) (a:Int):Nat→Int:=fun t=>if t=s then a else H t
theorem upd_at (H:Nat→Int) (s:Nat) (a:Int):upd H s a s=a:=if_pos rfl
theorem upd_ne (H:Nat→Int) {s t:Nat} (a:Int) (h:t≠s):upd H s a t=H t:=if_neg h
theorem Inv.notref {H:Nat→Int} {q:List Nat} (ok:m.Ok) (I:m.Inv H q) {μ:Nat→Int} (F:m.Fair μ) {a t:Nat} (ha:a<m.n) (hμ:μ t=a) (hn:∀ s,H s≠a) (hb:¬ m.Better t a (H t)):False:=by
 rcases I.form t with h0 | ⟨h,hh⟩
 ·exact hb (.inl h0)
 ·have hne:h≠a:=fun e=>hn t (by rw [hh,e])
  obtain ⟨hlt,hmem⟩:=I.hold t h hh
  have hk:m.key t h<m.key t a:=by
   have h1:¬ m.key t a<m.key t h:=fun h2=>hb (.inr (by rw [hh];exact h2))
   have h2:=ok.ne t h a hlt ha hne
   omega
  rcases F.fair h hlt t hmem with ⟨t',h1,h2⟩ | h1 | h1
  ·have h3:=I.opt μ F t t' h hh h1
   have:t'=t:=pos_inj (F.hold t' h h1).2 hmem (by omega)
   subst this
   rw [hμ] at h1
   exact hne (by omega)
  ·rw [hμ] at h1;omega
  ·rw [hμ] at h1;exact h1 hk
theorem Inv.refuse {H:Nat→Int} {q:List Nat} {a:Nat} (I:m.Inv H (a::q)) (hb:∀ s ∈ m.R a,¬ m.Better s a (H s)):m.Inv H q :=
 ⟨I.form,I.hold,I.inj,fun b h=>I.qn b (List.mem_cons_of_mem _ h),(List.nodup_cons.mp I.qd).2,fun b h1 h2 s hs=>by
  by_cases e:b=a
  ·subst e;exact .inr (hb s hs)
  ·exact I.stab b h1 (fun h=>(List.mem_cons.mp h).elim e h2) s hs,I.opt⟩
def behind (q:List Nat) (h:Int):List Nat:=if h = -1 then q else q++[h.toNat]
theorem Inv.take {H:Nat→Int} {q:List Nat} {a s:Nat} {p r:List Nat} (ok:m.Ok) (I:m.Inv H (a::q)) (hR:m.R a=p++s::r) (hp:∀ t ∈ p,¬ m.Better t a (H t)) (hb:m.Better s a (H s)):m.Inv (upd H s a) (behind q (H s)):=by
 obtain ⟨ha,hna⟩:=I.qn a (List.mem_cons_self ..)
 have nd:=ok.nd a ha
 have hsp:s ∉ p:=by
  rw [hR] at nd
  intro h
  have:=(List.nodup_append.mp nd).2.2 s h s (List.mem_cons_self ..)
  exact this rfl
 have hsR:s ∈ m.R a:=by rw [hR];simp
 have haq:a ∉ q:=(List.nodup_cons.mp I.qd).1
 have hqm:∀ {b:Nat},b ∉ behind q (H s)→b ∉ q∧H s≠b:=fun {b} h=>by
  unfold behind at h
  split at h
  ·rename_i e;exact ⟨h,by rw [e];omega⟩
  ·rename_i e
   refine ⟨fun h2=>h (List.mem_append_left _ h2),fun h2=>h (List.mem_append_right _ ?_)⟩
   rw [h2];simp
 refine ⟨fun t=>?_,fun t b h=>?_,fun t t' b h1 h2=>?_,fun b hb'=>?_,?_,fun b hb1 hb2 t ht=>?_,fun μ F t t' b h1 h2=>?_⟩
 ·by_cases e:t=s
  ·subst e;rw [upd_at];exact .inr ⟨a,rfl⟩
  ·rw [upd_ne _ _ e];exact I.form t
 ·by_cases e:t=s
  ·subst e;rw [upd_at] at h
   have:b=a:=by omega
   subst this;exact ⟨ha,hsR⟩
  ·rw [upd_ne _ _ e] at h;exact I.hold t b h
 ·by_cases e1:t=s
  ·by_cases e2:t'=s
   ·rw [e1,e2]
   ·subst e1
    rw [upd_at] at h1;rw [upd_ne _ _ e2] at h2
    exact absurd h2 (by rw [← h1];exact hna t')
  ·by_cases e2:t'=s
   ·subst e2
    rw [upd_at] at h2;rw [upd_ne _ _ e1] at h1
    exact absurd h1 (by rw [← h2];exact hna t)
   ·rw [upd_ne _ _ e1] at h1;rw [upd_ne _ _ e2] at h2
    exact I.inj t t' b h1 h2
 ·unfold behind at hb'
  have old:b ∈ q→b<m.n∧∀ t,upd H s a t≠b:=fun h=>by
   obtain ⟨x1,x2⟩:=I.qn b (List.mem_cons_of_mem _ h)
   refine ⟨x1,fun t=>?_⟩
   by_cases e:t=s
   ·subst e;rw [upd_at];intro h3;exact haq (by rw [show a=b by omega];exact h)
   ·rw [upd_ne _ _ e];exact x2 t
  split at hb'
  ·exact old hb'
  ·rename_i e
   rcases List.mem_append.mp hb' with h | h
   ·exact old h
   ·rw [List.mem_singleton] at h
    subst h
    rcases I.form s with h0 | ⟨c,hc⟩
    ·exact absurd h0 e
    ·have hcb:(H s).toNat=c:=by rw [hc];exact Int.toNat_natCast c
     rw [hcb]
     refine ⟨(I.hold s c hc).1,fun t=>?_⟩
     by_cases e:t=s
     ·subst e;rw [upd_at];intro h3
      exact hna t (by rw [hc];omega)
     ·rw [upd_ne _ _ e];exact fun h3=>e (I.inj t s c h3 hc)
 ·unfold behind
  split
  ·exact (List.nodup_cons.mp I.qd).2
  ·rename_i e
   refine List.nodup_append.mpr ⟨(List.nodup_cons.mp I.qd).2,by simp,fun x hx y hy=>?_⟩
   rw [List.mem_singleton] at hy
   subst hy
   rcases I.form s with h0 | ⟨c,hc⟩
   ·exact absurd h0 e
   ·rw [hc,Int.toNat_natCast]
    intro h3
    subst h3
    exact (I.qn x (List.mem_cons_of_mem _ hx)).2 s hc
 ·by_cases e:b=a
  ·subst e
   by_cases e2:m.pos b t<m.pos b s
   ·have htp:=(pos_app hR hsp ht).mpr e2
    have:t≠s:=fun e3=>hsp (e3▸htp)
    exact .inr (by rw [upd_ne _ _ this];exact hp t htp)
   ·exact .inl ⟨s,upd_at _ _ _,by omega⟩
  ·obtain ⟨c1,c2⟩:=hqm hb2
   rcases I.stab b hb1 (fun h=>(List.mem_cons.mp h).elim e c1) t ht with ⟨t',h1,h2⟩ | h1
   ·have:t'≠s:=fun e3=>c2 (by rw [← e3];exact h1)
    exact .inl ⟨t',by rw [upd_ne _ _ this];exact h1,h2⟩
   ·by_cases e2:t=s
    ·subst e2
     rw [upd_at]
     refine .inr fun h2=>?_
     rcases h2 with h2 | h2
     ·omega
     ·rw [Int.toNat_natCast] at h2
      rcases hb with h3 | h3
      ·exact h1 (.inl h3)
      ·exact h1 (.inr (by omega))
    ·exact .inr (by rw [upd_ne _ _ e2];exact h1)
 ·by_cases e:t=s
  ·subst e
   rw [upd_at] at h1
   have:b=a:=by omega
   subst this
   rcases Nat.lt_or_ge (m.pos b t') (m.pos b t) with h3 | h3
   ·exact (I.notref ok F ha h2 hna (hp t' ((pos_app hR hsp (F.hold t' b h2).2).mpr h3))).elim
   ·exact h3
  ·rw [upd_ne _ _ e] at h1
   exact I.opt μ F t t' b h1 h2
theorem Inv.start (ok:m.Ok):m.Inv (fun _ => -1) (List.range m.n) :=
 ⟨fun _=>.inl rfl,fun s a h=>by omega,fun s t a h=>by omega,fun a h=>⟨List.mem_range.mp h,fun s=>by omega⟩,List.nodup_range,fun a h1 h2=>absurd (List.mem_range.mpr h1) h2,fun μ _ s t a h=>by omega⟩
theorem Inv.fair {H:Nat→Int} (I:m.Inv H []):m.Fair H:=⟨I.form,I.hold,I.inj,fun a ha s hs=>(I.stab a ha (by simp) s hs).imp id fun h=>.inr fun h2=>h (.inr h2)⟩
/-! ### How long it can go on -/
def sumTo (f:Nat→Nat):Nat→Nat
 | 0=>0
 | k+1=>sumTo f k+f k
theorem sumTo_same {f g:Nat→Nat}:∀ {k:Nat},(∀ t,t<k→f t=g t)→sumTo f k=sumTo g k
 | 0,_=>rfl
 | k+1,h=>by
  show sumTo f k+f k=sumTo g k+g k
  rw [sumTo_same fun t ht=>h t (by omega),h k (by omega)]
theorem sumTo_lt {f g:Nat→Nat} {s:Nat} (hs:f s<g s):∀ {k:Nat},s<k→(∀ t,t≠s→f t=g t)→sumTo f k<sumTo g k
 | 0,h,_=>by omega
 | k+1,h,he=>by
  show sumTo f k+f k<sumTo g k+g k
  by_cases e:s=k
  ·subst e
   rw [sumTo_same (f:=f) (g:=g) fun t ht=>he t (by omega)]
   omega
  ·have:=sumTo_lt hs (k:=k) (by omega) he
   rw [he k (by omega)]
   omega
theorem sumTo_le {f:Nat→Nat} {c:Nat} (h:∀ s,f s≤c):∀ k:Nat,sumTo f k≤k * c
 | 0=>by simp [sumTo]
 | k+1=>by
  show sumTo f k+f k≤(k+1) * c
  have h1:=sumTo_le h k
  have h2:=h k
  rw [Nat.succ_mul]
  omega
variable (m)
def wt (s:Nat) (h:Int):Nat:=if h = -1 then m.n else ((List.range m.n).filter (fun b=>m.key s b<m.key s h.toNat)).length
def meas (H:Nat→Int) (q:List Nat):Nat:=sumTo (fun s=>m.wt s (H s)) m.k+q.length
variable {m}
theorem wt_le (s:Nat) (h:Int):m.wt s h≤m.n:=by
 unfold wt
 split
 ·exact Nat.le_refl _
 ·have:=List.length_filter_le (fun b=>decide (m.key s b<m.key s h.toNat)) (List.range m.n)
  rwa [List.length_range] at this
theorem filter_less {p q:Nat→Bool} (hpq:∀ x,p x=true→q x=true):∀ {l:List Nat} {a:Nat},a ∈ l→q a=true→p a=false→(l.filter p).length<(l.filter q).length
 | x::l,a,ha,hq,hp=>by
  have le:∀ l:List Nat,(l.filter p).length≤(l.filter q).length:=fun l=>by
   induction l with
   | nil=>simp
   | cons y l ih =>
    cases h:p y with
    | true=>rw [List.filter_cons_of_pos h,List.filter_cons_of_pos (hpq y h)];simpa using ih
    | false =>
     rw [List.filter_cons_of_neg (by simp [h])]
     cases h2:q y with
     | true=>rw [List.filter_cons_of_pos h2];simp;omega
     | false=>rw [List.filter_cons_of_neg (by simp [h2])];exact ih
  rcases List.mem_cons.mp ha with rfl | ha
  ·rw [List.filter_cons_of_neg (by simp [hp]),List.filter_cons_of_pos hq]
   have:=le l
   simp;omega
  ·have ih:=filter_less hpq ha hq hp
   cases h:p x with
   | true=>rw [List.filter_cons_of_pos h,List.filter_cons_of_pos (hpq x h)];simpa using ih
   | false =>
    rw [List.filter_cons_of_neg (by simp [h])]
    cases h2:q x with
    | true=>rw [List.filter_cons_of_pos h2];simp;omega
    | false=>rw [List.filter_cons_of_neg (by simp [h2])];exact ih
theorem wt_less {s a:Nat} {h:Int} (ha:a<m.n) (hb:m.Better s a h):m.wt s a<m.wt s h:=by
 unfold wt
 rw [if_neg (show ¬ ((a:Int) = -1) by omega),Int.toNat_natCast]
 by_cases e:h = -1
 ·rw [if_pos e]
  have:=filter_less (p:=fun b=>decide (m.key s b<m.key s a)) (q:=fun _=>true) (fun _ _=>rfl) (List.mem_range.mpr ha) rfl (by simp)
  rw [List.filter_eq_self.mpr (fun _ _=>rfl),List.length_range] at this
  exact this
 ·rw [if_neg e]
  have hk:m.key s a<m.key s h.toNat:=hb.resolve_left e
  exact filter_less (fun x hx=>by have:=of_decide_eq_true hx;exact decide_eq_true (by omega)) (List.mem_range.mpr ha) (decide_eq_true hk) (by simp)
theorem meas_refuse (H:Nat→Int) (a:Nat) (q:List Nat):m.meas H q+1=m.meas H (a::q):=by unfold meas;rw [List.length_cons];omega
theorem meas_take {H:Nat→Int} {q:List Nat} {a s:Nat} (ha:a<m.n) (hs:s<m.k) (hb:m.Better s a (H s)):m.meas (upd H s a) (behind q (H s))+1≤m.meas H (a::q):=by
 have h1:sumTo (fun t=>m.wt t (upd H s a t)) m.k<sumTo (fun t=>m.wt t (H t)) m.k:=sumTo_lt (s:=s) (by show m.wt s (upd H s a s)<m.wt s (H s);rw [upd_at];exact wt_less ha hb) hs (fun t ht=>by show m.wt t (upd H s a t)=m.wt t (H t);rw [upd_ne _ _ ht])
 have h2:(behind q (H s)).length≤q.length+1:=by
  unfold behind;split
  ·omega
  ·rw [List.length_append,List.length_singleton];omega
 unfold meas
 rw [List.length_cons]
 omega
theorem meas_start:m.meas (fun _ => -1) (List.range m.n)≤m.k * m.n+m.n:=by
 have:=sumTo_le (f:=fun s=>m.wt s (-1)) (c:=m.n) (fun s=>wt_le s (-1)) m.k
 show sumTo (fun s=>m.wt s (-1)) m.k+(List.range m.n).length≤_
 rw [List.length_range]
 omega
theorem first_of (P:Nat→Prop) [DecidablePred P]:∀ l:List Nat,(∀ x ∈ l,¬ P x)∨∃ p s r,l=p++s::r∧P s∧∀ t ∈ p,¬ P t
 | []=>.inl fun x h=>by cases h
 | x::l=>by
  by_cases e:P x
  ·exact .inr ⟨[],x,l,rfl,e,fun t h=>by cases h⟩
  ·rcases first_of P l with h | ⟨p,s,r,h1,h2,h3⟩
   ·exact .inl fun y hy=>(List.mem_cons.mp hy).elim (fun h2=>h2▸e) (h y)
   ·exact .inr ⟨x::p,s,r,by rw [h1];rfl,h2,fun t ht=>(List.mem_cons.mp ht).elim (fun h2=>h2▸e) (h3 t)⟩
theorem ends (ok:m.Ok):∀ (c:Nat) (H:Nat→Int) (q:List Nat),m.Inv H q→m.meas H q≤c→∃ H',m.Inv H' []
 | c,H,[],I,_=>⟨H,I⟩
 | 0,H,a::q,_,h=>by unfold meas at h;rw [List.length_cons] at h;omega
 | c+1,H,a::q,I,h=>by
  have ha:=(I.qn a (List.mem_cons_self ..)).1
  rcases first_of (fun s=>m.Better s a (H s)) (m.R a) with h1 | ⟨p,s,r,h1,h2,h3⟩
  ·exact ends ok c H q (I.refuse h1) (by have:=meas_refuse (m:=m) H a q;omega)
  ·exact ends ok c _ _ (I.take ok h1 h3 h2) (by have:=meas_take (q:=q) ha (ok.lt a ha s (by rw [h1];simp)) h2;omega)
end Mkt
end Go.Proofs.Ythbhjgbpjlnbcaa.walk
set_option maxRecDepth 10000
namespace Go.Proofs.Ythbhjgbpjlnbcaa.walk
theorem len_sub:∀ {l k:List Nat},l.Nodup→(∀ x ∈ l,x ∈ k)→l.length≤k.length
 | [],_,_,_=>Nat.zero_le _
 | x::l,k,hd,h=>by
  obtain ⟨h1,h2⟩:=List.nodup_cons.mp hd
  have hx:=h x (List.mem_cons_self ..)
  have:=len_sub (l:=l) (k:=k.erase x) h2 fun y hy=>(List.mem_erase_of_ne (fun e=>h1 (by rw [← e];exact hy))).mpr (h y (List.mem_cons_of_mem _ hy))
  rw [List.length_erase_of_mem hx] at this
  have hp:=List.length_pos_of_mem hx
  rw [List.length_cons]
  omega
namespace Mkt
variable (m:Mkt)
structure Stable (μ:Nat→Int):Prop where
 form:∀ s,μ s = -1∨∃ a:Nat,μ s=a
 hold:∀ s (a:Nat),μ s=a→a<m.n∧s ∈ m.R a
 inj:∀ s t (a:Nat),μ s=a→μ t=a→s=t
 stab:∀ a,a<m.n→∀ s ∈ m.R a,(∃ t,μ t=a∧m.pos a t≤m.pos a s)∨¬ m.Better s a (μ s)
variable {m}
theorem Inv.stable {H:Nat→Int} (I:m.Inv H []):m.Stable H:=⟨I.form,I.hold,I.inj,fun a ha=>I.stab a ha (by simp)⟩
end Mkt
end Go.Proofs.Ythbhjgbpjlnbcaa.walk
set_option maxRecDepth 10000
namespace Go.Proofs.Ythbhjgbpjlnbcaa.walk
open Go.Abs Go.Proofs.Ythbhjgbpjlnbcaa.code
theorem Ranks_ex {N:Nat} {no na:Nat→Prop} {l:Letting} {vS vA:AV} {st:Nat} {s:St} {r:ARes} (hr:call Try.prog X N (.fn 29) [.agg (letV vS vA),.int .i64 (st:Int)] s=r) (hN:16≤N) (ok:l.Ok) (hst:st<l.stalls.length) (hL:LetAt no na s.h s.n l vS vA) (hs:s.n+700000≤far) :
  ∃ w bd g t,r=.val (.tup [w,.int .i64 0]) t∧New s t 4000∧s.n≤bd∧IsAt t.h t.n bd 1 (tag 3) (natRows g) w∧RankOf l st g:=by
 obtain ⟨n,rfl⟩:∃ n,N=n+1:=⟨N - 1,by omega⟩
 have hf:far=1000000000:=rfl
 obtain ⟨v',t,e,st',w,bd,g,rfl,hq⟩:=call_new' (n:=n) (args:=[.agg (letV vS vA),.int .i64 (st:Int)]) (s:=s) (k:=4000) (Q:=fun v h n=>∃ w bd g,v=.tup [w,.int .i64 0]∧s.n≤bd∧IsAt h n bd 1 (tag 3) (natRows g) w∧RankOf l st g) Try.func29 rfl (fun u uh un um=>by
  rw [← uh,← un] at hL
  rw [← uh,← un]
  obtain ⟨w,hw⟩:∃ w:St,w=u.new (.cells [vS,vA] (tag 28)):=⟨_,rfl⟩
  have wn:w.n=u.n+1:=by rw [hw];rfl
  have wm:w.m=far:=by rw [hw];exact um
  have wg:∀ c,c<u.n→w.h.get c=u.h.get c:=fun c hc=>by rw [hw,get_new_ne _ _ _ (by omega)]
  have w0:w.h.get u.n=some (.cells [vS,vA] (tag 28)):=by rw [hw];exact get_new_eq _ _ _ rfl (by omega)
  have hLw:=hL.grow wg (by omega:u.n≤w.n)
  have kA:=hLw.okV
  have kS:=hLw.okS
  have lS:=hLw.lenS
  have k1:=ok.k1
  have z0:decide ((0:Int)=0)=true:=rfl
  have c1:=check_ok n (by omega) (s:=⟨w.h,w.n,far⟩) l ok vS vA hLw (by show w.n+2000≤far;omega)
  have c1':=check_ok n (by omega) l ok vS vA w hLw (by omega)
  have c2:=named_ok n (by omega) (st:Int) (l.stalls.length:Int) w (by omega) (by omega) (by omega)
  obtain ⟨y,hy⟩:∃ y:St,y=w.new (.cells [.int .i64 0,.int .i64 0] 0):=⟨_,rfl⟩
  have yn:y.n=w.n+1:=by rw [hy];rfl
  have ym:y.m=far:=by rw [hy];exact wm
  have yg:∀ c,c<w.n→y.h.get c=w.h.get c:=fun c hc=>by rw [hy,get_new_ne _ _ _ (by omega)]
  have y0:=(yg u.n (by omega)).trans w0
  have co:=or_new2 n (by omega) w (by omega)
  rw [enter29]
  simp (disch:=first|omega|(with_unfolding_all exact rfl)|(simp only[new_n,put_n,new_m];omega)|(refine put_m_le ?_;simp only[new_m];omega)) only [K29,K29r0,Abs.W,reduceIte,Nat.reduceEqDiff,Nat.reduceAdd]
  rw [← hw]
  simp (disch:=first|omega|(with_unfolding_all exact rfl)|(simp only[new_n,put_n,new_m];omega)|(refine put_m_le ?_;simp only[new_m];omega)) only [K29r1,K29r2,K29r4,Abs.W,reduceIte,Nat.reduceEqDiff,decide_true,Nat.reduceSub,w0,kS,lS,c1,c2,co,Nat.zero_add]
  rw [← hy]
  generalize hc:call _ _ _ (.fn 49) _ _=rc
  obtain ⟨v,bd,g,t1,rfl,s1,hb,hI,hR⟩:=ranks_ex hc (by omega) ok hst (hLw.grow yg (by omega)) (by omega)
  have s1n:=s1.n
  have s1l:=s1.le
  have s1m:=s1.m
  have kv:=hI.okA
  simp (disch:=first|omega|(with_unfolding_all exact rfl)|(simp only[new_n,put_n,new_m];omega)|(refine put_m_le ?_;simp only[new_m];omega)) only [res29,Abs.W,reduceIte,Nat.reduceEqDiff]
  have e2:∀ L:Env,(Env.set 5 (.int .i64 0) (Env.set 4 v L)).find 4=v:=fun L=>by simp only [efs,reduceIte,Nat.reduceEqDiff]
  have e3:∀ L:Env,(Env.set 5 (.int .i64 0) (Env.set 4 v L)).find 5=.int .i64 0:=fun L=>by simp only [efs,reduceIte,Nat.reduceEqDiff]
  refine ⟨.tup [v,.int .i64 0],t1,rfl,⟨fun c hc=>(s1.same c (by omega)).trans ((yg c (by omega)).trans (wg c hc)),by omega,by omega,by omega,by omega⟩,⟨v,bd,g,rfl,by omega,hI,hR⟩,fun hp=>⟨v,bd,g,rfl,by omega,?_,hR⟩⟩
  rcases hI.is with ⟨z,z2⟩ | ⟨_,_,z2,_⟩
  ·rw [z,z2];exact IsAt.nil _ _ _ _ _
  ·rw [z2] at hp;cases hp)
 exact ⟨w,bd,g,t,hr.symm.trans e,st',hq⟩
end Go.Proofs.Ythbhjgbpjlnbcaa.walk
