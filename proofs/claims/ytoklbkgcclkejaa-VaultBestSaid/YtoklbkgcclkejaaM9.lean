/- Two layouts that are the same. -/
import Derived.Test.YtoklbkgcclkejaaM7
import Derived.Test.YtoklbkgcclkejaaCodes
import Derived.Test.YtoklbkgcclkejaaM8
import Derived.Test.YtoklbkgcclkejaaM4
import Derived.Test.YtoklbkgcclkejaaM6
import Derived.Test.YtoklbkgcclkejaaWalkAll
set_option linter.unusedSimpArgs false
set_option linter.unusedVariables false
set_option maxHeartbeats 16000000
set_option linter.unusedVariables false
set_option maxRecDepth 10000
namespace Go.Proofs.Ytoklbkgcclkejaa.walk
open Go.Abs Go.Proofs.Ytoklbkgcclkejaa.code
theorem put_same (P Q:PutR):(P.x=Q.x∧P.y=Q.y∧P.kind=Q.kind)↔P=Q:=by
 obtain ⟨a,b,k⟩:=P
 obtain ⟨a',b',k'⟩:=Q
 simp
instance (P Q:PutR):Decidable (P=Q):=decidable_of_iff _ (put_same P Q)
theorem eq_put (P Q:PutR):Cmp.eq (.row [(0,some 2,.row [(0,none,.int),(1,none,.int)]),(2,none,.int)]) (.agg P.row) (.agg Q.row)=some (decide (P=Q)):=by
 obtain ⟨a,b,k⟩:=P
 obtain ⟨a',b',k'⟩:=Q
 show Cmp.eqs _ (PutR.row ⟨a,b,k⟩) (PutR.row ⟨a',b',k'⟩)=_
 have h:=eq_cell (a,b) (a',b')
 rw [eqs_cons _ _ _ _ _ _ h,eqs_cons _ _ _ _ _ _ (eq_ints (k:Int) (k':Int)),eqs_nil]
 have e:=put_same ⟨a,b,k⟩ ⟨a',b',k'⟩
 by_cases h1:a=a'
 ·by_cases h2:b=b'
  ·by_cases h3:k=k'
   ·subst h1 h2 h3;simp
   ·have:¬ (k:Int)=(k':Int):=by omega
    simp [h1,h2,h3,this]
  ·simp [h1,h2]
 ·simp [h1]
theorem eql_put (P Q:PutR) (s:St):eqlA (.row [(0,some 2,.row [(0,none,.int),(1,none,.int)]),(2,none,.int)]) false s (.agg P.row) (.agg Q.row)=.val (.bool (decide (P=Q))) s:=by
 unfold eqlA
 rw [eq_put]
 cases decide (P=Q)<;>rfl
theorem take_eq_snoc {a b:List PutR} {i:Nat} (ha:i<a.length) (hb:i<b.length) (h:a.take i=b.take i):a.take (i+1)=b.take (i+1)↔a[i]=b[i]:=by
 rw [jq ha,jq hb,h]
 constructor
 ·intro e
  have:=List.append_cancel_left e
  injection this
 ·intro e;rw [e]
theorem sameLayouts_ok (N:Nat) (hN:1≤N) {no no':Nat→Prop} {a b:List PutR} {v w:AV} {s:St} (hA:Puts no s.h s.n a v) (hB:Puts no' s.h s.n b w) (ha:a.length≤1000) (hs:s.n+100≤far) :
  ∃ is:Bool,call Try.prog X N (.fn 32) [v,w] s=.val (.bool is) s∧(is=true↔a=b):=by
 obtain ⟨n,rfl⟩:∃ n,N=n+1:=⟨N - 1,by omega⟩
 have hf:far=1000000000:=rfl
 obtain ⟨vv,e,is,rfl,his⟩:=ZU (n:=n) (s:=s) (k:=10) (args:=[v,w]) (Q:=fun v=>∃ is:Bool,v=.bool is∧(is=true↔a=b)) Try.func32 (fun u uh un um=>by
  rw [← uh,← un] at hA hB
  have kv:=hA.okA
  have kw:=hB.okA
  have lv:=hA.len
  have lw:=hB.len
  have g3:=eq3 K32r3s3.eq_1
  have g4:=eq3 K32r3s4.eq_1
  have g5:=eq3 K32r3s5.eq_1
  have g6:=eq3 K32r3s6.eq_1
  rw [enter32]
  simp (disch:=first|omega|with_unfolding_all exact rfl) only [K32,K32r0,K32r1,K32r2,Abs.W,reduceIte,Nat.reduceEqDiff,Nat.reduceAdd,Nat.reduceSub,kv,kw,lv,lw]
  generalize hlp:jL _ rounds _ _ _ _ _=rl1
  obtain ⟨eE,L1,t3,rfl,rfl,rfl,sm,q5,hsm⟩:=jT hlp (fun i L t=>t=u∧L.find 0=v∧L.find 1=w∧L.find 6=.int .i64 (i:Int)∧∃ sm:Bool,L.find 5=.bool sm∧(sm=true→a.length=b.length∧a.take i=b.take i)∧(sm=false→a≠b))
   (fun e L t=>e=.exit 0∧t=u∧∃ sm:Bool,L.find 5=.bool sm∧(sm=true↔a=b)) a.length (by unfold rounds;omega)
   ⟨rfl,(by simp only [zI,efs,reduceIte,Nat.reduceEqDiff]),(by simp only [zI,efs,reduceIte,Nat.reduceEqDiff]),(by simp only [zI,efs,reduceIte,Nat.reduceEqDiff];rfl),decide ((a.length:Int)=(b.length:Int)),(by simp only [zI,efs,reduceIte,Nat.reduceEqDiff]),fun h=>⟨by have:=of_decide_eq_true h;omega,by rw [List.take_zero,List.take_zero]⟩,fun h e=>by rw [e] at h;simp at h⟩
   (fun i L t hi ⟨tu,q0,q1,q6,sm,q5,h1,h2⟩=>by
    subst tu
    cases sm with
    | false =>
     refine .inr ⟨.exit 0,L.set 18 (.bool false),t,by simp,?_,rfl,rfl,false,?_,⟨fun h=>(by cases h),fun h=>absurd h (h2 rfl)⟩⟩
     ·simp (disch:=first|omega|with_unfolding_all exact rfl) only [K32l0,K32r3,g3,g4,g5,g6,Abs.W,reduceIte,Nat.reduceEqDiff,Nat.reduceAdd,Nat.reduceSub,q0,q1,q5,q6]
     ·simp only [efs,q5,reduceIte,Nat.reduceEqDiff]
    | true =>
     obtain ⟨hab,htk⟩:=h1 rfl
     by_cases hlt:i<a.length
     ·have e0:decide ((i:Int)<(a.length:Int))=true:=decide_eq_true (by omega)
      have ad:∀ s,jH s .i64 (i:Int) 1=.val (.int .i64 ((i:Int)+1)) s:=fun s=>ze s _ _ (by omega)
      have hlb:i<b.length:=by omega
      obtain ⟨qa,r2,rl0⟩:=hA.get hlt
      obtain ⟨qb,r2',rl0'⟩:=hB.get hlb
      have rl:=rl0 t fun _ _ _=>rfl
      have rl':=rl0' t fun _ _ _=>rfl
      have hts:=take_eq_snoc hlt hlb htk
      have hne:a[i]≠b[i]→a≠b:=fun h e=>h (by subst e;rfl)
      generalize a[i]=P at *
      generalize b[i]=Q at *
      have okQ:∀ (P:PutR) t,okA (.val (.agg P.row) t)=.val (.agg P.row) t:=fun _ _=>rfl
      have eq':=eql_put P Q t
      refine .inl ⟨hlt,?_⟩
      simp (disch:=first|omega|with_unfolding_all exact rfl) only [K32l0,K32r3,g3,g4,g5,g6,K32r4,K32r5,Abs.W,reduceIte,Nat.reduceEqDiff,Nat.reduceAdd,Nat.reduceSub,Nat.zero_add,q0,q1,q5,q6,kv,kw,lv,e0,r2,r2',rl,rl',okQ,kEqlE,eq',ad]
      refine ⟨_,_,rfl,rfl,?_,?_,?_,decide (P=Q),?_,fun h=>⟨hab,hts.mpr (of_decide_eq_true h)⟩,fun h=>hne (of_decide_eq_false h)⟩
      ·simp only [efs,q0,reduceIte,Nat.reduceEqDiff]
      ·simp only [efs,q1,reduceIte,Nat.reduceEqDiff]
      ·simp only [efs,reduceIte,Nat.reduceEqDiff];rfl
      ·simp only [efs,reduceIte,Nat.reduceEqDiff]
     ·obtain rfl:i=a.length:=by omega
      have e0:decide ((a.length:Int)<(a.length:Int))=false:=by simp
      refine .inr ⟨.exit 0,L.set 18 (.bool false),t,by simp,?_,rfl,rfl,true,?_,⟨fun _=>?_,fun _=>rfl⟩⟩
      ·simp (disch:=first|omega|with_unfolding_all exact rfl) only [K32l0,K32r3,g3,g4,g5,g6,Abs.W,reduceIte,Nat.reduceEqDiff,Nat.reduceAdd,Nat.reduceSub,q0,q1,q5,q6,kv,lv,e0]
      ·simp only [efs,q5,reduceIte,Nat.reduceEqDiff]
      ·rw [List.take_length,hab,List.take_length] at htk
       exact htk)
  simp (disch:=first|omega|with_unfolding_all exact rfl) only [K32r6,Abs.W,reduceIte,Nat.reduceEqDiff,Nat.reduceAdd,Nat.reduceSub,q5,res32]
  exact ⟨_,_,rfl,⟨fun _ _=>rfl,Nat.le_refl _,by omega,by omega,by omega⟩,rfl,sm,rfl,hsm⟩)
 exact ⟨is,e,his⟩
end Go.Proofs.Ytoklbkgcclkejaa.walk
set_option maxRecDepth 10000
namespace Go.Proofs.Ytoklbkgcclkejaa.walk
open Go.Abs Go.Proofs.Ytoklbkgcclkejaa.code
theorem apart_ptrs {b c o p:Nat} (h:b≠c):yx (.ptr b o) (.ptr c p)=true:=by
 unfold yx
 simp only [jK]
 rw [vO h]
 rfl
theorem first_at {a b:List PutR} {i:Nat} (ha:i<a.length) (hb:i<b.length) (h:a.take i=b.take i):First a b↔(a[i].y<b[i].y∨a[i].y=b[i].y∧(a[i].x<b[i].x∨a[i].x=b[i].x∧(a[i].kind<b[i].kind∨a[i].kind=b[i].kind∧First (a.drop (i+1)) (b.drop (i+1))))):=by
 have h1:=first_app (a.take i) (a.drop i) (b.drop i)
 rw [List.take_append_drop,h,List.take_append_drop] at h1
 rw [h1,List.drop_eq_getElem_cons ha,List.drop_eq_getElem_cons hb]
 exact Iff.rfl
theorem first_ok (N:Nat) (hN:1≤N) {no no':Nat→Prop} {a b:List PutR} {v w:AV} {s:St} (hA:Sl no s.h s.n 3 (a.map PutR.row) v) (hB:Sl no' s.h s.n 3 (b.map PutR.row) w) (hab:a.length=b.length) (ha:a.length≤1000) (hs:s.n+5000≤far) :
  ∃ is:Bool,call Try.prog X N (.fn 31) [v,w] s=.val (.bool is) s∧(is=true↔First a b):=by
 obtain ⟨n,rfl⟩:∃ n,N=n+1:=⟨N - 1,by omega⟩
 have hf:far=1000000000:=rfl
 obtain ⟨vv,e,is,rfl,his⟩:=ZU (n:=n) (s:=s) (k:=3000) (args:=[v,w]) (Q:=fun v=>∃ is:Bool,v=.bool is∧(is=true↔First a b)) Try.func31 (fun u uh un um=>by
  rw [← uh,← un] at hA hB
  have kv:=hA.okA
  have kw:=hB.okA
  have lv:=slPuts hA
  rw [enter31]
  simp (disch:=first|omega|with_unfolding_all exact rfl) only [K31,K31r0,K31r1,Abs.W,reduceIte,Nat.reduceEqDiff,Nat.reduceAdd,Nat.reduceSub]
  generalize hlp:jL _ rounds _ _ _ _ _=rl1
  obtain ⟨eE,L1,t3,rfl,hq,B3⟩:=jT hlp (fun i L t=>L.find 0=v∧L.find 1=w∧L.find 5=.int .i64 (i:Int)∧a.take i=b.take i∧Beside u t (2 * i))
   (fun e L t=>((e=.exit 0∧¬ First a b)∨(e=.ret∧∃ is:Bool,L.find 4=.bool is∧(is=true↔First a b)))∧Beside u t 3000) a.length (by unfold rounds;omega)
   ⟨(by simp only [zI,efs,reduceIte,Nat.reduceEqDiff]),(by simp only [zI,efs,reduceIte,Nat.reduceEqDiff]),(by simp only [zI,efs,reduceIte,Nat.reduceEqDiff];rfl),by rw [List.take_zero,List.take_zero],Beside.refl u (by omega) um⟩
   (fun i L t hi ⟨q0,q1,q5,htk,B⟩=>by
    have bn:=B.n
    have bl:=B.le
    have bm:=B.m
    have bf:=B.far
    by_cases hlt:i<a.length
    ·have e0:decide ((i:Int)<(a.length:Int))=true:=decide_eq_true (by omega)
     have ad:∀ s,jH s .i64 (i:Int) 1=.val (.int .i64 ((i:Int)+1)) s:=fun s=>ze s _ _ (by omega)
     have hlb:i<b.length:=by omega
     have hAt:=hA.grow (h':=t.h) (n':=t.n) B.same bn
     have hBt:=hB.grow (h':=t.h) (n':=t.n) B.same bn
     obtain ⟨b1,p1,c1,z1,⟨x1,_⟩,x2,x3,x4⟩:=slPut hAt hlt
     obtain ⟨b2,p2,c2,z2,⟨y1,_⟩,y2,y3,y4⟩:=slPut hBt hlb
     have hfi:=first_at hlt hlb htk
     have hts:=take_eq_snoc hlt hlb htk
     generalize a[i]=P at *
     generalize b[i]=Q at *
     have okQ:∀ (P:PutR) t,okA (.val (.agg P.row) t)=.val (.agg P.row) t:=fun _ _=>rfl
     obtain ⟨y,hy⟩:∃ y:St,y=(((t.new (.cells [.int .i64 0,.int .i64 0,.int .i64 0] (tag 51))).new (.cells [.int .i64 0,.int .i64 0,.int .i64 0] (tag 51))).put t.n (.cells P.row (tag 51))).put (t.n+1) (.cells Q.row (tag 51)):=⟨_,rfl⟩
     have yn:y.n=t.n+2:=by rw [hy];rfl
     have yg:∀ c,c<t.n→y.h.get c=t.h.get c:=fun c hc=>by rw [hy,zM _ _ _ _ (by omega),zM _ _ _ _ (by omega),zH _ _ _ (by rw [zP];omega),zH _ _ _ (by omega)]
     have ym:y.m=min (min t.m t.n) (t.n+1):=by rw [hy];simp only [St.put,zU,zN]
     have y6:y.h.get t.n=some (.cells [.int .i64 P.x,.int .i64 P.y,.int .i64 (P.kind:Int)] (tag 51)):=by rw [hy,zM _ _ _ _ (by omega)];exact zT _ _ _ _ rfl (by omega)
     have y7:y.h.get (t.n+1)=some (.cells [.int .i64 Q.x,.int .i64 Q.y,.int .i64 (Q.kind:Int)] (tag 51)):=by rw [hy];exact zT _ _ _ _ rfl (by omega)
     have By:Beside u y (2 * (i+1)):=⟨fun c hc=>(yg c (by omega)).trans (B.same c hc),by omega,by omega,by omega,by omega⟩
     obtain ⟨s1,hs1⟩:∃ s1:St,s1=(t.new (.cells [.int .i64 0,.int .i64 0,.int .i64 0] (tag 51))).new (.cells [.int .i64 0,.int .i64 0,.int .i64 0] (tag 51)):=⟨_,rfl⟩
     have st1:jX 3 s1 (.agg P.row) (.ptr t.n 0)=.val .undef (s1.put t.n (.cells P.row (tag 51))):=jr _ 3 _ _ _ _ (by rw [hs1,zH _ _ _ (by rw [zP];omega)];exact zL _ _ _ rfl (by omega)) rfl rfl rfl
     have st2:jX 3 (s1.put t.n (.cells P.row (tag 51))) (.agg Q.row) (.ptr (t.n+1) 0)=.val .undef y:=by
      rw [hy,← hs1];exact jr _ 3 _ _ _ _ (by rw [zM _ _ _ _ (by omega),hs1];exact zL _ _ _ rfl (by rw [zP];omega)) rfl rfl rfl
     have st1':jX 3 ((t.new (.cells [.int .i64 0,.int .i64 0,.int .i64 0] (tag 51))).new (.cells [.int .i64 0,.int .i64 0,.int .i64 0] (tag 51))) (.agg P.row) (.ptr t.n 0)=.val .undef (s1.put t.n (.cells P.row (tag 51))):=by rw [← hs1];exact st1
     clear hy hs1
     have hap:yx (.ptr t.n 0) (.ptr b2 p2)=true:=apart_ptrs (by omega)
     by_cases hyy:P.y=Q.y
     ·have d1:decide (P.y=Q.y)=true:=decide_eq_true hyy
      by_cases hxx:P.x=Q.x
      ·have d2:decide (P.x=Q.x)=true:=decide_eq_true hxx
       by_cases hkk:P.kind=Q.kind
       ·have d3:decide ((P.kind:Int)=(Q.kind:Int))=true:=decide_eq_true (by omega)
        have hPQ:P=Q:=(put_same P Q).mp ⟨hxx,hyy,hkk⟩
        refine .inl ⟨hlt,?_⟩
        simp (disch:=first|omega|with_unfolding_all exact rfl) only [K31l0,K31r2,K31r3,Abs.W,reduceIte,Nat.reduceEqDiff,Nat.reduceAdd,Nat.reduceSub,Nat.zero_add,q0,q1,q5,kv,kw,lv,e0,x2,x3,x4,y2,y3,y4,okQ,zP,st1',st2]
        rw [gE _ (by rw [vF,vM];simp only [zI,efs,reduceIte,Nat.reduceEqDiff];exact hap)]
        simp (disch:=first|omega|with_unfolding_all exact rfl) only [Abs.W,reduceIte,Nat.reduceEqDiff,Nat.reduceAdd,Nat.reduceSub,Nat.zero_add,q5,y6,y7,K31r4,K31r6,K31r8,K31r10,d1,d2,d3,ad]
        refine ⟨_,_,rfl,?_,?_,?_,hts.mpr hPQ,By⟩
        ·simp only [efs,q0,reduceIte,Nat.reduceEqDiff]
        ·simp only [efs,q1,reduceIte,Nat.reduceEqDiff]
        ·simp only [efs,reduceIte,Nat.reduceEqDiff];rfl
       ·have d3:decide ((P.kind:Int)=(Q.kind:Int))=false:=decide_eq_false (by omega)
        refine .inr ⟨.ret,?_⟩
        simp (disch:=first|omega|with_unfolding_all exact rfl) only [K31l0,K31r2,K31r3,Abs.W,reduceIte,Nat.reduceEqDiff,Nat.reduceAdd,Nat.reduceSub,Nat.zero_add,q0,q1,q5,kv,kw,lv,e0,x2,x3,x4,y2,y3,y4,okQ,zP,st1',st2]
        rw [gE _ (by rw [vF,vM];simp only [zI,efs,reduceIte,Nat.reduceEqDiff];exact hap)]
        simp (disch:=first|omega|with_unfolding_all exact rfl) only [Abs.W,reduceIte,Nat.reduceEqDiff,Nat.reduceAdd,Nat.reduceSub,Nat.zero_add,q5,y6,y7,K31r4,K31r6,K31r8,K31r9,d1,d2,d3]
        refine ⟨_,_,by simp,rfl,.inr ⟨trivial,decide ((P.kind:Int)<(Q.kind:Int)),(by simp only [efs,reduceIte,Nat.reduceEqDiff]),?_⟩,⟨By.same,By.n,by omega,By.m,By.far⟩⟩
        rw [decide_eq_true_iff,hfi]
        omega
      ·have d2:decide (P.x=Q.x)=false:=decide_eq_false hxx
       refine .inr ⟨.ret,?_⟩
       simp (disch:=first|omega|with_unfolding_all exact rfl) only [K31l0,K31r2,K31r3,Abs.W,reduceIte,Nat.reduceEqDiff,Nat.reduceAdd,Nat.reduceSub,Nat.zero_add,q0,q1,q5,kv,kw,lv,e0,x2,x3,x4,y2,y3,y4,okQ,zP,st1',st2]
       rw [gE _ (by rw [vF,vM];simp only [zI,efs,reduceIte,Nat.reduceEqDiff];exact hap)]
       simp (disch:=first|omega|with_unfolding_all exact rfl) only [Abs.W,reduceIte,Nat.reduceEqDiff,Nat.reduceAdd,Nat.reduceSub,Nat.zero_add,q5,y6,y7,K31r4,K31r6,K31r7,d1,d2]
       refine ⟨_,_,by simp,rfl,.inr ⟨trivial,decide (P.x<Q.x),(by simp only [efs,reduceIte,Nat.reduceEqDiff]),?_⟩,⟨By.same,By.n,by omega,By.m,By.far⟩⟩
       rw [decide_eq_true_iff,hfi]
       omega
     ·have d1:decide (P.y=Q.y)=false:=decide_eq_false hyy
      refine .inr ⟨.ret,?_⟩
      simp (disch:=first|omega|with_unfolding_all exact rfl) only [K31l0,K31r2,K31r3,Abs.W,reduceIte,Nat.reduceEqDiff,Nat.reduceAdd,Nat.reduceSub,Nat.zero_add,q0,q1,q5,kv,kw,lv,e0,x2,x3,x4,y2,y3,y4,okQ,zP,st1',st2]
      rw [gE _ (by rw [vF,vM];simp only [zI,efs,reduceIte,Nat.reduceEqDiff];exact hap)]
      simp (disch:=first|omega|with_unfolding_all exact rfl) only [Abs.W,reduceIte,Nat.reduceEqDiff,Nat.reduceAdd,Nat.reduceSub,Nat.zero_add,q5,y6,y7,K31r4,K31r5,d1]
      refine ⟨_,_,by simp,rfl,.inr ⟨trivial,decide (P.y<Q.y),(by simp only [efs,reduceIte,Nat.reduceEqDiff]),?_⟩,⟨By.same,By.n,by omega,By.m,By.far⟩⟩
      rw [decide_eq_true_iff,hfi]
      omega
    ·obtain rfl:i=a.length:=by omega
     have e0:decide ((a.length:Int)<(a.length:Int))=false:=by simp
     have hE:a=b:=by rw [List.take_length,hab,List.take_length] at htk;exact htk
     refine .inr ⟨.exit 0,L.set 11 (.bool false),t,by simp,?_,.inl ⟨rfl,by rw [hE];exact YU b⟩,⟨B.same,B.n,by omega,B.m,B.far⟩⟩
     simp (disch:=first|omega|with_unfolding_all exact rfl) only [K31l0,K31r2,Abs.W,reduceIte,Nat.reduceEqDiff,Nat.reduceAdd,Nat.reduceSub,q0,q5,kv,lv,e0])
  have bn:=B3.n
  rcases hq with ⟨rfl,hq⟩ | ⟨rfl,is,q4,hq⟩
  ·simp (disch:=first|omega|with_unfolding_all exact rfl) only [K31r11,Abs.W,reduceIte,Nat.reduceEqDiff,Nat.reduceAdd,Nat.reduceSub,res31]
   exact ⟨_,_,rfl,B3,rfl,false,rfl,⟨fun h=>(by cases h),fun h=>absurd h hq⟩⟩
  ·simp (disch:=first|omega|with_unfolding_all exact rfl) only [Abs.W,reduceIte,Nat.reduceEqDiff,Nat.reduceAdd,Nat.reduceSub,q4,res31]
   exact ⟨_,_,rfl,B3,rfl,is,rfl,hq⟩)
 exact ⟨is,e,his⟩
end Go.Proofs.Ytoklbkgcclkejaa.walk
set_option maxRecDepth 10000
namespace Go.Proofs.Ytoklbkgcclkejaa.walk
open Go.Abs Go.Proofs.Ytoklbkgcclkejaa.code
theorem apart_block {v:AV} {c o:Nat} (h:jK v≠some c):yx v (.ptr c o)=true:=by
 unfold yx
 cases hv:jK v with
 | none=>rfl
 | some b =>
  rw [hv] at h
  simp only [jK]
  rw [vO (fun e=>h (by rw [e]))]
  rfl
theorem worth_range {H:HallR} (ok:H.Ok) {l:List PutR} (hl:l.length≤30) (hi:∀ q ∈ l,q.In H):(0≤(H.worth l).1∧(H.worth l).1≤100000000)∧0≤(H.worth l).2∧(H.worth l).2≤100000000:=by
 have h:=ZG (H.rents l) 0 1000000 (by omega) fun x hx=>by
  obtain ⟨p,hp,rfl⟩:=List.mem_map.mp hx
  have h:=vj ok (hi p hp).k
  exact ⟨h.r0,h.r1⟩
 have e:(H.rents l).length=l.length:=by unfold HallR.rents;rw [List.length_map]
 rw [e] at h
 unfold HallR.worth
 simp only
 omega
theorem s_round (M m:Nat) (hM:8≤M) (cx:Ctx) {h0:Heap} {t:St} {lo pt pc ph ps po pf hb p rb q i k:Nat} {sc:List AV} {v vo:AV} {rest:List (Nat × Nat)} {l:List PutR} {T:(Int × Int) × List PutR} {H:HallR} {vW vS vB vK:AV} {O:List (Int × Int)} {L:Env} (ok:H.Ok) (F:SFix h0 lo pt pc ph ps po pf hb p rb sc H vW vS vB vK vo O) (IH:SOk M m h0 lo pt pc ph ps po pf H O) (S:SNow h0 t.h t.n lo pt pc v rest l T) (hpp:pt≤pc) (hg:H.Good l) (hl:l.length≤i) (him:i+1+m=O.length) (hk:k<H.kinds.length) (hq:lo≤q∧q<t.n∧jK v≠some q) (gq:t.h.get q=some (.cells [.int .i64 (H.worth l).1,.int .i64 (H.worth l).2] (tag 120))) (hs:t.n+60010+wide m≤far) (hm:t.m≤far)
  (q0:L.find 0=v) (q2:L.find 2=.int .i64 (i:Int)) (q6:L.find 6=.ptr ps 0) (q7:L.find 7=.ptr po 0) (q8:L.find 8=.ptr pf 0) (q10:L.find 10=.ptr q 0) (q34:L.find 34=vK) (q35:L.find 35=.int .i64 (H.kinds.length:Int)) (q36:L.find 36=.int .i64 (k:Int)) :
  ∃ L1 t1,K82l0 (call Try.prog X M) cx L [] t=.done .norm L1 [] t1∧SPost h0 t t1 lo pt pc v rest l T (if H.takesB l (jN (O.getD i (0,0)) k)=true then srch H.kinds.length H.takesB H.worth H.rent (O.drop (i+1)) (l++[jN (O.getD i (0,0)) k]) T else T) (30+wide m)∧(∀ c,c<11→L1.find c=L.find c)∧L1.find 34=vK∧L1.find 35=.int .i64 (H.kinds.length:Int)∧L1.find 36=.int .i64 ((k+1:Nat):Int):=by
 have hf:far=1000000000:=rfl
 have o8:=F.o8
 have hlo:=S.lo
 have htl:=F.lt.2.1
 have hcl:=F.lt.2.2
 have hpfl:=F.lt.1.2.2.2.1
 have kv:=(S.fam.puts (no:=fun _=>True) fun _ _ _=>trivial).okA
 have hbl:=S.fam.block
 have nb:∀ b,b<lo→jK v≠some b:=fun b hb h=>by have:=hbl b h;omega
 have W:=F.at_ S
 obtain ⟨c,hc⟩:∃ c,c=O.getD i (0,0):=⟨_,rfl⟩
 have hil:i<O.length:=by omega
 have hcx:O[i]=c:=by rw [hc,List.getD_eq_getElem?_getD,List.getElem?_eq_getElem hil];rfl
 have hcin:H.In c:=by rw [← hcx];exact F.oin _ (List.getElem_mem hil)
 rw [← hc]
 have hPin:=put_in ok hcin hk
 -- the kind and the place
 have e0:decide ((k:Int)<(H.kinds.length:Int))=true:=decide_eq_true (by omega)
 have ad:∀ s,jH s .i64 (k:Int) 1=.val (.int .i64 ((k:Int)+1)) s:=fun s=>ze s _ _ (by have:=ok.k1;omega)
 have ad2:∀ s,jH s .i64 (i:Int) 1=.val (.int .i64 ((i+1:Nat):Int)) s:=fun s=>by rw [ze s _ _ (by omega)];rfl
 obtain ⟨aw,kb,koo,kc,ksz,⟨kb1,kbn⟩,kb2,kb3,kcut,hAw⟩:=W.hH.k.get hk
 have hki:H.kind k=H.kinds[k]:=by unfold HallR.kind;rw [List.getD_eq_getElem?_getD,List.getElem?_eq_getElem hk];rfl
 rw [← hki] at kcut hAw
 obtain ⟨ob,oo,oc,osz,⟨o1,o1n⟩,o2,o3,o4⟩:=Jx W.hO hil
 rw [hcx] at o4
 have hkr:=vj ok hk
 have hr0:=hkr.r0
 have hr1:=hkr.r1
 have hsc:scalars ((H.kind k).row aw)=true:=by
  show scalars [aw,.int .i64 (H.kind k).rent,.int .i64 (H.kind k).most]=true
  rw [hAw.scal.2.2];rfl
 have okr:∀ t,okA (.val (.agg ((H.kind k).row aw)) t)=.val (.agg ((H.kind k).row aw)) t:=fun _=>rfl
 have okc:∀ t,okA (.val (.agg (jE c)) t)=.val (.agg (jE c)) t:=fun _=>rfl
 obtain ⟨A,hA⟩:∃ A:St,A=(t.new (.cells [.int .i64 0,.int .i64 0,.bool false,.nilslice,.int .i64 0,.int .i64 0] (tag 49))).put t.n (.cells ((H.kind k).row aw) (tag 49)):=⟨_,rfl⟩
 have stA:jX 6 (t.new (.cells [.int .i64 0,.int .i64 0,.bool false,.nilslice,.int .i64 0,.int .i64 0] (tag 49))) (.agg ((H.kind k).row aw)) (.ptr t.n 0)=.val .undef A:=by
  rw [hA];exact jr _ 6 _ _ _ _ (zL _ _ _ rfl (by omega)) rfl rfl hsc
 have An:A.n=t.n+1:=by rw [hA];rfl
 have Am:A.m=min t.m t.n:=by rw [hA];simp only [St.put,zU,zN]
 have Ag:∀ b,b<t.n→A.h.get b=t.h.get b:=fun b hb=>by rw [hA,zM _ _ _ _ (by omega),zH _ _ _ (by omega)]
 have A13:A.h.get t.n=some (.cells ((H.kind k).row aw) (tag 49)):=by rw [hA];exact zT _ _ _ _ rfl (by omega)
 clear hA
 obtain ⟨B,hB⟩:∃ B:St,B=(A.new (.cells [.int .i64 0,.int .i64 0,.int .i64 0] (tag 51))).put A.n (.cells [.int .i64 c.1,.int .i64 c.2,.int .i64 (k:Int)] (tag 51)):=⟨_,rfl⟩
 have stB:jX 3 (A.new (.cells [.int .i64 0,.int .i64 0,.int .i64 0] (tag 51))) (.agg [.int .i64 c.1,.int .i64 c.2,.int .i64 (k:Int)]) (.ptr A.n 0)=.val .undef B:=by
  rw [hB];exact jr _ 3 _ _ _ _ (zL _ _ _ rfl (by omega)) rfl rfl rfl
 have Bn:B.n=A.n+1:=by rw [hB];rfl
 have Bm:B.m=min A.m A.n:=by rw [hB];simp only [St.put,zU,zN]
 have Bg:∀ b,b<A.n→B.h.get b=A.h.get b:=fun b hb=>by rw [hB,zM _ _ _ _ (by omega),zH _ _ _ (by omega)]
 have B14:B.h.get A.n=some (.cells [.int .i64 c.1,.int .i64 c.2,.int .i64 (k:Int)] (tag 51)):=by rw [hB];exact zT _ _ _ _ rfl (by omega)
 clear hB
 have Bt':∀ b,b<t.n→B.h.get b=t.h.get b:=fun b hb=>(Bg b (by omega)).trans (Ag b hb)
 have SA:SNow h0 A.h A.n lo pt pc v rest l T:=S.grow Ag (by omega) (by omega)
 have SB:SNow h0 B.h B.n lo pt pc v rest l T:=S.grow Bt' (by omega) (by omega)
 have WA:=F.at_ SA
 have WB:=F.at_ SB
 have ko:=W.hO.okA
 have go7:=WA.bo
 have goA:=(Ag ob o1).trans o3
 have gB6:=WB.bs
 obtain ⟨is,eis,his⟩:=takes_ok M (by omega) F.c ok WB.hH.b WB.hH.k (SB.fam.puts (no:=fun b=>b≠pt∧b≠pc) fun b h1 _=>⟨by omega,by omega⟩) hg.i (may_in hg.v) (by omega) hPin WB.g WB.gr WB.lp.1 WB.lp.2 (by omega)
 have hT:H.takesB l (jN c k)=is:=by
  cases is with
  | true=>exact vE.mpr (his.mp rfl)
  | false =>
   cases h:H.takesB l (jN c k) with
   | false=>rfl
   | true=>exact absurd (his.mpr (vE.mp h)) (by simp)
 rw [hT]
 have eis':call Try.prog X M (.fn 54) [.ptr p 0,v,.agg [.int .i64 c.1,.int .i64 c.2,.int .i64 (k:Int)]] B=.val (.bool is) B:=eis
 have ll:∀ s,jA s vK=.val (.int .i64 (H.kinds.length:Int)) s:=fun s=>W.hH.k.len s
 simp (disch:=first|omega|with_unfolding_all exact rfl) only [K82l0,K82r5,K82r6,K82r7,K82r8,K82r10,Abs.W,reduceIte,Nat.reduceEqDiff,Nat.reduceAdd,Nat.reduceSub,q0,q2,q6,q7,q8,q10,q34,q35,q36,e0,kb2,kb3,kcut,okr,stA,go7,o2,goA,o4,okc,stB,gB6,B14,kv,ko,eis',ad,Nat.zero_add]
 cases is with
 | false =>
  simp (disch:=first|omega|with_unfolding_all exact rfl) only [Abs.W,reduceIte,Nat.reduceEqDiff,Nat.reduceAdd,Nat.reduceSub,q36,ad,Nat.zero_add]
  refine ⟨_,B,rfl,⟨SB,fun b h1 h2 h3 h4=>Bt' b h1,by omega,by omega,fun x h1 h2 h3=>by omega,by omega,.inr rfl⟩,fun c hc=>?_,?_,?_,?_⟩
  ·have h1:¬ 12=c:=by omega
   have h2:¬ 13=c:=by omega
   have h3:¬ 14=c:=by omega
   have h4:¬ 36=c:=by omega
   have h5:¬ 37=c:=by omega
   have h6:¬ 50=c:=by omega
   simp only [efs,h1,h2,h3,h4,h5,h6,reduceIte]
  ·simp only [efs,q34,reduceIte,Nat.reduceEqDiff]
  ·simp only [efs,q35,reduceIte,Nat.reduceEqDiff]
  ·simp only [efs,reduceIte,Nat.reduceEqDiff];rfl
 | true =>
  have hTk:H.Takes l (jN c k):=his.mp rfl
  have hgP:=(good_put ok hg hcin hk).mp hTk
  obtain ⟨pfz,gf⟩:=WB.bf
  obtain ⟨C,hC⟩:∃ C:St,C=B.new (.cells [.int .i64 c.1,.int .i64 c.2,.int .i64 (k:Int)] 0):=⟨_,rfl⟩
  have Cn:C.n=B.n+1:=by rw [hC];rfl
  have Cm:C.m=B.m:=by rw [hC];rfl
  have Cg:∀ b,b<B.n→C.h.get b=B.h.get b:=fun b hb=>by rw [hC,zH _ _ _ (by omega)]
  have CB:C.h.get B.n=some (.cells (jN c k).row 0):=by rw [hC];exact zL _ _ _ rfl (by omega)
  have fC:FamAt C.h C.n lo v rest l:=SB.fam.grow (fun b h1 h2=>Cg b h1) (by omega)
  obtain ⟨v',D,rest',e4,fD,Dn,Dg,Dk,Dle,b1,b2,back⟩:=fam_append fC (by omega) CB (by omega) (by omega)
  have okv':∀ s,okA (.val v' s)=.val v' s:=fun s=>(fD.puts (no:=fun _=>True) fun _ _ _=>trivial).okA s
  have nb':∀ b,b<t.n→jK v≠some b→jK v'≠some b:=fun b hb h1 h2=>by
   rcases b1 b h2 with h | h
   ·exact h1 h
   ·omega
  have Dt:∀ b,b<t.n→jK v≠some b→D.h.get b=t.h.get b:=fun b hb h1=>(Dg b (by omega) h1).trans ((Cg b (by omega)).trans (Bt' b hb))
  have DB:∀ b,b<B.n→jK v≠some b→D.h.get b=B.h.get b:=fun b hb h1=>(Dg b (by omega) h1).trans (Cg b hb)
  have gq':=(Dt q hq.2.1 hq.2.2).trans gq
  have g13:D.h.get t.n=some (.cells ((H.kind k).row aw) (tag 49)):=(DB t.n (by omega) (fun h=>by have:=hbl _ h;omega)).trans ((Bg t.n (by omega)).trans A13)
  have f4:nth ((H.kind k).row aw) 4=.int .i64 (H.kind k).rent:=rfl
  have wr:=worth_range ok (l:=l) (by omega) hg.i
  have epl:=plus_ok M (by omega) (H.worth l) ((H.kind k).rent,1) ⟨D.h,D.n,far⟩ wr ⟨⟨hr0,by show (H.kind k).rent≤100000000;omega⟩,by show (0:Int)≤1;omega,by show (1:Int)≤100000000;omega⟩ (by show D.n+10≤far;omega)
  have hD:=fun v=>jy (v:=v) (s:=D) (h:=(by omega:D.n≤far)) (hm:=by omega)
  have hwp:H.worth (l++[jN c k])=((H.worth l).1+(H.kind k).rent,(H.worth l).2+1):=worth_put H l (jN c k)
  have SD:SNow h0 D.h D.n lo pt pc v' rest' (l++[jN c k]) T:=by
   obtain ⟨a1,a2,⟨vc,a3,a4⟩,a5,a6⟩:=id SB
   refine ⟨fun b h1 h2 h3=>(DB b (by omega) (nb b h1)).trans (a1 b h1 h2 h3),(DB pt (by omega) (nb pt htl)).trans a2,⟨vc,(DB pc (by omega) (nb pc hcl)).trans a3,a4.grow (fun b h1 h2 h3=>⟨DB b h2 h3,fun h=>?_⟩) (by omega)⟩,fD,by omega⟩
   rcases b1 b h with h' | h'
   ·exact h3 h'
   ·omega
  obtain ⟨E,e5,po⟩:=IH D v' rest' (l++[jN c k]) T (i+1) him SD hgP (by rw [List.length_append,List.length_singleton];omega) (by omega) (by omega)
  rw [hwp] at e5
  obtain ⟨r1,r2,r3,r4,r5,r6,r7⟩:=po
  have ap1:yx v (.ptr pf 0)=true:=apart_block (nb pf hpfl)
  have ap2:yx v (.ptr q 0)=true:=apart_block hq.2.2
  have ap3:yx v (.ptr t.n 4)=true:=apart_block (fun h=>by have:=hbl _ h;omega)
  simp (disch:=first|omega|with_unfolding_all exact rfl) only [K82r9,Abs.W,reduceIte,Nat.reduceEqDiff,Nat.reduceAdd,Nat.reduceSub,q0,q2,q8,q10,q36,gf,kv,wH,B14,Nat.zero_add]
  rw [← hC]
  simp (disch:=first|omega|with_unfolding_all exact rfl) only [Abs.W,reduceIte,Nat.reduceEqDiff,Nat.reduceAdd,Nat.reduceSub,q0,q2,q8,q10,q36,e4,okv',gq',fldE,g13,f4,epl,hD,ad2,e5,Nat.zero_add]
  rw [gE]
  rotate_left
  ·refine (vF ?_).trans ((vF ?_).trans ((vF ?_).trans (vM _)))
   ·simp only [zI,efs,q8,reduceIte,Nat.reduceEqDiff];exact ap1
   ·simp only [zI,efs,q10,reduceIte,Nat.reduceEqDiff];exact ap2
   ·simp only [zI,efs,reduceIte,Nat.reduceEqDiff];exact ap3
  simp (disch:=first|omega|with_unfolding_all exact rfl) only [Abs.W,reduceIte,Nat.reduceEqDiff,Nat.reduceAdd,Nat.reduceSub,q36,ad,Nat.zero_add]
  refine ⟨_,E,rfl,⟨?_,fun b h1 h2 h3 h4=>(r2 b (by omega) h2 h3 (nb' b h1 h4)).trans (Dt b h1 h4),by omega,by omega,fun x h1 h2 h3=>r5 x h1 h2 (Dk x (by omega) (by omega)),by omega,r7⟩,fun c hc=>?_,?_,?_,?_⟩
  ·obtain ⟨a1,a2,⟨vc,a3,a4⟩,a5,a6⟩:=r1
   exact ⟨a1,a2,⟨vc,a3,a4.grow (fun b h1 h2 h3=>⟨rfl,fun h=>h3 (b2 b h)⟩) (Nat.le_refl _)⟩,back _ _ a5,a6⟩
  ·have h1:¬ 12=c:=by omega
   have h2:¬ 13=c:=by omega
   have h3:¬ 14=c:=by omega
   have h4:¬ 36=c:=by omega
   have h5:¬ 37=c:=by omega
   have h6:¬ 50=c:=by omega
   simp only [efs,h1,h2,h3,h4,h5,h6,reduceIte]
  ·simp only [efs,q34,reduceIte,Nat.reduceEqDiff]
  ·simp only [efs,q35,reduceIte,Nat.reduceEqDiff]
  ·simp only [efs,reduceIte,Nat.reduceEqDiff];rfl
end Go.Proofs.Ytoklbkgcclkejaa.walk
set_option maxRecDepth 10000
namespace Go.Proofs.Ytoklbkgcclkejaa.walk
open Go.Abs Go.Proofs.Ytoklbkgcclkejaa.code
theorem SPost.more {h0:Heap} {s t:St} {lo pt pc:Nat} {v:AV} {rest:List (Nat × Nat)} {l:List PutR} {T T':(Int × Int) × List PutR} {k k':Nat} (a:SPost h0 s t lo pt pc v rest l T T' k) (h:k≤k'):SPost h0 s t lo pt pc v rest l T T' k' :=
 ⟨a.now,a.old,a.n,Nat.le_trans a.le (Nat.add_le_add_left h _),a.m,a.mle,a.or⟩
theorem bump_ge {H:HallR} (l:List PutR) (T:(Int × Int) × List PutR):¬ Bt (H.worth l) (bump H.worth l T).1:=by
 unfold bump
 by_cases h:Bt (H.worth l) T.1
 ·rw [if_pos h];exact nbt_self _
 ·rw [if_neg h];exact h
noncomputable def HallR.kindStep (H:HallR) (O:List (Int × Int)) (i:Nat) (l:List PutR) (T:(Int × Int) × List PutR) (k:Nat):(Int × Int) × List PutR :=
 if H.takesB l (jN (O.getD i (0,0)) k)=true then srch H.kinds.length H.takesB H.worth H.rent (O.drop (i+1)) (l++[jN (O.getD i (0,0)) k]) T else T
theorem srch_at {H:HallR} {O:List (Int × Int)} {i:Nat} (hi:i<O.length) (l:List PutR) (T:(Int × Int) × List PutR):srch H.kinds.length H.takesB H.worth H.rent (O.drop i) l T=if Bt (wplus (H.worth l) (H.hopeL (O.drop i))) (bump H.worth l T).1 then srch H.kinds.length H.takesB H.worth H.rent (O.drop (i+1)) l ((List.range H.kinds.length).foldl (H.kindStep O i l) (bump H.worth l T)) else bump H.worth l T:=by
 have e:O.drop i=O.getD i (0,0)::O.drop (i+1):=by
  rw [List.drop_eq_getElem_cons hi,List.getD_eq_getElem?_getD,List.getElem?_eq_getElem hi];rfl
 rw [e]
 rfl
theorem fold_snoc {α:Type} (f:α→Nat→α) (b:α) (i:Nat):(List.range (i+1)).foldl f b=f ((List.range i).foldl f b) i:=by
 rw [List.range_succ,List.foldl_append];rfl
theorem s_body (M m:Nat) (hM:8≤M) (cx:Ctx) {h0:Heap} {s:St} {lo pt pc ph ps po pf hb p rb q i:Nat} {sc:List AV} {v vo:AV} {rest:List (Nat × Nat)} {l:List PutR} {T:(Int × Int) × List PutR} {H:HallR} {vW vS vB vK:AV} {O:List (Int × Int)} {L:Env} (ok:H.Ok) (F:SFix h0 lo pt pc ph ps po pf hb p rb sc H vW vS vB vK vo O) (IH:∀ m',m=m'+1→SOk M m' h0 lo pt pc ph ps po pf H O) (S:SNow h0 s.h s.n lo pt pc v rest l T) (hpp:pt≤pc) (hg:H.Good l) (hl:l.length≤i) (him:i+m=O.length) (hq:lo≤q∧q<s.n∧jK v≠some q) (gq:s.h.get q=some (.cells [.int .i64 (H.worth l).1,.int .i64 (H.worth l).2] (tag 120))) (hs:s.n+59999+wide m≤far) (hm:s.m≤far)
  (q0:L.find 0=v) (q2:L.find 2=.int .i64 (i:Int)) (q3:L.find 3=.ptr pt 0) (q4:L.find 4=.ptr pc 0) (q5:L.find 5=.ptr ph 0) (q6:L.find 6=.ptr ps 0) (q7:L.find 7=.ptr po 0) (q8:L.find 8=.ptr pf 0) (q10:L.find 10=.ptr q 0) :
  ∃ e L1 t1 kk,(zG (zG (zD K82r1 [17]) (zv (.tmp 17) (zr K82r2 []) zw)) (zG (zG (zr K82r3 [29]) (zv (.tmp 29) jI zw)) (zG (zG (zD K82r4 [34,35,36]) (zd 0 (jx K82l0))) (zD K82r11 [])))) (call Try.prog X M) cx L [] s=.done e L1 [] t1∧(e=.norm∨e=.ret)∧SPost h0 s t1 lo pt pc v rest l T (srch H.kinds.length H.takesB H.worth H.rent (O.drop i) l T) kk∧kk+1≤wide m:=by
 have hf:far=1000000000:=rfl
 have o8:=F.o8
 have k2:=F.k2
 have hlo:=S.lo
 have htl:=F.lt.2.1
 have hcl:=F.lt.2.2
 have hpc:pt≠pc:=F.ne.2.2
 have hw0:20≤wide m:=by
  cases m with
  | zero=>exact Nat.le_refl _
  | succ m=>show 20≤3 * (30+wide m)+30;omega
 obtain ⟨b,t1,e1,p1⟩:=s_bump M (by omega) cx S (by omega) hq gq ⟨htl,hcl,hpc,hpp⟩ (by omega) hm q0 q3 q4 q10
 have nbq:jK v≠some q:=hq.2.2
 have S1:=p1.now
 have n1:=p1.n
 have l1:=p1.le
 have m1:=p1.mle
 have gq1:=(p1.old q hq.2.1 (by omega) (by omega) nbq).trans gq
 rw [Zq,e1,vn,Zq,Zq]
 have e2:=s_hope M (by omega) cx (i:=i) (L:=L.set 17 (.bool b)) ok F S1 hg (by omega) (by omega) gq1 (by omega) (by omega) (by simp only [efs,q2,reduceIte,Nat.reduceEqDiff]) (by simp only [efs,q3,reduceIte,Nat.reduceEqDiff]) (by simp only [efs,q5,reduceIte,Nat.reduceEqDiff]) (by simp only [efs,q10,reduceIte,Nat.reduceEqDiff])
 rw [e2,vn]
 by_cases hB:Bt (wplus (H.worth l) (H.hopeL (O.drop i))) (bump H.worth l T).1
 ·match m,him,IH,hs,hw0 with
  | 0,him,_,_,_ =>
   exfalso
   have e:O.drop i=[]:=List.drop_eq_nil_of_le (by omega)
   rw [e] at hB
   have:wplus (H.worth l) (H.hopeL [])=H.worth l:=by
    show ((H.worth l).1+0,(H.worth l).2+0)=_
    rw [Int.add_zero,Int.add_zero]
   rw [this] at hB
   exact bump_ge l T hB
  | m'+1,him,IH,hs,_ =>
   have IH:=IH m' rfl
   have hwd:wide (m'+1)=3 * (30+wide m')+30:=rfl
   rw [hwd] at hs ⊢
   rw [srch_at (by omega),if_pos hB]
   have hbt:decide (Bt (wplus (H.worth l) (H.hopeL (O.drop i))) (bump H.worth l T).1)=true:=decide_eq_true hB
   rw [hbt]
   obtain ⟨T1,hT1⟩:∃ T1,T1=bump H.worth l T:=⟨_,rfl⟩
   rw [← hT1] at S1 p1 ⊢
   have W1:=F.at_ S1
   have kK:=W1.hH.k.okA
   have lK:=W1.hH.k.len
   have gs:=W1.bs
   have gp:=W1.g
   have hsk:=F.c.k
   -- the loop
   have loop:∀ (L0:Env) (r:R),jL K82l0 rounds (call Try.prog X M) cx L0 [] t1=r→((∀ c,c<11→L0.find c=L.find c)∧L0.find 34=vK∧L0.find 35=.int .i64 (H.kinds.length:Int)∧L0.find 36=.int .i64 0)→∃ L1 t,r=.done (.exit 0) L1 [] t∧(∀ c,c<11→L1.find c=L.find c)∧SPost h0 t1 t lo pt pc v rest l T1 ((List.range H.kinds.length).foldl (H.kindStep O i l) T1) (H.kinds.length * (30+wide m')):=by
    intro L0 r hlp ⟨l1',l34,l35,l36⟩
    obtain ⟨e,L1,t,rfl,rfl,j⟩:=jT hlp
     (fun k L1 t=>((∀ c,c<11→L1.find c=L.find c)∧L1.find 34=vK∧L1.find 35=.int .i64 (H.kinds.length:Int)∧L1.find 36=.int .i64 (k:Int))∧SPost h0 t1 t lo pt pc v rest l T1 ((List.range k).foldl (H.kindStep O i l) T1) (k * (30+wide m')))
     (fun e L1 t=>e=.exit 0∧(∀ c,c<11→L1.find c=L.find c)∧SPost h0 t1 t lo pt pc v rest l T1 ((List.range H.kinds.length).foldl (H.kindStep O i l) T1) (H.kinds.length * (30+wide m'))) H.kinds.length (by unfold rounds;omega)
     ⟨⟨l1',l34,l35,l36⟩,by rw [Nat.zero_mul];exact SPost.refl S1⟩
     (fun k L1 t hk ⟨⟨a1,a34,a35,a36⟩,po⟩=>by
      by_cases hlt:k<H.kinds.length
      ·have hmul:k * (30+wide m')≤1 * (30+wide m'):=Nat.mul_le_mul_right _ (by omega)
       have g1:=po.n
       have g2:=po.le
       have g3:=po.mle
       have gq2:=(po.old q (by omega) (by omega) (by omega) nbq).trans gq1
       obtain ⟨L2,t2,w1,w2,w3,w34,w35,w36⟩:=s_round M m' hM cx ok F IH po.now hpp hg hl (by omega) hlt ⟨hq.1,by omega,nbq⟩ gq2 (by omega) (by omega) (by rw [a1 0 (by omega)];exact q0) (by rw [a1 2 (by omega)];exact q2) (by rw [a1 6 (by omega)];exact q6) (by rw [a1 7 (by omega)];exact q7) (by rw [a1 8 (by omega)];exact q8) (by rw [a1 10 (by omega)];exact q10) a34 a35 a36
       refine .inl ⟨hlt,L2,t2,w1,⟨fun c hc=>(w3 c hc).trans (a1 c hc),w34,w35,w36⟩,?_⟩
       rw [fold_snoc,Nat.succ_mul]
       exact po.trans w2
      ·obtain rfl:k=H.kinds.length:=by omega
       have e0:decide ((H.kinds.length:Int)<(H.kinds.length:Int))=false:=decide_eq_false (by omega)
       refine .inr ⟨.exit 0,L1.set 37 (.bool false),t,by simp,?_,rfl,fun c hc=>?_,po⟩
       ·simp (disch:=first|omega|with_unfolding_all exact rfl) only [K82l0,K82r5,Abs.W,reduceIte,Nat.reduceEqDiff,Nat.reduceAdd,Nat.reduceSub,a35,a36,e0,Nat.zero_add]
       ·have h5:¬ 37=c:=by omega
        simp only [efs,h5,reduceIte]
        exact a1 c hc)
    exact ⟨L1,t,rfl,j⟩
   have ad2:∀ s,jH s .i64 (i:Int) 1=.val (.int .i64 ((i+1:Nat):Int)) s:=fun s=>by rw [ze s _ _ (by omega)];rfl
   simp (disch:=first|omega|with_unfolding_all exact rfl) only [K82r4,Abs.W,reduceIte,Nat.reduceEqDiff,Nat.reduceAdd,Nat.reduceSub,q6,gs,gp,hsk,kK,lK,Nat.zero_add]
   generalize hlp:jL _ rounds _ _ _ _ _=r1
   obtain ⟨L1,t,rfl,fk,po⟩:=loop _ _ hlp ⟨fun c hc=>by
    have h1:¬ 36=c:=by omega
    have h2:¬ 35=c:=by omega
    have h3:¬ 34=c:=by omega
    have h4:¬ 29=c:=by omega
    have h5:¬ 17=c:=by omega
    simp only [efs,h1,h2,h3,h4,h5,reduceIte],by simp only [efs,reduceIte,Nat.reduceEqDiff],by simp only [efs,reduceIte,Nat.reduceEqDiff],by simp only [efs,reduceIte,Nat.reduceEqDiff]⟩
   have g1:=po.n
   have g2:=po.le
   have g3:=po.mle
   have hmul:H.kinds.length * (30+wide m')≤2 * (30+wide m'):=Nat.mul_le_mul_right _ (by omega)
   have St:=po.now
   have gq2:=(po.old q (by omega) (by omega) (by omega) nbq).trans gq1
   obtain ⟨pfz,gf⟩:=(F.at_ St).bf
   have kv:=(St.fam.puts (no:=fun _=>True) fun _ _ _=>trivial).okA
   have f0:=(fk 0 (by omega)).trans q0
   have f2:=(fk 2 (by omega)).trans q2
   have f8:=(fk 8 (by omega)).trans q8
   have f10:=(fk 10 (by omega)).trans q10
   obtain ⟨u,e5,p5⟩:=IH t v rest l ((List.range H.kinds.length).foldl (H.kindStep O i l) T1) (i+1) (by omega) St hg (by omega) (by omega) (by omega)
   simp (disch:=first|omega|with_unfolding_all exact rfl) only [K82r11,Abs.W,reduceIte,Nat.reduceEqDiff,Nat.reduceAdd,Nat.reduceSub,f0,f2,f8,f10,gf,kv,wH,gq2,ad2,e5,Nat.zero_add]
   exact ⟨_,_,_,_,rfl,.inl rfl,(p1.trans po).trans p5,by omega⟩
 ·have hbt:decide (Bt (wplus (H.worth l) (H.hopeL (O.drop i))) (bump H.worth l T).1)=false:=decide_eq_false hB
  rw [hbt]
  have hT':srch H.kinds.length H.takesB H.worth H.rent (O.drop i) l T=bump H.worth l T:=by
   by_cases hi:i<O.length
   ·rw [srch_at hi,if_neg hB]
   ·rw [List.drop_eq_nil_of_le (by omega)];rfl
  rw [hT']
  simp (disch:=first|omega|with_unfolding_all exact rfl) only [Abs.W,reduceIte,Nat.reduceEqDiff,Nat.reduceAdd,Nat.reduceSub,Nat.zero_add]
  exact ⟨_,_,_,_,rfl,.inr rfl,p1,by omega⟩
theorem s_call {M m:Nat} (hM:8≤M) {h0:Heap} {lo pt pc ph ps po pf hb p rb:Nat} {sc:List AV} {vo:AV} {H:HallR} {vW vS vB vK:AV} {O:List (Int × Int)} (ok:H.Ok) (F:SFix h0 lo pt pc ph ps po pf hb p rb sc H vW vS vB vK vo O) (hpp:pt≤pc) (IH:∀ m',m=m'+1→SOk M m' h0 lo pt pc ph ps po pf H O):SOk (M+1) m h0 lo pt pc ph ps po pf H O:=by
 intro s v rest l T i him S hg hl hs hm
 have hf:far=1000000000:=rfl
 have htl:=F.lt.2.1
 have hcl:=F.lt.2.2
 have hlo:=S.lo
 obtain ⟨T',hT'⟩:∃ T',T'=srch H.kinds.length H.takesB H.worth H.rent (O.drop i) l T:=⟨_,rfl⟩
 rw [← hT']
 obtain ⟨w,t,mm,e,⟨rfl,q1,q2,q3,q4,q5,q6⟩,hm'⟩:=call_any (n:=M) (args:=[v,.agg [.int .i64 (H.worth l).1,.int .i64 (H.worth l).2],.int .i64 (i:Int),.ptr pt 0,.ptr pc 0,.ptr ph 0,.ptr ps 0,.ptr po 0,.ptr pf 0]) (s:=s) (Q:=fun w h n m'=>w=.tup []∧SNow h0 h n lo pt pc v rest l T'∧(∀ b,b<s.n→b≠pt→b≠pc→jK v≠some b→h.get b=s.h.get b)∧s.n≤n∧n≤s.n+wide m∧(∀ k,k≤pt→k≤pc→k≤m')∧(m'≤pt∨T'=T)) Try.func82 rfl (fun U uh un um=>by
  have S':=S
  rw [← uh,← un] at S'
  have hbl:=S'.fam.block
  obtain ⟨w,hw⟩:∃ w:St,w=U.new (.cells [.int .i64 (H.worth l).1,.int .i64 (H.worth l).2] (tag 120)):=⟨_,rfl⟩
  have wn:w.n=U.n+1:=by rw [hw];rfl
  have wm:w.m=far:=by rw [hw];exact um
  have wg:∀ c,c<U.n→w.h.get c=U.h.get c:=fun c hc=>by rw [hw,zH _ _ _ (by omega)]
  have wq:w.h.get U.n=some (.cells [.int .i64 (H.worth l).1,.int .i64 (H.worth l).2] (tag 120)):=by rw [hw];exact zL _ _ _ rfl (by omega)
  have Sw:SNow h0 w.h w.n lo pt pc v rest l T:=S'.grow wg (by omega) (by omega)
  rw [enter82]
  unfold K82
  rw [Zq]
  have e0:∃ L,(zD K82r0 [10]) (call Try.prog X M) ⟨82,none,Try.f82.ntmps,X 82⟩ (zQ 0 [v,.agg [.int .i64 (H.worth l).1,.int .i64 (H.worth l).2],.int .i64 (i:Int),.ptr pt 0,.ptr pc 0,.ptr ph 0,.ptr ps 0,.ptr po 0,.ptr pf 0] .nil) [] U=.done .norm L [] w∧L.find 0=v∧L.find 2=.int .i64 (i:Int)∧L.find 3=.ptr pt 0∧L.find 4=.ptr pc 0∧L.find 5=.ptr ph 0∧L.find 6=.ptr ps 0∧L.find 7=.ptr po 0∧L.find 8=.ptr pf 0∧L.find 10=.ptr U.n 0:=by
   simp (disch:=first|omega|with_unfolding_all exact rfl) only [K82r0,Abs.W,reduceIte,Nat.reduceEqDiff,Nat.reduceAdd,Nat.reduceSub]
   rw [← hw]
   refine ⟨_,rfl,?_,?_,?_,?_,?_,?_,?_,?_,?_⟩<;>simp only [zI,efs,reduceIte,Nat.reduceEqDiff]
  obtain ⟨L,e0,f0,f2,f3,f4,f5,f6,f7,f8,f10⟩:=e0
  rw [e0,vn]
  obtain ⟨e,L1,t1,kk,e1,he,po,hkk⟩:=s_body M m hM ⟨82,none,Try.f82.ntmps,X 82⟩ ok F IH Sw hpp hg hl him ⟨by omega,by omega,fun h=>by have:=hbl _ h;omega⟩ wq (by omega) (by omega) f0 f2 f3 f4 f5 f6 f7 f8 f10
  rw [e1,← hT'] at *
  obtain ⟨r1,r2,r3,r4,r5,r6,r7⟩:=po
  have hfin:jh Try.prog Try.f82 (.done e L1 [] t1)=.val (.tup []) t1:=by
   rcases he with rfl | rfl
   ·rw [finA_norm,res82,leave_nil]
   ·rw [finA_ret,res82,leave_nil]
  refine ⟨_,_,hfin,⟨rfl,r1,fun b h1 h2 h3 h4=>by rw [r2 b (by omega) h2 h3 h4,wg b (by omega),uh],by omega,by omega,fun k h1 h2=>r5 k h1 h2 (by omega),r7⟩,fun _ hle=>?_⟩
  have hTT:T'=T:=by
   rcases r7 with h | h
   ·omega
   ·exact h
  exact ⟨rfl,by rw [hTT];exact S,fun _ _ _ _ _=>rfl,Nat.le_refl _,Nat.le_add_right _ _,fun k h1 h2=>r5 k h1 h2 (by omega),.inr hTT⟩)
 refine ⟨t,e,q1,q2,q3,q4,fun k h1 h2 h3=>?_,?_,?_⟩
 ·have:=q5 k h1 h2
  rcases hm' with ⟨_,hm'⟩ | ⟨_,hm'⟩<;>omega
 ·rcases hm' with ⟨_,hm'⟩ | ⟨_,hm'⟩<;>omega
 ·rcases q6 with h | h
  ·left
   rcases hm' with ⟨_,hm'⟩ | ⟨_,hm'⟩<;>omega
  ·exact .inr h
theorem s_ok {h0:Heap} {lo pt pc ph ps po pf hb p rb:Nat} {sc:List AV} {vo:AV} {H:HallR} {vW vS vB vK:AV} {O:List (Int × Int)} (ok:H.Ok) (F:SFix h0 lo pt pc ph ps po pf hb p rb sc H vW vS vB vK vo O) (hpp:pt≤pc):∀ (m N:Nat),9+m≤N→SOk N m h0 lo pt pc ph ps po pf H O
 | m,N,hN=>by
  obtain ⟨M,rfl⟩:∃ M,N=M+1:=⟨N - 1,by omega⟩
  refine s_call (by omega) ok F hpp fun m' h=>?_
  subst h
  exact s_ok ok F hpp m' M (by omega)
 termination_by m=>m
end Go.Proofs.Ytoklbkgcclkejaa.walk
set_option maxRecDepth 10000
namespace Go.Proofs.Ytoklbkgcclkejaa.walk
open Go.Abs Go.Proofs.Ytoklbkgcclkejaa.code
theorem wide_le:∀ {m:Nat},m≤6→wide m≤60000
 | 0,_=>by decide
 | 1,_=>by decide
 | 2,_=>by decide
 | 3,_=>by decide
 | 4,_=>by decide
 | 5,_=>by decide
 | 6,_=>by decide
 | m+7,h=>by omega
def MadeAt (h:Heap) (lo n:Nat) (C:List PutR) (v:AV):Prop:=(C=[]∧v=.nilslice)∨∃ b,lo≤b∧b<n∧v=.slice b 0 C.length C.length true∧C≠[]∧h.get b=some (.cells (yo C) (3+tag 51))
theorem MadeAt.sl {h:Heap} {lo n:Nat} {C:List PutR} {v:AV} (r:MadeAt h lo n C v):Sl (fun b=>lo≤b) h n 3 (C.map PutR.row) v:=by
 have wd:∀ x ∈ C.map PutR.row,x.length=3:=fun x hx=>by obtain ⟨p,_,rfl⟩:=List.mem_map.mp hx;rfl
 rcases r with ⟨rfl,rfl⟩ | ⟨b,h1,h2,rfl,h4,h5⟩
 ·exact Sl.nil _ _ _ _
 ·refine ⟨wd,.inr ⟨b,0,C.length,true,_,_,h2,h1,⟨by rw [List.length_map];exact Nat.le_refl _,fun _=>List.length_pos_iff.mpr h4⟩,by rw [List.length_map],h5,?_⟩⟩
  rw [yT,← yH wd]
  exact vX _
theorem bestl_ex {N:Nat} {no:Nat→Prop} {sc:List AV} {H:HallR} {vW vS vB vK v:AV} {rb p:Nat} {O:List (Int × Int)} {s:St} {r:ARes} (hr:call Try.prog X N (.fn 57) [.ptr p 0,v] s=r) (hN:20≤N) (hS:SiteC sc H vW vS vB vK rb) (ok:H.Ok) (hH:HallAt no s.h s.n H vW vS vB vK) (g:s.h.get p=some (vG sc)) (gr:s.h.get rb=some (.cells (Zc p) 0)) (hp:p<s.n) (hrb:rb<s.n) (hO:Sl no s.h s.n 2 (O.map jE) v) (hin:∀ c ∈ O,H.In c) (h6:O.length≤6) (hk2:H.kinds.length≤2) (hs:s.n+200000≤far) :
  ∃ w t,r=.val w t∧New s t 70000∧MadeAt t.h s.n t.n (srch H.kinds.length H.takesB H.worth H.rent O [] ((0,0),[])).2 w:=by
 obtain ⟨M,rfl⟩:∃ M,N=M+1:=⟨N - 1,by omega⟩
 have hf:far=1000000000:=rfl
 obtain ⟨T',hT'⟩:∃ T',T'=srch H.kinds.length H.takesB H.worth H.rent O [] ((0,0),[]):=⟨_,rfl⟩
 rw [← hT']
 obtain ⟨w,t,e,st,hQ⟩:=call_new' (n:=M) (args:=[.ptr p 0,v]) (s:=s) (k:=70000) (Q:=fun w h n=>MadeAt h s.n n T'.2 w) Try.func57 rfl (fun u uh un um=>by
  rw [← uh,← un] at hH hO
  rw [← uh] at g gr
  rw [← un] at hp hrb hs ⊢
  have kv:=hO.okA
  have bx:∀ sz s,boxA sz s v=.val (.ptr s.n 0) (s.new (.cells [v] sz)):=fun sz s=>by
   rcases hO.is with ⟨_,h⟩ | ⟨_,_,_,_,_,_,_,_,_,h,_⟩<;>rw [h]<;>rfl
  have bxp:∀ sz s,boxA sz s (.ptr p 0)=.val (.ptr s.n 0) (s.new (.cells [.ptr p 0] sz)):=fun _ _=>rfl
  obtain ⟨w,hw⟩:∃ w:St,w=(u.new (.cells [.ptr p 0] (tag 78))).new (.cells [v] (tag 25)):=⟨_,rfl⟩
  have wn:w.n=u.n+2:=by rw [hw];rfl
  have wm:w.m=far:=by rw [hw];exact um
  have wg:∀ c,c<u.n→w.h.get c=u.h.get c:=fun c hc=>by rw [hw,zH _ _ _ (by simp only [zP];omega),zH _ _ _ (by omega)]
  have w2:w.h.get u.n=some (.cells [.ptr p 0] (tag 78)):=by rw [hw,zH _ _ _ (by simp only [zP];omega)];exact zL _ _ _ rfl (by omega)
  have w3:w.h.get (u.n+1)=some (.cells [v] (tag 25)):=by rw [hw];exact zL _ _ _ rfl (by simp only [zP];omega)
  rw [enter57]
  simp (disch:=first|omega|with_unfolding_all exact rfl) only [K57,K57r0,Abs.W,reduceIte,Nat.reduceEqDiff,Nat.reduceAdd,Nat.reduceSub,bx,bxp,zP]
  rw [← hw]
  simp (disch:=first|omega|with_unfolding_all exact rfl) only [K57r1,Abs.W,reduceIte,Nat.reduceEqDiff,Nat.reduceAdd,Nat.reduceSub,w2,w3,kv,Nat.zero_add]
  generalize hc1:call _ _ _ (.fn 81) _ _=r1
  obtain ⟨t1,hb,rfl,st1,hb1,hb2,hb3⟩:=hope_ex hc1 (by omega) hS ok (hH.grow wg (by omega)) ((wg p hp).trans g) ((wg rb hrb).trans gr) (by omega) (by omega) (hO.grow wg (by omega)) hin (by omega) (by omega)
  have n1:=st1.n
  have k1:=st1.le
  have m1:t1.m=far:=st1.m.trans wm
  obtain ⟨vh,hvh⟩:∃ vh:AV,vh=.slice hb 0 (O.length+1) (O.length+1) false:=⟨_,rfl⟩
  have kh:∀ t,okA (.val vh t)=.val vh t:=fun t=>by rw [hvh];rfl
  rw [← hvh]
  obtain ⟨y,hy⟩:∃ y:St,y=(t1.new (.cells [.nilslice] (tag 117))).put t1.n (.cells [vh] (tag 117)):=⟨_,rfl⟩
  have sty:jX 1 (t1.new (.cells [.nilslice] (tag 117))) vh (.ptr t1.n 0)=.val .undef y:=by
   rw [hy];exact yQ (zL _ _ _ rfl (by omega)) (by show 0<1;omega) (by rw [hvh];rfl) (by rw [hvh];rfl)
  have yn:y.n=t1.n+1:=by rw [hy];rfl
  have ym:y.m=min far t1.n:=by rw [hy];simp only [St.put,zU,zN,m1]
  have yg:∀ c,c<t1.n→y.h.get c=t1.h.get c:=fun c hc=>by rw [hy,zM _ _ _ _ (by omega),zH _ _ _ (by omega)]
  have yp:y.h.get t1.n=some (.cells [vh] (tag 117)):=by rw [hy];exact zT _ _ _ _ rfl (by omega)
  simp (disch:=first|omega|with_unfolding_all exact rfl) only [Abs.W,reduceIte,Nat.reduceEqDiff,Nat.reduceAdd,Nat.reduceSub,kh,sty,Nat.zero_add]
  clear hy sty
  obtain ⟨x,hx⟩:∃ x:St,x=((y.new (.cells [.int .i64 0,.int .i64 0] (tag 120))).new (.cells [.nilslice] (tag 32))).new (.cells [.nilfunc] (tag 121)):=⟨_,rfl⟩
  have xn:x.n=y.n+3:=by rw [hx];rfl
  have xm:x.m=y.m:=by rw [hx];rfl
  have xg:∀ c,c<y.n→x.h.get c=y.h.get c:=fun c hc=>by rw [hx,zH _ _ _ (by simp only [zP];omega),zH _ _ _ (by simp only [zP];omega),zH _ _ _ (by omega)]
  have x1:x.h.get y.n=some (.cells [.int .i64 0,.int .i64 0] (tag 120)):=by rw [hx,zH _ _ _ (by simp only [zP];omega),zH _ _ _ (by simp only [zP];omega)];exact zL _ _ _ rfl (by omega)
  have x2:x.h.get (y.n+1)=some (.cells [.nilslice] (tag 32)):=by rw [hx,zH _ _ _ (by simp only [zP];omega)];exact zL _ _ _ rfl (by simp only [zP];omega)
  have x3:x.h.get (y.n+2)=some (.cells [.nilfunc] (tag 121)):=by rw [hx];exact zL _ _ _ rfl (by simp only [zP];omega)
  simp (disch:=first|omega|with_unfolding_all exact rfl) only [K57r2,K57r3,K57r4,Abs.W,reduceIte,Nat.reduceEqDiff,Nat.reduceAdd,Nat.reduceSub,zP,Nat.zero_add]
  rw [← hx]
  obtain ⟨z,hz⟩:∃ z:St,z=x.put (y.n+2) (.cells [.func 82 [] [.ptr y.n 0,.ptr (y.n+1) 0,.ptr t1.n 0,.ptr u.n 0,.ptr (u.n+1) 0,.ptr (y.n+2) 0]] (tag 121)):=⟨_,rfl⟩
  have stz:jX 1 x (.func 82 [] [.ptr y.n 0,.ptr (y.n+1) 0,.ptr t1.n 0,.ptr u.n 0,.ptr (u.n+1) 0,.ptr (y.n+1+1) 0]) (.ptr (y.n+1+1) 0)=.val .undef z:=by
   rw [hz];exact yQ x3 (by show 0<1;omega) rfl rfl
  have zn:z.n=y.n+3:=by rw [hz,zR];exact xn
  have zm:z.m=min (min far t1.n) (y.n+2):=by rw [hz];simp only [St.put,zU,xm,ym]
  have zg:∀ c,c≠y.n+2→z.h.get c=x.h.get c:=fun c hc=>by rw [hz,zM _ _ _ _ hc]
  have z8:z.h.get (y.n+2)=some (.cells [.func 82 [] [.ptr y.n 0,.ptr (y.n+1) 0,.ptr t1.n 0,.ptr u.n 0,.ptr (u.n+1) 0,.ptr (y.n+2) 0]] (tag 121)):=by rw [hz];exact zT _ _ _ _ rfl (by omega)
  simp (disch:=first|omega|with_unfolding_all exact rfl) only [K57r5,Abs.W,reduceIte,Nat.reduceEqDiff,Nat.reduceAdd,Nat.reduceSub,kFuncE,stz,Nat.zero_add]
  clear hz stz hx
  have zy:∀ c,c<y.n→z.h.get c=y.h.get c:=fun c hc=>(zg c (by omega)).trans (xg c hc)
  have zt:∀ c,c<t1.n→z.h.get c=t1.h.get c:=fun c hc=>(zy c (by omega)).trans (yg c hc)
  have zu:∀ c,c<u.n→z.h.get c=u.h.get c:=fun c hc=>(zt c (by omega)).trans ((st1.same c (by omega)).trans (wg c hc))
  have z2:=(zt u.n (by omega)).trans ((st1.same u.n (by omega)).trans w2)
  have z3:=(zt (u.n+1) (by omega)).trans ((st1.same (u.n+1) (by omega)).trans w3)
  have zh:=(zy t1.n (by omega)).trans yp
  have z6:=(zg y.n (by omega)).trans x1
  have z7:=(zg (y.n+1) (by omega)).trans x2
  have zb:=(zt hb hb2).trans hb3
  have F:SFix z.h z.n y.n (y.n+1) t1.n u.n (u.n+1) (y.n+2) hb p rb sc H vW vS vB vK v O :=
   { bh:=by rw [zh,hvh],bb:=zb,bs:=z2,bo:=z3,bf:=⟨_,z8⟩,c:=hS,g:=(zu p hp).trans g,gr:=(zu rb hrb).trans gr,hH:=hH.move (fun b h1 _=>⟨zu b h1,by omega,by omega⟩) (by omega),hO:=hO.move (fun b h1 _=>⟨zu b h1,by omega,by omega⟩) (by omega),lt:=⟨⟨by omega,by omega,by omega,by omega,by omega,by omega,by omega⟩,by omega,by omega⟩,ne:=⟨⟨by omega,by omega,by omega,by omega,by omega,by omega,by omega⟩,⟨by omega,by omega,by omega,by omega,by omega,by omega,by omega⟩,by omega⟩,oin:=hin,o8:=h6,k2:=hk2 }
  have S:SNow z.h z.h z.n z.n y.n (y.n+1) .nilslice [] [] ((0,0),[]) :=
   ⟨fun _ _ _ _=>rfl,z6,⟨.nilslice,z7,.inl ⟨rfl,rfl⟩⟩,.inl ⟨rfl,rfl,rfl⟩,Nat.le_refl _⟩
  have hwl:=wide_le h6
  obtain ⟨t2,e2,po⟩:=s_ok ok F (Nat.le_succ _) O.length M (by omega) z .nilslice [] [] ((0,0),[]) 0 (Nat.zero_add _) S (good_nil ok) (Nat.le_refl _) (by omega) (by omega)
  have hw0:H.worth []=(0,0):=rfl
  rw [hw0,List.drop_zero,← hT'] at *
  have e2':call Try.prog X M (.fn 82) [.nilslice,.agg [.int .i64 0,.int .i64 0],.int .i64 0,.ptr y.n 0,.ptr (y.n+1) 0,.ptr t1.n 0,.ptr u.n 0,.ptr (u.n+1) 0,.ptr (y.n+2) 0] z=.val (.tup []) t2:=e2
  obtain ⟨r1,r2,r3,r4,r5,r6,r7⟩:=po
  obtain ⟨_,_,⟨vc,c1,c2⟩,_,_⟩:=r1
  have kc:∀ t,okA (.val vc t)=.val vc t:=fun t=>by
   rcases c2 with ⟨_,h⟩ | ⟨_,_,_,h,_⟩<;>rw [h]<;>rfl
  have z8':z.h.get (y.n+1+1)=_:=z8
  simp (disch:=first|omega|with_unfolding_all exact rfl) only [K57r6,K57r7,Abs.W,reduceIte,Nat.reduceEqDiff,Nat.reduceAdd,Nat.reduceSub,z8',wH,e2',c1,kc,Nat.zero_add]
  rw [res57]
  simp (disch:=first|omega|with_unfolding_all exact rfl) only [Abs.W,reduceIte,Nat.reduceEqDiff,Nat.reduceAdd,Nat.reduceSub,kc]
  refine ⟨_,_,rfl,⟨fun c hc=>?_,by omega,by omega,?_,by omega⟩,?_,fun hp=>?_⟩
  ·exact (r2 c (by omega) (by omega) (by omega) (by simp [jK])).trans (zu c hc)
  ·exact r5 u.n (by omega) (by omega) (by omega)
  ·rcases c2 with h | ⟨bc,h1,h2,h3,h4,_,h6⟩
   ·exact .inl h
   ·exact .inr ⟨bc,by omega,h2,h3,h4,h6⟩
  ·rcases c2 with h | ⟨bc,h1,h2,h3,h4,_,h6⟩
   ·exact .inl h
   ·rw [h3] at hp;cases hp)
 exact ⟨w,t,hr.symm.trans e,st,hQ⟩
end Go.Proofs.Ytoklbkgcclkejaa.walk
set_option maxRecDepth 10000
namespace Go.Proofs.Ytoklbkgcclkejaa.walk
open Go.Abs Go.Proofs.Ytoklbkgcclkejaa.code
theorem best_ex {N:Nat} {no:Nat→Prop} {H:HallR} {vW vS vB vK:AV} {s:St} {r:ARes} (hr:call Try.prog X N (.fn 29) [.agg (zo H vW vS vB vK)] s=r) (hN:30≤N) (ok:H.Ok) (hH:HallAt no s.h s.n H vW vS vB vK) (h6:H.opens.length≤6) (hk2:H.kinds.length≤2) (hs:s.n+300000≤far) :
  ∃ w t,r=.val (.tup [w,.int .i64 0]) t∧New s t 90000∧MadeAt t.h s.n t.n H.best.2 w:=by
 obtain ⟨M,rfl⟩:∃ M,N=M+1:=⟨N - 1,by omega⟩
 have hf:far=1000000000:=rfl
 obtain ⟨vv,t,e,st,w,rfl,hQ⟩:=call_new' (n:=M) (args:=[.agg (zo H vW vS vB vK)]) (s:=s) (k:=90000) (Q:=fun v h n=>∃ w,v=.tup [w,.int .i64 0]∧MadeAt h s.n n H.best.2 w) Try.func29 rfl (fun u uh un um=>by
  rw [← uh,← un] at hH
  rw [← un] at hs ⊢
  obtain ⟨w,hw⟩:∃ w:St,w=u.new (.cells (zo H vW vS vB vK) (tag 30)):=⟨_,rfl⟩
  have wn:w.n=u.n+1:=by rw [hw];rfl
  have wm:w.m=far:=by rw [hw];exact um
  have wg:∀ c,c<u.n→w.h.get c=u.h.get c:=fun c hc=>by rw [hw,zH _ _ _ (by omega)]
  have w1:w.h.get u.n=some (.cells (zo H vW vS vB vK) (tag 30)):=by rw [hw];exact zL _ _ _ rfl (by omega)
  have hHw:HallAt no w.h w.n H vW vS vB vK:=hH.grow wg (by omega)
  have eck:=hallCheck_ok M (by omega) H ok vW vS vB vK w hHw (by omega)
  have z0:decide ((0:Int)=0)=true:=rfl
  rw [enter29]
  simp (disch:=first|omega|with_unfolding_all exact rfl) only [K29,K29r0,Abs.W,reduceIte,Nat.reduceEqDiff,Nat.reduceAdd,Nat.reduceSub,zP]
  rw [← hw]
  simp (disch:=first|omega|with_unfolding_all exact rfl) only [K29r1,K29r2,K29r4,Abs.W,reduceIte,Nat.reduceEqDiff,Nat.reduceAdd,Nat.reduceSub,w1,eck,z0,Nat.zero_add]
  generalize hc1:call _ _ _ (.fn 44) _ _=r1
  obtain ⟨t1,p,rfl,st1,hp,sc,rb,hC,hpn,hrb,g,gr⟩:=siteOf_ex hc1 (by omega) ok hHw (by omega)
  have n1:=st1.n
  have k1:=st1.le
  have m1:t1.m=far:=st1.m.trans wm
  have t1g:∀ c,c<u.n→t1.h.get c=u.h.get c:=fun c hc=>(st1.same c (by omega)).trans (wg c hc)
  simp (disch:=first|omega|with_unfolding_all exact rfl) only [K29r5,Abs.W,reduceIte,Nat.reduceEqDiff,Nat.reduceAdd,Nat.reduceSub,Nat.zero_add]
  generalize hc2:call _ _ _ (.fn 56) _ _=r2
  obtain ⟨vo,t2,rfl,st2,hO⟩:=opens_ex hc2 (by omega) hC ok g hpn (by omega)
  have n2:=st2.n
  have k2:=st2.le
  have m2:t2.m=far:=st2.m.trans m1
  have ko:=hO.okA
  have lo:=Jw hO
  have d8:decide ((8:Int)<(H.opens.length:Int))=false:=decide_eq_false (by omega)
  simp (disch:=first|omega|with_unfolding_all exact rfl) only [K29r6,K29r8,Abs.W,reduceIte,Nat.reduceEqDiff,Nat.reduceAdd,Nat.reduceSub,ko,lo,d8,Nat.zero_add]
  generalize hc3:call _ _ _ (.fn 57) _ _=r3
  have hH2:HallAt (fun _=>True) t2.h t2.n H vW vS vB vK:=hH.move (fun c h1 _=>⟨(st2.same c (by omega)).trans (t1g c h1),trivial⟩) (by omega)
  obtain ⟨vc,t3,rfl,st3,hM⟩:=bestl_ex (no:=fun _=>True) hc3 (by omega) hC ok hH2 ((st2.same p (by omega)).trans g) ((st2.same rb (by omega)).trans gr) (by omega) (by omega) (hO.move (fun c _ _=>⟨rfl,trivial⟩) (Nat.le_refl _)) (fun c hc=>places_in ok.w0 c (List.mem_filter.mp hc).1) h6 hk2 (by omega)
  have n3:=st3.n
  have k3:=st3.le
  have m3:t3.m=far:=st3.m.trans m2
  have kc:∀ t,okA (.val vc t)=.val vc t:=hM.sl.okA
  simp (disch:=first|omega|with_unfolding_all exact rfl) only [Abs.W,reduceIte,Nat.reduceEqDiff,Nat.reduceAdd,Nat.reduceSub,kc,Nat.zero_add]
  rw [res29,leave_two]
  simp only [efs,zI,reduceIte,Nat.reduceEqDiff]
  have hb:srch H.kinds.length H.takesB H.worth H.rent H.opens [] ((0,0),[])=H.best:=rfl
  rw [hb] at hM
  refine ⟨_,_,rfl,⟨fun c hc=>(st3.same c (by omega)).trans ((st2.same c (by omega)).trans (t1g c hc)),by omega,by omega,by omega,by omega⟩,⟨vc,rfl,?_⟩,fun hpl=>?_⟩
  ·rcases hM with h | ⟨b,h1,h2,h3⟩
   ·exact .inl h
   ·exact .inr ⟨b,by omega,h2,h3⟩
  ·rcases hM with h | ⟨b,h1,h2,h3,_⟩
   ·exact ⟨vc,rfl,.inl h⟩
   ·rw [h3] at hpl;cases hpl)
 exact ⟨w,t,hr.symm.trans e,st,hQ⟩
end Go.Proofs.Ytoklbkgcclkejaa.walk
set_option maxRecDepth 10000
namespace Go.Abs
theorem over_two:∀ {c:List AV} {i:Nat} (x y:AV),i+1<c.length→over i [x,y] c=some ((c.set i x).set (i+1) y)
 | [],_,_,_,h=>by simp at h
 | [_],0,_,_,h=>by simp at h
 | a::b::r,0,x,y,_=>by cases r<;>rfl
 | a::r,i+1,x,y,h=>by
  have:=over_two (c:=r) (i:=i) x y (by simpa using h)
  show (match over i [x,y] r with | some c=>some (a::c) | none=>none)=_
  rw [this];rfl
end Go.Abs
namespace Go.Proofs.Ytoklbkgcclkejaa.walk
open Go.Abs Go.Proofs.Ytoklbkgcclkejaa.code
theorem set_two {rows:List (List AV)} {j:Nat} (hw:∀ r ∈ rows,r.length=2) (hj:j<rows.length) (x y:AV):(rows.flatten.set (j * 2) x).set (j * 2+1) y=(rows.set j [x,y]).flatten:=by
 have h1:=over_flatten (row:=[x,y]) hw hj rfl
 have hl:rows.flatten.length=rows.length * 2:=yH hw
 rw [over_two x y (by omega)] at h1
 injection h1
theorem refLoads_ex {N:Nat} {no:Nat→Prop} {H:HallR} {vW vS vB vK v:AV} {l:List PutR} {s:St} {r:ARes} (hr:call Try.prog X N (.fn 98) [.agg (zo H vW vS vB vK),v] s=r) (hN:4≤N) (ok:H.Ok) (hK:KindsAt no s.h s.n H.kinds vK) (hR:Sl no s.h s.n 3 (l.map PutR.row) v) (hl:∀ q ∈ l,q.In H) (hm:∀ q ∈ l,H.In q.c) (hl1:l.length≤24) (hs:s.n+1000≤far) :
  ∃ t bl,r=.val (.slice bl 0 H.bays H.bays false) t∧New s t 100∧s.n≤bl∧bl<t.n∧t.h.get bl=some (.cells (H.loadRows l).flatten 0):=by
 obtain ⟨n,rfl⟩:∃ n,N=n+1:=⟨N - 1,by omega⟩
 have hf:far=1000000000:=rfl
 obtain ⟨vv,t,e,st,bl,rfl,hb1,hb2,hb3⟩:=wP (n:=n) (args:=[.agg (zo H vW vS vB vK),v]) (s:=s) (k:=100) (Q:=fun v h n=>∃ bl,v=.slice bl 0 H.bays H.bays false∧s.n≤bl∧bl<n∧h.get bl=some (.cells (H.loadRows l).flatten 0)) Try.func98 rfl (fun u uh un um=>by
  rw [← uh,← un] at hK hR
  rw [← un] at hs ⊢
  have kv:=hR.okA
  have lv:=slPuts hR
  have kK:=hK.okA
  have sz:=ok.toSize
  have hb24:=wR sz
  have okM:∀ b t,okA (.val (.slice b 0 H.bays H.bays false) t)=.val (.slice b 0 H.bays H.bays false) t:=fun _ _=>rfl
  have mk:∀ s:St,makeA [.int .i64 0,.int .i64 0] 16 s (.int .i64 (H.bays:Int)) (.int .i64 (H.bays:Int))=.val (.slice s.n 0 H.bays H.bays false) (s.new (.cells (H.loadRows []).flatten 0)):=fun s=>by rw [rows_zero];exact make_rows _ 16 _ s (by omega) (by omega)
  obtain ⟨w0,hw0⟩:∃ w:St,w=u.new (.cells (zo H vW vS vB vK) (tag 30)):=⟨_,rfl⟩
  have w0n:w0.n=u.n+1:=by rw [hw0];rfl
  have w0m:w0.m=far:=by rw [hw0];exact um
  have w0g:∀ c,c<u.n→w0.h.get c=u.h.get c:=fun c hc=>by rw [hw0,zH _ _ _ (by omega)]
  have w02:w0.h.get u.n=some (.cells (zo H vW vS vB vK) (tag 30)):=by rw [hw0];exact zL _ _ _ rfl (by omega)
  have eba:=refBays_ok n (by omega) H sz vW vS vB vK w0 (by omega)
  obtain ⟨w,hw⟩:∃ w:St,w=w0.new (.cells (H.loadRows []).flatten 0):=⟨_,rfl⟩
  have wn:w.n=u.n+2:=by rw [hw];show w0.n+1=_;omega
  have wm:w.m=far:=by rw [hw];exact w0m
  have wg:∀ c,c<u.n+1→w.h.get c=w0.h.get c:=fun c hc=>by rw [hw,zH _ _ _ (by omega)]
  have wb:w.h.get (u.n+1)=some (.cells (H.loadRows []).flatten 0):=by rw [hw];exact zL _ _ _ (by omega) (by omega)
  have w2:=(wg u.n (by omega)).trans w02
  have wu:∀ c,c<u.n→w.h.get c=u.h.get c:=fun c hc=>(wg c (by omega)).trans (w0g c hc)
  rw [enter98]
  simp (disch:=first|omega|(with_unfolding_all exact rfl)|(simp only[zP,zR,zN];omega)|(refine zO ?_;simp only[zN];omega)) only [K98,K98r0,Abs.W,reduceIte,Nat.reduceEqDiff,Nat.reduceAdd,Nat.reduceSub]
  rw [← hw0]
  simp (disch:=first|omega|(with_unfolding_all exact rfl)|(simp only[zP,zR,zN];omega)|(refine zO ?_;simp only[zN];omega)) only [K98r1,Abs.W,reduceIte,Nat.reduceEqDiff,Nat.reduceAdd,Nat.reduceSub,w02,eba,kMake_def,mk,okM,Nat.zero_add]
  rw [← hw,w0n]
  clear hw hw0
  simp (disch:=first|omega|(with_unfolding_all exact rfl)|(simp only[zP,zR,zN];omega)|(refine zO ?_;simp only[zN];omega)) only [K98r2,Abs.W,reduceIte,Nat.reduceEqDiff,Nat.reduceAdd,Nat.reduceSub]
  generalize hlp:jL _ rounds _ _ _ _ _=rl1
  obtain ⟨eE,L1,t3,rfl,rfl,q5,sg,sn,sl,sm,sf,sb⟩:=jT hlp (fun i L t=>L.find 1=v∧L.find 2=.ptr u.n 0∧L.find 5=.slice (u.n+1) 0 H.bays H.bays false∧L.find 6=.int .i64 (i:Int)∧(∀ c,c<u.n+1→t.h.get c=w.h.get c)∧w.n≤t.n∧t.n≤w.n+3 * i∧u.n≤t.m∧t.m≤far∧t.h.get (u.n+1)=some (.cells (H.loadRows (l.take i)).flatten 0))
   (fun e L t=>e=.exit 0∧L.find 5=.slice (u.n+1) 0 H.bays H.bays false∧(∀ c,c<u.n+1→t.h.get c=w.h.get c)∧w.n≤t.n∧t.n≤w.n+80∧u.n≤t.m∧t.m≤far∧t.h.get (u.n+1)=some (.cells (H.loadRows l).flatten 0)) l.length (by unfold rounds;omega)
   ⟨(by simp only [zI,efs,reduceIte,Nat.reduceEqDiff]),(by simp only [zI,efs,reduceIte,Nat.reduceEqDiff]),(by simp only [zI,efs,reduceIte,Nat.reduceEqDiff]),(by simp only [zI,efs,reduceIte,Nat.reduceEqDiff];rfl),fun _ _=>rfl,Nat.le_refl _,by omega,by omega,by omega,wb⟩
   (fun i L t hi ⟨q1,q2,q5,q6,tg,tn,tl,tm,tf,tb⟩=>by
    by_cases hlt:i<l.length
    ·have e0:decide ((i:Int)<(l.length:Int))=true:=decide_eq_true (by omega)
     have ad:∀ s,jH s .i64 (i:Int) 1=.val (.int .i64 ((i:Int)+1)) s:=fun s=>ze s _ _ (by omega)
     have tu:∀ c,c<u.n→t.h.get c=u.h.get c:=fun c hc=>(tg c (by omega)).trans (wu c hc)
     have hRt:=hR.grow (h':=t.h) (n':=t.n) tu (by omega)
     have hKt:KindsAt no t.h t.n H.kinds vK:=hK.move (fun c h1 h2=>⟨tu c h1,h2⟩) (by omega)
     obtain ⟨b,bp,c,szz,⟨r1,_⟩,r2,r3,r4⟩:=slPut hRt hlt
     have hIn:=hl _ (List.getElem_mem hlt)
     have hMay:=hm _ (List.getElem_mem hlt)
     have hsn:=tot_snocs H hlt
     have hlk:∀ q ∈ l.take i,q.kind<H.kinds.length:=fun q hq=>(hl q (List.mem_of_mem_take hq)).k
     have hbd:=tot_lows ok hlk (by rw [List.length_take];omega) (H.bay l[i])
     generalize l[i]=P at *
     obtain ⟨x,y,ex,ey,hx,hy⟩:=in_nat hMay
     have hbay:=bay_nat (H:=H) ex ey
     have hblt:=bay_lt sz hx hy
     rw [← hbay] at hblt
     have hkP:=vj ok hIn.k
     have k0:=hkP.l0
     have k1:=hkP.l1
     have k2:=hkP.l2
     obtain ⟨aw,kb,ko,kc,ksz,⟨kb1,_⟩,kb2,kb3,kcut,hAw⟩:=hKt.get hIn.k
     have hki:H.kind P.kind=H.kinds[P.kind]'hIn.k:=by unfold HallR.kind;rw [List.getD_eq_getElem?_getD,List.getElem?_eq_getElem hIn.k];rfl
     rw [← hki] at kcut hAw
     generalize H.kind P.kind=Kd at *
     have hsc:scalars (Kd.row aw)=true:=by
      show scalars [aw,.int .i64 Kd.rent,.int .i64 Kd.most]=true
      rw [hAw.scal.2.2];rfl
     have okr:∀ t,okA (.val (.agg (Kd.row aw)) t)=.val (.agg (Kd.row aw)) t:=fun _=>rfl
     have f0:nth (Kd.row aw) 0=.int .i64 Kd.lo:=rfl
     have f1:nth (Kd.row aw) 1=.int .i64 Kd.hi:=rfl
     have t2:=(tg u.n (by omega)).trans w2
     have r4':cut bp 2 c=some [.int .i64 P.x,.int .i64 P.y]:=cut_less r4 (show 2≤3 by omega)
     have r42:nth c (bp+2)=.int .i64 (P.kind:Int):=(wN r4 (by omega)).trans rfl
     have ebo:∀ s:St,s.n+10≤far→call Try.prog X n (.fn 47) [.agg (zo H vW vS vB vK),.agg [.int .i64 P.x,.int .i64 P.y]] s=.val (.int .i64 (H.bay P:Int)) s:=fun s hs=>by rw [ex,ey,hbay];exact bayOf_ok n (by omega) H sz vW vS vB vK hx hy s hs
     have hts:=fun v=>jy (v:=v) (s:=t) (h:=(by omega:t.n≤far)) (hm:=tf)
     have hix:∀ s,jR 2 s (.slice (u.n+1) 0 H.bays H.bays false) (.int .i64 (H.bay P:Int))=.val (.ptr (u.n+1) (H.bay P * 2)) s:=fun s=>by rw [jj _ _ _ _ _ _ _ _ hblt,Nat.zero_add]
     have okc:∀ (a b:Int) t,okA (.val (.agg [.int .i64 a,.int .i64 b]) t)=.val (.agg [.int .i64 a,.int .i64 b]) t:=fun _ _ _=>rfl
     obtain ⟨A,hA⟩:∃ A:St,A=(t.new (.cells [.int .i64 0,.int .i64 0,.bool false,.nilslice,.int .i64 0,.int .i64 0] (tag 49))).put t.n (.cells (Kd.row aw) (tag 49)):=⟨_,rfl⟩
     have stA:jX 6 (t.new (.cells [.int .i64 0,.int .i64 0,.bool false,.nilslice,.int .i64 0,.int .i64 0] (tag 49))) (.agg (Kd.row aw)) (.ptr t.n 0)=.val .undef A:=by
      rw [hA];exact jr _ 6 _ _ _ _ (zL _ _ _ rfl (by omega)) rfl rfl hsc
     have An:A.n=t.n+1:=by rw [hA];rfl
     have Am:A.m=min t.m t.n:=by rw [hA];simp only [St.put,zU,zN]
     have Ag:∀ b,b<t.n→A.h.get b=t.h.get b:=fun b hb=>by rw [hA,zM _ _ _ _ (by omega),zH _ _ _ (by omega)]
     have A8:A.h.get t.n=some (.cells (Kd.row aw) (tag 49)):=by rw [hA];exact zT _ _ _ _ rfl (by omega)
     clear hA
     have Ab:=(Ag (u.n+1) (by omega)).trans tb
     have hrl:H.bay P<(H.loadRows (l.take i)).length:=by rw [vd];exact hblt
     have hcut:cut (H.bay P * 2) 2 (H.loadRows (l.take i)).flatten=some [.int .i64 (tot (H.lows (l.take i)) (H.bay P)),.int .i64 (tot (H.highs (l.take i)) (H.bay P))]:=by
      rw [yI (yi H _) hrl,JD H _ hblt];rfl
     have c0:nth (H.loadRows (l.take i)).flatten (H.bay P * 2)=.int .i64 (tot (H.lows (l.take i)) (H.bay P)):=(wN (i:=0) hcut (by omega)).trans rfl
     have c1:nth (H.loadRows (l.take i)).flatten (H.bay P * 2+1)=.int .i64 (tot (H.highs (l.take i)) (H.bay P)):=(wN (i:=1) hcut (by omega)).trans rfl
     have a1:∀ s,jH s .i64 (tot (H.lows (l.take i)) (H.bay P)) Kd.lo=.val (.int .i64 (tot (H.lows (l.take i)) (H.bay P)+Kd.lo)) s:=fun s=>ze s _ _ (by omega)
     have a2:∀ s,jH s .i64 (tot (H.highs (l.take i)) (H.bay P)) Kd.hi=.val (.int .i64 (tot (H.highs (l.take i)) (H.bay P)+Kd.hi)) s:=fun s=>ze s _ _ (by omega)
     have hfl:(H.loadRows (l.take i)).flatten.length=H.bays * 2:=by rw [yH (yi H _),vd]
     have st1:=yQ (v:=.int .i64 (tot (H.lows (l.take i)) (H.bay P)+Kd.lo)) Ab (o:=H.bay P * 2) (by omega) rfl rfl
     obtain ⟨B,hB⟩:∃ B:St,B=A.put (u.n+1) (.cells ((H.loadRows (l.take i)).flatten.set (H.bay P * 2) (.int .i64 (tot (H.lows (l.take i)) (H.bay P)+Kd.lo))) 0):=⟨_,rfl⟩
     rw [← hB] at st1
     have Bb:B.h.get (u.n+1)=some (.cells ((H.loadRows (l.take i)).flatten.set (H.bay P * 2) (.int .i64 (tot (H.lows (l.take i)) (H.bay P)+Kd.lo))) 0):=by rw [hB];exact zT _ _ _ _ rfl (by omega)
     have st2:=yQ (v:=.int .i64 (tot (H.highs (l.take i)) (H.bay P)+Kd.hi)) Bb (o:=H.bay P * 2+1) (by rw [List.length_set];omega) rfl rfl
     rw [set_two (yi H _) hrl,← hsn] at st2
     have Bn:B.n=A.n:=by rw [hB];rfl
     have Bm:B.m=min A.m (u.n+1):=by rw [hB];simp only [St.put,zU]
     have Bg:∀ c,c≠u.n+1→B.h.get c=A.h.get c:=fun c hc=>by rw [hB,zM _ _ _ _ hc]
     clear hB
     have hap:yx (.ptr (u.n+1) (H.bay P * 2)) (.ptr t.n 1)=true:=apart_ptrs (by omega)
     refine .inl ⟨hlt,?_⟩
     simp (disch:=first|omega|(with_unfolding_all exact rfl)|(simp only[zP,zR,zN];omega)|(refine zO ?_;simp only[zN];omega)) only [K98l0,K98r3,K98r4,Abs.W,reduceIte,Nat.reduceEqDiff,Nat.reduceAdd,Nat.reduceSub,Nat.zero_add,Nat.add_zero,q1,q2,q5,q6,kv,lv,e0,t2,r2,r3,r4',okc,okM,ebo,hts,hix,kK,r42,kb2,kb3,kcut,okr,stA]
     simp (disch:=first|omega|(with_unfolding_all exact rfl)|(simp only[zP,zR,zN];omega)|(refine zO ?_;simp only[zN];omega)) only [K98r5,Abs.W,reduceIte,Nat.reduceEqDiff,Nat.reduceAdd,Nat.reduceSub,Nat.zero_add,Nat.add_zero,Ab,A8,c0,c1,f0,f1,a1,a2,st1,st2]
     rw [gE _ (by rw [vF,vM];simp only [zI,efs,reduceIte,Nat.reduceEqDiff];exact hap)]
     simp (disch:=first|omega|(with_unfolding_all exact rfl)|(simp only[zP,zR,zN];omega)|(refine zO ?_;simp only[zN];omega)) only [K98r6,Abs.W,reduceIte,Nat.reduceEqDiff,Nat.reduceAdd,Nat.reduceSub,q6,ad]
     refine ⟨_,_,rfl,?_,?_,?_,?_,fun c hc=>?_,by rw [zR];omega,by rw [zR];omega,?_,?_,zT _ _ _ _ rfl (by omega)⟩
     ·simp only [efs,q1,reduceIte,Nat.reduceEqDiff]
     ·simp only [efs,q2,reduceIte,Nat.reduceEqDiff]
     ·simp only [efs,q5,reduceIte,Nat.reduceEqDiff]
     ·simp only [efs,reduceIte,Nat.reduceEqDiff];rfl
     ·rw [zM _ _ _ _ (by omega),Bg c (by omega),Ag c (by omega)];exact tg c hc
     ·simp only [St.put,zU];omega
     ·simp only [St.put,zU];omega
    ·obtain rfl:i=l.length:=by omega
     have e0:decide ((l.length:Int)<(l.length:Int))=false:=by simp
     rw [List.take_length] at tb
     refine .inr ⟨.exit 0,L.set 15 (.bool false),t,by simp,?_,rfl,?_,tg,tn,by omega,tm,tf,tb⟩
     ·simp (disch:=first|omega|(with_unfolding_all exact rfl)|(simp only[zP,zR,zN];omega)|(refine zO ?_;simp only[zN];omega)) only [K98l0,K98r3,Abs.W,reduceIte,Nat.reduceEqDiff,Nat.reduceAdd,Nat.reduceSub,q1,q6,kv,lv,e0]
     ·simp only [efs,q5,reduceIte,Nat.reduceEqDiff])
  simp (disch:=first|omega|(with_unfolding_all exact rfl)|(simp only[zP,zR,zN];omega)|(refine zO ?_;simp only[zN];omega)) only [K98r7,res98,Abs.W,reduceIte,Nat.reduceEqDiff,Nat.reduceAdd,Nat.reduceSub,q5,okM]
  exact ⟨_,_,rfl,⟨fun c hc=>(sg c (by omega)).trans (wu c hc),by omega,by omega,by omega,by omega⟩,rfl,u.n+1,rfl,by omega,by omega,sb⟩)
 exact ⟨t,bl,hr.symm.trans e,st,hb1,hb2,hb3⟩
end Go.Proofs.Ytoklbkgcclkejaa.walk
set_option maxRecDepth 10000
namespace Go.Proofs.Ytoklbkgcclkejaa.walk
open Go.Abs Go.Proofs.Ytoklbkgcclkejaa.code
theorem upto_more {H:HallR} {f:Nat→Int} {i:Nat}:H.bearsUpto f (i+1)↔H.bearsUpto f i∧f i≤H.bears.getD i 0:=by
 constructor
 ·exact fun h=>⟨fun b hb=>h b (by omega),h i (by omega)⟩
 ·intro ⟨h1,h2⟩ b hb
  by_cases e:b=i
  ·subst e;exact h2
  ·exact h1 b (by omega)
theorem verdict_two {H:HallR} (ok:H.Ok) {l:List PutR} (hl:∀ q ∈ l,q.In H) {a s:Bool} (ha:a=true↔H.bearsUpto (fun b=>tot (H.highs l) b) H.bays) (hs:s=true↔H.bearsUpto (fun b=>tot (H.lows l) b) H.bays):H.verdict l=if a=true then 1 else if s=true then 3 else 2:=by
 by_cases h1:a=true
 ·rw [if_pos h1];exact (sure_iff ok hl).mpr (ha.mp h1)
 ·rw [if_neg h1]
  have n1:H.verdict l≠1:=fun h=>h1 (ha.mpr ((sure_iff ok hl).mp h))
  by_cases h2:s=true
  ·rw [if_pos h2]
   have n2:H.verdict l≠2:=fun h=>(never_iff.mp h) (hs.mp h2)
   unfold HallR.verdict at n1 n2 ⊢
   by_cases p1:∃ b,b<H.bays∧H.bears.getD b 0<tot (H.lows l) b
   ·rw [if_pos p1] at n2;exact absurd rfl n2
   ·rw [if_neg p1] at n1 ⊢
    by_cases p2:∃ b,b<H.bays∧H.bears.getD b 0<tot (H.highs l) b
    ·rw [if_pos p2]
    ·rw [if_neg p2] at n1;exact absurd rfl n1
  ·rw [if_neg h2]
   exact never_iff.mpr fun h=>h2 (hs.mpr h)
theorem refVerdict_ok (N:Nat) (hN:6≤N) {no:Nat→Prop} {H:HallR} {vW vS vB vK v:AV} {l:List PutR} {s:St} (ok:H.Ok) (hH:HallAt no s.h s.n H vW vS vB vK) (hR:Sl no s.h s.n 3 (l.map PutR.row) v) (hl:∀ q ∈ l,q.In H) (hm:∀ q ∈ l,H.In q.c) (hl1:l.length≤24) (hs:s.n+2000≤far) :
  call Try.prog X N (.fn 86) [.agg (zo H vW vS vB vK),v] s=.val (.int .i64 (H.verdict l)) s:=by
 obtain ⟨n,rfl⟩:∃ n,N=n+1:=⟨N - 1,by omega⟩
 have hf:far=1000000000:=rfl
 refine zq Try.func86 (fun u uh un um=>?_) rfl
 rw [← uh,← un] at hH hR
 have kv:=hR.okA
 have kB:=hH.b.okA
 have hbl:=ok.bl
 have hb24:=wR ok.toSize
 have okM:∀ b t,okA (.val (.slice b 0 H.bays H.bays false) t)=.val (.slice b 0 H.bays H.bays false) t:=fun _ _=>rfl
 have lX:∀ b s,jA s (.slice b 0 H.bays H.bays false)=.val (.int .i64 (H.bays:Int)) s:=fun _ _=>rfl
 have w3:=eq3 K86r5s3.eq_1
 have w4:=eq3 K86r5s4.eq_1
 have w5:=eq3 K86r5s5.eq_1
 have w6:=eq3 K86r5s6.eq_1
 have w7:=eq3 K86r5s7.eq_1
 have w8:=eq3 K86r5s8.eq_1
 have w9:=eq3 K86r5s9.eq_1
 have w10:=eq3 K86r5s10.eq_1
 have w11:=eq3 K86r5s11.eq_1
 have w12:=eq3 K86r5s12.eq_1
 have w13:=eq3 K86r5s13.eq_1
 have w17:=eq3 K86r5s17.eq_1
 have w18:=eq3 K86r5s18.eq_1
 have w19:=eq3 K86r5s19.eq_1
 have w20:=eq3 K86r5s20.eq_1
 have w21:=eq3 K86r5s21.eq_1
 have w22:=eq3 K86r5s22.eq_1
 have w23:=eq3 K86r5s23.eq_1
 have w24:=eq3 K86r5s24.eq_1
 have w25:=eq3 K86r5s25.eq_1
 have w26:=eq3 K86r5s26.eq_1
 have w27:=eq3 K86r5s27.eq_1
 obtain ⟨w,hw⟩:∃ w:St,w=u.new (.cells (zo H vW vS vB vK) (tag 30)):=⟨_,rfl⟩
 have wn:w.n=u.n+1:=by rw [hw];rfl
 have wm:w.m=far:=by rw [hw];exact um
 have wg:∀ c,c<u.n→w.h.get c=u.h.get c:=fun c hc=>by rw [hw,zH _ _ _ (by omega)]
 have w2:w.h.get u.n=some (.cells (zo H vW vS vB vK) (tag 30)):=by rw [hw];exact zL _ _ _ rfl (by omega)
 have hHw:HallAt no w.h w.n H vW vS vB vK:=hH.grow wg (by omega)
 have hRw:=hR.grow wg (by omega:u.n≤w.n)
 rw [enter86]
 simp (disch:=first|omega|with_unfolding_all exact rfl) only [K86,K86r0,Abs.W,reduceIte,Nat.reduceEqDiff,Nat.reduceAdd,Nat.reduceSub]
 rw [← hw]
 simp (disch:=first|omega|with_unfolding_all exact rfl) only [K86r1,K86r2,Abs.W,reduceIte,Nat.reduceEqDiff,Nat.reduceAdd,Nat.reduceSub,w2,kv,Nat.zero_add]
 generalize hc:call _ _ _ (.fn 98) _ _=r1
 obtain ⟨t,bl,rfl,st,hb1,hb2,hb3⟩:=refLoads_ex hc (by omega) ok hHw.k hRw hl hm hl1 (by omega)
 have tn:=st.n
 have tl:=st.le
 have tm:=st.m
 have t2:=(st.same u.n (by omega)).trans w2
 have hBt:=hHw.b.grow st.same tn
 simp (disch:=first|omega|with_unfolding_all exact rfl) only [K86r3,Abs.W,reduceIte,Nat.reduceEqDiff,Nat.reduceAdd,Nat.reduceSub,okM]
 generalize hlp:jL _ rounds _ _ _ _ _=rl1
 obtain ⟨eE,L1,t3,rfl,rfl,rfl,a,s1,q5,q6,ha,hs1⟩:=jT hlp (fun i L t'=>t'=t∧L.find 2=.ptr u.n 0∧L.find 7=.slice bl 0 H.bays H.bays false∧L.find 8=.int .i64 (i:Int)∧∃ a s1:Bool,L.find 5=.bool a∧L.find 6=.bool s1∧(a=true↔H.bearsUpto (fun b=>tot (H.highs l) b) i)∧(s1=true↔H.bearsUpto (fun b=>tot (H.lows l) b) i))
  (fun e L t'=>e=.exit 0∧t'=t∧∃ a s1:Bool,L.find 5=.bool a∧L.find 6=.bool s1∧(a=true↔H.bearsUpto (fun b=>tot (H.highs l) b) H.bays)∧(s1=true↔H.bearsUpto (fun b=>tot (H.lows l) b) H.bays)) H.bays (by unfold rounds;omega)
  ⟨rfl,(by simp only [zI,efs,reduceIte,Nat.reduceEqDiff]),(by simp only [zI,efs,reduceIte,Nat.reduceEqDiff]),(by simp only [zI,efs,reduceIte,Nat.reduceEqDiff];rfl),true,true,(by simp only [zI,efs,reduceIte,Nat.reduceEqDiff]),(by simp only [zI,efs,reduceIte,Nat.reduceEqDiff]),⟨fun _ b hb=>absurd hb (Nat.not_lt_zero _),fun _=>rfl⟩,⟨fun _ b hb=>absurd hb (Nat.not_lt_zero _),fun _=>rfl⟩⟩
  (fun j L t' hj ⟨ht,q2,q7,q8,a,s1,q5,q6,ha,hs1⟩=>by
   subst ht
   by_cases hlt:j<H.bays
   ·have e0:decide ((j:Int)<(H.bays:Int))=true:=decide_eq_true (by omega)
    have ad:∀ s,jH s .i64 (j:Int) 1=.val (.int .i64 ((j:Int)+1)) s:=fun s=>ze s _ _ (by omega)
    have hix:∀ s,jR 2 s (.slice bl 0 H.bays H.bays false) (.int .i64 (j:Int))=.val (.ptr bl (j * 2)) s:=fun s=>by rw [jj _ _ _ _ _ _ _ _ hlt,Nat.zero_add]
    have hcut:cut (j * 2) 2 (H.loadRows l).flatten=some [.int .i64 (tot (H.lows l) j),.int .i64 (tot (H.highs l) j)]:=by
     rw [yI (yi H _) (by rw [vd];exact hlt),JD H _ hlt];rfl
    have c0:nth (H.loadRows l).flatten (j * 2)=.int .i64 (tot (H.lows l) j):=(wN (i:=0) hcut (by omega)).trans rfl
    have c1:nth (H.loadRows l).flatten (j * 2+1)=.int .i64 (tot (H.highs l) j):=(wN (i:=1) hcut (by omega)).trans rfl
    obtain ⟨cb,co,cc,csz,j1,j2,j3,j4⟩:=YB hBt.at_ (i:=j) (by omega)
    have eB:H.bears[j]'(by omega)=H.bears.getD j 0:=by rw [List.getD_eq_getElem?_getD,List.getElem?_eq_getElem (by omega)];rfl
    rw [eB] at j4
    have h1:=upto_more (H:=H) (f:=fun b=>tot (H.highs l) b) (i:=j)
    have h2:=upto_more (H:=H) (f:=fun b=>tot (H.lows l) b) (i:=j)
    rw [← ha] at h1
    rw [← hs1] at h2
    refine .inl ⟨hlt,?_⟩
    cases a<;>cases s1
    ·simp (config:={ maxSteps:=1000000 }) (disch:=first|omega|with_unfolding_all exact rfl) only [K86l0,K86r4,K86r5,w3,w4,w5,w6,w7,w8,w9,w10,w11,w12,w13,w17,w18,w19,w20,w21,w22,w23,w24,w25,w26,w27,K86r6,Abs.W,reduceIte,Nat.reduceEqDiff,Nat.reduceAdd,Nat.reduceSub,Nat.zero_add,Nat.add_zero,q2,q5,q6,q7,q8,okM,lX,e0,hix,hb3,c0,c1,t2,kB,j2,j3,j4,ad]
     exact ⟨_,_,rfl,rfl,by simp only [efs,q2,reduceIte,Nat.reduceEqDiff],by simp only [efs,q7,reduceIte,Nat.reduceEqDiff],by simp only [efs,reduceIte,Nat.reduceEqDiff];rfl,false,false,by simp only [efs,reduceIte,Nat.reduceEqDiff],by simp only [efs,reduceIte,Nat.reduceEqDiff],⟨fun h=>(by cases h),fun h=>by cases (h1.mp h).1⟩,⟨fun h=>(by cases h),fun h=>by cases (h2.mp h).1⟩⟩
    ·simp (config:={ maxSteps:=1000000 }) (disch:=first|omega|with_unfolding_all exact rfl) only [K86l0,K86r4,K86r5,w3,w4,w5,w6,w7,w8,w9,w10,w11,w12,w13,w17,w18,w19,w20,w21,w22,w23,w24,w25,w26,w27,K86r6,Abs.W,reduceIte,Nat.reduceEqDiff,Nat.reduceAdd,Nat.reduceSub,Nat.zero_add,Nat.add_zero,q2,q5,q6,q7,q8,okM,lX,e0,hix,hb3,c0,c1,t2,kB,j2,j3,j4,ad]
     exact ⟨_,_,rfl,rfl,by simp only [efs,q2,reduceIte,Nat.reduceEqDiff],by simp only [efs,q7,reduceIte,Nat.reduceEqDiff],by simp only [efs,reduceIte,Nat.reduceEqDiff];rfl,false,decide (tot (H.lows l) j≤H.bears.getD j 0),by simp only [efs,reduceIte,Nat.reduceEqDiff],by simp only [efs,reduceIte,Nat.reduceEqDiff],⟨fun h=>(by cases h),fun h=>by cases (h1.mp h).1⟩,by rw [decide_eq_true_iff,h2];exact ⟨fun h=>⟨rfl,h⟩,fun h=>h.2⟩⟩
    ·simp (config:={ maxSteps:=1000000 }) (disch:=first|omega|with_unfolding_all exact rfl) only [K86l0,K86r4,K86r5,w3,w4,w5,w6,w7,w8,w9,w10,w11,w12,w13,w17,w18,w19,w20,w21,w22,w23,w24,w25,w26,w27,K86r6,Abs.W,reduceIte,Nat.reduceEqDiff,Nat.reduceAdd,Nat.reduceSub,Nat.zero_add,Nat.add_zero,q2,q5,q6,q7,q8,okM,lX,e0,hix,hb3,c0,c1,t2,kB,j2,j3,j4,ad]
     exact ⟨_,_,rfl,rfl,by simp only [efs,q2,reduceIte,Nat.reduceEqDiff],by simp only [efs,q7,reduceIte,Nat.reduceEqDiff],by simp only [efs,reduceIte,Nat.reduceEqDiff];rfl,decide (tot (H.highs l) j≤H.bears.getD j 0),false,by simp only [efs,reduceIte,Nat.reduceEqDiff],by simp only [efs,reduceIte,Nat.reduceEqDiff],by rw [decide_eq_true_iff,h1];exact ⟨fun h=>⟨rfl,h⟩,fun h=>h.2⟩,⟨fun h=>(by cases h),fun h=>by cases (h2.mp h).1⟩⟩
    ·simp (config:={ maxSteps:=1000000 }) (disch:=first|omega|with_unfolding_all exact rfl) only [K86l0,K86r4,K86r5,w3,w4,w5,w6,w7,w8,w9,w10,w11,w12,w13,w17,w18,w19,w20,w21,w22,w23,w24,w25,w26,w27,K86r6,Abs.W,reduceIte,Nat.reduceEqDiff,Nat.reduceAdd,Nat.reduceSub,Nat.zero_add,Nat.add_zero,q2,q5,q6,q7,q8,okM,lX,e0,hix,hb3,c0,c1,t2,kB,j2,j3,j4,ad]
     exact ⟨_,_,rfl,rfl,by simp only [efs,q2,reduceIte,Nat.reduceEqDiff],by simp only [efs,q7,reduceIte,Nat.reduceEqDiff],by simp only [efs,reduceIte,Nat.reduceEqDiff];rfl,decide (tot (H.highs l) j≤H.bears.getD j 0),decide (tot (H.lows l) j≤H.bears.getD j 0),by simp only [efs,reduceIte,Nat.reduceEqDiff],by simp only [efs,reduceIte,Nat.reduceEqDiff],by rw [decide_eq_true_iff,h1];exact ⟨fun h=>⟨rfl,h⟩,fun h=>h.2⟩,by rw [decide_eq_true_iff,h2];exact ⟨fun h=>⟨rfl,h⟩,fun h=>h.2⟩⟩
   ·obtain rfl:j=H.bays:=by omega
    have e0:decide ((H.bays:Int)<(H.bays:Int))=false:=by simp
    refine .inr ⟨.exit 0,L.set 15 (.bool false),t',by simp,?_,rfl,rfl,a,s1,?_,?_,ha,hs1⟩
    ·simp (disch:=first|omega|with_unfolding_all exact rfl) only [K86l0,K86r4,Abs.W,reduceIte,Nat.reduceEqDiff,Nat.reduceAdd,Nat.reduceSub,q7,q8,okM,lX,e0]
    ·simp only [efs,q5,reduceIte,Nat.reduceEqDiff]
    ·simp only [efs,q6,reduceIte,Nat.reduceEqDiff])
 have hver:=verdict_two ok hl ha hs1
 rw [hver]
 cases a<;>cases s1<;>simp (disch:=first|omega|with_unfolding_all exact rfl) only [K86r7,K86r8,K86r9,K86r10,K86r11,res86,Abs.W,reduceIte,Nat.reduceEqDiff,Nat.reduceAdd,Nat.reduceSub,q5,q6,if_true,Bool.false_eq_true,if_false]
 all_goals exact ⟨_,rfl,by omega⟩
theorem allowed_ok (N:Nat) (hN:8≤N) {no:Nat→Prop} {H:HallR} {vW vS vB vK v:AV} {l:List PutR} {s:St} (ok:H.Ok) (hH:HallAt no s.h s.n H vW vS vB vK) (hR:Sl no s.h s.n 3 (l.map PutR.row) v) (hl:∀ q ∈ l,q.In H) (hl1:l.length≤24) (hs:s.n+5000≤far) :
  ∃ is:Bool,call Try.prog X N (.fn 58) [.agg (zo H vW vS vB vK),v] s=.val (.bool is) s∧(is=true↔H.Valid l∧H.verdict l=1):=by
 obtain ⟨n,rfl⟩:∃ n,N=n+1:=⟨N - 1,by omega⟩
 have hf:far=1000000000:=rfl
 obtain ⟨vv,e,is,rfl,his⟩:=ZU (n:=n) (s:=s) (k:=10) (args:=[.agg (zo H vW vS vB vK),v]) (Q:=fun v=>∃ is:Bool,v=.bool is∧(is=true↔H.Valid l∧H.verdict l=1)) Try.func58 (fun u uh un um=>by
  rw [← uh,← un] at hH hR
  have kv:=hR.okA
  have g6:=eq3 K58r1s6.eq_1
  have g7:=eq3 K58r1s7.eq_1
  have g8:=eq3 K58r1s8.eq_1
  have g9:=eq3 K58r1s9.eq_1
  obtain ⟨w,hw⟩:∃ w:St,w=u.new (.cells (zo H vW vS vB vK) (tag 30)):=⟨_,rfl⟩
  have wn:w.n=u.n+1:=by rw [hw];rfl
  have wm:w.m=far:=by rw [hw];exact um
  have wg:∀ c,c<u.n→w.h.get c=u.h.get c:=fun c hc=>by rw [hw,zH _ _ _ (by omega)]
  have w2:w.h.get u.n=some (.cells (zo H vW vS vB vK) (tag 30)):=by rw [hw];exact zL _ _ _ rfl (by omega)
  have hHw:HallAt no w.h w.n H vW vS vB vK:=hH.grow wg (by omega)
  have hRw:=hR.grow wg (by omega:u.n≤w.n)
  obtain ⟨e0,ec,hz⟩:=refLayout_ex (N:=n) rfl (by omega) ok hHw hRw hl hl1 (by omega)
  rw [enter58]
  simp (disch:=first|omega|with_unfolding_all exact rfl) only [K58,K58r0,Abs.W,reduceIte,Nat.reduceEqDiff,Nat.reduceAdd,Nat.reduceSub]
  rw [← hw]
  by_cases hv:H.Valid l
  ·have z0:decide (e0=0)=true:=decide_eq_true (hz.mpr hv)
   have ev:=refVerdict_ok n (by omega) ok hHw hRw hl (may_in hv) hl1 (by omega)
   simp (disch:=first|omega|with_unfolding_all exact rfl) only [K58r1,g6,g7,g8,g9,res58,Abs.W,reduceIte,Nat.reduceEqDiff,Nat.reduceAdd,Nat.reduceSub,w2,kv,ec,z0,ev,Nat.zero_add]
   exact ⟨_,_,rfl,⟨wg,by omega,by omega,by omega,by omega⟩,rfl,decide (H.verdict l=1),rfl,by rw [decide_eq_true_iff];exact ⟨fun h=>⟨hv,h⟩,fun h=>h.2⟩⟩
  ·have z0:decide (e0=0)=false:=decide_eq_false fun h=>hv (hz.mp h)
   simp (disch:=first|omega|with_unfolding_all exact rfl) only [K58r1,g6,g7,g8,g9,res58,Abs.W,reduceIte,Nat.reduceEqDiff,Nat.reduceAdd,Nat.reduceSub,w2,kv,ec,z0,Nat.zero_add]
   exact ⟨_,_,rfl,⟨wg,by omega,by omega,by omega,by omega⟩,rfl,false,rfl,⟨fun h=>(by cases h),fun h=>absurd h.1 hv⟩⟩)
 exact ⟨is,e,his⟩
end Go.Proofs.Ytoklbkgcclkejaa.walk
set_option maxRecDepth 10000
namespace Go.Proofs.Ytoklbkgcclkejaa.walk
open Go.Abs Go.Proofs.Ytoklbkgcclkejaa.code
theorem nth_get:∀ {l:List AV} {i:Nat} (h:i<l.length),nth l i=l[i]
 | x::l,0,_=>rfl
 | x::l,i+1,h=>nth_get (l:=l) (i:=i) (by simpa using h)
theorem scalars_app:∀ {a b:List AV},scalars a=true→scalars b=true→scalars (a++b)=true
 | [],_,_,h=>h
 | x::a,b,h1,h2=>by
  have e:∀ (x:AV) (l:List AV),scalars (x::l)=(match x.scalar with | true=>scalars l | false=>false):=fun _ _=>rfl
  rw [List.cons_append,e]
  rw [e] at h1
  cases hx:x.scalar with
  | true=>rw [hx] at h1;exact scalars_app h1 h2
  | false=>rw [hx] at h1;cases h1
def TabP (h:Heap) (n b lo:Nat) (M:List (List PutR)) (v:AV):Prop :=
 ∃ vs:List AV,vs.length=M.length∧0<M.length∧lo≤b∧b<n∧v=.slice b 0 vs.length vs.length true∧h.get b=some (.cells vs (1+tag 32))∧scalars vs=true∧∀ j (h1:j<vs.length) (h2:j<M.length),Sl (fun x=>x≠b∧lo≤x) h n 3 (M[j].map PutR.row) vs[j]
section
variable {h h':Heap} {n n' b lo:Nat} {M:List (List PutR)} {v:AV}
theorem TabP.move (a:TabP h n b lo M v) (hh:∀ c,c<n→lo≤c→h'.get c=h.get c) (hn:n≤n'):TabP h' n' b lo M v:=by
 obtain ⟨vs,h1,h2,h3,h4,h5,h6,h7,h8⟩:=a
 exact ⟨vs,h1,h2,h3,by omega,h5,(hh b h4 h3).trans h6,h7,fun j j1 j2=>(h8 j j1 j2).move (fun c hc hl=>⟨hh c hc hl.2,hl⟩) hn⟩
theorem TabP.block (a:TabP h n b lo M v):lo≤b∧b<n:=by obtain ⟨vs,h1,h2,h3,h4,_⟩:=a;exact ⟨h3,h4⟩
theorem TabP.okA (a:TabP h n b lo M v) (t:St):Abs.okA (.val v t)=.val v t:=by obtain ⟨vs,h1,h2,h3,h4,rfl,_⟩:=a;rfl
theorem TabP.plain (a:TabP h n b lo M v):Abs.plain v=false:=by obtain ⟨vs,h1,h2,h3,h4,rfl,_⟩:=a;rfl
theorem TabP.len (a:TabP h n b lo M v) (s:St):jA s v=.val (.int .i64 (M.length:Int)) s:=by obtain ⟨vs,h1,h2,h3,h4,rfl,_⟩:=a;rw [← h1];rfl
theorem TabP.get (a:TabP h n b lo M v) {j:Nat} (hj:j<M.length):∃ w p c sz,Sl (fun x=>x≠b∧lo≤x) h n 3 (M[j].map PutR.row) w∧(∀ s,jR 1 s v (.int .i64 (j:Int))=.val (.ptr b p) s)∧h.get b=some (.cells c sz)∧nth c p=w:=by
 obtain ⟨vs,h1,h2,h3,h4,rfl,h5,h7,h8⟩:=a
 have hr:j<vs.length:=by omega
 exact ⟨vs[j],0+j * 1,vs,_,h8 j hr hj,fun s=>jj 1 s b 0 _ _ true j hr,h5,by rw [Nat.zero_add,Nat.mul_one];exact nth_get hr⟩
end
def AccP (h:Heap) (n b lo:Nat) (M:List (List PutR)) (v:AV):Prop:=(M=[]∧v=.nilslice∧far<b)∨TabP h n b lo M v
theorem AccP.okA {h:Heap} {n b lo:Nat} {M:List (List PutR)} {v:AV} (a:AccP h n b lo M v) (t:St):Abs.okA (.val v t)=.val v t:=by
 rcases a with ⟨_,rfl,_⟩ | a
 ·rfl
 ·exact a.okA t
theorem AccP.move {h h':Heap} {n n' b lo:Nat} {M:List (List PutR)} {v:AV} (a:AccP h n b lo M v) (hh:∀ c,c<n→lo≤c→h'.get c=h.get c) (hn:n≤n'):AccP h' n' b lo M v:=a.imp id fun a=>a.move hh hn
theorem AccP.put {s:St} {b lo p sz:Nat} {M:List (List PutR)} {l:List PutR} {v w:AV} (a:AccP s.h s.n b lo M v) (hl:Sl (fun x=>x≠b∧lo≤x) s.h s.n 3 (l.map PutR.row) w) (hp:s.h.get p=some (.cells [w] sz)) (hM:M.length+1≤1000) (hlo:lo≤s.n) (hs:s.n+10≤far) :
  ∃ v' s',jV false 1 24 (tag 32) s v (.slice p 0 1 1 false)=.val v' s'∧TabP s'.h s'.n s.n lo (M++[l]) v'∧s'.n=s.n+1∧(∀ c,c<s.n→c≠b→s'.h.get c=s.h.get c)∧(∀ k,k≤b→k≤s.m→k≤s'.m)∧s'.m≤s.m:=by
 have hf:far=1000000000:=rfl
 have sw:=hl.scal.1
 have e1:wk 1 1 s (.slice p 0 1 1 false)=some [w]:=by
  show (match s.h.get p with | some (.cells c _)=>Abs.cut 0 (1 * 1) c | some (.fam c _ q _)=>Abs.cut 0 (1 * 1) (c.take q) | _=>none)=_
  rw [hp];rfl
 have hA:∀ x,jV false 1 24 (tag 32) s x (.slice p 0 1 1 false)=vg 1 24 (tag 32) 1 [w] s x:=fun x=>by
  unfold jV
  simp only [lenA,e1,sw]
  rfl
 rw [hA]
 rcases a with ⟨rfl,rfl,hb⟩ | a
 ·refine ⟨.slice s.n 0 1 1 true,s.new (.cells [w] (1+tag 32)),rfl,⟨[w],rfl,Nat.one_pos,hlo,by rw [zP];omega,rfl,zL _ _ _ rfl (by omega),sw,fun j j1 j2=>?_⟩,rfl,fun c hc _=>zH _ _ _ (by omega),fun k _ h=>h,Nat.le_refl _⟩
  have:j=0:=by simpa using j1
  subst this
  exact hl.move (fun c hc h=>⟨zH _ _ _ (by omega),by omega,h.2⟩) (by rw [zP];omega)
 ·obtain ⟨vs,h1,h2,h3,h4,rfl,h5,h7,h8⟩:=a
  have e2:Nat.ble (vs.length+1) vs.length=false:=by
   cases h:Nat.ble (vs.length+1) vs.length with
   | false=>rfl
   | true=>have:=Nat.le_of_ble_eq_true h;omega
  have e3:Nat.ble ((vs.length+1) * 24) limit=true:=Nat.ble_eq_true_of_le (by unfold limit;omega)
  have gs:∀ c,c<s.n→c≠b→((s.kill b).new (.cells (vs++[w]) (1+tag 32))).h.get c=s.h.get c:=fun c hc hb=>by rw [zH _ _ _ (by show c≠s.n;omega),vV _ _ _ hb]
  have hz:ye (1+tag 32)=1:=by kernel_rfl
  refine ⟨.slice s.n 0 (vs.length+1) (vs.length+1) true,(s.kill b).new (.cells (vs++[w]) (1+tag 32)),?_,⟨vs++[w],by simp [h1],by simp,hlo,by show s.n<s.n+1;omega,by simp,zL _ _ _ rfl (by show s.n<_;omega),scalars_app h7 sw,fun j j1 j2=>?_⟩,rfl,gs,fun k k1 k2=>?_,?_⟩
  ·unfold vg
   simp only [h5,e2,e3,Nat.mul_one,hz,Nat.zero_add,and_self,if_true,List.drop_zero]
  ·by_cases ej:j<vs.length
   ·rw [List.getElem_append_left ej,List.getElem_append_left (by omega)]
    exact (h8 j ej (by omega)).move (fun c hc hl=>⟨gs c hc hl.1,by omega,hl.2⟩) (by show s.n≤s.n+1;omega)
   ·have hj:j=vs.length:=by
     rw [List.length_append,List.length_singleton] at j1;omega
    subst hj
    rw [List.getElem_append_right (by omega),List.getElem_append_right (by omega)]
    simp only [h1,Nat.sub_self,List.getElem_cons_zero]
    exact hl.move (fun c hc h=>⟨gs c hc h.1,by omega,h.2⟩) (by show s.n≤s.n+1;omega)
  ·rw [zN];simp only [St.kill,zU];omega
  ·rw [zN];simp only [St.kill,zU];omega
theorem lays_few {H:HallR} (hk:H.kinds.length≤2):∀ (cs:List (Int × Int)) (l:List PutR),(H.lays cs l).length≤3 ^ cs.length∧0<(H.lays cs l).length
 | [],_=>⟨Nat.le_refl _,Nat.one_pos⟩
 | c::rest,l=>by
  have h0:=lays_few hk rest l
  have h1:∀ k,(if H.goodL l (jN c k)=true then H.lays rest (l++[jN c k]) else []).length≤3 ^ rest.length:=fun k=>by
   split
   ·exact (lays_few hk rest _).1
   ·exact Nat.zero_le _
  have h2:∀ n,((List.range n).flatMap fun k=>if H.goodL l (jN c k)=true then H.lays rest (l++[jN c k]) else []).length≤n * 3 ^ rest.length:=fun n=>by
   induction n with
   | zero=>exact Nat.zero_le _
   | succ n ih =>
    rw [List.range_succ,List.flatMap_append,List.length_append,Nat.succ_mul]
    have:=h1 n
    simp only [List.flatMap_cons,List.flatMap_nil,List.append_nil]
    omega
  have h3:=h2 H.kinds.length
  have h4:H.kinds.length * 3 ^ rest.length≤2 * 3 ^ rest.length:=Nat.mul_le_mul_right _ hk
  show (H.lays rest l++_).length≤3 ^ (rest.length+1)∧0<(H.lays rest l++_).length
  rw [List.length_append,Nat.pow_succ]
  omega
noncomputable def HallR.laysK (H:HallR) (i:Nat) (l:List PutR) (k:Nat):List (List PutR):=(List.range k).flatMap fun k=>if H.goodL l (jN (H.placesI.getD i (0,0)) k)=true then H.lays (H.placesI.drop (i+1)) (l++[jN (H.placesI.getD i (0,0)) k]) else []
theorem laysK_snoc (H:HallR) (i:Nat) (l:List PutR) (k:Nat):H.laysK i l (k+1)=H.laysK i l k++if H.goodL l (jN (H.placesI.getD i (0,0)) k)=true then H.lays (H.placesI.drop (i+1)) (l++[jN (H.placesI.getD i (0,0)) k]) else []:=by
 unfold HallR.laysK
 rw [List.range_succ,List.flatMap_append,List.flatMap_cons,List.flatMap_nil,List.append_nil]
theorem laysK_few {H:HallR} (hk:H.kinds.length≤2) (i:Nat) (l:List PutR):∀ k,(H.laysK i l k).length≤k * 3 ^ (H.placesI.length - (i+1))
 | 0=>Nat.zero_le _
 | k+1=>by
  have ih:=laysK_few hk i l k
  rw [laysK_snoc,List.length_append,Nat.succ_mul]
  have:(if H.goodL l (jN (H.placesI.getD i (0,0)) k)=true then H.lays (H.placesI.drop (i+1)) (l++[jN (H.placesI.getD i (0,0)) k]) else []).length≤3 ^ (H.placesI.length - (i+1)):=by
   split
   ·have:=(lays_few hk (H.placesI.drop (i+1)) (l++[jN (H.placesI.getD i (0,0)) k])).1
    rwa [List.length_drop] at this
   ·exact Nat.zero_le _
  omega
theorem lays_at {H:HallR} {i:Nat} (hi:i<H.placesI.length) (l:List PutR):H.lays (H.placesI.drop i) l=H.lays (H.placesI.drop (i+1)) l++H.laysK i l H.kinds.length:=by
 have e:H.placesI.drop i=H.placesI.getD i (0,0)::H.placesI.drop (i+1):=by
  rw [List.drop_eq_getElem_cons hi,List.getD_eq_getElem?_getD,List.getElem?_eq_getElem hi];rfl
 rw [e]
 rfl
def layS:Nat→Nat
 | 0=>100
 | m+1=>3 * layS m+100
def LaysOk (N m:Nat) (H:HallR):Prop :=
 ∀ {s:St} {lo b i:Nat} {l:List PutR} {v vo vW vS vB vK:AV} {M:List (List PutR)},i+m=H.placesI.length→HallAt (fun x=>x<lo) s.h s.n H vW vS vB vK→Sl (fun x=>x≠b∧lo≤x) s.h s.n 3 (l.map PutR.row) v→H.Good l→l.length≤i→AccP s.h s.n b lo M vo→lo≤s.n→M.length+3 ^ m≤1000→s.n+layS m+10000≤far→s.m≤far →
  ∃ w t b',call Try.prog X N (.fn 30) [.agg (zo H vW vS vB vK),v,.int .i64 (i:Int),vo] s=.val w t∧TabP t.h t.n b' lo (M++H.lays (H.placesI.drop i) l) w∧s.n≤b'∧s.n≤t.n∧t.n≤s.n+layS m∧(∀ c,c<s.n→c≠b→t.h.get c=s.h.get c)∧(∀ k,k≤b→k≤s.n→k≤s.m→k≤t.m)∧t.m≤s.m
end Go.Proofs.Ytoklbkgcclkejaa.walk
