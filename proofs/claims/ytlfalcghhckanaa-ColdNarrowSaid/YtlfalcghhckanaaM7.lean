/- The hours of a box, handed out to one who writes to a block of its own that stands before them. -/
import Derived.Test.YtlfalcghhckanaaM3
import Derived.Test.YtlfalcghhckanaaM5
import Derived.Test.YtlfalcghhckanaaM6
import Derived.Test.YtlfalcghhckanaaCodes
import Derived.Test.YtlfalcghhckanaaAbsPiece
import Derived.Test.YtlfalcghhckanaaWalkAll
set_option linter.unusedSimpArgs false
set_option maxHeartbeats 16000000
set_option linter.unusedVariables false
set_option maxRecDepth 10000
namespace Go.Proofs.Ytlfalcghhckanaa.walk
open Go.Abs Go.Proofs.Ytlfalcghhckanaa.code
structure TakesQ (N l p q sz n0 k:Nat) (top:Int) (x0:BoxNow) (J:List (Int × Int)→Heap→Nat→Prop):Prop where
 turn:∀ is h h' n,(∀ c,c≠p→h'.get c=h.get c)→J is h n→J is h' n
 take:∀ is (s:St) (x:BoxNow) (v:AV),x.hour<top→(is.length:Int)=x.hour→x.Like x0→J is s.h s.n→s.h.get p=some (.cells (x.cells v) sz)→s.n+10000≤far →
  ∃ s',call Try.prog X N (.yield l) [.int .i64 x.hour,.agg [.int .i64 x.i0,.int .i64 x.i1]] s=.val (.bool true) s'∧J (is++[(x.i0,x.i1)]) s'.h s'.n∧(∀ c,c<n0→c≠q→s'.h.get c=s.h.get c)∧s.n≤s'.n∧s'.n≤s.n+k∧(p≤s.m→p≤s'.m)∧s'.m≤s.m∧s'.m≤l
theorem hoursQ_round (N:Nat) (hN:2≤N) (cx:Ctx) {l p q z sz n0 k:Nat} {top:Int} {x0:BoxNow} {J:List (Int × Int)→Heap→Nat→Prop} (hT:TakesQ N l p q sz n0 k top x0 J) (hpq:p≠q) (hzq:z≤q) (hzn:z≤n0) (a b sa sb:Nat) (L:Env) (s:St) (x:BoxNow) (v:AV) (fs is:List (Int × Int))
  (hlt:x.hour<top) (hu:top≤1000) (hk:fs.length≤1000) (h0:(is.length:Int)=x.hour) (hx:x.Fits) (hm:0≤x.m0∧x.m0≤1000000∧0≤x.m1∧x.m1≤1000000) (hl:x.Like x0) (hp:p<n0) (ha:a<n0∧a≠p) (hb:b<n0∧b≠p) (haq:a≠q) (hbq:b≠q) (hn:n0≤s.n) (hs:s.n+k+20000≤far)
  (ga:s.h.get a=some (.cells [.ptr p 0] sa)) (gb:s.h.get b=some (.cells [.int .i64 top] sb)) (gp:s.h.get p=some (.cells (x.cells v) sz)) (hr:Rests s.h z p v fs) (hJ:J is s.h s.n) (h0':L.find 0=.yield l) (h1:L.find 1=.ptr a 0) (h2:L.find 2=.ptr b 0) :
  ∃ L1 s1 v1,K60l0 (call Try.prog X N) cx L [] s=.done .norm L1 [] s1∧L1.find 0=.yield l∧L1.find 1=.ptr a 0∧L1.find 2=.ptr b 0∧s1.h.get p=some (.cells ((x.on fs).cells v1) sz)∧Rests s1.h z p v1 (left x.hour fs) ∧
   J (is++[((x.fill fs).i0,(x.fill fs).i1)]) s1.h s1.n∧(∀ c,c<n0→c≠p→c≠q→s1.h.get c=s.h.get c)∧s.n≤s1.n∧s1.n≤s.n+k∧(p≤s.m→p≤s1.m)∧s1.m≤s.m∧s1.m≤l:=by
 have hf:far=1000000000:=rfl
 have e0:decide (x.hour<top)=true:=by simpa using hlt
 obtain ⟨s1,v1,e1,g1,r1,t1⟩:=fill_ok N hN x fs v p sz s hk (by omega) (by omega) gp hr hx
 obtain ⟨⟨q1,q2,q3,q4,q5,q6,q7⟩,q8⟩:=x.fill_like fs
 have hx1:=BoxNow.fill_fits hx fs hr.grams
 obtain ⟨⟨l1⟩,_⟩:x.Like x0∧True:=⟨hl,trivial⟩
 have hl1:(x.fill fs).Like x0:=⟨by rw [q1,q2,q3,q4,q5,q6,q7];exact l1⟩
 obtain ⟨t1a,t1n,t1m⟩:=t1
 obtain ⟨s2,e2,J2,o2,n2,k2,m2,mm2,ml2⟩:=hT.take is s1 (x.fill fs) v1 (by omega) (by omega) hl1 (hT.turn is s.h s1.h s1.n t1a (by rw [t1n];exact hJ)) g1 (by omega)
 rw [q8] at e2
 generalize hx1e:x.fill fs=x1 at *
 have ga1:s1.h.get a=some (.cells [.ptr p 0] sa):=by rw [t1a a ha.2];exact ga
 have gb1:s1.h.get b=some (.cells [.int .i64 top] sb):=by rw [t1a b hb.2];exact gb
 have ga2:s2.h.get a=some (.cells [.ptr p 0] sa):=by rw [o2 a ha.1 haq];exact ga1
 have g2:s2.h.get p=some (.cells (x1.cells v1) sz):=by rw [o2 p hp hpq];exact g1
 have sc1:=r1.sc
 have hm1:0≤x1.m0∧x1.m0≤1000000∧0≤x1.m1∧x1.m1≤1000000:=by rw [q2,q3];exact hm
 have e3:=melt_ok N (by omega) x1.room x1.a1 x1.a2 x1.m0 x1.m1 x1.a5 x1.a6 x1.a7 x1.a8 x1.hour x1.i0 x1.i1 v1 sc1 p sz s2 (by omega) g2 hx1.i0 hx1.i1 ⟨hm1.1,hm1.2.1⟩ ⟨hm1.2.2.1,hm1.2.2.2⟩ (by omega)
 have a1:∀ s,aAdd s .i64 x.hour 1=.val (.int .i64 (x.hour+1)) s:=fun s=>aAdd_i64 s _ _ (by omega)
 have gp':=gp
 unfold BoxNow.cells at gp' g1
 rw [q8] at g1 e3
 have ga3:∀ o1 o2,((s2.put p o1).put p o2).h.get a=some (.cells [.ptr p 0] sa):=fun o1 o2=>by rw [get_put_ne' _ _ _ _ ha.2,get_put_ne' _ _ _ _ ha.2];exact ga2
 simp (disch:=first|omega|(with_unfolding_all exact rfl)|(simp only[new_n,put_n,new_m];omega)|(refine put_m_le ?_;simp only[new_m];omega)) only [res60,K60r0,K60r1,K60r2,K60r3,K60r4,K60l0,K60,Abs.W,reduceIte,Nat.reduceEqDiff,Nat.reduceAdd,decide_true,decide_false,kLoop_def,Nat.reduceSub,List.cons_append,List.nil_append,List.append_nil,List.length_cons,List.length_nil,Env.find_set,h0',h1,h2,ga,gb,gp',e0,e1,ga1,gb1,g1,e2,ga2,e3,ga3,a1,Nat.zero_add,endO_nil,regD_ok]
 refine ⟨_,_,v1,rfl,by simp only [Env.find_set,h0',reduceIte,Nat.reduceEqDiff],by simp only [Env.find_set,h1,reduceIte,Nat.reduceEqDiff],by simp only [Env.find_set,h2,reduceIte,Nat.reduceEqDiff],?_,?_,?_,fun c hc hcp hcq=>?_,?_,?_,fun h=>?_,?_,?_⟩
 ·rw [get_put_eq _ _ _ _ rfl (by omega)]
  unfold BoxNow.on
  rw [hx1e]
  unfold BoxNow.tick BoxNow.melt BoxNow.cells
  simp only [q8]
 ·refine r1.grow fun c hc hz=>?_
  rw [get_put_ne' _ _ _ _ hc,get_put_ne' _ _ _ _ hc,get_put_ne' _ _ _ _ hc]
  exact o2 c (by omega) (by omega)
 ·exact hT.turn _ s2.h _ _ (fun c hc=>by rw [get_put_ne' _ _ _ _ hc,get_put_ne' _ _ _ _ hc,get_put_ne' _ _ _ _ hc]) J2
 ·rw [get_put_ne' _ _ _ _ hcp,get_put_ne' _ _ _ _ hcp,get_put_ne' _ _ _ _ hcp,o2 c hc hcq]
  exact t1a c hcp
 ·simp only [put_n];omega
 ·simp only [put_n];omega
 ·simp only [St.put,minN_eq]
  have:p≤s1.m:=by rcases t1m with ⟨_,h'⟩ | h'<;>omega
  have:=m2 this
  omega
 ·simp only [St.put,minN_eq]
  have:s1.m≤s.m:=by rcases t1m with ⟨_,h'⟩ | h'<;>omega
  omega
 ·simp only [St.put,minN_eq];omega
theorem hours1Q_ex {N l p q z sz n0 k a b sa sb:Nat} {top:Int} {x:BoxNow} {v:AV} {fs:List (Int × Int)} {s:St} {r:ARes} {J:List (Int × Int)→Heap→Nat→Prop} (m:Nat)
  (hr:call Try.prog X N (.fn 60) [.yield l,.ptr a 0,.ptr b 0] s=r) (hN:3≤N) (hT:TakesQ (N - 1) l p q sz n0 k top x J) (hpq:p≠q) (hzq:z≤q) (hzn:z≤n0) (haq:a≠q) (hbq:b≠q) (h0:x.hour=0) (hm0:top=m) (h1m:1≤m) (hu:top≤240) (hk:fs.length≤1000) (hx:x.Fits) (hm:0≤x.m0∧x.m0≤1000000∧0≤x.m1∧x.m1≤1000000)
  (hp:p<n0) (ha:a<n0∧a≠p) (hb:b<n0∧b≠p) (hn:n0≤s.n) (hln:l<s.n) (hs:s.n+k * 240+k+30000≤far)
  (ga:s.h.get a=some (.cells [.ptr p 0] sa)) (gb:s.h.get b=some (.cells [.int .i64 top] sb)) (gp:s.h.get p=some (.cells (x.cells v) sz)) (hR:Rests s.h z p v fs) (hJ:J [] s.h s.n) :
  ∃ s',r=.val (.tup []) s'∧J (ices m x fs) s'.h s'.n∧(∀ c,c<n0→c≠p→c≠q→s'.h.get c=s.h.get c)∧s.n≤s'.n∧s'.n≤s.n+k * m∧(p≤s.m→p≤s'.m)∧s'.m≤s.m:=by
 obtain ⟨n,rfl⟩:∃ n,N=n+1:=⟨N - 1,by omega⟩
 have hf:far=1000000000:=rfl
 rw [Nat.add_sub_cancel] at hT
 obtain ⟨w,t,mm,e,⟨rfl,q1,q2,q3,q4,q5,q6⟩,hm'⟩:=call_any (n:=n) (args:=[.yield l,.ptr a 0,.ptr b 0]) (s:=s) (Q:=fun v h n m'=>v=.tup []∧J (ices m x fs) h n∧(∀ c,c<n0→c≠p→c≠q→h.get c=s.h.get c)∧s.n≤n∧n≤s.n+k * m∧p≤m'∧m'≤l) Try.func60 rfl (fun u uh un um=>by
  rw [← uh] at ga gb gp hR
  have hJ':J [] u.h u.n:=by rw [uh,un];exact hJ
  rw [enter60]
  simp (disch:=first|omega|(with_unfolding_all exact rfl)|(simp only[new_n,put_n,new_m];omega)|(refine put_m_le ?_;simp only[new_m];omega)) only [res60,K60r0,K60r1,K60r2,K60r3,K60r4,K60,Abs.W,reduceIte,Nat.reduceEqDiff,Nat.reduceAdd,decide_true,decide_false,kLoop_def,Nat.reduceSub,List.cons_append,List.nil_append,List.append_nil,List.length_cons,List.length_nil]
  generalize hl:loopN _ rounds _ _ _ _ _=r1
  have hkm:∀ i,i≤m→k * i≤k * 240:=fun i hi=>Nat.mul_le_mul_left k (by omega)
  obtain ⟨e,L1,s1,rfl,rfl,j1,j2,j3,j4,j5,j6⟩:=loop_of hl
   (fun i L t=>∃ x' fs' v' done,L.find 0=.yield l∧L.find 1=.ptr a 0∧L.find 2=.ptr b 0∧t.h.get p=some (.cells (x'.cells v') sz)∧Rests t.h z p v' fs'∧J done t.h t.n∧done++ices (m - i) x' fs'=ices m x fs∧x'.hour=i∧x'.Fits∧x'.Like x∧fs'.length≤1000∧done.length=i ∧
    (∀ c,c<n0→c≠p→c≠q→t.h.get c=u.h.get c)∧u.n≤t.n∧t.n≤u.n+k * i∧p≤t.m∧(0<i→t.m≤l))
   (fun e L t=>e=.exit 0∧J (ices m x fs) t.h t.n∧(∀ c,c<n0→c≠p→c≠q→t.h.get c=u.h.get c)∧u.n≤t.n∧t.n≤u.n+k * m∧p≤t.m∧t.m≤l) m (by unfold rounds;omega)
   ⟨x,fs,v,[],by simp only [find_cons,reduceIte,Nat.reduceEqDiff],by simp only [find_cons,reduceIte,Nat.reduceEqDiff],by simp only [find_cons,reduceIte,Nat.reduceEqDiff],gp,hR,hJ',rfl,by rw [h0];rfl,hx,⟨rfl,rfl,rfl,rfl,rfl,rfl,rfl⟩,hk,rfl,fun _ _ _ _=>rfl,Nat.le_refl _,Nat.le_add_right _ _,by omega,fun h=>absurd h (Nat.lt_irrefl _)⟩
   (fun i L t hi ⟨x',fs',v',done,f0,f1,f2,g,R,JJ,eq,hh,xF,xL,fl,dl,same,nn,nk,pm,lm⟩=>by
    have ga':t.h.get a=some (.cells [.ptr p 0] sa):=by rw [same a ha.1 ha.2 haq];exact ga
    have gb':t.h.get b=some (.cells [.int .i64 top] sb):=by rw [same b hb.1 hb.2 hbq];exact gb
    have hki:=hkm i hi
    obtain ⟨⟨lr,l0,l1,l5,l6,l7,l8⟩⟩:=xL
    by_cases hlt:i<m
    ·obtain ⟨L1,s1,v1,p0,p1,p2,p3,p4,p5,p6,p7,p8,p9,pa,pb,pc⟩:=hoursQ_round n (by omega) ⟨60,none,Try.f60.ntmps,X 60⟩ hT hpq hzq hzn a b sa sb L t x' v' fs' done (by omega) (by omega) fl (by omega) xF (by rw [l0,l1];exact hm) ⟨lr,l0,l1,l5,l6,l7,l8⟩ hp ha hb haq hbq (by omega) (by omega) ga' gb' g R JJ f0 f1 f2
     obtain ⟨o1,o2,⟨o3⟩⟩:=BoxNow.on_spec xF R.grams (by rw [l0,l1];exact hm)
     have hsub:ices (m - i) x' fs'=((x'.fill fs').i0,(x'.fill fs').i1)::ices (m - (i+1)) (x'.on fs') (left x'.hour fs'):=by
      rw [show m - i=(m - (i+1))+1 by omega];rfl
     refine .inl ⟨hlt,L1,s1,p0,x'.on fs',left x'.hour fs',v1,done++[((x'.fill fs').i0,(x'.fill fs').i1)],p1,p2,p3,p4,p5,p6,?_,by rw [o2,hh];rfl,o1,?_,Nat.le_trans (left_len _ _) fl,by simp [dl],fun c hc hcp hcq=>(p7 c hc hcp hcq).trans (same c hc hcp hcq),by omega,by rw [Nat.mul_succ];omega,pa pm,fun _=>pc⟩
     ·rw [← eq,hsub,List.append_assoc];rfl
     ·obtain ⟨o31,o32,o33,o34,o35,o36,o37⟩:=o3
      exact ⟨by rw [o31,lr],by rw [o32,l0],by rw [o33,l1],by rw [o34,l5],by rw [o35,l6],by rw [o36,l7],by rw [o37,l8]⟩
    ·have him:i=m:=by omega
     subst him
     have e0:decide (x'.hour<top)=false:=decide_eq_false (by omega)
     rw [Nat.sub_self] at eq
     have eq':done=ices i x fs:=by rw [← eq];exact (List.append_nil _).symm
     have gp':=g
     unfold BoxNow.cells at gp'
     refine .inr ⟨.exit 0,L.set 9 (.bool false),t,by simp,?_,rfl,by rw [← eq'];exact JJ,same,nn,nk,pm,lm (by omega)⟩
     simp (disch:=first|omega|(with_unfolding_all exact rfl)|(simp only[new_n,put_n,new_m];omega)|(refine put_m_le ?_;simp only[new_m];omega)) only [res60,K60r0,K60r1,K60r2,K60r3,K60r4,K60l0,K60,Abs.W,reduceIte,Nat.reduceEqDiff,Nat.reduceAdd,decide_true,decide_false,kLoop_def,Nat.reduceSub,List.cons_append,List.nil_append,List.append_nil,List.length_cons,List.length_nil,Env.find_set,f0,f1,f2,ga',gb',gp',e0,Nat.zero_add,endO_nil,regD_ok])
  simp (disch:=first|omega|(with_unfolding_all exact rfl)|(simp only[new_n,put_n,new_m];omega)|(refine put_m_le ?_;simp only[new_m];omega)) only [res60,K60r0,K60r1,K60r2,K60r3,K60r4,K60,Abs.W,reduceIte,Nat.reduceEqDiff,Nat.reduceAdd,decide_true,decide_false,kLoop_def,Nat.reduceSub,List.cons_append,List.nil_append,List.append_nil,List.length_cons,List.length_nil,leave_nil]
  refine ⟨_,_,rfl,⟨rfl,j1,fun c hc hcp hcq=>by rw [j2 c hc hcp hcq,uh],by omega,by omega,j5,j6⟩,fun _ hle=>by omega⟩)
 refine ⟨t,hr.symm.trans e,q1,q2,q3,q4,?_,?_⟩
 ·rcases hm' with ⟨_,hm'⟩ | ⟨_,hm'⟩<;>omega
 ·rcases hm' with ⟨_,hm'⟩ | ⟨_,hm'⟩<;>omega
end Go.Proofs.Ytlfalcghhckanaa.walk
set_option maxRecDepth 10000
namespace Go.Proofs.Ytlfalcghhckanaa.walk
open Go.Abs
/-! ### One end of the ice -/
def fill1 (room hour:Int):Int→List (Int × Int)→Int
 | i,[]=>i
 | i,(h,g)::r=>if h=hour then fill1 room hour (min (i+g) room) r else i
def lev (room:Int) (melt:Int→Int):Nat→Int→Int→List (Int × Int)→Int
 | 0,hour,i,fs=>fill1 room hour i fs
 | k+1,hour,i,fs=>lev room melt k (hour+1) (max 0 (fill1 room hour i fs - melt hour)) (left hour fs)
theorem fill_fill1:∀ (fs:List (Int × Int)) (x:BoxNow),(x.fill fs).i0=fill1 x.room x.hour x.i0 fs∧(x.fill fs).i1=fill1 x.room x.hour x.i1 fs
 | [],x=>⟨rfl,rfl⟩
 | (h,g)::r,x=>by
  unfold BoxNow.fill fill1
  by_cases e:h=x.hour
  ·rw [if_pos e,if_pos e,if_pos e]
   exact fill_fill1 r (x.put g)
  ·rw [if_neg e,if_neg e,if_neg e]
   exact ⟨rfl,rfl⟩
theorem ices_lev:∀ (m k:Nat) (x:BoxNow) (fs:List (Int × Int)),k<m→(ices m x fs).getD k (0,0)=(lev x.room (fun _=>x.m1) k x.hour x.i0 fs,lev x.room (fun _=>x.m0) k x.hour x.i1 fs)
 | 0,k,x,fs,h=>absurd h (Nat.not_lt_zero k)
 | m+1,0,x,fs,h=>by
  obtain ⟨h1,h2⟩:=fill_fill1 fs x
  unfold ices lev
  rw [List.getD_cons_zero,h1,h2]
 | m+1,k+1,x,fs,h=>by
  obtain ⟨h1,h2⟩:=fill_fill1 fs x
  obtain ⟨⟨q1,q2,q3,_⟩,q8⟩:=x.fill_like fs
  unfold ices
  rw [List.getD_cons_succ,ices_lev m k (x.on fs) (left x.hour fs) (by omega)]
  have e1:(x.on fs).room=x.room:=q1
  have e2:(x.on fs).m1=x.m1:=q3
  have e3:(x.on fs).m0=x.m0:=q2
  have e4:(x.on fs).hour=x.hour+1:=by show (x.fill fs).hour+1=_;rw [q8]
  have e5:(x.on fs).i0=max 0 (fill1 x.room x.hour x.i0 fs - x.m1):=by show max 0 ((x.fill fs).i0 - (x.fill fs).m1)=_;rw [h1,q3]
  have e6:(x.on fs).i1=max 0 (fill1 x.room x.hour x.i1 fs - x.m0):=by show max 0 ((x.fill fs).i1 - (x.fill fs).m0)=_;rw [h2,q2]
  rw [e1,e2,e3,e4,e5,e6]
  rfl
theorem fill1_mono {room room' hour:Int} (hr:room≤room'):∀ (fs:List (Int × Int)) (i i':Int),i≤i'→fill1 room hour i fs≤fill1 room' hour i' fs
 | [],i,i',h=>h
 | (h0,g)::r,i,i',h=>by
  unfold fill1
  by_cases e:h0=hour
  ·rw [if_pos e,if_pos e]
   exact fill1_mono hr r _ _ (by omega)
  ·rw [if_neg e,if_neg e];exact h
theorem lev_mono {room room':Int} {melt melt':Int→Int} (hr:room≤room') (hm:∀ h,melt' h≤melt h):∀ (k:Nat) (hour i i':Int) (fs:List (Int × Int)),i≤i'→lev room melt k hour i fs≤lev room' melt' k hour i' fs
 | 0,hour,i,i',fs,h=>fill1_mono hr fs i i' h
 | k+1,hour,i,i',fs,h=>by
  unfold lev
  have h1:=fill1_mono (hour:=hour) hr fs i i' h
  have h2:=hm hour
  exact lev_mono hr hm k (hour+1) _ _ _ (by omega)
/-! ### A cellar's boxes, hour by hour -/
def Cellar.box (c:Cellar) (b:Nat):Box:=c.boxes.getD b noBox
def Cellar.of (c:Cellar) (b:Nat):List (Int × Int):=(ofBox b c.fills).map fun f=>(f.hour,f.grams)
def Cellar.iceLo (c:Cellar) (b k:Nat):Int:=lev (c.box b).room (fun _=>(c.box b).mh) k 0 (c.box b).il (c.of b)
def Cellar.iceHi (c:Cellar) (b k:Nat):Int:=lev (c.box b).room (fun _=>(c.box b).ml) k 0 (c.box b).ih (c.of b)
def Cellar.warm (c:Cellar) (b k:Nat):Int × Int:=(if 0<c.iceHi b k then (c.box b).cl else (c.box b).wl,if 0<c.iceLo b k then (c.box b).ch else (c.box b).wh)
theorem warmW_eq (c:Cellar) (b k:Nat) (hb:b<c.boxes.length) (hk:k<240):warmW (tabsOf c.boxes c.fills c.boxes.length) k b=c.warm b k:=by
 unfold warmW
 rw [Int.toNat_natCast,Int.toNat_natCast]
 unfold tabsOf
 have e0:((List.range c.boxes.length).map fun j=>tabOf (c.boxes.getD j noBox) c.fills j).getD b []=tabOf (c.box b) c.fills b:=by
  rw [List.getD_eq_getElem?_getD,List.getElem?_map,List.getElem?_range hb];rfl
 rw [e0]
 unfold tabOf
 have hl:k<(ices 240 (c.box b).start (c.of b)).length:=by rw [ices_len];exact hk
 have e:=ices_lev 240 k (c.box b).start (c.of b) hk
 rw [List.getD_eq_getElem?_getD,List.getElem?_eq_getElem hl] at e
 rw [List.getD_eq_getElem?_getD,List.getElem?_map]
 show (((ices 240 (c.box b).start (c.of b))[k]?.map _).getD (0,0))=_
 rw [List.getElem?_eq_getElem hl]
 simp only [Option.getD_some] at e
 simp only [Option.map_some,Option.getD_some]
 rw [e]
 rfl
def Cellar.at (c:Cellar) (l:Lot) (k:Nat):Int × Int:=match l.stays.find? (hit k) with
 | some t=>c.warm t.box.toNat k
 | none=>(c.hl,c.hh)
theorem Cellar.warmAt_eq (c:Cellar) (l:Lot) (okl:l.Ok c.boxes.length) (k:Nat) (hk:k<240):warmAt (tabsOf c.boxes c.fills c.boxes.length) l.stays c.hl c.hh k=c.at l k:=by
 unfold warmAt aroundOf Cellar.at
 cases hf:l.stays.find? (hit k) with
 | none=>rfl
 | some t =>
  have ht:=okl.sok t (List.mem_of_find?_eq_some hf)
  obtain ⟨b,hb⟩:∃ b:Nat,t.box=b:=⟨t.box.toNat,by have:=ht.b0;omega⟩
  have:=warmW_eq c b k (by have:=ht.b1;omega) hk
  simp only [hb,Int.toNat_natCast]
  exact this
/-! ### Losses -/
theorem lossFrom_up (rs:List Rate) (ro:∀ i (h:i<rs.length),(rateBefore rs i).above<(rs[i]).above∧(rateBefore rs i).loss≤(rs[i]).loss) (t t':Int) (h:t≤t') :
  ∀ m j:Nat,j+m=rs.length→(rateBefore rs j).loss≤lossFrom t' (rateBefore rs j).loss (rs.drop j)∧lossFrom t (rateBefore rs j).loss (rs.drop j)≤lossFrom t' (rateBefore rs j).loss (rs.drop j)
 | 0,j,hm=>by
  rw [List.drop_of_length_le (by omega)]
  exact ⟨Int.le_refl _,Int.le_refl _⟩
 | m+1,j,hm=>by
  have hj:j<rs.length:=by omega
  have ih:=lossFrom_up rs ro t t' h m (j+1) (by omega)
  have hb:rateBefore rs (j+1)=rs[j]:=by simp only [rateBefore,List.getElem?_eq_getElem hj]
  rw [hb] at ih
  rw [List.drop_eq_getElem_cons hj]
  have r1:=(ro j hj).2
  unfold lossFrom
  by_cases e:t'<(rs[j]).above
  ·rw [if_pos e,if_pos (by omega)]
   exact ⟨Int.le_refl _,Int.le_refl _⟩
  ·rw [if_neg e]
   by_cases e2:t<(rs[j]).above
   ·rw [if_pos e2]
    exact ⟨by omega,by omega⟩
   ·rw [if_neg e2]
    exact ⟨by omega,ih.2⟩
theorem lossFrom_mono (rs:List Rate) (ro:∀ i (h:i<rs.length),(rateBefore rs i).above<(rs[i]).above∧(rateBefore rs i).loss≤(rs[i]).loss) (t t':Int) (h:t≤t'):lossFrom t 0 rs≤lossFrom t' 0 rs:=by
 have:=(lossFrom_up rs ro t t' h rs.length 0 (by omega)).2
 rw [List.drop_zero] at this
 exact this
theorem total_le {f g:Int × Int→Int} {u v:Nat→Int × Int}:∀ m:Nat,(∀ i,i<m→f (u i)≤g (v i))→total f ((List.range m).map u)≤total g ((List.range m).map v)
 | 0,_=>Int.le_refl _
 | m+1,h=>by
  rw [List.range_succ,List.map_append,List.map_append]
  show total f (_++[u m])≤total g (_++[v m])
  rw [total_snoc,total_snoc]
  have h1:=total_le (f:=f) (g:=g) (u:=u) (v:=v) m fun i hi=>h i (by omega)
  have h2:=h m (by omega)
  omega
theorem Cellar.lost_le (c d:Cellar) (okc:c.Ok) (hr:c.rates=d.rates) (l:Lot) (okl:l.Ok c.boxes.length) (okd:l.Ok d.boxes.length) (m:Nat) (hm:l.born+m≤240) :
  ((∀ k,k<240→(c.at l k).1≤(d.at l k).1)→(c.lost l m).1≤(d.lost l m).1)∧((∀ k,k<240→(c.at l k).2≤(d.at l k).2)→(c.lost l m).2≤(d.lost l m).2):=by
 have b0:=okl.b0
 have key:∀ i:Nat,i<m→warmAt (tabsOf c.boxes c.fills c.boxes.length) l.stays c.hl c.hh (l.born+(i:Int))=c.at l (l.born+i).toNat∧warmAt (tabsOf d.boxes d.fills d.boxes.length) l.stays d.hl d.hh (l.born+(i:Int))=d.at l (l.born+i).toNat:=fun i hi=>by
  have e:l.born+(i:Int)=((l.born+i).toNat:Int):=by omega
  rw [e,Int.toNat_natCast]
  exact ⟨c.warmAt_eq l okl _ (by omega),d.warmAt_eq l okd _ (by omega)⟩
 refine ⟨fun h=>?_,fun h=>?_⟩
 ·unfold Cellar.lost Cellar.warms walk.warms lostLo
  rw [← hr]
  refine total_le m fun i hi=>?_
  rw [(key i hi).1,(key i hi).2]
  exact lossFrom_mono _ okc.ro _ _ (h _ (by omega))
 ·unfold Cellar.lost Cellar.warms walk.warms lostHi
  rw [← hr]
  refine total_le m fun i hi=>?_
  rw [(key i hi).1,(key i hi).2]
  exact lossFrom_mono _ okc.ro _ _ (h _ (by omega))
end Go.Proofs.Ytlfalcghhckanaa.walk
set_option maxRecDepth 10000
namespace Go.Proofs.Ytlfalcghhckanaa.walk
open Go.Abs Go.Proofs.Ytlfalcghhckanaa.code
def lastOf (is:List (Int × Int)):Int × Int:=is.getD (is.length - 1) (0,0)
theorem lastOf_snoc (is:List (Int × Int)) (x:Int × Int):lastOf (is++[x])=x:=by
 unfold lastOf
 rw [List.length_append,List.length_singleton,Nat.add_sub_cancel,List.getD_eq_getElem?_getD,List.getElem?_append_right (Nat.le_refl _),Nat.sub_self]
 rfl
structure Nows (q z:Nat) (R:ALoop) (is:List (Int × Int)) (h:Heap) (n:Nat):Prop where
 now:h.get q=some (.cells [.int .i64 (lastOf is).1,.int .i64 (lastOf is).2] (tag 89))
 loop:h.get (z+1)=some (.loop R)
 dfr:h.get z=some .dfr
 n:z+2≤n
theorem ice_takes (N:Nat) (p q z sz:Nat) (top:Int) (x0:BoxNow) (R:ALoop) (L0:Env) (hR:R=⟨.ready,none,15,L0,[32,33],(rangeAt Try.f15 0).1,(rangeAt Try.f15 0).2,z,Try.f15.ntmps,X 15⟩) (hp:p<q) (hq:q<z)
  (h10:L0.find 10=.ptr q 0):TakesQ (N+1) (z+1) p q sz z 10 top x0 (Nows q z R):=by
 have hf:far=1000000000:=rfl
 refine ⟨fun is h h' n hh ⟨g1,g2,g3,g4⟩=>⟨by rw [hh _ (by omega)];exact g1,by rw [hh _ (by omega)];exact g2,by rw [hh _ (by omega)];exact g3,g4⟩,?_⟩
 intro is s x v hlt hil hl ⟨g1,g4,g5,g6⟩ gp hs
 obtain ⟨s1,hs1⟩:∃ s1:St,s1=(s.new (.cells [.int .i64 0,.int .i64 0] (tag 89))).put s.n (.cells [.int .i64 x.i0,.int .i64 x.i1] (tag 89)):=⟨_,rfl⟩
 have s1n:s1.n=s.n+1:=by rw [hs1];rfl
 have s1g:∀ c,c≠s.n→s1.h.get c=s.h.get c:=fun c hc=>by rw [hs1,get_put_ne' _ _ _ _ hc,get_new_ne _ _ _ hc]
 have s1m:s1.m=min s.m s.n:=by rw [hs1];simp only [St.put,minN_eq,new_m]
 have s1w:s1.h.get s.n=some (.cells [.int .i64 x.i0,.int .i64 x.i1] (tag 89)):=by rw [hs1];exact get_put_eq _ _ _ _ rfl (by omega)
 have h1:K15a0 (call Try.prog X N) ⟨15,some (z+1),Try.f15.ntmps,X 15⟩ (setParams L0 [32,33] [.int .i64 x.hour,.agg [.int .i64 x.i0,.int .i64 x.i1]]) [] s=.done .norm ((((L0.set 32 (.int .i64 x.hour)).set 33 (.agg [.int .i64 x.i0,.int .i64 x.i1])).set 12 (.ptr s.n 0))) [] s1:=by
  rw [hs1]
  simp (disch:=first|omega|(with_unfolding_all exact rfl)|(simp only[new_n,put_n,new_m];omega)|(refine put_m_le ?_;simp only[new_m];omega)) only [K15a0,K15a0r0,Abs.W,reduceIte,Nat.reduceEqDiff,Nat.reduceAdd,decide_true,decide_false,kLoop_def,Nat.reduceSub,List.cons_append,List.nil_append,List.append_nil,List.length_cons,List.length_nil,setParams2,Env.find_set,Nat.reduceEqDiff]
 obtain ⟨s2,hs2⟩:∃ s2:St,s2=s1.put (z+1) (.loop { R with state:=.busy }):=⟨_,rfl⟩
 have s2n:s2.n=s.n+1:=by rw [hs2];exact s1n
 have s2g:∀ c,c≠s.n→c≠z+1→s2.h.get c=s.h.get c:=fun c hc hc3=>by rw [hs2,get_put_ne' _ _ _ _ hc3];exact s1g c hc
 have s2l:s2.h.get (z+1)=some (.loop { R with state:=.busy }):=by rw [hs2];exact get_put_eq _ _ _ _ rfl (by omega)
 have s2w:s2.h.get s.n=some (.cells [.int .i64 x.i0,.int .i64 x.i1] (tag 89)):=by rw [hs2,get_put_ne' _ _ _ _ (by omega)];exact s1w
 have s2m:s2.m=min (min s.m s.n) (z+1):=by rw [hs2];simp only [St.put,minN_eq,s1m]
 have g1':=(s2g q (by omega) (by omega)).trans g1
 have h4:K15b0 (call Try.prog X N) ⟨15,some (z+1),Try.f15.ntmps,X 15⟩ ((((L0.set 32 (.int .i64 x.hour)).set 33 (.agg [.int .i64 x.i0,.int .i64 x.i1])).set 12 (.ptr s.n 0))) [] s2=.done .norm ((((L0.set 32 (.int .i64 x.hour)).set 33 (.agg [.int .i64 x.i0,.int .i64 x.i1])).set 12 (.ptr s.n 0))) [] (s2.put q (.cells [.int .i64 x.i0,.int .i64 x.i1] (tag 89))):=by
  simp (disch:=first|omega|(with_unfolding_all exact rfl)|(simp only[new_n,put_n,new_m];omega)|(refine put_m_le ?_;simp only[new_m];omega)) only [K15b0,K15b0r0,Abs.W,reduceIte,Nat.reduceEqDiff,Nat.reduceAdd,decide_true,decide_false,kLoop_def,Nat.reduceSub,List.cons_append,List.nil_append,List.append_nil,List.length_cons,List.length_nil,Env.find_set,h10,g1',s2w,Nat.zero_add]
 have g6':(s2.put q (.cells [.int .i64 x.i0,.int .i64 x.i1] (tag 89))).h.get (z+1)=some (.loop { R with state:=.busy }):=by
  rw [get_put_ne' _ _ _ _ (by omega)];exact s2l
 have h4':=h4
 rw [hs2] at h4' g6'
 have hfin:=call_round (P:=Try.prog) (X:=X) (n:=N) (l:=z+1) (args:=[.int .i64 x.hour,.agg [.int .i64 x.i0,.int .i64 x.i1]]) (r:=R) (r1:=R) (r2:={ R with state:=.busy }) (s:=s) (s1:=s1) (e:=.norm) g4 (by rw [hR];rfl) (by rw [hR];exact code15a0) (by rw [hR];exact code15b0) (by rw [hR];exact h1) (by rw [s1g _ (by omega)];exact g4) (by rw [hR]) (by rw [hR];rw [hR] at h4';exact h4') g6'
 have hRR:({ ({ R with state:=.busy }:ALoop) with state:=if goesOn .norm then .ready else .done,pending:=jumpOf .norm }:ALoop)=R:=by rw [hR];rfl
 rw [hRR,← hs2] at hfin
 refine ⟨_,hfin,⟨?_,get_put_eq _ _ _ _ rfl (by omega),?_,?_⟩,fun c hc hcq=>?_,?_,?_,fun hpm=>?_,?_,?_⟩
 ·rw [get_put_ne' _ _ _ _ (by omega),lastOf_snoc];exact get_put_eq _ _ _ _ rfl (by omega)
 ·rw [get_put_ne' _ _ _ _ (by omega),get_put_ne' _ _ _ _ (by omega)];exact (s2g _ (by omega) (by omega)).trans g5
 ·simp only [put_n];omega
 ·rw [get_put_ne' _ _ _ _ (by omega),get_put_ne' _ _ _ _ hcq];exact s2g _ (by omega) (by omega)
 ·simp only [put_n];omega
 ·simp only [put_n];omega
 ·simp only [St.put,minN_eq,s2m];omega
 ·simp only [St.put,minN_eq,s2m];omega
 ·simp only [St.put,minN_eq,s2m];omega
theorem Ice_ok {N:Nat} {s:St} {v1 v2 v3:AV} {box hour:Int} (c:Cellar) (ok:c.Ok) (b k:Nat) (hb:b<c.boxes.length) (hk:k<240) (hbox:box=b) (hhour:hour=k) (hN:8≤N) (hC:CellarIn s.h s.n c v1 v2 v3) (hs:s.n+200000≤far) :
  call Try.prog X N (.fn 15) [.agg [.int .i64 c.hl,.int .i64 c.hh,v1,v2,v3],.int .i64 box,.int .i64 hour] s=.val (.tup [.agg [.int .i64 (c.iceLo b k),.int .i64 (c.iceHi b k)],.int .i64 0]) s:=by
 obtain ⟨n,rfl⟩:∃ n,N=n+1:=⟨N - 1,by omega⟩
 subst hbox hhour
 refine call_plain' Try.func15 (fun u uh un um=>?_) rfl
 have hff:far=1000000000:=rfl
 rw [← uh,← un] at hC
 have sh:shapeT Try.prog 26=some (some 2):=by kernel_rfl
 obtain ⟨w,hw⟩:∃ w:St,w=(u.new (.cells [.int .i64 c.hl,.int .i64 c.hh,v1,v2,v3] (tag 31))).new (.cells [.int .i64 0,.int .i64 0] (tag 26)):=⟨_,rfl⟩
 have wn:w.n=u.n+2:=by rw [hw];rfl
 have wm:w.m=far:=by rw [hw];exact um
 have wg:∀ c,c<u.n→w.h.get c=u.h.get c:=fun c hc=>by rw [hw,get_new_ne _ _ _ (by simp only [new_n];omega),get_new_ne _ _ _ (by omega)]
 have w0:w.h.get u.n=some (.cells [.int .i64 c.hl,.int .i64 c.hh,v1,v2,v3] (tag 31)):=by
  rw [hw,get_new_ne _ _ _ (by simp only [new_n];omega)];exact get_new_eq _ _ _ rfl (by omega)
 have w2:w.h.get (u.n+1)=some (.cells [.int .i64 0,.int .i64 0] (tag 26)):=by rw [hw];exact get_new_eq _ _ _ rfl (by simp only [new_n];omega)
 have nn1:∀ o,(u.new o).n=u.n+1:=fun _=>rfl
 have hCw:∀ m,CellarIn (⟨w.h,w.n,m⟩:St).h (⟨w.h,w.n,m⟩:St).n c v1 v2 v3:=fun m=>hC.grow wg (by show u.n≤w.n;omega)
 have e1:∀ m,call Try.prog X n (.fn 35) [.agg [.int .i64 c.hl,.int .i64 c.hh,v1,v2,v3]] ⟨w.h,w.n,m⟩=.val (.int .i64 0) ⟨w.h,w.n,m⟩:=fun m =>
  check_ok n (by omega) c ok v1 v2 v3 ⟨w.h,w.n,m⟩ (hCw m).at_ (by show w.n+3000≤far;omega)
 have len1:=hC.at_.b.len
 rw [List.length_map] at len1
 have e2:∀ s:St,s.n+100≤far→call Try.prog X n (.fn 36) [.agg [.int .i64 c.hl,.int .i64 c.hh,v1,v2,v3],.int .i64 (b:Int)] s=.val (.int .i64 0) s:=fun s hs=>box_ok n (by omega) c.hl c.hh b c.boxes.length v1 v2 v3 s hC.at_.b.ne len1 (by omega) (by omega) hs
 have e3:∀ s:St,s.n+100≤far→call Try.prog X n (.fn 37) [.int .i64 (k:Int)] s=.val (.int .i64 0) s:=fun s hs=>hour_ok n (by omega) k s (by omega) (by omega) hs
 have a1:∀ s,aAdd s .i64 (k:Int) 1=.val (.int .i64 ((k:Int)+1)) s:=fun s=>aAdd_i64 s _ _ (by omega)
 rw [enter15]
 simp (disch:=first|omega|(with_unfolding_all exact rfl)|(simp only[new_n,put_n,new_m];omega)|(refine put_m_le ?_;simp only[new_m];omega)) only [res15,K15,K15r0,Abs.W,reduceIte,Nat.reduceEqDiff,Nat.reduceAdd,decide_true,decide_false,kLoop_def,Nat.reduceSub,List.cons_append,List.nil_append,List.append_nil,List.length_cons,List.length_nil,nn1]
 rw [← hw]
 simp (disch:=first|omega|(with_unfolding_all exact rfl)|(simp only[new_n,put_n,new_m];omega)|(refine put_m_le ?_;simp only[new_m];omega)) only [K15r1,K15r2,K15r4,Abs.W,reduceIte,Nat.reduceEqDiff,Nat.reduceAdd,decide_true,decide_false,kLoop_def,Nat.reduceSub,List.cons_append,List.nil_append,List.append_nil,List.length_cons,List.length_nil,Env.find_set,w0,e1,e2,e3,or_new3,endO_nil,regD_ok,Nat.zero_add]
 obtain ⟨y,hy⟩:∃ y:St,y=w.new (.cells [.int .i64 0,.int .i64 0,.int .i64 0] 0):=⟨_,rfl⟩
 rw [← hy]
 have yn:y.n=w.n+1:=by rw [hy];rfl
 have ym:y.m=far:=by rw [hy];exact wm
 have yg:∀ c,c<w.n→y.h.get c=w.h.get c:=fun c hc=>by rw [hy,get_new_ne _ _ _ (by omega)]
 have yu:∀ c,c<u.n→y.h.get c=u.h.get c:=fun c hc=>(yg c (by omega)).trans (wg c hc)
 have hCy:=hC.grow yu (by omega:u.n≤y.n)
 generalize hc:call _ _ _ (.fn 38) _ _=r1
 obtain ⟨v',t1,rfl,st1,kept1⟩:=begin_ex c.boxes c.fills b hb hc (by omega) hCy.at_.b hCy.f ok.f (scal_ne hC.s3) (by omega)
 have t1n:=st1.n
 have t1l:=st1.le
 have t1m:t1.m=far:=st1.m.trans ym
 have t1g:=st1.same
 have ksc:=kept1.scalar1
 obtain ⟨B,hBe⟩:∃ B,B=c.boxes[b]:=⟨_,rfl⟩
 have hBok:B.Ok:=by rw [hBe];exact ok.bok _ (List.getElem_mem hb)
 have hBx:c.box b=B:=by unfold Cellar.box;rw [List.getD_eq_getElem?_getD,List.getElem?_eq_getElem hb,hBe];rfl
 rw [← hBe]
 have hcells:∀ v,B.start.cells v=[.int .i64 B.start.room,.int .i64 B.start.a1,.int .i64 B.start.a2,.int .i64 B.start.m0,.int .i64 B.start.m1,.int .i64 B.start.a5,.int .i64 B.start.a6,.int .i64 B.start.a7,.int .i64 B.start.a8,.int .i64 B.start.hour,.int .i64 B.start.i0,.int .i64 B.start.i1,v]:=fun _=>rfl
 obtain ⟨t2,ht2⟩:∃ t2:St,t2=((t1.new (.cells [.int .i64 0,.int .i64 0,.int .i64 0,.int .i64 0,.int .i64 0,.int .i64 0,.int .i64 0,.int .i64 0,.int .i64 0,.int .i64 0,.int .i64 0,.int .i64 0,.nilslice] (tag 91))).put t1.n (.cells (B.start.cells v') (tag 91))).new (.cells [.int .i64 0,.int .i64 0] (tag 89)):=⟨_,rfl⟩
 have t2n:t2.n=t1.n+2:=by rw [ht2];rfl
 have t2m:t2.m=min t1.m t1.n:=by rw [ht2];simp only [St.put,minN_eq,new_m]
 have t2g:∀ c,c<t1.n→t2.h.get c=t1.h.get c:=fun c hc=>by rw [ht2,get_new_ne _ _ _ (by simp only [put_n,new_n];omega),get_put_ne' _ _ _ _ (by omega),get_new_ne _ _ _ (by omega)]
 have t2p:t2.h.get t1.n=some (.cells (B.start.cells v') (tag 91)):=by rw [ht2,get_new_ne _ _ _ (by simp only [put_n,new_n];omega)];exact get_put_eq _ _ _ _ rfl (by omega)
 have t2q:t2.h.get (t1.n+1)=some (.cells [.int .i64 0,.int .i64 0] (tag 89)):=by rw [ht2];exact get_new_eq _ _ _ (by simp only [put_n,new_n]) (by simp only [put_n,new_n];omega)
 rw [hcells] at ht2
 have nn2:∀ o1 o2,((t1.new o1).put t1.n o2).n=t1.n+1:=fun _ _=>rfl
 simp (disch:=first|omega|(with_unfolding_all exact rfl)|(simp only[new_n,put_n,new_m];omega)|(refine put_m_le ?_;simp only[new_m];omega)) only [K15r5,K15r6,Abs.W,reduceIte,Nat.reduceEqDiff,Nat.reduceAdd,decide_true,decide_false,kLoop_def,Nat.reduceSub,List.cons_append,List.nil_append,List.append_nil,List.length_cons,List.length_nil,Env.find_set,hcells,ksc,a1,nn2,Nat.zero_add]
 rw [← ht2]
 generalize hc2:call _ _ _ (.fn 39) _ _=r2
 obtain ⟨t3,sa,sb,rfl,st3,t3n,ga,gb⟩:=hours_ex hc2 (by omega) (by omega)
 have t3m:t3.m=t2.m:=st3.m
 have t3g:∀ c,c<t2.n→t3.h.get c=t2.h.get c:=st3.same
 simp (disch:=first|omega|(with_unfolding_all exact rfl)|(simp only[new_n,put_n,new_m];omega)|(refine put_m_le ?_;simp only[new_m];omega)) only [Abs.W,reduceIte,Nat.reduceEqDiff,Nat.reduceAdd,decide_true,decide_false,kLoop_def,Nat.reduceSub,List.cons_append,List.nil_append,List.append_nil,List.length_cons,List.length_nil,Env.find_set]
 have t3p:=(t3g t1.n (by omega)).trans t2p
 have t3q:=(t3g (t1.n+1) (by omega)).trans t2q
 have hgr:∀ f ∈ ofBox b c.fills,0≤f.grams∧f.grams≤1000000:=fun f hff'=>by
  have:=ok.fok f (List.mem_filter.mp hff').1
  obtain ⟨_,_,_,_,z0,z1⟩:=this
  omega
 have kept3:Kept t3.h (y.n+3) t1.n (ofBox b c.fills) v':=kept1.mono (fun c h1 h2=>(t3g c (by omega)).trans (t2g c h2)) (Nat.le_refl _)
 obtain ⟨hx,hm0,hm1,hm2,hm3⟩:=Box.start_fits hBok
 generalize hL:Env.cons 0 _ _=L0
 have f10:L0.find 10=.ptr (t1.n+1) 0:=by rw [← hL];simp only [find_cons,Env.find_set,reduceIte,Nat.reduceEqDiff]
 have f31:L0.find 31=.func 60 [] [.ptr t2.n 0,.ptr (t2.n+1) 0]:=by rw [← hL];simp only [find_cons,Env.find_set,reduceIte,Nat.reduceEqDiff]
 have f6:L0.find 6=.ptr (u.n+1) 0:=by rw [← hL];simp only [find_cons,Env.find_set,reduceIte,Nat.reduceEqDiff]
 obtain ⟨R,hRdef⟩:∃ R:ALoop,R=⟨.ready,none,15,L0,[32,33],(rangeAt Try.f15 0).1,(rangeAt Try.f15 0).2,t3.n,Try.f15.ntmps,X 15⟩:=⟨_,rfl⟩
 obtain ⟨n2,rfl⟩:∃ n2,n=n2+2:=⟨n - 2,by omega⟩
 have hT:=ice_takes n2 t1.n (t1.n+1) t3.n (tag 91) ((k+1:Nat):Int) B.start R L0 hRdef (by omega) (by omega) f10
 obtain ⟨x2,hx2⟩:∃ x2:St,x2=(t3.new .dfr).new (.loop R):=⟨_,rfl⟩
 have x2n:x2.n=t3.n+2:=by rw [hx2];rfl
 have x2m:x2.m=t3.m:=by rw [hx2];rfl
 have x2g:∀ c,c<t3.n→x2.h.get c=t3.h.get c:=fun c hc=>by rw [hx2,get_new_ne _ _ _ (by simp only [new_n];omega),get_new_ne _ _ _ (by omega)]
 have x2d:x2.h.get t3.n=some .dfr:=by rw [hx2,get_new_ne _ _ _ (by simp only [new_n];omega)];exact get_new_eq _ _ _ rfl (by omega)
 have x2l:x2.h.get (t3.n+1)=some (.loop R):=by rw [hx2];exact get_new_eq _ _ _ rfl (by simp only [new_n];omega)
 have G0:Nows (t1.n+1) t3.n R [] x2.h x2.n:=⟨(x2g _ (by omega)).trans t3q,x2l,x2d,by omega⟩
 generalize hc4:call Try.prog X (n2+2) (.fn 60) [.yield (t3.n+1),.ptr t2.n 0,.ptr (t2.n+1) 0] x2=r94
 obtain ⟨s2,rfl,G,same,sn,sk,sm,smm⟩:=hours1Q_ex (z:=t1.n) (fs:=(ofBox b c.fills).map fun f=>(f.hour,f.grams)) (k+1) hc4 (by omega) hT (by omega) (by omega) (by omega) (by omega) (by omega) rfl rfl (by omega) (by omega) (by rw [List.length_map];unfold ofBox;exact Nat.le_trans (List.length_filter_le _ _) (by have:=ok.f;omega)) hx ⟨hm0,hm1,hm2,hm3⟩ (by omega) ⟨by omega,by omega⟩ ⟨by omega,by omega⟩ (by omega) (by omega) (by omega) ((x2g _ (by omega)).trans ga) ((x2g _ (by omega)).trans gb) ((x2g _ (by omega)).trans t3p) ((kept3.rests (.inr (Nat.le_refl _)) (Nat.le_refl _) hgr).grow fun c _ hcz=>x2g c (by omega)) G0
 obtain ⟨G1,G4,G5,G6⟩:=G
 have hcall:callV (call Try.prog X (n2+2)) [.yield (t3.n+1)] ((t3.new .dfr).new (.loop ⟨.ready,none,15,L0,[32,33],(rangeAt Try.f15 0).1,(rangeAt Try.f15 0).2,t3.n,Try.f15.ntmps,X 15⟩)) ((Arg.tmp 31).ev L0)=.val (.tup []) s2:=by
  rw [ev_tmp,f31,callV_func,← hRdef,← hx2]
  exact hc4
 have hrange:=range_to_end (ps:=[32,33]) (c:=⟨15,none,Try.f15.ntmps,X 15⟩) rfl hcall G4 (by rw [hRdef]) (by rw [hRdef])
 have hlast:lastOf (ices (k+1) B.start ((ofBox b c.fills).map fun f=>(f.hour,f.grams)))=(c.iceLo b k,c.iceHi b k):=by
  unfold lastOf
  rw [ices_len,Nat.add_sub_cancel,ices_lev (k+1) k _ _ (by omega)]
  unfold Cellar.iceLo Cellar.iceHi Cellar.of
  rw [hBx]
  rfl
 rw [hlast] at G1
 have g10:∀ o,(s2.put (t3.n+1) o).h.get (t1.n+1)=some (.cells [.int .i64 (c.iceLo b k),.int .i64 (c.iceHi b k)] (tag 89)):=fun o=>by rw [get_put_ne' _ _ _ _ (by omega)];exact G1
 have g6:∀ o,(s2.put (t3.n+1) o).h.get (u.n+1)=some (.cells [.int .i64 0,.int .i64 0] (tag 26)):=fun o=>by
  rw [get_put_ne' _ _ _ _ (by omega),same _ (by omega) (by omega) (by omega),x2g _ (by omega),t3g _ (by omega),t2g _ (by omega),t1g _ (by omega),yg _ (by omega)];exact w2
 have gd:∀ o o2,((s2.put (t3.n+1) o).put (u.n+1) o2).h.get t3.n=some .dfr:=fun o o2=>by rw [get_put_ne' _ _ _ _ (by omega),get_put_ne' _ _ _ _ (by omega)];exact G5
 have km:10 * (k+1)≤2400:=by omega
 simp (disch:=first|omega|(with_unfolding_all exact rfl)|(simp only[new_n,put_n,new_m];omega)|(refine put_m_le ?_;simp only[new_m];omega)) only [K15r7,Abs.W,reduceIte,Nat.reduceEqDiff,Nat.reduceAdd,decide_true,decide_false,kLoop_def,Nat.reduceSub,List.cons_append,List.nil_append,List.append_nil,List.length_cons,List.length_nil,hrange,Env.find_set,f10,f6,g10,g6,endsSpan_ok,Nat.zero_add]
 rw [leave_dfr _ _ _ _ _ (gd _ _),res15]
 have f7:(L0.set 7 (.int .i64 0)).find 7=.int .i64 0:=by simp only [Env.find_set,reduceIte]
 refine ⟨_,(leave_cell_tmp _ _ _ _ _ sh (v:=.agg [.int .i64 (c.iceLo b k),.int .i64 (c.iceHi b k)]) ?_).trans (by rw [f7]),?_⟩
 ·simp only [Env.find_set,f6,reduceIte,Nat.reduceEqDiff]
  rw [load_ptr,get_kill_ne _ _ _ (by omega),get_put_eq _ _ _ _ rfl (by omega)]
  simp (disch:=first|omega|(with_unfolding_all exact rfl)|(simp only[new_n,put_n,new_m];omega)|(refine put_m_le ?_;simp only[new_m];omega)) only [Abs.W,reduceIte,Nat.reduceEqDiff,Nat.reduceAdd,decide_true,decide_false,kLoop_def,Nat.reduceSub,List.cons_append,List.nil_append,List.append_nil,List.length_cons,List.length_nil]
 ·have:=sm (by omega)
  simp only [St.kill,St.put,minN_eq];omega
theorem Cold_ok {N:Nat} {s:St} {v1 v2 v3:AV} {box hour:Int} (c:Cellar) (ok:c.Ok) (b k:Nat) (hb:b<c.boxes.length) (hk:k<240) (hbox:box=b) (hhour:hour=k) (hN:9≤N) (hC:CellarIn s.h s.n c v1 v2 v3) (hs:s.n+300000≤far) :
  call Try.prog X N (.fn 16) [.agg [.int .i64 c.hl,.int .i64 c.hh,v1,v2,v3],.int .i64 box,.int .i64 hour] s=.val (.tup [.int .i64 (if 0<c.iceLo b k then 1 else if 0<c.iceHi b k then 3 else 2),.int .i64 0]) s:=by
 obtain ⟨n,rfl⟩:∃ n,N=n+1:=⟨N - 1,by omega⟩
 refine call_plain' Try.func16 (fun u uh un um=>?_) rfl
 have hff:far=1000000000:=rfl
 rw [← uh,← un] at hC
 obtain ⟨w,hw⟩:∃ w:St,w=u.new (.cells [.int .i64 c.hl,.int .i64 c.hh,v1,v2,v3] (tag 31)):=⟨_,rfl⟩
 have wn:w.n=u.n+1:=by rw [hw];rfl
 have wm:w.m=far:=by rw [hw];exact um
 have wg:∀ c,c<u.n→w.h.get c=u.h.get c:=fun c hc=>by rw [hw,get_new_ne _ _ _ (by omega)]
 have w0:w.h.get u.n=some (.cells [.int .i64 c.hl,.int .i64 c.hh,v1,v2,v3] (tag 31)):=by rw [hw];exact get_new_eq _ _ _ rfl (by omega)
 have e1:=Ice_ok (N:=n) (s:=w) c ok b k hb hk hbox hhour (by omega) (hC.grow wg (by omega)) (by omega)
 have ex0:∀ (a b:AV) (s:St),extA 0 s (.tup [a,b])=.val a s:=fun _ _ _=>rfl
 have ex1:∀ (a b:AV) (s:St),extA 1 s (.tup [a,b])=.val b s:=fun _ _ _=>rfl
 rw [enter16]
 simp (disch:=first|omega|(with_unfolding_all exact rfl)|(simp only[new_n,put_n,new_m];omega)|(refine put_m_le ?_;simp only[new_m];omega)) only [res16,K16,K16r0,Abs.W,reduceIte,Nat.reduceEqDiff,Nat.reduceAdd,decide_true,decide_false,kLoop_def,Nat.reduceSub,List.cons_append,List.nil_append,List.append_nil,List.length_cons,List.length_nil]
 rw [← hw]
 simp (disch:=first|omega|(with_unfolding_all exact rfl)|(simp only[new_n,put_n,new_m];omega)|(refine put_m_le ?_;simp only[new_m];omega)) only [K16r1,K16r2,K16r4,Abs.W,reduceIte,Nat.reduceEqDiff,Nat.reduceAdd,decide_true,decide_false,kLoop_def,Nat.reduceSub,List.cons_append,List.nil_append,List.append_nil,List.length_cons,List.length_nil,Env.find_set,w0,e1,ex0,ex1,verdict_ok,Nat.zero_add,leave_tmp_tmp]
 simp only [decide_eq_true_eq]
 exact ⟨_,rfl,by simp only [St.put,minN_eq,wm,new_m];omega⟩
end Go.Proofs.Ytlfalcghhckanaa.walk
set_option maxRecDepth 10000
namespace Go.Proofs.Ytlfalcghhckanaa.walk
open Go.Abs
theorem Cellar.box_eq (c:Cellar) {b:Nat} (h:b<c.boxes.length):c.box b=c.boxes[b]:=by unfold Cellar.box;rw [List.getD_eq_getElem?_getD,List.getElem?_eq_getElem h];rfl
theorem Cellar.ice_order (c:Cellar) (ok:c.Ok) {b:Nat} (h:b<c.boxes.length) (k:Nat):c.iceLo b k≤c.iceHi b k:=by
 have okb:=ok.bok _ (List.getElem_mem h)
 rw [← c.box_eq h] at okb
 exact lev_mono (Int.le_refl _) (fun _=>okb.m1) k 0 _ _ _ okb.i1
theorem Cellar.at_order (c:Cellar) (ok:c.Ok) (l:Lot) (okl:l.Ok c.boxes.length) (k:Nat):(c.at l k).1≤(c.at l k).2:=by
 unfold Cellar.at
 cases hf:l.stays.find? (hit k) with
 | none=>exact ok.h1
 | some t =>
  have ht:=okl.sok t (List.mem_of_find?_eq_some hf)
  obtain ⟨b,hb⟩:∃ b:Nat,t.box=b:=⟨t.box.toNat,by have:=ht.b0;omega⟩
  have hlt:b<c.boxes.length:=by have:=ht.b1;omega
  simp only [hb,Int.toNat_natCast]
  have okb:=ok.bok _ (List.getElem_mem hlt)
  rw [← c.box_eq hlt] at okb
  obtain ⟨_,_,_,_,_,_,_,_,_,c1,c2,c3,_⟩:=okb
  have i1:=c.ice_order ok hlt k
  show (if 0<c.iceHi b k then (c.box b).cl else (c.box b).wl)≤(if 0<c.iceLo b k then (c.box b).ch else (c.box b).wh)
  split<;>split<;>omega
theorem Cellar.lost_order (c:Cellar) (ok:c.Ok) (l:Lot) (okl:l.Ok c.boxes.length) (m:Nat) (hm:l.born+m≤240):(c.lost l m).1≤(c.lost l m).2:=by
 have b0:=okl.b0
 unfold Cellar.lost Cellar.warms walk.warms lostLo lostHi
 refine total_le m fun i hi=>lossFrom_mono _ ok.ro _ _ ?_
 have e:l.born+(i:Int)=((l.born+i).toNat:Int):=by omega
 rw [e,c.warmAt_eq l okl _ (by omega)]
 exact c.at_order ok l okl _
end Go.Proofs.Ytlfalcghhckanaa.walk
set_option maxRecDepth 10000
namespace Go.Abs
theorem over_two:∀ (R l:List AV) (k:Nat) (v w:AV),k+1<R.length→over k [v,w] (R++l)=some ((R.set k v).set (k+1) w++l)
 | [],l,k,v,w,h=>by simp at h
 | [a],l,k,v,w,h=>by simp at h
 | a::b::R,l,0,v,w,_=>by rw [List.cons_append,over_cons,if_pos rfl,over1_cons,List.cons_append,over1_cons,over1_nil];rfl
 | a::b::R,l,k+1,v,w,h=>by rw [List.cons_append,over_cons,if_neg (by omega),Nat.add_sub_cancel,over_two (b::R) l k v w (by simpa using h)];rfl
theorem over_cell2 {rows:List (List AV)} {w i:Nat} (hw:∀ r ∈ rows,r.length=w) (hi:i<rows.length) (R:List AV) (k:Nat) (v v':AV) (hR:R.length=w) (hk:k+1<w):over (i * w+k) [v,v'] (rows.set i R).flatten=some (rows.set i ((R.set k v).set (k+1) v')).flatten:=by
 obtain ⟨a,l,h1,h2,h3⟩:=set_parts (R:=R) hw hi
 rw [h1,← h2,over_skip,over_two _ _ _ _ _ (by omega),h3]
 rfl
theorem cut_front:∀ (R l:List AV) (k m:Nat),k+m≤R.length→cut k m (R++l)=cut k m R
 | R,l,0,m,h=>by
  rw [cut_zero,cut_zero]
  have:R=R.take m++R.drop m:=(List.take_append_drop m R).symm
  have hl:(R.take m).length=m:=by rw [List.length_take];omega
  rw [this,List.append_assoc]
  have h1:=cut1_app (R.take m) (R.drop m++l)
  have h2:=cut1_app (R.take m) (R.drop m)
  rw [hl] at h1 h2
  rw [h1,h2]
 | [],l,k+1,m,h=>by simp at h
 | a::R,l,k+1,m,h=>by
  rw [List.cons_append,cut_cons,cut_cons,if_neg (by omega),if_neg (by omega),Nat.add_sub_cancel]
  exact cut_front R l k m (by simp at h;omega)
theorem cut_cell {rows:List (List AV)} {w i:Nat} (hw:∀ r ∈ rows,r.length=w) (hi:i<rows.length) (R:List AV) (k m:Nat) (hR:R.length=w) (hk:k+m≤w):cut (i * w+k) m (rows.set i R).flatten=cut k m R:=by
 obtain ⟨a,l,h1,h2,_⟩:=set_parts (R:=R) hw hi
 rw [h1,← h2,cut_skip,cut_front _ _ _ _ (by omega)]
end Go.Abs
namespace Go.Proofs.Ytlfalcghhckanaa.walk
open Go.Abs Go.Proofs.Ytlfalcghhckanaa.code
structure Box.Narrower (a b:Box):Prop where
 ok:b.Ok
 room:b.room=a.room
 il:a.il≤b.il
 ih:b.ih≤a.ih
 ml:a.ml≤b.ml
 mh:b.mh≤a.mh
 cl:a.cl≤b.cl
 ch:b.ch≤a.ch
 wl:a.wl≤b.wl
 wh:b.wh≤a.wh
structure Cellar.Narrower (c d:Cellar):Prop where
 hl:c.hl≤d.hl
 hm:d.hl≤d.hh
 hh:d.hh≤c.hh
 len:d.boxes.length=c.boxes.length
 box:∀ j (h:j<c.boxes.length),(c.boxes[j]).Narrower (d.boxes[j]'(by omega))
 f:d.fills=c.fills
 r:d.rates=c.rates
theorem Cellar.Narrower.ok {c d:Cellar} (h:c.Narrower d) (ok:c.Ok):d.Ok:=by
 refine ⟨by have:=ok.h0;have:=h.hl;omega,h.hm,by have:=ok.h2;have:=h.hh;omega,by rw [h.len];exact ok.b,fun b hb=>?_,by rw [h.f];exact ok.f,fun f hf=>?_,?_,by rw [h.r];exact ok.r0,by rw [h.r];exact ok.r,by rw [h.r];exact ok.rok,?_⟩
 ·obtain ⟨j,hj,rfl⟩:=List.getElem_of_mem hb
  exact (h.box j (by rw [← h.len];exact hj)).ok
 ·rw [h.len];exact ok.fok f (by rw [← h.f];exact hf)
 ·have:=ok.fo
  rw [← h.f] at this
  exact this
 ·have:=ok.ro
  rw [← h.r] at this
  exact this
theorem Cellar.Narrower.ice {c d:Cellar} (h:c.Narrower d) {b:Nat} (hlt:b<c.boxes.length) (k:Nat):c.iceLo b k≤d.iceLo b k∧d.iceHi b k≤c.iceHi b k:=by
 have hc:=h.box b hlt
 have hlt':b<d.boxes.length:=by rw [h.len];exact hlt
 rw [← c.box_eq hlt,← d.box_eq hlt'] at hc
 have ef:d.of b=c.of b:=by unfold Cellar.of;rw [h.f]
 unfold Cellar.iceLo Cellar.iceHi
 rw [ef,hc.room]
 exact ⟨lev_mono (Int.le_refl _) (fun _=>hc.mh) k 0 _ _ _ hc.il,lev_mono (Int.le_refl _) (fun _=>hc.ml) k 0 _ _ _ hc.ih⟩
theorem Cellar.Narrower.at_in {c d:Cellar} (h:c.Narrower d) (ok:c.Ok) (okd:d.Ok) (l:Lot) (okl:l.Ok c.boxes.length) (k:Nat):(c.at l k).1≤(d.at l k).1∧(d.at l k).2≤(c.at l k).2:=by
 unfold Cellar.at
 cases hf:l.stays.find? (hit k) with
 | none=>exact ⟨h.hl,h.hh⟩
 | some t =>
  have ht:=okl.sok t (List.mem_of_find?_eq_some hf)
  obtain ⟨b,hb⟩:∃ b:Nat,t.box=b:=⟨t.box.toNat,by have:=ht.b0;omega⟩
  have hlt:b<c.boxes.length:=by have:=ht.b1;omega
  have hlt':b<d.boxes.length:=by rw [h.len];exact hlt
  simp only [hb,Int.toNat_natCast]
  have hc:=h.box b hlt
  have okb:=ok.bok _ (List.getElem_mem hlt)
  rw [← c.box_eq hlt] at okb hc
  rw [← d.box_eq hlt'] at hc
  obtain ⟨i1,i2⟩:=h.ice hlt k
  obtain ⟨okb',_,_,_,_,_,w1,w2,w3,w4⟩:=hc
  obtain ⟨_,_,_,_,_,_,_,_,_,c1,c2,c3,_⟩:=okb
  obtain ⟨_,_,_,_,_,_,_,_,_,e1,e2,e3,_⟩:=okb'
  refine ⟨?_,?_⟩
  ·show (if 0<c.iceHi b k then (c.box b).cl else (c.box b).wl)≤(if 0<d.iceHi b k then (d.box b).cl else (d.box b).wl)
   split<;>split<;>omega
  ·show (if 0<d.iceLo b k then (d.box b).ch else (d.box b).wh)≤(if 0<c.iceLo b k then (c.box b).ch else (c.box b).wh)
   split<;>split<;>omega
theorem Cellar.Narrower.lost {c d:Cellar} (h:c.Narrower d) (ok:c.Ok) (okd:d.Ok) (l:Lot) (okl:l.Ok c.boxes.length) (m:Nat) (hm:l.born+m≤240):(c.lost l m).1≤(d.lost l m).1∧(d.lost l m).2≤(c.lost l m).2:=by
 have okl':l.Ok d.boxes.length:=by rw [h.len];exact okl
 exact ⟨(Cellar.lost_le c d ok h.r.symm l okl okl' m hm).1 fun k _=>(h.at_in ok okd l okl k).1,(Cellar.lost_le d c okd h.r l okl' okl m hm).2 fun k _=>(h.at_in ok okd l okl k).2⟩
theorem narrow_round (n:Nat) (hn:7≤n) (cx:Ctx) (bs:List Box) (a b:Int) (w1 w2 w3:AV) (d p8 lo n1 i:Nat) (L:Env) (s:St) (hi:i<bs.length) (hB:(bs[i]).Ok) (hd:Die d s.h) (hdl:d<lo) (hlo:lo≤n1) (hn1:n1≤p8) (hp8:p8<s.n) (hs:s.n+5000≤far) (hk:bs.length≤6)
  (g8:s.h.get p8=some (.cells [.int .i64 a,.int .i64 b,w1,w2,w3] (tag 31))) (own:Own s.h lo n1 9 (tag 43) (bs.map Box.cells) w1)
  (l3:L.find 3=.ptr d 0) (l8:L.find 8=.ptr p8 0) (l9:L.find 9=.int .i64 i) :
  ∃ L1 s1 B,K3l0 (knows 14 (call Try.prog X n)) cx L [] s=.done .norm L1 [] s1∧(∀ t,t=3∨t=4∨t=5∨t=6∨t=7∨t=8→L1.find t=L.find t)∧L1.find 9=.int .i64 ((i:Int)+1)∧(bs[i]).Narrower B ∧
   Own s1.h lo n1 9 (tag 43) ((bs.set i B).map Box.cells) w1∧Die d s1.h∧(∀ c,c<s.n→c≠d→(c<lo∨n1≤c)→s1.h.get c=s.h.get c)∧s.n≤s1.n∧s1.n≤s.n+50:=by
 have hff:far=1000000000:=rfl
 have knN:∀ args s,knows 14 (call Try.prog X n) (.fn 10) args s=call Try.prog X n (.fn 10) args s:=fun _ _=>rfl
 have e0:decide ((i:Int)<(bs.length:Int))=true:=by simp;omega
 obtain ⟨bb,hb0,hb1,rfl,gb⟩:∃ bb,lo≤bb∧bb<n1∧w1=.slice bb 0 bs.length bs.length true∧s.h.get bb=some (.cells (bs.map Box.cells).flatten (9+tag 43)):=by
  rcases own.is with ⟨h,_⟩ | ⟨_,bb,h1,h2,h3,h4⟩
  ·rw [List.map_eq_nil_iff] at h;subst h;simp at hi
  ·rw [List.length_map] at h3;exact ⟨bb,h1,h2,h3,h4⟩
 have hil:i<(bs.map Box.cells).length:=by rw [List.length_map];exact hi
 have hw:=box_wide bs
 obtain ⟨room,il,ih,ml,mh,cl,ch,wl,wh,hBe⟩:∃ room il ih ml mh cl ch wl wh,bs[i]=⟨room,il,ih,ml,mh,cl,ch,wl,wh⟩:=⟨_,_,_,_,_,_,_,_,_,rfl⟩
 have hset:(bs.map Box.cells).set i [.int .i64 room,.int .i64 il,.int .i64 ih,.int .i64 ml,.int .i64 mh,.int .i64 cl,.int .i64 ch,.int .i64 wl,.int .i64 wh]=bs.map Box.cells:=by
  have:(bs.map Box.cells)[i]=[.int .i64 room,.int .i64 il,.int .i64 ih,.int .i64 ml,.int .i64 mh,.int .i64 cl,.int .i64 ch,.int .i64 wl,.int .i64 wh]:=by rw [List.getElem_map,hBe];rfl
  rw [← this,List.set_getElem_self]
 rw [hBe] at hB
 obtain ⟨o1,o2,o3,o4,o5,o6,o7,o8,o9,o10,o11,o12,o13⟩:=hB
 simp only at o1 o2 o3 o4 o5 o6 o7 o8 o9 o10 o11 o12 o13
 rw [← hset] at gb
 simp (disch:=first|omega|(with_unfolding_all exact rfl)|(simp only[new_n,put_n,new_m];omega)|(refine put_m_le ?_;simp only[new_m];omega)) only [K3l0,K3r8,K3r9,K3r10,Abs.W,reduceIte,Nat.reduceEqDiff,Nat.reduceAdd,decide_true,decide_false,kLoop_def,Nat.reduceSub,List.cons_append,List.nil_append,List.append_nil,List.length_cons,List.length_nil,Env.find_set,l3,l8,l9,g8,e0,knN,ixs_slice _ _ _ _ _ _ _ _ hi,gb,cut_cell hw hil,Nat.zero_add]
 generalize hc1:call _ _ _ (.fn 10) _ _=r1
 obtain ⟨il',ih',t1,rfl,st1,d1,x10,x11,x12⟩:=narrow_ex hc1 (by omega) hd (by show d<s.n;omega) (by show s.n+1000≤far;omega) (by omega) (by omega) (by omega)
 have n1':s.n≤t1.n:=st1.n
 have k1:t1.n≤s.n+10:=st1.le
 have gb1:=(st1.same bb (by show bb<s.n;omega) (by omega)).trans gb
 simp (disch:=first|omega|(with_unfolding_all exact rfl)|(simp only[new_n,put_n,new_m];omega)|(refine put_m_le ?_;simp only[new_m];omega)) only [thenT_turn,Abs.W,reduceIte,Nat.reduceEqDiff,Nat.reduceAdd,decide_true,decide_false,kLoop_def,Nat.reduceSub,List.cons_append,List.nil_append,List.append_nil,List.length_cons,List.length_nil,Env.find_set,l3,l8,l9,knN,gb1,cut_cell hw hil,Nat.zero_add]
 generalize hc2:call _ _ _ (.fn 10) _ _=r2
 obtain ⟨ml',mh',t2,rfl,st2,d2,x20,x21,x22⟩:=narrow_ex hc2 (by omega) d1 (by show d<t1.n;omega) (by show t1.n+1000≤far;omega) (by omega) (by omega) (by omega)
 have n2':t1.n≤t2.n:=st2.n
 have k2:t2.n≤t1.n+10:=st2.le
 have gb2:=(st2.same bb (by show bb<t1.n;omega) (by omega)).trans gb1
 simp (disch:=first|omega|(with_unfolding_all exact rfl)|(simp only[new_n,put_n,new_m];omega)|(refine put_m_le ?_;simp only[new_m];omega)) only [thenT_turn,Abs.W,reduceIte,Nat.reduceEqDiff,Nat.reduceAdd,decide_true,decide_false,kLoop_def,Nat.reduceSub,List.cons_append,List.nil_append,List.append_nil,List.length_cons,List.length_nil,Env.find_set,l3,l8,l9,knN,gb2,cut_cell hw hil,Nat.zero_add]
 generalize hc3:call _ _ _ (.fn 10) _ _=r3
 obtain ⟨cl',ch',t3,rfl,st3,d3,x30,x31,x32⟩:=narrow_ex hc3 (by omega) d2 (by show d<t2.n;omega) (by show t2.n+1000≤far;omega) (by omega) (by omega) (by omega)
 have n3':t2.n≤t3.n:=st3.n
 have k3:t3.n≤t2.n+10:=st3.le
 have gb3:=(st3.same bb (by show bb<t2.n;omega) (by omega)).trans gb2
 simp (disch:=first|omega|(with_unfolding_all exact rfl)|(simp only[new_n,put_n,new_m];omega)|(refine put_m_le ?_;simp only[new_m];omega)) only [thenT_turn,Abs.W,reduceIte,Nat.reduceEqDiff,Nat.reduceAdd,decide_true,decide_false,kLoop_def,Nat.reduceSub,List.cons_append,List.nil_append,List.append_nil,List.length_cons,List.length_nil,Env.find_set,l3,l8,l9,knN,gb3,cut_cell hw hil,Nat.zero_add]
 generalize hc4:call _ _ _ (.fn 10) _ _=r4
 obtain ⟨wl',wh',t4,rfl,st4,d4,x40,x41,x42⟩:=narrow_ex hc4 (by omega) d3 (by show d<t3.n;omega) (by show t3.n+1000≤far;omega) (by omega) (by omega) (by omega)
 have n4':t3.n≤t4.n:=st4.n
 have k4:t4.n≤t3.n+10:=st4.le
 have gb4:=(st4.same bb (by show bb<t3.n;omega) (by omega)).trans gb3
 have a4:∀ s,aAdd s .i64 (i:Int) 1=.val (.int .i64 ((i:Int)+1)) s:=fun s=>aAdd_i64 s _ _ (by omega)
 simp (disch:=first|omega|(with_unfolding_all exact rfl)|(simp only[new_n,put_n,new_m];omega)|(refine put_m_le ?_;simp only[new_m];omega)) only [thenT_turn,Abs.W,reduceIte,Nat.reduceEqDiff,Nat.reduceAdd,decide_true,decide_false,kLoop_def,Nat.reduceSub,List.cons_append,List.nil_append,List.append_nil,List.length_cons,List.length_nil,Env.find_set,l3,l8,l9,knN,gb4,over_cell2 hw hil,List.set_cons_zero,List.set_cons_succ,Nat.zero_add]
 rw [endT_kept (l:=[80]) (s':=t3) (by simp only [keptAll_cons,keptAll_nil,find_cons,keptV_ptr,gb2,gb3,sameO_cells,reduceIte,Nat.reduceEqDiff,Bool.and_self]),
  endT_kept (l:=[74,80]) (s':=t2) (by simp only [keptAll_cons,keptAll_nil,find_cons,keptV_ptr,gb1,gb2,sameO_cells,reduceIte,Nat.reduceEqDiff,Bool.and_self]),
  endT_kept (l:=[68,74,80]) (s':=t1) (by simp only [keptAll_cons,keptAll_nil,find_cons,keptV_ptr,gb,gb1,sameO_cells,reduceIte,Nat.reduceEqDiff,Bool.and_self])]
 simp (disch:=first|omega|(with_unfolding_all exact rfl)|(simp only[new_n,put_n,new_m];omega)|(refine put_m_le ?_;simp only[new_m];omega)) only [K3r11,Abs.W,reduceIte,Nat.reduceEqDiff,Nat.reduceAdd,decide_true,decide_false,kLoop_def,Nat.reduceSub,List.cons_append,List.nil_append,List.append_nil,List.length_cons,List.length_nil,Env.find_set,l9,a4,endO_nil,regD_ok]
 refine ⟨_,_,⟨room,il',ih',ml',mh',cl',ch',wl',wh'⟩,rfl,fun t ht=>?_,?_,?_,⟨?_,.inr ⟨?_,bb,hb0,hb1,?_,?_⟩⟩,?_,fun c hc hcd hcl=>?_,?_,?_⟩
 ·rcases ht with rfl | rfl | rfl | rfl | rfl | rfl<;>simp only [Env.find_set,reduceIte,Nat.reduceEqDiff]
 ·simp only [Env.find_set,reduceIte,Nat.reduceEqDiff]
 ·rw [hBe]
  exact ⟨⟨o1,o2,by simp only;omega,by simp only;omega,by simp only;omega,by simp only;omega,by simp only;omega,by simp only;omega,by simp only;omega,by simp only;omega,by simp only;omega,by simp only;omega,by simp only;omega⟩,rfl,by simp only;omega,by simp only;omega,by simp only;omega,by simp only;omega,by simp only;omega,by simp only;omega,by simp only;omega,by simp only;omega⟩
 ·exact box_wide _
 ·intro h
  have:=congrArg List.length h
  rw [List.length_map,List.length_set,List.length_nil] at this
  omega
 ·rw [List.length_map,List.length_set]
 ·rw [List.map_set]
  exact get_put_eq _ _ _ _ rfl (by omega)
 ·obtain ⟨f,hf'⟩:=d4
  exact ⟨f,by rw [get_put_ne' _ _ _ _ (by omega),get_put_ne' _ _ _ _ (by omega),get_put_ne' _ _ _ _ (by omega),get_put_ne' _ _ _ _ (by omega)];exact hf'⟩
 ·rw [get_put_ne' _ _ _ _ (by omega),get_put_ne' _ _ _ _ (by omega),get_put_ne' _ _ _ _ (by omega),get_put_ne' _ _ _ _ (by omega)]
  show t4.h.get c=_
  rw [st4.same c (by show c<t3.n;omega) hcd,st3.same c (by show c<t2.n;omega) hcd,st2.same c (by show c<t1.n;omega) hcd,st1.same c hc hcd]
 ·simp only [put_n];omega
 ·simp only [put_n];omega
end Go.Proofs.Ytlfalcghhckanaa.walk
set_option maxRecDepth 10000
namespace Go.Abs
theorem keptV_rows {h h':Heap} {lo n w tg:Nat} {rows:List (List AV)} {v:AV} (r:Rows h lo n w tg rows v) (hh:∀ b,lo≤b→b<n→h'.get b=h.get b):keptV h h' v=true:=by
 rcases r.is with ⟨_,h2⟩ | ⟨b,h0,h1,h2,h3⟩
 ·subst h2;exact keptV_nils h h'
 ·subst h2;rw [keptV_slice,hh b h0 h1,h3,sameO_cells]
end Go.Abs
namespace Go.Proofs.Ytlfalcghhckanaa.walk
open Go.Abs Go.Proofs.Ytlfalcghhckanaa.code
theorem narrow_loop {r:R} (n:Nat) (hn:7≤n) (cx:Ctx) (bs0:List Box) (hok:∀ b ∈ bs0,b.Ok) (a b:Int) (w1 w2 w3:AV) (d p8 lo n1:Nat) (L:Env) (s:St) (hr:loopN K3l0 rounds (knows 14 (call Try.prog X n)) cx L [] s=r) (hd:Die d s.h) (hdl:d<lo) (hlo:lo≤n1) (hn1:n1≤p8) (hp8:p8<s.n) (hs:s.n+9000≤far) (hk:bs0.length≤6)
  (g8:s.h.get p8=some (.cells [.int .i64 a,.int .i64 b,w1,w2,w3] (tag 31))) (own:Own s.h lo n1 9 (tag 43) (bs0.map Box.cells) w1)
  (l3:L.find 3=.ptr d 0) (l8:L.find 8=.ptr p8 0) (l9:L.find 9=.int .i64 0) :
  ∃ (L1:Env) (s1:St) (bs:List Box),r=.done (.exit 0) L1 [] s1∧(∀ t,t=3∨t=4∨t=5∨t=6∨t=7∨t=8→L1.find t=L.find t)∧bs.length=bs0.length∧(∀ j (h:j<bs0.length) (h':j<bs.length),(bs0[j]).Narrower bs[j]) ∧
   Own s1.h lo n1 9 (tag 43) (bs.map Box.cells) w1∧Die d s1.h∧(∀ c,c<s.n→c≠d→(c<lo∨n1≤c)→s1.h.get c=s.h.get c)∧s.n≤s1.n∧s1.n≤s.n+50 * bs0.length:=by
 have hff:far=1000000000:=rfl
 obtain ⟨e,L1,s1,rfl,rfl,h⟩:=loop_of hr
  (fun i L' t=>∃ bs:List Box,bs.length=bs0.length∧(∀ j (h:j<bs0.length) (h':j<bs.length),(j<i→(bs0[j]).Narrower bs[j])∧(i≤j→bs[j]=bs0[j]))∧(∀ t,t=3∨t=4∨t=5∨t=6∨t=7∨t=8→L'.find t=L.find t)∧L'.find 9=.int .i64 i ∧
   Own t.h lo n1 9 (tag 43) (bs.map Box.cells) w1∧Die d t.h∧(∀ c,c<s.n→c≠d→(c<lo∨n1≤c)→t.h.get c=s.h.get c)∧s.n≤t.n∧t.n≤s.n+50 * i)
  (fun e L1 s1=>e=.exit 0∧∃ bs:List Box,(∀ t,t=3∨t=4∨t=5∨t=6∨t=7∨t=8→L1.find t=L.find t)∧bs.length=bs0.length∧(∀ j (h:j<bs0.length) (h':j<bs.length),(bs0[j]).Narrower bs[j]) ∧
   Own s1.h lo n1 9 (tag 43) (bs.map Box.cells) w1∧Die d s1.h∧(∀ c,c<s.n→c≠d→(c<lo∨n1≤c)→s1.h.get c=s.h.get c)∧s.n≤s1.n∧s1.n≤s.n+50 * bs0.length)
  bs0.length (by unfold rounds;omega)
  ⟨bs0,rfl,fun j h h'=>⟨fun h=>absurd h (Nat.not_lt_zero _),fun _=>rfl⟩,fun _ _=>rfl,l9,own,hd,fun _ _ _ _=>rfl,Nat.le_refl _,Nat.le_refl _⟩
  (fun i L' t hi ⟨bs,q1,q2,q3,q4,q5,q6,q7,q8,q9⟩=>by
   have g8t:=(q7 p8 hp8 (by omega) (.inr hn1)).trans g8
   by_cases hlt:i<bs0.length
   ·have hib:i<bs.length:=by omega
    have hbe:=(q2 i hlt hib).2 (Nat.le_refl _)
    have hbo:=hok _ (List.getElem_mem hlt)
    obtain ⟨L1,s1,B,p0,p1,p2,p3,p4,p5,p6,p7',p8'⟩:=narrow_round n hn cx bs a b w1 w2 w3 d p8 lo n1 i L' t hib (by rw [hbe];exact hbo) q6 hdl hlo hn1 (by omega) (by omega) (by omega) g8t q5 ((q3 3 (by simp)).trans l3) ((q3 8 (by simp)).trans l8) q4
    refine .inl ⟨hlt,L1,s1,p0,bs.set i B,by rw [List.length_set];exact q1,fun j h h'=>⟨fun hj=>?_,fun hj=>?_⟩,fun q hq=>(p1 q hq).trans (q3 q hq),by rw [p2];rfl,p4,p5,fun c hc hcd hcl=>(p6 c (by omega) hcd hcl).trans (q7 c hc hcd hcl),by omega,by omega⟩
    ·rw [List.length_set] at h'
     by_cases e:j=i
     ·subst e
      rw [List.getElem_set_self,← hbe];exact p3
     ·rw [List.getElem_set_ne (by omega)]
      exact (q2 j h h').1 (by omega)
    ·rw [List.length_set] at h'
     rw [List.getElem_set_ne (by omega)]
     exact (q2 j h h').2 (by omega)
   ·obtain rfl:i=bs0.length:=by omega
    have e0:decide ((bs0.length:Int)<(bs0.length:Int))=false:=by simp
    have len1:=q5.seq.at_.len
    rw [List.length_map,q1] at len1
    obtain ⟨ok1,_,_⟩:=q5.seq.scalar
    refine .inr ⟨.exit 0,L'.set 48 (.bool false),t,by simp,?_,rfl,bs,fun q hq=>?_,q1,fun j h h'=>(q2 j h h').1 h,q5,q6,q7,q8,q9⟩
    ·simp (disch:=first|omega|(with_unfolding_all exact rfl)|(simp only[new_n,put_n,new_m];omega)|(refine put_m_le ?_;simp only[new_m];omega)) only [K3l0,K3r8,Abs.W,reduceIte,Nat.reduceEqDiff,Nat.reduceAdd,decide_true,decide_false,kLoop_def,Nat.reduceSub,List.cons_append,List.nil_append,List.append_nil,List.length_cons,List.length_nil,Env.find_set,(q3 8 (by simp)).trans l8,q4,g8t,ok1,len1,e0,Nat.zero_add]
    ·rw [← q3 q hq]
     rcases hq with rfl | rfl | rfl | rfl | rfl | rfl<;>simp only [Env.find_set,reduceIte,Nat.reduceEqDiff])
 obtain ⟨bs,h1,h2,h3,h4,h5,h6,h7,h8⟩:=h
 exact ⟨L1,s1,bs,rfl,h1,h2,h3,h4,h5,h6,h7,h8⟩
noncomputable def narTail:K:=kSeq (kRegion K3r20 [19]) (kSeq (kRegion K3r21 [20,12]) (kSeq (kRegion K3r22 [21,14]) (kSeq (kRegion K3r23 [15,16]) (kSeq (kRegion K3r24 [17,18]) (kSeq (kRegion K3r25 [2]) kRet)))))
noncomputable def narEnd:K:=kSeq (kSeq (kRegion K3r18 [151]) (kCond (.tmp 151) (kSeq (kRegion K3r19 [2]) kRet) kSkip)) narTail
noncomputable def narMid:K:=kSeq (kSeq (kRegion K3r16 [147]) (kCond (.tmp 147) (kSeq (kRegion K3r17 [2]) kRet) kSkip)) narEnd
noncomputable def narRest:K:=kSeq (kRegion K3r2 [4]) (kSeq (kRegion K3r3 [5]) (kSeq (kRegionD K3r4 [6,7]) (kSeq (kRegion K3r5 [8]) (kSeq (kRegion K3r6 []) (kSeq (kSeq (kRegion K3r7 [9]) (kBlock 0 (kLoop K3l0))) (kSeq (kRegion K3r12 [11,12]) (kSeq (kRegion K3r13 [13,14]) (kSeq (kRegion K3r14 [15,16]) (kSeq (kRegion K3r15 [17,18]) narMid)))))))))
theorem spanIn_ok (N:Nat) (hN:1≤N) (a b p q:Int) (s:St) (h0:p≤a) (h1:b≤q) (hs:s.n+100≤far):call Try.prog X N (.fn 13) [.agg [.int .i64 a,.int .i64 b],.agg [.int .i64 p,.int .i64 q]] s=.val (.bool true) s:=by
 obtain ⟨n,rfl⟩:∃ n,N=n+1:=⟨N - 1,by omega⟩
 refine call_plain' Try.func13 (fun u uh un um=>?_) rfl
 have hff:far=1000000000:=rfl
 have e0:decide (p≤a)=true:=decide_eq_true h0
 have e1:decide (b≤q)=true:=decide_eq_true h1
 rw [enter13]
 simp (disch:=first|omega|(with_unfolding_all exact rfl)|(simp only[new_n,put_n,new_m];omega)|(refine put_m_le ?_;simp only[new_m];omega)) only [res13,K13r0,K13r1s11,K13r1s10,K13r1s9,K13r1s8,K13r1s7,K13r1,K13,Abs.W,reduceIte,Nat.reduceEqDiff,Nat.reduceAdd,decide_true,decide_false,kLoop_def,Nat.reduceSub,List.cons_append,List.nil_append,List.append_nil,List.length_cons,List.length_nil,e0,e1,Nat.zero_add,Nat.add_zero]
 exact ⟨_,rfl,by simp only [new_m];omega⟩
theorem nar_tail (n:Nat) (hn:13≤n) (cx:Ctx) (L:Env) (s:St) (c c':Cellar) (ok:c.Ok) (okc':c'.Ok) (nar:c.Narrower c') (v1 v2 v3 w1 w2 w3:AV) (p4 p8:Nat) (hour box:Int) (h0:0≤hour) (hb0:0≤box) (hb1:box<c.boxes.length) (hs:s.n+400000≤far) (hp4:p4<s.n) (hp8:p8<s.n)
  (hC:CellarIn s.h s.n c v1 v2 v3) (hC':CellarIn s.h s.n c' w1 w2 w3) (g4:s.h.get p4=some (.cells [.int .i64 c.hl,.int .i64 c.hh,v1,v2,v3] (tag 31))) (g8:s.h.get p8=some (.cells [.int .i64 c'.hl,.int .i64 c'.hh,w1,w2,w3] (tag 31)))
  (l4:L.find 4=.ptr p4 0) (l6:L.find 6=.int .i64 hour) (l7:L.find 7=.int .i64 box) (l8:L.find 8=.ptr p8 0) :
  ∃ s',finA Try.prog Try.f3 (narTail (knows 14 (call Try.prog X n)) cx L [] s)=.val (.bool true) s':=by
 have hff:far=1000000000:=rfl
 have knI:∀ args s,knows 14 (call Try.prog X n) (.fn 15) args s=call Try.prog X n (.fn 15) args s:=fun _ _=>rfl
 have knC:∀ args s,knows 14 (call Try.prog X n) (.fn 16) args s=call Try.prog X n (.fn 16) args s:=fun _ _=>rfl
 have knW:∀ args s,knows 14 (call Try.prog X n) (.fn 13) args s=call Try.prog X n (.fn 13) args s:=fun _ _=>rfl
 have kn24:∀ s,knows 14 (call Try.prog X n) (.fn 14) [] s=.val (.bool true) s:=fun _=>rfl
 have ex0:∀ (a b:AV) (s:St),extA 0 s (.tup [a,b])=.val a s:=fun _ _ _=>rfl
 have ex1:∀ (a b:AV) (s:St),extA 1 s (.tup [a,b])=.val b s:=fun _ _ _=>rfl
 obtain ⟨b,rfl⟩:∃ b:Nat,box=b:=⟨box.toNat,by omega⟩
 obtain ⟨k,hk⟩:∃ k:Nat,min hour 239=k:=⟨(min hour 239).toNat,by omega⟩
 have hk2:k<240:=by omega
 have hbl:b<c.boxes.length:=by omega
 have hbl':b<c'.boxes.length:=by rw [nar.len];exact hbl
 obtain ⟨i1,i2⟩:=nar.ice hbl k
 have i3:=c.ice_order ok hbl k
 have i4:=c'.ice_order okc' hbl' k
 have E1:=Ice_ok (N:=n) (s:=s) (box:=(b:Int)) (hour:=(k:Int)) c ok b k hbl hk2 rfl rfl (by omega) hC (by omega)
 unfold narTail
 simp (disch:=first|omega|(with_unfolding_all exact rfl)|(simp only[new_n,put_n,new_m];omega)|(refine put_m_le ?_;simp only[new_m];omega)) only [K3r20,K3r21,Abs.W,reduceIte,Nat.reduceEqDiff,Nat.reduceAdd,decide_true,decide_false,kLoop_def,Nat.reduceSub,List.cons_append,List.nil_append,List.append_nil,List.length_cons,List.length_nil,Env.find_set,l4,l6,l7,l8,g4,knI,kFold_def,foldA_nil,foldA_cons,minA_i64,hk,E1,ex0,ex1,Nat.zero_add]
 generalize hu1:St.put (St.new s _) s.n _=u1
 have u1n:u1.n=s.n+1:=by rw [← hu1];rfl
 have u1g:∀ c,c<s.n→u1.h.get c=s.h.get c:=fun c hc=>by rw [← hu1,get_put_ne' _ _ _ _ (by omega),get_new_ne _ _ _ (by omega)]
 have u1x:u1.h.get s.n=some (.cells [.int .i64 (c.iceLo b k),.int .i64 (c.iceHi b k)] (tag 26)):=by rw [← hu1];exact get_put_eq _ _ _ _ rfl (by omega)
 clear hu1
 have g41:=(u1g p4 hp4).trans g4
 have g81:=(u1g p8 hp8).trans g8
 have E2:=Ice_ok (N:=n) (s:=u1) (box:=(b:Int)) (hour:=(k:Int)) c' okc' b k hbl' hk2 rfl rfl (by omega) (hC'.grow u1g (by omega)) (by omega)
 simp (disch:=first|omega|(with_unfolding_all exact rfl)|(simp only[new_n,put_n,new_m];omega)|(refine put_m_le ?_;simp only[new_m];omega)) only [K3r22,Abs.W,reduceIte,Nat.reduceEqDiff,Nat.reduceAdd,decide_true,decide_false,kLoop_def,Nat.reduceSub,List.cons_append,List.nil_append,List.append_nil,List.length_cons,List.length_nil,Env.find_set,l4,l6,l7,l8,g81,knI,E2,ex0,ex1,Nat.zero_add]
 generalize hu2:St.put (St.new u1 _) u1.n _=u2
 have u2n:u2.n=u1.n+1:=by rw [← hu2];rfl
 have u2g:∀ c,c<u1.n→u2.h.get c=u1.h.get c:=fun c hc=>by rw [← hu2,get_put_ne' _ _ _ _ (by omega),get_new_ne _ _ _ (by omega)]
 have u2y:u2.h.get u1.n=some (.cells [.int .i64 (c'.iceLo b k),.int .i64 (c'.iceHi b k)] (tag 26)):=by rw [← hu2];exact get_put_eq _ _ _ _ rfl (by omega)
 clear hu2
 have u2x:=(u2g s.n (by omega)).trans u1x
 have g42:=(u2g p4 (by omega)).trans g41
 have g82:=(u2g p8 (by omega)).trans g81
 have g2s:∀ c,c<s.n→u2.h.get c=s.h.get c:=fun c hc=>(u2g c (by omega)).trans (u1g c hc)
 have E3:=Cold_ok (N:=n) (s:=u2) (box:=(b:Int)) (hour:=(k:Int)) c ok b k hbl hk2 rfl rfl (by omega) (hC.grow g2s (by omega)) (by omega)
 have E4:=Cold_ok (N:=n) (s:=u2) (box:=(b:Int)) (hour:=(k:Int)) c' okc' b k hbl' hk2 rfl rfl (by omega) (hC'.grow g2s (by omega)) (by omega)
 simp (disch:=first|omega|(with_unfolding_all exact rfl)|(simp only[new_n,put_n,new_m];omega)|(refine put_m_le ?_;simp only[new_m];omega)) only [K3r23,K3r24,Abs.W,reduceIte,Nat.reduceEqDiff,Nat.reduceAdd,decide_true,decide_false,kLoop_def,Nat.reduceSub,List.cons_append,List.nil_append,List.append_nil,List.length_cons,List.length_nil,Env.find_set,l4,l6,l7,l8,g42,g82,knC,E3,E4,ex0,ex1,Nat.zero_add]
 have EW:=spanIn_ok n (by omega) (c'.iceLo b k) (c'.iceHi b k) (c.iceLo b k) (c.iceHi b k) u2 i1 i2 (by omega)
 have hV:(if 0<c.iceLo b k then (1:Int) else if 0<c.iceHi b k then 3 else 2)≠3→(if 0<c.iceLo b k then (1:Int) else if 0<c.iceHi b k then 3 else 2)=(if 0<c'.iceLo b k then (1:Int) else if 0<c'.iceHi b k then 3 else 2):=by
  repeat' split
  all_goals omega
 clear E1 E2 E3 E4
 generalize (if 0<c.iceLo b k then (1:Int) else if 0<c.iceHi b k then 3 else 2)=V at hV ⊢
 generalize (if 0<c'.iceLo b k then (1:Int) else if 0<c'.iceHi b k then 3 else 2)=W at hV ⊢
 have q25_0:=fun cl L s=>congrFun (congrFun (congrFun K3r25.eq_1 cl) L) s
 have q25_s4:=fun cl L s=>congrFun (congrFun (congrFun K3r25s4.eq_1 cl) L) s
 have q25_s5:=fun cl L s=>congrFun (congrFun (congrFun K3r25s5.eq_1 cl) L) s
 have q25_s8:=fun cl L s=>congrFun (congrFun (congrFun K3r25s8.eq_1 cl) L) s
 have q25_s9:=fun cl L s=>congrFun (congrFun (congrFun K3r25s9.eq_1 cl) L) s
 have q25_s12:=fun cl L s=>congrFun (congrFun (congrFun K3r25s12.eq_1 cl) L) s
 have q25_s13:=fun cl L s=>congrFun (congrFun (congrFun K3r25s13.eq_1 cl) L) s
 have q25_s16:=fun cl L s=>congrFun (congrFun (congrFun K3r25s16.eq_1 cl) L) s
 have q25_s17:=fun cl L s=>congrFun (congrFun (congrFun K3r25s17.eq_1 cl) L) s
 have q25_s18:=fun cl L s=>congrFun (congrFun (congrFun K3r25s18.eq_1 cl) L) s
 have q25_s21:=fun cl L s=>congrFun (congrFun (congrFun K3r25s21.eq_1 cl) L) s
 have q25_s22:=fun cl L s=>congrFun (congrFun (congrFun K3r25s22.eq_1 cl) L) s
 have q25_s23:=fun cl L s=>congrFun (congrFun (congrFun K3r25s23.eq_1 cl) L) s
 have q25_s24:=fun cl L s=>congrFun (congrFun (congrFun K3r25s24.eq_1 cl) L) s
 have q25_s25:=fun cl L s=>congrFun (congrFun (congrFun K3r25s25.eq_1 cl) L) s
 have q25_s26:=fun cl L s=>congrFun (congrFun (congrFun K3r25s26.eq_1 cl) L) s
 have q25_s27:=fun cl L s=>congrFun (congrFun (congrFun K3r25s27.eq_1 cl) L) s
 have q25_s30:=fun cl L s=>congrFun (congrFun (congrFun K3r25s30.eq_1 cl) L) s
 have d0:decide ((0:Int)=0)=true:=rfl
 cases hd:decide (V=3) with
 | true =>
  simp (config:={ maxSteps:=2000000 }) (disch:=first|omega|(with_unfolding_all exact rfl)|(simp only[new_n,put_n,new_m];omega)|(refine put_m_le ?_;simp only[new_m];omega)) only [q25_0,q25_s4,q25_s5,q25_s8,q25_s9,q25_s12,q25_s13,q25_s16,q25_s17,q25_s18,q25_s21,q25_s22,q25_s23,q25_s24,q25_s25,q25_s26,q25_s27,q25_s30,res3,Abs.W,reduceIte,Nat.reduceEqDiff,Nat.reduceAdd,decide_true,decide_false,kLoop_def,Nat.reduceSub,List.cons_append,List.nil_append,List.append_nil,List.length_cons,List.length_nil,Env.find_set,l4,l6,l7,l8,u2x,u2y,d0,knW,EW,hd,kn24,Nat.zero_add]
  exact ⟨_,rfl⟩
 | false =>
  have hw:decide (V=W)=true:=decide_eq_true (hV (of_decide_eq_false hd))
  simp (config:={ maxSteps:=2000000 }) (disch:=first|omega|(with_unfolding_all exact rfl)|(simp only[new_n,put_n,new_m];omega)|(refine put_m_le ?_;simp only[new_m];omega)) only [q25_0,q25_s4,q25_s5,q25_s8,q25_s9,q25_s12,q25_s13,q25_s16,q25_s17,q25_s18,q25_s21,q25_s22,q25_s23,q25_s24,q25_s25,q25_s26,q25_s27,q25_s30,res3,Abs.W,reduceIte,Nat.reduceEqDiff,Nat.reduceAdd,decide_true,decide_false,kLoop_def,Nat.reduceSub,List.cons_append,List.nil_append,List.append_nil,List.length_cons,List.length_nil,Env.find_set,l4,l6,l7,l8,u2x,u2y,d0,knW,EW,hd,hw,kn24,Nat.zero_add]
  exact ⟨_,rfl⟩
end Go.Proofs.Ytlfalcghhckanaa.walk
