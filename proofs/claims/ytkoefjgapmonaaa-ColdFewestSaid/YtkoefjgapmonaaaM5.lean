/- The fewest scoops of a box. -/
import Derived.Test.YtkoefjgapmonaaaM4
import Derived.Test.YtkoefjgapmonaaaM2
import Derived.Test.YtkoefjgapmonaaaM3
import Derived.Test.YtkoefjgapmonaaaM1
import Derived.Test.YtkoefjgapmonaaaCodes
import Derived.Test.YtkoefjgapmonaaaWalkAll
set_option linter.unusedSimpArgs false
set_option linter.unusedVariables false
set_option maxHeartbeats 16000000
set_option linter.unusedVariables false
set_option maxRecDepth 10000
namespace Go.Proofs.Ytkoefjgapmonaaa.walk
open Go.Abs Go.Proofs.Ytkoefjgapmonaaa.code
theorem try_ok {g until_:Int} {vs0:List Int} (hg:0≤g∧g≤1000000) (hu:until_≤1000) (hv0:vs0≠[]) (hv2:vs0.length≤2):∀ (vs:List Int) (N:Nat),6+vs.length≤N→TryOk N g until_ vs0 vs
 | [],N,hN=>try_leaf N (by omega) hv0 hv2
 | v::vs,N,hN=>by
  rw [List.length_cons] at hN
  obtain ⟨M,rfl⟩:∃ M,N=M+1:=⟨N - 1,by omega⟩
  exact try_node (by omega) hg hu hv2 (try_ok hg hu hv0 hv2 vs M (by omega))
def fewC (g until_:Int) (vs:List Int) (x:BoxNow) (fs:List (Int × Int)):Option (List Nat) :=
 match lstX g (nextOf until_ vs - x.hour).toNat 0 x fs with
 | none=>none
 | some y=>(tryC g until_ vs [] 0 y.1 y.2 (vs.length * 5+1,none)).2
def Told (h:Heap) (lo n:Nat) (v:AV):Option (List Nat)→Prop
 | none=>v=.nilslice
 | some l=>∃ bc,v=.slice bc 0 l.length l.length true∧lo≤bc∧bc<n∧h.get bc=some (.cells (ints (numL l)).flatten (1+tag 3))
theorem fewest_ex {N bv:Nat} {g until_:Int} {vs:List Int} {x:BoxNow} {v:AV} {s:St} {r:ARes} {fs:List (Int × Int)} (hr:call Try.prog X N (.fn 30) [.agg (x.cells v),.slice bv 0 vs.length vs.length true,.int .i64 g,.int .i64 until_] s=r) (hN:10≤N) (hv0:vs≠[]) (hv2:vs.length≤2) (hbv:bv<s.n) (hgv:∃ sz,s.h.get bv=some (.cells (ints vs).flatten sz)) (hR:Rests s.h s.n s.n v fs) (hx:x.Fits) (hm:0≤x.m0∧x.m0≤1000000∧0≤x.m1∧x.m1≤1000000) (hg:0≤g∧g≤1000000) (hk:fs.length≤1000) (hs:s.n+200000≤far) (h0x:x.hour=0) (hu:0≤until_∧until_≤1000) (hpos:∀ w ∈ vs,0≤w) (hsort:vs.Pairwise (·<·)) :
  ∃ rv t,r=.val rv t∧New s t 5000∧Told t.h s.n t.n rv (fewC g until_ vs x fs):=by
 obtain ⟨M,rfl⟩:∃ M,N=M+1:=⟨N - 1,by omega⟩
 have hf:far=1000000000:=rfl
 obtain ⟨rv,t,e,st,q⟩:=call_new' (n:=M) (args:=[.agg (x.cells v),.slice bv 0 vs.length vs.length true,.int .i64 g,.int .i64 until_]) (s:=s) (k:=5000) (Q:=fun rv h m=>Told h s.n m rv (fewC g until_ vs x fs)) Try.func30 rfl (fun U uh un um=>by
  obtain ⟨szv,hgv⟩:=hgv
  rw [← uh,← un] at hR
  rw [← uh] at hgv
  rw [← un]
  rw [← un] at hbv hs
  obtain ⟨a,vs1,rfl⟩:∃ a vs1,vs=a::vs1:=by
   cases vs with
   | nil=>exact absurd rfl hv0
   | cons a l=>exact ⟨a,l,rfl⟩
  have hsc:=hR.sc
  have hc0:x.cells v=[.int .i64 x.room,.int .i64 x.a1,.int .i64 x.a2,.int .i64 x.m0,.int .i64 x.m1,.int .i64 x.a5,.int .i64 x.a6,.int .i64 x.a7,.int .i64 x.a8,.int .i64 x.hour,.int .i64 x.i0,.int .i64 x.i1,v]:=rfl
  have ha0:=hpos a (by simp)
  obtain ⟨k,hkk⟩:∃ k,k=(a::vs1).length:=⟨_,rfl⟩
  have hnth:nth (ints (a::vs1)).flatten 0=.int .i64 a:=rfl
  have nn1:∀ o,(U.new o).n=U.n+1:=fun _=>rfl
  have nn2:∀ o1 o2,((U.new o1).new o2).n=U.n+2:=fun _ _=>rfl
  have nn3:∀ o1 o2 o3,(((U.new o1).new o2).new o3).n=U.n+3:=fun _ _ _=>rfl
  obtain ⟨w,hw⟩:∃ w:St,w=((((U.new (.cells (x.cells v) (tag 77))).new (.cells [.slice bv 0 k k true] (tag 22))).new (.cells [.int .i64 g] (tag 3))).new (.cells [.int .i64 until_] (tag 3))):=⟨_,rfl⟩
  have wn:w.n=U.n+4:=by rw [hw];rfl
  have wm:w.m=far:=by rw [hw];exact um
  have wg:∀ c,c<U.n→w.h.get c=U.h.get c:=fun c hc=>by rw [hw,get_new_ne _ _ _ (by simp only [new_n];omega),get_new_ne _ _ _ (by simp only [new_n];omega),get_new_ne _ _ _ (by simp only [new_n];omega),get_new_ne _ _ _ (by omega)]
  have w0:w.h.get U.n=some (.cells (x.cells v) (tag 77)):=by rw [hw,get_new_ne _ _ _ (by simp only [new_n];omega),get_new_ne _ _ _ (by simp only [new_n];omega),get_new_ne _ _ _ (by simp only [new_n];omega)];exact get_new_eq _ _ _ rfl (by omega)
  have w1:w.h.get (U.n+1)=some (.cells [.slice bv 0 k k true] (tag 22)):=by rw [hw,get_new_ne _ _ _ (by simp only [new_n];omega),get_new_ne _ _ _ (by simp only [new_n];omega)];exact get_new_eq _ _ _ rfl (by simp only [new_n];omega)
  have w2:w.h.get (U.n+2)=some (.cells [.int .i64 g] (tag 3)):=by rw [hw,get_new_ne _ _ _ (by simp only [new_n];omega)];exact get_new_eq _ _ _ rfl (by simp only [new_n];omega)
  have w3:w.h.get (U.n+3)=some (.cells [.int .i64 until_] (tag 3)):=by rw [hw];exact get_new_eq _ _ _ rfl (by simp only [new_n];omega)
  rw [enter30,← hkk]
  simp (disch:=first|omega|(with_unfolding_all exact rfl)|(simp only[new_n,put_n,new_m];omega)|(refine put_m_le ?_;simp only[new_m];omega)) only [res30,K30,K30r0,Abs.W,reduceIte,Nat.reduceEqDiff,Nat.reduceAdd,decide_true,decide_false,kLoop_def,Nat.reduceSub,List.cons_append,List.nil_append,List.append_nil,List.length_cons,List.length_nil,boxA_int,nn1,nn2,nn3]
  rw [← hw]
  have ll:∀ s,lenSlA s (.slice bv 0 k k true)=.val (.int .i64 (k:Int)) s:=fun _=>rfl
  have okS:∀ t,okA (.val (.slice bv 0 k k true) t)=.val (.slice bv 0 k k true) t:=fun _=>rfl
  have mul5:∀ st,aMul st .i64 (k:Int) 5=.val (.int .i64 ((k:Int) * 5)) st:=fun st=>by
   have h12:k=1∨k=2:=by rw [hkk];rw [List.length_cons] at hv2 ⊢;omega
   rcases h12 with rfl | rfl
   ·with_unfolding_all rfl
   ·with_unfolding_all rfl
  have ad1:∀ st,aAdd st .i64 ((k:Int) * 5) 1=.val (.int .i64 ((k:Int) * 5+1)) st:=fun st=>aAdd_i64 st _ _ (by omega)
  obtain ⟨y,hy⟩:∃ y:St,y=((w.new (.cells [.nilslice] (tag 22))).new (.cells [.int .i64 0] (tag 3))).put (U.n+5) (.cells [.int .i64 ((k:Int) * 5+1)] (tag 3)):=⟨_,rfl⟩
  have wn1:∀ o,(w.new o).n=U.n+5:=fun _=>by show w.n+1=_;omega
  have w1':∀ o,(w.new o).h.get (U.n+1)=some (.cells [.slice bv 0 k k true] (tag 22)):=fun o=>by rw [get_new_ne _ _ _ (by omega)];exact w1
  simp (disch:=first|omega|(with_unfolding_all exact rfl)|(simp only[new_n,put_n,new_m];omega)|(refine put_m_le ?_;simp only[new_m];omega)) only [K30r1,K30r2,Abs.W,reduceIte,Nat.reduceEqDiff,Nat.reduceAdd,decide_true,decide_false,kLoop_def,Nat.reduceSub,List.cons_append,List.nil_append,List.append_nil,List.length_cons,List.length_nil,Env.find_set,find_cons,w1,w1',ll,okS,mul5,ad1,wn,wn1,Nat.zero_add]
  rw [← hy]
  have yn:y.n=U.n+6:=by rw [hy];show w.n+1+1=_;omega
  have ym:y.m=U.n+5:=by rw [hy];simp only [St.put,minN_eq,new_m];omega
  have yg:∀ c,c<w.n→y.h.get c=w.h.get c:=fun c hc=>by rw [hy,get_put_ne' _ _ _ _ (by omega),get_new_ne _ _ _ (by simp only [new_n];omega),get_new_ne _ _ _ (by omega)]
  have y4:y.h.get (U.n+4)=some (.cells [.nilslice] (tag 22)):=by rw [hy,get_put_ne' _ _ _ _ (by omega),get_new_ne _ _ _ (by simp only [new_n];omega),← wn];exact get_new_eq _ _ _ rfl (by omega)
  have y5:y.h.get (U.n+5)=some (.cells [.int .i64 ((k:Int) * 5+1)] (tag 3)):=by rw [hy];exact get_put_eq _ _ _ _ rfl (by omega)
  obtain ⟨z,hz⟩:∃ z:St,z=(y.new (.cells [.nilfunc] (tag 108))).put (U.n+6) (.cells [.func 53 [] [.ptr (U.n+5) 0,.ptr (U.n+1) 0,.ptr (U.n+4) 0,.ptr (U.n+3) 0,.ptr (U.n+2) 0,.ptr (U.n+6) 0]] (tag 108)):=⟨_,rfl⟩
  have zn:z.n=U.n+7:=by rw [hz];show y.n+1=_;omega
  have zm:z.m=U.n+5:=by rw [hz];simp only [St.put,minN_eq,new_m];omega
  have zg:∀ c,c<y.n→z.h.get c=y.h.get c:=fun c hc=>by rw [hz,get_put_ne' _ _ _ _ (by omega),get_new_ne _ _ _ (by omega)]
  have z6:z.h.get (U.n+6)=some (.cells [.func 53 [] [.ptr (U.n+5) 0,.ptr (U.n+1) 0,.ptr (U.n+4) 0,.ptr (U.n+3) 0,.ptr (U.n+2) 0,.ptr (U.n+6) 0]] (tag 108)):=by rw [hz];exact get_put_eq _ _ _ _ rfl (by omega)
  have coF:∀ f a,cellsOf 1 (.func f [] a)=some [.func f [] a]:=fun _ _=>rfl
  simp (disch:=first|omega|(with_unfolding_all exact rfl)|(simp only[new_n,put_n,new_m];omega)|(refine put_m_le ?_;simp only[new_m];omega)) only [K30r3,K30r4,Abs.W,reduceIte,Nat.reduceEqDiff,Nat.reduceAdd,decide_true,decide_false,kLoop_def,Nat.reduceSub,List.cons_append,List.nil_append,List.append_nil,List.length_cons,List.length_nil,Env.find_set,find_cons,kFunc_def,coF,yn,Nat.zero_add]
  rw [← hz]
  have z1:=(zg (U.n+1) (by omega)).trans ((yg _ (by omega)).trans w1)
  have z2:=(zg (U.n+2) (by omega)).trans ((yg _ (by omega)).trans w2)
  have z3:=(zg (U.n+3) (by omega)).trans ((yg _ (by omega)).trans w3)
  have z0:=(zg (U.n+0) (by omega)).trans ((yg _ (by omega)).trans w0)
  have z4:=(zg (U.n+4) (by omega)).trans y4
  have z5:=(zg (U.n+5) (by omega)).trans y5
  have zu:∀ c,c<U.n→z.h.get c=U.h.get c:=fun c hc=>(zg c (by omega)).trans ((yg c (by omega)).trans (wg c hc))
  have zv:=(zu bv hbv).trans hgv
  have hix:∀ st,ixsA 1 st (.slice bv 0 k k true) (.int .i64 0)=.val (.ptr bv 0) st:=fun st=>ixs_slice_0 st bv 0 k (by rw [hkk,List.length_cons];omega)
  obtain ⟨m,hm0⟩:∃ m:Nat,min a until_=x.hour+m:=⟨(min a until_).toNat,by omega⟩
  have hzR:Rests z.h U.n U.n v fs:=hR.grow fun c h1 h2=>zu c h2
  obtain ⟨t,e2,o1,o2,o3,o4,o5,o6⟩:=lasts_ex (N:=M) (s:=z) (p:=U.n) (n:=0) (g:=g) (next:=min a until_) m rfl (by omega) z0 hzR hx hm hg (by omega) hk (Nat.le_refl _) (by omega) (by omega) hm0 (by omega) (by omega)
  rw [show ((0:Nat):Int)=0 from rfl] at e2
  have hfew:fewC g until_ (a::vs1) x fs=match lstX g m 0 x fs with | none=>none | some y=>(tryC g until_ (a::vs1) [] 0 y.1 y.2 (k * 5+1,none)).2:=by
   unfold fewC
   rw [← hkk,show (nextOf until_ (a::vs1) - x.hour).toNat=m by show (min a until_ - x.hour).toNat=m;omega]
  rw [hfew]
  simp (disch:=first|omega|(with_unfolding_all exact rfl)|(simp only[new_n,put_n,new_m];omega)|(refine put_m_le ?_;simp only[new_m];omega)) only [K30r5,Abs.W,reduceIte,Nat.reduceEqDiff,Nat.reduceAdd,decide_true,decide_false,kLoop_def,Nat.reduceSub,List.cons_append,List.nil_append,List.append_nil,List.length_cons,List.length_nil,Env.find_set,find_cons,z1,z2,z3,zv,hnth,hix,okS,kFold_def,foldA_nil,foldA_cons,minA_i64,e2,Nat.zero_add]
  have tg:∀ c,c<U.n+7→c≠U.n→t.h.get c=z.h.get c:=fun c h1 h2=>o1 c (by omega) h2
  cases hl:lstX g m 0 x fs with
  | none =>
   simp (disch:=first|omega|(with_unfolding_all exact rfl)|(simp only[new_n,put_n,new_m];omega)|(refine put_m_le ?_;simp only[new_m];omega)) only [Option.isSome_none,K30r7,Abs.W,reduceIte,Nat.reduceEqDiff,Nat.reduceAdd,decide_true,decide_false,kLoop_def,Nat.reduceSub,List.cons_append,List.nil_append,List.append_nil,List.length_cons,List.length_nil,Env.find_set,find_cons,(tg (U.n+4) (by omega) (by omega)).trans z4,Nat.zero_add]
   refine ⟨_,_,rfl,⟨fun c hc=>?_,by omega,by omega,?_,by omega⟩,rfl,fun _=>rfl⟩
   ·rw [tg c (by omega) (by omega),zu c hc]
   ·exact o4 U.n (Nat.le_refl _) (by omega)
  | some y =>
   obtain ⟨y1,y2⟩:=y
   obtain ⟨v',gp2,hR2⟩:=o6 y1 y2 hl
   obtain ⟨q1,q2,⟨q3,q4,q5⟩,q6,q7⟩:=lstX_spec hg m 0 x fs (y1,y2) hx hm hR.grams hl
   simp only at q1 q2 q3 q4 q5 q6 q7
   have hsc2:=hR2.sc
   have hc1:y1.cells v'=[.int .i64 y1.room,.int .i64 y1.a1,.int .i64 y1.a2,.int .i64 y1.m0,.int .i64 y1.m1,.int .i64 y1.a5,.int .i64 y1.a6,.int .i64 y1.a7,.int .i64 y1.a8,.int .i64 y1.hour,.int .i64 y1.i0,.int .i64 y1.i1,v']:=rfl
   have t1:=(tg (U.n+1) (by omega) (by omega)).trans z1
   have t2:=(tg (U.n+2) (by omega) (by omega)).trans z2
   have t3:=(tg (U.n+3) (by omega) (by omega)).trans z3
   have t4:=(tg (U.n+4) (by omega) (by omega)).trans z4
   have t5:=(tg (U.n+5) (by omega) (by omega)).trans z5
   have t6:=(tg (U.n+6) (by omega) (by omega)).trans z6
   have tv:=(tg bv (by omega) (by omega)).trans zv
   rw [hkk] at t1
   have kb:kay (a::vs1).length≤1270:=by
    have hl2:=hv2
    rw [List.length_cons] at hl2 ⊢
    have h01:vs1.length=0∨vs1.length=1:=by omega
    rcases h01 with h | h<;>rw [h]<;>decide
   have hord:nextOf until_ (a::vs1)≤nextOf until_ vs1:=by
    cases vs1 with
    | nil=>show min a until_≤min until_ until_;omega
    | cons b l =>
     have:=(List.pairwise_cons.mp hsort).1 b (by simp)
     show min a until_≤min b until_
     omega
   have hn0:nextOf until_ (a::vs1)=min a until_:=rfl
   obtain ⟨p,e5,po⟩:=try_ok hg hu.2 (by simp) hv2 (a::vs1) M (by omega) t y1 v' .nilslice y2 [] 0 (k * 5+1,none) U.n bv U.n rfl (Nat.zero_le _) ⟨⟨_,t1⟩,⟨_,t2⟩,⟨_,t3⟩,⟨_,t6⟩,hbv,⟨_,tv⟩⟩ ⟨t5,.nilslice,t4,rfl⟩ rfl hR2 q2 (by rw [q3,q4];exact hm) (by omega) (Nat.le_refl _) (by omega) (by omega) (by omega) (fun _=>by show y1.hour≤nextOf until_ vs1;omega) (Nat.le_refl _)
   rw [hc1] at e5 gp2
   rw [show ((0:Nat):Int)=0 from rfl] at e5
   obtain ⟨r1,r2,r3,r4,r5,r6,r7,r8⟩:=po
   obtain ⟨vc,c1,c2⟩:=r3.chosen
   obtain ⟨b',hb'⟩:∃ b',b'=tryC g until_ (a::vs1) [] 0 y1 y2 (k * 5+1,none):=⟨_,rfl⟩
   rw [← hb'] at c2
   have hvc:scalars [vc]=true∧∀ t,okA (.val vc t)=.val vc t:=by
    cases hb:b'.2 with
    | none=>rw [hb] at c2;have c2:vc=.nilslice:=c2;subst c2;exact ⟨rfl,fun _=>rfl⟩
    | some l=>rw [hb] at c2;obtain ⟨bc,h1,_⟩:=c2;subst h1;exact ⟨rfl,fun _=>rfl⟩
   simp (disch:=first|omega|(with_unfolding_all exact rfl)|(simp only[new_n,put_n,new_m];omega)|(refine put_m_le ?_;simp only[new_m];omega)) only [Option.isSome_some,K30r6,K30r7,Abs.W,reduceIte,Nat.reduceEqDiff,Nat.reduceAdd,decide_true,decide_false,kLoop_def,Nat.reduceSub,List.cons_append,List.nil_append,List.append_nil,List.length_cons,List.length_nil,Env.find_set,find_cons,t6,gp2,hsc2,e5,okA_func,c1,hvc.2,Nat.zero_add]
   refine ⟨_,_,rfl,⟨fun c hc=>?_,by omega,by omega,?_,by omega⟩,?_,fun hp=>?_⟩
   ·rw [r1 c (by omega) (by omega) (by omega) (by simp [blockOf]),tg c (by omega) (by omega),zu c hc]
   ·exact r6 U.n (Nat.le_refl _) (o4 U.n (Nat.le_refl _) (by omega))
   ·show Told p.h U.n p.n vc (tryC g until_ (a::vs1) [] 0 y1 y2 (k * 5+1,none)).2
    rw [← hb']
    cases hb:b'.2 with
    | none=>rw [hb] at c2;exact c2
    | some l=>rw [hb] at c2;obtain ⟨bc,h1,h2,h3,_,h5⟩:=c2;exact ⟨bc,h1,by omega,h3,h5⟩
   ·have hp':plain vc=true:=hp
    show Told s.h U.n U.n vc (tryC g until_ (a::vs1) [] 0 y1 y2 (k * 5+1,none)).2
    rw [← hb']
    cases hb:b'.2 with
    | none=>rw [hb] at c2;exact c2
    | some l=>rw [hb] at c2;obtain ⟨bc,h1,_⟩:=c2;rw [h1] at hp';cases hp')
 exact ⟨rv,t,hr.symm.trans e,st,q⟩
end Go.Proofs.Ytkoefjgapmonaaa.walk
set_option maxRecDepth 10000
namespace Go.Proofs.Ytkoefjgapmonaaa.walk
open Go.Abs Go.Proofs.Ytkoefjgapmonaaa.code
structure TakesQ (N l p q sz n0 k:Nat) (top:Int) (x0:BoxNow) (J:List (Int × Int)→Heap→Nat→Prop):Prop where
 turn:∀ is h h' n,(∀ c,c≠p→h'.get c=h.get c)→J is h n→J is h' n
 take:∀ is (s:St) (x:BoxNow) (v:AV),x.hour<top→(is.length:Int)=x.hour→x.Like x0→J is s.h s.n→s.h.get p=some (.cells (x.cells v) sz)→s.n+10000≤far →
  ∃ s',call Try.prog X N (.yield l) [.int .i64 x.hour,.agg [.int .i64 x.i0,.int .i64 x.i1]] s=.val (.bool true) s'∧J (is++[(x.i0,x.i1)]) s'.h s'.n∧(∀ c,c<n0→c≠q→s'.h.get c=s.h.get c)∧s.n≤s'.n∧s'.n≤s.n+k∧(p≤s.m→p≤s'.m)∧s'.m≤s.m∧s'.m≤l
theorem hoursQ_round (N:Nat) (hN:2≤N) (cx:Ctx) {l p q z sz n0 k:Nat} {top:Int} {x0:BoxNow} {J:List (Int × Int)→Heap→Nat→Prop} (hT:TakesQ N l p q sz n0 k top x0 J) (hpq:p≠q) (hzq:z≤q) (hzn:z≤n0) (a b sa sb:Nat) (L:Env) (s:St) (x:BoxNow) (v:AV) (fs is:List (Int × Int))
  (hlt:x.hour<top) (hu:top≤1000) (hk:fs.length≤1000) (h0:(is.length:Int)=x.hour) (hx:x.Fits) (hm:0≤x.m0∧x.m0≤1000000∧0≤x.m1∧x.m1≤1000000) (hl:x.Like x0) (hp:p<n0) (ha:a<n0∧a≠p) (hb:b<n0∧b≠p) (haq:a≠q) (hbq:b≠q) (hn:n0≤s.n) (hs:s.n+k+20000≤far)
  (ga:s.h.get a=some (.cells [.ptr p 0] sa)) (gb:s.h.get b=some (.cells [.int .i64 top] sb)) (gp:s.h.get p=some (.cells (x.cells v) sz)) (hr:Rests s.h z p v fs) (hJ:J is s.h s.n) (h0':L.find 0=.yield l) (h1:L.find 1=.ptr a 0) (h2:L.find 2=.ptr b 0) :
  ∃ L1 s1 v1,K57l0 (call Try.prog X N) cx L [] s=.done .norm L1 [] s1∧L1.find 0=.yield l∧L1.find 1=.ptr a 0∧L1.find 2=.ptr b 0∧s1.h.get p=some (.cells ((x.on fs).cells v1) sz)∧Rests s1.h z p v1 (left x.hour fs) ∧
   J (is++[((x.fill fs).i0,(x.fill fs).i1)]) s1.h s1.n∧(∀ c,c<n0→c≠p→c≠q→s1.h.get c=s.h.get c)∧s.n≤s1.n∧s1.n≤s.n+k∧(p≤s.m→p≤s1.m)∧s1.m≤s.m∧s1.m≤l:=by
 have hf:far=1000000000:=rfl
 have e0:decide (x.hour<top)=true:=by simpa using hlt
 obtain ⟨s1,v1,e1,g1,r1,t1⟩:=fill_ok N hN x fs v p sz s hk (by omega) (by omega) gp hr hx
 obtain ⟨⟨q1,q2,q3,q4,q5,q6,q7⟩,q8⟩:=x.fill_like fs
 have hx1:=BoxNow.fill_fits hx fs hr.grams
 obtain ⟨⟨l1⟩,_⟩:x.Like x0∧True:=⟨hl,trivial⟩
 have hl1:(x.fill fs).Like x0:=⟨by rw [q1,q2,q3,q4,q5,q6,q7];exact l1⟩
 obtain ⟨t1a,t1n,t1m⟩:=t1
 obtain ⟨s2,e2,J2,o2,n2,k2,m2,mm2,ml2⟩:=hT.take is s1 (x.fill fs) v1 (by omega) (by omega) hl1 (hT.turn is s.h s1.h s1.n t1a (by rw [t1n];exact hJ)) g1 (by omega)
 rw [q8] at e2
 generalize hx1e:x.fill fs=x1 at *
 have ga1:s1.h.get a=some (.cells [.ptr p 0] sa):=by rw [t1a a ha.2];exact ga
 have gb1:s1.h.get b=some (.cells [.int .i64 top] sb):=by rw [t1a b hb.2];exact gb
 have ga2:s2.h.get a=some (.cells [.ptr p 0] sa):=by rw [o2 a ha.1 haq];exact ga1
 have g2:s2.h.get p=some (.cells (x1.cells v1) sz):=by rw [o2 p hp hpq];exact g1
 have sc1:=r1.sc
 have hm1:0≤x1.m0∧x1.m0≤1000000∧0≤x1.m1∧x1.m1≤1000000:=by rw [q2,q3];exact hm
 have e3:=melt_ok N (by omega) x1.room x1.a1 x1.a2 x1.m0 x1.m1 x1.a5 x1.a6 x1.a7 x1.a8 x1.hour x1.i0 x1.i1 v1 sc1 p sz s2 (by omega) g2 hx1.i0 hx1.i1 ⟨hm1.1,hm1.2.1⟩ ⟨hm1.2.2.1,hm1.2.2.2⟩ (by omega)
 have a1:∀ s,aAdd s .i64 x.hour 1=.val (.int .i64 (x.hour+1)) s:=fun s=>aAdd_i64 s _ _ (by omega)
 have gp':=gp
 unfold BoxNow.cells at gp' g1
 rw [q8] at g1 e3
 have ga3:∀ o1 o2,((s2.put p o1).put p o2).h.get a=some (.cells [.ptr p 0] sa):=fun o1 o2=>by rw [get_put_ne' _ _ _ _ ha.2,get_put_ne' _ _ _ _ ha.2];exact ga2
 simp (disch:=first|omega|(with_unfolding_all exact rfl)|(simp only[new_n,put_n,new_m];omega)|(refine put_m_le ?_;simp only[new_m];omega)) only [res57,K57r0,K57r1,K57r2,K57r3,K57r4,K57l0,K57,Abs.W,reduceIte,Nat.reduceEqDiff,Nat.reduceAdd,decide_true,decide_false,kLoop_def,Nat.reduceSub,List.cons_append,List.nil_append,List.append_nil,List.length_cons,List.length_nil,Env.find_set,h0',h1,h2,ga,gb,gp',e0,e1,ga1,gb1,g1,e2,ga2,e3,ga3,a1,Nat.zero_add,endO_nil,regD_ok]
 refine ⟨_,_,v1,rfl,by simp only [Env.find_set,h0',reduceIte,Nat.reduceEqDiff],by simp only [Env.find_set,h1,reduceIte,Nat.reduceEqDiff],by simp only [Env.find_set,h2,reduceIte,Nat.reduceEqDiff],?_,?_,?_,fun c hc hcp hcq=>?_,?_,?_,fun h=>?_,?_,?_⟩
 ·rw [get_put_eq _ _ _ _ rfl (by omega)]
  unfold BoxNow.on
  rw [hx1e]
  unfold BoxNow.tick BoxNow.melt BoxNow.cells
  simp only [q8]
 ·refine r1.grow fun c hc hz=>?_
  rw [get_put_ne' _ _ _ _ hc,get_put_ne' _ _ _ _ hc,get_put_ne' _ _ _ _ hc]
  exact o2 c (by omega) (by omega)
 ·exact hT.turn _ s2.h _ _ (fun c hc=>by rw [get_put_ne' _ _ _ _ hc,get_put_ne' _ _ _ _ hc,get_put_ne' _ _ _ _ hc]) J2
 ·rw [get_put_ne' _ _ _ _ hcp,get_put_ne' _ _ _ _ hcp,get_put_ne' _ _ _ _ hcp,o2 c hc hcq]
  exact t1a c hcp
 ·simp only [put_n];omega
 ·simp only [put_n];omega
 ·simp only [St.put,minN_eq]
  have:p≤s1.m:=by rcases t1m with ⟨_,h'⟩ | h'<;>omega
  have:=m2 this
  omega
 ·simp only [St.put,minN_eq]
  have:s1.m≤s.m:=by rcases t1m with ⟨_,h'⟩ | h'<;>omega
  omega
 ·simp only [St.put,minN_eq];omega
theorem hours1Q_ex {N l p q z sz n0 k a b sa sb:Nat} {top:Int} {x:BoxNow} {v:AV} {fs:List (Int × Int)} {s:St} {r:ARes} {J:List (Int × Int)→Heap→Nat→Prop} (m:Nat)
  (hr:call Try.prog X N (.fn 57) [.yield l,.ptr a 0,.ptr b 0] s=r) (hN:3≤N) (hT:TakesQ (N - 1) l p q sz n0 k top x J) (hpq:p≠q) (hzq:z≤q) (hzn:z≤n0) (haq:a≠q) (hbq:b≠q) (h0:x.hour=0) (hm0:top=m) (h1m:1≤m) (hu:top≤240) (hk:fs.length≤1000) (hx:x.Fits) (hm:0≤x.m0∧x.m0≤1000000∧0≤x.m1∧x.m1≤1000000)
  (hp:p<n0) (ha:a<n0∧a≠p) (hb:b<n0∧b≠p) (hn:n0≤s.n) (hln:l<s.n) (hs:s.n+k * 240+k+30000≤far)
  (ga:s.h.get a=some (.cells [.ptr p 0] sa)) (gb:s.h.get b=some (.cells [.int .i64 top] sb)) (gp:s.h.get p=some (.cells (x.cells v) sz)) (hR:Rests s.h z p v fs) (hJ:J [] s.h s.n) :
  ∃ s',r=.val (.tup []) s'∧J (ices m x fs) s'.h s'.n∧(∀ c,c<n0→c≠p→c≠q→s'.h.get c=s.h.get c)∧s.n≤s'.n∧s'.n≤s.n+k * m∧(p≤s.m→p≤s'.m)∧s'.m≤s.m:=by
 obtain ⟨n,rfl⟩:∃ n,N=n+1:=⟨N - 1,by omega⟩
 have hf:far=1000000000:=rfl
 rw [Nat.add_sub_cancel] at hT
 obtain ⟨w,t,mm,e,⟨rfl,q1,q2,q3,q4,q5,q6⟩,hm'⟩:=call_any (n:=n) (args:=[.yield l,.ptr a 0,.ptr b 0]) (s:=s) (Q:=fun v h n m'=>v=.tup []∧J (ices m x fs) h n∧(∀ c,c<n0→c≠p→c≠q→h.get c=s.h.get c)∧s.n≤n∧n≤s.n+k * m∧p≤m'∧m'≤l) Try.func57 rfl (fun u uh un um=>by
  rw [← uh] at ga gb gp hR
  have hJ':J [] u.h u.n:=by rw [uh,un];exact hJ
  rw [enter57]
  simp (disch:=first|omega|(with_unfolding_all exact rfl)|(simp only[new_n,put_n,new_m];omega)|(refine put_m_le ?_;simp only[new_m];omega)) only [res57,K57r0,K57r1,K57r2,K57r3,K57r4,K57,Abs.W,reduceIte,Nat.reduceEqDiff,Nat.reduceAdd,decide_true,decide_false,kLoop_def,Nat.reduceSub,List.cons_append,List.nil_append,List.append_nil,List.length_cons,List.length_nil]
  generalize hl:loopN _ rounds _ _ _ _ _=r1
  have hkm:∀ i,i≤m→k * i≤k * 240:=fun i hi=>Nat.mul_le_mul_left k (by omega)
  obtain ⟨e,L1,s1,rfl,rfl,j1,j2,j3,j4,j5,j6⟩:=loop_of hl
   (fun i L t=>∃ x' fs' v' done,L.find 0=.yield l∧L.find 1=.ptr a 0∧L.find 2=.ptr b 0∧t.h.get p=some (.cells (x'.cells v') sz)∧Rests t.h z p v' fs'∧J done t.h t.n∧done++ices (m - i) x' fs'=ices m x fs∧x'.hour=i∧x'.Fits∧x'.Like x∧fs'.length≤1000∧done.length=i ∧
    (∀ c,c<n0→c≠p→c≠q→t.h.get c=u.h.get c)∧u.n≤t.n∧t.n≤u.n+k * i∧p≤t.m∧(0<i→t.m≤l))
   (fun e L t=>e=.exit 0∧J (ices m x fs) t.h t.n∧(∀ c,c<n0→c≠p→c≠q→t.h.get c=u.h.get c)∧u.n≤t.n∧t.n≤u.n+k * m∧p≤t.m∧t.m≤l) m (by unfold rounds;omega)
   ⟨x,fs,v,[],by simp only [find_cons,reduceIte,Nat.reduceEqDiff],by simp only [find_cons,reduceIte,Nat.reduceEqDiff],by simp only [find_cons,reduceIte,Nat.reduceEqDiff],gp,hR,hJ',rfl,by rw [h0];rfl,hx,⟨rfl,rfl,rfl,rfl,rfl,rfl,rfl⟩,hk,rfl,fun _ _ _ _=>rfl,Nat.le_refl _,Nat.le_add_right _ _,by omega,fun h=>absurd h (Nat.lt_irrefl _)⟩
   (fun i L t hi ⟨x',fs',v',done,f0,f1,f2,g,R,JJ,eq,hh,xF,xL,fl,dl,same,nn,nk,pm,lm⟩=>by
    have ga':t.h.get a=some (.cells [.ptr p 0] sa):=by rw [same a ha.1 ha.2 haq];exact ga
    have gb':t.h.get b=some (.cells [.int .i64 top] sb):=by rw [same b hb.1 hb.2 hbq];exact gb
    have hki:=hkm i hi
    obtain ⟨⟨lr,l0,l1,l5,l6,l7,l8⟩⟩:=xL
    by_cases hlt:i<m
    ·obtain ⟨L1,s1,v1,p0,p1,p2,p3,p4,p5,p6,p7,p8,p9,pa,pb,pc⟩:=hoursQ_round n (by omega) ⟨57,none,Try.f57.ntmps,X 57⟩ hT hpq hzq hzn a b sa sb L t x' v' fs' done (by omega) (by omega) fl (by omega) xF (by rw [l0,l1];exact hm) ⟨lr,l0,l1,l5,l6,l7,l8⟩ hp ha hb haq hbq (by omega) (by omega) ga' gb' g R JJ f0 f1 f2
     obtain ⟨o1,o2,⟨o3⟩⟩:=BoxNow.on_spec xF R.grams (by rw [l0,l1];exact hm)
     have hsub:ices (m - i) x' fs'=((x'.fill fs').i0,(x'.fill fs').i1)::ices (m - (i+1)) (x'.on fs') (left x'.hour fs'):=by
      rw [show m - i=(m - (i+1))+1 by omega];rfl
     refine .inl ⟨hlt,L1,s1,p0,x'.on fs',left x'.hour fs',v1,done++[((x'.fill fs').i0,(x'.fill fs').i1)],p1,p2,p3,p4,p5,p6,?_,by rw [o2,hh];rfl,o1,?_,Nat.le_trans (left_len _ _) fl,by simp [dl],fun c hc hcp hcq=>(p7 c hc hcp hcq).trans (same c hc hcp hcq),by omega,by rw [Nat.mul_succ];omega,pa pm,fun _=>pc⟩
     ·rw [← eq,hsub,List.append_assoc];rfl
     ·obtain ⟨o31,o32,o33,o34,o35,o36,o37⟩:=o3
      exact ⟨by rw [o31,lr],by rw [o32,l0],by rw [o33,l1],by rw [o34,l5],by rw [o35,l6],by rw [o36,l7],by rw [o37,l8]⟩
    ·have him:i=m:=by omega
     subst him
     have e0:decide (x'.hour<top)=false:=decide_eq_false (by omega)
     rw [Nat.sub_self] at eq
     have eq':done=ices i x fs:=by rw [← eq];exact (List.append_nil _).symm
     have gp':=g
     unfold BoxNow.cells at gp'
     refine .inr ⟨.exit 0,L.set 9 (.bool false),t,by simp,?_,rfl,by rw [← eq'];exact JJ,same,nn,nk,pm,lm (by omega)⟩
     simp (disch:=first|omega|(with_unfolding_all exact rfl)|(simp only[new_n,put_n,new_m];omega)|(refine put_m_le ?_;simp only[new_m];omega)) only [res57,K57r0,K57r1,K57r2,K57r3,K57r4,K57l0,K57,Abs.W,reduceIte,Nat.reduceEqDiff,Nat.reduceAdd,decide_true,decide_false,kLoop_def,Nat.reduceSub,List.cons_append,List.nil_append,List.append_nil,List.length_cons,List.length_nil,Env.find_set,f0,f1,f2,ga',gb',gp',e0,Nat.zero_add,endO_nil,regD_ok])
  simp (disch:=first|omega|(with_unfolding_all exact rfl)|(simp only[new_n,put_n,new_m];omega)|(refine put_m_le ?_;simp only[new_m];omega)) only [res57,K57r0,K57r1,K57r2,K57r3,K57r4,K57,Abs.W,reduceIte,Nat.reduceEqDiff,Nat.reduceAdd,decide_true,decide_false,kLoop_def,Nat.reduceSub,List.cons_append,List.nil_append,List.append_nil,List.length_cons,List.length_nil,leave_nil]
  refine ⟨_,_,rfl,⟨rfl,j1,fun c hc hcp hcq=>by rw [j2 c hc hcp hcq,uh],by omega,by omega,j5,j6⟩,fun _ hle=>by omega⟩)
 refine ⟨t,hr.symm.trans e,q1,q2,q3,q4,?_,?_⟩
 ·rcases hm' with ⟨_,hm'⟩ | ⟨_,hm'⟩<;>omega
 ·rcases hm' with ⟨_,hm'⟩ | ⟨_,hm'⟩<;>omega
end Go.Proofs.Ytkoefjgapmonaaa.walk
set_option maxRecDepth 10000
namespace Go.Proofs.Ytkoefjgapmonaaa.walk
open Go.Abs Go.Proofs.Ytkoefjgapmonaaa.code
def lastOf (is:List (Int × Int)):Int × Int:=is.getD (is.length - 1) (0,0)
theorem lastOf_snoc (is:List (Int × Int)) (x:Int × Int):lastOf (is++[x])=x:=by
 unfold lastOf
 rw [List.length_append,List.length_singleton,Nat.add_sub_cancel,List.getD_eq_getElem?_getD,List.getElem?_append_right (Nat.le_refl _),Nat.sub_self]
 rfl
structure Nows (q z:Nat) (R:ALoop) (is:List (Int × Int)) (h:Heap) (n:Nat):Prop where
 now:h.get q=some (.cells [.int .i64 (lastOf is).1,.int .i64 (lastOf is).2] (tag 75))
 loop:h.get (z+1)=some (.loop R)
 dfr:h.get z=some .dfr
 n:z+2≤n
theorem ice_takes (N:Nat) (p q z sz:Nat) (top:Int) (x0:BoxNow) (R:ALoop) (L0:Env) (hR:R=⟨.ready,none,18,L0,[32,33],(rangeAt Try.f18 0).1,(rangeAt Try.f18 0).2,z,Try.f18.ntmps,X 18⟩) (hp:p<q) (hq:q<z)
  (h10:L0.find 10=.ptr q 0):TakesQ (N+1) (z+1) p q sz z 10 top x0 (Nows q z R):=by
 have hf:far=1000000000:=rfl
 refine ⟨fun is h h' n hh ⟨g1,g2,g3,g4⟩=>⟨by rw [hh _ (by omega)];exact g1,by rw [hh _ (by omega)];exact g2,by rw [hh _ (by omega)];exact g3,g4⟩,?_⟩
 intro is s x v hlt hil hl ⟨g1,g4,g5,g6⟩ gp hs
 obtain ⟨s1,hs1⟩:∃ s1:St,s1=(s.new (.cells [.int .i64 0,.int .i64 0] (tag 75))).put s.n (.cells [.int .i64 x.i0,.int .i64 x.i1] (tag 75)):=⟨_,rfl⟩
 have s1n:s1.n=s.n+1:=by rw [hs1];rfl
 have s1g:∀ c,c≠s.n→s1.h.get c=s.h.get c:=fun c hc=>by rw [hs1,get_put_ne' _ _ _ _ hc,get_new_ne _ _ _ hc]
 have s1m:s1.m=min s.m s.n:=by rw [hs1];simp only [St.put,minN_eq,new_m]
 have s1w:s1.h.get s.n=some (.cells [.int .i64 x.i0,.int .i64 x.i1] (tag 75)):=by rw [hs1];exact get_put_eq _ _ _ _ rfl (by omega)
 have h1:K18a0 (call Try.prog X N) ⟨18,some (z+1),Try.f18.ntmps,X 18⟩ (setParams L0 [32,33] [.int .i64 x.hour,.agg [.int .i64 x.i0,.int .i64 x.i1]]) [] s=.done .norm ((((L0.set 32 (.int .i64 x.hour)).set 33 (.agg [.int .i64 x.i0,.int .i64 x.i1])).set 12 (.ptr s.n 0))) [] s1:=by
  rw [hs1]
  simp (disch:=first|omega|(with_unfolding_all exact rfl)|(simp only[new_n,put_n,new_m];omega)|(refine put_m_le ?_;simp only[new_m];omega)) only [K18a0,K18a0r0,Abs.W,reduceIte,Nat.reduceEqDiff,Nat.reduceAdd,decide_true,decide_false,kLoop_def,Nat.reduceSub,List.cons_append,List.nil_append,List.append_nil,List.length_cons,List.length_nil,setParams2,Env.find_set,Nat.reduceEqDiff]
 obtain ⟨s2,hs2⟩:∃ s2:St,s2=s1.put (z+1) (.loop { R with state:=.busy }):=⟨_,rfl⟩
 have s2n:s2.n=s.n+1:=by rw [hs2];exact s1n
 have s2g:∀ c,c≠s.n→c≠z+1→s2.h.get c=s.h.get c:=fun c hc hc3=>by rw [hs2,get_put_ne' _ _ _ _ hc3];exact s1g c hc
 have s2l:s2.h.get (z+1)=some (.loop { R with state:=.busy }):=by rw [hs2];exact get_put_eq _ _ _ _ rfl (by omega)
 have s2w:s2.h.get s.n=some (.cells [.int .i64 x.i0,.int .i64 x.i1] (tag 75)):=by rw [hs2,get_put_ne' _ _ _ _ (by omega)];exact s1w
 have s2m:s2.m=min (min s.m s.n) (z+1):=by rw [hs2];simp only [St.put,minN_eq,s1m]
 have g1':=(s2g q (by omega) (by omega)).trans g1
 have h4:K18b0 (call Try.prog X N) ⟨18,some (z+1),Try.f18.ntmps,X 18⟩ ((((L0.set 32 (.int .i64 x.hour)).set 33 (.agg [.int .i64 x.i0,.int .i64 x.i1])).set 12 (.ptr s.n 0))) [] s2=.done .norm ((((L0.set 32 (.int .i64 x.hour)).set 33 (.agg [.int .i64 x.i0,.int .i64 x.i1])).set 12 (.ptr s.n 0))) [] (s2.put q (.cells [.int .i64 x.i0,.int .i64 x.i1] (tag 75))):=by
  simp (disch:=first|omega|(with_unfolding_all exact rfl)|(simp only[new_n,put_n,new_m];omega)|(refine put_m_le ?_;simp only[new_m];omega)) only [K18b0,K18b0r0,Abs.W,reduceIte,Nat.reduceEqDiff,Nat.reduceAdd,decide_true,decide_false,kLoop_def,Nat.reduceSub,List.cons_append,List.nil_append,List.append_nil,List.length_cons,List.length_nil,Env.find_set,h10,g1',s2w,Nat.zero_add]
 have g6':(s2.put q (.cells [.int .i64 x.i0,.int .i64 x.i1] (tag 75))).h.get (z+1)=some (.loop { R with state:=.busy }):=by
  rw [get_put_ne' _ _ _ _ (by omega)];exact s2l
 have h4':=h4
 rw [hs2] at h4' g6'
 have hfin:=call_round (P:=Try.prog) (X:=X) (n:=N) (l:=z+1) (args:=[.int .i64 x.hour,.agg [.int .i64 x.i0,.int .i64 x.i1]]) (r:=R) (r1:=R) (r2:={ R with state:=.busy }) (s:=s) (s1:=s1) (e:=.norm) g4 (by rw [hR];rfl) (by rw [hR];exact code18a0) (by rw [hR];exact code18b0) (by rw [hR];exact h1) (by rw [s1g _ (by omega)];exact g4) (by rw [hR]) (by rw [hR];rw [hR] at h4';exact h4') g6'
 have hRR:({ ({ R with state:=.busy }:ALoop) with state:=if goesOn .norm then .ready else .done,pending:=jumpOf .norm }:ALoop)=R:=by rw [hR];rfl
 rw [hRR,← hs2] at hfin
 refine ⟨_,hfin,⟨?_,get_put_eq _ _ _ _ rfl (by omega),?_,?_⟩,fun c hc hcq=>?_,?_,?_,fun hpm=>?_,?_,?_⟩
 ·rw [get_put_ne' _ _ _ _ (by omega),lastOf_snoc];exact get_put_eq _ _ _ _ rfl (by omega)
 ·rw [get_put_ne' _ _ _ _ (by omega),get_put_ne' _ _ _ _ (by omega)];exact (s2g _ (by omega) (by omega)).trans g5
 ·simp only [put_n];omega
 ·rw [get_put_ne' _ _ _ _ (by omega),get_put_ne' _ _ _ _ hcq];exact s2g _ (by omega) (by omega)
 ·simp only [put_n];omega
 ·simp only [put_n];omega
 ·simp only [St.put,minN_eq,s2m];omega
 ·simp only [St.put,minN_eq,s2m];omega
 ·simp only [St.put,minN_eq,s2m];omega
theorem Ice_ok {N:Nat} {s:St} {v1 v2 v3:AV} {box hour:Int} (c:Cellar) (ok:c.Ok) (b k:Nat) (hb:b<c.boxes.length) (hk:k<240) (hbox:box=b) (hhour:hour=k) (hN:8≤N) (hC:CellarIn s.h s.n c v1 v2 v3) (hs:s.n+200000≤far) :
  call Try.prog X N (.fn 18) [.agg [.int .i64 c.hl,.int .i64 c.hh,v1,v2,v3],.int .i64 box,.int .i64 hour] s=.val (.tup [.agg [.int .i64 (c.iceLo b k),.int .i64 (c.iceHi b k)],.int .i64 0]) s:=by
 obtain ⟨n,rfl⟩:∃ n,N=n+1:=⟨N - 1,by omega⟩
 subst hbox hhour
 refine call_plain' Try.func18 (fun u uh un um=>?_) rfl
 have hff:far=1000000000:=rfl
 rw [← uh,← un] at hC
 have sh:shapeT Try.prog 26=some (some 2):=by kernel_rfl
 obtain ⟨w,hw⟩:∃ w:St,w=(u.new (.cells [.int .i64 c.hl,.int .i64 c.hh,v1,v2,v3] (tag 31))).new (.cells [.int .i64 0,.int .i64 0] (tag 26)):=⟨_,rfl⟩
 have wn:w.n=u.n+2:=by rw [hw];rfl
 have wm:w.m=far:=by rw [hw];exact um
 have wg:∀ c,c<u.n→w.h.get c=u.h.get c:=fun c hc=>by rw [hw,get_new_ne _ _ _ (by simp only [new_n];omega),get_new_ne _ _ _ (by omega)]
 have w0:w.h.get u.n=some (.cells [.int .i64 c.hl,.int .i64 c.hh,v1,v2,v3] (tag 31)):=by
  rw [hw,get_new_ne _ _ _ (by simp only [new_n];omega)];exact get_new_eq _ _ _ rfl (by omega)
 have w2:w.h.get (u.n+1)=some (.cells [.int .i64 0,.int .i64 0] (tag 26)):=by rw [hw];exact get_new_eq _ _ _ rfl (by simp only [new_n];omega)
 have nn1:∀ o,(u.new o).n=u.n+1:=fun _=>rfl
 have hCw:∀ m,CellarIn (⟨w.h,w.n,m⟩:St).h (⟨w.h,w.n,m⟩:St).n c v1 v2 v3:=fun m=>hC.grow wg (by show u.n≤w.n;omega)
 have e1:∀ m,call Try.prog X n (.fn 25) [.agg [.int .i64 c.hl,.int .i64 c.hh,v1,v2,v3]] ⟨w.h,w.n,m⟩=.val (.int .i64 0) ⟨w.h,w.n,m⟩:=fun m =>
  check_ok n (by omega) c ok v1 v2 v3 ⟨w.h,w.n,m⟩ (hCw m).at_ (by show w.n+3000≤far;omega)
 have len1:=hC.at_.b.len
 rw [List.length_map] at len1
 have e2:∀ s:St,s.n+100≤far→call Try.prog X n (.fn 26) [.agg [.int .i64 c.hl,.int .i64 c.hh,v1,v2,v3],.int .i64 (b:Int)] s=.val (.int .i64 0) s:=fun s hs=>box_ok n (by omega) c.hl c.hh b c.boxes.length v1 v2 v3 s hC.at_.b.ne len1 (by omega) (by omega) hs
 have e3:∀ s:St,s.n+100≤far→call Try.prog X n (.fn 35) [.int .i64 (k:Int)] s=.val (.int .i64 0) s:=fun s hs=>hour_ok n (by omega) k s (by omega) (by omega) hs
 have a1:∀ s,aAdd s .i64 (k:Int) 1=.val (.int .i64 ((k:Int)+1)) s:=fun s=>aAdd_i64 s _ _ (by omega)
 rw [enter18]
 simp (disch:=first|omega|(with_unfolding_all exact rfl)|(simp only[new_n,put_n,new_m];omega)|(refine put_m_le ?_;simp only[new_m];omega)) only [res18,K18,K18r0,Abs.W,reduceIte,Nat.reduceEqDiff,Nat.reduceAdd,decide_true,decide_false,kLoop_def,Nat.reduceSub,List.cons_append,List.nil_append,List.append_nil,List.length_cons,List.length_nil,nn1]
 rw [← hw]
 simp (disch:=first|omega|(with_unfolding_all exact rfl)|(simp only[new_n,put_n,new_m];omega)|(refine put_m_le ?_;simp only[new_m];omega)) only [K18r1,K18r2,K18r4,Abs.W,reduceIte,Nat.reduceEqDiff,Nat.reduceAdd,decide_true,decide_false,kLoop_def,Nat.reduceSub,List.cons_append,List.nil_append,List.append_nil,List.length_cons,List.length_nil,Env.find_set,w0,e1,e2,e3,or_new3,endO_nil,regD_ok,Nat.zero_add]
 obtain ⟨y,hy⟩:∃ y:St,y=w.new (.cells [.int .i64 0,.int .i64 0,.int .i64 0] 0):=⟨_,rfl⟩
 rw [← hy]
 have yn:y.n=w.n+1:=by rw [hy];rfl
 have ym:y.m=far:=by rw [hy];exact wm
 have yg:∀ c,c<w.n→y.h.get c=w.h.get c:=fun c hc=>by rw [hy,get_new_ne _ _ _ (by omega)]
 have yu:∀ c,c<u.n→y.h.get c=u.h.get c:=fun c hc=>(yg c (by omega)).trans (wg c hc)
 have hCy:=hC.grow yu (by omega:u.n≤y.n)
 generalize hc:call _ _ _ (.fn 29) _ _=r1
 obtain ⟨v',t1,rfl,st1,kept1⟩:=begin_ex c.boxes c.fills b hb hc (by omega) hCy.at_.b hCy.f ok.f (scal_ne hC.s3) (by omega)
 have t1n:=st1.n
 have t1l:=st1.le
 have t1m:t1.m=far:=st1.m.trans ym
 have t1g:=st1.same
 have ksc:=kept1.scalar1
 obtain ⟨B,hBe⟩:∃ B,B=c.boxes[b]:=⟨_,rfl⟩
 have hBok:B.Ok:=by rw [hBe];exact ok.bok _ (List.getElem_mem hb)
 have hBx:c.box b=B:=by unfold Cellar.box;rw [List.getD_eq_getElem?_getD,List.getElem?_eq_getElem hb,hBe];rfl
 rw [← hBe]
 have hcells:∀ v,B.start.cells v=[.int .i64 B.start.room,.int .i64 B.start.a1,.int .i64 B.start.a2,.int .i64 B.start.m0,.int .i64 B.start.m1,.int .i64 B.start.a5,.int .i64 B.start.a6,.int .i64 B.start.a7,.int .i64 B.start.a8,.int .i64 B.start.hour,.int .i64 B.start.i0,.int .i64 B.start.i1,v]:=fun _=>rfl
 obtain ⟨t2,ht2⟩:∃ t2:St,t2=((t1.new (.cells [.int .i64 0,.int .i64 0,.int .i64 0,.int .i64 0,.int .i64 0,.int .i64 0,.int .i64 0,.int .i64 0,.int .i64 0,.int .i64 0,.int .i64 0,.int .i64 0,.nilslice] (tag 77))).put t1.n (.cells (B.start.cells v') (tag 77))).new (.cells [.int .i64 0,.int .i64 0] (tag 75)):=⟨_,rfl⟩
 have t2n:t2.n=t1.n+2:=by rw [ht2];rfl
 have t2m:t2.m=min t1.m t1.n:=by rw [ht2];simp only [St.put,minN_eq,new_m]
 have t2g:∀ c,c<t1.n→t2.h.get c=t1.h.get c:=fun c hc=>by rw [ht2,get_new_ne _ _ _ (by simp only [put_n,new_n];omega),get_put_ne' _ _ _ _ (by omega),get_new_ne _ _ _ (by omega)]
 have t2p:t2.h.get t1.n=some (.cells (B.start.cells v') (tag 77)):=by rw [ht2,get_new_ne _ _ _ (by simp only [put_n,new_n];omega)];exact get_put_eq _ _ _ _ rfl (by omega)
 have t2q:t2.h.get (t1.n+1)=some (.cells [.int .i64 0,.int .i64 0] (tag 75)):=by rw [ht2];exact get_new_eq _ _ _ (by simp only [put_n,new_n]) (by simp only [put_n,new_n];omega)
 rw [hcells] at ht2
 have nn2:∀ o1 o2,((t1.new o1).put t1.n o2).n=t1.n+1:=fun _ _=>rfl
 simp (disch:=first|omega|(with_unfolding_all exact rfl)|(simp only[new_n,put_n,new_m];omega)|(refine put_m_le ?_;simp only[new_m];omega)) only [K18r5,K18r6,Abs.W,reduceIte,Nat.reduceEqDiff,Nat.reduceAdd,decide_true,decide_false,kLoop_def,Nat.reduceSub,List.cons_append,List.nil_append,List.append_nil,List.length_cons,List.length_nil,Env.find_set,hcells,ksc,a1,nn2,Nat.zero_add]
 rw [← ht2]
 generalize hc2:call _ _ _ (.fn 36) _ _=r2
 obtain ⟨t3,sa,sb,rfl,st3,t3n,ga,gb⟩:=hours_ex hc2 (by omega) (by omega)
 have t3m:t3.m=t2.m:=st3.m
 have t3g:∀ c,c<t2.n→t3.h.get c=t2.h.get c:=st3.same
 simp (disch:=first|omega|(with_unfolding_all exact rfl)|(simp only[new_n,put_n,new_m];omega)|(refine put_m_le ?_;simp only[new_m];omega)) only [Abs.W,reduceIte,Nat.reduceEqDiff,Nat.reduceAdd,decide_true,decide_false,kLoop_def,Nat.reduceSub,List.cons_append,List.nil_append,List.append_nil,List.length_cons,List.length_nil,Env.find_set]
 have t3p:=(t3g t1.n (by omega)).trans t2p
 have t3q:=(t3g (t1.n+1) (by omega)).trans t2q
 have hgr:∀ f ∈ ofBox b c.fills,0≤f.grams∧f.grams≤1000000:=fun f hff'=>by
  have:=ok.fok f (List.mem_filter.mp hff').1
  obtain ⟨_,_,_,_,z0,z1⟩:=this
  omega
 have kept3:Kept t3.h (y.n+3) t1.n (ofBox b c.fills) v':=kept1.mono (fun c h1 h2=>(t3g c (by omega)).trans (t2g c h2)) (Nat.le_refl _)
 obtain ⟨hx,hm0,hm1,hm2,hm3⟩:=Box.start_fits hBok
 generalize hL:Env.cons 0 _ _=L0
 have f10:L0.find 10=.ptr (t1.n+1) 0:=by rw [← hL];simp only [find_cons,Env.find_set,reduceIte,Nat.reduceEqDiff]
 have f31:L0.find 31=.func 57 [] [.ptr t2.n 0,.ptr (t2.n+1) 0]:=by rw [← hL];simp only [find_cons,Env.find_set,reduceIte,Nat.reduceEqDiff]
 have f6:L0.find 6=.ptr (u.n+1) 0:=by rw [← hL];simp only [find_cons,Env.find_set,reduceIte,Nat.reduceEqDiff]
 obtain ⟨R,hRdef⟩:∃ R:ALoop,R=⟨.ready,none,18,L0,[32,33],(rangeAt Try.f18 0).1,(rangeAt Try.f18 0).2,t3.n,Try.f18.ntmps,X 18⟩:=⟨_,rfl⟩
 obtain ⟨n2,rfl⟩:∃ n2,n=n2+2:=⟨n - 2,by omega⟩
 have hT:=ice_takes n2 t1.n (t1.n+1) t3.n (tag 77) ((k+1:Nat):Int) B.start R L0 hRdef (by omega) (by omega) f10
 obtain ⟨x2,hx2⟩:∃ x2:St,x2=(t3.new .dfr).new (.loop R):=⟨_,rfl⟩
 have x2n:x2.n=t3.n+2:=by rw [hx2];rfl
 have x2m:x2.m=t3.m:=by rw [hx2];rfl
 have x2g:∀ c,c<t3.n→x2.h.get c=t3.h.get c:=fun c hc=>by rw [hx2,get_new_ne _ _ _ (by simp only [new_n];omega),get_new_ne _ _ _ (by omega)]
 have x2d:x2.h.get t3.n=some .dfr:=by rw [hx2,get_new_ne _ _ _ (by simp only [new_n];omega)];exact get_new_eq _ _ _ rfl (by omega)
 have x2l:x2.h.get (t3.n+1)=some (.loop R):=by rw [hx2];exact get_new_eq _ _ _ rfl (by simp only [new_n];omega)
 have G0:Nows (t1.n+1) t3.n R [] x2.h x2.n:=⟨(x2g _ (by omega)).trans t3q,x2l,x2d,by omega⟩
 generalize hc4:call Try.prog X (n2+2) (.fn 57) [.yield (t3.n+1),.ptr t2.n 0,.ptr (t2.n+1) 0] x2=r94
 obtain ⟨s2,rfl,G,same,sn,sk,sm,smm⟩:=hours1Q_ex (z:=t1.n) (fs:=(ofBox b c.fills).map fun f=>(f.hour,f.grams)) (k+1) hc4 (by omega) hT (by omega) (by omega) (by omega) (by omega) (by omega) rfl rfl (by omega) (by omega) (by rw [List.length_map];unfold ofBox;exact Nat.le_trans (List.length_filter_le _ _) (by have:=ok.f;omega)) hx ⟨hm0,hm1,hm2,hm3⟩ (by omega) ⟨by omega,by omega⟩ ⟨by omega,by omega⟩ (by omega) (by omega) (by omega) ((x2g _ (by omega)).trans ga) ((x2g _ (by omega)).trans gb) ((x2g _ (by omega)).trans t3p) ((kept3.rests (.inr (Nat.le_refl _)) (Nat.le_refl _) hgr).grow fun c _ hcz=>x2g c (by omega)) G0
 obtain ⟨G1,G4,G5,G6⟩:=G
 have hcall:callV (call Try.prog X (n2+2)) [.yield (t3.n+1)] ((t3.new .dfr).new (.loop ⟨.ready,none,18,L0,[32,33],(rangeAt Try.f18 0).1,(rangeAt Try.f18 0).2,t3.n,Try.f18.ntmps,X 18⟩)) ((Arg.tmp 31).ev L0)=.val (.tup []) s2:=by
  rw [ev_tmp,f31,callV_func,← hRdef,← hx2]
  exact hc4
 have hrange:=range_to_end (ps:=[32,33]) (c:=⟨18,none,Try.f18.ntmps,X 18⟩) rfl hcall G4 (by rw [hRdef]) (by rw [hRdef])
 have hlast:lastOf (ices (k+1) B.start ((ofBox b c.fills).map fun f=>(f.hour,f.grams)))=(c.iceLo b k,c.iceHi b k):=by
  unfold lastOf
  rw [ices_len,Nat.add_sub_cancel,ices_lev (k+1) k _ _ (by omega)]
  unfold Cellar.iceLo Cellar.iceHi Cellar.of
  rw [hBx]
  rfl
 rw [hlast] at G1
 have g10:∀ o,(s2.put (t3.n+1) o).h.get (t1.n+1)=some (.cells [.int .i64 (c.iceLo b k),.int .i64 (c.iceHi b k)] (tag 75)):=fun o=>by rw [get_put_ne' _ _ _ _ (by omega)];exact G1
 have g6:∀ o,(s2.put (t3.n+1) o).h.get (u.n+1)=some (.cells [.int .i64 0,.int .i64 0] (tag 26)):=fun o=>by
  rw [get_put_ne' _ _ _ _ (by omega),same _ (by omega) (by omega) (by omega),x2g _ (by omega),t3g _ (by omega),t2g _ (by omega),t1g _ (by omega),yg _ (by omega)];exact w2
 have gd:∀ o o2,((s2.put (t3.n+1) o).put (u.n+1) o2).h.get t3.n=some .dfr:=fun o o2=>by rw [get_put_ne' _ _ _ _ (by omega),get_put_ne' _ _ _ _ (by omega)];exact G5
 have km:10 * (k+1)≤2400:=by omega
 simp (disch:=first|omega|(with_unfolding_all exact rfl)|(simp only[new_n,put_n,new_m];omega)|(refine put_m_le ?_;simp only[new_m];omega)) only [K18r7,Abs.W,reduceIte,Nat.reduceEqDiff,Nat.reduceAdd,decide_true,decide_false,kLoop_def,Nat.reduceSub,List.cons_append,List.nil_append,List.append_nil,List.length_cons,List.length_nil,hrange,Env.find_set,f10,f6,g10,g6,endsSpan_ok,Nat.zero_add]
 rw [leave_dfr _ _ _ _ _ (gd _ _),res18]
 have f7:(L0.set 7 (.int .i64 0)).find 7=.int .i64 0:=by simp only [Env.find_set,reduceIte]
 refine ⟨_,(leave_cell_tmp _ _ _ _ _ sh (v:=.agg [.int .i64 (c.iceLo b k),.int .i64 (c.iceHi b k)]) ?_).trans (by rw [f7]),?_⟩
 ·simp only [Env.find_set,f6,reduceIte,Nat.reduceEqDiff]
  rw [load_ptr,get_kill_ne _ _ _ (by omega),get_put_eq _ _ _ _ rfl (by omega)]
  simp (disch:=first|omega|(with_unfolding_all exact rfl)|(simp only[new_n,put_n,new_m];omega)|(refine put_m_le ?_;simp only[new_m];omega)) only [Abs.W,reduceIte,Nat.reduceEqDiff,Nat.reduceAdd,decide_true,decide_false,kLoop_def,Nat.reduceSub,List.cons_append,List.nil_append,List.append_nil,List.length_cons,List.length_nil]
 ·have:=sm (by omega)
  simp only [St.kill,St.put,minN_eq];omega
theorem Cold_ok {N:Nat} {s:St} {v1 v2 v3:AV} {box hour:Int} (c:Cellar) (ok:c.Ok) (b k:Nat) (hb:b<c.boxes.length) (hk:k<240) (hbox:box=b) (hhour:hour=k) (hN:9≤N) (hC:CellarIn s.h s.n c v1 v2 v3) (hs:s.n+300000≤far) :
  call Try.prog X N (.fn 33) [.agg [.int .i64 c.hl,.int .i64 c.hh,v1,v2,v3],.int .i64 box,.int .i64 hour] s=.val (.tup [.int .i64 (if 0<c.iceLo b k then 1 else if 0<c.iceHi b k then 3 else 2),.int .i64 0]) s:=by
 obtain ⟨n,rfl⟩:∃ n,N=n+1:=⟨N - 1,by omega⟩
 refine call_plain' Try.func33 (fun u uh un um=>?_) rfl
 have hff:far=1000000000:=rfl
 rw [← uh,← un] at hC
 obtain ⟨w,hw⟩:∃ w:St,w=u.new (.cells [.int .i64 c.hl,.int .i64 c.hh,v1,v2,v3] (tag 31)):=⟨_,rfl⟩
 have wn:w.n=u.n+1:=by rw [hw];rfl
 have wm:w.m=far:=by rw [hw];exact um
 have wg:∀ c,c<u.n→w.h.get c=u.h.get c:=fun c hc=>by rw [hw,get_new_ne _ _ _ (by omega)]
 have w0:w.h.get u.n=some (.cells [.int .i64 c.hl,.int .i64 c.hh,v1,v2,v3] (tag 31)):=by rw [hw];exact get_new_eq _ _ _ rfl (by omega)
 have e1:=Ice_ok (N:=n) (s:=w) c ok b k hb hk hbox hhour (by omega) (hC.grow wg (by omega)) (by omega)
 have ex0:∀ (a b:AV) (s:St),extA 0 s (.tup [a,b])=.val a s:=fun _ _ _=>rfl
 have ex1:∀ (a b:AV) (s:St),extA 1 s (.tup [a,b])=.val b s:=fun _ _ _=>rfl
 rw [enter33]
 simp (disch:=first|omega|(with_unfolding_all exact rfl)|(simp only[new_n,put_n,new_m];omega)|(refine put_m_le ?_;simp only[new_m];omega)) only [res33,K33,K33r0,Abs.W,reduceIte,Nat.reduceEqDiff,Nat.reduceAdd,decide_true,decide_false,kLoop_def,Nat.reduceSub,List.cons_append,List.nil_append,List.append_nil,List.length_cons,List.length_nil]
 rw [← hw]
 simp (disch:=first|omega|(with_unfolding_all exact rfl)|(simp only[new_n,put_n,new_m];omega)|(refine put_m_le ?_;simp only[new_m];omega)) only [K33r1,K33r2,K33r4,Abs.W,reduceIte,Nat.reduceEqDiff,Nat.reduceAdd,decide_true,decide_false,kLoop_def,Nat.reduceSub,List.cons_append,List.nil_append,List.append_nil,List.length_cons,List.length_nil,Env.find_set,w0,e1,ex0,ex1,verdict_ok,Nat.zero_add,leave_tmp_tmp]
 simp only [decide_eq_true_eq]
 exact ⟨_,rfl,by simp only [St.put,minN_eq,wm,new_m];omega⟩
end Go.Proofs.Ytkoefjgapmonaaa.walk
set_option maxRecDepth 10000
namespace Go.Proofs.Ytkoefjgapmonaaa.walk
open Go.Abs Go.Proofs.Ytkoefjgapmonaaa.code
theorem nth_intsC:∀ (l:List Int) (i:Nat) (h:i<l.length),nth (ints l).flatten i=.int .i64 l[i]
 | [],i,h=>absurd h (Nat.not_lt_zero _)
 | a::l,0,_=>rfl
 | a::l,i+1,h=>by
  have:=nth_intsC l i (by simpa using h)
  exact this
theorem ixs_intsC (st:St) (b:Nat) {i n c:Nat} {e:Bool} (h:i<n):ixsA 1 st (.slice b 0 n c e) (.int .i64 (i:Int))=.val (.ptr b i) st:=by
 rw [ixs_slice 1 st b 0 n c e i h,Nat.zero_add,Nat.mul_one]
def beforeOf (vs:List Int):Nat→Int
 | 0 => -1
 | i+1=>vs.getD i 0
theorem before_lt {vs:List Int} (hpos:∀ w ∈ vs,0≤w) (hsort:vs.Pairwise (·<·)) {i:Nat} (hi:i<vs.length):beforeOf vs i<vs[i]:=by
 cases i with
 | zero=>have:=hpos vs[0] (List.getElem_mem hi);show (-1:Int)<_;omega
 | succ i =>
  show vs.getD i 0<_
  rw [List.getD_eq_getElem?_getD,List.getElem?_eq_getElem (by omega)]
  exact List.pairwise_iff_getElem.mp hsort i (i+1) (by omega) hi (by omega)
theorem checkVisits_ok (N:Nat) (hN:3≤N) {bv:Nat} {vs:List Int} (h1:1≤vs.length) (h6:vs.length≤6) (hin:∀ w ∈ vs,0≤w∧w≤239) (hsort:vs.Pairwise (·<·)) (s:St) (hg:∃ sz,s.h.get bv=some (.cells (ints vs).flatten sz)) (hbv:bv<s.n) (hs:s.n+1000≤far) :
  call Try.prog X N (.fn 27) [.slice bv 0 vs.length vs.length true] s=.val (.int .i64 0) s:=by
 obtain ⟨M,rfl⟩:∃ M,N=M+1:=⟨N - 1,by omega⟩
 refine call_plain' Try.func27 (fun u uh un um=>?_) rfl
 have hf:far=1000000000:=rfl
 obtain ⟨sz,hg⟩:=hg
 rw [← uh] at hg
 have e1:∀ s:St,s.n≤far→call Try.prog X M (.fn 48) [.int .i64 (vs.length:Int),.int .i64 1,.int .i64 6] s=.val (.int .i64 0) s:=fun s hs=>counted_ok M (by omega) _ _ _ s (by omega) (by omega) hs
 have ll:∀ s,lenSlA s (.slice bv 0 vs.length vs.length true)=.val (.int .i64 (vs.length:Int)) s:=fun _=>rfl
 have okS:∀ t,okA (.val (.slice bv 0 vs.length vs.length true) t)=.val (.slice bv 0 vs.length vs.length true) t:=fun _=>rfl
 rw [enter27]
 simp (disch:=first|omega|(with_unfolding_all exact rfl)|(simp only[new_n,put_n,new_m];omega)|(refine put_m_le ?_;simp only[new_m];omega)) only [res27,K27r0,K27r1,K27r2,K27r3,K27r4,K27r5,K27r6,K27r7,K27r8,K27r9,K27r10,K27r11,K27r12,K27r13,K27,Abs.W,reduceIte,Nat.reduceEqDiff,Nat.reduceAdd,decide_true,decide_false,kLoop_def,Nat.reduceSub,List.cons_append,List.nil_append,List.append_nil,List.length_cons,List.length_nil,e1,ll,okS]
 generalize hlp:loopN _ rounds _ _ _ _ _=r1
 obtain ⟨e,L1,t,rfl,rfl,j1⟩:=loop_of hlp
  (fun i L t=>L.find 14=.slice bv 0 vs.length vs.length true∧L.find 15=.int .i64 (vs.length:Int)∧L.find 16=.int .i64 (i:Int)∧L.find 4=.int .i64 (beforeOf vs i)∧(∀ c,c<u.n→t.h.get c=u.h.get c)∧u.n≤t.n∧t.n≤u.n+i∧t.m=far)
  (fun e L t=>e=.exit 0∧t.m=far) vs.length (by unfold rounds;omega)
  ⟨by simp only [find_cons,Env.find_set,reduceIte,Nat.reduceEqDiff],by simp only [find_cons,Env.find_set,reduceIte,Nat.reduceEqDiff],by simp only [find_cons,Env.find_set,reduceIte,Nat.reduceEqDiff];rfl,by simp only [find_cons,Env.find_set,reduceIte,Nat.reduceEqDiff];rfl,fun _ _=>rfl,Nat.le_refl _,Nat.le_refl _,um⟩
  (fun i L t hi ⟨l14,l15,l16,l4,tg,tn,tk,tm⟩=>by
   by_cases hlt:i<vs.length
   ·have e0:decide ((i:Int)<(vs.length:Int))=true:=decide_eq_true (by omega)
    have gb:=(tg bv (by omega)).trans hg
    have hix:∀ st,ixsA 1 st (.slice bv 0 vs.length vs.length true) (.int .i64 (i:Int))=.val (.ptr bv i) st:=fun st=>ixs_intsC st bv hlt
    have hnt:=nth_intsC vs i hlt
    have hb:=hin vs[i] (List.getElem_mem hlt)
    have hlt2:=before_lt (fun w hw=>(hin w hw).1) hsort hlt
    have e2:∀ s:St,s.n+100≤far→call Try.prog X M (.fn 35) [.int .i64 vs[i]] s=.val (.int .i64 0) s:=fun s hs=>hour_ok M (by omega) _ s hb.1 hb.2 hs
    have e3:decide (beforeOf vs i<vs[i])=true:=decide_eq_true hlt2
    have e4:∀ s:St,s.n≤far→call Try.prog X M (.fn 31) [.bool true,.int .i64 5] s=.val (.int .i64 0) s:=fun s hs=>unless_ok M (by omega) _ s hs
    have ad:∀ st,aAdd st .i64 (i:Int) 1=.val (.int .i64 ((i+1:Nat):Int)) st:=fun st=>aAdd_i64 st _ _ (by omega)
    have e5:∀ t:St,t.n+1≤far→call Try.prog X M (.fn 24) [.slice t.n 0 2 2 false] (t.new (.cells [.int .i64 0,.int .i64 0] 0))=.val (.int .i64 0) (t.new (.cells [.int .i64 0,.int .i64 0] 0)):=fun t ht=>or_new2 M (by omega) t ht
    refine .inl ⟨hlt,_,_,by
     simp (disch:=first|omega|(with_unfolding_all exact rfl)|(simp only[new_n,put_n,new_m];omega)|(refine put_m_le ?_;simp only[new_m];omega)) only [K27l0,res27,K27r0,K27r1,K27r2,K27r3,K27r4,K27r5,K27r6,K27r7,K27r8,K27r9,K27r10,K27r11,K27r12,K27r13,K27,Abs.W,reduceIte,Nat.reduceEqDiff,Nat.reduceAdd,decide_true,decide_false,kLoop_def,Nat.reduceSub,List.cons_append,List.nil_append,List.append_nil,List.length_cons,List.length_nil,Env.find_set,l14,l15,l16,l4,e0,hix,gb,hnt,e2,e3,e4,e5,ad,Nat.zero_add]
     rfl,?_,?_,?_,?_,?_,?_,?_,?_⟩
    ·simp only [Env.find_set,find_cons,l14,reduceIte,Nat.reduceEqDiff]
    ·simp only [Env.find_set,find_cons,l15,reduceIte,Nat.reduceEqDiff]
    ·simp only [Env.find_set,find_cons,reduceIte,Nat.reduceEqDiff]
    ·simp only [Env.find_set,find_cons,reduceIte,Nat.reduceEqDiff]
     show _=AV.int .i64 (vs.getD i 0)
     rw [List.getD_eq_getElem?_getD,List.getElem?_eq_getElem hlt];rfl
    ·intro c hc
     rw [get_new_ne _ _ _ (by omega)];exact tg c hc
    ·simp only [new_n];omega
    ·simp only [new_n];omega
    ·rw [new_m];exact tm
   ·obtain rfl:i=vs.length:=by omega
    have e0:decide ((vs.length:Int)<(vs.length:Int))=false:=by simp
    refine .inr ⟨.exit 0,_,t,by simp,by
     simp (disch:=first|omega|(with_unfolding_all exact rfl)|(simp only[new_n,put_n,new_m];omega)|(refine put_m_le ?_;simp only[new_m];omega)) only [K27l0,res27,K27r0,K27r1,K27r2,K27r3,K27r4,K27r5,K27r6,K27r7,K27r8,K27r9,K27r10,K27r11,K27r12,K27r13,K27,Abs.W,reduceIte,Nat.reduceEqDiff,Nat.reduceAdd,decide_true,decide_false,kLoop_def,Nat.reduceSub,List.cons_append,List.nil_append,List.append_nil,List.length_cons,List.length_nil,Env.find_set,l15,l16,e0,Nat.zero_add]
     rfl,rfl,tm⟩)
 simp (disch:=first|omega|(with_unfolding_all exact rfl)|(simp only[new_n,put_n,new_m];omega)|(refine put_m_le ?_;simp only[new_m];omega)) only [res27,K27r0,K27r1,K27r2,K27r3,K27r4,K27r5,K27r6,K27r7,K27r8,K27r9,K27r10,K27r11,K27r12,K27r13,K27,Abs.W,reduceIte,Nat.reduceEqDiff,Nat.reduceAdd,decide_true,decide_false,kLoop_def,Nat.reduceSub,List.cons_append,List.nil_append,List.append_nil,List.length_cons,List.length_nil,Env.find_set,find_cons]
 refine ⟨_,rfl,?_⟩
 omega
theorem unless_no (N:Nat) (hN:1≤N) (e:Int) (s:St) (hs:s.n≤far):call Try.prog X N (.fn 31) [.bool false,.int .i64 e] s=.val (.int .i64 e) s:=by
 obtain ⟨n,rfl⟩:∃ n,N=n+1:=⟨N - 1,by omega⟩
 refine call_plain (s':=⟨s.h,s.n,far⟩) Try.func31 ?_ rfl hs
 rw [enter31]
 simp only [res31,K31r0,K31r1,K31r2,K31r3,K31,Abs.W,reduceIte,Nat.reduceEqDiff,Nat.reduceAdd,decide_true,decide_false,kLoop_def,Nat.reduceSub,List.cons_append,List.nil_append,List.append_nil,List.length_cons,List.length_nil]
abbrev boxFills (c:Cellar) (b:Nat):List (Int × Int):=(ofBox b c.fills).map fun f=>(f.hour,f.grams)
abbrev fillC (c:Cellar) (b:Nat) (g until_:Int) (vs:List Int):Option (List Nat):=fewC g until_ vs (c.box b).start (boxFills c b)
theorem Fill_ex {N:Nat} {s:St} {r:ARes} {v1 v2 v3:AV} {box g until_:Int} {bv:Nat} {vs:List Int} (c:Cellar) (ok:c.Ok) (b:Nat) (hb:b<c.boxes.length) (hbox:box=b) (hr:call Try.prog X N (.fn 11) [.agg [.int .i64 c.hl,.int .i64 c.hh,v1,v2,v3],.int .i64 box,.slice bv 0 vs.length vs.length true,.int .i64 g,.int .i64 until_] s=r) (hN:12≤N) (hC:CellarIn s.h s.n c v1 v2 v3) (hv0:vs≠[]) (hv2:vs.length≤2) (hbv:bv<s.n) (hgv:∃ sz,s.h.get bv=some (.cells (ints vs).flatten sz)) (hin:∀ w ∈ vs,0≤w∧w≤239) (hsort:vs.Pairwise (·<·)) (hg:1≤g∧g≤100000) (hu:1≤until_∧until_≤240) (hs:s.n+300000≤far) :
  ∃ rv t,r=.val (.tup [rv,.int .i64 (if (fillC c b g until_ vs).isSome then 0 else 3)]) t∧New s t 6000∧Told t.h s.n t.n rv (fillC c b g until_ vs):=by
 obtain ⟨n,rfl⟩:∃ n,N=n+1:=⟨N - 1,by omega⟩
 subst hbox
 have hff:far=1000000000:=rfl
 obtain ⟨w0,t0,e0,st0,rv,rfl,q⟩:=call_new' (n:=n) (args:=[.agg [.int .i64 c.hl,.int .i64 c.hh,v1,v2,v3],.int .i64 (b:Int),.slice bv 0 vs.length vs.length true,.int .i64 g,.int .i64 until_]) (s:=s) (k:=6000) (Q:=fun w h m=>∃ rv,w=.tup [rv,.int .i64 (if (fillC c b g until_ vs).isSome then 0 else 3)]∧Told h s.n m rv (fillC c b g until_ vs)) Try.func11 rfl (fun u uh un um=>by
  rw [← uh,← un] at hC
  rw [← uh] at hgv
  rw [← un] at hbv hs ⊢
  obtain ⟨w,hw⟩:∃ w:St,w=u.new (.cells [.int .i64 c.hl,.int .i64 c.hh,v1,v2,v3] (tag 31)):=⟨_,rfl⟩
  have wn:w.n=u.n+1:=by rw [hw];rfl
  have wm:w.m=far:=by rw [hw];exact um
  have wg:∀ c,c<u.n→w.h.get c=u.h.get c:=fun c hc=>by rw [hw,get_new_ne _ _ _ (by omega)]
  have w0:w.h.get u.n=some (.cells [.int .i64 c.hl,.int .i64 c.hh,v1,v2,v3] (tag 31)):=by rw [hw];exact get_new_eq _ _ _ rfl (by omega)
  have hCw:∀ m,CellarIn (⟨w.h,w.n,m⟩:St).h (⟨w.h,w.n,m⟩:St).n c v1 v2 v3:=fun m=>hC.grow wg (by show u.n≤w.n;omega)
  have e1:∀ m,call Try.prog X n (.fn 25) [.agg [.int .i64 c.hl,.int .i64 c.hh,v1,v2,v3]] ⟨w.h,w.n,m⟩=.val (.int .i64 0) ⟨w.h,w.n,m⟩:=fun m =>
   check_ok n (by omega) c ok v1 v2 v3 ⟨w.h,w.n,m⟩ (hCw m).at_ (by show w.n+3000≤far;omega)
  have len1:=hC.at_.b.len
  rw [List.length_map] at len1
  have e2:∀ s:St,s.n+100≤far→call Try.prog X n (.fn 26) [.agg [.int .i64 c.hl,.int .i64 c.hh,v1,v2,v3],.int .i64 (b:Int)] s=.val (.int .i64 0) s:=fun s hs=>box_ok n (by omega) c.hl c.hh b c.boxes.length v1 v2 v3 s hC.at_.b.ne len1 (by omega) (by omega) hs
  have hgw:∃ sz,w.h.get bv=some (.cells (ints vs).flatten sz):=by rw [wg bv hbv];exact hgv
  have hl1:1≤vs.length:=List.length_pos_iff.mpr hv0
  have e3:call Try.prog X n (.fn 27) [.slice bv 0 vs.length vs.length true] w=.val (.int .i64 0) w:=checkVisits_ok n (by omega) hl1 (by omega) hin hsort w hgw (by omega) (by omega)
  have e4:∀ s:St,s.n≤far→call Try.prog X n (.fn 28) [.int .i64 g,.int .i64 1,.int .i64 100000] s=.val (.int .i64 0) s:=fun s hs=>within_ok n (by omega) _ _ _ s hg.1 hg.2 hs
  have e5:∀ s:St,s.n≤far→call Try.prog X n (.fn 28) [.int .i64 until_,.int .i64 1,.int .i64 240] s=.val (.int .i64 0) s:=fun s hs=>within_ok n (by omega) _ _ _ s hu.1 hu.2 hs
  have e6:∀ t:St,t.n+1≤far→call Try.prog X n (.fn 24) [.slice t.n 0 5 5 false] (t.new (.cells [.int .i64 0,.int .i64 0,.int .i64 0,.int .i64 0,.int .i64 0] 0))=.val (.int .i64 0) (t.new (.cells [.int .i64 0,.int .i64 0,.int .i64 0,.int .i64 0,.int .i64 0] 0)):=fun t ht=>or_new5 n (by omega) t ht
  have okS:∀ t,okA (.val (.slice bv 0 vs.length vs.length true) t)=.val (.slice bv 0 vs.length vs.length true) t:=fun _=>rfl
  rw [enter11]
  simp (disch:=first|omega|(with_unfolding_all exact rfl)|(simp only[new_n,put_n,new_m];omega)|(refine put_m_le ?_;simp only[new_m];omega)) only [res11,K11,K11r0,Abs.W,reduceIte,Nat.reduceEqDiff,Nat.reduceAdd,decide_true,decide_false,kLoop_def,Nat.reduceSub,List.cons_append,List.nil_append,List.append_nil,List.length_cons,List.length_nil]
  rw [← hw]
  simp (disch:=first|omega|(with_unfolding_all exact rfl)|(simp only[new_n,put_n,new_m];omega)|(refine put_m_le ?_;simp only[new_m];omega)) only [K11r1,K11r2,Abs.W,reduceIte,Nat.reduceEqDiff,Nat.reduceAdd,decide_true,decide_false,kLoop_def,Nat.reduceSub,List.cons_append,List.nil_append,List.append_nil,List.length_cons,List.length_nil,Env.find_set,find_cons,w0,e1,e2,e3,e4,e5,e6,okS,endO_nil,regD_ok,Nat.zero_add]
  obtain ⟨y,hy⟩:∃ y:St,y=w.new (.cells [.int .i64 0,.int .i64 0,.int .i64 0,.int .i64 0,.int .i64 0] 0):=⟨_,rfl⟩
  rw [← hy]
  have yn:y.n=w.n+1:=by rw [hy];rfl
  have ym:y.m=far:=by rw [hy];exact wm
  have yg:∀ c,c<w.n→y.h.get c=w.h.get c:=fun c hc=>by rw [hy,get_new_ne _ _ _ (by omega)]
  have yu:∀ c,c<u.n→y.h.get c=u.h.get c:=fun c hc=>(yg c (by omega)).trans (wg c hc)
  have y0:=(yg u.n (by omega)).trans w0
  have hCy:=hC.grow yu (by omega:u.n≤y.n)
  simp (disch:=first|omega|(with_unfolding_all exact rfl)|(simp only[new_n,put_n,new_m];omega)|(refine put_m_le ?_;simp only[new_m];omega)) only [K11r4,Abs.W,reduceIte,Nat.reduceEqDiff,Nat.reduceAdd,decide_true,decide_false,kLoop_def,Nat.reduceSub,List.cons_append,List.nil_append,List.append_nil,List.length_cons,List.length_nil,Env.find_set,find_cons,y0,Nat.zero_add]
  generalize hc:call _ _ _ (.fn 29) _ _=r1
  obtain ⟨v',t1,rfl,st1,kept1⟩:=begin_ex c.boxes c.fills b hb hc (by omega) hCy.at_.b hCy.f ok.f (scal_ne hC.s3) (by omega)
  have t1n:=st1.n
  have t1l:=st1.le
  have t1m:t1.m=far:=st1.m.trans ym
  have t1g:=st1.same
  have ksc:=kept1.scalar1
  obtain ⟨B,hBe⟩:∃ B,B=c.boxes[b]:=⟨_,rfl⟩
  have hBok:B.Ok:=by rw [hBe];exact ok.bok _ (List.getElem_mem hb)
  have hBx:c.box b=B:=by unfold Cellar.box;rw [List.getD_eq_getElem?_getD,List.getElem?_eq_getElem hb,hBe];rfl
  rw [← hBe]
  have okB:∀ t,okA (.val (.agg (B.start.cells v')) t)=.val (.agg (B.start.cells v')) t:=fun _=>rfl
  simp (disch:=first|omega|(with_unfolding_all exact rfl)|(simp only[new_n,put_n,new_m];omega)|(refine put_m_le ?_;simp only[new_m];omega)) only [Abs.W,reduceIte,Nat.reduceEqDiff,Nat.reduceAdd,decide_true,decide_false,kLoop_def,Nat.reduceSub,List.cons_append,List.nil_append,List.append_nil,List.length_cons,List.length_nil,Env.find_set,find_cons,okS,okB]
  generalize hc2:call _ _ _ (.fn 30) _ _=r2
  have hgr:∀ f ∈ ofBox b c.fills,0≤f.grams∧f.grams≤1000000:=fun f hff'=>by
   have:=ok.fok f (List.mem_filter.mp hff').1
   obtain ⟨_,_,_,_,z0,z1⟩:=this
   omega
  obtain ⟨hx,hm0,hm1,hm2,hm3⟩:=Box.start_fits hBok
  have t1u:∀ c,c<u.n→t1.h.get c=u.h.get c:=fun c hc=>(t1g c (by omega)).trans (yu c hc)
  obtain ⟨rv,t2,rfl,st2,q⟩:=fewest_ex (fs:=boxFills c b) hc2 (by omega) hv0 hv2 (by omega) (by rw [t1u bv hbv];exact hgv) (kept1.rests (.inr (Nat.le_refl _)) (Nat.le_refl _) hgr) hx ⟨hm0,hm1,hm2,hm3⟩ ⟨by omega,by omega⟩ (by rw [List.length_map];unfold ofBox;exact Nat.le_trans (List.length_filter_le _ _) (by have:=ok.f;omega)) (by omega) rfl ⟨by omega,by omega⟩ (fun w hw=>(hin w hw).1) hsort
  have t2n:=st2.n
  have t2l:=st2.le
  have t2m:t2.m=far:=st2.m.trans t1m
  have t2g:=st2.same
  have hfc:fillC c b g until_ vs=fewC g until_ vs B.start (boxFills c b):=by unfold fillC;rw [hBx]
  rw [hfc]
  have s2E:Beside u t2 6000:=⟨fun x hx=>by rw [t2g x (by omega),t1u x hx],by omega,by omega,by omega,by omega⟩
  cases hfew:fewC g until_ vs B.start (boxFills c b) with
  | none =>
   rw [hfew] at q
   have q':rv=.nilslice:=q
   subst q'
   have en:∀ s,eqlA .nilS true s .nilslice .nilslice=.val (.bool false) s:=fun s=>by simp [eqlA,Cmp.eq]
   have eu:∀ s:St,s.n≤far→call Try.prog X n (.fn 31) [.bool false,.int .i64 3] s=.val (.int .i64 3) s:=fun s hs=>unless_no n (by omega) _ s hs
   simp (disch:=first|omega|(with_unfolding_all exact rfl)|(simp only[new_n,put_n,new_m];omega)|(refine put_m_le ?_;simp only[new_m];omega)) only [K11r5,Abs.W,reduceIte,Nat.reduceEqDiff,Nat.reduceAdd,decide_true,decide_false,kLoop_def,Nat.reduceSub,List.cons_append,List.nil_append,List.append_nil,List.length_cons,List.length_nil,Env.find_set,find_cons,kEql_def,en,eu,leave_tmp_tmp]
   exact ⟨_,_,rfl,s2E,⟨.nilslice,rfl,rfl⟩,fun _=>⟨.nilslice,rfl,rfl⟩⟩
  | some l =>
   rw [hfew] at q
   obtain ⟨bc,rfl,q1,q2,q3⟩:=q
   have en:∀ s,eqlA .nilS true s (.slice bc 0 l.length l.length true) .nilslice=.val (.bool true) s:=fun s=>by simp [eqlA,Cmp.eq]
   have eu:∀ s:St,s.n≤far→call Try.prog X n (.fn 31) [.bool true,.int .i64 3] s=.val (.int .i64 0) s:=fun s hs=>unless_ok n (by omega) _ s hs
   have okR:∀ t,okA (.val (.slice bc 0 l.length l.length true) t)=.val (.slice bc 0 l.length l.length true) t:=fun _=>rfl
   simp (disch:=first|omega|(with_unfolding_all exact rfl)|(simp only[new_n,put_n,new_m];omega)|(refine put_m_le ?_;simp only[new_m];omega)) only [K11r5,Abs.W,reduceIte,Nat.reduceEqDiff,Nat.reduceAdd,decide_true,decide_false,kLoop_def,Nat.reduceSub,List.cons_append,List.nil_append,List.append_nil,List.length_cons,List.length_nil,Env.find_set,find_cons,kEql_def,en,eu,okR,leave_tmp_tmp]
   exact ⟨_,_,rfl,s2E,⟨_,rfl,⟨bc,rfl,by omega,q2,q3⟩⟩,fun hp=>by cases hp⟩)
 exact ⟨rv,t0,hr.symm.trans e0,st0,q⟩
end Go.Proofs.Ytkoefjgapmonaaa.walk
set_option maxRecDepth 10000
namespace Go.Proofs.Ytkoefjgapmonaaa.walk
open Go.Abs Go.Proofs.Ytkoefjgapmonaaa.code
def Die (d:Nat) (h:Heap):Prop:=∃ f,h.get d=some (.cells [.int .u64 f] (tag 49))
theorem roll_ex {N d:Nat} {s:St} {r:ARes} (hr:call Try.prog X N (.fn 16) [.ptr d 0] s=r) (hN:1≤N) (hd:Die d s.h) (hlt:d<s.n) (hs:s.n+10≤far) :
  ∃ x t,r=.val (.int .u64 x) t∧Stir d s t 0∧Die d t.h∧0≤x∧x≤18446744073709551615:=by
 obtain ⟨n,rfl⟩:∃ n,N=n+1:=⟨N - 1,by omega⟩
 have hf:far=1000000000:=rfl
 obtain ⟨f,hg⟩:=hd
 obtain ⟨v,t,e,st,⟨x,rfl,x0,x1⟩,hd'⟩:=call_stir_plain (n:=n) (args:=[.ptr d 0]) (d:=d) (k:=0) (Q:=fun v=>∃ x,v=.int .u64 x∧0≤x∧x≤18446744073709551615) (R:=Die d) Try.func16 ⟨f,hg⟩ (fun u uh un um=>by
  rw [← uh] at hg
  rw [enter16]
  simp (disch:=first|omega|(with_unfolding_all exact rfl)|(simp only[new_n,put_n,new_m];omega)|(refine put_m_le ?_;simp only[new_m];omega)) only [res16,K16r0,K16r1,K16r2,K16r3,K16r4,K16r5,K16,Abs.W,reduceIte,Nat.reduceEqDiff,Nat.reduceAdd,decide_true,decide_false,kLoop_def,Nat.reduceSub,List.cons_append,List.nil_append,List.append_nil,List.length_cons,List.length_nil,hg,Nat.zero_add,ints_u64,kShr_def,shrA_u64,aAdd_def,aMul_def,aXor_def]
  refine ⟨_,_,rfl,(Stir.refl d u).put (by omega) _ (.inl rfl),rfl,⟨_,rfl,?_⟩,⟨_,get_put_eq _ _ _ _ rfl (by omega)⟩⟩
  exact xorI_range _ _) (by omega)
 exact ⟨x,t,hr.symm.trans e,st,hd',x0,x1⟩
theorem cast_ex {N d:Nat} {n:Int} {s:St} {r:ARes} (hr:call Try.prog X N (.fn 7) [.ptr d 0,.int .i64 n] s=r) (hN:2≤N) (hd:Die d s.h) (hlt:d<s.n) (hs:s.n+100≤far) (hn:n≤4000000000) :
  ∃ x t,r=.val (.int .i64 x) t∧Stir d s t 0∧Die d t.h∧0≤x∧(x<n∨x=0):=by
 obtain ⟨m,rfl⟩:∃ m,N=m+1:=⟨N - 1,by omega⟩
 have hf:far=1000000000:=rfl
 obtain ⟨v,t,e,st,⟨x,rfl,x0,x1⟩,hd'⟩:=call_stir_plain (n:=m) (args:=[.ptr d 0,.int .i64 n]) (d:=d) (k:=0) (Q:=fun v=>∃ x,v=.int .i64 x∧0≤x∧(x<n∨x=0)) (R:=Die d) Try.func7 hd (fun u uh un um=>by
  rw [← uh] at hd
  rw [enter7]
  by_cases hlow:n<2
  ·have e0:decide (n<2)=true:=by simpa using hlow
   simp (disch:=first|omega|(with_unfolding_all exact rfl)|(simp only[new_n,put_n,new_m];omega)|(refine put_m_le ?_;simp only[new_m];omega)) only [res7,K7r0,K7r1,K7r2,K7r3,K7,Abs.W,reduceIte,Nat.reduceEqDiff,Nat.reduceAdd,decide_true,decide_false,kLoop_def,Nat.reduceSub,List.cons_append,List.nil_append,List.append_nil,List.length_cons,List.length_nil,e0]
   exact ⟨_,_,rfl,Stir.refl d u,rfl,⟨0,rfl,by omega,.inr rfl⟩,hd⟩
  ·have e0:decide (n<2)=false:=by simpa using hlow
   simp (disch:=first|omega|(with_unfolding_all exact rfl)|(simp only[new_n,put_n,new_m];omega)|(refine put_m_le ?_;simp only[new_m];omega)) only [res7,K7r0,K7r1,K7r2,K7r3,K7,Abs.W,reduceIte,Nat.reduceEqDiff,Nat.reduceAdd,decide_true,decide_false,kLoop_def,Nat.reduceSub,List.cons_append,List.nil_append,List.append_nil,List.length_cons,List.length_nil,e0]
   generalize hc:call _ _ _ (.fn 16) _ _=r1
   obtain ⟨y,w,rfl,sw,dw,y0,y1⟩:=roll_ex hc (by omega) hd (by omega) (by omega)
   have q0:0≤shrI y 2:=shrI_nonneg _ _ y0
   have q2:0≤(shrI y 2).tmod n:=Int.tmod_nonneg _ q0
   have q3:(shrI y 2).tmod n<n:=Int.tmod_lt_of_pos _ (by omega)
   have w1:wrapA .u64 n=n:=wrap_u64 n (by omega)
   have w2:wrapA .i64 ((shrI y 2).tmod n)=(shrI y 2).tmod n:=wrap_in _ (by omega)
   have w3:∀ s,aRem s .u64 (shrI y 2) n=.val (.int .u64 ((shrI y 2).tmod n)) s:=fun s=>aRem_ne s _ _ _ (by omega)
   simp (disch:=first|omega|(with_unfolding_all exact rfl)|(simp only[new_n,put_n,new_m];omega)|(refine put_m_le ?_;simp only[new_m];omega)) only [res7,K7r0,K7r1,K7r2,K7r3,K7,Abs.W,reduceIte,Nat.reduceEqDiff,Nat.reduceAdd,decide_true,decide_false,kLoop_def,Nat.reduceSub,List.cons_append,List.nil_append,List.append_nil,List.length_cons,List.length_nil,ints_u64,kShr_def,shrA_u64,cviA_int,w1,w2,w3]
   exact ⟨_,_,rfl,sw,rfl,⟨_,rfl,q2,.inl q3⟩,dw⟩) (by omega)
 exact ⟨x,t,hr.symm.trans e,st,hd',x0,x1⟩
theorem from_ex {N d:Nat} {lo hi:Int} {s:St} {r:ARes} (hr:call Try.prog X N (.fn 9) [.ptr d 0,.int .i64 lo,.int .i64 hi] s=r) (hN:3≤N) (hd:Die d s.h) (hlt:d<s.n) (hs:s.n+200≤far)
  (h0 : -100000000≤lo) (h1:lo≤100000000) (h2 : -100000000≤hi) (h3:hi≤100000000) :
  ∃ x t,r=.val (.int .i64 x) t∧Stir d s t 0∧Die d t.h∧lo≤x∧(x≤hi∨x=lo):=by
 obtain ⟨m,rfl⟩:∃ m,N=m+1:=⟨N - 1,by omega⟩
 have hf:far=1000000000:=rfl
 obtain ⟨v,t,e,st,⟨x,rfl,x0,x1⟩,hd'⟩:=call_stir_plain (n:=m) (args:=[.ptr d 0,.int .i64 lo,.int .i64 hi]) (d:=d) (k:=0) (Q:=fun v=>∃ x,v=.int .i64 x∧lo≤x∧(x≤hi∨x=lo)) (R:=Die d) Try.func9 hd (fun u uh un um=>by
  rw [← uh] at hd
  have a1:∀ s,aSub s .i64 hi lo=.val (.int .i64 (hi - lo)) s:=fun s=>aSub_i64 s _ _ (by omega)
  have a2:∀ s,aAdd s .i64 (hi - lo) 1=.val (.int .i64 (hi - lo+1)) s:=fun s=>aAdd_i64 s _ _ (by omega)
  rw [enter9]
  simp (disch:=first|omega|(with_unfolding_all exact rfl)|(simp only[new_n,put_n,new_m];omega)|(refine put_m_le ?_;simp only[new_m];omega)) only [res9,K9r0,K9r1,K9,Abs.W,reduceIte,Nat.reduceEqDiff,Nat.reduceAdd,decide_true,decide_false,kLoop_def,Nat.reduceSub,List.cons_append,List.nil_append,List.append_nil,List.length_cons,List.length_nil,a1,a2]
  generalize hc:call _ _ _ (.fn 7) _ _=r1
  obtain ⟨y,w,rfl,sw,dw,y0,y1⟩:=cast_ex hc (by omega) hd (by omega) (by omega) (by omega)
  have a3:∀ s,aAdd s .i64 lo y=.val (.int .i64 (lo+y)) s:=fun s=>aAdd_i64 s _ _ (by omega)
  simp (disch:=first|omega|(with_unfolding_all exact rfl)|(simp only[new_n,put_n,new_m];omega)|(refine put_m_le ?_;simp only[new_m];omega)) only [res9,K9r0,K9r1,K9,Abs.W,reduceIte,Nat.reduceEqDiff,Nat.reduceAdd,decide_true,decide_false,kLoop_def,Nat.reduceSub,List.cons_append,List.nil_append,List.append_nil,List.length_cons,List.length_nil,a3]
  exact ⟨_,_,rfl,sw,rfl,⟨_,rfl,by omega,by omega⟩,dw⟩) (by omega)
 exact ⟨x,t,hr.symm.trans e,st,hd',x0,x1⟩
theorem nth_ints:∀ {l:List Int} {i:Nat},i<l.length→∃ x ∈ l,nth (l.map fun x=>AV.int .i64 x) i=.int .i64 x
 | [],i,h=>by simp at h
 | a::l,0,_=>⟨a,List.mem_cons_self ..,rfl⟩
 | a::l,i+1,h=>by
  obtain ⟨x,hx,e⟩:=nth_ints (l:=l) (i:=i) (by simpa using h)
  exact ⟨x,List.mem_cons_of_mem _ hx,e⟩
theorem one_ex {N d b:Nat} {k sz:Nat} (l:List Int) {s:St} {r:ARes} (hr:call Try.prog X N (.fn 10) [.ptr d 0,.slice b 0 k k false] s=r) (hN:3≤N) (hd:Die d s.h) (hlt:d<s.n) (hs:s.n+200≤far)
  (hb:s.h.get b=some (.cells (l.map fun x=>AV.int .i64 x) sz)) (hbn:b<s.n) (hbd:b≠d) (hl:l.length=k) (h0:0<k) (hk:k≤1000) :
  ∃ x t,r=.val (.int .i64 x) t∧Stir d s t 0∧Die d t.h∧x ∈ l:=by
 obtain ⟨m,rfl⟩:∃ m,N=m+1:=⟨N - 1,by omega⟩
 have hf:far=1000000000:=rfl
 obtain ⟨v,t,e,st,⟨x,rfl,hx⟩,hd'⟩:=call_stir_plain (n:=m) (args:=[.ptr d 0,.slice b 0 k k false]) (d:=d) (k:=0) (Q:=fun v=>∃ x,v=.int .i64 x∧x ∈ l) (R:=Die d) Try.func10 hd (fun u uh un um=>by
  rw [← uh] at hd hb
  have e0:decide ((k:Int)=0)=false:=by simp;omega
  rw [enter10]
  simp (disch:=first|omega|(with_unfolding_all exact rfl)|(simp only[new_n,put_n,new_m];omega)|(refine put_m_le ?_;simp only[new_m];omega)) only [res10,K10r0,K10r1,K10r2,K10r3,K10,Abs.W,reduceIte,Nat.reduceEqDiff,Nat.reduceAdd,decide_true,decide_false,kLoop_def,Nat.reduceSub,List.cons_append,List.nil_append,List.append_nil,List.length_cons,List.length_nil,e0]
  generalize hc:call _ _ _ (.fn 7) _ _=r1
  obtain ⟨y,w,rfl,sw,dw,y0,y1⟩:=cast_ex hc (by omega) hd (by omega) (by omega) (by omega)
  obtain ⟨i,rfl⟩:∃ i:Nat,y=i:=⟨y.toNat,by omega⟩
  have hi:i<k:=by omega
  obtain ⟨x,hx,hn⟩:=nth_ints (l:=l) (i:=i) (by omega)
  have hg:w.h.get b=some (.cells (l.map fun x=>AV.int .i64 x) sz):=by rw [sw.same b (by omega) hbd];exact hb
  simp (disch:=first|omega|(with_unfolding_all exact rfl)|(simp only[new_n,put_n,new_m];omega)|(refine put_m_le ?_;simp only[new_m];omega)) only [res10,K10r0,K10r1,K10r2,K10r3,K10,Abs.W,reduceIte,Nat.reduceEqDiff,Nat.reduceAdd,decide_true,decide_false,kLoop_def,Nat.reduceSub,List.cons_append,List.nil_append,List.append_nil,List.length_cons,List.length_nil,ixs_slice _ _ _ _ _ _ _ _ hi,Nat.mul_one,Nat.zero_add,hg,hn]
  exact ⟨_,_,rfl,sw,rfl,⟨x,rfl,hx⟩,dw⟩) (by omega)
 exact ⟨x,t,hr.symm.trans e,st,hd',hx⟩
theorem span_ex {N d:Nat} {lo hi:Int} {s:St} {r:ARes} (hr:call Try.prog X N (.fn 17) [.ptr d 0,.int .i64 lo,.int .i64 hi] s=r) (hN:4≤N) (hd:Die d s.h) (hlt:d<s.n) (hs:s.n+300≤far)
  (h0 : -1000000≤lo) (h1:lo≤hi) (h2:hi≤1000000) :
  ∃ a b t,r=.val (.agg [.int .i64 a,.int .i64 b]) t∧Stir d s t 2∧Die d t.h∧lo≤a∧a≤b∧b≤hi:=by
 obtain ⟨m,rfl⟩:∃ m,N=m+1:=⟨N - 1,by omega⟩
 have hf:far=1000000000:=rfl
 obtain ⟨v,t,e,st,⟨a,b,rfl,x0,x1,x2⟩,hd'⟩:=call_stir_plain (n:=m) (args:=[.ptr d 0,.int .i64 lo,.int .i64 hi]) (d:=d) (k:=2) (Q:=fun v=>∃ a b,v=.agg [.int .i64 a,.int .i64 b]∧lo≤a∧a≤b∧b≤hi) (R:=Die d) Try.func17 hd (fun u uh un um=>by
  rw [← uh] at hd
  have sh:shapeT Try.prog 26=some (some 2):=by kernel_rfl
  rw [enter17]
  simp (disch:=first|omega|(with_unfolding_all exact rfl)|(simp only[new_n,put_n,new_m];omega)|(refine put_m_le ?_;simp only[new_m];omega)) only [res17,K17r0,K17r1,K17r2,K17r3,K17,Abs.W,reduceIte,Nat.reduceEqDiff,Nat.reduceAdd,decide_true,decide_false,kLoop_def,Nat.reduceSub,List.cons_append,List.nil_append,List.append_nil,List.length_cons,List.length_nil]
  generalize hc:call _ _ _ (.fn 9) _ _=r1
  obtain ⟨x,w,rfl,sw,dw,y0,y1⟩:=from_ex hc (by omega) (by obtain ⟨f,hg⟩:=hd;exact ⟨f,by rw [get_new_ne _ _ _ (by omega)];exact hg⟩) (by simp only [new_n];omega) (by simp only [new_n];omega) (by omega) (by omega) (by omega) (by omega)
  have wn:=sw.n
  have wl:=sw.le
  simp only [new_n] at wn wl
  have a1:∀ s,aAdd s .i64 x 4=.val (.int .i64 (x+4)) s:=fun s=>aAdd_i64 s _ _ (by omega)
  simp (disch:=first|omega|(with_unfolding_all exact rfl)|(simp only[new_n,put_n,new_m];omega)|(refine put_m_le ?_;simp only[new_m];omega)) only [res17,K17r0,K17r1,K17r2,K17r3,K17,Abs.W,reduceIte,Nat.reduceEqDiff,Nat.reduceAdd,decide_true,decide_false,kLoop_def,Nat.reduceSub,List.cons_append,List.nil_append,List.append_nil,List.length_cons,List.length_nil,a1,kFold_def,foldA_nil,foldA_cons,minA_i64]
  generalize hc2:call _ _ _ (.fn 10) _ _=r2
  obtain ⟨y,w2,rfl,sw2,dw2,ym⟩:=one_ex [x,min hi (x+4),hi] hc2 (by omega) (by obtain ⟨f,hg⟩:=dw;exact ⟨f,by rw [get_new_ne _ _ _ (by omega)];exact hg⟩) (by simp only [new_n];omega) (by simp only [new_n];omega) (get_new_eq _ _ _ rfl (by omega)) (by simp only [new_n];omega) (by omega) rfl (by omega) (by omega)
  have wn2:=sw2.n
  have wl2:=sw2.le
  simp only [new_n] at wn2 wl2
  have ym':x≤y∧y≤hi:=by
   simp only [List.mem_cons,List.not_mem_nil,or_false] at ym
   omega
  simp (disch:=first|omega|(with_unfolding_all exact rfl)|(simp only[new_n,put_n,new_m];omega)|(refine put_m_le ?_;simp only[new_m];omega)) only [res17,K17r0,K17r1,K17r2,K17r3,K17,Abs.W,reduceIte,Nat.reduceEqDiff,Nat.reduceAdd,decide_true,decide_false,kLoop_def,Nat.reduceSub,List.cons_append,List.nil_append,List.append_nil,List.length_cons,List.length_nil]
  generalize hc3:call _ _ _ (.fn 9) _ _=r3
  obtain ⟨z,w3,rfl,sw3,dw3,z0,z1⟩:=from_ex hc3 (by omega) dw2 (by omega) (by omega) (by omega) (by omega) (by omega) (by omega)
  have wn3:=sw3.n
  have wl3:=sw3.le
  have g:w3.h.get u.n=some (.cells [.int .i64 0,.int .i64 0] (tag 26)):=by
   rw [sw3.same _ (by omega) (by omega),sw2.same _ (by simp only [new_n];omega) (by omega),get_new_ne _ _ _ (by omega),sw.same _ (by simp only [new_n];omega) (by omega)]
   exact get_new_eq _ _ _ rfl (by omega)
  simp (disch:=first|omega|(with_unfolding_all exact rfl)|(simp only[new_n,put_n,new_m];omega)|(refine put_m_le ?_;simp only[new_m];omega)) only [res17,K17r0,K17r1,K17r2,K17r3,K17,Abs.W,reduceIte,Nat.reduceEqDiff,Nat.reduceAdd,decide_true,decide_false,kLoop_def,Nat.reduceSub,List.cons_append,List.nil_append,List.append_nil,List.length_cons,List.length_nil,g]
  have S1:Stir d u w3 2:=((((((Stir.refl d u).new _).trans sw).new _).trans sw2).trans sw3)
  refine ⟨_,_,leave_cell _ _ _ _ sh ?_,S1.put (by omega) _ (.inr (Nat.le_refl _)),rfl,⟨x,z,rfl,by omega,by omega,by omega⟩,?_⟩
  ·simp (disch:=first|omega|(with_unfolding_all exact rfl)|(simp only[new_n,put_n,new_m];omega)|(refine put_m_le ?_;simp only[new_m];omega)) only [Abs.W,reduceIte,Nat.reduceEqDiff,Nat.reduceAdd,decide_true,decide_false,kLoop_def,Nat.reduceSub,List.cons_append,List.nil_append,List.append_nil,List.length_cons,List.length_nil]
  ·obtain ⟨f,hg⟩:=dw3
   exact ⟨f,by rw [get_put_ne' _ _ _ _ (by omega)];exact hg⟩) (by omega)
 exact ⟨a,b,t,hr.symm.trans e,st,hd',x0,x1,x2⟩
end Go.Proofs.Ytkoefjgapmonaaa.walk
set_option maxRecDepth 10000
namespace Go.Proofs.Ytkoefjgapmonaaa.walk
open Go.Abs Go.Proofs.Ytkoefjgapmonaaa.code
end Go.Proofs.Ytkoefjgapmonaaa.walk
set_option maxRecDepth 10000
namespace Go.Abs
theorem aQuo_i64 (s:St) (a b:Int) (hb:b≠0) (h : -9223372036854775808≤a.tdiv b∧a.tdiv b≤9223372036854775807):aQuo s .i64 a b=.val (.int .i64 (a.tdiv b)) s:=by
 unfold aQuo
 rw [if_neg hb,wrap_in _ h]
end Go.Abs
namespace Go.Proofs.Ytkoefjgapmonaaa.walk
open Go.Abs Go.Proofs.Ytkoefjgapmonaaa.code
theorem Die.new {d:Nat} {s:St} (h:Die d s.h) (hd:d<s.n) (o:AObj):Die d (s.new o).h:=by obtain ⟨f,hf⟩:=h;exact ⟨f,by rw [get_new_ne _ _ _ (by omega)];exact hf⟩
theorem Die.put {d b:Nat} {s:St} (h:Die d s.h) (hd:d≠b) (o:AObj):Die d (s.put b o).h:=by obtain ⟨f,hf⟩:=h;exact ⟨f,by rw [get_put_ne' _ _ _ _ hd];exact hf⟩
theorem box_round (N:Nat) (hN:5≤N) (cx:Ctx) (d p7 lo i:Nat) (a b:Int) (v1:AV) (bs:List Box) (L:Env) (s:St) (hi:0<i) (hi6:i≤10) (hd:Die d s.h) (hdp:d<p7) (hp7:p7<lo) (hlo:lo≤s.n) (hs:s.n+1000≤far)
  (g7:s.h.get p7=some (.cells [.int .i64 a,.int .i64 b,v1,.nilslice,.nilslice] (tag 31))) (hR:Abs.Rows s.h lo s.n 9 (tag 53) (bs.map Box.cells) v1) (hbl:bs.length≤10)
  (l0:L.find 0=.ptr d 0) (l7:L.find 7=.ptr p7 0) (l8:L.find 8=.int .i64 i) :
  ∃ L1 s1 B v1',K5l0 (call Try.prog X N) cx L [] s=.done .norm L1 [] s1∧(∀ t,t=0∨t=2∨t=6∨t=7→L1.find t=L.find t)∧L1.find 8=.int .i64 ((i:Int) - 1)∧B.Ok∧B.room≤500∧Die d s1.h∧s1.h.get p7=some (.cells [.int .i64 a,.int .i64 b,v1',.nilslice,.nilslice] (tag 31)) ∧
   Abs.Rows s1.h lo s1.n 9 (tag 53) ((bs++[B]).map Box.cells) v1'∧(∀ c,c<lo→c≠d→c≠p7→s1.h.get c=s.h.get c)∧s.n≤s1.n∧s1.n≤s.n+20∧(d≤s.m→d≤s1.m)∧s1.m≤s.m:=by
 have hf:far=1000000000:=rfl
 have e0:decide ((0:Int)<(i:Int))=true:=by simp;omega
 obtain ⟨ok1,c1,sc1⟩:=hR.scalar
 simp (disch:=first|omega|(with_unfolding_all exact rfl)|(simp only[new_n,put_n,new_m];omega)|(refine put_m_le ?_;simp only[new_m];omega)) only [res5,K5r0,K5r1,K5r2,K5r3,K5r4,K5r5,K5r6,K5r7,K5r8,K5r9,K5l0,K5r10,K5r11,K5r12s7,K5r12s6,K5r12s5,K5r12s4,K5r12,K5r13,K5r14,K5r15,K5r16,K5l1,K5r17,K5r18,K5r19,K5r20,K5r21,K5r22,K5l2,K5r23,K5,Abs.W,reduceIte,Nat.reduceEqDiff,Nat.reduceAdd,decide_true,decide_false,kLoop_def,Nat.reduceSub,List.cons_append,List.nil_append,List.append_nil,List.length_cons,List.length_nil,Env.find_set,l0,l7,l8,e0]
 generalize hc1:call _ _ _ (.fn 10) _ _=r1
 obtain ⟨x1,t1,rfl,st1,d1,m1⟩:=one_ex [30,500] hc1 (by omega) (hd.new (by omega) _) (by simp only [new_n];omega) (by simp only [new_n];omega) (get_new_eq _ _ _ rfl (by omega)) (by simp only [new_n];omega) (by omega) rfl (by omega) (by omega)
 have x1r:x1=30∨x1=500:=by simpa using m1
 have n1:s.n+1≤t1.n:=st1.n
 have k1:t1.n≤s.n+1:=st1.le
 simp (disch:=first|omega|(with_unfolding_all exact rfl)|(simp only[new_n,put_n,new_m];omega)|(refine put_m_le ?_;simp only[new_m];omega)) only [res5,K5r0,K5r1,K5r2,K5r3,K5r4,K5r5,K5r6,K5r7,K5r8,K5r9,K5l0,K5r10,K5r11,K5r12s7,K5r12s6,K5r12s5,K5r12s4,K5r12,K5r13,K5r14,K5r15,K5r16,K5l1,K5r17,K5r18,K5r19,K5r20,K5r21,K5r22,K5l2,K5r23,K5,Abs.W,reduceIte,Nat.reduceEqDiff,Nat.reduceAdd,decide_true,decide_false,kLoop_def,Nat.reduceSub,List.cons_append,List.nil_append,List.append_nil,List.length_cons,List.length_nil,Env.find_set,l0,l7,l8]
 generalize hc2:call _ _ _ (.fn 9) _ _=r2
 obtain ⟨room,t2,rfl,st2,d2,r20,r21⟩:=from_ex hc2 (by omega) d1 (by omega) (by omega) (by omega) (by omega) (by omega) (by omega)
 have n2:t1.n≤t2.n:=st2.n
 have k2:t2.n≤t1.n:=st2.le
 have hroom:1≤room∧room≤500:=by omega
 simp (disch:=first|omega|(with_unfolding_all exact rfl)|(simp only[new_n,put_n,new_m];omega)|(refine put_m_le ?_;simp only[new_m];omega)) only [res5,K5r0,K5r1,K5r2,K5r3,K5r4,K5r5,K5r6,K5r7,K5r8,K5r9,K5l0,K5r10,K5r11,K5r12s7,K5r12s6,K5r12s5,K5r12s4,K5r12,K5r13,K5r14,K5r15,K5r16,K5l1,K5r17,K5r18,K5r19,K5r20,K5r21,K5r22,K5l2,K5r23,K5,Abs.W,reduceIte,Nat.reduceEqDiff,Nat.reduceAdd,decide_true,decide_false,kLoop_def,Nat.reduceSub,List.cons_append,List.nil_append,List.append_nil,List.length_cons,List.length_nil,Env.find_set,l0,l7,l8]
 obtain ⟨y,hy⟩:∃ y:St,y=(t2.new (.cells [.int .i64 0,.int .i64 0,.int .i64 0,.int .i64 0,.int .i64 0,.int .i64 0,.int .i64 0,.int .i64 0,.int .i64 0] (tag 53))).put t2.n (.cells [.int .i64 room,.int .i64 0,.int .i64 0,.int .i64 0,.int .i64 0,.int .i64 0,.int .i64 0,.int .i64 0,.int .i64 0] (tag 53)):=⟨_,rfl⟩
 rw [← hy]
 have yn:y.n=t2.n+1:=by rw [hy];rfl
 have ym:y.m=min t2.m t2.n:=by rw [hy];simp only [St.put,minN_eq,new_m]
 have yg:∀ c,c≠t2.n→y.h.get c=t2.h.get c:=fun c hc=>by rw [hy,get_put_ne' _ _ _ _ hc,get_new_ne _ _ _ hc]
 have yp:y.h.get t2.n=some (.cells [.int .i64 room,.int .i64 0,.int .i64 0,.int .i64 0,.int .i64 0,.int .i64 0,.int .i64 0,.int .i64 0,.int .i64 0] (tag 53)):=by rw [hy];exact get_put_eq _ _ _ _ rfl (by omega)
 have dy:Die d y.h:=by obtain ⟨f,hf'⟩:=d2;exact ⟨f,by rw [yg _ (by omega)];exact hf'⟩
 generalize hc3:call _ _ _ (.fn 17) _ _=r3
 obtain ⟨il,ih,t3,rfl,st3,d3,i0,i1,i2⟩:=span_ex hc3 (by omega) dy (by show d<y.n;omega) (by show y.n+300≤far;omega) (by omega) (by omega) (by omega)
 have n3:y.n≤t3.n:=st3.n
 have k3:t3.n≤y.n+2:=st3.le
 have p3:t3.h.get t2.n=y.h.get t2.n:=st3.same t2.n (by show t2.n<y.n;omega) (by omega)
 have p3':=p3.trans yp
 have q3:∀ s,aQuo s .i64 room 4=.val (.int .i64 (room / 4)) s:=fun s=>by
  rw [aQuo_i64 _ _ _ (by omega) (by rw [Int.tdiv_eq_ediv_of_nonneg (by omega)];omega),Int.tdiv_eq_ediv_of_nonneg (by omega)]
 have a3:∀ s,aAdd s .i64 1 (room / 4)=.val (.int .i64 (1+room / 4)) s:=fun s=>aAdd_i64 s _ _ (by omega)
 simp (disch:=first|omega|(with_unfolding_all exact rfl)|(simp only[new_n,put_n,new_m];omega)|(refine put_m_le ?_;simp only[new_m];omega)) only [res5,K5r0,K5r1,K5r2,K5r3,K5r4,K5r5,K5r6,K5r7,K5r8,K5r9,K5l0,K5r10,K5r11,K5r12s7,K5r12s6,K5r12s5,K5r12s4,K5r12,K5r13,K5r14,K5r15,K5r16,K5l1,K5r17,K5r18,K5r19,K5r20,K5r21,K5r22,K5l2,K5r23,K5,Abs.W,reduceIte,Nat.reduceEqDiff,Nat.reduceAdd,decide_true,decide_false,kLoop_def,Nat.reduceSub,List.cons_append,List.nil_append,List.append_nil,List.length_cons,List.length_nil,Env.find_set,l0,l7,l8,thenT_turn,p3',q3,a3]
 generalize hc4:call _ _ _ (.fn 10) _ _=r4
 obtain ⟨x4,t4,rfl,st4,d4,m4⟩:=one_ex [2,1+room / 4] hc4 (by omega) (Die.new (s:=⟨t3.h,t3.n,minN y.m t3.m⟩) d3 (by show d<t3.n;omega) _) (by show d<t3.n+1;omega) (by show t3.n+1+200≤far;omega) (get_new_eq _ _ _ rfl (by show t3.n<_;omega)) (by show t3.n<t3.n+1;omega) (by show t3.n≠d;omega) rfl (by omega) (by omega)
 have x4r:x4=2∨x4=1+room / 4:=by simpa using m4
 have n4:t3.n+1≤t4.n:=st4.n
 have k4:t4.n≤t3.n+1:=st4.le
 have p4:∀ c,c<t3.n→c≠d→t4.h.get c=t3.h.get c:=fun c hc hcd=>by rw [st4.same c (by show c<t3.n+1;omega) hcd,get_new_ne _ _ _ (by show c≠t3.n;omega)]
 simp (disch:=first|omega|(with_unfolding_all exact rfl)|(simp only[new_n,put_n,new_m];omega)|(refine put_m_le ?_;simp only[new_m];omega)) only [res5,K5r0,K5r1,K5r2,K5r3,K5r4,K5r5,K5r6,K5r7,K5r8,K5r9,K5l0,K5r10,K5r11,K5r12s7,K5r12s6,K5r12s5,K5r12s4,K5r12,K5r13,K5r14,K5r15,K5r16,K5l1,K5r17,K5r18,K5r19,K5r20,K5r21,K5r22,K5l2,K5r23,K5,Abs.W,reduceIte,Nat.reduceEqDiff,Nat.reduceAdd,decide_true,decide_false,kLoop_def,Nat.reduceSub,List.cons_append,List.nil_append,List.append_nil,List.length_cons,List.length_nil,Env.find_set,l0,l7,l8,thenT_turn]
 generalize hc5:call _ _ _ (.fn 17) _ _=r5
 obtain ⟨ml,mh,t5,rfl,st5,d5,ml0,ml1,ml2⟩:=span_ex hc5 (by omega) d4 (by omega) (by omega) (by omega) (by omega) (by omega)
 have n5:t4.n≤t5.n:=st5.n
 have k5:t5.n≤t4.n+2:=st5.le
 have p5':t5.h.get t2.n=some (.cells [.int .i64 room,.int .i64 0,.int .i64 0,.int .i64 0,.int .i64 0,.int .i64 0,.int .i64 0,.int .i64 0,.int .i64 0] (tag 53)):=(st5.same _ (by omega) (by omega)).trans ((p4 _ (by omega) (by omega)).trans p3')
 simp (disch:=first|omega|(with_unfolding_all exact rfl)|(simp only[new_n,put_n,new_m];omega)|(refine put_m_le ?_;simp only[new_m];omega)) only [res5,K5r0,K5r1,K5r2,K5r3,K5r4,K5r5,K5r6,K5r7,K5r8,K5r9,K5l0,K5r10,K5r11,K5r12s7,K5r12s6,K5r12s5,K5r12s4,K5r12,K5r13,K5r14,K5r15,K5r16,K5l1,K5r17,K5r18,K5r19,K5r20,K5r21,K5r22,K5l2,K5r23,K5,Abs.W,reduceIte,Nat.reduceEqDiff,Nat.reduceAdd,decide_true,decide_false,kLoop_def,Nat.reduceSub,List.cons_append,List.nil_append,List.append_nil,List.length_cons,List.length_nil,Env.find_set,l0,l7,l8,p5',Nat.zero_add,Nat.add_zero]
 rw [endT_kept (by simp only [keptAll_cons,keptAll_nil,find_cons,keptV_ptr,yp,p3',sameO_cells,reduceIte,Nat.reduceEqDiff,Bool.and_self])]
 obtain ⟨z1,hz1⟩:∃ z1:St,z1=(t5.put t2.n (.cells [.int .i64 room,.int .i64 il,.int .i64 ih,.int .i64 0,.int .i64 0,.int .i64 0,.int .i64 0,.int .i64 0,.int .i64 0] (tag 53))).put t2.n (.cells [.int .i64 room,.int .i64 il,.int .i64 ih,.int .i64 ml,.int .i64 mh,.int .i64 0,.int .i64 0,.int .i64 0,.int .i64 0] (tag 53)):=⟨_,rfl⟩
 rw [← hz1]
 have z1n:z1.n=t5.n:=by rw [hz1];rfl
 have z1m:z1.m=min (min t5.m t2.n) t2.n:=by rw [hz1];simp only [St.put,minN_eq]
 have z1g:∀ c,c≠t2.n→z1.h.get c=t5.h.get c:=fun c hc=>by rw [hz1,get_put_ne' _ _ _ _ hc,get_put_ne' _ _ _ _ hc]
 have z1p:z1.h.get t2.n=some (.cells [.int .i64 room,.int .i64 il,.int .i64 ih,.int .i64 ml,.int .i64 mh,.int .i64 0,.int .i64 0,.int .i64 0,.int .i64 0] (tag 53)):=by rw [hz1];exact get_put_eq _ _ _ _ rfl (by omega)
 have dz1:Die d z1.h:=by obtain ⟨f,hf'⟩:=d5;exact ⟨f,by rw [z1g _ (by omega)];exact hf'⟩
 simp (disch:=first|omega|(with_unfolding_all exact rfl)|(simp only[new_n,put_n,new_m];omega)|(refine put_m_le ?_;simp only[new_m];omega)) only [res5,K5r0,K5r1,K5r2,K5r3,K5r4,K5r5,K5r6,K5r7,K5r8,K5r9,K5l0,K5r10,K5r11,K5r12s7,K5r12s6,K5r12s5,K5r12s4,K5r12,K5r13,K5r14,K5r15,K5r16,K5l1,K5r17,K5r18,K5r19,K5r20,K5r21,K5r22,K5l2,K5r23,K5,Abs.W,reduceIte,Nat.reduceEqDiff,Nat.reduceAdd,decide_true,decide_false,kLoop_def,Nat.reduceSub,List.cons_append,List.nil_append,List.append_nil,List.length_cons,List.length_nil,Env.find_set,l0,l7,l8,endO_nil,regD_ok]
 generalize hc6:call _ _ _ (.fn 17) _ _=r6
 obtain ⟨cl,ch,t6,rfl,st6,d6,cl0,cl1,cl2⟩:=span_ex hc6 (by omega) dz1 (by omega) (by omega) (by omega) (by omega) (by omega)
 have n6:z1.n≤t6.n:=st6.n
 have k6:t6.n≤z1.n+2:=st6.le
 have p6':t6.h.get t2.n=some (.cells [.int .i64 room,.int .i64 il,.int .i64 ih,.int .i64 ml,.int .i64 mh,.int .i64 0,.int .i64 0,.int .i64 0,.int .i64 0] (tag 53)):=(st6.same _ (by omega) (by omega)).trans z1p
 have a6:∀ s,aAdd s .i64 ch 120=.val (.int .i64 (ch+120)) s:=fun s=>aAdd_i64 s _ _ (by omega)
 simp (disch:=first|omega|(with_unfolding_all exact rfl)|(simp only[new_n,put_n,new_m];omega)|(refine put_m_le ?_;simp only[new_m];omega)) only [res5,K5r0,K5r1,K5r2,K5r3,K5r4,K5r5,K5r6,K5r7,K5r8,K5r9,K5l0,K5r10,K5r11,K5r12s7,K5r12s6,K5r12s5,K5r12s4,K5r12,K5r13,K5r14,K5r15,K5r16,K5l1,K5r17,K5r18,K5r19,K5r20,K5r21,K5r22,K5l2,K5r23,K5,Abs.W,reduceIte,Nat.reduceEqDiff,Nat.reduceAdd,decide_true,decide_false,kLoop_def,Nat.reduceSub,List.cons_append,List.nil_append,List.append_nil,List.length_cons,List.length_nil,Env.find_set,l0,l7,l8,p6',a6,Nat.reduceAdd,Nat.zero_add]
 obtain ⟨z2,hz2⟩:∃ z2:St,z2=t6.put t2.n (.cells [.int .i64 room,.int .i64 il,.int .i64 ih,.int .i64 ml,.int .i64 mh,.int .i64 cl,.int .i64 ch,.int .i64 0,.int .i64 0] (tag 53)):=⟨_,rfl⟩
 rw [← hz2]
 have z2n:z2.n=t6.n:=by rw [hz2];rfl
 have z2m:z2.m=min t6.m t2.n:=by rw [hz2];simp only [St.put,minN_eq]
 have z2g:∀ c,c≠t2.n→z2.h.get c=t6.h.get c:=fun c hc=>by rw [hz2,get_put_ne' _ _ _ _ hc]
 have z2p:z2.h.get t2.n=some (.cells [.int .i64 room,.int .i64 il,.int .i64 ih,.int .i64 ml,.int .i64 mh,.int .i64 cl,.int .i64 ch,.int .i64 0,.int .i64 0] (tag 53)):=by rw [hz2];exact get_put_eq _ _ _ _ rfl (by omega)
 have dz2:Die d z2.h:=by obtain ⟨f,hf'⟩:=d6;exact ⟨f,by rw [z2g _ (by omega)];exact hf'⟩
 generalize hc7:call _ _ _ (.fn 17) _ _=r7
 obtain ⟨wl,wh,t7,rfl,st7,d7,wl0,wl1,wl2⟩:=span_ex hc7 (by omega) dz2 (by omega) (by omega) (by omega) (by omega) (by omega)
 have n7:z2.n≤t7.n:=st7.n
 have k7:t7.n≤z2.n+2:=st7.le
 have p7':t7.h.get t2.n=some (.cells [.int .i64 room,.int .i64 il,.int .i64 ih,.int .i64 ml,.int .i64 mh,.int .i64 cl,.int .i64 ch,.int .i64 0,.int .i64 0] (tag 53)):=(st7.same _ (by omega) (by omega)).trans z2p
 obtain ⟨z3,hz3⟩:∃ z3:St,z3=t7.put t2.n (.cells [.int .i64 room,.int .i64 il,.int .i64 ih,.int .i64 ml,.int .i64 mh,.int .i64 cl,.int .i64 ch,.int .i64 wl,.int .i64 wh] (tag 53)):=⟨_,rfl⟩
 have z3n:z3.n=t7.n:=by rw [hz3];rfl
 have z3m:z3.m=min t7.m t2.n:=by rw [hz3];simp only [St.put,minN_eq]
 have z3g:∀ c,c≠t2.n→z3.h.get c=t7.h.get c:=fun c hc=>by rw [hz3,get_put_ne' _ _ _ _ hc]
 have z3p:z3.h.get t2.n=some (.cells [.int .i64 room,.int .i64 il,.int .i64 ih,.int .i64 ml,.int .i64 mh,.int .i64 cl,.int .i64 ch,.int .i64 wl,.int .i64 wh] (tag 53)):=by rw [hz3];exact get_put_eq _ _ _ _ rfl (by omega)
 have back:∀ c,c<s.n→c≠d→z3.h.get c=s.h.get c:=fun c hc hcd=>by
  rw [z3g c (by omega),st7.same c (by omega) hcd,z2g c (by omega),st6.same c (by omega) hcd,z1g c (by omega),st5.same c (by omega) hcd,p4 c (by omega) hcd,st3.same c (by show c<y.n;omega) hcd]
  show y.h.get c=_
  rw [yg c (by omega),st2.same c (by omega) hcd,st1.same c (by simp only [new_n];omega) hcd,get_new_ne _ _ _ (by omega)]
 have dz3:Die d z3.h:=by obtain ⟨f,hf'⟩:=d7;exact ⟨f,by rw [z3g _ (by omega)];exact hf'⟩
 have g73:z3.h.get p7=some (.cells [.int .i64 a,.int .i64 b,v1,.nilslice,.nilslice] (tag 31)):=(back p7 (by omega) (by omega)).trans g7
 obtain ⟨B,hB⟩:∃ B:Box,B=⟨room,il,ih,ml,mh,cl,ch,wl,wh⟩:=⟨_,rfl⟩
 have hBc:B.cells=[.int .i64 room,.int .i64 il,.int .i64 ih,.int .i64 ml,.int .i64 mh,.int .i64 cl,.int .i64 ch,.int .i64 wl,.int .i64 wh]:=by rw [hB];rfl
 have hR3:Abs.Rows (z3.new (.cells B.cells 0)).h lo (z3.new (.cells B.cells 0)).n 9 (tag 53) (bs.map Box.cells) v1:=hR.mono (fun c hc hcn=>by rw [get_new_ne _ _ _ (by omega)];exact back c hcn (by omega)) (by simp only [new_n];omega)
 obtain ⟨v1',s8,e8,r8,n8,low8,_,m8,mm8,_⟩:=append_row (bytes:=72) (row:=B.cells) hR3 (get_new_eq _ _ _ rfl (by omega)) (by rw [hBc];rfl) (by rw [hBc];rfl) (by rw [List.length_map];omega) (by kernel_rfl) (by simp only [new_n];omega) (by simp only [new_n];omega)
 obtain ⟨ok8,c8,sc8⟩:=r8.scalar
 have sn8:scalars [v1']=true:=by rw [sc8];rfl
 rw [hBc] at e8
 have g78:s8.h.get p7=some (.cells [.int .i64 a,.int .i64 b,v1,.nilslice,.nilslice] (tag 31)):=by rw [low8 p7 hp7,get_new_ne _ _ _ (by omega)];exact g73
 have a8:∀ s,aSub s .i64 (i:Int) 1=.val (.int .i64 ((i:Int) - 1)) s:=fun s=>aSub_i64 s _ _ (by omega)
 simp (disch:=first|omega|(with_unfolding_all exact rfl)|(simp only[new_n,put_n,new_m];omega)|(refine put_m_le ?_;simp only[new_m];omega)) only [res5,K5r0,K5r1,K5r2,K5r3,K5r4,K5r5,K5r6,K5r7,K5r8,K5r9,K5l0,K5r10,K5r11,K5r12s7,K5r12s6,K5r12s5,K5r12s4,K5r12,K5r13,K5r14,K5r15,K5r16,K5l1,K5r17,K5r18,K5r19,K5r20,K5r21,K5r22,K5l2,K5r23,K5,Abs.W,reduceIte,Nat.reduceEqDiff,Nat.reduceAdd,decide_true,decide_false,kLoop_def,Nat.reduceSub,List.cons_append,List.nil_append,List.append_nil,List.length_cons,List.length_nil,Env.find_set,l0,l7,l8,p7',Nat.reduceAdd,Nat.zero_add]
 have g77:=(z3g p7 (by omega)).symm.trans g73
 rw [← hz3]
 simp (disch:=first|omega|(with_unfolding_all exact rfl)|(simp only[new_n,put_n,new_m];omega)|(refine put_m_le ?_;simp only[new_m];omega)) only [res5,K5r0,K5r1,K5r2,K5r3,K5r4,K5r5,K5r6,K5r7,K5r8,K5r9,K5l0,K5r10,K5r11,K5r12s7,K5r12s6,K5r12s5,K5r12s4,K5r12,K5r13,K5r14,K5r15,K5r16,K5l1,K5r17,K5r18,K5r19,K5r20,K5r21,K5r22,K5l2,K5r23,K5,Abs.W,reduceIte,Nat.reduceEqDiff,Nat.reduceAdd,decide_true,decide_false,kLoop_def,Nat.reduceSub,List.cons_append,List.nil_append,List.append_nil,List.length_cons,List.length_nil,Env.find_set,l0,l7,l8,z3p,g73,g77,ok1,e8,g78,c8,sn8,a8,Nat.reduceAdd,Nat.zero_add]
 simp only [new_n] at n8
 refine ⟨_,_,B,v1',rfl,fun t ht=>?_,by simp only [Env.find_set,reduceIte,Nat.reduceEqDiff],?_,by rw [hB];exact hroom.2,?_,get_put_eq _ _ _ _ rfl (by omega),?_,fun c hc hcd hcp=>?_,?_,?_,fun hm=>?_,?_⟩
 ·rcases ht with rfl | rfl | rfl | rfl<;>simp only [Env.find_set,reduceIte,Nat.reduceEqDiff]
 ·rw [hB];constructor<;>simp only<;>omega
 ·obtain ⟨f,hf'⟩:=dz3
  exact ⟨f,by rw [get_put_ne' _ _ _ _ (by omega),low8 d (by omega),get_new_ne _ _ _ (by omega)];exact hf'⟩
 ·rw [List.map_append]
  exact r8.mono (fun c hc _=>get_put_ne' _ _ _ _ (by omega)) (Nat.le_refl _)
 ·rw [get_put_ne' _ _ _ _ hcp,low8 c hc,get_new_ne _ _ _ (by omega)];exact back c (by omega) hcd
 ·simp only [put_n];omega
 ·simp only [put_n];omega
 ·have h1:=st1.m (by rw [new_m];exact hm)
  have h2:=st2.m h1
  have h3:=st3.m (show d≤far by omega)
  have h4:d≤t4.m:=st4.m (by show d≤minN y.m t3.m;rw [minN_eq];omega)
  have h5:=st5.m h4
  have h6:=st6.m (by omega)
  have h7:=st7.m (by omega)
  have h8:=m8 d (by omega) (by rw [new_m];omega)
  simp only [St.put,minN_eq];omega
 ·have h1:=st1.mle
  have h2:=st2.mle
  rw [new_m] at h1
  have h4:t4.m≤minN y.m t3.m:=st4.mle
  rw [minN_eq] at h4
  have h5:=st5.mle
  have h6:=st6.mle
  have h7:=st7.mle
  rw [new_m] at mm8
  simp only [St.put,minN_eq];omega
end Go.Proofs.Ytkoefjgapmonaaa.walk
