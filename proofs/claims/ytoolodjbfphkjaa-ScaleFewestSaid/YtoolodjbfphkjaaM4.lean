/- Whether a plan keeps all sealed, as the statement asks it. -/
import Derived.Test.YtoolodjbfphkjaaM3
import Derived.Test.YtoolodjbfphkjaaProg
import Derived.Tactics
import Derived.Tactics2
import Derived.WalkKit
import Derived.OpenShut
import Derived.Below
import Derived.Lib.Hide
import Derived.KernelRfl
import Derived.Deep.RegionHeld3
import Derived.OwnWalk
import Derived.StillTailTactics
import Derived.Test.YtoolodjbfphkjaaAbsTop
import Derived.Test.YtoolodjbfphkjaaAbsWalk
import Derived.Test.YtoolodjbfphkjaaAwake
import Derived.Test.YtoolodjbfphkjaaWalkAll
set_option linter.unusedSimpArgs false
set_option maxHeartbeats 16000000
set_option linter.unusedVariables false
set_option maxRecDepth 10000
namespace Go.Proofs.Ytoolodjbfphkjaa.walk
open Go.Abs Go.Proofs.Ytoolodjbfphkjaa.code
theorem tRow_at {h:Heap} {m n:Nat} {x:List Nat} {v:AV} (r:RowsAt h m 2 (tRows n x) v) {i:Nat} (hi:i<x.length):∃ b p c sz,b<m∧(∀ s,ixsA 2 s v (.int .i64 (i:Int))=.val (.ptr b p) s)∧h.get b=some (.cells c sz)∧nth c p=.int .i64 ((x[i] / n:Nat):Int)∧nth c (p+1)=.int .i64 ((x[i] % n:Nat):Int)∧cut p 2 c=some (tRow n x[i]):=by
 obtain ⟨b,p,c,sz,h1,h2,h3,h4⟩:=r.at_ i (by rw [tRows_len];exact hi)
 have e:(tRows n x)[i]'(by rw [tRows_len];exact hi)=tRow n x[i]:=by unfold tRows;rw [List.getElem_map]
 rw [e] at h4
 have c0:=cut_nth h4 (i:=0) (by omega)
 have c1:=cut_nth h4 (i:=1) (by omega)
 exact ⟨b,p,c,sz,h1,h2,h3,c0,c1,h4⟩
theorem tLen {h:Heap} {m n:Nat} {x:List Nat} {v:AV} (r:RowsAt h m 2 (tRows n x) v) (s:St):lenSlA s v=.val (.int .i64 (x.length:Int)) s:=by
 have:=r.len s
 rwa [tRows_len] at this
structure SeenAt (t:St) (u:Nat) (s:Sl) (x:List Nat) (vL vE v:AV):Prop where
 box:t.h.get u=some (.cells (sealV s vL vE) (tag 48))
 sl:SealAt t.h t.n s vL vE
 rows:RowsAt t.h t.n 2 (tRows s.n x) v
 lt:u<t.n
 far:t.n≤Abs.far
 m:t.m≤Abs.far
theorem seal_count {s:Sl} (N:Nat) {cx:Ctx} {t:St} {u d:Nat} {x:List Nat} {vL vE v:AV} {L:Env} {r:R} (hr:loopN K15l0 rounds (call Try.prog X N) cx L [] t=r) (T:SeenAt t u s x vL vE v) (hx:x.length≤100) (hd:d≤100) (q1:L.find 1=v) (q2:L.find 2=.ptr u 0) (q5:L.find 5=.int .i64 (d:Int)) (q6:L.find 6=.int .i64 0) (q7:L.find 7=.int .i64 0) :
  ∃ L1,r=.done (.exit 2) L1 [] t∧L1.find 6=.int .i64 ((s.many x d:Nat):Int)∧L1.find 1=v∧L1.find 2=.ptr u 0∧L1.find 5=.int .i64 (d:Int):=by
 have hf:far=1000000000:=rfl
 have kv:∀ t,okA (.val v t)=.val v t:=fun t=>okA_ne T.rows.ne
 have lv:=tLen T.rows
 have tfar:=T.far
 obtain ⟨e,L1,t1,rfl,rfl,rfl,h6,h1,h2,h5⟩:=loop_of hr (fun i L w=>w=t∧L.find 1=v∧L.find 2=.ptr u 0∧L.find 5=.int .i64 (d:Int)∧L.find 6=.int .i64 (((x.take i).countP fun a=>a / s.n == d:Nat):Int)∧L.find 7=.int .i64 (i:Int))
  (fun e L w=>e=.exit 2∧w=t∧L.find 6=.int .i64 ((s.many x d:Nat):Int)∧L.find 1=v∧L.find 2=.ptr u 0∧L.find 5=.int .i64 (d:Int)) x.length (by unfold rounds;omega)
  ⟨rfl,q1,q2,q5,q6,q7⟩
  (fun i L w hi ⟨rfl,q1,q2,q5,q6,q7⟩=>by
   by_cases hlt:i<x.length
   ·have e0:decide ((i:Int)<(x.length:Int))=true:=decide_eq_true (by omega)
    obtain ⟨pb,pp,pc,pz,x1,x2,x3,x4,x5,_⟩:=tRow_at T.rows hlt
    have ad1:∀ st,aAdd st .i64 (i:Int) 1=.val (.int .i64 ((i+1:Nat):Int)) st:=fun st=>aAdd_i64 st _ _ (by omega)
    have hc:(x.take i).countP (fun a=>a / s.n == d)≤100:=Nat.le_trans List.countP_le_length (by rw [List.length_take];omega)
    have hstep:(x.take (i+1)).countP (fun a=>a / s.n == d)=(x.take i).countP (fun a=>a / s.n == d)+if x[i] / s.n=d then 1 else 0:=by
     rw [List.take_succ_eq_append_getElem hlt,List.countP_append,List.countP_cons,List.countP_nil]
     simp
    generalize (x.take i).countP (fun a=>a / s.n == d)=C at *
    have ad2:∀ st,aAdd st .i64 (C:Int) 1=.val (.int .i64 ((C+1:Nat):Int)) st:=fun st=>aAdd_i64 st _ _ (by omega)
    by_cases hq:x[i] / s.n=d
    ·have e1:decide (((x[i] / s.n:Nat):Int)=(d:Int))=true:=decide_eq_true (by omega)
     rw [if_pos hq] at hstep
     refine .inl ⟨hlt,_,w,by
      simp (disch:=first|omega|(with_unfolding_all exact rfl)|(simp only[new_n,put_n,new_m];omega)|(refine put_m_le ?_;simp only[new_m];omega)) only [K15l0,K15r5,K15r6,K15r7,K15r8,Abs.W,reduceIte,Nat.reduceEqDiff,Nat.reduceAdd,decide_true,decide_false,kLoop_def,Nat.reduceSub,List.cons_append,List.nil_append,List.append_nil,List.length_cons,List.length_nil,Env.find_set,q1,q5,q6,q7,kv,lv,e0,x2,x3,x4,e1,ad1,ad2,Nat.add_zero,Nat.zero_add]
      rfl,rfl,?_,?_,?_,?_,?_⟩
     ·simp only [Env.find_set,q1,reduceIte,Nat.reduceEqDiff]
     ·simp only [Env.find_set,q2,reduceIte,Nat.reduceEqDiff]
     ·simp only [Env.find_set,q5,reduceIte,Nat.reduceEqDiff]
     ·simp only [Env.find_set,reduceIte,Nat.reduceEqDiff];rw [hstep]
     ·simp only [Env.find_set,reduceIte,Nat.reduceEqDiff]
    ·have e1:decide (((x[i] / s.n:Nat):Int)=(d:Int))=false:=decide_eq_false (by omega)
     rw [if_neg hq] at hstep
     refine .inl ⟨hlt,_,w,by
      simp (disch:=first|omega|(with_unfolding_all exact rfl)|(simp only[new_n,put_n,new_m];omega)|(refine put_m_le ?_;simp only[new_m];omega)) only [K15l0,K15r5,K15r6,K15r8,Abs.W,reduceIte,Nat.reduceEqDiff,Nat.reduceAdd,decide_true,decide_false,kLoop_def,Nat.reduceSub,List.cons_append,List.nil_append,List.append_nil,List.length_cons,List.length_nil,Env.find_set,q1,q5,q6,q7,kv,lv,e0,x2,x3,x4,e1,ad1,Nat.add_zero,Nat.zero_add]
      rfl,rfl,?_,?_,?_,?_,?_⟩
     ·simp only [Env.find_set,q1,reduceIte,Nat.reduceEqDiff]
     ·simp only [Env.find_set,q2,reduceIte,Nat.reduceEqDiff]
     ·simp only [Env.find_set,q5,reduceIte,Nat.reduceEqDiff]
     ·simp only [Env.find_set,q6,reduceIte,Nat.reduceEqDiff];rw [hstep];rfl
     ·simp only [Env.find_set,reduceIte,Nat.reduceEqDiff]
   ·have e0:decide ((i:Int)<(x.length:Int))=false:=decide_eq_false (by omega)
    obtain rfl:i=x.length:=by omega
    rw [List.take_length] at q6
    refine .inr ⟨.exit 2,_,w,by simp,by
     simp (disch:=first|omega|(with_unfolding_all exact rfl)|(simp only[new_n,put_n,new_m];omega)|(refine put_m_le ?_;simp only[new_m];omega)) only [K15l0,K15r5,Abs.W,reduceIte,Nat.reduceEqDiff,Nat.reduceAdd,decide_true,decide_false,kLoop_def,Nat.reduceSub,List.cons_append,List.nil_append,List.append_nil,List.length_cons,List.length_nil,Env.find_set,q1,q7,kv,lv,e0,Nat.zero_add]
     rfl,rfl,rfl,?_,?_,?_,?_⟩
    ·simp only [Env.find_set,q6,reduceIte,Nat.reduceEqDiff];rfl
    ·simp only [Env.find_set,q1,reduceIte,Nat.reduceEqDiff]
    ·simp only [Env.find_set,q2,reduceIte,Nat.reduceEqDiff]
    ·simp only [Env.find_set,q5,reduceIte,Nat.reduceEqDiff])
 exact ⟨L1,rfl,h6,h1,h2,h5⟩
def oneB (s:Sl) (d k a:Nat):Bool:=(a % s.n == k) && decide (a / s.n≤d) && decide ((d:Int) - ((a / s.n:Nat):Int)≤s.ev k)
theorem take_any {α:Type} (p:α→Bool) {x:List α} {i:Nat} (h:i<x.length):(x.take (i+1)).any p=((x.take i).any p || p x[i]):=by
 rw [List.take_succ_eq_append_getElem h,List.any_append];simp
theorem seal_kept {s:Sl} (ok:s.Ok) (N:Nat) {cx:Ctx} {t:St} {u d k:Nat} {b0:Bool} {x:List Nat} {vL vE v:AV} {L:Env} {r:R} (hr:loopN K15l1 rounds (call Try.prog X N) cx L [] t=r) (T:SeenAt t u s x vL vE v) (hx:x.length≤100) (hd:d≤100) (hk:k<s.n) (hxs:∀ a ∈ x,a≤1000) (q1:L.find 1=v) (q2:L.find 2=.ptr u 0) (q5:L.find 5=.int .i64 (d:Int)) (q8:L.find 8=.int .i64 (k:Int)) (q9:L.find 9=.bool b0) (q10:L.find 10=.int .i64 0) :
  ∃ L1,r=.done (.exit 6) L1 [] t∧L1.find 9=.bool (b0 || x.any (oneB s d k))∧L1.find 1=v∧L1.find 2=.ptr u 0∧L1.find 5=.int .i64 (d:Int)∧L1.find 8=.int .i64 (k:Int):=by
 have hf:far=1000000000:=rfl
 have hn:=ok.n
 have kv:∀ t,okA (.val v t)=.val v t:=fun t=>okA_ne T.rows.ne
 have lv:=tLen T.rows
 have tfar:=T.far
 have gb:=T.box
 have kE:∀ t,okA (.val vE t)=.val vE t:=fun t=>okA_ne T.sl.e.ne
 have hev:=ok_ev ok k
 obtain ⟨eb,ep,ec,ez,y1,y2,y3,y4⟩:=intRow_at T.sl.e (i:=k) (by rw [two_len hn];exact hk)
 rw [two_get hn _ _ hk] at y4
 have y4':nth ec ep=.int .i64 (s.ev k):=y4
 have u3:=eqP3 K15r16s3.eq_1
 have u4:=eqP3 K15r16s4.eq_1
 have u5:=eqP3 K15r16s5.eq_1
 have u6:=eqP3 K15r16s6.eq_1
 have u7:=eqP3 K15r16s7.eq_1
 have u8:=eqP3 K15r16s8.eq_1
 have u9:=eqP3 K15r16s9.eq_1
 have u10:=eqP3 K15r16s10.eq_1
 have u11:=eqP3 K15r16s11.eq_1
 have u12:=eqP3 K15r16s12.eq_1
 have u13:=eqP3 K15r16s13.eq_1
 have u14:=eqP3 K15r16s14.eq_1
 have u15:=eqP3 K15r16s15.eq_1
 have u16:=eqP3 K15r16s16.eq_1
 have u17:=eqP3 K15r16s17.eq_1
 have u18:=eqP3 K15r16s18.eq_1
 have u19:=eqP3 K15r16s19.eq_1
 have u20:=eqP3 K15r16s20.eq_1
 have u21:=eqP3 K15r16s21.eq_1
 have u22:=eqP3 K15r16s22.eq_1
 have u23:=eqP3 K15r16s23.eq_1
 have u24:=eqP3 K15r16s24.eq_1
 have u25:=eqP3 K15r16s25.eq_1
 have u26:=eqP3 K15r16s26.eq_1
 have u27:=eqP3 K15r16s27.eq_1
 have u28:=eqP3 K15r16s28.eq_1
 have u29:=eqP3 K15r16s29.eq_1
 have u30:=eqP3 K15r16s30.eq_1
 have u31:=eqP3 K15r16s31.eq_1
 have u32:=eqP3 K15r16s32.eq_1
 have u33:=eqP3 K15r16s33.eq_1
 obtain ⟨e,L1,t1,rfl,rfl,rfl,h9,h1,h2,h5,h8⟩:=loop_of hr (fun i L w=>w=t∧L.find 1=v∧L.find 2=.ptr u 0∧L.find 5=.int .i64 (d:Int)∧L.find 8=.int .i64 (k:Int)∧L.find 9=.bool (b0 || (x.take i).any (oneB s d k))∧L.find 10=.int .i64 (i:Int))
  (fun e L w=>e=.exit 6∧w=t∧L.find 9=.bool (b0 || x.any (oneB s d k))∧L.find 1=v∧L.find 2=.ptr u 0∧L.find 5=.int .i64 (d:Int)∧L.find 8=.int .i64 (k:Int)) x.length (by unfold rounds;omega)
  ⟨rfl,q1,q2,q5,q8,by rw [q9];simp,q10⟩
  (fun i L w hi ⟨rfl,q1,q2,q5,q8,q9,q10⟩=>by
   by_cases hlt:i<x.length
   ·have e0:decide ((i:Int)<(x.length:Int))=true:=decide_eq_true (by omega)
    obtain ⟨pb,pp,pc,pz,x1,x2,x3,x4,x5,_⟩:=tRow_at T.rows hlt
    have ad1:∀ st,aAdd st .i64 (i:Int) 1=.val (.int .i64 ((i+1:Nat):Int)) st:=fun st=>aAdd_i64 st _ _ (by omega)
    have hstep:=take_any (oneB s d k) hlt
    have hone:oneB s d k x[i]=((decide (((x[i] % s.n:Nat):Int)=(k:Int))) && decide (((x[i] / s.n:Nat):Int)≤(d:Int)) && decide ((d:Int) - ((x[i] / s.n:Nat):Int)≤s.ev k)):=by
     unfold oneB
     have h1:(x[i] % s.n == k)=decide (((x[i] % s.n:Nat):Int)=(k:Int)):=by
      by_cases h:x[i] % s.n=k
      ·rw [h];simp
      ·rw [decide_eq_false (by omega)];simpa using h
     have h2:decide (x[i] / s.n≤d)=decide (((x[i] / s.n:Nat):Int)≤(d:Int)):=by
      by_cases h:x[i] / s.n≤d
      ·rw [decide_eq_true h,decide_eq_true (by omega)]
      ·rw [decide_eq_false h,decide_eq_false (by omega)]
     rw [h1,h2]
    have hdiv:x[i] / s.n≤1000:=Nat.le_trans (Nat.div_le_self _ _) (hxs _ (List.getElem_mem hlt))
    generalize x[i] / s.n=D at *
    generalize x[i] % s.n=M at *
    have sb:∀ st,aSub st .i64 (d:Int) (D:Int)=.val (.int .i64 ((d:Int) - (D:Int))) st:=fun st=>aSub_i64 st _ _ (by omega)
    obtain ⟨b1,hb1⟩:∃ b,decide ((M:Int)=(k:Int))=b:=⟨_,rfl⟩
    obtain ⟨b2,hb2⟩:∃ b,decide ((D:Int)≤(d:Int))=b:=⟨_,rfl⟩
    obtain ⟨b3,hb3⟩:∃ b,decide ((d:Int) - (D:Int)≤s.ev k)=b:=⟨_,rfl⟩
    rw [hb1,hb2,hb3] at hone
    rw [hone] at hstep
    obtain ⟨B,hB⟩:∃ B,(b0 || (x.take i).any (oneB s d k))=B:=⟨_,rfl⟩
    rw [hB] at q9
    have hfin:(b0 || (x.take (i+1)).any (oneB s d k))=(B || (b1 && b2 && b3)):=by rw [hstep,← Bool.or_assoc,hB]
    refine .inl ⟨hlt,?_⟩
    suffices main:∃ L1,K15l1 (call Try.prog X N) cx L [] w=.done .norm L1 [] w∧L1.find 9=.bool (B || (b1 && b2 && b3))∧L1.find 1=v∧L1.find 2=.ptr u 0∧L1.find 5=.int .i64 (d:Int)∧L1.find 8=.int .i64 (k:Int)∧L1.find 10=.int .i64 ((i+1:Nat):Int) by
     obtain ⟨L1,g0,g9,g1,g2,g5,g8,g10⟩:=main
     exact ⟨L1,w,g0,rfl,g1,g2,g5,g8,by rw [hfin];exact g9,g10⟩
    clear hfin hstep hone
    cases B
    case true =>
     refine ⟨_,by
      simp (config:={ maxSteps:=1000000 }) (disch:=first|omega|(with_unfolding_all exact rfl)|(simp only[new_n,put_n,new_m];omega)|(refine put_m_le ?_;simp only[new_m];omega)) only [K15l1,K15r15,K15r16,K15r17,u3,u4,u5,u6,u7,u8,u9,u10,u11,u12,u13,u14,u15,u16,u17,u18,u19,u20,u21,u22,u23,u24,u25,u26,u27,u28,u29,u30,u31,u32,u33,Abs.W,reduceIte,Nat.reduceEqDiff,Nat.reduceAdd,decide_true,decide_false,kLoop_def,Nat.reduceSub,List.cons_append,List.nil_append,List.append_nil,List.length_cons,List.length_nil,Env.find_set,q1,q2,q5,q8,q9,q10,gb,kv,lv,kE,e0,x2,x3,x4,x5,y2,y3,y4',hb1,hb2,hb3,sb,ad1,endO_nil,regD_ok,Nat.add_zero,Nat.zero_add]
      rfl,?_,?_,?_,?_,?_,?_⟩
     ·simp only [Env.find_set,reduceIte,Nat.reduceEqDiff];rfl
     ·simp only [Env.find_set,q1,reduceIte,Nat.reduceEqDiff]
     ·simp only [Env.find_set,q2,reduceIte,Nat.reduceEqDiff]
     ·simp only [Env.find_set,q5,reduceIte,Nat.reduceEqDiff]
     ·simp only [Env.find_set,q8,reduceIte,Nat.reduceEqDiff]
     ·simp only [Env.find_set,reduceIte,Nat.reduceEqDiff]
    case false =>
     cases b1
     case false =>
      refine ⟨_,by
       simp (config:={ maxSteps:=1000000 }) (disch:=first|omega|(with_unfolding_all exact rfl)|(simp only[new_n,put_n,new_m];omega)|(refine put_m_le ?_;simp only[new_m];omega)) only [K15l1,K15r15,K15r16,K15r17,u3,u4,u5,u6,u7,u8,u9,u10,u11,u12,u13,u14,u15,u16,u17,u18,u19,u20,u21,u22,u23,u24,u25,u26,u27,u28,u29,u30,u31,u32,u33,Abs.W,reduceIte,Nat.reduceEqDiff,Nat.reduceAdd,decide_true,decide_false,kLoop_def,Nat.reduceSub,List.cons_append,List.nil_append,List.append_nil,List.length_cons,List.length_nil,Env.find_set,q1,q2,q5,q8,q9,q10,gb,kv,lv,kE,e0,x2,x3,x4,x5,y2,y3,y4',hb1,hb2,hb3,sb,ad1,endO_nil,regD_ok,Nat.add_zero,Nat.zero_add]
       rfl,?_,?_,?_,?_,?_,?_⟩
      ·simp only [Env.find_set,reduceIte,Nat.reduceEqDiff];rfl
      ·simp only [Env.find_set,q1,reduceIte,Nat.reduceEqDiff]
      ·simp only [Env.find_set,q2,reduceIte,Nat.reduceEqDiff]
      ·simp only [Env.find_set,q5,reduceIte,Nat.reduceEqDiff]
      ·simp only [Env.find_set,q8,reduceIte,Nat.reduceEqDiff]
      ·simp only [Env.find_set,reduceIte,Nat.reduceEqDiff]
     case true =>
      cases b2
      case false =>
       refine ⟨_,by
        simp (config:={ maxSteps:=1000000 }) (disch:=first|omega|(with_unfolding_all exact rfl)|(simp only[new_n,put_n,new_m];omega)|(refine put_m_le ?_;simp only[new_m];omega)) only [K15l1,K15r15,K15r16,K15r17,u3,u4,u5,u6,u7,u8,u9,u10,u11,u12,u13,u14,u15,u16,u17,u18,u19,u20,u21,u22,u23,u24,u25,u26,u27,u28,u29,u30,u31,u32,u33,Abs.W,reduceIte,Nat.reduceEqDiff,Nat.reduceAdd,decide_true,decide_false,kLoop_def,Nat.reduceSub,List.cons_append,List.nil_append,List.append_nil,List.length_cons,List.length_nil,Env.find_set,q1,q2,q5,q8,q9,q10,gb,kv,lv,kE,e0,x2,x3,x4,x5,y2,y3,y4',hb1,hb2,hb3,sb,ad1,endO_nil,regD_ok,Nat.add_zero,Nat.zero_add]
        rfl,?_,?_,?_,?_,?_,?_⟩
       ·simp only [Env.find_set,reduceIte,Nat.reduceEqDiff];rfl
       ·simp only [Env.find_set,q1,reduceIte,Nat.reduceEqDiff]
       ·simp only [Env.find_set,q2,reduceIte,Nat.reduceEqDiff]
       ·simp only [Env.find_set,q5,reduceIte,Nat.reduceEqDiff]
       ·simp only [Env.find_set,q8,reduceIte,Nat.reduceEqDiff]
       ·simp only [Env.find_set,reduceIte,Nat.reduceEqDiff]
      case true =>
       refine ⟨_,by
        simp (config:={ maxSteps:=1000000 }) (disch:=first|omega|(with_unfolding_all exact rfl)|(simp only[new_n,put_n,new_m];omega)|(refine put_m_le ?_;simp only[new_m];omega)) only [K15l1,K15r15,K15r16,K15r17,u3,u4,u5,u6,u7,u8,u9,u10,u11,u12,u13,u14,u15,u16,u17,u18,u19,u20,u21,u22,u23,u24,u25,u26,u27,u28,u29,u30,u31,u32,u33,Abs.W,reduceIte,Nat.reduceEqDiff,Nat.reduceAdd,decide_true,decide_false,kLoop_def,Nat.reduceSub,List.cons_append,List.nil_append,List.append_nil,List.length_cons,List.length_nil,Env.find_set,q1,q2,q5,q8,q9,q10,gb,kv,lv,kE,e0,x2,x3,x4,x5,y2,y3,y4',hb1,hb2,hb3,sb,ad1,endO_nil,regD_ok,Nat.add_zero,Nat.zero_add]
        rfl,?_,?_,?_,?_,?_,?_⟩
       ·simp only [Env.find_set,reduceIte,Nat.reduceEqDiff];rfl
       ·simp only [Env.find_set,q1,reduceIte,Nat.reduceEqDiff]
       ·simp only [Env.find_set,q2,reduceIte,Nat.reduceEqDiff]
       ·simp only [Env.find_set,q5,reduceIte,Nat.reduceEqDiff]
       ·simp only [Env.find_set,q8,reduceIte,Nat.reduceEqDiff]
       ·simp only [Env.find_set,reduceIte,Nat.reduceEqDiff]
   ·have e0:decide ((i:Int)<(x.length:Int))=false:=decide_eq_false (by omega)
    obtain rfl:i=x.length:=by omega
    rw [List.take_length] at q9
    refine .inr ⟨.exit 6,_,w,by simp,by
     simp (disch:=first|omega|(with_unfolding_all exact rfl)|(simp only[new_n,put_n,new_m];omega)|(refine put_m_le ?_;simp only[new_m];omega)) only [K15l1,K15r15,Abs.W,reduceIte,Nat.reduceEqDiff,Nat.reduceAdd,decide_true,decide_false,kLoop_def,Nat.reduceSub,List.cons_append,List.nil_append,List.append_nil,List.length_cons,List.length_nil,Env.find_set,q1,q10,kv,lv,e0,Nat.zero_add]
     rfl,rfl,rfl,?_,?_,?_,?_,?_⟩
    ·simp only [Env.find_set,q9,reduceIte,Nat.reduceEqDiff]
    ·simp only [Env.find_set,q1,reduceIte,Nat.reduceEqDiff]
    ·simp only [Env.find_set,q2,reduceIte,Nat.reduceEqDiff]
    ·simp only [Env.find_set,q5,reduceIte,Nat.reduceEqDiff]
    ·simp only [Env.find_set,q8,reduceIte,Nat.reduceEqDiff])
 exact ⟨L1,rfl,h9,h1,h2,h5,h8⟩
end Go.Proofs.Ytoolodjbfphkjaa.walk
set_option maxRecDepth 10000
namespace Go.Proofs.Ytoolodjbfphkjaa.walk
open Go.Abs Go.Proofs.Ytoolodjbfphkjaa.code
theorem range_all (p:Nat→Bool) (k:Nat):(List.range (k+1)).all p=((List.range k).all p && p k):=by
 rw [List.range_succ,List.all_append];simp
theorem all_false {p:Nat→Bool} {k n:Nat} (h:k<n) (hp:p k=false):(List.range n).all p=false:=by
 cases hq:(List.range n).all p with
 | false=>rfl
 | true =>
  have:=List.all_eq_true.mp hq k (List.mem_range.mpr h)
  rw [hp] at this;cases this
theorem seal_scales {s:Sl} (ok:s.Ok) (N:Nat) {cx:Ctx} {t:St} {u d:Nat} {x:List Nat} {vL vE v:AV} {L:Env} {r:R} (hr:loopN K15l2 rounds (call Try.prog X N) cx L [] t=r) (T:SeenAt t u s x vL vE v) (hx:x.length≤100) (hd:d≤100) (hxs:∀ a ∈ x,a≤1000) (q1:L.find 1=v) (q2:L.find 2=.ptr u 0) (q5:L.find 5=.int .i64 (d:Int)) (q8:L.find 8=.int .i64 0) :
  ∃ e L1,r=.done e L1 [] t∧((e=.exit 4∧(List.range s.n).all (s.keptB x d)=true∧L1.find 1=v∧L1.find 2=.ptr u 0∧L1.find 5=.int .i64 (d:Int))∨(e=.ret∧(List.range s.n).all (s.keptB x d)=false∧L1.find 4=.bool false)):=by
 have hf:far=1000000000:=rfl
 have hn:=ok.n
 have tfar:=T.far
 have gb:=T.box
 have kL:∀ t,okA (.val vL t)=.val vL t:=fun t=>okA_ne T.sl.l.ne
 have ll:=T.sl.lenL hn
 obtain ⟨e,L1,t1,rfl,rfl,hQ⟩:=loop_of hr (fun i L w=>w=t∧L.find 1=v∧L.find 2=.ptr u 0∧L.find 5=.int .i64 (d:Int)∧L.find 8=.int .i64 (i:Int)∧(List.range i).all (s.keptB x d)=true)
  (fun e L w=>w=t∧((e=.exit 4∧(List.range s.n).all (s.keptB x d)=true∧L.find 1=v∧L.find 2=.ptr u 0∧L.find 5=.int .i64 (d:Int))∨(e=.ret∧(List.range s.n).all (s.keptB x d)=false∧L.find 4=.bool false))) s.n (by unfold rounds;omega)
  ⟨rfl,q1,q2,q5,q8,rfl⟩
  (fun i L w hi ⟨hw,q1,q2,q5,q8,hall⟩=>by
   subst hw
   by_cases hlt:i<s.n
   ·have e0:decide ((i:Int)<(s.n:Int))=true:=decide_eq_true (by omega)
    obtain ⟨pb,pp,pc,pz,x1,x2,x3,x4⟩:=intRow_at T.sl.l (i:=i) (by rw [two_len hn];exact hlt)
    rw [two_get hn _ _ hlt] at x4
    have x4':nth pc pp=.int .i64 (s.lf i):=x4
    have ad1:∀ st,aAdd st .i64 (i:Int) 1=.val (.int .i64 ((i+1:Nat):Int)) st:=fun st=>aAdd_i64 st _ _ (by omega)
    have hstep:=range_all (s.keptB x d) i
    have hkept:s.keptB x d i=(decide ((d:Int)≤s.lf i) || x.any (oneB s d i)):=rfl
    obtain ⟨b0,hb0⟩:∃ b,decide ((d:Int)≤s.lf i)=b:=⟨_,rfl⟩
    rw [hb0] at hkept
    have nt:∀ (b:Bool) st,notA st (.bool b)=.val (.bool !b) st:=fun _ _=>rfl
    suffices main:∃ e L1,K15l2 (call Try.prog X N) cx L [] w=.done e L1 [] w∧((e=.norm∧s.keptB x d i=true∧L1.find 1=v∧L1.find 2=.ptr u 0∧L1.find 5=.int .i64 (d:Int)∧L1.find 8=.int .i64 ((i+1:Nat):Int))∨(e=.ret∧s.keptB x d i=false∧L1.find 4=.bool false)) by
     obtain ⟨e,L1,g0,⟨rfl,g1,g2,g3,g4,g5⟩ | ⟨rfl,g1,g2⟩⟩:=main
     ·exact .inl ⟨hlt,L1,w,g0,rfl,g2,g3,g4,g5,by rw [hstep,hall,g1];rfl⟩
     ·exact .inr ⟨.ret,L1,w,by simp,g0,rfl,.inr ⟨rfl,all_false hlt g1,g2⟩⟩
    simp (disch:=first|omega|(with_unfolding_all exact rfl)|(simp only[new_n,put_n,new_m];omega)|(refine put_m_le ?_;simp only[new_m];omega)) only [K15l2,K15r12,K15r13,K15r14,Abs.W,reduceIte,Nat.reduceEqDiff,Nat.reduceAdd,decide_true,decide_false,kLoop_def,Nat.reduceSub,List.cons_append,List.nil_append,List.append_nil,List.length_cons,List.length_nil,Env.find_set,q1,q2,q5,q8,gb,kL,ll,e0,x2,x3,x4',hb0,Nat.zero_add]
    generalize hlp:loopN _ rounds _ _ _ _ _=rl
    obtain ⟨L2,rfl,h9,h1,h2,h5,h8⟩:=seal_kept ok N (k:=i) (b0:=b0) hlp T hx hd hlt hxs (by simp only [Env.find_set,q1,reduceIte,Nat.reduceEqDiff]) (by simp only [Env.find_set,q2,reduceIte,Nat.reduceEqDiff]) (by simp only [Env.find_set,q5,reduceIte,Nat.reduceEqDiff]) (by simp only [Env.find_set,q8,reduceIte,Nat.reduceEqDiff]) (by simp only [Env.find_set,reduceIte,Nat.reduceEqDiff]) (by simp only [Env.find_set,reduceIte,Nat.reduceEqDiff])
    rw [← hkept] at h9
    generalize s.keptB x d i=kb at *
    cases kb with
    | true =>
     simp (disch:=first|omega|(with_unfolding_all exact rfl)|(simp only[new_n,put_n,new_m];omega)|(refine put_m_le ?_;simp only[new_m];omega)) only [K15r18,K15r20,Abs.W,reduceIte,Nat.reduceEqDiff,Nat.reduceAdd,decide_true,decide_false,kLoop_def,Nat.reduceSub,List.cons_append,List.nil_append,List.append_nil,List.length_cons,List.length_nil,Env.find_set,h9,h8,nt,ad1]
     refine ⟨_,_,rfl,.inl ⟨rfl,by trivial,?_,?_,?_,?_⟩⟩
     ·simp only [Env.find_set,h1,reduceIte,Nat.reduceEqDiff]
     ·simp only [Env.find_set,h2,reduceIte,Nat.reduceEqDiff]
     ·simp only [Env.find_set,h5,reduceIte,Nat.reduceEqDiff]
     ·simp only [Env.find_set,reduceIte,Nat.reduceEqDiff]
    | false =>
     simp (disch:=first|omega|(with_unfolding_all exact rfl)|(simp only[new_n,put_n,new_m];omega)|(refine put_m_le ?_;simp only[new_m];omega)) only [K15r18,K15r19,Abs.W,reduceIte,Nat.reduceEqDiff,Nat.reduceAdd,decide_true,decide_false,kLoop_def,Nat.reduceSub,List.cons_append,List.nil_append,List.append_nil,List.length_cons,List.length_nil,Env.find_set,h9,h8,nt,ad1]
     refine ⟨_,_,rfl,.inr ⟨rfl,by trivial,?_⟩⟩
     simp only [Env.find_set,reduceIte,Nat.reduceEqDiff]
   ·have e0:decide ((i:Int)<(s.n:Int))=false:=decide_eq_false (by omega)
    obtain rfl:i=s.n:=by omega
    refine .inr ⟨.exit 4,_,w,by simp,by
     simp (disch:=first|omega|(with_unfolding_all exact rfl)|(simp only[new_n,put_n,new_m];omega)|(refine put_m_le ?_;simp only[new_m];omega)) only [K15l2,K15r12,Abs.W,reduceIte,Nat.reduceEqDiff,Nat.reduceAdd,decide_true,decide_false,kLoop_def,Nat.reduceSub,List.cons_append,List.nil_append,List.append_nil,List.length_cons,List.length_nil,Env.find_set,q2,q8,gb,kL,ll,e0,Nat.zero_add]
     rfl,rfl,.inl ⟨rfl,hall,?_,?_,?_⟩⟩
    ·simp only [Env.find_set,q1,reduceIte,Nat.reduceEqDiff]
    ·simp only [Env.find_set,q2,reduceIte,Nat.reduceEqDiff]
    ·simp only [Env.find_set,q5,reduceIte,Nat.reduceEqDiff])
 exact ⟨e,L1,rfl,hQ⟩
theorem sealed_ok {s:Sl} (ok:s.Ok) (N:Nat) (hN:1≤N) {x:List Nat} {vL vE v:AV} (t:St) (hS:SealAt t.h t.n s vL vE) (hR:RowsAt t.h t.n 2 (tRows s.n x) v) (hx:x.length≤100) (hxs:∀ a ∈ x,a≤1000) (ht:t.n+100≤far):call Try.prog X N (.fn 15) [.agg (sealV s vL vE),v] t=.val (.bool (s.sealB x)) t:=by
 obtain ⟨N,rfl⟩:∃ n,N=n+1:=⟨N - 1,by omega⟩
 have hf:far=1000000000:=rfl
 have hn:=ok.n
 have od:=ok.days
 have om:=ok.most
 refine call_plain' Try.func15 (fun w wh wn wm=>?_) rfl
 rw [← wh,← wn] at hS hR
 have scS:=hS.scal
 obtain ⟨w1,hw1⟩:∃ x:St,x=(w.new (.cells (sealV s vL vE) (tag 48))):=⟨_,rfl⟩
 have n1:w1.n=w.n+1:=by rw [hw1];rfl
 have m1:w1.m=far:=by rw [hw1];exact wm
 have w1g:∀ c,c<w.n→w1.h.get c=w.h.get c:=fun c hc=>by rw [hw1,get_new_ne _ _ _ (by omega)]
 have T:SeenAt w1 w.n s x vL vE v:=⟨by rw [hw1];exact get_new_eq _ _ _ rfl (by omega),hS.grow w1g (by omega),hR.grow w1g (by omega),by omega,by omega,by omega⟩
 have gb:=T.box
 have tfar:=T.far
 rw [enter15]
 simp (disch:=first|omega|(with_unfolding_all exact rfl)|(simp only[new_n,put_n,new_m];omega)|(refine put_m_le ?_;simp only[new_m];omega)) only [K15,K15r0,K15r1,Abs.W,reduceIte,Nat.reduceEqDiff,Nat.reduceAdd,decide_true,decide_false,kLoop_def,Nat.reduceSub,List.cons_append,List.nil_append,List.append_nil,List.length_cons,List.length_nil,Env.find_set,scS,Nat.zero_add]
 rw [← hw1]
 generalize hlp:loopN _ rounds _ _ _ _ _=q1
 obtain ⟨e,L1,t1,rfl,rfl,hQ⟩:=loop_of hlp (fun i L t=>t=w1∧L.find 1=v∧L.find 2=.ptr w.n 0∧L.find 5=.int .i64 (i:Int)∧(List.range i).all (s.dayB x)=true)
  (fun e L t=>t=w1∧((e=.exit 0∧s.sealB x=true)∨(e=.ret∧s.sealB x=false∧L.find 4=.bool false))) (s.days+1) (by unfold rounds;omega)
  ⟨rfl,by simp only [find_cons,Env.find_set,reduceIte,Nat.reduceEqDiff],by simp only [find_cons,Env.find_set,reduceIte,Nat.reduceEqDiff],by simp only [find_cons,Env.find_set,reduceIte,Nat.reduceEqDiff];rfl,rfl⟩
  (fun i L t hi ⟨ht,q1,q2,q5,hall⟩=>by
   subst ht
   by_cases hlt:i<s.days+1
   ·have e0:decide ((i:Int)≤(s.days:Int))=true:=decide_eq_true (by omega)
    have ad1:∀ st,aAdd st .i64 (i:Int) 1=.val (.int .i64 ((i+1:Nat):Int)) st:=fun st=>aAdd_i64 st _ _ (by omega)
    have hstep:=range_all (s.dayB x) i
    have hday:s.dayB x i=(decide (s.many x i≤s.most) && (List.range s.n).all (s.keptB x i)):=rfl
    suffices main:∃ e L1,K15l3 (call Try.prog X N) ⟨15,none,Try.f15.ntmps,X 15⟩ L [] t=.done e L1 [] t∧((e=.norm∧s.dayB x i=true∧L1.find 1=v∧L1.find 2=.ptr w.n 0∧L1.find 5=.int .i64 ((i+1:Nat):Int))∨(e=.ret∧s.dayB x i=false∧L1.find 4=.bool false)) by
     obtain ⟨e,L1,g0,⟨rfl,g1,g2,g3,g4⟩ | ⟨rfl,g1,g2⟩⟩:=main
     ·exact .inl ⟨hlt,L1,t,g0,rfl,g2,g3,g4,by rw [hstep,hall,g1];rfl⟩
     ·exact .inr ⟨.ret,L1,t,by simp,g0,rfl,.inr ⟨rfl,all_false hlt g1,g2⟩⟩
    simp (disch:=first|omega|(with_unfolding_all exact rfl)|(simp only[new_n,put_n,new_m];omega)|(refine put_m_le ?_;simp only[new_m];omega)) only [K15l3,K15r2,K15r3,K15r4,Abs.W,reduceIte,Nat.reduceEqDiff,Nat.reduceAdd,decide_true,decide_false,kLoop_def,Nat.reduceSub,List.cons_append,List.nil_append,List.append_nil,List.length_cons,List.length_nil,Env.find_set,q1,q2,q5,gb,e0,Nat.zero_add]
    generalize hlp0:loopN _ rounds _ _ _ _ _=rl
    obtain ⟨L2,rfl,h6,h1,h2,h5⟩:=seal_count N (d:=i) hlp0 T hx (by omega) (by simp only [Env.find_set,q1,reduceIte,Nat.reduceEqDiff]) (by simp only [Env.find_set,q2,reduceIte,Nat.reduceEqDiff]) (by simp only [Env.find_set,q5,reduceIte,Nat.reduceEqDiff]) (by simp only [Env.find_set,reduceIte,Nat.reduceEqDiff]) (by simp only [Env.find_set,reduceIte,Nat.reduceEqDiff])
    by_cases hm:s.many x i≤s.most
    ·have em:decide ((s.most:Int)<((s.many x i:Nat):Int))=false:=decide_eq_false (by omega)
     rw [decide_eq_true hm,Bool.true_and] at hday
     simp (disch:=first|omega|(with_unfolding_all exact rfl)|(simp only[new_n,put_n,new_m];omega)|(refine put_m_le ?_;simp only[new_m];omega)) only [K15r9,K15r11,Abs.W,reduceIte,Nat.reduceEqDiff,Nat.reduceAdd,decide_true,decide_false,kLoop_def,Nat.reduceSub,List.cons_append,List.nil_append,List.append_nil,List.length_cons,List.length_nil,Env.find_set,h6,h1,h2,h5,gb,em,Nat.zero_add]
     generalize hlp2:loopN _ rounds _ _ _ _ _=rl2
     obtain ⟨e,L3,rfl,⟨rfl,g1,g2,g3,g4⟩ | ⟨rfl,g1,g2⟩⟩:=seal_scales ok N (d:=i) hlp2 T hx (by omega) hxs (by simp only [Env.find_set,h1,reduceIte,Nat.reduceEqDiff]) (by simp only [Env.find_set,h2,reduceIte,Nat.reduceEqDiff]) (by simp only [Env.find_set,h5,reduceIte,Nat.reduceEqDiff]) (by simp only [Env.find_set,reduceIte,Nat.reduceEqDiff])
     ·simp (disch:=first|omega|(with_unfolding_all exact rfl)|(simp only[new_n,put_n,new_m];omega)|(refine put_m_le ?_;simp only[new_m];omega)) only [K15r21,Abs.W,reduceIte,Nat.reduceEqDiff,Nat.reduceAdd,decide_true,decide_false,kLoop_def,Nat.reduceSub,List.cons_append,List.nil_append,List.append_nil,List.length_cons,List.length_nil,Env.find_set,g2,g3,g4,ad1]
      refine ⟨_,_,rfl,.inl ⟨rfl,hday.trans g1,?_,?_,?_⟩⟩
      ·simp only [Env.find_set,g2,reduceIte,Nat.reduceEqDiff]
      ·simp only [Env.find_set,g3,reduceIte,Nat.reduceEqDiff]
      ·simp only [Env.find_set,reduceIte,Nat.reduceEqDiff]
     ·simp (disch:=first|omega|(with_unfolding_all exact rfl)|(simp only[new_n,put_n,new_m];omega)|(refine put_m_le ?_;simp only[new_m];omega)) only [Abs.W,reduceIte,Nat.reduceEqDiff,Nat.reduceAdd,decide_true,decide_false,kLoop_def,Nat.reduceSub,List.cons_append,List.nil_append,List.append_nil,List.length_cons,List.length_nil,Env.find_set]
      exact ⟨_,_,rfl,.inr ⟨rfl,hday.trans g1,g2⟩⟩
    ·have em:decide ((s.most:Int)<((s.many x i:Nat):Int))=true:=decide_eq_true (by omega)
     rw [decide_eq_false hm,Bool.false_and] at hday
     simp (disch:=first|omega|(with_unfolding_all exact rfl)|(simp only[new_n,put_n,new_m];omega)|(refine put_m_le ?_;simp only[new_m];omega)) only [K15r9,K15r10,Abs.W,reduceIte,Nat.reduceEqDiff,Nat.reduceAdd,decide_true,decide_false,kLoop_def,Nat.reduceSub,List.cons_append,List.nil_append,List.append_nil,List.length_cons,List.length_nil,Env.find_set,h6,h1,h2,h5,gb,em,Nat.zero_add]
     refine ⟨_,_,rfl,.inr ⟨rfl,hday,?_⟩⟩
     simp only [Env.find_set,reduceIte,Nat.reduceEqDiff]
   ·have e0:decide ((i:Int)≤(s.days:Int))=false:=decide_eq_false (by omega)
    obtain rfl:i=s.days+1:=by omega
    exact .inr ⟨.exit 0,_,t,by simp,by
     simp (disch:=first|omega|(with_unfolding_all exact rfl)|(simp only[new_n,put_n,new_m];omega)|(refine put_m_le ?_;simp only[new_m];omega)) only [K15l3,K15r2,Abs.W,reduceIte,Nat.reduceEqDiff,Nat.reduceAdd,decide_true,decide_false,kLoop_def,Nat.reduceSub,List.cons_append,List.nil_append,List.append_nil,List.length_cons,List.length_nil,Env.find_set,q2,q5,gb,e0,Nat.zero_add]
     rfl,rfl,.inl ⟨rfl,hall⟩⟩)
 rcases hQ with ⟨rfl,h⟩ | ⟨rfl,h,h4⟩
 ·simp (disch:=first|omega|(with_unfolding_all exact rfl)|(simp only[new_n,put_n,new_m];omega)|(refine put_m_le ?_;simp only[new_m];omega)) only [K15r22,res15,Abs.W,reduceIte,Nat.reduceEqDiff,Nat.reduceAdd,decide_true,decide_false,kLoop_def,Nat.reduceSub,List.cons_append,List.nil_append,List.append_nil,List.length_cons,List.length_nil,Env.find_set]
  exact ⟨_,by rw [h],by omega⟩
 ·simp (disch:=first|omega|(with_unfolding_all exact rfl)|(simp only[new_n,put_n,new_m];omega)|(refine put_m_le ?_;simp only[new_m];omega)) only [res15,Abs.W,reduceIte,Nat.reduceEqDiff,Nat.reduceAdd,decide_true,decide_false,kLoop_def,Nat.reduceSub,List.cons_append,List.nil_append,List.append_nil,List.length_cons,List.length_nil,Env.find_set,h4]
  exact ⟨_,by rw [h],by omega⟩
end Go.Proofs.Ytoolodjbfphkjaa.walk
set_option maxRecDepth 10000
namespace Go.Abs
theorem append_ownP {s:St} {lo n0 w bytes tg:Nat} {rows:List (List AV)} {v:AV} (r:Own s.h lo n0 w tg rows v) (hn:n0≤s.n) {p sz:Nat} {row:List AV} (hp:s.h.get p=some (.cells row sz)) (hw:row.length=w) (hsc:scalars row=true)
  (hb:(rows.length+1) * bytes≤1000000) (htg:szOf (w+tg)=w) (hs:s.n<549755813888) :
  ∃ s',appendA false w bytes tg s v (.slice p 0 1 1 false)=.val (.slice s.n 0 (rows.length+1) (rows.length+1) true) s'∧IsAt s'.h s'.n s.n w tg (rows++[row]) (.slice s.n 0 (rows.length+1) (rows.length+1) true)∧s'.n=s.n+1∧(∀ c,c<s.n→(c<lo∨n0≤c)→s'.h.get c=s.h.get c)∧(∀ k,k≤lo→k≤s.n→k≤s.m→k≤s'.m)∧s'.m≤s.m:=by
 rcases r.is with ⟨h1,h2 | ⟨b,h0,h3,h4,h5⟩⟩ | ⟨h1,b,h0,h3,h4,h5⟩
 ·obtain ⟨s',e1,e2,e3,e4,e5,e6⟩:=append_at (bytes:=bytes) (⟨r.wide,.inl ⟨h1,h2⟩⟩:IsAt s.h s.n s.n w tg rows v) hp hw hsc hb htg hs
  exact ⟨s',e1,e2,e3,fun c hc _=>e4 c hc (by omega),fun k _ hk hm=>e5 k hk hk hm,e6⟩
 ·have bl:Blk s.h s.n b w tg rows v:=⟨r.wide,false,0,by rw [h4,h1];rfl,by omega,by rw [h5,h1];rfl,fun h=>by cases h⟩
  obtain ⟨s',e1,e2,e3,e4,e5,e6⟩:=append_blk (bytes:=bytes) bl hp hw hsc hb htg hs
  refine ⟨s',e1,⟨e2.wide,.inr ⟨by simp,by omega,by simp,?_⟩⟩,e3,fun c hc hl=>e4 c hc (by omega),fun k hk _ hm=>e5 k (by omega) hm,e6⟩
  obtain ⟨e,sz',z1,z2,z3,z4⟩:=e2.is
  injection z1 with _ _ _ _ z5
  rw [z3,z4 z5.symm]
 ·have bl:Blk s.h s.n b w tg rows v:=⟨r.wide,true,_,h4,by omega,h5,fun _=>rfl⟩
  obtain ⟨s',e1,e2,e3,e4,e5,e6⟩:=append_blk (bytes:=bytes) bl hp hw hsc hb htg hs
  refine ⟨s',e1,⟨e2.wide,.inr ⟨by simp,by omega,by simp,?_⟩⟩,e3,fun c hc hl=>e4 c hc (by omega),fun k hk _ hm=>e5 k (by omega) hm,e6⟩
  obtain ⟨e,sz',z1,z2,z3,z4⟩:=e2.is
  injection z1 with _ _ _ _ z5
  rw [z3,z4 z5.symm]
theorem own_apart {h:Heap} {lo n w tg c o:Nat} {rows:List (List AV)} {v:AV} (r:Own h lo n w tg rows v) (hc:c<lo):apartA v (.ptr c o)=true:=by
 rcases r.is with ⟨_,h2 | ⟨b,h0,_,h4,_⟩⟩ | ⟨_,b,h0,_,h4,_⟩
 ·subst h2;rfl
 ·subst h4;exact apart_slice (by omega)
 ·subst h4;exact apart_slice (by omega)
theorem call_newP {P:Program} {X:FuncId→List Nat} {n:Nat} {f:FuncId} {args:List AV} {s:St} {fn:Func} {k:Nat} {Q:AV→Heap→Nat→Prop} (hf:P.funcs[f]? = some fn) (hk:keepAll=true)
  (h:∀ u:St,u.h=s.h→u.n=s.n→u.m=far→∃ v s',enterA P X (Abs.call P X n) f args u fn=.val v s'∧Beside u s' k∧Q v s'.h s'.n∧(plain v=true→Q v s.h s.n)) :
  ∃ v t,Abs.call P X (n+1) (.fn f) args s=.val v t∧New s t k∧Q v t.h t.n∧(plain v=true→t=s):=by
 obtain ⟨v,s',h1,h2,h3,h4⟩:=h ⟨s.h,s.n,far⟩ rfl rfl rfl
 have hb:Nat.ble s.n s'.m=true:=Nat.ble_eq_true_of_le h2.m
 cases hp:plain v with
 | true =>
  refine ⟨v,s,?_,⟨fun _ _=>rfl,Nat.le_refl _,Nat.le_add_right _ _,rfl⟩,h4 hp,fun _=>rfl⟩
  show callStep P X (Abs.call P X n) (.fn f) args s=_
  unfold callStep
  simp only [hf,h1]
  unfold Abs.settle
  simp only [hb,hp]
  rfl
 | false =>
  refine ⟨v,⟨s'.h,s'.n,s.m⟩,?_,⟨h2.same,h2.n,h2.le,rfl⟩,h3,fun h=>by simp_all⟩
  show callStep P X (Abs.call P X n) (.fn f) args s=_
  unfold callStep
  simp only [hf,h1]
  unfold Abs.settle
  simp only [hb,hp,hk]
  rfl
end Go.Abs
namespace Go.Proofs.Ytoolodjbfphkjaa.walk
open Go.Abs Go.Proofs.Ytoolodjbfphkjaa.code
theorem aQuoP (s:St) (a b:Nat) (hb:b≠0) (h:a≤9223372036854775807):aQuo s .i64 (a:Int) (b:Int)=.val (.int .i64 ((a / b:Nat):Int)) s:=by
 unfold aQuo
 rw [if_neg (by omega)]
 have e:((a:Int).tdiv (b:Int))=((a / b:Nat):Int):=rfl
 have h1:=Nat.div_le_self a b
 rw [e,wrapA_eq]
 generalize a / b=q at *
 rw [IntWalk.i64_in _ (by omega)]
theorem aRemP (s:St) (a b:Nat) (hb:b≠0):aRem s .i64 (a:Int) (b:Int)=.val (.int .i64 ((a % b:Nat):Int)) s:=by
 rw [aRem_ne _ _ _ _ (by omega),Int.tmod_eq_emod_of_nonneg (by omega)]
 rfl
def nextF (l:List Nat):Nat:=match l.getLast? with
 | none=>0
 | some a=>a+1
theorem nextF_snoc (l:List Nat) (a:Nat):nextF (l++[a])=a+1:=by unfold nextF;rw [List.getLast?_concat]
theorem nextF_last {l:List Nat} (h:0<l.length):nextF l=l[l.length - 1]+1:=by
 unfold nextF
 rw [List.getLast?_eq_getElem?,List.getElem?_eq_getElem (by omega)]
def betSz (m:Nat):Nat:=300 * (m+1)
def BetAt (s:Sl) (m:Nat):Prop:=∀ {N:Nat} {l:List Nat} {vL vE v:AV} {t:St} {r:ARes},call Try.prog X N (.fn 16) [.agg (sealV s vL vE),v,.int .i64 (m:Int)] t=r→m+4≤N→SealAt t.h t.n s vL vE→Seq t.h t.n 2 (tRows s.n l) v→l.length+m≤20→(∀ a ∈ l,a<(s.days+1) * s.n)→t.n+betSz m+100≤far →
  ∃ w b t',r=.val (.tup [w,.bool b]) t'∧New t t' (betSz m)∧((s.bet m l (nextF l)=none∧b=false∧t'.n≤t.n+10)∨(∃ x,s.bet m l (nextF l)=some x∧b=true∧Seq t'.h t'.n 2 (tRows s.n x) w))
theorem K_le {s:Sl} (ok:s.Ok):(s.days+1) * s.n≤10∧1≤(s.days+1) * s.n:=by
 have:=ok.days
 rcases ok.n with hn | hn<;>rw [hn]<;>omega
theorem tRow_scal (n:Nat) (x:List Nat):∀ r ∈ tRows n x,scalars r=true:=fun r hr=>by
 obtain ⟨a,_,rfl⟩:=List.mem_map.mp hr
 rfl
theorem better_zero {s:Sl} (ok:s.Ok):BetAt s 0:=by
 intro N l vL vE v t r hr hN hS hR hl hK hs
 obtain ⟨N,rfl⟩:∃ n,N=n+1:=⟨N - 1,by omega⟩
 have hf:far=1000000000:=rfl
 have e300:betSz 0=300:=rfl
 have hk:=K_le ok
 have hbet:s.bet 0 l (nextF l)=if s.sealB l=true then some l else none:=rfl
 obtain ⟨v',t',e,st,⟨w,b,rfl,hle,hq⟩⟩:=call_new' (n:=N) (args:=[.agg (sealV s vL vE),v,.int .i64 ((0:Nat):Int)]) (s:=t) (k:=5) (Q:=fun v' h n=>∃ w b,v'=.tup [w,.bool b]∧n≤t.n+10∧((s.bet 0 l (nextF l)=none∧b=false)∨(∃ x,s.bet 0 l (nextF l)=some x∧b=true∧Seq h n 2 (tRows s.n x) w))) Try.func16 rfl (fun u uh un um=>by
  rw [← uh,← un] at hS hR
  rw [← un] at hs ⊢
  have scS:=hS.scal
  have kv:∀ t,okA (.val v t)=.val v t:=hR.scalar.1
  obtain ⟨w1,hw1⟩:∃ x:St,x=(u.new (.cells (sealV s vL vE) (tag 48))):=⟨_,rfl⟩
  have n1:w1.n=u.n+1:=by rw [hw1];rfl
  have m1:w1.m=far:=by rw [hw1];exact um
  have w1g:∀ c,c<u.n→w1.h.get c=u.h.get c:=fun c hc=>by rw [hw1,get_new_ne _ _ _ (by omega)]
  have w10:w1.h.get u.n=some (.cells (sealV s vL vE) (tag 48)):=by rw [hw1];exact get_new_eq _ _ _ rfl (by omega)
  have hR1:=hR.grow w1g (by omega:u.n≤w1.n)
  have hse:=sealed_ok ok N (by omega) w1 (hS.grow w1g (by omega)) hR1.at_ (by omega) (fun a ha=>by have:=hK a ha;omega) (by omega)
  have z0:decide (((0:Nat):Int)=0)=true:=rfl
  rw [enter16]
  simp (disch:=first|omega|(with_unfolding_all exact rfl)|(simp only[new_n,put_n,new_m];omega)|(refine put_m_le ?_;simp only[new_m];omega)) only [K16,K16r0,Abs.W,reduceIte,Nat.reduceEqDiff,Nat.reduceAdd,decide_true,decide_false,kLoop_def,Nat.reduceSub,List.cons_append,List.nil_append,List.append_nil,List.length_cons,List.length_nil,Env.find_set,scS,Nat.zero_add]
  rw [← hw1]
  simp (disch:=first|omega|(with_unfolding_all exact rfl)|(simp only[new_n,put_n,new_m];omega)|(refine put_m_le ?_;simp only[new_m];omega)) only [K16r1,K16r2,res16,Abs.W,reduceIte,Nat.reduceEqDiff,Nat.reduceAdd,decide_true,decide_false,kLoop_def,Nat.reduceSub,List.cons_append,List.nil_append,List.append_nil,List.length_cons,List.length_nil,Env.find_set,w10,hse,z0,scS,kv,leave_tt2,Nat.zero_add]
  have fin:∀ h n,Seq h n 2 (tRows s.n l) v→(s.bet 0 l (nextF l)=none∧s.sealB l=false)∨∃ x,s.bet 0 l (nextF l)=some x∧s.sealB l=true∧Seq h n 2 (tRows s.n x) v:=fun h n hq=>by
   rw [hbet]
   cases hb:s.sealB l with
   | true=>exact .inr ⟨l,by simp,rfl,hq⟩
   | false=>exact .inl ⟨by simp,rfl⟩
  exact ⟨_,_,rfl,⟨w1g,by omega,by omega,by omega,by omega⟩,⟨v,_,rfl,by omega,fin _ _ hR1⟩,fun _=>⟨v,_,rfl,by omega,fin _ _ (hR.grow (fun c _=>by rw [uh]) (by omega))⟩⟩)
 have sn:=st.n
 have sl:=st.le
 refine ⟨w,b,t',hr.symm.trans e,⟨st.same,sn,by omega,st.m⟩,?_⟩
 rcases hq with ⟨h1,h2⟩ | h
 ·exact .inl ⟨h1,h2,by omega⟩
 ·exact .inr h
theorem better_round {s:Sl} (ok:s.Ok) (m:Nat) (ih:BetAt s m) (N:Nat) (hN:m+4≤N) (cx:Ctx) {l:List Nat} {vL vE v:AV} {u t:St} {L:Env} {at_:Nat} (hS:SealAt u.h u.n s vL vE) (hR:Seq u.h u.n 2 (tRows s.n l) v) (hl:l.length+(m+1)≤20) (hK:∀ a ∈ l,a<(s.days+1) * s.n) (hat:at_<(s.days+1) * s.n) (g0:t.h.get u.n=some (.cells (sealV s vL vE) (tag 48))) (same:∀ c,c<u.n→t.h.get c=u.h.get c) (tn:u.n<t.n) (tm:u.n≤t.m) (tf:t.m≤far) (hs:t.n+betSz m+200≤far)
  (q1:L.find 1=v) (q2:L.find 2=.int .i64 ((m+1:Nat):Int)) (q3:L.find 3=.ptr u.n 0) (q8:L.find 8=.int .i64 (nextF l:Nat)) (q9:L.find 9=.int .i64 (at_:Int)) (hfr:nextF l≤at_) :
  ∃ e L1 t1,K16l0 (call Try.prog X N) cx L [] t=.done e L1 [] t1∧(∀ c,c<u.n→t1.h.get c=u.h.get c)∧t1.h.get u.n=some (.cells (sealV s vL vE) (tag 48))∧t.n≤t1.n∧u.n≤t1.m∧t1.m≤far ∧
   ((e=.norm∧s.bet m (l++[at_]) (at_+1)=none∧t1.n≤t.n+20∧L1.find 1=v∧L1.find 2=.int .i64 ((m+1:Nat):Int)∧L1.find 3=.ptr u.n 0∧L1.find 8=.int .i64 (nextF l:Nat)∧L1.find 9=.int .i64 ((at_:Int) - 1)) ∨
   (e=.ret∧∃ x w,s.bet m (l++[at_]) (at_+1)=some x∧L1.find 6=w∧L1.find 7=.bool true∧t1.n≤t.n+20+betSz m∧Seq t1.h t1.n 2 (tRows s.n x) w)):=by
 have hf:far=1000000000:=rfl
 have hn:=ok.n
 have hk:=K_le ok
 have scS:=hS.scal
 have kv:∀ t,okA (.val v t)=.val v t:=hR.scalar.1
 have kL:∀ t,okA (.val vL t)=.val vL t:=fun t=>okA_ne hS.l.ne
 have ll:=hS.lenL hn
 have hSt:SealAt t.h t.n s vL vE:=hS.grow same (by omega)
 have e0:decide (((nextF l:Nat):Int)≤(at_:Int))=true:=decide_eq_true (by omega)
 have qu:∀ st,aQuo st .i64 (at_:Int) (s.n:Int)=.val (.int .i64 ((at_ / s.n:Nat):Int)) st:=fun st=>aQuoP st at_ s.n (by omega) (by omega)
 have rm:∀ st,aRem st .i64 (at_:Int) (s.n:Int)=.val (.int .i64 ((at_ % s.n:Nat):Int)) st:=fun st=>aRemP st at_ s.n (by omega)
 have sb1:∀ st,aSub st .i64 ((m+1:Nat):Int) 1=.val (.int .i64 (m:Int)) st:=fun st=>by rw [aSub_i64 st _ _ (by omega)];congr 2;omega
 have sb2:∀ st,aSub st .i64 (at_:Int) 1=.val (.int .i64 ((at_:Int) - 1)) st:=fun st=>aSub_i64 st _ _ (by omega)
 obtain ⟨y,hy⟩:∃ y:St,y=t.new (.cells [] 0):=⟨_,rfl⟩
 have yn:y.n=t.n+1:=by rw [hy];rfl
 have ym:y.m=t.m:=by rw [hy];rfl
 have yg:∀ c,c<t.n→y.h.get c=t.h.get c:=fun c hc=>by rw [hy,get_new_ne _ _ _ (by omega)]
 have yu:∀ c,c<u.n→y.h.get c=u.h.get c:=fun c hc=>(yg c (by omega)).trans (same c hc)
 have yp:y.h.get t.n=some (.cells [] 0):=by rw [hy];exact get_new_eq _ _ _ rfl (by omega)
 obtain ⟨v4,s4,e4,own4,n4,n4',g4,m4,m4'⟩:=append_copy (bytes:=16) (tg:=tag 96) (hR.grow yu (by omega:u.n≤y.n)) yp (by omega) (tRow_scal s.n l) (by rw [tRows_len];omega) (by omega)
 have s4p:=(g4 u.n (by omega)).trans ((yg u.n tn).trans g0)
 have k4:∀ t,okA (.val v4 t)=.val v4 t:=own4.seq.scalar.1
 obtain ⟨z,hz⟩:∃ z:St,z=s4.new (.cells [.int .i64 ((at_ / s.n:Nat):Int),.int .i64 ((at_ % s.n:Nat):Int)] 0):=⟨_,rfl⟩
 have zn:z.n=s4.n+1:=by rw [hz];rfl
 have zm:z.m=s4.m:=by rw [hz];rfl
 have zg:∀ c,c<s4.n→z.h.get c=s4.h.get c:=fun c hc=>by rw [hz,get_new_ne _ _ _ (by omega)]
 have zp:z.h.get s4.n=some (.cells (tRow s.n at_) 0):=by rw [hz];exact get_new_eq _ _ _ rfl (by omega)
 obtain ⟨s5,e5,I5,n5,g5,m5,m5'⟩:=append_ownP (bytes:=16) (own4.mono (h':=z.h) (n':=s4.n) (fun c _ hc=>zg c hc) (Nat.le_refl _)) (by omega) zp rfl rfl (by rw [tRows_len];omega) (by kernel_rfl) (by omega)
 rw [tRows_len] at e5
 have hrow:tRows s.n l++[tRow s.n at_]=tRows s.n (l++[at_]):=by rw [tRows_app];rfl
 rw [hrow] at I5
 have s5g:∀ c,c<t.n→s5.h.get c=t.h.get c:=fun c hc=>(g5 c (by omega) (.inl hc)).trans ((zg c (by omega)).trans ((g4 c (by omega)).trans (yg c hc)))
 have s5u:∀ c,c<u.n→s5.h.get c=u.h.get c:=fun c hc=>(s5g c (by omega)).trans (same c hc)
 have hm4:=m4 u.n (by omega) (by omega)
 have hm5:=m5 u.n (by omega) (by omega) (by omega)
 obtain ⟨v5,hv5⟩:∃ v5,v5=AV.slice z.n 0 (l.length+1) (l.length+1) true:=⟨_,rfl⟩
 rw [tRows_len,← hv5] at I5
 rw [← hv5] at e5
 rw [hz] at e5
 have e4':=e4
 rw [hy] at e4'
 simp (disch:=first|omega|(with_unfolding_all exact rfl)|(simp only[new_n,put_n,new_m];omega)|(refine put_m_le ?_;simp only[new_m];omega)) only [K16l0,K16r7,K16r8,Abs.W,reduceIte,Nat.reduceEqDiff,Nat.reduceAdd,decide_true,decide_false,kLoop_def,Nat.reduceSub,List.cons_append,List.nil_append,List.append_nil,List.length_cons,List.length_nil,Env.find_set,q1,q2,q3,q8,q9,g0,kv,kL,ll,scS,e0,e4',s4p,k4,qu,rm,e5,sb1,Nat.zero_add]
 generalize hcc:call _ _ _ (.fn 16) _ _=rc
 obtain ⟨w,b,t6,rfl,s6,hq⟩:=ih hcc hN (hSt.grow (fun c hc=>s5g c hc) (by omega)) I5.rows.seq (by rw [List.length_append,List.length_singleton];omega) (fun a ha=>by
  rcases List.mem_append.mp ha with ha | ha
  ·exact hK a ha
  ·rw [List.mem_singleton.mp ha];exact hat) (by omega)
 rw [nextF_snoc] at hq
 have s6n:=s6.n
 have s6l:=s6.le
 have s6m:=s6.m
 have okt:∀ (l:List AV) (st:St),okA (.val (.tup l) st)=.val (.tup l) st:=fun _ _=>rfl
 have ex0:∀ (a b:AV) (st:St),extA 0 st (.tup [a,b])=.val a st:=fun _ _ _=>rfl
 have ex1:∀ (a b:AV) (st:St),extA 1 st (.tup [a,b])=.val b st:=fun _ _ _=>rfl
 have gt6:∀ c,c<t.n→t6.h.get c=t.h.get c:=fun c hc=>(s6.same c (by omega)).trans (s5g c hc)
 have gu6:∀ c,c<u.n→t6.h.get c=u.h.get c:=fun c hc=>(gt6 c (by omega)).trans (same c hc)
 have apV:∀ k,k=t.n→apartA (.slice k 0 0 0 false) vL=true:=fun k hk=>by
  unfold apartA
  cases hb:blockOf vL with
  | none=>rfl
  | some c =>
   have:=hSt.bl c hb
   show (!Nat.beq k c)=true
   cases hqq:Nat.beq k c with
   | false=>rfl
   | true=>have:=Nat.eq_of_beq_eq_true hqq;omega
 have ap3:apartA (.slice t.n 0 0 0 false) (.ptr u.n 0)=true:=apart_slice (by omega)
 have ap4:apartA v4 (.ptr u.n 0)=true:=own_apart own4 tn
 simp (disch:=first|omega|(with_unfolding_all exact rfl)|(simp only[new_n,put_n,new_m];omega)|(refine put_m_le ?_;simp only[new_m];omega)) only [Abs.W,reduceIte,Nat.reduceEqDiff,Nat.reduceAdd,decide_true,decide_false,kLoop_def,Nat.reduceSub,List.cons_append,List.nil_append,List.append_nil,List.length_cons,List.length_nil,Env.find_set,okt,ex0,ex1]
 rw [endO_ok _ (by
  rw [endOk_cons (by simp only [find_cons,Env.find_set,q3,reduceIte,Nat.reduceEqDiff];exact ap3),endOk_cons (by simp only [find_cons,Env.find_set,q3,reduceIte,Nat.reduceEqDiff];exact ap3),endOk_cons (by simp only [find_cons,Env.find_set,q3,reduceIte,Nat.reduceEqDiff];exact apV _ rfl),endOk_cons (by simp only [find_cons,Env.find_set,q3,reduceIte,Nat.reduceEqDiff];exact ap3),endOk_cons (by simp only [find_cons,Env.find_set,q3,reduceIte,Nat.reduceEqDiff];exact apV _ rfl),endOk_cons (by simp only [find_cons,Env.find_set,q3,reduceIte,Nat.reduceEqDiff];exact ap4),endOk_nil])]
 cases b with
 | false =>
  rcases hq with ⟨hb,_,hle⟩ | ⟨_,_,hb,_⟩
  ·simp (disch:=first|omega|(with_unfolding_all exact rfl)|(simp only[new_n,put_n,new_m];omega)|(refine put_m_le ?_;simp only[new_m];omega)) only [K16r9,K16r11,Abs.W,reduceIte,Nat.reduceEqDiff,Nat.reduceAdd,decide_true,decide_false,kLoop_def,Nat.reduceSub,List.cons_append,List.nil_append,List.append_nil,List.length_cons,List.length_nil,Env.find_set,q9,sb2]
   refine ⟨_,_,t6,rfl,gu6,(gt6 _ tn).trans g0,by omega,by omega,by omega,.inl ⟨rfl,hb,by omega,?_,?_,?_,?_,?_⟩⟩
   ·simp only [Env.find_set,q1,reduceIte,Nat.reduceEqDiff]
   ·simp only [Env.find_set,q2,reduceIte,Nat.reduceEqDiff]
   ·simp only [Env.find_set,q3,reduceIte,Nat.reduceEqDiff]
   ·simp only [Env.find_set,q8,reduceIte,Nat.reduceEqDiff]
   ·simp only [Env.find_set,reduceIte,Nat.reduceEqDiff]
  ·cases hb
 | true =>
  rcases hq with ⟨_,hb,_⟩ | ⟨x,hx,_,hsq⟩
  ·cases hb
  ·simp (disch:=first|omega|(with_unfolding_all exact rfl)|(simp only[new_n,put_n,new_m];omega)|(refine put_m_le ?_;simp only[new_m];omega)) only [K16r9,K16r10,Abs.W,reduceIte,Nat.reduceEqDiff,Nat.reduceAdd,decide_true,decide_false,kLoop_def,Nat.reduceSub,List.cons_append,List.nil_append,List.append_nil,List.length_cons,List.length_nil,Env.find_set]
   refine ⟨_,_,t6,rfl,gu6,(gt6 _ tn).trans g0,by omega,by omega,by omega,.inr ⟨rfl,x,w,hx,?_,?_,by omega,hsq⟩⟩
   ·simp only [Env.find_set,reduceIte,Nat.reduceEqDiff]
   ·simp only [Env.find_set,reduceIte,Nat.reduceEqDiff]
end Go.Proofs.Ytoolodjbfphkjaa.walk
set_option maxRecDepth 10000
namespace Go.Proofs.Ytoolodjbfphkjaa.walk
open Go.Abs Go.Proofs.Ytoolodjbfphkjaa.code
theorem downF_step {β:Type} (F:Nat→Option β) (a j:Nat):downF F a (j+1)=match F (a+j) with
  | some x=>some x
  | none=>downF F a j:=rfl
theorem better_step {s:Sl} (ok:s.Ok) (m:Nat) (hm10:m≤20) (ih:BetAt s m):BetAt s (m+1):=by
 intro N l vL vE v t r hr hN hS hR hl hK hs
 obtain ⟨N,rfl⟩:∃ n,N=n+1:=⟨N - 1,by omega⟩
 have hf:far=1000000000:=rfl
 have e300:betSz (m+1)=betSz m+300:=by unfold betSz;omega
 have eb:betSz m≤10000:=by unfold betSz;omega
 have hn:=ok.n
 have od:=ok.days
 have hk:=K_le ok
 have hnf:nextF l≤(s.days+1) * s.n:=by
  rcases Nat.eq_zero_or_pos l.length with h | h
  ·rw [List.length_eq_zero_iff.mp h];exact Nat.zero_le _
  ·rw [nextF_last h];exact hK _ (List.getElem_mem (by omega))
 obtain ⟨F,hF⟩:∃ F:Nat→Option (List Nat),F=fun i=>s.bet m (l++[i]) (i+1):=⟨_,rfl⟩
 obtain ⟨J,hJ⟩:∃ J,J=(s.days+1) * s.n - nextF l:=⟨_,rfl⟩
 have hbet:s.bet (m+1) l (nextF l)=downF F (nextF l) J:=by rw [hF,hJ];rfl
 obtain ⟨v',t',e,st,⟨w,b,rfl,hq⟩,hp⟩:=call_newP (n:=N) (args:=[.agg (sealV s vL vE),v,.int .i64 ((m+1:Nat):Int)]) (s:=t) (k:=betSz (m+1)) (Q:=fun v' h n=>∃ w b,v'=.tup [w,.bool b]∧((s.bet (m+1) l (nextF l)=none∧b=false∧w=.nilslice)∨(∃ x,s.bet (m+1) l (nextF l)=some x∧b=true∧Seq h n 2 (tRows s.n x) w))) Try.func16 rfl (fun u uh un um=>by
  rw [← uh,← un] at hS hR
  rw [← un] at hs
  have scS:=hS.scal
  have kv:∀ t,okA (.val v t)=.val v t:=hR.scalar.1
  have kL:∀ t,okA (.val vL t)=.val vL t:=fun t=>okA_ne hS.l.ne
  have ll:=hS.lenL hn
  have lv:=tLen hR.at_
  obtain ⟨w1,hw1⟩:∃ x:St,x=(u.new (.cells (sealV s vL vE) (tag 48))):=⟨_,rfl⟩
  have n1:w1.n=u.n+1:=by rw [hw1];rfl
  have m1:w1.m=far:=by rw [hw1];exact um
  have w1g:∀ c,c<u.n→w1.h.get c=u.h.get c:=fun c hc=>by rw [hw1,get_new_ne _ _ _ (by omega)]
  have w10:w1.h.get u.n=some (.cells (sealV s vL vE) (tag 48)):=by rw [hw1];exact get_new_eq _ _ _ rfl (by omega)
  have z0:decide (((m+1:Nat):Int)=0)=false:=decide_eq_false (by omega)
  have adD:∀ st,aAdd st .i64 (s.days:Int) 1=.val (.int .i64 ((s.days+1:Nat):Int)) st:=fun st=>aAdd_i64 st _ _ (by omega)
  have muD:∀ st,aMul st .i64 ((s.days+1:Nat):Int) (s.n:Int)=.val (.int .i64 (((s.days+1) * s.n:Nat):Int)) st:=fun st=>by
   rw [aMul_def,wrapA_eq]
   congr 2
   show IntKind.i64.wrap (((s.days+1:Nat):Int) * (s.n:Int))=_
   rw [← Int.natCast_mul]
   exact IntWalk.i64_in _ (by omega)
  have suD:∀ st,aSub st .i64 (((s.days+1) * s.n:Nat):Int) 1=.val (.int .i64 ((((s.days+1) * s.n:Nat):Int) - 1)) st:=fun st=>aSub_i64 st _ _ (by omega)
  rw [enter16]
  simp (disch:=first|omega|(with_unfolding_all exact rfl)|(simp only[new_n,put_n,new_m];omega)|(refine put_m_le ?_;simp only[new_m];omega)) only [K16,K16r0,Abs.W,reduceIte,Nat.reduceEqDiff,Nat.reduceAdd,decide_true,decide_false,kLoop_def,Nat.reduceSub,List.cons_append,List.nil_append,List.append_nil,List.length_cons,List.length_nil,Env.find_set,scS,Nat.zero_add]
  rw [← hw1]
  have tail:∀ (L:Env) (q1:R),loopN K16l0 rounds (call Try.prog X N) ⟨16,none,Try.f16.ntmps,X 16⟩ L [] w1=q1→L.find 1=v→L.find 2=.int .i64 ((m+1:Nat):Int)→L.find 3=.ptr u.n 0→L.find 8=.int .i64 (nextF l:Nat)→L.find 9=.int .i64 ((((s.days+1) * s.n:Nat):Int) - 1) →
    ∃ v' s',finA Try.prog Try.f16 (thenK (blkR 0 q1) (kSeq (kRegion K16r12 [6,7]) kRet (call Try.prog X N) ⟨16,none,Try.f16.ntmps,X 16⟩))=.val v' s'∧Beside u s' (betSz (m+1))∧(∃ w b,v'=.tup [w,.bool b]∧((s.bet (m+1) l (nextF l)=none∧b=false∧w=.nilslice)∨(∃ x,s.bet (m+1) l (nextF l)=some x∧b=true∧Seq s'.h s'.n 2 (tRows s.n x) w)))∧(plain v'=true→∃ w b,v'=.tup [w,.bool b]∧((s.bet (m+1) l (nextF l)=none∧b=false∧w=.nilslice)∨(∃ x,s.bet (m+1) l (nextF l)=some x∧b=true∧Seq t.h t.n 2 (tRows s.n x) w))):=by
   intro L q1 hlp l1 l2 l3 l8 l9
   obtain ⟨e,L1,t1,rfl,hs1,hn1,hle1,hm1,hf1,hQ⟩:=loop_of hlp (fun i L t=>(∀ c,c<u.n→t.h.get c=u.h.get c)∧t.h.get u.n=some (.cells (sealV s vL vE) (tag 48))∧u.n<t.n∧t.n≤u.n+1+20 * i∧u.n≤t.m∧t.m≤far∧L.find 1=v∧L.find 2=.int .i64 ((m+1:Nat):Int)∧L.find 3=.ptr u.n 0∧L.find 8=.int .i64 (nextF l:Nat)∧L.find 9=.int .i64 (((nextF l+(J - i):Nat):Int) - 1)∧downF F (nextF l) J=downF F (nextF l) (J - i))
    (fun e L t=>(∀ c,c<u.n→t.h.get c=u.h.get c)∧u.n≤t.n∧t.n≤u.n+betSz (m+1)∧u.n≤t.m∧t.m≤far∧((e=.exit 0∧downF F (nextF l) J=none)∨(e=.ret∧∃ x w,downF F (nextF l) J=some x∧L.find 6=w∧L.find 7=.bool true∧Seq t.h t.n 2 (tRows s.n x) w))) J (by unfold rounds;omega)
    ⟨w1g,w10,by omega,by omega,by omega,by omega,l1,l2,l3,l8,by rw [l9];congr 2;omega,rfl⟩
    (fun i L t hi ⟨ts,t0,tn,tk,tm,tf,q1,q2,q3,q8,q9,hdn⟩=>by
     by_cases hlt:i<J
     ·obtain ⟨j,hj⟩:∃ j,J - i=j+1:=⟨J - i - 1,by omega⟩
      rw [hj] at q9 hdn
      rw [downF_step] at hdn
      have q9':L.find 9=.int .i64 ((nextF l+j:Nat):Int):=by rw [q9];congr 1;omega
      obtain ⟨e,L1,t1,b0,b1,b2,b3,b4,b5,hb⟩:=better_round ok m ih N (by omega) ⟨16,none,Try.f16.ntmps,X 16⟩ hS hR hl hK (at_:=nextF l+j) (by omega) t0 ts tn tm tf (by omega) q1 q2 q3 q8 q9' (by omega)
      rcases hb with ⟨rfl,h1,h2,h3,h4,h5,h6,h7⟩ | ⟨rfl,x,w,h1,h2,h3,h4,h5⟩
      ·have hFn:F (nextF l+j)=none:=by rw [hF];exact h1
       rw [hFn] at hdn
       exact .inl ⟨hlt,L1,t1,b0,b1,b2,by omega,by omega,b4,b5,h3,h4,h5,h6,by rw [h7,show J - (i+1)=j by omega],by rw [show J - (i+1)=j by omega];exact hdn⟩
      ·have hFn:F (nextF l+j)=some x:=by rw [hF];exact h1
       rw [hFn] at hdn
       exact .inr ⟨.ret,L1,t1,by simp,b0,b1,by omega,by omega,b4,b5,.inr ⟨rfl,x,w,hdn,h2,h3,h5⟩⟩
     ·obtain rfl:i=J:=by omega
      have e0:decide (((nextF l:Nat):Int)≤((nextF l+(i - i):Nat):Int) - 1)=false:=decide_eq_false (by omega)
      refine .inr ⟨.exit 0,_,t,by simp,by
       simp (disch:=first|omega|(with_unfolding_all exact rfl)|(simp only[new_n,put_n,new_m];omega)|(refine put_m_le ?_;simp only[new_m];omega)) only [K16l0,K16r7,Abs.W,reduceIte,Nat.reduceEqDiff,Nat.reduceAdd,decide_true,decide_false,kLoop_def,Nat.reduceSub,List.cons_append,List.nil_append,List.append_nil,List.length_cons,List.length_nil,Env.find_set,q8,q9,e0,Nat.zero_add]
       rfl,ts,by omega,by omega,tm,tf,.inl ⟨rfl,?_⟩⟩
      rw [hdn,Nat.sub_self];rfl)
   rcases hQ with ⟨rfl,h1⟩ | ⟨rfl,x,w,h1,h6,h7,hsq⟩
   ·simp (disch:=first|omega|(with_unfolding_all exact rfl)|(simp only[new_n,put_n,new_m];omega)|(refine put_m_le ?_;simp only[new_m];omega)) only [K16r12,res16,Abs.W,reduceIte,Nat.reduceEqDiff,Nat.reduceAdd,decide_true,decide_false,kLoop_def,Nat.reduceSub,List.cons_append,List.nil_append,List.append_nil,List.length_cons,List.length_nil,Env.find_set,leave_tt2]
    exact ⟨_,t1,rfl,⟨hs1,hn1,hle1,hm1,hf1⟩,⟨_,_,rfl,.inl ⟨hbet.trans h1,rfl,rfl⟩⟩,fun _=>⟨_,_,rfl,.inl ⟨hbet.trans h1,rfl,rfl⟩⟩⟩
   ·simp (disch:=first|omega|(with_unfolding_all exact rfl)|(simp only[new_n,put_n,new_m];omega)|(refine put_m_le ?_;simp only[new_m];omega)) only [K16r12,res16,Abs.W,reduceIte,Nat.reduceEqDiff,Nat.reduceAdd,decide_true,decide_false,kLoop_def,Nat.reduceSub,List.cons_append,List.nil_append,List.append_nil,List.length_cons,List.length_nil,Env.find_set,leave_tt2,h6,h7]
    refine ⟨_,t1,rfl,⟨hs1,hn1,hle1,hm1,hf1⟩,⟨w,true,rfl,.inr ⟨x,hbet.trans h1,rfl,hsq⟩⟩,fun hp=>⟨w,true,rfl,.inr ⟨x,hbet.trans h1,rfl,?_⟩⟩⟩
    refine ⟨hsq.wide,?_⟩
    rcases hsq.is with z | ⟨b,o,cap,e,c,sz,z1,z2,_⟩
    ·exact .inl z
    ·rw [z2] at hp;cases hp
  rcases Nat.eq_zero_or_pos l.length with h0 | h0
  ·have hl0:nextF l=0:=by rw [List.length_eq_zero_iff.mp h0];rfl
   have zl:decide ((0:Int)<(l.length:Int))=false:=decide_eq_false (by omega)
   simp (disch:=first|omega|(with_unfolding_all exact rfl)|(simp only[new_n,put_n,new_m];omega)|(refine put_m_le ?_;simp only[new_m];omega)) only [K16r1,K16r3,K16r4,K16r6,Abs.W,reduceIte,Nat.reduceEqDiff,Nat.reduceAdd,decide_true,decide_false,kLoop_def,Nat.reduceSub,List.cons_append,List.nil_append,List.append_nil,List.length_cons,List.length_nil,Env.find_set,w10,z0,scS,kv,kL,ll,lv,zl,adD,muD,suD,Nat.zero_add]
   generalize hlp:loopN _ rounds _ _ _ _ _=q1
   exact tail _ q1 hlp (by simp only [find_cons,Env.find_set,reduceIte,Nat.reduceEqDiff]) (by simp only [find_cons,Env.find_set,reduceIte,Nat.reduceEqDiff]) (by simp only [find_cons,Env.find_set,reduceIte,Nat.reduceEqDiff]) (by simp only [find_cons,Env.find_set,reduceIte,Nat.reduceEqDiff];rw [hl0];rfl) (by simp only [find_cons,Env.find_set,reduceIte,Nat.reduceEqDiff])
  ·have zl:decide ((0:Int)<(l.length:Int))=true:=decide_eq_true (by omega)
   obtain ⟨pb,pp,pc,pz,x1,x2,x3,x4,x5,_⟩:=tRow_at hR.at_ (i:=l.length - 1) (by omega)
   have x3':w1.h.get pb=some (.cells pc pz):=(w1g pb x1).trans x3
   have hnl:=nextF_last h0
   have hka:=hK _ (List.getElem_mem (show l.length - 1<l.length by omega))
   generalize l[l.length - 1]=a at *
   have hdm:a / s.n * s.n+a % s.n=a:=Nat.div_add_mod' a s.n
   have hdl:=Nat.div_le_self a s.n
   have hml:=Nat.mod_le a s.n
   have sbL:∀ st,aSub st .i64 (l.length:Int) 1=.val (.int .i64 ((l.length - 1:Nat):Int)) st:=fun st=>by rw [aSub_i64 st _ _ (by omega)];congr 2;omega
   have muA:∀ st,aMul st .i64 ((a / s.n:Nat):Int) (s.n:Int)=.val (.int .i64 ((a / s.n * s.n:Nat):Int)) st:=fun st=>by
    rw [aMul_def,wrapA_eq]
    congr 2
    show IntKind.i64.wrap (((a / s.n:Nat):Int) * (s.n:Int))=_
    rw [← Int.natCast_mul]
    generalize a / s.n * s.n=q at *
    exact IntWalk.i64_in _ (by omega)
   have adA:∀ st,aAdd st .i64 ((a / s.n * s.n:Nat):Int) ((a % s.n:Nat):Int)=.val (.int .i64 (a:Int)) st:=fun st=>by
    generalize a / s.n * s.n=q at *
    generalize a % s.n=q2 at *
    rw [aAdd_i64 st _ _ (by omega)]
    congr 2
    omega
   have adB:∀ st,aAdd st .i64 (a:Int) 1=.val (.int .i64 ((a+1:Nat):Int)) st:=fun st=>aAdd_i64 st _ _ (by omega)
   simp (config:={ maxSteps:=1000000 }) (disch:=first|omega|(with_unfolding_all exact rfl)|(simp only[new_n,put_n,new_m];omega)|(refine put_m_le ?_;simp only[new_m];omega)) only [K16r1,K16r3,K16r4,K16r5,K16r6,Abs.W,reduceIte,Nat.reduceEqDiff,Nat.reduceAdd,decide_true,decide_false,kLoop_def,Nat.reduceSub,List.cons_append,List.nil_append,List.append_nil,List.length_cons,List.length_nil,Env.find_set,w10,z0,scS,kv,kL,ll,lv,zl,x2,x3',x4,x5,sbL,muA,adA,adB,adD,muD,suD,endO_nil,regD_ok,Nat.add_zero,Nat.zero_add]
   generalize hlp:loopN _ rounds _ _ _ _ _=q1
   exact tail _ q1 hlp (by simp only [find_cons,Env.find_set,reduceIte,Nat.reduceEqDiff]) (by simp only [find_cons,Env.find_set,reduceIte,Nat.reduceEqDiff]) (by simp only [find_cons,Env.find_set,reduceIte,Nat.reduceEqDiff]) (by simp only [find_cons,Env.find_set,reduceIte,Nat.reduceEqDiff];rw [hnl]) (by simp only [find_cons,Env.find_set,reduceIte,Nat.reduceEqDiff]))
 have sn:=st.n
 refine ⟨w,b,t',hr.symm.trans e,st,?_⟩
 rcases hq with ⟨h1,h2,h3⟩ | h
 ·refine .inl ⟨h1,h2,?_⟩
  have:=hp (by rw [h2,h3];rfl)
  rw [this];omega
 ·exact .inr h
theorem better_ex {s:Sl} (ok:s.Ok):∀ m,m≤20→BetAt s m
 | 0,_=>better_zero ok
 | m+1,h=>better_step ok m (by omega) (better_ex ok m (by omega))
end Go.Proofs.Ytoolodjbfphkjaa.walk
set_option maxRecDepth 10000
namespace Go.Proofs.Ytoolodjbfphkjaa.walk
open Go.Abs Go.Proofs.Ytoolodjbfphkjaa.code
theorem rowEq (n a:Nat) (st:St):eqlA (.row [(0,none,.int),(1,none,.int)]) false st (.agg (tRow n a)) (.agg (tRow n a))=.val (.bool true) st:=by
 have e:Cmp.eq (.row [(0,none,.int),(1,none,.int)]) (.agg (tRow n a)) (.agg (tRow n a))=some true:=by
  show Cmp.eqs _ (tRow n a) (tRow n a)=_
  unfold tRow
  rw [eqs_cons _ _ _ _ _ _ (eq_ints _ _),eqs_cons _ _ _ _ _ _ (eq_ints _ _),eqs_nil,decide_eq_true rfl,decide_eq_true rfl]
  rfl
 unfold eqlA
 rw [e]
 rfl
theorem kEqlP (c:Cmp) (neg:Bool) (x y:Arg) (L:Env) (s:St):kEql c neg x y L s=eqlA c neg s (x.ev L) (y.ev L):=Eq.trans (Eq.refl _) (Eq.refl _)
theorem sameTests_ok (N:Nat) (hN:1≤N) (n:Nat) (x:List Nat) (v w:AV) (t:St) (hR:RowsAt t.h t.n 2 (tRows n x) v) (hQ:RowsAt t.h t.n 2 (tRows n x) w) (hl:x.length≤1000) (hs:t.n+10≤far):call Try.prog X N (.fn 17) [v,w] t=.val (.bool true) t:=by
 obtain ⟨N,rfl⟩:∃ n,N=n+1:=⟨N - 1,by omega⟩
 refine call_plain' Try.func17 (fun u uh un um=>?_) rfl
 rw [← uh,← un] at hR hQ
 have kv:∀ t,okA (.val v t)=.val v t:=fun t=>okA_ne hR.ne
 have lv:=tLen hR
 have kw:∀ t,okA (.val w t)=.val w t:=fun t=>okA_ne hQ.ne
 have lw:=tLen hQ
 have hf:far=1000000000:=rfl
 have el:decide ((x.length:Int)=(x.length:Int))=true:=by simp
 have u6:=eqP3 K17r3s6.eq_1
 have u5:=eqP3 K17r3s5.eq_1
 have u4:=eqP3 K17r3s4.eq_1
 have u3:=eqP3 K17r3s3.eq_1
 rw [enter17]
 simp (disch:=first|omega|(with_unfolding_all exact rfl)|(simp only[new_n,put_n,new_m];omega)|(refine put_m_le ?_;simp only[new_m];omega)) only [K17,K17r0,K17r1,K17r2,Abs.W,reduceIte,Nat.reduceEqDiff,Nat.reduceAdd,decide_true,decide_false,kLoop_def,Nat.reduceSub,List.cons_append,List.nil_append,List.append_nil,List.length_cons,List.length_nil,Env.find_set,kv,lv,kw,lw,el]
 generalize hlp:loopN _ rounds _ _ _ _ _=q1
 obtain ⟨e,L1,s1,rfl,rfl,rfl,h5⟩:=loop_of hlp (fun i L t=>t=u∧L.find 0=v∧L.find 1=w∧L.find 5=.bool true∧L.find 6=.int .i64 (i:Int))
  (fun e L t=>e=.exit 0∧t=u∧L.find 5=.bool true) x.length (by unfold rounds;omega)
  ⟨rfl,by simp only [find_cons,Env.find_set,reduceIte,Nat.reduceEqDiff],by simp only [find_cons,Env.find_set,reduceIte,Nat.reduceEqDiff],by simp only [find_cons,Env.find_set,reduceIte,Nat.reduceEqDiff],by simp only [find_cons,Env.find_set,reduceIte,Nat.reduceEqDiff];rfl⟩
  (fun i L t hi ⟨ht,q0,q1,q5,q6⟩=>by
   subst ht
   by_cases hlt:i<x.length
   ·have e0:decide ((i:Int)<(x.length:Int))=true:=decide_eq_true (by omega)
    obtain ⟨pb,pp,pc,pz,x1,x2,x3,_,_,x4⟩:=tRow_at hR hlt
    obtain ⟨qb,qp,qc,qz,y1,y2,y3,_,_,y4⟩:=tRow_at hQ hlt
    have ad1:∀ st,aAdd st .i64 (i:Int) 1=.val (.int .i64 ((i+1:Nat):Int)) st:=fun st=>aAdd_i64 st _ _ (by omega)
    have heq:=rowEq n x[i]
    have hag:∀ st,okA (.val (.agg (tRow n x[i])) st)=.val (.agg (tRow n x[i])) st:=fun _=>rfl
    refine .inl ⟨hlt,_,t,by
     simp (disch:=first|omega|(with_unfolding_all exact rfl)|(simp only[new_n,put_n,new_m];omega)|(refine put_m_le ?_;simp only[new_m];omega)) only [K17l0,K17r3,K17r4,K17r5,u6,u5,u4,u3,Abs.W,reduceIte,Nat.reduceEqDiff,Nat.reduceAdd,decide_true,decide_false,kLoop_def,Nat.reduceSub,List.cons_append,List.nil_append,List.append_nil,List.length_cons,List.length_nil,Env.find_set,q0,q1,q5,q6,kv,lv,kw,lw,e0,x2,x3,x4,y2,y3,y4,kEqlP,heq,hag,ad1,endO_nil,regD_ok,Nat.zero_add]
     rfl,rfl,?_,?_,?_,?_⟩
    ·simp only [Env.find_set,q0,reduceIte,Nat.reduceEqDiff]
    ·simp only [Env.find_set,q1,reduceIte,Nat.reduceEqDiff]
    ·simp only [Env.find_set,reduceIte,Nat.reduceEqDiff]
    ·simp only [Env.find_set,reduceIte,Nat.reduceEqDiff]
   ·have e0:decide ((i:Int)<(x.length:Int))=false:=decide_eq_false (by omega)
    have hh:∃ L1,K17l0 (call Try.prog X N) ⟨17,none,Try.f17.ntmps,X 17⟩ L [] t=.done (.exit 0) L1 [] t∧L1.find 5=.bool true:=by
     refine ⟨_,by
      simp (disch:=first|omega|(with_unfolding_all exact rfl)|(simp only[new_n,put_n,new_m];omega)|(refine put_m_le ?_;simp only[new_m];omega)) only [K17l0,K17r3,u6,u5,u4,u3,Abs.W,reduceIte,Nat.reduceEqDiff,Nat.reduceAdd,decide_true,decide_false,kLoop_def,Nat.reduceSub,List.cons_append,List.nil_append,List.append_nil,List.length_cons,List.length_nil,Env.find_set,q0,q1,q5,q6,kv,lv,kw,lw,e0,Nat.zero_add]
      rfl,?_⟩
     simp only [Env.find_set,q5,reduceIte,Nat.reduceEqDiff]
    obtain ⟨L1,h1,h2⟩:=hh
    exact .inr ⟨.exit 0,L1,t,by simp,h1,rfl,rfl,h2⟩)
 simp (disch:=first|omega|(with_unfolding_all exact rfl)|(simp only[new_n,put_n,new_m];omega)|(refine put_m_le ?_;simp only[new_m];omega)) only [K17r6,res17,Abs.W,reduceIte,Nat.reduceEqDiff,Nat.reduceAdd,decide_true,decide_false,kLoop_def,Nat.reduceSub,List.cons_append,List.nil_append,List.append_nil,List.length_cons,List.length_nil,Env.find_set,h5]
 exact ⟨_,rfl,by omega⟩
theorem inc_len:∀ (l:List Nat) (a K:Nat),l.Pairwise (·<·)→(∀ b ∈ l,a≤b∧b<K)→l.length≤K - a
 | [],_,_,_,_=>Nat.zero_le _
 | b::l,a,K,hp,h=>by
  obtain ⟨p1,p2⟩:=List.pairwise_cons.mp hp
  have hb:=h b (by simp)
  have:=inc_len l (a+1) K p2 fun c hc=>⟨by have:=p1 c hc;omega,(h c (List.mem_cons_of_mem _ hc)).2⟩
  rw [List.length_cons];omega
noncomputable def awf (n:Nat):CallF:=knows 9 (call Try.prog X n)
noncomputable def fewFirst:OpsF:=(oCall (.tmp 11) (.con (.func 13 [] [])) [(.tmp 10),(.con (.int Go.IntKind.i64 2)),(.con (.int Go.IntKind.i64 4))] (oVal (.tmp 3) (kAlloc [.nilslice,.nilslice,(.int Go.IntKind.i64 0),(.int Go.IntKind.i64 0)] (tag 48)) (oVal .none (kStore 4 (.tmp 3) (.tmp 11)) oNil)))
noncomputable def fewRest:K:=(kSeq (kRegion K4r2 [4,5]) (kSeq (kSeq (kRegion K4r3 [32]) (kCond (.tmp 32) (kSeq (kRegion K4r4 [2]) kRet) kSkip)) (kSeq (kSeq (kRegion K4r5 [6]) (kBlock 0 (kLoop K4l0))) (kSeq (kRegion K4r11 [2]) kRet))))
theorem few_round {s:Sl} (ok:s.Ok) (n:Nat) (hn:70≤n) (cx:Ctx) {t w:St} {p3 i e:Nat} {vL vE v:AV} {L:Env} (hS:SealAt w.h w.n s vL vE) (g3:w.h.get p3=some (.cells (sealV s vL vE) (tag 48))) (h3:p3<w.n) (same:∀ c,c<w.n→t.h.get c=w.h.get c) (tn:w.n≤t.n) (hs:t.n+100000≤far) (hi:i≤(s.days+1) * s.n) (q3:L.find 3=.ptr p3 0) (q4:L.find 4=v) (q5:L.find 5=.int .i64 (e:Int)) (q6:L.find 6=.int .i64 (i:Int))
  (he:∀ x,s.bet i [] 0=some x→e=0∧x.length≤1000∧RowsAt w.h w.n 2 (tRows s.n x) v) :
  ∃ e1 L1 t1,K4l0 (awf n) cx L [] t=.done e1 L1 [] t1∧((e1=.norm∧s.bet i [] 0=none∧(∀ c,c<w.n→t1.h.get c=w.h.get c)∧w.n≤t1.n∧t1.n≤t.n+10∧L1.find 3=.ptr p3 0∧L1.find 4=v∧L1.find 5=.int .i64 (e:Int)∧L1.find 6=.int .i64 ((i+1:Nat):Int))∨(e1=.ret∧L1.find 2=.bool true∧s.bet i [] 0≠none)):=by
 have hf:far=1000000000:=rfl
 have hk:=K_le ok
 have hnn:=ok.n
 have knB:∀ args s,awf n (.fn 16) args s=call Try.prog X n (.fn 16) args s:=fun _ _=>rfl
 have knS:∀ args s,awf n (.fn 17) args s=call Try.prog X n (.fn 17) args s:=fun _ _=>rfl
 have knA:∀ s,awf n (.fn 9) [] s=.val (.bool true) s:=fun _=>rfl
 have scS:=hS.scal
 have kL:∀ t,okA (.val vL t)=.val vL t:=fun t=>okA_ne hS.l.ne
 have ll:=hS.lenL hnn
 have g3':=(same p3 h3).trans g3
 have adD:∀ st,aAdd st .i64 (s.days:Int) 1=.val (.int .i64 ((s.days+1:Nat):Int)) st:=fun st=>aAdd_i64 st _ _ (by have:=ok.days;omega)
 have muD:∀ st,aMul st .i64 ((s.days+1:Nat):Int) (s.n:Int)=.val (.int .i64 (((s.days+1) * s.n:Nat):Int)) st:=fun st=>by
  rw [aMul_def,wrapA_eq]
  congr 2
  show IntKind.i64.wrap (((s.days+1:Nat):Int) * (s.n:Int))=_
  rw [← Int.natCast_mul]
  exact IntWalk.i64_in _ (by omega)
 have e0:decide ((i:Int)≤(((s.days+1) * s.n:Nat):Int))=true:=decide_eq_true (by omega)
 have ad1:∀ st,aAdd st .i64 (i:Int) 1=.val (.int .i64 ((i+1:Nat):Int)) st:=fun st=>aAdd_i64 st _ _ (by omega)
 have okt:∀ (l:List AV) (st:St),okA (.val (.tup l) st)=.val (.tup l) st:=fun _ _=>rfl
 have ex0:∀ (a b:AV) (st:St),extA 0 st (.tup [a,b])=.val a st:=fun _ _ _=>rfl
 have ex1:∀ (a b:AV) (st:St),extA 1 st (.tup [a,b])=.val b st:=fun _ _ _=>rfl
 simp (disch:=first|omega|(with_unfolding_all exact rfl)|(simp only[new_n,put_n,new_m];omega)|(refine put_m_le ?_;simp only[new_m];omega)) only [K4l0,K4r6,K4r7,Abs.W,reduceIte,Nat.reduceEqDiff,Nat.reduceAdd,decide_true,decide_false,kLoop_def,Nat.reduceSub,List.cons_append,List.nil_append,List.append_nil,List.length_cons,List.length_nil,Env.find_set,q3,q4,q5,q6,g3',scS,kL,ll,adD,muD,e0,knB,Nat.zero_add]
 generalize hcc:call _ _ _ (.fn 16) _ _=rc
 have ebs:betSz i≤3300:=by unfold betSz;omega
 obtain ⟨x',b,t1,rfl,s1,hq⟩:=better_ex ok i (by omega) (l:=[]) hcc (by omega) (hS.grow same tn) ⟨fun _ h=>(by cases h),.inl ⟨rfl,rfl⟩⟩ (by simp;omega) (fun _ h=>(by cases h)) (by omega)
 have s1n:=s1.n
 have hq':(s.bet i [] 0=none∧b=false∧t1.n≤t.n+10)∨∃ x,s.bet i [] 0=some x∧b=true∧Seq t1.h t1.n 2 (tRows s.n x) x':=hq
 have gw:∀ c,c<w.n→t1.h.get c=w.h.get c:=fun c hc=>(s1.same c (by omega)).trans (same c hc)
 rcases hq' with ⟨h1,rfl,h2⟩ | ⟨x,h1,rfl,hsq⟩
 ·simp (disch:=first|omega|(with_unfolding_all exact rfl)|(simp only[new_n,put_n,new_m];omega)|(refine put_m_le ?_;simp only[new_m];omega)) only [K4r8,K4r10,Abs.W,reduceIte,Nat.reduceEqDiff,Nat.reduceAdd,decide_true,decide_false,kLoop_def,Nat.reduceSub,List.cons_append,List.nil_append,List.append_nil,List.length_cons,List.length_nil,Env.find_set,okt,ex0,ex1,q6,ad1]
  refine ⟨_,_,t1,rfl,.inl ⟨rfl,h1,gw,by omega,h2,?_,?_,?_,?_⟩⟩
  ·simp only [Env.find_set,q3,reduceIte,Nat.reduceEqDiff]
  ·simp only [Env.find_set,q4,reduceIte,Nat.reduceEqDiff]
  ·simp only [Env.find_set,q5,reduceIte,Nat.reduceEqDiff]
  ·simp only [Env.find_set,reduceIte,Nat.reduceEqDiff]
 ·obtain ⟨rfl,hxl,hR⟩:=he x h1
  have sl:=s1.le
  have hss:=sameTests_ok n (by omega) s.n x v x' t1 (hR.grow gw (by omega)) hsq.at_ hxl (by omega)
  have u9:=eqP3 K4r9s9.eq_1
  have u6:=eqP3 K4r9s6.eq_1
  have u5:=eqP3 K4r9s5.eq_1
  have u4:=eqP3 K4r9s4.eq_1
  have z0:decide (((0:Nat):Int)=0)=true:=rfl
  have kv:∀ t,okA (.val v t)=.val v t:=fun t=>okA_ne hR.ne
  have kx:∀ t,okA (.val x' t)=.val x' t:=fun t=>okA_ne hsq.at_.ne
  simp (disch:=first|omega|(with_unfolding_all exact rfl)|(simp only[new_n,put_n,new_m];omega)|(refine put_m_le ?_;simp only[new_m];omega)) only [K4r8,K4r9,u9,u6,u5,u4,Abs.W,reduceIte,Nat.reduceEqDiff,Nat.reduceAdd,decide_true,decide_false,kLoop_def,Nat.reduceSub,List.cons_append,List.nil_append,List.append_nil,List.length_cons,List.length_nil,Env.find_set,okt,ex0,ex1,q4,q5,q6,z0,kv,kx,knS,knA,hss]
  refine ⟨_,_,t1,rfl,.inr ⟨rfl,?_,by rw [h1];simp⟩⟩
  simp only [Env.find_set,reduceIte,Nat.reduceEqDiff]
theorem few_body (n:Nat) (hn:70≤n) (cx:Ctx) (s:St) (d:Nat) (hd:Die d s.h) (hdn:d<s.n) (hs:s.n+900000000≤far) :
  ∃ M s1 s',fewFirst (awf n) (.cons 10 (.ptr d 0) .nil) s=.ok M s1∧∀ kl,kl=[3]→finA Try.prog Try.f4 (fewRest (awf n) cx (keepK kl M .nil) [] s1)=.val (.bool true) s':=by
 have hf:far=1000000000:=rfl
 have knO:∀ args s,awf n (.fn 13) args s=call Try.prog X n (.fn 13) args s:=fun _ _=>rfl
 have knP:∀ args s,awf n (.fn 14) args s=call Try.prog X n (.fn 14) args s:=fun _ _=>rfl
 have knD:∀ args s,awf n (.fn 15) args s=call Try.prog X n (.fn 15) args s:=fun _ _=>rfl
 have knA:∀ s,awf n (.fn 9) [] s=.val (.bool true) s:=fun _=>rfl
 unfold fewFirst
 simp (disch:=first|omega|(with_unfolding_all exact rfl)|(simp only[new_n,put_n,new_m];omega)|(refine put_m_le ?_;simp only[new_m];omega)) only [Abs.W,reduceIte,Nat.reduceEqDiff,Nat.reduceAdd,decide_true,decide_false,kLoop_def,Nat.reduceSub,List.cons_append,List.nil_append,List.append_nil,List.length_cons,List.length_nil,Env.find_set,knO]
 generalize hc1:call _ _ _ (.fn 13) _ _=r1
 obtain ⟨S,vL,vE,t1,rfl,st1,ok,hS⟩:=SealsOf_ex hc1 (by omega) hd hdn (by omega)
 have n1:s.n≤t1.n:=st1.n
 have k1:t1.n≤s.n+100:=st1.le
 have hnn:=ok.n
 have hk:=K_le ok
 have scS:=hS.scal
 simp (disch:=first|omega|(with_unfolding_all exact rfl)|(simp only[new_n,put_n,new_m];omega)|(refine put_m_le ?_;simp only[new_m];omega)) only [Abs.W,reduceIte,Nat.reduceEqDiff,Nat.reduceAdd,decide_true,decide_false,kLoop_def,Nat.reduceSub,List.cons_append,List.nil_append,List.append_nil,List.length_cons,List.length_nil,Env.find_set,scS]
 generalize hy':St.put (St.new _ _) _ _=y
 have yn:y.n=t1.n+1:=by rw [← hy'];rfl
 have yg:∀ c,c<t1.n→y.h.get c=t1.h.get c:=fun c hc=>by rw [← hy',get_put_ne' _ _ _ _ (by omega),get_new_ne _ _ _ (by omega)]
 have y3:y.h.get t1.n=some (.cells (sealV S vL vE) (tag 48)):=by rw [← hy'];exact get_put_eq _ _ _ _ rfl (by omega)
 clear hy'
 have hSy:SealAt y.h y.n S vL vE:=hS.grow yg (by omega)
 suffices main:∃ s',finA Try.prog Try.f4 (fewRest (awf n) cx (Env.set 3 (.ptr t1.n 0) .nil) [] y)=.val (.bool true) s' by
  obtain ⟨s',H⟩:=main
  exact ⟨_,y,s',rfl,fun kl hkl=>by subst hkl;exact H⟩
 unfold fewRest
 simp (disch:=first|omega|(with_unfolding_all exact rfl)|(simp only[new_n,put_n,new_m];omega)|(refine put_m_le ?_;simp only[new_m];omega)) only [K4r2,Abs.W,reduceIte,Nat.reduceEqDiff,Nat.reduceAdd,decide_true,decide_false,kLoop_def,Nat.reduceSub,List.cons_append,List.nil_append,List.append_nil,List.length_cons,List.length_nil,Env.find_set,y3,scS,knP,Nat.zero_add]
 generalize hc2:call _ _ _ (.fn 14) _ _=r2
 obtain ⟨v,e,t2,rfl,s2,hpl⟩:=Plan_ex ok (by omega) hc2 hSy (by omega)
 have n2:=s2.n
 have k2:=s2.le
 have hS2:SealAt t2.h t2.n S vL vE:=hSy.grow s2.same n2
 have x3:=(s2.same t1.n (by omega)).trans y3
 have scS2:=hS2.scal
 have kL:∀ t,okA (.val vL t)=.val vL t:=fun t=>okA_ne hS2.l.ne
 have okt:∀ (l:List AV) (st:St),okA (.val (.tup l) st)=.val (.tup l) st:=fun _ _=>rfl
 have ex0:∀ (a b:AV) (st:St),extA 0 st (.tup [a,b])=.val a st:=fun _ _ _=>rfl
 have ex1:∀ (a b:AV) (st:St),extA 1 st (.tup [a,b])=.val b st:=fun _ _ _=>rfl
 obtain ⟨pn,ps⟩:=plan_is (s:=S) hnn
 have u15:=eqP3 K4r3s15.eq_1
 have u14:=eqP3 K4r3s14.eq_1
 have u13:=eqP3 K4r3s13.eq_1
 have u12:=eqP3 K4r3s12.eq_1
 have u11:=eqP3 K4r3s11.eq_1
 have u10:=eqP3 K4r3s10.eq_1
 have u9:=eqP3 K4r3s9.eq_1
 have u8:=eqP3 K4r3s8.eq_1
 have u5:=eqP3 K4r3s5.eq_1
 have u4:=eqP3 K4r3s4.eq_1
 have w4:=eqP3 K4r11s4.eq_1
 have adD:∀ st,aAdd st .i64 (S.days:Int) 1=.val (.int .i64 ((S.days+1:Nat):Int)) st:=fun st=>aAdd_i64 st _ _ (by have:=ok.days;omega)
 have muD:∀ st,aMul st .i64 ((S.days+1:Nat):Int) (S.n:Int)=.val (.int .i64 (((S.days+1) * S.n:Nat):Int)) st:=fun st=>by
  rw [aMul_def,wrapA_eq]
  congr 2
  show IntKind.i64.wrap (((S.days+1:Nat):Int) * (S.n:Int))=_
  rw [← Int.natCast_mul]
  exact IntWalk.i64_in _ (by omega)
 have ll:=hS2.lenL hnn
 rcases hpl with ⟨ho,rfl,rfl⟩ | ⟨c,ho,rfl,b,hb,hI⟩
 ·have hno:=pn ho
  have z1:decide ((3:Int)≠0)=true:=rfl
  have z2:decide ((3:Int)≠3)=false:=rfl
  have z3:decide ((3:Int)=0)=false:=rfl
  have z4:decide ((3:Int)=3)=true:=rfl
  simp (config:={ maxSteps:=1000000 }) (disch:=first|omega|(with_unfolding_all exact rfl)|(simp only[new_n,put_n,new_m];omega)|(refine put_m_le ?_;simp only[new_m];omega)) only [K4r3,K4r5,u15,u14,u13,u12,u11,u10,u9,u8,u5,u4,Abs.W,reduceIte,Nat.reduceEqDiff,Nat.reduceAdd,decide_true,decide_false,kLoop_def,Nat.reduceSub,List.cons_append,List.nil_append,List.append_nil,List.length_cons,List.length_nil,Env.find_set,okt,ex0,ex1,z1,z2,z3]
  generalize hlp:loopN _ rounds _ _ _ _ _=rl
  obtain ⟨e,L1,t3,rfl,rfl,f5⟩:=loop_of hlp (fun i L t=>(∀ c,c<t2.n→t.h.get c=t2.h.get c)∧t2.n≤t.n∧t.n≤t2.n+10 * i∧L.find 3=.ptr t1.n 0∧L.find 4=.nilslice∧L.find 5=.int .i64 ((3:Nat):Int)∧L.find 6=.int .i64 (i:Int))
   (fun e L t=>e=.exit 0∧L.find 5=.int .i64 ((3:Nat):Int)) ((S.days+1) * S.n+1) (by unfold rounds;omega)
   ⟨fun _ _=>rfl,Nat.le_refl _,by omega,by simp only [find_cons,Env.find_set,reduceIte,Nat.reduceEqDiff],by simp only [find_cons,Env.find_set,reduceIte,Nat.reduceEqDiff],by simp only [find_cons,Env.find_set,reduceIte,Nat.reduceEqDiff];rfl,by simp only [find_cons,Env.find_set,reduceIte,Nat.reduceEqDiff];rfl⟩
   (fun i L t hi ⟨ts,tn,tk,q3,q4,q5,q6⟩=>by
    by_cases hlt:i<(S.days+1) * S.n+1
    ·obtain ⟨e1,L1,t4,b0,⟨rfl,b1,b2,b3,b4,b5,b6,b7,b8⟩ | ⟨rfl,b1,b2⟩⟩:=few_round ok n hn cx hS2 x3 (by omega) ts tn (by omega) (by omega) q3 q4 q5 q6 (fun x hx=>by rw [hno i] at hx;cases hx)
     ·exact .inl ⟨hlt,L1,t4,b0,b2,b3,by omega,b5,b6,b7,b8⟩
     ·exact absurd (hno i) b2
    ·obtain rfl:i=(S.days+1) * S.n+1:=by omega
     have e0:decide ((((S.days+1) * S.n+1:Nat):Int)≤(((S.days+1) * S.n:Nat):Int))=false:=decide_eq_false (by omega)
     have g3':=(ts t1.n (by omega)).trans x3
     refine .inr ⟨.exit 0,_,t,by simp,by
      simp (disch:=first|omega|(with_unfolding_all exact rfl)|(simp only[new_n,put_n,new_m];omega)|(refine put_m_le ?_;simp only[new_m];omega)) only [K4l0,K4r6,Abs.W,reduceIte,Nat.reduceEqDiff,Nat.reduceAdd,decide_true,decide_false,kLoop_def,Nat.reduceSub,List.cons_append,List.nil_append,List.append_nil,List.length_cons,List.length_nil,Env.find_set,q3,q6,g3',scS2,kL,ll,adD,muD,e0,Nat.zero_add]
      rfl,rfl,?_⟩
     simp only [Env.find_set,q5,reduceIte,Nat.reduceEqDiff])
  have z5:decide (((3:Nat):Int)=3)=true:=rfl
  simp (disch:=first|omega|(with_unfolding_all exact rfl)|(simp only[new_n,put_n,new_m];omega)|(refine put_m_le ?_;simp only[new_m];omega)) only [K4r11,w4,res4,Abs.W,reduceIte,Nat.reduceEqDiff,Nat.reduceAdd,decide_true,decide_false,kLoop_def,Nat.reduceSub,List.cons_append,List.nil_append,List.append_nil,List.length_cons,List.length_nil,Env.find_set,f5,z5,knA]
  exact ⟨_,rfl⟩
 ·obtain ⟨p1,p2,p3,p4⟩:=ps c ho
  obtain ⟨hf1,_⟩:=opt_sound hnn _ _ _ c ho
  obtain ⟨g1,g2⟩:=fits_ge hnn _ _ _ _ hf1
  have hx:∀ a ∈ S.plan (S.days+1) 0 S.u0,a<(S.days+1) * S.n:=fun a ha=>by have:=(g1 a ha).2;rwa [Nat.zero_add] at this
  have hlen:=inc_len _ 0 _ g2 (fun a ha=>⟨Nat.zero_le _,hx a ha⟩)
  have kv:∀ t,okA (.val v t)=.val v t:=hI.okA
  have hse:=sealed_ok ok n (by omega) t2 hS2 hI.rows.at_ (by omega) (fun a ha=>by have:=hx a ha;omega) (by omega)
  rw [p1] at hse
  have z1:decide ((0:Int)≠0)=false:=rfl
  have z3:decide ((0:Int)=0)=true:=rfl
  simp (config:={ maxSteps:=1000000 }) (disch:=first|omega|(with_unfolding_all exact rfl)|(simp only[new_n,put_n,new_m];omega)|(refine put_m_le ?_;simp only[new_m];omega)) only [K4r3,K4r5,u15,u14,u13,u12,u11,u10,u9,u8,u5,u4,Abs.W,reduceIte,Nat.reduceEqDiff,Nat.reduceAdd,decide_true,decide_false,kLoop_def,Nat.reduceSub,List.cons_append,List.nil_append,List.append_nil,List.length_cons,List.length_nil,Env.find_set,okt,ex0,ex1,z1,z3,x3,scS2,kL,kv,knD,hse]
  generalize hlp:loopN _ rounds _ _ _ _ _=rl
  obtain ⟨e,L1,t3,rfl,rfl,f2⟩:=loop_of hlp (fun i L t=>(∀ c,c<t2.n→t.h.get c=t2.h.get c)∧t2.n≤t.n∧t.n≤t2.n+10 * i∧L.find 3=.ptr t1.n 0∧L.find 4=v∧L.find 5=.int .i64 ((0:Nat):Int)∧L.find 6=.int .i64 (i:Int))
   (fun e L t=>e=.ret∧L.find 2=.bool true) c.2 (by unfold rounds;omega)
   ⟨fun _ _=>rfl,Nat.le_refl _,by omega,by simp only [find_cons,Env.find_set,reduceIte,Nat.reduceEqDiff],by simp only [find_cons,Env.find_set,reduceIte,Nat.reduceEqDiff],by simp only [find_cons,Env.find_set,reduceIte,Nat.reduceEqDiff];rfl,by simp only [find_cons,Env.find_set,reduceIte,Nat.reduceEqDiff];rfl⟩
   (fun i L t hi ⟨ts,tn,tk,q3,q4,q5,q6⟩=>by
    obtain ⟨e1,L1,t4,b0,hb⟩:=few_round ok n hn cx hS2 x3 (by omega) ts tn (by omega) (by omega) q3 q4 q5 q6 (fun x hx=>by
     by_cases hlt:i<c.2
     ·rw [p2 i hlt] at hx;cases hx
     ·obtain rfl:i=c.2:=by omega
      rw [p3] at hx
      injection hx with hx
      subst hx
      exact ⟨rfl,by omega,hI.rows.at_⟩)
    rcases hb with ⟨rfl,b1,b2,b3,b4,b5,b6,b7,b8⟩ | ⟨rfl,b1,b2⟩
    ·by_cases hlt:i<c.2
     ·exact .inl ⟨hlt,L1,t4,b0,b2,b3,by omega,b5,b6,b7,b8⟩
     ·obtain rfl:i=c.2:=by omega
      rw [p3] at b1;cases b1
    ·exact .inr ⟨.ret,L1,t4,by simp,b0,rfl,b1⟩)
  simp (disch:=first|omega|(with_unfolding_all exact rfl)|(simp only[new_n,put_n,new_m];omega)|(refine put_m_le ?_;simp only[new_m];omega)) only [res4,Abs.W,reduceIte,Nat.reduceEqDiff,Nat.reduceAdd,decide_true,decide_false,kLoop_def,Nat.reduceSub,List.cons_append,List.nil_append,List.append_nil,List.length_cons,List.length_nil,Env.find_set,f2]
  exact ⟨_,rfl⟩
end Go.Proofs.Ytoolodjbfphkjaa.walk
set_option maxRecDepth 10000
namespace Go.Proofs.Ytoolodjbfphkjaa.walk
open Go.Abs Go.Proofs.Ytoolodjbfphkjaa.code
end Go.Proofs.Ytoolodjbfphkjaa.walk
namespace Go.Proofs.Ytoolodjbfphkjaa.mdie
open Go.RowKit
def Die (b:Nat) (w:World):Prop:=∃ s,w.heap[b]? = some (.cells #[.int .u64 s] 77 (0,0))
theorem Die.old {b:Nat} {w:World} (h:Die b w):(∃ s,w.cell? ⟨b,0,none⟩=some (.int .u64 s))∧w.frozen? ⟨b,0,none⟩=false:=by
 obtain ⟨s,hs⟩:=h
 refine ⟨⟨s,?_⟩,?_⟩
 ·unfold World.cell?;simp [hs]
 ·unfold World.frozen?;simp [hs]
structure Stir (b:Nat) (w w':World):Prop where
 below:Below b w w'
 rest:∀ p:Addr,p.block≠b→p.block<w.heap.size→w'.cell? p=w.cell? p∧w'.frozen? p=w.frozen? p
 die:Die b w'
def Gives (b:Nat) (k:IntKind) (Q:Int→Prop) (w:World) (e:Ending) (w':World):Prop:=∃ r,Q r∧e=.returned (.int k r)∧Stir b w w'
theorem bits_nonneg (op:BinOp) (x y:Int):0≤bits op .u64 x y:=by
 have:=bounds_u64 (wf_bits (k:=.u64) (op:=op) (x:=x) (y:=y))
 exact this.1
theorem Stir.set {b:Nat} {w:World} (h:Die b w) (s:Int):Stir b w (w.setCell ⟨b,0,none⟩ (.int .u64 s)):=by
 obtain ⟨t,ht⟩:=h
 refine ⟨(Below.refl b w).setCell (p:=⟨b,0,none⟩) (Nat.le_refl b) _,fun p hp _=>⟨World.cell?_of_block (Below.heap_setCell _ _ _ _ hp),World.frozen?_of_block (Below.heap_setCell _ _ _ _ hp)⟩,⟨s,?_⟩⟩
 unfold World.setCell
 simp [Array.getElem?_modify,ht]
theorem roll (b:Nat) (w:World) (h:Die b w):Calls Try.prog 26 #[.pointer (some ⟨b,0,none⟩)] w (Gives b .u64 (fun r=>0≤r) w):=by
 have h':=Lib.hid h
 obtain ⟨⟨s,hs⟩,hf⟩:=h.old
 clear h
 go_enter Try.func26,Try.ntmps26
 go_wp2
 go_ret
 exact ⟨_,bits_nonneg _ _ _,rfl,Stir.set h'.out _⟩
theorem Stir.refl {b:Nat} {w:World} (h:Die b w):Stir b w w:=⟨Below.refl _ _,fun _ _ _=>⟨rfl,rfl⟩,h⟩
theorem Stir.trans {b:Nat} {u v w:World} (h:Stir b u v) (k:Stir b v w):Stir b u w :=
 ⟨h.below.trans k.below,fun p hp hb=>⟨(k.rest p hp (Nat.lt_of_lt_of_le hb h.below.size)).1.trans (h.rest p hp hb).1,(k.rest p hp (Nat.lt_of_lt_of_le hb h.below.size)).2.trans (h.rest p hp hb).2⟩,k.die⟩
theorem Die.lt {b:Nat} {w:World} (h:Die b w):b<w.heap.size:=by obtain ⟨⟨s,hs⟩,_⟩:=h.old;exact World.block_lt_of_cell? w _ hs
theorem Stir.drew {b:Nat} {w w':World} (h:Stir b w w'):Stir b w w'.drew:=h.trans ⟨⟨rfl,rfl,rfl,Nat.le_refl _,fun _ _=>rfl⟩,fun _ _ _=>⟨rfl,rfl⟩,h.die⟩
def Born (w:World) (e:Ending) (w':World):Prop:=e=.returned (.pointer (some ⟨w.heap.size,0,none⟩))∧Below w.heap.size w w'∧Die w.heap.size w'∧w.heap.size<w'.heap.size
theorem Die.born (w:World) (s:Int):Die w.heap.size (w.alloc (.cells #[.int .u64 s] 77)):=⟨s,by show (w.heap.push _)[w.heap.size]? = _;rw [Array.getElem?_push,if_pos rfl]⟩
set_option maxRecDepth 100000 in
theorem born (x:Option Addr) (n c:Nat) (w:World) (hn:n≤maxLen) (hc:∀ i,i<n→∃ b o,x=some ⟨b,o,none⟩∧∃ v,w.cell? ⟨b,o+i,none⟩=some (.int .i64 v)) :
  Calls Try.prog 6 #[.slice x n c] w (Born w):=by
 unfold maxLen at hn
 have HC:=Lib.hid hc
 clear hc
 have hdie:=Lib.hid (Die.born w 2611923443488327891)
 go_enter Try.func6,Try.ntmps6
 go_wp2
 go_loopw [4] (fun i wr=>∃ k:Nat,k≤n∧i=.int .i64 k∧Stir w.heap.size (w.alloc (.cells #[.int .u64 2611923443488327891] 77)) wr) (fun i _=>n - (intOf i).toNat)
 case atStart=>exact ⟨0,Nat.zero_le _,rfl,Stir.refl hdie.out⟩
 case round =>
  obtain ⟨k,hk,rfl,hs⟩:=hrel
  by_cases hlt:k<n
  ·obtain ⟨b,o,rfl,v,hv⟩:=HC.out k hlt
   have hb:=World.block_lt_of_cell? _ _ hv
   simp only at hb
   have hv1:wr.cell? ⟨b,o+k,none⟩=some (.int .i64 v):=((hs.rest ⟨b,o+k,none⟩ (Nat.ne_of_lt hb) (by simp;omega)).1.trans (World.cell?_of_block (Below.heap_alloc _ _ _ hb))).trans hv
   clear hv
   obtain ⟨⟨s,hd⟩,hf⟩:=hs.die.old
   have hst:=Lib.hid (fun s1:Int=>(hs.drew).trans (Stir.set hs.drew.die s1))
   have hlt':(k:Int)<(n:Int):=by omega
   have hk0:(0:Int)≤(k:Int):=by omega
   go_wp2
   go_still_tail 12,(by kernel_rfl)
   change wpList _ _ _ _ _ wr.drew
   go_wp2_with (go_at_call 26;refine (roll _ _ ?_).mono ?_;exact (hst.out _).die;rintro e w1 ⟨r,hr,rfl,hs1⟩;(have hs2:=(hst.out _).trans hs1))
   go_roundw
   case rel=>exact ⟨k+1,by omega,by go_num,hs2⟩
   case measure=>simp [intOf];omega
  ·go_wp2
   go_ret
   exact ⟨rfl,((Below.refl w.heap.size w).alloc (Nat.le_refl _) _).trans hs.below,hs.die,by have:=hs.below.size;simp at this;omega⟩
end Go.Proofs.Ytoolodjbfphkjaa.mdie
namespace Go.Abs
open Go.RowKit
variable {P:Program}
end Go.Abs
set_option maxRecDepth 10000
namespace Go.Proofs.Ytoolodjbfphkjaa.walk
open Go.Abs Go.RowKit Go.Proofs.Ytoolodjbfphkjaa.code
noncomputable def die0 (F:Int):St:=St.new ⟨.nil,0,far⟩ (.cells [.int .u64 F] (tag 77))
def rho0 (d:Nat):Rho:=fun b=>if b=0 then some (d,(0,0)) else none
theorem die0_get {F:Int} {b:Nat} {o:AObj} (h:(die0 F).h.get b=some o):b=0∧o=.cells [.int .u64 F] (tag 77):=by
 by_cases e:b=0
 ·subst e
  have:(die0 F).h.get 0=some (.cells [.int .u64 F] (tag 77)):=get_new_eq _ _ _ rfl (by decide)
  rw [this] at h
  exact ⟨rfl,(Option.some.inj h).symm⟩
 ·unfold die0 at h
  rw [get_new_ne _ _ _ e] at h
  cases h
theorem die0_has {F:Int} {b x:Nat} {o:AObj} (h:Has (die0 F).h b x o):b=0∧x=0∧o=.cells [.int .u64 F] (tag 77):=by
 obtain ⟨y,hy,hp⟩:=h
 obtain ⟨rfl,rfl⟩:=die0_get hy
 have hl:AObj.lone (.cells [.int .u64 F] (tag 77)):=trivial
 rw [parts_lone hl] at hp
 have:=List.mem_singleton.mp hp
 cases this
 exact ⟨rfl,rfl,rfl⟩
theorem die0_rel {F:Int} {d:Nat} {W:World} (h:W.heap[d]? = some (.cells #[.int .u64 F] 77 (0,0))):SRel (rho0 d) (die0 F) W:=by
 refine ⟨⟨fun b o hb=>?_,fun b x o hb=>?_,fun b b' x x' o o' c e e' hb hb' _ _=>?_,fun g cs hg=>(by cases hg),fun b x o c e hb hr=>rfl,fun b x x' o o' c e e' hb hb' hr hr'=>?_⟩,fun b hb=>?_⟩
 ·rw [(die0_get hb).1];decide
 ·obtain ⟨rfl,rfl,rfl⟩:=die0_has hb
  exact ⟨d,(0,0),_,if_pos rfl,h,.cells rfl (.cons (.int _ _) .nil) (Typed.tag _)⟩
 ·rw [(die0_has hb).1,(die0_has hb').1]
 ·obtain ⟨_,rfl,_⟩:=die0_has hb
  obtain ⟨_,rfl,_⟩:=die0_has hb'
  rw [hr] at hr'
  cases hr'
  rfl
 ·have:1≤b:=hb
  exact if_neg (by omega)
end Go.Proofs.Ytoolodjbfphkjaa.walk
namespace Go.Abs
open Go.RowKit
variable {P:Program}
theorem range_two (n:Nat):List.range' 0 (n+2)=0::1::List.range' 2 n:=rfl
theorem mid2_calls {cl:CallF} (hc:CallSound P cl) {f:FuncId} {fn:Func} (hf:P.funcs[f]? = some fn) {c0 rest:Code} {id:Nat} {ops:Array Oper} (hb:fn.body=some (.seq c0 (.seq (.region id ops false) rest))) {X:FuncId→List Nat} {k:K} {fo:OpsF} {o0 o1:Oper} {suf:List Oper} {A:Array Value} {W:World} {R:Ending→World→Prop}
  (hops:ops.toList=o0::o1::suf) (g0:o0.guard=none) (g1:o1.guard=none) (hd0:∀ c,o0.op≠.defer c) (hd1:∀ c,o1.op≠.defer c) (hfo:opsK P fn.ntmps ops suf=some fo) (hk:codeK P (X f) fn.ntmps rest=some k)
  (h:c0.wp P (Exit.then (fun a w=>∃ V0 g B,(execOp a.eval o0).run P w=.ok (.value V0) w∧(execOp (a.put o0.dst V0).eval o1).run P w=.ok (.enter g B) w∧Calls P g B w fun e w2=>∃ V1,e=.returned V1∧∃ ρ L0 L2 s M s1 v s',ActRel ρ fn.ntmps L2 [] ((a.put o0.dst V0).put o1.dst V1)∧Clean (X f) L0∧(∀ t,(∀ o ∈ ops.toList,o.dst≠some t)→L2.find t=L0.find t)∧SRel ρ s w2∧fo cl L2 s=.ok M s1 ∧
    finA P fn (k cl ⟨f,none,fn.ntmps,X f⟩ (keepK (keepOf (X f) ops.toList) M L0) [] s1)=.val v s'∧∀ ρ' V W',After ρ s w2 ρ' s' W'→VRel ρ' v V→R (.returned V) W') fun _ _ _=>False)
   { tmps:=A++Array.replicate (fn.ntmps - A.size) undef,defers:=[] } W):Calls P f A W R:=by
 intro cs
 obtain ⟨b,hbd⟩:∃ b:Frame,b={ (default:Frame) with fn:=f,kind:=.normal }:=⟨_,rfl⟩
 have hr:b.roundOf=none:=by rw [hbd];rfl
 have henter:Frame.enter P f A .normal=b.at { tmps:=A++Array.replicate (fn.ntmps - A.size) undef,defers:=[] } [.code (.seq c0 (.seq (.region id ops false) rest))]:=by
  rw [hbd];simp [Frame.enter,Frame.at,hf,hb]
 have ho0:ops[0]? = some o0:=by rw [← Array.getElem?_toList,hops];rfl
 have ho1:ops[1]? = some o1:=by rw [← Array.getElem?_toList,hops];rfl
 have hsz:ops.size=suf.length+2:=by rw [← Array.length_toList,hops];rfl
 obtain ⟨e0,a0,w0,q0,ar0⟩:=h b [.code (.seq (.region id ops false) rest)] cs
 cases e0<;>simp only [Exit.then] at q0
 obtain ⟨V0,g,B,r0,r1,hcall⟩:=q0
 have st1:Steps P (lone (Frame.enter P f A .normal) cs W) (lone (b.atR a0 (.inRegion ops (0::1::List.range' 2 suf.length)::[.code rest])) cs w0):=by
  rw [henter]
  refine (Steps.head step_seq ar0).trans ?_
  rw [← Frame.atR_of_none hr]
  refine Steps.head stepR_seq ?_
  have:=Steps.one (stepR_region (P:=P) (b:=b) (a:=a0) (k:=[.code rest]) (cs:=cs) (w:=w0) (ops:=ops) (id:=id))
  rw [List.range_eq_range',hsz,range_two] at this
  exact this
 have st2:Steps P (lone (b.atR a0 (.inRegion ops (0::1::List.range' 2 suf.length)::[.code rest])) cs w0) (lone (b.atR (a0.put o0.dst V0) (.inRegion ops (1::List.range' 2 suf.length)::[.code rest])) cs w0) :=
  .one (stepR_value ho0 (wanted_none g0) hd0 r0)
 have st3:Steps P (lone (b.atR (a0.put o0.dst V0) (.inRegion ops (1::List.range' 2 suf.length)::[.code rest])) cs w0) (lone (Frame.enter P g B .normal) (b.atR (a0.put o0.dst V0) (.inRegion ops (1::List.range' 2 suf.length)::[.code rest])::cs) w0) :=
  .one (stepR_enter ho1 (wanted_none g1) hd1 r1)
 obtain ⟨e1,w2,fr,⟨V1,rfl,ρ,L0,L2,s,M,s1,v,s',hact,hclean,hL,hs,hfoM,hfin,hR⟩,hcomes,_,hleave⟩:=hcall (b.atR (a0.put o0.dst V0) (.inRegion ops (1::List.range' 2 suf.length)::[.code rest])::cs)
 have st4:Steps P (lone fr (b.atR (a0.put o0.dst V0) (.inRegion ops (1::List.range' 2 suf.length)::[.code rest])::cs) w2) (lone (b.atR ((a0.put o0.dst V0).put o1.dst V1) (.inRegion ops (List.range' 2 suf.length)::[.code rest])) cs w2):=by
  have hfi:=Frame.finish_atR b (a0.put o0.dst V0) ops 1 (List.range' 2 suf.length) [.code rest] V1
  simp only [ho1,Option.bind_some] at hfi
  rw [← hfi]
  exact .one (step_leave_returned hleave)
 obtain ⟨ρ',W',a',af,ha',hq,st5⟩:=ops_sound hc (suf:=suf) (i:=2) (by rw [hops];rfl) hfo hact hs hfoM
 obtain ⟨h1,h2⟩:=keep_rel (xs:=X f) (ops:=ops.toList) (L:=L0) ha' (fun t ht=>(hq t fun o ho=>ht o (by rw [hops];exact List.mem_cons_of_mem _ (List.mem_cons_of_mem _ ho))).trans (hL t ht)) hclean
 have stA:Steps P (lone (Frame.enter P f A .normal) cs W) (lone (b.atR a' [.code rest]) cs W') :=
  st1.trans (st2.trans (st3.trans (Steps.trans hcomes (st4.trans ((st5 b [.code rest] cs).trans (.one stepR_region_end))))))
 have hctx:CtxRel ρ' ⟨f,none,fn.ntmps,X f⟩ b:=⟨by rw [hbd],by rw [hbd],fun _=>hr,fun l e=>by cases e⟩
 generalize hr2:k cl ⟨f,none,fn.ntmps,X f⟩ (keepK (keepOf (X f) ops.toList) M L0) [] s1=r at hfin
 cases r with
 | fail=>cases hfin
 | done e L1 d s₁ =>
  obtain ⟨ρ₁,a₁,W₁,af₁,ha₁,_,_,st⟩:=codeK_sound rest hk hc rfl rfl hctx h1 h2 af.rel hr2
  have fin:∀ (hle:leaveA P fn.results.toList L1 d s₁=.val v s') (hst:∃ t,Steps P (lone (Frame.enter P f A .normal) cs W) (lone (back b a₁ t) cs W₁)),
    ∃ V w' fr,R (.returned V) w'∧Steps P (lone (Frame.enter P f A .normal) cs W) (lone fr cs w')∧fr.fn=f∧fr.leaving P w' (.returned V):=by
   intro hle hst
   obtain ⟨V,W₂,af₂,hv,st₂⟩:=leaveA_calls ha₁ af₁.rel hle
   obtain ⟨t,st₁⟩:=hst
   obtain ⟨fr,h1,h2,h3⟩:=st₂ b (by rw [hbd]) (by rw [hbd];exact hf) t cs
   exact ⟨V,W₂,fr,hR _ _ _ (af.trans (af₁.trans af₂)) hv,Steps.trans st₁ h1,by rw [h2,hbd],h3⟩
  cases e with
  | exit id=>cases hfin
  | norm =>
   have z:=st [] cs
   obtain ⟨V,w',fr,h1,h2,h3,h4⟩:=fin hfin ⟨[],stA.trans (Steps.trans z (.one (stepR_end hr)))⟩
   exact ⟨.returned V,w',fr,h1,h2,h3,h4⟩
  | ret =>
   obtain ⟨k0,z⟩:=st [] cs
   obtain ⟨V,w',fr,h1,h2,h3,h4⟩:=fin hfin ⟨.code .ret::k0,stA.trans (z.trans (.one (stepR_ret hr)))⟩
   exact ⟨.returned V,w',fr,h1,h2,h3,h4⟩
end Go.Abs
set_option maxRecDepth 10000
namespace Go.Proofs.Ytoolodjbfphkjaa.walk
open Go.Abs Go.RowKit Go.Proofs.Ytoolodjbfphkjaa.code
set_option maxRecDepth 100000 in
theorem few_calls (a:Option Addr) (n c:Nat) (w:World) (hn:n≤maxLen) (hc:∀ i,i<n→∃ b o,a=some ⟨b,o,none⟩∧∃ v,w.cell? ⟨b,o+i,none⟩=some (.int .i64 v)) :
  Calls Try.prog 4 #[.slice a n c] w fun e w'=>e=.returned (.bool true)∧Below w.heap.size w w':=by
 have HC:=Lib.hid hc
 clear hc
 refine mid2_calls (cl:=knows 9 (call Try.prog X 80)) (knows_sound (call_sound 200) Try.func9 awake.entered (call_sound 80)) Try.func4 rfl (X:=X) (k:=fewRest) (fo:=fewFirst) rfl rfl rfl (fun c h=>by cases h) (fun c h=>by cases h) (by kernel_rfl) (by kernel_rfl) ?_
 simp only [Try.ntmps4,List.size_toArray,List.length_cons,List.length_nil,Nat.reduceAdd,Nat.reduceSub,Array.replicate_succ,Array.replicate_zero,List.push_toArray,List.append_toArray,List.nil_append,List.cons_append]
 go_wp2
 refine ⟨.slice a n c,6,#[.slice a n c],rfl,by kernel_rfl,(mdie.born _ _ _ _ hn HC.out).mono ?_⟩
 rintro e w1 ⟨rfl,hB1,⟨F,hF⟩,hg1⟩
 have hd0:walk.Die 0 (die0 F).h:=⟨F,get_new_eq _ _ _ rfl (by decide)⟩
 obtain ⟨M,s1,s',hM,hs'⟩:=few_body 80 (by omega) ⟨4,none,Try.f4.ntmps,X 4⟩ (die0 F) 0 hd0 (by show 0<1;omega) (by show 1+900000000≤1000000000;omega)
 refine ⟨_,rfl,rho0 w.heap.size,.nil,.cons 10 (.ptr 0 0) .nil,die0 F,M,s1,.bool true,s',⟨fun t=>?_,rfl,.nil⟩,fun t _=>rfl,fun t ht=>?_,die0_rel hF,hM,hs' _ (by kernel_rfl),fun ρ' V W' af hv=>?_⟩
 ·by_cases e:t=10
  ·subst e
   exact .ptr (e:=(0,0)) (if_pos rfl)
  ·rw [show (Env.cons 10 (.ptr 0 0) .nil).find t=AV.bad by rw [find_cons,if_neg (by omega)];rfl]
   exact .bad _
 ·by_cases e:t=10
  ·subst e
   exact absurd rfl (ht _ (List.mem_cons_of_mem _ (List.mem_cons_self ..)))
  ·rw [find_cons,if_neg (fun h=>by first | exact e h | exact e h.symm)]
 ·cases hv
  refine ⟨rfl,hB1.trans ⟨af.os,af.tape,af.output,af.size,fun k hk=>af.frame k (by omega) fun b x o e hb hr=>?_⟩⟩
  obtain ⟨_,rfl,_⟩:=die0_has hb
  have hr:some (w.heap.size,(0,0))=some (k,e):=hr
  injection hr with hr
  injection hr with hr _
  omega
end Go.Proofs.Ytoolodjbfphkjaa.walk
