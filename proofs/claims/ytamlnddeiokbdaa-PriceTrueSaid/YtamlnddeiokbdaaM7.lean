/- The law PriceOrder: its loops. -/
import Derived.Test.YtamlnddeiokbdaaM6
import Derived.Test.YtamlnddeiokbdaaM4
import Derived.Test.YtamlnddeiokbdaaM5
import Derived.Test.YtamlnddeiokbdaaCodes
import Derived.Test.YtamlnddeiokbdaaWalkAll
set_option linter.unusedSimpArgs false
set_option maxHeartbeats 16000000
set_option linter.unusedVariables false
set_option maxRecDepth 10000
namespace Go.Proofs.Ytamlnddeiokbdaa.walk
open Go.Abs Go.Proofs.Ytamlnddeiokbdaa.code
theorem extE0 (a b:AV) (s:St):extA 0 s (.tup [a,b])=.val a s:=Eq.trans (Eq.refl _) (Eq.refl _)
theorem extE1 (a b:AV) (s:St):extA 1 s (.tup [a,b])=.val b s:=Eq.trans (Eq.refl _) (Eq.refl _)
theorem okA_tupE (a b:AV) (s:St):okA (.val (.tup [a,b]) s)=.val (.tup [a,b]) s:=Eq.trans (Eq.refl _) (Eq.refl _)
theorem extT0 (a b c:AV) (s:St):extA 0 s (.tup [a,b,c])=.val a s:=Eq.trans (Eq.refl _) (Eq.refl _)
theorem extT1 (a b c:AV) (s:St):extA 1 s (.tup [a,b,c])=.val b s:=Eq.trans (Eq.refl _) (Eq.refl _)
theorem extT2 (a b c:AV) (s:St):extA 2 s (.tup [a,b,c])=.val c s:=Eq.trans (Eq.refl _) (Eq.refl _)
theorem okA_tupT (a b c:AV) (s:St):okA (.val (.tup [a,b,c]) s)=.val (.tup [a,b,c]) s:=Eq.trans (Eq.refl _) (Eq.refl _)
structure OthJ (u t:St) (p7:Nat) (ks kg:Int) (l:List Sale) (v:AV) (bl kk:Nat):Prop where
 g7:t.h.get p7=some (.cells [.int .i64 ks,.int .i64 kg,v] (tag 27))
 is:IsAt t.h t.n bl 6 (tag 51) (l.map Sale.cells) v
 lo:u.n≤bl
 same:∀ c,c<u.n→c≠p7→t.h.get c=u.h.get c
 n:u.n≤t.n
 le:t.n≤u.n+kk
end Go.Proofs.Ytamlnddeiokbdaa.walk
set_option maxRecDepth 10000
namespace Go.Abs
theorem IsAt.away {h:Heap} {n b w tg d:Nat} {rows:List (List AV)} {v:AV} (r:IsAt h n b w tg rows v) (hb:b≠d):∀ (i:Nat) (hi:i<rows.length),∃ x p c sz,x<n∧x≠d∧(∀ s,ixsA w s v (.int .i64 i)=.val (.ptr x p) s)∧h.get x=some (.cells c sz)∧cut p w c=some rows[i]:=fun i hi=>by
 rcases r.is with ⟨h1,_⟩ | ⟨_,h2,h3,h4⟩
 ·subst h1;simp at hi
 ·subst h3
  exact ⟨b,0+i * w,_,_,h2,hb,fun s=>ixs_slice _ _ _ _ _ _ _ _ hi,h4,by rw [Nat.zero_add];exact flatten_cut r.wide hi⟩
end Go.Abs
namespace Go.Proofs.Ytamlnddeiokbdaa.walk
open Go.Abs Go.Proofs.Ytamlnddeiokbdaa.code
theorem truthOf_ex {N d bl1:Nat} {b:Book} {vb:AV} {s:St} {r:ARes} (hr:call Try.prog X N (.fn 13) [.ptr d 0,.agg (bookV b vb)] s=r) (hN:6≤N) (hd:Die d s.h) (hlt:d<s.n) (hF:Fine b.sales) (hl:b.sales.length≤40) (hI:IsAt s.h s.n bl1 6 (tag 51) (b.sales.map Sale.cells) vb) (hbd:bl1≠d) (hs:s.n+6000≤far) :
  ∃ (Z:List Sold) (v:AV) (bl:Nat) (t:St),r=.val v t∧Stir d s t 500∧Die d t.h∧salesZ Z=b.sales∧AllOk Z∧s.n≤bl∧IsAt t.h t.n bl 2 (tag 64) (truthRows Z) v:=by
 obtain ⟨m,rfl⟩:∃ m,N=m+1:=⟨N - 1,by omega⟩
 have hf:far=1000000000:=rfl
 obtain ⟨v,t,e,st,Z,bl,hq1,hq2,hq3,hq4,hq5⟩:=call_stir2 (n:=m) (args:=[.ptr d 0,.agg (bookV b vb)]) (d:=d) (s:=s) (k:=500) (Q:=fun w h m=>∃ (Z:List Sold) (bl:Nat),Die d h∧salesZ Z=b.sales∧AllOk Z∧s.n≤bl∧IsAt h m bl 2 (tag 64) (truthRows Z) w) Try.func13 rfl (fun u uh un um=>by
  have hd':=hd
  rw [← uh] at hd hI
  rw [← un] at hlt hI hs
  have sc:scalars (bookV b vb)=true:=by show scalars [vb]=true;exact hI.scal.1
  obtain ⟨w,hw⟩:∃ w:St,w=u.new (.cells (bookV b vb) (tag 27)):=⟨_,rfl⟩
  have wn:w.n=u.n+1:=by rw [hw];rfl
  have wm:w.m=far:=by rw [hw];exact um
  have wg:∀ c,c<u.n→w.h.get c=u.h.get c:=fun c hc=>by rw [hw,get_new_ne _ _ _ (by omega)]
  have w0:w.h.get u.n=some (.cells (bookV b vb) (tag 27)):=by rw [hw];exact get_new_eq _ _ _ rfl (by omega)
  have hIw:IsAt w.h u.n bl1 6 (tag 51) (b.sales.map Sale.cells) vb:=hI.mono (fun h=>wg bl1 h) (Nat.le_refl _)
  have kb:=hIw.okA
  have lb:∀ s,lenSlA s vb=.val (.int .i64 (b.sales.length:Int)) s:=fun s=>by have:=hIw.rows.at_.len s;rw [List.length_map] at this;exact this
  rw [enter13]
  simp (disch:=first|omega|(with_unfolding_all exact rfl)|(simp only[new_n,put_n,new_m];omega)|(refine put_m_le ?_;simp only[new_m];omega)) only [K13,K13r0,Abs.W,reduceIte,Nat.reduceEqDiff,Nat.reduceAdd,decide_true,decide_false,kLoop_def,Nat.reduceSub,List.cons_append,List.nil_append,List.append_nil,List.length_cons,List.length_nil,Env.find_set,sc]
  rw [← hw]
  clear hw
  unfold bookV at w0
  simp (disch:=first|omega|(with_unfolding_all exact rfl)|(simp only[new_n,put_n,new_m];omega)|(refine put_m_le ?_;simp only[new_m];omega)) only [K13r1,K13r2,Abs.W,reduceIte,Nat.reduceEqDiff,Nat.reduceAdd,decide_true,decide_false,kLoop_def,Nat.reduceSub,List.cons_append,List.nil_append,List.append_nil,List.length_cons,List.length_nil,Env.find_set]
  generalize hlp:loopN _ rounds _ _ _ _ _=rl
  have hJ:TruJ w w d (b.sales.take 0) [] .nilslice w.n (10 * 0):=⟨hd.keep (wg d (by omega)),IsAt.nil _ _ _ _ _,Nat.le_refl _,fun _ _ _=>rfl,Nat.le_refl _,Nat.le_refl _,by omega,by omega,by simp,fun z hz=>by cases hz⟩
  obtain ⟨e,L1,t2,rfl,rfl,Z,v,bl,J,f5⟩:=loop_of hlp (fun j L' t'=>∃ Z v bl,TruJ w t' d (b.sales.take j) Z v bl (10 * j)∧L'.find 0=.ptr d 0∧L'.find 3=.ptr u.n 0∧L'.find 5=v∧L'.find 6=.int .i64 j)
   (fun e L' t'=>e=.exit 0∧∃ Z v bl,TruJ w t' d b.sales Z v bl (10 * b.sales.length)∧L'.find 5=v) b.sales.length (by unfold rounds;omega)
   ⟨[],.nilslice,w.n,hJ,by simp only [find_cons,Env.find_set,reduceIte,Nat.reduceEqDiff],by simp only [find_cons,Env.find_set,reduceIte,Nat.reduceEqDiff],by simp only [find_cons,Env.find_set,reduceIte,Nat.reduceEqDiff],by simp only [find_cons,Env.find_set,reduceIte,Nat.reduceEqDiff];rfl⟩
   (fun j L' t' hj ⟨Z,v,bl,hJ,q0,q3,q5,q6⟩=>by
    by_cases hlt':j<b.sales.length
    ·obtain ⟨L2,t2,Z2,v2,bl2,z1,z2,z3,z4,z5,z6⟩:=truth_round m (by omega) _ hJ hIw.rows.at_ (by omega) hF w0 (by omega) (by omega) (by omega) (hIw.away hbd) (by omega) (by omega) hlt' q0 q3 q5 q6
     exact .inl ⟨hlt',L2,t2,z1,Z2,v2,bl2,⟨z2.die,z2.is,z2.lo,z2.same,z2.n,by have:=z2.le;omega,z2.m,z2.mle,z2.sal,z2.ok⟩,z3,z4,z5,z6⟩
    ·obtain rfl:j=b.sales.length:=by omega
     have e0:decide ((b.sales.length:Int)<(b.sales.length:Int))=false:=by simp
     have t3:=(hJ.same u.n (by omega) (by omega)).trans w0
     rw [List.take_length] at hJ
     refine .inr ⟨.exit 0,L'.set 11 (.bool false),t',by simp,?_,rfl,Z,v,bl,hJ,by simp only [Env.find_set,q5,reduceIte,Nat.reduceEqDiff]⟩
     simp (disch:=first|omega|(with_unfolding_all exact rfl)|(simp only[new_n,put_n,new_m];omega)|(refine put_m_le ?_;simp only[new_m];omega)) only [K13l0,K13r3,Abs.W,reduceIte,Nat.reduceEqDiff,Nat.reduceAdd,decide_true,decide_false,kLoop_def,Nat.reduceSub,List.cons_append,List.nil_append,List.append_nil,List.length_cons,List.length_nil,Env.find_set,q3,q6,t3,kb,lb,e0,Nat.zero_add])
  obtain ⟨jd,ji,jlo,js,jn,jle,jm,jml,jsal,jok⟩:=J
  have kv:=ji.okA
  simp (disch:=first|omega|(with_unfolding_all exact rfl)|(simp only[new_n,put_n,new_m];omega)|(refine put_m_le ?_;simp only[new_m];omega)) only [K13r6,res13,Abs.W,reduceIte,Nat.reduceEqDiff,Nat.reduceAdd,decide_true,decide_false,kLoop_def,Nat.reduceSub,List.cons_append,List.nil_append,List.append_nil,List.length_cons,List.length_nil,Env.find_set,f5,kv]
  refine ⟨v,t2,rfl,⟨fun c hc hcd=>(js c (by omega) hcd).trans (wg c hc),by omega,by omega,fun _=>jm,by omega⟩,⟨Z,bl,jd,jsal,jok,by omega,ji⟩,fun hp=>?_⟩
  have hv:v=.nilslice∧truthRows Z=[]:=by
   rcases ji.is with ⟨z,z2⟩ | ⟨_,_,z,_⟩
   ·exact ⟨z2,z⟩
   ·subst z;simp [plain] at hp
  exact ⟨Z,s.n,hd',jsal,jok,Nat.le_refl _,by rw [hv.1,hv.2];exact IsAt.nil _ _ _ _ _⟩) (by omega)
 exact ⟨Z,v,bl,t,hr.symm.trans e,st,hq1,hq2,hq3,hq4,hq5⟩
theorem verd_cases (T:List Sale):verdOf T=1∧0<weighI false T∨verdOf T=2∧¬ 0<weighI true T∨verdOf T=3:=by
 unfold verdOf verdI
 by_cases h1:0<weighI false T
 ·exact .inl ⟨by rw [if_pos (decide_eq_true h1)],h1⟩
 ·rw [if_neg (by simpa using h1)]
  by_cases h2:0<weighI true T
  ·exact .inr (.inr (by rw [if_pos (decide_eq_true h2)]))
  ·exact .inr (.inl ⟨by rw [if_neg (by simpa using h2)],h2⟩)
theorem tru_goods (n:Nat) (hn:16≤n) (cx:Ctx) {Z:List Sold} {ks kg:Nat} {v1 vt:AV} {u t:St} {L:Env} {p4 i kk:Nat} (okS:(⟨ks,kg,salesZ Z⟩:Book).Ok) (okZ:AllOk Z) (hl:Z.length≤40)
  (g4:u.h.get p4=some (.cells [.int .i64 ks,.int .i64 kg,v1] (tag 27))) (b4:p4<u.n) (R1:RowsAt u.h u.n 6 ((salesZ Z).map Sale.cells) v1) (RT:RowsAt u.h u.n 2 (truthRows Z) vt) (hE:Past u t kk) (hs:u.n+kk+4000000≤far) (hi:i<kg)
  (q4:L.find 4=.ptr p4 0) (q9:L.find 9=vt) (q10:L.find 10=.int .i64 (i:Int)) :
  ∃ L1 t1,K3l0 (knows 20 (call Try.prog X n)) cx L [] t=.done .norm L1 [] t1∧Past u t1 (kk+1)∧t1.m≤t.m∧L1.find 10=.int .i64 ((i+1:Nat):Int)∧∀ c,c<10→L1.find c=L.find c:=by
 have hf:far=1000000000:=rfl
 have knP:∀ args s,knows 20 (call Try.prog X n) (.fn 14) args s=call Try.prog X n (.fn 14) args s:=fun _ _=>rfl
 have knF:∀ args s,knows 20 (call Try.prog X n) (.fn 15) args s=call Try.prog X n (.fn 15) args s:=fun _ _=>rfl
 have knO:∀ args s,knows 20 (call Try.prog X n) (.fn 16) args s=call Try.prog X n (.fn 16) args s:=fun _ _=>rfl
 have tn:=hE.n
 have tl:=hE.le
 have hkg:kg≤8:=okS.g1
 have e0:decide ((i:Int)<(kg:Int))=true:=decide_eq_true (by omega)
 have z0:decide ((0:Int)=0)=true:=rfl
 have ad:∀ s,aAdd s .i64 (i:Int) 1=.val (.int .i64 ((i+1:Nat):Int)) s:=fun s=>by rw [aAdd_i64 s _ _ (by omega)];rfl
 have ov1:∀ t,okA (.val v1 t)=.val v1 t:=fun t=>okA_ne R1.ne
 have ovt:∀ t,okA (.val vt t)=.val vt t:=fun t=>okA_ne RT.ne
 have sc1:scalars [AV.int .i64 ks,.int .i64 kg,v1]=true:=by
  have hv:v1.scalar=true:=by
   have h:=R1.len u
   cases v1<;>first | rfl | cases h
  show scalars [v1]=true
  unfold scalars
  rw [hv]
  rfl
 have T1:call Try.prog X n (.fn 14) [.agg [.int .i64 ks,.int .i64 kg,v1],.int .i64 (i:Int)] t=.val (priceV (soldOf (salesZ Z) i)) t:=Price_ok (b:=⟨ks,kg,salesZ Z⟩) hn okS hi (R1.grow hE.same hE.n) (by omega)
 obtain ⟨a1,a2,a3,a4,a5,a6⟩:=low_high (i:Int) 0 Z okZ
 obtain ⟨b0,b1⟩:=all_range (i:Int) Z okZ
 have hfb:=fair_between (g:=(i:Int)) okZ
 have hfi:=fair_is (g:=(i:Int)) okZ
 have hvc:=verd_cases (soldOf (salesZ Z) i)
 have hf0:allG (i:Int) Z=0→(fairI (i:Int) Z).2=false:=fun h=>by unfold fairI;rw [if_pos h]
 obtain ⟨vd,hvd⟩:∃ vd,vd=verdOf (soldOf (salesZ Z) i):=⟨_,rfl⟩
 obtain ⟨pl,hpl⟩:∃ pl,pl=priceI false (soldOf (salesZ Z) i):=⟨_,rfl⟩
 obtain ⟨ph,hph⟩:∃ ph,ph=priceI true (soldOf (salesZ Z) i):=⟨_,rfl⟩
 have hV:priceV (soldOf (salesZ Z) i)=.tup [.int .i64 vd,.agg [.int .i64 pl,.int .i64 ph],.int .i64 0]:=by rw [hvd,hpl,hph];rfl
 rw [hV] at T1
 have t4:=(hE.same p4 b4).trans g4
 obtain ⟨x,hx⟩:∃ x:St,x=(t.new (.cells [.int .i64 0,.int .i64 0] (tag 38))).put t.n (.cells [.int .i64 pl,.int .i64 ph] (tag 38)):=⟨_,rfl⟩
 have xn:x.n=t.n+1:=by rw [hx];rfl
 have xm:x.m≤t.m:=by rw [hx];simp only [St.put,minN_eq,new_m];omega
 have xt:x.h.get t.n=some (.cells [.int .i64 pl,.int .i64 ph] (tag 38)):=by rw [hx];exact get_put_eq _ _ _ _ rfl (by omega)
 have hX:Past u x (kk+1):=by rw [hx];exact (hE.new _).put _ tn
 have T2:call Try.prog X n (.fn 15) [.agg [.int .i64 ks,.int .i64 kg,v1],vt,.int .i64 (i:Int)] x=.val (.tup [.int .i64 (fairI i Z).1,.bool (fairI i Z).2]) x:=Fair_ok (by omega) okZ hl sc1 (R1.grow hX.same hX.n) (RT.grow hX.same hX.n) (by omega)
 have x4:=(hX.same p4 b4).trans g4
 simp (disch:=first|omega|(with_unfolding_all exact rfl)|(simp only[new_n,put_n,new_m];omega)|(refine put_m_le ?_;simp only[new_m];omega)) only [K3l0,K3r11,K3r12,Abs.W,reduceIte,Nat.reduceEqDiff,Nat.reduceAdd,decide_true,decide_false,kLoop_def,Nat.reduceSub,List.cons_append,List.nil_append,List.append_nil,List.length_cons,List.length_nil,Env.find_set,q4,q9,q10,e0,t4,knP,T1,ov1,extT0,extT1,extT2,okA_tupT,Nat.zero_add]
 rw [← hx]
 simp (disch:=first|omega|(with_unfolding_all exact rfl)|(simp only[new_n,put_n,new_m];omega)|(refine put_m_le ?_;simp only[new_m];omega)) only [K3r13,Abs.W,reduceIte,Nat.reduceEqDiff,Nat.reduceAdd,decide_true,decide_false,kLoop_def,Nat.reduceSub,List.cons_append,List.nil_append,List.append_nil,List.length_cons,List.length_nil,Env.find_set,q4,q9,q10,x4,knF,T2,ov1,ovt,extE0,extE1,okA_tupE,Nat.zero_add]
 clear hx T1 T2
 rw [← hvd] at hvc
 rw [← hpl,← hph] at hfb
 generalize fairI (i:Int) Z=fi at *
 obtain ⟨p,is⟩:=fi
 simp only at hfb hfi hf0
 have u14s4:=fun cl L s=>congrFun (congrFun (congrFun K3r14s4.eq_1 cl) L) s
 have u14s5:=fun cl L s=>congrFun (congrFun (congrFun K3r14s5.eq_1 cl) L) s
 have u14s6:=fun cl L s=>congrFun (congrFun (congrFun K3r14s6.eq_1 cl) L) s
 have u14s7:=fun cl L s=>congrFun (congrFun (congrFun K3r14s7.eq_1 cl) L) s
 have u14s8:=fun cl L s=>congrFun (congrFun (congrFun K3r14s8.eq_1 cl) L) s
 have u14s9:=fun cl L s=>congrFun (congrFun (congrFun K3r14s9.eq_1 cl) L) s
 have u14s10:=fun cl L s=>congrFun (congrFun (congrFun K3r14s10.eq_1 cl) L) s
 have u14s13:=fun cl L s=>congrFun (congrFun (congrFun K3r14s13.eq_1 cl) L) s
 have u14s14:=fun cl L s=>congrFun (congrFun (congrFun K3r14s14.eq_1 cl) L) s
 have u14s15:=fun cl L s=>congrFun (congrFun (congrFun K3r14s15.eq_1 cl) L) s
 have u14s16:=fun cl L s=>congrFun (congrFun (congrFun K3r14s16.eq_1 cl) L) s
 have u14s17:=fun cl L s=>congrFun (congrFun (congrFun K3r14s17.eq_1 cl) L) s
 have u14s18:=fun cl L s=>congrFun (congrFun (congrFun K3r14s18.eq_1 cl) L) s
 have u14s21:=fun cl L s=>congrFun (congrFun (congrFun K3r14s21.eq_1 cl) L) s
 have u14s22:=fun cl L s=>congrFun (congrFun (congrFun K3r14s22.eq_1 cl) L) s
 have u14s23:=fun cl L s=>congrFun (congrFun (congrFun K3r14s23.eq_1 cl) L) s
 have u14s24:=fun cl L s=>congrFun (congrFun (congrFun K3r14s24.eq_1 cl) L) s
 have u14s25:=fun cl L s=>congrFun (congrFun (congrFun K3r14s25.eq_1 cl) L) s
 cases is with
 | true =>
  have hA:allG (i:Int) Z≠0:=fun h=>by cases hf0 h
  obtain ⟨h1,h2⟩:=hfb (by omega)
  have ho:call Try.prog X n (.fn 16) [.agg [.int .i64 pl,.int .i64 ph],.int .i64 p] x=.val (.bool true) x:=holds_ok n (by omega) pl ph p x h1 h2 (by omega)
  rcases hvc with ⟨hv,_⟩ | ⟨hv,hw⟩ | hv
  ·have v1':decide (vd=1)=true:=decide_eq_true hv
   have v2':decide (vd=2)=false:=decide_eq_false (by omega)
   simp (config:={ maxSteps:=3000000 }) (disch:=first|omega|(with_unfolding_all exact rfl)|(simp only[new_n,put_n,new_m];omega)|(refine put_m_le ?_;simp only[new_m];omega)) only [K3r14,K3r16,u14s4,u14s5,u14s6,u14s7,u14s8,u14s9,u14s10,u14s13,u14s14,u14s15,u14s16,u14s17,u14s18,u14s21,u14s22,u14s23,u14s24,u14s25,Abs.W,reduceIte,Nat.reduceEqDiff,Nat.reduceAdd,decide_true,decide_false,kLoop_def,Nat.reduceSub,List.cons_append,List.nil_append,List.append_nil,List.length_cons,List.length_nil,Env.find_set,q10,xt,z0,knO,ho,v1',v2',ad,Nat.zero_add]
   refine ⟨_,_,rfl,hX,xm,by simp only [Env.find_set,reduceIte,Nat.reduceEqDiff],fun c hc=>?_⟩
   simp only [Env.find_set]
   repeat rw [if_neg (by omega)]
  ·omega
  ·have v1':decide (vd=1)=false:=decide_eq_false (by omega)
   have v2':decide (vd=2)=false:=decide_eq_false (by omega)
   simp (config:={ maxSteps:=3000000 }) (disch:=first|omega|(with_unfolding_all exact rfl)|(simp only[new_n,put_n,new_m];omega)|(refine put_m_le ?_;simp only[new_m];omega)) only [K3r14,K3r16,u14s4,u14s5,u14s6,u14s7,u14s8,u14s9,u14s10,u14s13,u14s14,u14s15,u14s16,u14s17,u14s18,u14s21,u14s22,u14s23,u14s24,u14s25,Abs.W,reduceIte,Nat.reduceEqDiff,Nat.reduceAdd,decide_true,decide_false,kLoop_def,Nat.reduceSub,List.cons_append,List.nil_append,List.append_nil,List.length_cons,List.length_nil,Env.find_set,q10,xt,z0,knO,ho,v1',v2',ad,Nat.zero_add]
   refine ⟨_,_,rfl,hX,xm,by simp only [Env.find_set,reduceIte,Nat.reduceEqDiff],fun c hc=>?_⟩
   simp only [Env.find_set]
   repeat rw [if_neg (by omega)]
 | false =>
  have hA:allG (i:Int) Z=0:=by
   by_cases h:allG (i:Int) Z=0
   ·exact h
   ·have:=(hfi (by omega)).1;cases this
  rcases hvc with ⟨hv,hw⟩ | ⟨hv,_⟩ | hv
  ·omega
  ·have v1':decide (vd=1)=false:=decide_eq_false (by omega)
   have v2':decide (vd=2)=true:=decide_eq_true hv
   simp (config:={ maxSteps:=3000000 }) (disch:=first|omega|(with_unfolding_all exact rfl)|(simp only[new_n,put_n,new_m];omega)|(refine put_m_le ?_;simp only[new_m];omega)) only [K3r14,K3r16,u14s4,u14s5,u14s6,u14s7,u14s8,u14s9,u14s10,u14s13,u14s14,u14s15,u14s16,u14s17,u14s18,u14s21,u14s22,u14s23,u14s24,u14s25,Abs.W,reduceIte,Nat.reduceEqDiff,Nat.reduceAdd,decide_true,decide_false,kLoop_def,Nat.reduceSub,List.cons_append,List.nil_append,List.append_nil,List.length_cons,List.length_nil,Env.find_set,q10,xt,z0,v1',v2',ad,Nat.zero_add]
   refine ⟨_,_,rfl,hX,xm,by simp only [Env.find_set,reduceIte,Nat.reduceEqDiff],fun c hc=>?_⟩
   simp only [Env.find_set]
   repeat rw [if_neg (by omega)]
  ·have v1':decide (vd=1)=false:=decide_eq_false (by omega)
   have v2':decide (vd=2)=false:=decide_eq_false (by omega)
   simp (config:={ maxSteps:=3000000 }) (disch:=first|omega|(with_unfolding_all exact rfl)|(simp only[new_n,put_n,new_m];omega)|(refine put_m_le ?_;simp only[new_m];omega)) only [K3r14,K3r16,u14s4,u14s5,u14s6,u14s7,u14s8,u14s9,u14s10,u14s13,u14s14,u14s15,u14s16,u14s17,u14s18,u14s21,u14s22,u14s23,u14s24,u14s25,Abs.W,reduceIte,Nat.reduceEqDiff,Nat.reduceAdd,decide_true,decide_false,kLoop_def,Nat.reduceSub,List.cons_append,List.nil_append,List.append_nil,List.length_cons,List.length_nil,Env.find_set,q10,xt,z0,v1',v2',ad,Nat.zero_add]
   refine ⟨_,_,rfl,hX,xm,by simp only [Env.find_set,reduceIte,Nat.reduceEqDiff],fun c hc=>?_⟩
   simp only [Env.find_set]
   repeat rw [if_neg (by omega)]
theorem tru_stalls (n:Nat) (hn:9≤n) (cx:Ctx) {Z:List Sold} {l:List Step} {ks kg:Nat} {v1 vt:AV} {u t:St} {L:Env} {p4 sb sz bd i kk:Nat} (okS:(⟨ks,kg,salesZ Z⟩:Book).Ok) (okZ:AllOk Z) (hl:Z.length≤40) (oks:StepsOk l)
  (g4:u.h.get p4=some (.cells [.int .i64 ks,.int .i64 kg,v1] (tag 27))) (b4:p4<u.n) (hsb:u.h.get sb=some (.cells (l.map Step.cells).flatten sz)) (sbn:sb<u.n) (hbd:u.h.get bd=some (.cells (dueRows l (salesZ Z) ks).flatten 0)) (bdn:bd<u.n) (R1:RowsAt u.h u.n 6 ((salesZ Z).map Sale.cells) v1) (RT:RowsAt u.h u.n 2 (truthRows Z) vt) (hE:Past u t kk) (htm:t.m≤far) (hs:u.n+kk+20000≤far) (hi:i<ks)
  (q4:L.find 4=.ptr p4 0) (q5:L.find 5=.slice sb 0 l.length l.length true) (q6:L.find 6=.slice bd 0 ks ks false) (q9:L.find 9=vt) (q16:L.find 16=.int .i64 (i:Int)) :
  ∃ L1 t1,K3l1 (knows 20 (call Try.prog X n)) cx L [] t=.done .norm L1 [] t1∧Past u t1 (kk+1)∧t1.m≤t.m∧L1.find 16=.int .i64 ((i+1:Nat):Int)∧∀ c,c<10→L1.find c=L.find c:=by
 have hf:far=1000000000:=rfl
 have knT:∀ args s,knows 20 (call Try.prog X n) (.fn 17) args s=call Try.prog X n (.fn 17) args s:=fun _ _=>rfl
 have knK:∀ args s,knows 20 (call Try.prog X n) (.fn 18) args s=call Try.prog X n (.fn 18) args s:=fun _ _=>rfl
 have knO:∀ args s,knows 20 (call Try.prog X n) (.fn 16) args s=call Try.prog X n (.fn 16) args s:=fun _ _=>rfl
 have knU:∀ args s,knows 20 (call Try.prog X n) (.fn 19) args s=call Try.prog X n (.fn 19) args s:=fun _ _=>rfl
 have tn:=hE.n
 have tl:=hE.le
 have hks:ks≤8:=okS.k1
 have e0:decide ((i:Int)<(ks:Int))=true:=decide_eq_true (by omega)
 have z0:decide ((0:Int)=0)=true:=rfl
 have ad:∀ s,aAdd s .i64 (i:Int) 1=.val (.int .i64 ((i+1:Nat):Int)) s:=fun s=>by rw [aAdd_i64 s _ _ (by omega)];rfl
 have ix:∀ s,ixsA 2 s (.slice bd 0 ks ks false) (.int .i64 (i:Int))=.val (.ptr bd (i * 2)) s:=fun s=>by rw [ixs_slice _ _ _ _ _ _ _ _ hi,Nat.zero_add]
 have ov1:∀ t,okA (.val v1 t)=.val v1 t:=fun t=>okA_ne R1.ne
 have ovt:∀ t,okA (.val vt t)=.val vt t:=fun t=>okA_ne RT.ne
 have sc1:scalars [AV.int .i64 ks,.int .i64 kg,v1]=true:=by
  have hv:v1.scalar=true:=by
   have h:=R1.len u
   cases v1<;>first | rfl | cases h
  show scalars [v1]=true
  unfold scalars
  rw [hv]
  rfl
 have T1:call Try.prog X n (.fn 17) [.agg [.int .i64 ks,.int .i64 kg,v1],.int .i64 (i:Int)] t=.val (.tup [.agg [.int .i64 (turnOf false (salesZ Z) i),.int .i64 (turnOf true (salesZ Z) i)],.int .i64 0]) t:=Turnover_ok (b:=⟨ks,kg,salesZ Z⟩) (by omega) okS hi (R1.grow hE.same hE.n) (by omega)
 obtain ⟨h1,h2⟩:=take_between (i:Int) Z okZ
 obtain ⟨w1,w2⟩:=turnOf_range false (i:Int) (salesZ Z) okS.ok
 obtain ⟨w3,w4⟩:=take_range (i:Int) Z okZ
 have d1:=(due_grows oks w1 h1).1
 have d2:=(due_grows oks w3 h2).1
 have dc:cut (i * 2) 2 (dueRows l (salesZ Z) ks).flatten=some [.int .i64 (dueI l (turnOf false (salesZ Z) i)),.int .i64 (dueI l (turnOf true (salesZ Z) i))]:=by
  rw [flatten_cut (dueRows_wide l (salesZ Z) ks) (by rw [dueRows_len];exact hi)]
  unfold dueRows dueRow
  simp
 have t4:=(hE.same p4 b4).trans g4
 obtain ⟨pl,hpl⟩:∃ pl,pl=turnOf false (salesZ Z) i:=⟨_,rfl⟩
 obtain ⟨ph,hph⟩:∃ ph,ph=turnOf true (salesZ Z) i:=⟨_,rfl⟩
 rw [← hpl,← hph] at T1 dc
 rw [← hpl] at h1 d1
 rw [← hph] at h2 d2
 clear hpl hph
 obtain ⟨x,hx⟩:∃ x:St,x=(t.new (.cells [.int .i64 0,.int .i64 0] (tag 38))).put t.n (.cells [.int .i64 pl,.int .i64 ph] (tag 38)):=⟨_,rfl⟩
 have xn:x.n=t.n+1:=by rw [hx];rfl
 have xm:x.m≤t.m:=by rw [hx];simp only [St.put,minN_eq,new_m];omega
 have xt:x.h.get t.n=some (.cells [.int .i64 pl,.int .i64 ph] (tag 38)):=by rw [hx];exact get_put_eq _ _ _ _ rfl (by omega)
 have hX:Past u x (kk+1):=by rw [hx];exact (hE.new _).put _ tn
 have T2:call Try.prog X n (.fn 18) [.agg [.int .i64 ks,.int .i64 kg,v1],vt,.int .i64 (i:Int)] x=.val (.int .i64 (takeZ i Z)) x:=takings_ok (by omega) okZ hl sc1 (R1.grow hX.same hX.n) (RT.grow hX.same hX.n) (by omega)
 have x4:=(hX.same p4 b4).trans g4
 have xb:=(hX.same sb sbn).trans hsb
 have xd:=(hX.same bd bdn).trans hbd
 have du:∀ m,call Try.prog X n (.fn 19) [.slice sb 0 l.length l.length true,.int .i64 (takeZ i Z)] ⟨x.h,x.n,m⟩=.val (.int .i64 (dueI l (takeZ i Z))) ⟨x.h,x.n,m⟩:=fun m=>dueRef_ok (by omega) oks (by omega) xb (by show x.n+1000≤far;omega)
 have ho1:call Try.prog X n (.fn 16) [.agg [.int .i64 pl,.int .i64 ph],.int .i64 (takeZ i Z)] x=.val (.bool true) x:=holds_ok n (by omega) pl ph _ x h1 h2 (by omega)
 have ho2:call Try.prog X n (.fn 16) [.agg [.int .i64 (dueI l pl),.int .i64 (dueI l ph)],.int .i64 (dueI l (takeZ i Z))] x=.val (.bool true) x:=holds_ok n (by omega) _ _ _ x d1 d2 (by omega)
 have xmf:x.m≤far:=by omega
 simp (disch:=first|omega|(with_unfolding_all exact rfl)|(simp only[new_n,put_n,new_m];omega)|(refine put_m_le ?_;simp only[new_m];omega)) only [K3l1,K3r18,K3r19,Abs.W,reduceIte,Nat.reduceEqDiff,Nat.reduceAdd,decide_true,decide_false,kLoop_def,Nat.reduceSub,List.cons_append,List.nil_append,List.append_nil,List.length_cons,List.length_nil,Env.find_set,q4,q9,q16,e0,t4,knT,T1,ov1,extE0,extE1,okA_tupE,Nat.zero_add]
 rw [← hx]
 simp (disch:=first|omega|(with_unfolding_all exact rfl)|(simp only[new_n,put_n,new_m];omega)|(refine put_m_le ?_;simp only[new_m];omega)) only [K3r20,Abs.W,reduceIte,Nat.reduceEqDiff,Nat.reduceAdd,decide_true,decide_false,kLoop_def,Nat.reduceSub,List.cons_append,List.nil_append,List.append_nil,List.length_cons,List.length_nil,Env.find_set,q4,q9,q16,x4,knK,T2,ov1,ovt,Nat.zero_add]
 clear hx T1 T2
 have u21s4:=fun cl L s=>congrFun (congrFun (congrFun K3r21s4.eq_1 cl) L) s
 have u21s5:=fun cl L s=>congrFun (congrFun (congrFun K3r21s5.eq_1 cl) L) s
 have u21s6:=fun cl L s=>congrFun (congrFun (congrFun K3r21s6.eq_1 cl) L) s
 have u21s7:=fun cl L s=>congrFun (congrFun (congrFun K3r21s7.eq_1 cl) L) s
 have u21s10:=fun cl L s=>congrFun (congrFun (congrFun K3r21s10.eq_1 cl) L) s
 have u21s11:=fun cl L s=>congrFun (congrFun (congrFun K3r21s11.eq_1 cl) L) s
 have u21s12:=fun cl L s=>congrFun (congrFun (congrFun K3r21s12.eq_1 cl) L) s
 have u21s13:=fun cl L s=>congrFun (congrFun (congrFun K3r21s13.eq_1 cl) L) s
 have u21s14:=fun cl L s=>congrFun (congrFun (congrFun K3r21s14.eq_1 cl) L) s
 have u21s15:=fun cl L s=>congrFun (congrFun (congrFun K3r21s15.eq_1 cl) L) s
 have u21s16:=fun cl L s=>congrFun (congrFun (congrFun K3r21s16.eq_1 cl) L) s
 have u21s17:=fun cl L s=>congrFun (congrFun (congrFun K3r21s17.eq_1 cl) L) s
 have u21s18:=fun cl L s=>congrFun (congrFun (congrFun K3r21s18.eq_1 cl) L) s
 simp (config:={ maxSteps:=3000000 }) (disch:=first|omega|(with_unfolding_all exact rfl)|(simp only[new_n,put_n,new_m];omega)|(refine put_m_le ?_;simp only[new_m];omega)) only [K3r21,K3r23,u21s4,u21s5,u21s6,u21s7,u21s10,u21s11,u21s12,u21s13,u21s14,u21s15,u21s16,u21s17,u21s18,Abs.W,reduceIte,Nat.reduceEqDiff,Nat.reduceAdd,decide_true,decide_false,kLoop_def,Nat.reduceSub,List.cons_append,List.nil_append,List.append_nil,List.length_cons,List.length_nil,Env.find_set,q4,q5,q6,q9,q16,xt,xd,ix,dc,z0,knO,knU,ho1,ho2,du,ad,endO_nil,Nat.zero_add]
 refine ⟨_,_,rfl,hX,xm,by simp only [Env.find_set,reduceIte,Nat.reduceEqDiff],fun c hc=>?_⟩
 simp only [Env.find_set]
 repeat rw [if_neg (by omega)]
end Go.Proofs.Ytamlnddeiokbdaa.walk
set_option maxRecDepth 10000
namespace Go.Proofs.Ytamlnddeiokbdaa.walk
open Go.Abs Go.Proofs.Ytamlnddeiokbdaa.code
end Go.Proofs.Ytamlnddeiokbdaa.walk
