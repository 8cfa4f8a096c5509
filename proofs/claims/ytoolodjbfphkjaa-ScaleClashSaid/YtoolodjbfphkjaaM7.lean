/- A number put before a list: slices.Insert at the front, for a slice of known capacity and for one that was made by appends. -/
import Derived.Test.YtoolodjbfphkjaaM6
import Derived.Test.YtoolodjbfphkjaaCodes
import Derived.Test.YtoolodjbfphkjaaWalkAll
set_option linter.unusedSimpArgs false
set_option maxHeartbeats 16000000
set_option linter.unusedVariables false
set_option maxRecDepth 10000
namespace Go.Proofs.Ytoolodjbfphkjaa.walk
open Go.Abs Go.Proofs.Ytoolodjbfphkjaa.code
theorem eq3 {f g:CallF→Env→St→ORes} (h:f=g) (cl:CallF) (L:Env) (s:St):f cl L s=g cl L s:=by rw [h]
theorem over1_all:∀ (new c:List AV),c.length=new.length→over1 new c=some new
 | [],[],_=>rfl
 | [],_::_,h=>by simp at h
 | _::_,[],h=>by simp at h
 | v::vs,_::c,h=>by
  show (match over1 vs c with | some r=>some (v::r) | none=>none)=_
  rw [over1_all vs c (by simpa using h)]
theorem over0_all (new c:List AV) (h:c.length=new.length):over 0 new c=some new:=by
 cases c with
 | nil=>exact over1_all new [] h
 | cons a c=>exact over1_all new (a::c) h
theorem over_second (x:AV) (new c:List AV) (h:c.length=new.length):over 1 new (x::c)=some (x::new):=by
 show (match over (Nat.sub 1 1) new c with | some r=>some (x::r) | none=>none)=_
 rw [show Nat.sub 1 1=0 from rfl,over0_all new c h]
theorem zeros_flat (k:Nat):zerosA [.int .i64 0] k=List.replicate k (.int .i64 0):=by
 induction k with
 | zero=>rfl
 | succ k ih =>
  show [AV.int .i64 0]++zerosA [.int .i64 0] k=_
  rw [ih];rfl
theorem scal_zeros (k:Nat):scalars (List.replicate k (AV.int .i64 0))=true:=by
 induction k with
 | zero=>rfl
 | succ k ih=>exact ih
abbrev icells (l:List Int):List AV:=(intRows l).flatten
theorem icells_len (l:List Int):(icells l).length=l.length:=by
 show (intRows l).flatten.length=_
 rw [flatten_len (w:=1) (fun r hr=>by unfold intRows at hr;obtain ⟨x,_,rfl⟩:=List.mem_map.mp hr;rfl),intRows_len,Nat.mul_one]
theorem icells_cut (l:List Int):cut 0 (l.length * 1) (icells l)=some (icells l):=by
 rw [cut_zero,Nat.mul_one]
 have:=cut1_all (icells l)
 rwa [icells_len] at this
theorem ins_first (N:Nat) {b p sz szp:Nat} {l:List Int} {v:Int} {u:St} (h0:0<l.length) (hl:l.length≤1000) (gb:u.h.get b=some (.cells (icells l) sz)) (gp:u.h.get p=some (.cells [.int .i64 v] szp)) (hb:b<u.n) (hp:p<u.n) (hs:u.n+100≤far) :
  ∃ u',enterA Try.prog X (call Try.prog X N) 57 [.slice b 0 l.length l.length false,.int .i64 0,.slice p 0 1 1 false] u Try.f57=.val (.slice u.n 0 (l.length+1) (l.length+1) true) u'∧u'.h.get u.n=some (.cells (icells (v::l)) (1+tag 3))∧u'.n=u.n+1∧(∀ c,c<u.n→u'.h.get c=u.h.get c)∧min u.m u.n≤u'.m∧u'.m≤u.m:=by
 have hf:far=1000000000:=rfl
 obtain ⟨x1,hx1⟩:∃ x:St,x=u.new (.cells (List.replicate (l.length+1) (.int .i64 0)) (1+tag 3)):=⟨_,rfl⟩
 have n1:x1.n=u.n+1:=by rw [hx1];rfl
 have m1:x1.m=u.m:=by rw [hx1];rfl
 have g1:∀ c,c<u.n→x1.h.get c=u.h.get c:=fun c hc=>by rw [hx1,get_new_ne _ _ _ (by omega)]
 have q1:x1.h.get u.n=some (.cells (List.replicate (l.length+1) (.int .i64 0)) (1+tag 3)):=by rw [hx1];exact get_new_eq _ _ _ rfl (by omega)
 obtain ⟨x2,hx2⟩:∃ x:St,x=x1.put u.n (.cells (.int .i64 v::List.replicate l.length (.int .i64 0)) (1+tag 3)):=⟨_,rfl⟩
 have n2:x2.n=x1.n:=by rw [hx2];rfl
 have g2:∀ c,c<u.n→x2.h.get c=x1.h.get c:=fun c hc=>by rw [hx2,get_put_ne' _ _ _ _ (by omega)]
 have q2:x2.h.get u.n=some (.cells (.int .i64 v::List.replicate l.length (.int .i64 0)) (1+tag 3)):=by rw [hx2];exact get_put_eq _ _ _ _ rfl (by omega)
 have e1:∀ s,sliceVal 1 (some (.int .i64 0)) none s (.slice b 0 l.length l.length false)=.val (.slice b 0 l.length l.length false) s:=fun s=>by
  have:=slice_from 1 s b 0 l.length l.length 0 false (Nat.le_refl _) (by omega) h0
  exact this
 have e2:∀ s,sliceVal 1 none (some (.int .i64 0)) s (.slice b 0 l.length l.length false)=.val (.slice b 0 0 l.length false) s:=fun s=>slice_to 1 s b 0 l.length l.length 0 false (Nat.le_refl _) (by omega) h0
 have e3:∀ s,sliceVal 1 (some (.int .i64 0)) none s (.slice u.n 0 (l.length+1) (l.length+1) true)=.val (.slice u.n 0 (l.length+1) (l.length+1) true) s:=fun s=>slice_from 1 s u.n 0 (l.length+1) (l.length+1) 0 true (Nat.le_refl _) (by omega) (by omega)
 have e4:∀ s,sliceVal 1 (some (.int .i64 1)) none s (.slice u.n 0 (l.length+1) (l.length+1) true)=.val (.slice u.n 1 l.length l.length true) s:=fun s=>by
  have:=slice_from 1 s u.n 0 (l.length+1) (l.length+1) 1 true (Nat.le_refl _) (by omega) (by omega)
  rw [Nat.add_sub_cancel] at this
  exact this
 have a1:∀ s,aAdd s .i64 (l.length:Int) 1=.val (.int .i64 ((l.length+1:Nat):Int)) s:=fun s=>aAdd_i64 s _ _ (by omega)
 have a2:∀ s,aAdd s .i64 0 1=.val (.int .i64 1) s:=fun s=>aAdd_i64 s _ _ (by omega)
 have a3:∀ s,aSub s .i64 ((l.length+1:Nat):Int) 0=.val (.int .i64 ((l.length+1:Nat):Int)) s:=fun s=>by rw [aSub_i64 s _ _ (by omega),Int.sub_zero]
 have c11:((1:Nat):Int)=1:=rfl
 have ofn:∀ n:Nat,Int.ofNat n=(n:Int):=fun _=>rfl
 have d0:decide ((1:Int)=0)=false:=rfl
 have d1:decide ((0:Int)=(l.length:Int))=false:=decide_eq_false (by omega)
 have d2:decide ((l.length:Int)<((l.length+1:Nat):Int))=true:=decide_eq_true (by omega)
 have ap:appendZ [.int .i64 0] 1 8 (tag 3) u (.slice b 0 0 l.length false) (.int .i64 ((l.length+1:Nat):Int))=.val (.slice u.n 0 (l.length+1) (l.length+1) true) x1:=by
  show (match Nat.ble ((l.length+1) * 8) limit with | false=>ARes.fail | true=>match scalars (zerosA [.int .i64 0] (l.length+1)) with | true=>growA 1 8 (tag 3) (l.length+1) (zerosA [.int .i64 0] (l.length+1)) u (.slice b 0 0 l.length false) | false=>.fail)=_
  rw [Nat.ble_eq_true_of_le (by unfold limit;omega),zeros_flat,scal_zeros]
  have e2:Nat.ble (0+(l.length+1)) l.length=false:=by
   cases h:Nat.ble (0+(l.length+1)) l.length with
   | false=>rfl
   | true=>have:=Nat.le_of_ble_eq_true h;omega
  have e3:Nat.ble ((0+(l.length+1)) * 8) limit=true:=Nat.ble_eq_true_of_le (by unfold limit;omega)
  show growA 1 8 (tag 3) (l.length+1) (List.replicate (l.length+1) (.int .i64 0)) u (.slice b 0 0 l.length false)=_
  unfold growA
  simp only [gb,e2,e3,Nat.zero_mul,cut_zero]
  rw [hx1,Nat.zero_add]
  rfl
 have c1:copyA 1 x1 (.slice u.n 0 (l.length+1) (l.length+1) true) (.slice p 0 1 1 false)=.val (.int .i64 1) x2:=by
  have hm:Nat.min 1 (l.length+1)=1:=Nat.min_eq_left (by omega)
  have f1:firstA 1 1 x1 (.slice p 0 1 1 false)=some [.int .i64 v]:=by
   show (match x1.h.get p with | some (.cells c _)=>Abs.cut 0 (1 * 1) c | some (.fam c _ q _)=>Abs.cut 0 (1 * 1) (c.take q) | _=>none)=_
   rw [(g1 p hp).trans gp];rfl
  unfold copyA
  simp only [lenA,hm,f1,q1]
  rw [hx2]
  rfl
 have c2:copyA 1 x2 (.slice u.n 1 l.length l.length true) (.slice b 0 l.length l.length false)=.val (.int .i64 (l.length:Nat)) (x2.put u.n (.cells (icells (v::l)) (1+tag 3))):=by
  have hm:Nat.min l.length l.length=l.length:=Nat.min_self _
  have f1:firstA 1 l.length x2 (.slice b 0 l.length l.length false)=some (icells l):=by
   show (match x2.h.get b with | some (.cells c _)=>Abs.cut 0 (l.length * 1) c | some (.fam c _ q _)=>Abs.cut 0 (l.length * 1) (c.take q) | _=>none)=_
   rw [(g2 b hb).trans ((g1 b hb).trans gb)]
   exact icells_cut l
  unfold copyA
  simp only [lenA,hm,f1,q2,show scalars (icells l)=true from intRows_scal l]
  rw [over_second _ _ _ (by rw [List.length_replicate,icells_len])]
  rfl
 have x2b:=(g2 b hb).trans ((g1 b hb).trans gb)
 have k0:∀ s,okA (.val (.slice b 0 l.length l.length false) s)=.val (.slice b 0 l.length l.length false) s:=fun _=>rfl
 rw [hx1] at ap
 rw [hx2,hx1] at c1
 rw [hx2,hx1] at c2
 refine ⟨x2.put u.n (.cells (icells (v::l)) (1+tag 3)),?_,get_put_eq _ _ _ _ rfl (by omega),by rw [put_n];omega,fun c hc=>by rw [get_put_ne' _ _ _ _ (by omega),g2 c hc,g1 c hc],by rw [hx2];simp only [St.put,minN_eq];omega,by rw [hx2];simp only [St.put,minN_eq];omega⟩
 rw [enter57,hx2,hx1]
 simp (config:={ maxSteps:=2000000 }) (disch:=first|omega|(with_unfolding_all exact rfl)|(simp only[new_n,put_n,new_m];omega)|(refine put_m_le ?_;simp only[new_m];omega)) only [K57,K57r0,K57r1,K57r2,K57r3,K57r5,K57r6,K57r8,K57r9,K57r10,K57r11,K57r12,res57,Abs.W,reduceIte,Nat.reduceEqDiff,Nat.reduceAdd,decide_true,decide_false,kLoop_def,Nat.reduceSub,List.cons_append,List.nil_append,List.append_nil,List.length_cons,List.length_nil,efs,kSlice_def,optEv_some,optEv_none,e1,e2,e3,e4,a1,a2,a3,d0,d1,d2,ap,c1,c2,k0,c11,ofn,endO_nil,regD_ok,capsA]
theorem ins_second (N:Nat) {q p sz szp:Nat} {l:List Int} {v:Int} {u:St} (h0:0<l.length) (hl:l.length≤1000) (gb:u.h.get q=some (.cells (icells l++[.bad]) sz)) (gp:u.h.get p=some (.cells [.int .i64 v] szp)) (hq:q<u.n) (hp:p<u.n) (hpq:p≠q) (hs:u.n+100≤far) :
  ∃ u',enterA Try.prog X (call Try.prog X N) 57 [.slice q 0 l.length (l.length+1) true,.int .i64 0,.slice p 0 1 1 false] u Try.f57=.val (.slice q 0 (l.length+1) (l.length+1) true) u'∧u'.h.get q=some (.cells (icells (v::l)) sz)∧u'.n=u.n∧(∀ c,c≠q→u'.h.get c=u.h.get c)∧min u.m q≤u'.m∧u'.m≤u.m:=by
 have hf:far=1000000000:=rfl
 obtain ⟨x0,tl,hx0⟩:∃ x0 tl,icells l=x0::tl:=by
  cases hc:icells l with
  | nil=>have:=icells_len l;rw [hc] at this;simp at this;omega
  | cons a r=>exact ⟨a,r,rfl⟩
 have htl:tl.length+1=l.length:=by rw [← icells_len l,hx0,List.length_cons]
 obtain ⟨x1,hx1⟩:∃ x:St,x=u.put q (.cells (x0::icells l) sz):=⟨_,rfl⟩
 have n1:x1.n=u.n:=by rw [hx1];rfl
 have g1:∀ c,c≠q→x1.h.get c=u.h.get c:=fun c hc=>by rw [hx1];exact get_put_ne' _ _ _ _ hc
 have q1:x1.h.get q=some (.cells (x0::icells l) sz):=by rw [hx1];exact get_put_eq _ _ _ _ rfl (by omega)
 have e1:∀ s,sliceVal 1 (some (.int .i64 0)) none s (.slice q 0 l.length (l.length+1) true)=.val (.slice q 0 l.length (l.length+1) true) s:=fun s=>slice_from 1 s q 0 l.length (l.length+1) 0 true (by omega) (by omega) (by omega)
 have e2:∀ s,sliceVal 1 none (some (.int .i64 ((l.length+1:Nat):Int))) s (.slice q 0 l.length (l.length+1) true)=.val (.slice q 0 (l.length+1) (l.length+1) true) s:=fun s=>slice_to 1 s q 0 l.length (l.length+1) (l.length+1) true (by omega) (by omega) (by omega)
 have e3:∀ s,sliceVal 1 (some (.int .i64 0)) none s (.slice q 0 (l.length+1) (l.length+1) true)=.val (.slice q 0 (l.length+1) (l.length+1) true) s:=fun s=>slice_from 1 s q 0 (l.length+1) (l.length+1) 0 true (Nat.le_refl _) (by omega) (by omega)
 have e4:∀ s,sliceVal 1 (some (.int .i64 1)) none s (.slice q 0 (l.length+1) (l.length+1) true)=.val (.slice q 1 l.length l.length true) s:=fun s=>by
  have:=slice_from 1 s q 0 (l.length+1) (l.length+1) 1 true (Nat.le_refl _) (by omega) (by omega)
  rw [Nat.add_sub_cancel] at this
  exact this
 have a1:∀ s,aAdd s .i64 (l.length:Int) 1=.val (.int .i64 ((l.length+1:Nat):Int)) s:=fun s=>aAdd_i64 s _ _ (by omega)
 have a2:∀ s,aAdd s .i64 0 1=.val (.int .i64 1) s:=fun s=>aAdd_i64 s _ _ (by omega)
 have c11:((1:Nat):Int)=1:=rfl
 have ofn:∀ n:Nat,Int.ofNat n=(n:Int):=fun _=>rfl
 have d0:decide ((1:Int)=0)=false:=rfl
 have d1:decide ((0:Int)=(l.length:Int))=false:=decide_eq_false (by omega)
 have gg:∀ s,gtrA s .i64 ((l.length+1:Nat):Int) (.ge .i64 ((l.length+1:Nat):Int))=.val (.bool false) s:=fun s=>by
  show sameKind .i64 .i64 (Bool.casesOn (motive:=fun _=>ARes) (leI ((l.length+1:Nat):Int) ((l.length+1:Nat):Int)) ARes.fail (.val (.bool false) s))=_
  have:leI ((l.length+1:Nat):Int) ((l.length+1:Nat):Int)=true:=by
   show Nat.ble (l.length+1) (l.length+1)=true
   exact Nat.ble_eq_true_of_le (Nat.le_refl _)
  rw [this]
  rfl
 have no1:∀ s,notA s (.bool false)=.val (.bool true) s:=fun _=>rfl
 have ovl:overlapsA 1 u (.slice p 0 1 1 false) (.slice q 1 l.length l.length true)=.val (.bool false) u:=by
  unfold overlapsA
  simp only [nbeq_f (show l.length≠0 by omega),nbeq_f hpq,gb,gp]
 have c1:copyA 1 u (.slice q 1 l.length l.length true) (.slice q 0 (l.length+1) (l.length+1) true)=.val (.int .i64 (l.length:Nat)) x1:=by
  have hm:Nat.min (l.length+1) l.length=l.length:=Nat.min_eq_right (by omega)
  have f1:firstA 1 l.length u (.slice q 0 (l.length+1) (l.length+1) true)=some (icells l):=by
   show (match u.h.get q with | some (.cells c _)=>Abs.cut 0 (l.length * 1) c | some (.fam c _ q _)=>Abs.cut 0 (l.length * 1) (c.take q) | _=>none)=_
   rw [gb]
   show Abs.cut 0 (l.length * 1) (icells l++[.bad])=_
   rw [cut_zero,Nat.mul_one,← icells_len l]
   exact cut1_app _ _
  unfold copyA
  simp only [lenA,hm,f1,gb,show scalars (icells l)=true from intRows_scal l]
  rw [show icells l++[AV.bad]=x0::(tl++[.bad]) by rw [hx0];rfl,over_second _ _ _ (by rw [List.length_append,List.length_singleton,icells_len];exact htl),hx1]
 have c2:copyA 1 x1 (.slice q 0 (l.length+1) (l.length+1) true) (.slice p 0 1 1 false)=.val (.int .i64 1) (x1.put q (.cells (icells (v::l)) sz)):=by
  have hm:Nat.min 1 (l.length+1)=1:=Nat.min_eq_left (by omega)
  have f1:firstA 1 1 x1 (.slice p 0 1 1 false)=some [.int .i64 v]:=by
   show (match x1.h.get p with | some (.cells c _)=>Abs.cut 0 (1 * 1) c | some (.fam c _ q _)=>Abs.cut 0 (1 * 1) (c.take q) | _=>none)=_
   rw [(g1 p hpq).trans gp];rfl
  unfold copyA
  simp only [lenA,hm,f1,q1]
  rfl
 have k0:∀ s,okA (.val (.slice q 0 (l.length+1) (l.length+1) true) s)=.val (.slice q 0 (l.length+1) (l.length+1) true) s:=fun _=>rfl
 have k1:∀ s,okA (.val (.slice q 0 l.length (l.length+1) true) s)=.val (.slice q 0 l.length (l.length+1) true) s:=fun _=>rfl
 rw [hx1] at c1
 rw [hx1] at c2
 refine ⟨x1.put q (.cells (icells (v::l)) sz),?_,get_put_eq _ _ _ _ rfl (by omega),by rw [put_n];omega,fun c hc=>by rw [get_put_ne' _ _ _ _ hc,g1 c hc],by rw [hx1];simp only [St.put,minN_eq];omega,by rw [hx1];simp only [St.put,minN_eq];omega⟩
 rw [enter57,hx1]
 simp (config:={ maxSteps:=2000000 }) (disch:=first|omega|(with_unfolding_all exact rfl)|(simp only[new_n,put_n,new_m];omega)|(refine put_m_le ?_;simp only[new_m];omega)) only [K57,K57r0,K57r1,K57r2,K57r3,K57r5,K57r6,K57r8,K57r13,K57r14,K57r15,K57r16,K57r17,res57,Abs.W,reduceIte,Nat.reduceEqDiff,Nat.reduceAdd,decide_true,decide_false,kLoop_def,Nat.reduceSub,List.cons_append,List.nil_append,List.append_nil,List.length_cons,List.length_nil,efs,kSlice_def,optEv_some,optEv_none,e1,e2,e3,e4,a1,a2,d0,d1,gg,no1,ovl,c1,c2,k0,k1,c11,ofn,endO_nil,regD_ok,capsA]
theorem ins_none (N:Nat) {b p:Nat} {l:List Int} {u:St} (h0:0<l.length) (hl:l.length≤1000) :
  enterA Try.prog X (call Try.prog X N) 57 [.slice b 0 l.length l.length true,.int .i64 0,.slice p 0 1 1 false] u Try.f57=.fail:=by
 have hf:far=1000000000:=rfl
 have e1:∀ s,sliceVal 1 (some (.int .i64 0)) none s (.slice b 0 l.length l.length true)=.val (.slice b 0 l.length l.length true) s:=fun s=>slice_from 1 s b 0 l.length l.length 0 true (by omega) (by omega) (by omega)
 have a1:∀ s,aAdd s .i64 (l.length:Int) 1=.val (.int .i64 ((l.length+1:Nat):Int)) s:=fun s=>aAdd_i64 s _ _ (by omega)
 have c11:((1:Nat):Int)=1:=rfl
 have ofn:∀ n:Nat,Int.ofNat n=(n:Int):=fun _=>rfl
 have d0:decide ((1:Int)=0)=false:=rfl
 have d1:decide ((0:Int)=(l.length:Int))=false:=decide_eq_false (by omega)
 have gg:∀ s,gtrA s .i64 ((l.length+1:Nat):Int) (.ge .i64 ((l.length:Nat):Int))=.fail:=fun s=>by
  show sameKind .i64 .i64 (Bool.casesOn (motive:=fun _=>ARes) (leI ((l.length+1:Nat):Int) ((l.length:Nat):Int)) ARes.fail (.val (.bool false) s))=_
  have:leI ((l.length+1:Nat):Int) ((l.length:Nat):Int)=false:=by
   show Nat.ble (l.length+1) l.length=false
   cases h:Nat.ble (l.length+1) l.length with
   | false=>rfl
   | true=>have:=Nat.le_of_ble_eq_true h;omega
  rw [this]
  rfl
 have k1:∀ s,okA (.val (.slice b 0 l.length l.length true) s)=.val (.slice b 0 l.length l.length true) s:=fun _=>rfl
 rw [enter57]
 simp (config:={ maxSteps:=2000000 }) (disch:=first|omega|(with_unfolding_all exact rfl)|(simp only[new_n,put_n,new_m];omega)|(refine put_m_le ?_;simp only[new_m];omega)) only [K57,K57r0,K57r1,K57r2,K57r3,K57r5,K57r6,K57r8,Abs.W,reduceIte,Nat.reduceEqDiff,Nat.reduceAdd,decide_true,decide_false,kLoop_def,Nat.reduceSub,List.cons_append,List.nil_append,List.append_nil,List.length_cons,List.length_nil,efs,kSlice_def,optEv_some,optEv_none,e1,a1,d0,d1,gg,k1,c11,ofn,endO_nil,regD_ok,capsA]
 rfl
end Go.Proofs.Ytoolodjbfphkjaa.walk
set_option maxRecDepth 10000
namespace Go.Proofs.Ytoolodjbfphkjaa.walk
open Go.Abs Go.Proofs.Ytoolodjbfphkjaa.code
theorem sames_ints:∀ l:List Int,samesS (icells l) (icells l)=true
 | []=>rfl
 | x::l=>by
  show samesS (.int .i64 x::icells l) (.int .i64 x::icells l)=true
  simp only [samesS,Bool.and_eq_true]
  refine ⟨?_,sames_ints l⟩
  unfold sameS
  rw [Bool.and_eq_true,eqI_eq]
  exact ⟨rfl,beq_self_eq_true x⟩
theorem Insert_fork {N b p szp:Nat} {l:List Int} {v:Int} {s:St} (h0:0<l.length) (hl:l.length≤1000) (gb:s.h.get b=some (.cells (icells l) (1+tag 3))) (gp:s.h.get p=some (.cells [.int .i64 v] szp)) (hb:b<s.n) (hp:p<s.n) (hpb:p≠b) (hs:s.n+200≤far) :
  call Try.prog X (N+1) (.fn 57) [.slice b 0 l.length l.length true,.int .i64 0,.slice p 0 1 1 false] s=.val (.slice s.n 0 (l.length+1) (l.length+1) true) ((s.kill b).new (.cells (icells (v::l)) (1+tag 3))):=by
 have hf:far=1000000000:=rfl
 have hsz:szOf (1+tag 3)=1:=by kernel_rfl
 show callStep Try.prog X (call Try.prog X N) (.fn 57) _ s=_
 unfold callStep
 simp only [Try.func57]
 rw [ins_none N h0 hl]
 show forkA Try.prog X (call Try.prog X N) 57 s Try.f57 [.slice b 0 l.length l.length true,.int .i64 0,.slice p 0 1 1 false]=_
 unfold forkA
 simp only [gb]
 rw [if_pos ⟨trivial,by rw [hsz,Nat.mul_one,icells_len]⟩]
 obtain ⟨u1,e1,q1,n1,_,m1,_⟩:=ins_first N (u:=⟨s.h,s.n,far⟩) (v:=v) h0 hl gb gp hb hp (by show s.n+100≤far;omega)
 have n1:u1.n=s.n+1:=n1
 have q1:u1.h.get s.n=some (.cells (icells (v::l)) (1+tag 3)):=q1
 have m1:min far s.n≤u1.m:=m1
 have rb:(roomy s b (icells l) (1+tag 3)).h.get s.n=some (.cells (icells l++[.bad]) (1+tag 3)):=by
  unfold roomy
  rw [hsz]
  exact get_new_eq _ _ _ rfl (by show s.n<_;omega)
 have rp:(roomy s b (icells l) (1+tag 3)).h.get p=some (.cells [.int .i64 v] szp):=by
  unfold roomy
  show ((St.kill ⟨s.h,s.n,far⟩ b).new _).h.get p=_
  rw [get_new_ne _ _ _ (by show p≠s.n;omega),get_kill_ne _ _ _ hpb]
  exact gp
 obtain ⟨u2,e2,q2,n2,_,m2,_⟩:=ins_second N (u:=roomy s b (icells l) (1+tag 3)) (q:=s.n) (v:=v) h0 hl rb rp (by show s.n<s.n+1;omega) (by show p<s.n+1;omega) (by omega) (by show s.n+1+100≤far;omega)
 have m2:min far s.n≤u2.m:=m2
 have e1:enterA Try.prog X (call Try.prog X N) 57 [.slice b 0 l.length l.length false,.int .i64 0,.slice p 0 1 1 false] ⟨s.h,s.n,far⟩ Try.f57=.val (.slice s.n 0 (l.length+1) (l.length+1) true) u1:=e1
 rw [e1,e2]
 unfold joinA
 simp only [q1,q2]
 rw [if_pos ⟨trivial,trivial,trivial,trivial,trivial,by rw [hsz,Nat.mul_one,icells_len,List.length_cons],sames_ints _,Nat.le_refl _,Nat.le_refl _,by omega,by omega,by omega⟩]
theorem Insert_one {N b p sz szp:Nat} {x v:Int} {s:St} {r:ARes} (hr:call Try.prog X N (.fn 57) [.slice b 0 1 1 false,.int .i64 0,.slice p 0 1 1 false] s=r) (hN:1≤N) (gb:s.h.get b=some (.cells [.int .i64 x] sz)) (gp:s.h.get p=some (.cells [.int .i64 v] szp)) (hb:b<s.n) (hp:p<s.n) (hs:s.n+200≤far) :
  ∃ w t,r=.val w t∧New s t 2∧w=.slice s.n 0 2 2 true∧t.h.get s.n=some (.cells (icells [v,x]) (1+tag 3))∧s.n<t.n:=by
 obtain ⟨n,rfl⟩:∃ n,N=n+1:=⟨N - 1,by omega⟩
 have hf:far=1000000000:=rfl
 obtain ⟨w,t,e,st,hq⟩:=call_new (n:=n) (args:=[.slice b 0 1 1 false,.int .i64 0,.slice p 0 1 1 false]) (s:=s) (k:=2) (Q:=fun w h m=>w=.slice s.n 0 2 2 true∧h.get s.n=some (.cells (icells [v,x]) (1+tag 3))∧s.n<m) Try.func57 rfl (fun u uh un um=>by
  rw [← uh] at gb gp
  rw [← un]
  obtain ⟨u1,e1,q1,n1,g1,m1,m1'⟩:=ins_first n (l:=[x]) (v:=v) (by simp) (by simp) gb gp (by omega) (by omega) (by omega:u.n+100≤far)
  exact ⟨_,_,e1,⟨g1,by omega,by omega,by omega,by omega⟩,rfl,rfl,q1,by omega⟩)
 exact ⟨w,t,hr.symm.trans e,st,hq⟩
end Go.Proofs.Ytoolodjbfphkjaa.walk
set_option maxRecDepth 10000
namespace Go.Proofs.Ytoolodjbfphkjaa.walk
open Go.Abs Go.Proofs.Ytoolodjbfphkjaa.code
theorem find_next {β:Type} {f:Nat→Option β} {a j:Nat} (h:(List.range' a j).findSome? f=none) (hf:f (a+j)=none):(List.range' a (j+1)).findSome? f=none:=by
 rw [range'_app,List.findSome?_append,h]
 show (List.range' (a+j) 1).findSome? f=none
 rw [List.range'_one,List.findSome?_cons,hf]
 rfl
theorem find_here {β:Type} {f:Nat→Option β} {a j tot:Nat} {c:β} (h:(List.range' a j).findSome? f=none) (hj:j<tot) (hf:f (a+j)=some c):(List.range' a tot).findSome? f=some c:=by
 have e:tot=j+(1+(tot - j - 1)):=by omega
 rw [e,range'_app,List.findSome?_append,h,range'_app,List.findSome?_append]
 show Option.or none (Option.or ((List.range' (a+j) 1).findSome? f) _)=_
 rw [List.range'_one,List.findSome?_cons,hf]
 rfl
def clRow (c:Claim):List AV:=[.int .i64 c.a,.int .i64 c.b,.int .i64 c.gap.1,.int .i64 c.gap.2]
def clRows (b:Bench):List (List AV):=(List.range (resMany b)).map fun i=>clRow (resAt b i)
theorem clRows_len (b:Bench):(clRows b).length=resMany b:=by unfold clRows;rw [List.length_map,List.length_range]
theorem clRows_at {h:Heap} {n:Nat} {b:Bench} {v:AV} (r:RowsAt h n 4 (clRows b) v) {i:Nat} (hi:i<resMany b):∃ q p c sz,q<n∧(∀ s,ixsA 4 s v (.int .i64 (i:Int))=.val (.ptr q p) s)∧h.get q=some (.cells c sz)∧cut p 4 c=some (clRow (resAt b i)):=by
 obtain ⟨q,p,c,sz,h1,h2,h3,h4⟩:=r.at_ i (by rw [clRows_len];exact hi)
 refine ⟨q,p,c,sz,h1,h2,h3,?_⟩
 rw [h4]
 unfold clRows
 rw [List.getElem_map,List.getElem_range]
theorem KnOk.next {b:Bench} (ok:b.Ok) {T:List (List Gap)} (k:KnOk b T) {i:Nat} (hi:i<resMany b) (hr:refB T (resAt b i)=false):KnOk b (withT (big b) T (resAt b i)):=by
 obtain ⟨r1,r2,_,_,_⟩:=resAt_ok ok hi
 have c2:=withE_closed k.cl r1 r2 (refB_iff.mp hr)
 refine ⟨withT_square _ _ _,c2.congr fun i j hi hj=>withT_ent _ _ hi hj,fun i j hi hj=>?_⟩
 rw [withT_ent _ _ hi hj]
 exact (k.bd.le (withE_le _ _ _)) i j hi hj
def Found (h:Heap) (lo n:Nat) (c:List Nat) (w:AV):Prop:=∃ p e sz,w=.slice p 0 c.length c.length e∧h.get p=some (.cells (icells (c.map Int.ofNat)) sz)∧lo≤p∧p<n∧(e=true→sz=1+tag 3)∧(e=false→c.length=1)∧0<c.length
def srSz:Nat→Nat
 | 0=>10
 | m+1=>20+6 * (5010+srSz m)
structure SrBox (h:Heap) (n p3 p4:Nat) (b:Bench) (vAll:AV):Prop where
 g3:h.get p3=some (.cells [vAll] (tag 123))
 g4:h.get p4=some (.cells [.func 56 [] [.ptr p3 0,.ptr p4 0]] (tag 125))
 l3:p3<n
 l4:p4<n
 rows:RowsAt h n 4 (clRows b) vAll
theorem SrBox.grow {h h':Heap} {n n' p3 p4:Nat} {b:Bench} {vAll:AV} (x:SrBox h n p3 p4 b vAll) (hh:∀ c,c<n→h'.get c=h.get c) (hn:n≤n'):SrBox h' n' p3 p4 b vAll :=
 ⟨(hh _ x.l3).trans x.g3,(hh _ x.l4).trans x.g4,by have:=x.l3;omega,by have:=x.l4;omega,x.rows.grow hh hn⟩
def SrAt (b:Bench) (p3 p4:Nat) (vAll:AV) (m:Nat):Prop:=∀ {N from_:Nat} {T:List (List Gap)} {v:AV} {s:St} {r:ARes},call Try.prog X N (.fn 56) [v,.int .i64 (from_:Int),.int .i64 ((m+1:Nat):Int),.ptr p3 0,.ptr p4 0] s=r→m+4≤N→KnOk b T→GTab s.h s.n T v→SrBox s.h s.n p3 p4 b vAll→from_≤7→(∀ j,j≤m→∀ c ∈ chs (resMany b) j from_,bad b T c=false)→s.n+2 * srSz m+10000≤far →
  ∃ w t,r=.val w t∧New s t (srSz m)∧((srch b (resMany b) m T from_=none∧w=.nilslice)∨∃ c,srch b (resMany b) m T from_=some c∧Found t.h s.n t.n c w)
theorem sr_leaf {b:Bench} (ok:b.Ok) (hn:resMany b≤6) (p3 p4:Nat) (vAll:AV):SrAt b p3 p4 vAll 0:=by
 intro N from_ T v s r hr hN K hT hB h7 hno hs
 obtain ⟨N,rfl⟩:∃ m,N=m+1:=⟨N - 1,by omega⟩
 have hf:far=1000000000:=rfl
 have e10:srSz 0=10:=rfl
 rw [e10] at hs ⊢
 obtain ⟨w',t,e,st,hq⟩:=call_new' (n:=N) (args:=[v,.int .i64 (from_:Int),.int .i64 ((0+1:Nat):Int),.ptr p3 0,.ptr p4 0]) (s:=s) (k:=10) (Q:=fun w h k=>(srch b (resMany b) 0 T from_=none∧w=.nilslice)∨∃ c,srch b (resMany b) 0 T from_=some c∧Found h s.n k c w) Try.func56 rfl (fun u uh un um=>by
  rw [← uh,← un] at hT hB
  rw [← un]
  have kv:=hT.ok
  have lA:∀ s,lenSlA s vAll=.val (.int .i64 (resMany b:Int)) s:=fun s=>by
   have:=hB.rows.len s
   rwa [clRows_len] at this
  have kAll:∀ t,okA (.val vAll t)=.val vAll t:=fun t=>okA_ne hB.rows.ne
  have z1:((0+1:Nat):Int)=1:=rfl
  have sb:∀ s,aSub s .i64 (resMany b:Int) 1=.val (.int .i64 ((resMany b:Int) - 1)) s:=fun s=>aSub_i64 s _ _ (by omega)
  have d1:decide ((1:Int)<1)=false:=rfl
  have hsr:srch b (resMany b) 0 T from_=(List.range' from_ (resMany b - from_)).findSome? fun i=>if refB T (resAt b i)=true then some [i] else none:=rfl
  rw [enter56,z1]
  simp (disch:=first|omega|(with_unfolding_all exact rfl)|(simp only[new_n,put_n,new_m];omega)|(refine put_m_le ?_;simp only[new_m];omega)) only [K56,K56r0,K56r1,Abs.W,reduceIte,Nat.reduceEqDiff,Nat.reduceAdd,decide_true,decide_false,kLoop_def,Nat.reduceSub,List.cons_append,List.nil_append,List.append_nil,List.length_cons,List.length_nil,efs]
  generalize hlp:loopN _ rounds _ _ _ _ _=q1
  obtain ⟨e,L1,s1,rfl,hQ⟩:=loop_of hlp (fun j L t=>t=u∧L.find 0=v∧L.find 2=.int .i64 1∧L.find 3=.ptr p3 0∧L.find 9=.int .i64 (from_+j:Nat)∧(List.range' from_ j).findSome? (fun i=>if refB T (resAt b i)=true then some [i] else none)=none)
   (fun e L t=>(e=.exit 0∧t=u∧(List.range' from_ (resMany b - from_)).findSome? (fun i=>if refB T (resAt b i)=true then some [i] else none)=none)∨(e=.ret∧∃ i,L.find 8=.slice u.n 0 1 1 false∧(List.range' from_ (resMany b - from_)).findSome? (fun i=>if refB T (resAt b i)=true then some [i] else none)=some [i]∧t=u.new (.cells [.int .i64 (i:Int)] 0))) (resMany b - from_) (by unfold rounds;omega)
   ⟨rfl,by simp only [find_cons,efs,reduceIte,Nat.reduceEqDiff],by simp only [find_cons,efs,reduceIte,Nat.reduceEqDiff],by simp only [find_cons,efs,reduceIte,Nat.reduceEqDiff],by simp only [find_cons,efs,reduceIte,Nat.reduceEqDiff];rfl,rfl⟩
   (fun j L t hj ⟨ht,q0,q2,q3,q9,hnone⟩=>by
    subst ht
    by_cases hlt:from_+j<resMany b
    ·have e0:decide (((from_+j:Nat):Int)≤(resMany b:Int) - 1)=true:=decide_eq_true (by omega)
     have ad:∀ s,aAdd s .i64 ((from_+j:Nat):Int) 1=.val (.int .i64 ((from_+j+1:Nat):Int)) s:=fun s=>aAdd_i64 s _ _ (by omega)
     obtain ⟨r1,r2,_,_,_⟩:=resAt_ok ok hlt
     obtain ⟨qb,qp,qc,qz,x1,x2,x3,x4⟩:=clRows_at hB.rows hlt
     have href:=refutes_ok N (by omega) T (big b) v (resAt b (from_+j)) t hT K.sq r1 r2 (by omega)
     have hrb:decide (((ent T (resAt b (from_+j)).a (resAt b (from_+j)).b).meet (resAt b (from_+j)).gap).2<((ent T (resAt b (from_+j)).a (resAt b (from_+j)).b).meet (resAt b (from_+j)).gap).1)=refB T (resAt b (from_+j)):=rfl
     rw [hrb] at href
     unfold clRow at x4
     unfold claimV at href
     have g3:=hB.g3
     cases hrf:refB T (resAt b (from_+j)) with
     | true =>
      rw [hrf] at href
      refine .inr ⟨.ret,_,t.new (.cells [.int .i64 ((from_+j:Nat):Int)] 0),by simp,by
       simp (disch:=first|omega|(with_unfolding_all exact rfl)|(simp only[new_n,put_n,new_m];omega)|(refine put_m_le ?_;simp only[new_m];omega)) only [K56l0,K56r2,K56r3,K56r7,K56r8,Abs.W,reduceIte,Nat.reduceEqDiff,Nat.reduceAdd,decide_true,decide_false,kLoop_def,Nat.reduceSub,List.cons_append,List.nil_append,List.append_nil,List.length_cons,List.length_nil,efs,q0,q2,q3,q9,g3,kAll,lA,sb,e0,d1,kv,x2,x3,x4,href,Nat.zero_add]
       rfl,.inr ⟨rfl,from_+j,by simp only [efs,reduceIte,Nat.reduceEqDiff],find_here hnone (by omega) (by rw [hrf];rfl),rfl⟩⟩
     | false =>
      rw [hrf] at href
      refine .inl ⟨by omega,_,t,by
       simp (disch:=first|omega|(with_unfolding_all exact rfl)|(simp only[new_n,put_n,new_m];omega)|(refine put_m_le ?_;simp only[new_m];omega)) only [K56l0,K56r2,K56r3,K56r7,K56r9,Abs.W,reduceIte,Nat.reduceEqDiff,Nat.reduceAdd,decide_true,decide_false,kLoop_def,Nat.reduceSub,List.cons_append,List.nil_append,List.append_nil,List.length_cons,List.length_nil,efs,q0,q2,q3,q9,g3,kAll,lA,sb,e0,d1,kv,x2,x3,x4,href,ad,Nat.zero_add]
       rfl,rfl,?_,?_,?_,?_,find_next hnone (by rw [hrf];rfl)⟩
      ·simp only [efs,q0,reduceIte,Nat.reduceEqDiff]
      ·simp only [efs,q2,reduceIte,Nat.reduceEqDiff]
      ·simp only [efs,q3,reduceIte,Nat.reduceEqDiff]
      ·simp only [efs,reduceIte,Nat.reduceEqDiff];rfl
    ·have e0:decide (((from_+j:Nat):Int)≤(resMany b:Int) - 1)=false:=decide_eq_false (by omega)
     have g3:=hB.g3
     obtain rfl:j=resMany b - from_:=by omega
     refine .inr ⟨.exit 0,_,t,by simp,by
      simp (disch:=first|omega|(with_unfolding_all exact rfl)|(simp only[new_n,put_n,new_m];omega)|(refine put_m_le ?_;simp only[new_m];omega)) only [K56l0,K56r2,Abs.W,reduceIte,Nat.reduceEqDiff,Nat.reduceAdd,decide_true,decide_false,kLoop_def,Nat.reduceSub,List.cons_append,List.nil_append,List.append_nil,List.length_cons,List.length_nil,efs,q2,q3,q9,g3,kAll,lA,sb,e0,Nat.zero_add]
      rfl,.inl ⟨rfl,rfl,hnone⟩⟩)
  rcases hQ with ⟨rfl,rfl,hnone⟩ | ⟨rfl,i,f8,hsome,rfl⟩
  ·simp (disch:=first|omega|(with_unfolding_all exact rfl)|(simp only[new_n,put_n,new_m];omega)|(refine put_m_le ?_;simp only[new_m];omega)) only [K56r10,res56,Abs.W,reduceIte,Nat.reduceEqDiff,Nat.reduceAdd,decide_true,decide_false,kLoop_def,Nat.reduceSub,List.cons_append,List.nil_append,List.append_nil,List.length_cons,List.length_nil,efs]
   exact ⟨_,_,rfl,⟨fun _ _=>rfl,Nat.le_refl _,by omega,by omega,by omega⟩,.inl ⟨hnone,rfl⟩,fun _=>.inl ⟨hnone,rfl⟩⟩
  ·simp (disch:=first|omega|(with_unfolding_all exact rfl)|(simp only[new_n,put_n,new_m];omega)|(refine put_m_le ?_;simp only[new_m];omega)) only [K56r10,res56,Abs.W,reduceIte,Nat.reduceEqDiff,Nat.reduceAdd,decide_true,decide_false,kLoop_def,Nat.reduceSub,List.cons_append,List.nil_append,List.append_nil,List.length_cons,List.length_nil,efs,f8]
   refine ⟨_,_,rfl,⟨fun c hc=>get_new_ne _ _ _ (by omega),by rw [new_n];omega,by rw [new_n];omega,by rw [new_m];omega,by rw [new_m];omega⟩,.inr ⟨[i],hsome,u.n,false,0,rfl,get_new_eq _ _ _ rfl (by omega),Nat.le_refl _,by rw [new_n];omega,fun h=>(by cases h),fun _=>rfl,by simp⟩,fun h=>(by cases h)⟩)
 exact ⟨w',t,hr.symm.trans e,st,hq⟩
end Go.Proofs.Ytoolodjbfphkjaa.walk
set_option maxRecDepth 10000
namespace Go.Proofs.Ytoolodjbfphkjaa.walk
open Go.Abs Go.Proofs.Ytoolodjbfphkjaa.code
theorem kEqlN (c:Cmp) (neg:Bool) (x y:Arg) (L:Env) (s:St):kEql c neg x y L s=eqlA c neg s (x.ev L) (y.ev L):=Eq.trans (Eq.refl _) (Eq.refl _)
theorem sr_round {b:Bench} (ok:b.Ok) (hn:resMany b≤6) {p3 p4:Nat} {vAll:AV} (m:Nat) (hm6:m≤6) (ih:SrAt b p3 p4 vAll m) (N:Nat) (hN:m+4≤N) (cx:Ctx) {u t:St} {from_ j kk:Nat} {T:List (List Gap)} {v:AV} {L:Env} (K:KnOk b T) (hT:GTab u.h u.n T v) (hB:SrBox u.h u.n p3 p4 b vAll) (hno:∀ j,j≤m+1→∀ c ∈ chs (resMany b) j from_,bad b T c=false) (hlt:from_+j+(m+2)≤resMany b) (same:∀ c,c<u.n→t.h.get c=u.h.get c) (jn:u.n≤t.n) (jle:t.n≤u.n+kk) (jm:t.m=far) (hs:u.n+kk+2 * srSz m+20000≤far)
  (q0:L.find 0=v) (q2:L.find 2=.int .i64 ((m+1+1:Nat):Int)) (q3:L.find 3=.ptr p3 0) (q4:L.find 4=.ptr p4 0) (q9:L.find 9=.int .i64 (from_+j:Nat)) :
  ∃ L1 t1 e,K56l0 (call Try.prog X N) cx L [] t=.done e L1 [] t1∧(∀ c,c<u.n→t1.h.get c=u.h.get c)∧u.n≤t1.n∧t1.n≤u.n+(kk+(5010+srSz m))∧u.n≤t1.m∧t1.m≤far ∧
   ((e=.norm∧(srch b (resMany b) m (withT (big b) T (resAt b (from_+j))) (from_+j+1)).map ((from_+j)::·)=none∧t1.m=far∧L1.find 9=.int .i64 (from_+j+1:Nat)∧∀ c,c<8→L1.find c=L.find c) ∨
   (e=.ret∧∃ c w,(srch b (resMany b) m (withT (big b) T (resAt b (from_+j))) (from_+j+1)).map ((from_+j)::·)=some c∧L1.find 8=w∧Found t1.h u.n t1.n c w)):=by
 have hf:far=1000000000:=rfl
 obtain ⟨N',rfl⟩:∃ k,N=k+1:=⟨N - 1,by omega⟩
 have hi:from_+j<resMany b:=by omega
 have hTt:=hT.grow same jn
 have hBt:=hB.grow same jn
 have kv:=hTt.ok
 have lA:∀ s,lenSlA s vAll=.val (.int .i64 (resMany b:Int)) s:=fun s=>by
  have:=hBt.rows.len s
  rwa [clRows_len] at this
 have kAll:∀ t,okA (.val vAll t)=.val vAll t:=fun t=>okA_ne hBt.rows.ne
 have kf:∀ t,okA (.val (.func 56 [] [.ptr p3 0,.ptr p4 0]) t)=.val (.func 56 [] [.ptr p3 0,.ptr p4 0]) t:=fun _=>rfl
 have g3:=hBt.g3
 have g4:=hBt.g4
 have sb:∀ s,aSub s .i64 (resMany b:Int) ((m+1+1:Nat):Int)=.val (.int .i64 ((resMany b:Int) - ((m+1+1:Nat):Int))) s:=fun s=>aSub_i64 s _ _ (by omega)
 have sb2:∀ s,aSub s .i64 ((m+1+1:Nat):Int) 1=.val (.int .i64 ((m+1:Nat):Int)) s:=fun s=>by rw [aSub_i64 s _ _ (by omega)];congr 2;omega
 have ad:∀ s,aAdd s .i64 ((from_+j:Nat):Int) 1=.val (.int .i64 ((from_+j+1:Nat):Int)) s:=fun s=>aAdd_i64 s _ _ (by omega)
 have e0:decide (((from_+j:Nat):Int)≤(resMany b:Int) - ((m+1+1:Nat):Int))=true:=decide_eq_true (by omega)
 have d1:decide ((1:Int)<((m+1+1:Nat):Int))=true:=decide_eq_true (by omega)
 obtain ⟨r1,r2,_,_,_⟩:=resAt_ok ok hi
 obtain ⟨qb,qp,qc,qz,x1,x2,x3,x4⟩:=clRows_at hBt.rows hi
 unfold clRow at x4
 have hbig:=givMany_le ok
 have hbg:big b=givMany b+1:=rfl
 have hr:refB T (resAt b (from_+j))=false:=by
  have:=hno 1 (by omega) [from_+j] (List.mem_flatMap.mpr ⟨from_+j,by rw [List.mem_range'_1];omega,List.mem_map.mpr ⟨[],List.mem_singleton.mpr rfl,rfl⟩⟩)
  unfold bad knL at this
  cases hr:refB T (resAt b (from_+j)) with
  | false=>rfl
  | true=>rw [hr] at this;cases this
 have K2:=K.next ok hi hr
 have hno2:∀ j',j'≤m→∀ c ∈ chs (resMany b) j' (from_+j+1),bad b (withT (big b) T (resAt b (from_+j))) c=false:=fun j' hj' c hc=>by
  have:=hno (j'+1) (by omega) ((from_+j)::c) (List.mem_flatMap.mpr ⟨from_+j,by rw [List.mem_range'_1];omega,List.mem_map.mpr ⟨c,hc,rfl⟩⟩)
  unfold bad at this ⊢
  rw [knL,hr] at this
  exact this
 have hwm:=K.meet r1 r2 hr
 generalize hT2:withT (big b) T (resAt b (from_+j))=T2 at *
 generalize resAt b (from_+j)=C at *
 simp (disch:=first|omega|(with_unfolding_all exact rfl)|(simp only[new_n,put_n,new_m];omega)|(refine put_m_le ?_;simp only[new_m];omega)) only [K56l0,K56r2,K56r3,K56r4,Abs.W,reduceIte,Nat.reduceEqDiff,Nat.reduceAdd,decide_true,decide_false,kLoop_def,Nat.reduceSub,List.cons_append,List.nil_append,List.append_nil,List.length_cons,List.length_nil,efs,q0,q2,q3,q4,q9,g3,g4,kAll,lA,sb,e0,d1,kv,kf,x2,x3,x4,Nat.zero_add]
 generalize hc1:call _ _ _ (.fn 54) _ _=rc1
 obtain ⟨v2,t2,rfl,s2,hG2⟩:=with_ex hc1 (by omega) hTt K.sq (by omega) (by omega) r1 r2 K.small hwm (by show t.n+8000≤far;omega)
 rw [hT2] at hG2
 have s2n:t.n≤t2.n:=s2.n
 have s2l:t2.n≤t.n+5000:=s2.le
 have s2m:t2.m=far:=s2.m
 have t2g:∀ c,c<t.n→t2.h.get c=t.h.get c:=s2.same
 have mm:minN t.m t2.m=far:=by rw [minN_min];omega
 have kv2:=hG2.tab.ok
 simp (disch:=first|omega|(with_unfolding_all exact rfl)|(simp only[new_n,put_n,new_m];omega)|(refine put_m_le ?_;simp only[new_m];omega)) only [thenT_val,mm,Abs.W,reduceIte,Nat.reduceEqDiff,Nat.reduceAdd,decide_true,decide_false,kLoop_def,Nat.reduceSub,List.cons_append,List.nil_append,List.append_nil,List.length_cons,List.length_nil,efs,kv2,q2,q9,ad,sb2]
 generalize hc2:call _ _ _ (.fn 56) _ _=rc2
 have hwg:∀ c,c<t.n→(⟨t2.h,t2.n,far⟩:St).h.get c=t.h.get c:=t2g
 obtain ⟨w3,t3,rfl,s3,hres⟩:=ih hc2 hN K2 hG2.tab (hBt.grow t2g s2n) (by omega) hno2 (by show t2.n+2 * srSz m+10000≤far;omega)
 have s3n:t2.n≤t3.n:=s3.n
 have s3l:t3.n≤t2.n+srSz m:=s3.le
 have s3m:t3.m=far:=s3.m
 have t3g:∀ c,c<t2.n→t3.h.get c=t2.h.get c:=s3.same
 have t3u:∀ c,c<u.n→t3.h.get c=u.h.get c:=fun c hc=>(t3g c (by omega)).trans ((t2g c (by omega)).trans (same c hc))
 rcases hres with ⟨hnone,rfl⟩ | ⟨c,hsome,p,e,sz,rfl,gp,lo,lt,hsz,hone,hpos⟩
 ·have q1:∀ s,eqlA .nilS true s .nilslice .nilslice=.val (.bool false) s:=fun _=>rfl
  have kn:∀ s,okA (.val .nilslice s)=.val .nilslice s:=fun _=>rfl
  refine ⟨_,t3,.norm,by
   simp (disch:=first|omega|(with_unfolding_all exact rfl)|(simp only[new_n,put_n,new_m];omega)|(refine put_m_le ?_;simp only[new_m];omega)) only [K56r5,K56r9,Abs.W,reduceIte,Nat.reduceEqDiff,Nat.reduceAdd,decide_true,decide_false,kLoop_def,Nat.reduceSub,List.cons_append,List.nil_append,List.append_nil,List.length_cons,List.length_nil,efs,kEqlN,q1,kn,q9,ad,endO_nil,regD_ok]
   rfl,t3u,by omega,by rw [← Nat.add_assoc];omega,by omega,by omega,.inl ⟨rfl,by rw [hnone];rfl,s3m,?_,fun c hc=>?_⟩⟩
  ·simp only [efs,reduceIte,Nat.reduceEqDiff]
  ·simp only [efs]
   repeat rw [if_neg (by omega)]
 ·have q1:∀ s,eqlA .nilS true s (.slice p 0 c.length c.length e) .nilslice=.val (.bool true) s:=fun _=>rfl
  have kn:∀ s,okA (.val (.slice p 0 c.length c.length e) s)=.val (.slice p 0 c.length c.length e) s:=fun _=>rfl
  have hcl:=(chs_ok (resMany b) (m+1) (from_+j+1) c (by
   rw [srch_is b (resMany b) m T2 (from_+j+1) hno2] at hsome
   exact List.mem_of_find?_eq_some hsome)).1
  obtain ⟨y,hy⟩:∃ y:St,y=t3.new (.cells [.int .i64 ((from_+j:Nat):Int)] 0):=⟨_,rfl⟩
  have yn:y.n=t3.n+1:=by rw [hy];rfl
  have ym:y.m=far:=by rw [hy];exact s3m
  have yg:∀ c,c<t3.n→y.h.get c=t3.h.get c:=fun c hc=>by rw [hy,get_new_ne _ _ _ (by omega)]
  have yp:y.h.get t3.n=some (.cells [.int .i64 ((from_+j:Nat):Int)] 0):=by rw [hy];exact get_new_eq _ _ _ rfl (by omega)
  have lo:t2.n≤p:=lo
  have gy:=(yg p lt).trans gp
  have hlen:(c.map Int.ofNat).length=c.length:=List.length_map ..
  cases e with
  | true =>
   have hsz:=hsz rfl
   subst hsz
   have ie:=Insert_fork (N:=N') (s:=y) (b:=p) (p:=t3.n) (l:=c.map Int.ofNat) (v:=((from_+j:Nat):Int)) (by omega) (by omega) gy yp (by omega) (by omega) (by omega) (by omega)
   rw [hlen] at ie
   obtain ⟨z,hz⟩:∃ z:St,z=(y.kill p).new (.cells (icells (((from_+j:Nat):Int)::c.map Int.ofNat)) (1+tag 3)):=⟨_,rfl⟩
   have zn:z.n=y.n+1:=by rw [hz];rfl
   have zm:z.m=min far p:=by rw [hz];simp only [new_m,St.kill,minN_eq,ym]
   have zg:∀ c,c<t3.n→c≠p→z.h.get c=t3.h.get c:=fun c hc hne=>by rw [hz,get_new_ne _ _ _ (by show c≠y.n;omega),get_kill_ne _ _ _ hne];exact yg c hc
   have zp:z.h.get y.n=some (.cells (icells (((from_+j:Nat):Int)::c.map Int.ofNat)) (1+tag 3)):=by rw [hz];exact get_new_eq _ _ _ rfl (by show y.n<_;omega)
   rw [← hz] at ie
   rw [hy] at ie
   have kr:∀ s,okA (.val (.slice (t3.n+1) 0 (c.length+1) (c.length+1) true) s)=.val (.slice (t3.n+1) 0 (c.length+1) (c.length+1) true) s:=fun _=>rfl
   refine ⟨_,z,.ret,by
    simp (disch:=first|omega|(with_unfolding_all exact rfl)|(simp only[new_n,put_n,new_m];omega)|(refine put_m_le ?_;simp only[new_m];omega)) only [K56r5,K56r6,Abs.W,reduceIte,Nat.reduceEqDiff,Nat.reduceAdd,decide_true,decide_false,kLoop_def,Nat.reduceSub,List.cons_append,List.nil_append,List.append_nil,List.length_cons,List.length_nil,efs,kEqlN,q1,kn,q9,ie,new_n,kr,endO_nil,regD_ok]
    rfl,fun d hd=>(zg d (by omega) (by omega)).trans (t3u d hd),by omega,by rw [← Nat.add_assoc];omega,by omega,by omega,.inr ⟨rfl,(from_+j)::c,.slice (t3.n+1) 0 (c.length+1) (c.length+1) true,by rw [hsome];rfl,by simp only [efs,reduceIte,Nat.reduceEqDiff],t3.n+1,true,1+tag 3,by rw [List.length_cons],by rw [← yn];exact zp,by omega,by omega,fun _=>rfl,fun h=>(by cases h),by simp⟩⟩
  | false =>
   have h1:=hone rfl
   obtain ⟨c0,rfl⟩:∃ c0,c=[c0]:=by
    cases c with
    | nil=>simp at h1
    | cons a r=>cases r with
     | nil=>exact ⟨a,rfl⟩
     | cons _ _=>simp at h1
   have q1':∀ s,eqlA .nilS true s (.slice p 0 1 1 false) .nilslice=.val (.bool true) s:=fun _=>rfl
   have kn':∀ s,okA (.val (.slice p 0 1 1 false) s)=.val (.slice p 0 1 1 false) s:=fun _=>rfl
   simp (disch:=first|omega|(with_unfolding_all exact rfl)|(simp only[new_n,put_n,new_m];omega)|(refine put_m_le ?_;simp only[new_m];omega)) only [K56r5,K56r6,Abs.W,reduceIte,Nat.reduceEqDiff,Nat.reduceAdd,decide_true,decide_false,kLoop_def,Nat.reduceSub,List.cons_append,List.nil_append,List.append_nil,List.length_cons,List.length_nil,efs,kEqlN,q1',kn',q9,List.length_singleton,endO_nil,regD_ok]
   rw [← hy]
   generalize hc3:call _ _ _ (.fn 57) _ _=rc3
   obtain ⟨w4,t4,rfl,s4,rfl,q4',lt4⟩:=Insert_one (x:=(c0:Int)) (v:=((from_+j:Nat):Int)) hc3 (by omega) gy yp (by omega) (by omega) (by omega)
   have s4n:=s4.n
   have s4l:=s4.le
   have s4m:=s4.m
   have kr:∀ s,okA (.val (.slice y.n 0 2 2 true) s)=.val (.slice y.n 0 2 2 true) s:=fun _=>rfl
   refine ⟨_,t4,.ret,by
    simp (disch:=first|omega|(with_unfolding_all exact rfl)|(simp only[new_n,put_n,new_m];omega)|(refine put_m_le ?_;simp only[new_m];omega)) only [Abs.W,reduceIte,Nat.reduceEqDiff,Nat.reduceAdd,decide_true,decide_false,kLoop_def,Nat.reduceSub,List.cons_append,List.nil_append,List.append_nil,List.length_cons,List.length_nil,efs,kr]
    rfl,fun d hd=>(s4.same d (by omega)).trans ((yg d (by omega)).trans (t3u d hd)),by omega,by rw [← Nat.add_assoc];omega,by omega,by omega,.inr ⟨rfl,[from_+j,c0],.slice y.n 0 2 2 true,by rw [hsome];rfl,by simp only [efs,reduceIte,Nat.reduceEqDiff],y.n,true,1+tag 3,rfl,q4',by omega,by omega,fun _=>rfl,fun h=>(by cases h),by simp⟩⟩
end Go.Proofs.Ytoolodjbfphkjaa.walk
set_option maxRecDepth 10000
namespace Go.Proofs.Ytoolodjbfphkjaa.walk
open Go.Abs Go.Proofs.Ytoolodjbfphkjaa.code
theorem sr_step {b:Bench} (ok:b.Ok) (hn:resMany b≤6) (p3 p4:Nat) (vAll:AV) (m:Nat) (hm6:m≤6) (ih:SrAt b p3 p4 vAll m):SrAt b p3 p4 vAll (m+1):=by
 intro N from_ T v s r hr hN K hT hB h7 hno hs
 obtain ⟨N,rfl⟩:∃ m,N=m+1:=⟨N - 1,by omega⟩
 have hf:far=1000000000:=rfl
 have es:srSz (m+1)=20+6 * (5010+srSz m):=rfl
 obtain ⟨F,hF⟩:∃ F:Nat→Option (List Nat),F=fun i=>(srch b (resMany b) m (withT (big b) T (resAt b i)) (i+1)).map (i::·):=⟨_,rfl⟩
 have hsr:srch b (resMany b) (m+1) T from_=(List.range' from_ (resMany b - (m+1) - from_)).findSome? F:=by rw [hF];rfl
 obtain ⟨w',t,e,st,hq⟩:=call_new' (n:=N) (args:=[v,.int .i64 (from_:Int),.int .i64 ((m+1+1:Nat):Int),.ptr p3 0,.ptr p4 0]) (s:=s) (k:=srSz (m+1)) (Q:=fun w h k=>(srch b (resMany b) (m+1) T from_=none∧w=.nilslice)∨∃ c,srch b (resMany b) (m+1) T from_=some c∧Found h s.n k c w) Try.func56 rfl (fun u uh un um=>by
  rw [← uh,← un] at hT hB
  rw [← un]
  have lA:∀ s,lenSlA s vAll=.val (.int .i64 (resMany b:Int)) s:=fun s=>by
   have:=hB.rows.len s
   rwa [clRows_len] at this
  have kAll:∀ t,okA (.val vAll t)=.val vAll t:=fun t=>okA_ne hB.rows.ne
  have sb:∀ s,aSub s .i64 (resMany b:Int) ((m+1+1:Nat):Int)=.val (.int .i64 ((resMany b:Int) - ((m+1+1:Nat):Int))) s:=fun s=>aSub_i64 s _ _ (by omega)
  rw [enter56]
  simp (disch:=first|omega|(with_unfolding_all exact rfl)|(simp only[new_n,put_n,new_m];omega)|(refine put_m_le ?_;simp only[new_m];omega)) only [K56,K56r0,K56r1,Abs.W,reduceIte,Nat.reduceEqDiff,Nat.reduceAdd,decide_true,decide_false,kLoop_def,Nat.reduceSub,List.cons_append,List.nil_append,List.append_nil,List.length_cons,List.length_nil,efs]
  generalize hlp:loopN _ rounds _ _ _ _ _=q1
  obtain ⟨e,L1,s1,rfl,hQ⟩:=loop_of hlp (fun j L t=>(∀ c,c<u.n→t.h.get c=u.h.get c)∧u.n≤t.n∧t.n≤u.n+j * (5010+srSz m)∧t.m=far∧L.find 0=v∧L.find 2=.int .i64 ((m+1+1:Nat):Int)∧L.find 3=.ptr p3 0∧L.find 4=.ptr p4 0∧L.find 9=.int .i64 (from_+j:Nat)∧(List.range' from_ j).findSome? F=none)
   (fun e L t=>(∀ c,c<u.n→t.h.get c=u.h.get c)∧u.n≤t.n∧t.n≤u.n+srSz (m+1)∧u.n≤t.m∧t.m≤far∧((e=.exit 0∧(List.range' from_ (resMany b - (m+1) - from_)).findSome? F=none)∨(e=.ret∧∃ c w,L.find 8=w∧(List.range' from_ (resMany b - (m+1) - from_)).findSome? F=some c∧Found t.h u.n t.n c w))) (resMany b - (m+1) - from_) (by unfold rounds;omega)
   ⟨fun _ _=>rfl,Nat.le_refl _,by omega,um,by simp only [find_cons,efs,reduceIte,Nat.reduceEqDiff],by simp only [find_cons,efs,reduceIte,Nat.reduceEqDiff],by simp only [find_cons,efs,reduceIte,Nat.reduceEqDiff],by simp only [find_cons,efs,reduceIte,Nat.reduceEqDiff],by simp only [find_cons,efs,reduceIte,Nat.reduceEqDiff];rfl,rfl⟩
   (fun j L t hj ⟨same,jn,jle,jm,q0,q2,q3,q4,q9,hnone⟩=>by
    have c6:=Nat.mul_le_mul_right (5010+srSz m) (show j≤6 by omega)
    have sc:(j+1) * (5010+srSz m)=j * (5010+srSz m)+(5010+srSz m):=Nat.succ_mul _ _
    by_cases hlt:from_+j+(m+2)≤resMany b
    ·have c5:=Nat.mul_le_mul_right (5010+srSz m) (show j+1≤6 by omega)
     obtain ⟨L2,t2,e2,x1,x2,x3,x4,x5,x6,x7⟩:=sr_round ok hn m hm6 ih N (by omega) _ K hT hB hno hlt same jn jle jm (by omega) q0 q2 q3 q4 q9
     rcases x7 with ⟨rfl,y1,y2,y3,y4⟩ | ⟨rfl,c,w,y1,y2,y3⟩
     ·refine .inl ⟨by omega,L2,t2,x1,x2,x3,by rw [sc];exact x4,y2,?_,?_,?_,?_,y3,find_next hnone (by rw [hF];exact y1)⟩
      ·rw [y4 0 (by omega)];exact q0
      ·rw [y4 2 (by omega)];exact q2
      ·rw [y4 3 (by omega)];exact q3
      ·rw [y4 4 (by omega)];exact q4
     ·exact .inr ⟨.ret,L2,t2,by simp,x1,x2,x3,by omega,x5,x6,.inr ⟨rfl,c,w,y2,find_here hnone (by omega) (by rw [hF];exact y1),y3⟩⟩
    ·have e0:decide (((from_+j:Nat):Int)≤(resMany b:Int) - ((m+1+1:Nat):Int))=false:=decide_eq_false (by omega)
     have g3:=(same p3 hB.l3).trans hB.g3
     obtain rfl:j=resMany b - (m+1) - from_:=by omega
     refine .inr ⟨.exit 0,_,t,by simp,by
      simp (disch:=first|omega|(with_unfolding_all exact rfl)|(simp only[new_n,put_n,new_m];omega)|(refine put_m_le ?_;simp only[new_m];omega)) only [K56l0,K56r2,Abs.W,reduceIte,Nat.reduceEqDiff,Nat.reduceAdd,decide_true,decide_false,kLoop_def,Nat.reduceSub,List.cons_append,List.nil_append,List.append_nil,List.length_cons,List.length_nil,efs,q2,q3,q9,g3,kAll,lA,sb,e0,Nat.zero_add]
      rfl,same,jn,by omega,by omega,by omega,.inl ⟨rfl,hnone⟩⟩)
  rcases hQ with ⟨same,n1,n2,m1,m2,h⟩
  rcases h with ⟨rfl,hnone⟩ | ⟨rfl,c,w,f8,hsome,hfd⟩
  ·simp (disch:=first|omega|(with_unfolding_all exact rfl)|(simp only[new_n,put_n,new_m];omega)|(refine put_m_le ?_;simp only[new_m];omega)) only [K56r10,res56,Abs.W,reduceIte,Nat.reduceEqDiff,Nat.reduceAdd,decide_true,decide_false,kLoop_def,Nat.reduceSub,List.cons_append,List.nil_append,List.append_nil,List.length_cons,List.length_nil,efs]
   exact ⟨_,_,rfl,⟨same,n1,n2,m1,m2⟩,.inl ⟨hsr.trans hnone,rfl⟩,fun _=>.inl ⟨hsr.trans hnone,rfl⟩⟩
  ·simp (disch:=first|omega|(with_unfolding_all exact rfl)|(simp only[new_n,put_n,new_m];omega)|(refine put_m_le ?_;simp only[new_m];omega)) only [K56r10,res56,Abs.W,reduceIte,Nat.reduceEqDiff,Nat.reduceAdd,decide_true,decide_false,kLoop_def,Nat.reduceSub,List.cons_append,List.nil_append,List.append_nil,List.length_cons,List.length_nil,efs,f8]
   refine ⟨_,_,rfl,⟨same,n1,n2,m1,m2⟩,.inr ⟨c,hsr.trans hsome,hfd⟩,fun hp=>?_⟩
   obtain ⟨p,e,sz,h1,_⟩:=hfd
   rw [h1] at hp
   cases hp)
 exact ⟨w',t,hr.symm.trans e,st,hq⟩
theorem sr_ex {b:Bench} (ok:b.Ok) (hn:resMany b≤6) (p3 p4:Nat) (vAll:AV):∀ m,m≤7→SrAt b p3 p4 vAll m
 | 0,_=>sr_leaf ok hn p3 p4 vAll
 | m+1,h=>sr_step ok hn p3 p4 vAll m (by omega) (sr_ex ok hn p3 p4 vAll m (by omega))
end Go.Proofs.Ytoolodjbfphkjaa.walk
set_option maxRecDepth 10000
namespace Go.Proofs.Ytoolodjbfphkjaa.walk
open Go.Abs Go.Proofs.Ytoolodjbfphkjaa.code
structure ColJ (b:Bench) (R:ALoop) (p2 l k:Nat) (h:Heap) (n:Nat):Prop where
 loop:h.get l=some (.loop R)
 dfr:h.get (l - 1)=some .dfr
 pl:p2+1<l
 ln:l<n
 acc:∃ ba v,h.get p2=some (.cells [v] (tag 123))∧IsAt h n ba 4 (tag 120) ((clRows b).take k) v∧(l<ba∨far<ba)
theorem ColJ.keep {b:Bench} {R:ALoop} {p2 l k:Nat} {h h':Heap} {n n':Nat} (hh:∀ x,x<n→h'.get x=h.get x) (hn:n≤n') (j:ColJ b R p2 l k h n):ColJ b R p2 l k h' n':=by
 obtain ⟨j1,j2,j3,j4,ba,v,a1,a2,a3⟩:=j
 exact ⟨by rw [hh _ j4];exact j1,by rw [hh _ (by omega)];exact j2,j3,by omega,ba,v,by rw [hh _ (by omega)];exact a1,a2.mono (fun hb=>hh _ hb) hn,a3⟩
theorem col_take (N:Nat) (hN:3≤N) {b:Bench} {R:ALoop} {p2 l k:Nat} {L0:Env} {s:St} (hR:R=⟨.ready,none,72,L0,[7],(rangeAt Try.f72 0).1,(rangeAt Try.f72 0).2,l - 1,Try.f72.ntmps,X 72⟩)
  (h2:L0.find 2=.ptr p2 0) (hk:k<resMany b) (hk12:resMany b≤12) (hs:s.n+10000≤far) (hJ:ColJ b R p2 l k s.h s.n) :
  ∃ s',call Try.prog X (N+1) (.yield l) [claimV (resAt b k)] s=.val (.bool true) s'∧ColJ b R p2 l (k+1) s'.h s'.n∧(∀ x,x<l→¬ x=p2→s'.h.get x=s.h.get x)∧s.n≤s'.n∧s'.n≤s.n+10∧(p2≤s.m→p2≤s'.m)∧s'.m≤s.m∧s'.m≤l:=by
 have hf:far=1000000000:=rfl
 obtain ⟨jl,jd,jq,jn,ba,v,t1,t2,t3⟩:=hJ
 have hlen:((clRows b).take k).length=k:=by rw [List.length_take,clRows_len];omega
 have hrow:(clRows b).take (k+1)=(clRows b).take k++[clRow (resAt b k)]:=by
  rw [take_snoc (show k<(clRows b).length by rw [clRows_len];exact hk)]
  congr 2
  unfold clRows
  rw [List.getElem_map,List.getElem_range]
 generalize resAt b k=c at *
 obtain ⟨s1,hs1⟩:∃ s1:St,s1=(s.new (.cells [.int .i64 0,.int .i64 0,.int .i64 0,.int .i64 0] (tag 120))).put s.n (.cells [.int .i64 c.a,.int .i64 c.b,.int .i64 c.gap.1,.int .i64 c.gap.2] (tag 120)):=⟨_,rfl⟩
 have s1n:s1.n=s.n+1:=by rw [hs1];rfl
 have s1g:∀ c,c≠s.n→s1.h.get c=s.h.get c:=fun c hc=>by rw [hs1,get_put_ne' _ _ _ _ hc,get_new_ne _ _ _ hc]
 have s1m:s1.m=min s.m s.n:=by rw [hs1];simp only [St.put,minN_eq,new_m]
 have s1w:s1.h.get s.n=some (.cells [.int .i64 c.a,.int .i64 c.b,.int .i64 c.gap.1,.int .i64 c.gap.2] (tag 120)):=by rw [hs1];exact get_put_eq _ _ _ _ rfl (by omega)
 have h1:K72a0 (call Try.prog X N) ⟨72,some l,Try.f72.ntmps,X 72⟩ (setParams L0 [7] [claimV c]) [] s=.done .norm ((L0.set 7 (claimV c)).set 5 (.ptr s.n 0)) [] s1:=by
  rw [hs1]
  simp (disch:=first|omega|(with_unfolding_all exact rfl)|(simp only[new_n,put_n,new_m];omega)|(refine put_m_le ?_;simp only[new_m];omega)) only [K72a0,K72a0r0,Abs.W,reduceIte,Nat.reduceEqDiff,Nat.reduceAdd,decide_true,decide_false,kLoop_def,Nat.reduceSub,List.cons_append,List.nil_append,List.append_nil,List.length_cons,List.length_nil,setParams1,efs,Nat.reduceEqDiff]
 obtain ⟨s2,hs2⟩:∃ s2:St,s2=s1.put l (.loop { R with state:=.busy }):=⟨_,rfl⟩
 have s2n:s2.n=s.n+1:=by rw [hs2];exact s1n
 have s2g:∀ c,c≠s.n→c≠l→s2.h.get c=s.h.get c:=fun c hc hc3=>by rw [hs2,get_put_ne' _ _ _ _ hc3];exact s1g c hc
 have s2l:s2.h.get l=some (.loop { R with state:=.busy }):=by rw [hs2];exact get_put_eq _ _ _ _ rfl (by omega)
 have s2w:s2.h.get s.n=some (.cells [.int .i64 c.a,.int .i64 c.b,.int .i64 c.gap.1,.int .i64 c.gap.2] (tag 120)):=by rw [hs2,get_put_ne' _ _ _ _ (by omega)];exact s1w
 have s2m:s2.m=min (min s.m s.n) l:=by rw [hs2];simp only [St.put,minN_eq,s1m]
 have jv:=(s2g p2 (by omega) (by omega)).trans t1
 have kv:=t2.okA
 obtain ⟨y,hy⟩:∃ y:St,y=s2.new (.cells [.int .i64 c.a,.int .i64 c.b,.int .i64 c.gap.1,.int .i64 c.gap.2] 0):=⟨_,rfl⟩
 have yn:y.n=s2.n+1:=by rw [hy];rfl
 have ym:y.m=s2.m:=by rw [hy];rfl
 have yg:∀ c,c<s2.n→y.h.get c=s2.h.get c:=fun c hc=>by rw [hy,get_new_ne _ _ _ (by omega)]
 have yp:y.h.get s2.n=some (.cells [.int .i64 c.a,.int .i64 c.b,.int .i64 c.gap.1,.int .i64 c.gap.2] 0):=by rw [hy];exact get_new_eq _ _ _ rfl (by omega)
 have ty:IsAt y.h y.n ba 4 (tag 120) ((clRows b).take k) v:=t2.mono (fun hb=>(yg ba (by omega)).trans (s2g ba (by omega) (by omega))) (by omega)
 obtain ⟨s4,e4,I4,n4,g4,m4,m4'⟩:=append_at (bytes:=32) ty yp rfl rfl (by rw [hlen];omega) (by kernel_rfl) (by omega)
 rw [hlen] at e4 I4
 have g4p2:s4.h.get p2=some (.cells [v] (tag 123)):=(g4 p2 (by omega) (by omega)).trans ((yg p2 (by omega)).trans jv)
 rw [hy] at e4
 have h4':K72b0 (call Try.prog X N) ⟨72,some l,Try.f72.ntmps,X 72⟩ ((L0.set 7 (claimV c)).set 5 (.ptr s.n 0)) [] s2=.done .norm ((L0.set 7 (claimV c)).set 5 (.ptr s.n 0)) [] (s4.put p2 (.cells [.slice y.n 0 (k+1) (k+1) true] (tag 123))):=by
  rw [hy]
  simp (disch:=first|omega|(with_unfolding_all exact rfl)|(simp only[new_n,put_n,new_m];omega)|(refine put_m_le ?_;simp only[new_m];omega)) only [K72b0,K72b0r0,Abs.W,reduceIte,Nat.reduceEqDiff,Nat.reduceAdd,decide_true,decide_false,kLoop_def,Nat.reduceSub,List.cons_append,List.nil_append,List.append_nil,List.length_cons,List.length_nil,efs,Nat.zero_add,h2,s2w,jv,kv,e4,g4p2,new_n]
 rw [hs2] at h4'
 have s4l:(s4.put p2 (.cells [.slice y.n 0 (k+1) (k+1) true] (tag 123))).h.get l=some (.loop { R with state:=.busy }):=by rw [get_put_ne' _ _ _ _ (by omega)];exact (g4 l (by omega) (by omega)).trans ((yg l (by omega)).trans s2l)
 have hfin:=call_round (P:=Try.prog) (X:=X) (n:=N) (l:=l) (args:=[claimV c]) (r:=R) (r1:=R) (r2:={ R with state:=.busy }) (s:=s) (s1:=s1) (s2:=s4.put p2 (.cells [.slice y.n 0 (k+1) (k+1) true] (tag 123))) (e:=.norm) jl (by rw [hR];rfl) (by rw [hR];exact code72a0) (by rw [hR];exact code72b0) (by rw [hR];exact h1) (by rw [s1g _ (by omega)];exact jl) (by rw [hR]) (by rw [hR];rw [hR] at h4';exact h4') s4l
 have hRR:({ ({ R with state:=.busy }:ALoop) with state:=if goesOn .norm then .ready else .done,pending:=jumpOf .norm }:ALoop)=R:=by rw [hR];rfl
 rw [hRR] at hfin
 generalize hz:St.put (St.put s4 _ _) _ _=z at hfin
 have zn:z.n=s4.n:=by rw [← hz];rfl
 have zg:∀ x,x≠l→x≠p2→z.h.get x=s4.h.get x:=fun x h1 h2=>by rw [← hz,get_put_ne' _ _ _ _ h1,get_put_ne' _ _ _ _ h2]
 have zl:z.h.get l=some (.loop R):=by rw [← hz];exact get_put_eq _ _ _ _ rfl (by omega)
 have zp:z.h.get p2=some (.cells [.slice y.n 0 (k+1) (k+1) true] (tag 123)):=by rw [← hz,get_put_ne' _ _ _ _ (by omega)];exact get_put_eq _ _ _ _ rfl (by omega)
 have zm:z.m=min (min s4.m p2) l:=by rw [← hz];simp only [St.put,minN_eq]
 have s4s:∀ x,x<l→s4.h.get x=s.h.get x:=fun x hx=>(g4 x (by omega) (by omega)).trans ((yg x (by omega)).trans (s2g x (by omega) (by omega)))
 refine ⟨z,hfin,⟨zl,(zg (l - 1) (by omega) (by omega)).trans ((s4s (l - 1) (by omega)).trans jd),jq,by omega,y.n,_,zp,?_,.inl (by omega)⟩,fun x hx ho=>(zg x (by omega) ho).trans (s4s x hx),by omega,by omega,?_,by omega,by omega⟩
 ·rw [hrow]
  exact I4.mono (fun _=>zg y.n (by omega) (by omega)) (by omega)
 ·intro hw
  have h6:=m4 p2 (by omega) (by omega) (by omega)
  omega
end Go.Proofs.Ytoolodjbfphkjaa.walk
set_option maxRecDepth 10000
namespace Go.Proofs.Ytoolodjbfphkjaa.walk
open Go.Abs Go.Proofs.Ytoolodjbfphkjaa.code
theorem aseq_ex {N pb szb:Nat} {b:Bench} {v1 v2 v3 v4:AV} {s:St} {r:ARes} (hr:call Try.prog X N (.fn 72) [.nilslice,.func 69 [] [.ptr pb 0]] s=r) (hN:7≤N) (ok:b.Ok) (hB:BenchAt s.h s.n b v1 v2 v3 v4) (gp:s.h.get pb=some (.cells (benchV v1 v2 v3 v4 b.days) szb)) (hp:pb<s.n) (hs:s.n+800000≤far) :
  ∃ v t,r=.val v t∧New s t 200∧∃ bd,s.n≤bd∧IsAt t.h t.n bd 4 (tag 120) (clRows b) v:=by
 obtain ⟨n,rfl⟩:∃ n,N=n+1:=⟨N - 1,by omega⟩
 have hf:far=1000000000:=rfl
 obtain ⟨v',t,e,st,hq⟩:=call_new' (n:=n) (args:=[.nilslice,.func 69 [] [.ptr pb 0]]) (s:=s) (k:=200) (Q:=fun v h n=>∃ bd,s.n≤bd∧IsAt h n bd 4 (tag 120) (clRows b) v) Try.func72 rfl (fun u uh un um=>by
  rw [← uh,← un] at hB
  rw [← uh] at gp
  rw [← un] at hp
  rw [← un]
  rw [enter72]
  have bx:∀ s,boxA (tag 123) s .nilslice=.val (.ptr s.n 0) (s.new (.cells [.nilslice] (tag 123))):=fun _=>rfl
  simp (disch:=first|omega|(with_unfolding_all exact rfl)|(simp only[new_n,put_n,new_m];omega)|(refine put_m_le ?_;simp only[new_m];omega)) only [res72,K72r0,K72r1,K72r2,K72,K72a0r0,K72a0,K72b0r0,K72b0,Abs.W,reduceIte,Nat.reduceEqDiff,Nat.reduceAdd,decide_true,decide_false,kLoop_def,Nat.reduceSub,List.cons_append,List.nil_append,List.append_nil,List.length_cons,List.length_nil,efs,bx,Nat.zero_add]
  generalize hL:Env.cons 0 _ _=L0
  have f2:L0.find 2=.ptr u.n 0:=by rw [← hL];simp only [find_cons,reduceIte,Nat.reduceEqDiff]
  have f6:L0.find 6=.func 69 [] [.ptr pb 0]:=by rw [← hL];simp only [find_cons,reduceIte,Nat.reduceEqDiff]
  generalize hw:St.new _ _=w
  have wn:w.n=u.n+1:=by rw [← hw];rfl
  have wm:w.m=far:=by rw [← hw];exact um
  have wg:∀ c,c<u.n→w.h.get c=u.h.get c:=fun c hc=>by rw [← hw,get_new_ne _ _ _ (by omega)]
  have wq:w.h.get u.n=some (.cells [.nilslice] (tag 123)):=by rw [← hw];exact get_new_eq _ _ _ rfl (by omega)
  obtain ⟨n2,rfl⟩:∃ n2,n=n2+2:=⟨n - 2,by omega⟩
  obtain ⟨R,hRdef⟩:∃ R:ALoop,R=⟨.ready,none,72,L0,[7],(rangeAt Try.f72 0).1,(rangeAt Try.f72 0).2,u.n+2 - 1,Try.f72.ntmps,X 72⟩:=⟨_,rfl⟩
  have hKl:resMany b≤12:=by unfold resMany;have:=ok.w1;have:=ok.t1;omega
  obtain ⟨w6,hw6⟩:∃ w6:St,w6=(w.new .dfr).new (.loop R):=⟨_,rfl⟩
  have w6n:w6.n=u.n+3:=by rw [hw6];show w.n+1+1=_;omega
  have w6m:w6.m=far:=by rw [hw6];exact wm
  have w6g:∀ c,c<u.n+1→w6.h.get c=w.h.get c:=fun c hc=>by rw [hw6,get_new_ne _ _ _ (by simp only [new_n];omega),get_new_ne _ _ _ (by omega)]
  have w6d:w6.h.get (u.n+1)=some .dfr:=by rw [hw6,get_new_ne _ _ _ (by simp only [new_n];omega)];exact get_new_eq _ _ _ wn.symm (by omega)
  have w6l:w6.h.get (u.n+2)=some (.loop R):=by rw [hw6];exact get_new_eq _ _ _ (by simp only [new_n];omega) (by simp only [new_n];omega)
  have w6u:∀ c,c<u.n→w6.h.get c=u.h.get c:=fun c hc=>(w6g c (by omega)).trans (wg c hc)
  have G0:ColJ b R u.n (u.n+2) 0 w6.h w6.n:=⟨w6l,w6d,by omega,by omega,far+1,.nilslice,(w6g _ (by omega)).trans wq,by simpa using IsAt.nil _ _ _ _ _,.inr (by omega)⟩
  have hG:Yields (n2+1) (u.n+2) (u.n+3) 10 u.n (fun x=>x=u.n∨x=u.n+2) (resMany b) (resAt b) (ColJ b R u.n (u.n+2)) (fun _ _=>False):=⟨by omega,fun _ _ _ _ _ hh hn j=>j.keep hh hn,fun i s hi hJ h0 hs=>by
   obtain ⟨s',p1,p2,p4,p5,p6,p7,p8,p9⟩:=col_take n2 (by omega) hRdef f2 hi hKl (by omega) hJ
   exact ⟨s',true,p1,fun _=>p2,(fun h=>(by cases h)),fun x hx ho=>p4 x (by omega) (by omega),p5,by omega,p7,p8,p9⟩⟩
  generalize hc:call Try.prog X (n2+2) (.fn 69) [.yield (u.n+2),.ptr pb 0] w6=r94
  obtain ⟨s2,rfl,G,same,sn,sk,sm,smm⟩:=results1_ex hc (by omega) hG ok u.n (hB.grow w6u (Nat.le_refl _)) (fun x hx=>⟨by omega,by omega⟩) ((w6u _ hp).trans gp) ⟨by omega,by omega⟩ (by omega) (by omega) (by omega) (by omega) G0
  have hk32:(10+1) * resMany b≤11 * 12:=Nat.mul_le_mul_left _ hKl
  have hcall:callV (call Try.prog X (n2+2)) [.yield (w.n+1)] ((w.new .dfr).new (.loop ⟨.ready,none,72,L0,[7],(rangeAt Try.f72 0).1,(rangeAt Try.f72 0).2,w.n,Try.f72.ntmps,X 72⟩)) ((Arg.tmp 6).ev L0)=.val (.tup []) s2:=by
   rw [ev_tmp,f6,callV_func,wn,show (⟨.ready,none,72,L0,[7],(rangeAt Try.f72 0).1,(rangeAt Try.f72 0).2,u.n+1,Try.f72.ntmps,X 72⟩:ALoop)=R from hRdef.symm,← hw6]
   exact hc
  have G:=G.resolve_right id
  obtain ⟨g1,g2,g3,g4,ba,v,k1,k2,k3⟩:=G
  rw [List.take_of_length_le (by rw [clRows_len];exact Nat.le_refl _)] at k2
  have hrange:=range_to_end (ps:=[7]) (c:=⟨72,none,Try.f72.ntmps,X 72⟩) rfl hcall (by rw [wn];exact g1) (by rw [hRdef]) (by rw [hRdef])
  rw [wn] at hrange
  have k1':∀ o,(s2.put (u.n+1+1) o).h.get u.n=some (.cells [v] (tag 123)):=fun o=>by rw [get_put_ne' _ _ _ _ (by omega)];exact k1
  have kv:=k2.okA
  simp (disch:=first|omega|(with_unfolding_all exact rfl)|(simp only[new_n,put_n,new_m];omega)|(refine put_m_le ?_;simp only[new_m];omega)) only [res72,K72r0,K72r1,K72r2,K72,K72a0r0,K72a0,K72b0r0,K72b0,Abs.W,reduceIte,Nat.reduceEqDiff,Nat.reduceAdd,decide_true,decide_false,kLoop_def,Nat.reduceSub,List.cons_append,List.nil_append,List.append_nil,List.length_cons,List.length_nil,hrange,efs,f2,k1',kv]
  generalize hs3:St.put s2 _ _=s3
  have s3n:s3.n=s2.n:=by rw [← hs3];rfl
  have s3g:∀ x,x≠u.n+2→s3.h.get x=s2.h.get x:=fun x h3=>by rw [← hs3,get_put_ne' _ _ _ _ h3]
  have s3m:s3.m=min s2.m (u.n+2):=by rw [← hs3];simp only [St.put,minN_eq]
  have sm':=sm (by omega)
  rw [leave_dfr _ _ _ _ _ (show s3.h.get (u.n+1)=some .dfr from (s3g _ (by omega)).trans g2)]
  have gk3:∀ x,x≠u.n+1→(s3.kill (u.n+1)).h.get x=s3.h.get x:=fun x h=>get_kill_ne _ _ _ h
  have f4:(Env.set 4 v L0).find 4=v:=by simp only [efs,reduceIte,Nat.reduceEqDiff]
  refine ⟨v,s3.kill (u.n+1),by
   show ARes.val (oneA [(Env.set 4 v L0).find 4]) _=_
   rw [f4]
   rfl,⟨fun c hc=>?_,by show u.n≤s3.n;omega,by show s3.n≤u.n+200;omega,?_,?_⟩,⟨ba,by omega,k2.mono (fun hb=>(gk3 ba (by omega)).trans (s3g ba (by omega))) (by show s2.n≤s3.n;omega)⟩,fun hp=>?_⟩
  ·rw [gk3 _ (by omega),s3g _ (by omega)]
   exact (same c (by omega) (by omega)).trans (w6u c hc)
  ·simp only [St.kill,minN_eq];omega
  ·simp only [St.kill,minN_eq];omega
  ·rcases k2.is with ⟨z1,z2⟩ | ⟨_,_,z2,_⟩
   ·exact ⟨ba,by omega,by rw [z1,z2];exact IsAt.nil _ _ _ _ _⟩
   ·rw [z2] at hp;cases hp)
 exact ⟨v',t,hr.symm.trans e,st,hq⟩
theorem collect_ex {N pb szb:Nat} {b:Bench} {v1 v2 v3 v4:AV} {s:St} {r:ARes} (hr:call Try.prog X N (.fn 55) [.func 69 [] [.ptr pb 0]] s=r) (hN:8≤N) (ok:b.Ok) (hB:BenchAt s.h s.n b v1 v2 v3 v4) (gp:s.h.get pb=some (.cells (benchV v1 v2 v3 v4 b.days) szb)) (hp:pb<s.n) (hs:s.n+800000≤far) :
  ∃ v t,r=.val v t∧New s t 200∧∃ bd,s.n≤bd∧IsAt t.h t.n bd 4 (tag 120) (clRows b) v:=by
 obtain ⟨n,rfl⟩:∃ n,N=n+1:=⟨N - 1,by omega⟩
 have hf:far=1000000000:=rfl
 obtain ⟨v',t,e,st,hq⟩:=call_new' (n:=n) (args:=[.func 69 [] [.ptr pb 0]]) (s:=s) (k:=200) (Q:=fun v h n=>∃ bd,s.n≤bd∧IsAt h n bd 4 (tag 120) (clRows b) v) Try.func55 rfl (fun u uh un um=>by
  rw [← uh,← un] at hB
  rw [← uh] at gp
  rw [← un] at hp
  rw [← un]
  rw [enter55]
  simp (disch:=first|omega|(with_unfolding_all exact rfl)|(simp only[new_n,put_n,new_m];omega)|(refine put_m_le ?_;simp only[new_m];omega)) only [res55,K55r0,K55r1,K55,Abs.W,reduceIte,Nat.reduceEqDiff,Nat.reduceAdd,decide_true,decide_false,kLoop_def,Nat.reduceSub,List.cons_append,List.nil_append,List.append_nil,List.length_cons,List.length_nil,efs,Nat.zero_add]
  generalize hc:call _ _ _ (.fn 72) _ _=rc
  obtain ⟨v,t1,rfl,s1,bd,hbd,hI⟩:=aseq_ex hc (by omega) ok hB gp hp (by omega)
  have s1n:=s1.n
  have s1l:=s1.le
  have s1m:=s1.m
  have kv:=hI.okA
  simp (disch:=first|omega|(with_unfolding_all exact rfl)|(simp only[new_n,put_n,new_m];omega)|(refine put_m_le ?_;simp only[new_m];omega)) only [res55,K55r0,K55r1,K55,Abs.W,reduceIte,Nat.reduceEqDiff,Nat.reduceAdd,decide_true,decide_false,kLoop_def,Nat.reduceSub,List.cons_append,List.nil_append,List.append_nil,List.length_cons,List.length_nil,efs,kv]
  refine ⟨v,t1,rfl,⟨s1.same,by omega,by omega,by omega,by omega⟩,⟨bd,hbd,hI⟩,fun hp=>?_⟩
  rcases hI.is with ⟨z1,z2⟩ | ⟨_,_,z2,_⟩
  ·exact ⟨bd,hbd,by rw [z1,z2];exact IsAt.nil _ _ _ _ _⟩
  ·rw [z2] at hp;cases hp)
 exact ⟨v',t,hr.symm.trans e,st,hq⟩
end Go.Proofs.Ytoolodjbfphkjaa.walk
set_option maxRecDepth 10000
namespace Go.Proofs.Ytoolodjbfphkjaa.walk
open Go.Abs Go.Proofs.Ytoolodjbfphkjaa.code
theorem srSz_le {k:Nat} (h:k≤5):srSz k≤46852160:=by
 have:k=0∨k=1∨k=2∨k=3∨k=4∨k=5:=by omega
 rcases this with rfl | rfl | rfl | rfl | rfl | rfl<;>decide
theorem nobad_next {b:Bench} {k:Nat} (h:∀ j,j≤k→∀ c ∈ chs (resMany b) j 0,bad b (tab0 b) c=false) (hn:srch b (resMany b) k (tab0 b) 0=none):∀ j,j≤k+1→∀ c ∈ chs (resMany b) j 0,bad b (tab0 b) c=false:=fun j hj c hc=>by
 rw [srch_is b (resMany b) k (tab0 b) 0 h] at hn
 by_cases e:j=k+1
 ·subst e
  have:=List.find?_eq_none.mp hn c hc
  simpa using this
 ·exact h j (by omega) c hc
theorem all_bad {b:Bench} (h:knT b (resMany b)=none) (hno:∀ j,j≤resMany b→∀ c ∈ chs (resMany b) j 0,bad b (tab0 b) c=false):False:=by
 have hr:=range_mem (resMany b) (resMany b) (Nat.le_refl _)
 rw [Nat.sub_self] at hr
 have:=hno _ (Nat.le_refl _) _ hr
 unfold bad at this
 rw [← List.range_eq_range',← knT_all b _ (Nat.le_refl _),h] at this
 cases this
theorem fewest_ex {N:Nat} {b:Bench} {v1 v2 v3 v4:AV} {s:St} {r:ARes} (hr:call Try.prog X N (.fn 29) [.agg (benchV v1 v2 v3 v4 b.days)] s=r) (hN:20≤N) (ok:b.Ok) (hn:resMany b≤6) (hB:BenchAt s.h s.n b v1 v2 v3 v4) (hbad:knT b (resMany b)=none) (hs:s.n+400000000≤far) :
  ∃ w t m c,r=.val w t∧New s t 330000000∧Found t.h s.n t.n c w∧m<resMany b∧(∀ j,j≤m→∀ c ∈ chs (resMany b) j 0,bad b (tab0 b) c=false)∧(chs (resMany b) (m+1) 0).find? (bad b (tab0 b))=some c:=by
 obtain ⟨n,rfl⟩:∃ n,N=n+1:=⟨N - 1,by omega⟩
 have hf:far=1000000000:=rfl
 obtain ⟨w',t,e,st,m,c,hq⟩:=call_new (n:=n) (args:=[.agg (benchV v1 v2 v3 v4 b.days)]) (s:=s) (k:=330000000) (Q:=fun w h k=>∃ m c,Found h s.n k c w∧m<resMany b∧(∀ j,j≤m→∀ c ∈ chs (resMany b) j 0,bad b (tab0 b) c=false)∧(chs (resMany b) (m+1) 0).find? (bad b (tab0 b))=some c) Try.func29 rfl (fun u uh un um=>by
  rw [← uh,← un] at hB
  rw [← un]
  unfold benchV
  obtain ⟨w0,hw0⟩:∃ w0:St,w0=u.new (.cells [v1,v2,v3,v4,.int .i64 b.days] (tag 28)):=⟨_,rfl⟩
  have w0n:w0.n=u.n+1:=by rw [hw0];rfl
  have w0m:w0.m=far:=by rw [hw0];exact um
  have w0g:∀ c,c<u.n→w0.h.get c=u.h.get c:=fun c hc=>by rw [hw0,get_new_ne _ _ _ (by omega)]
  have w00:w0.h.get u.n=some (.cells [v1,v2,v3,v4,.int .i64 b.days] (tag 28)):=by rw [hw0];exact get_new_eq _ _ _ rfl (by omega)
  rw [enter29]
  simp (disch:=first|omega|(with_unfolding_all exact rfl)|(simp only[new_n,put_n,new_m];omega)|(refine put_m_le ?_;simp only[new_m];omega)) only [K29,K29r0,Abs.W,reduceIte,Nat.reduceEqDiff,Nat.reduceAdd,decide_true,decide_false,kLoop_def,Nat.reduceSub,List.cons_append,List.nil_append,List.append_nil,List.length_cons,List.length_nil,efs,Nat.zero_add]
  rw [← hw0]
  obtain ⟨w1,hw1⟩:∃ w1:St,w1=w0.new (.cells [v1,v2,v3,v4,.int .i64 b.days] (tag 28)):=⟨_,rfl⟩
  have w1n:w1.n=w0.n+1:=by rw [hw1];rfl
  have w1m:w1.m=far:=by rw [hw1];exact w0m
  have w1g:∀ c,c<w0.n→w1.h.get c=w0.h.get c:=fun c hc=>by rw [hw1,get_new_ne _ _ _ (by omega)]
  have w10:w1.h.get w0.n=some (.cells [v1,v2,v3,v4,.int .i64 b.days] (tag 28)):=by rw [hw1];exact get_new_eq _ _ _ rfl (by omega)
  have kfr:∀ s,okA (.val (.func 69 [] [.ptr w0.n 0]) s)=.val (.func 69 [] [.ptr w0.n 0]) s:=fun _=>rfl
  simp (disch:=first|omega|(with_unfolding_all exact rfl)|(simp only[new_n,put_n,new_m];omega)|(refine put_m_le ?_;simp only[new_m];omega)) only [K29r1,Abs.W,reduceIte,Nat.reduceEqDiff,Nat.reduceAdd,decide_true,decide_false,kLoop_def,Nat.reduceSub,List.cons_append,List.nil_append,List.append_nil,List.length_cons,List.length_nil,efs,w00,results_ok,kfr,Nat.zero_add]
  rw [← hw1]
  generalize hc:call _ _ _ (.fn 55) _ _=rc
  obtain ⟨vA,t1,rfl,s1,bd,hbd,hI⟩:=collect_ex hc (by omega) ok (hB.grow (fun c hc=>(w1g c (by omega)).trans (w0g c hc)) (by omega)) w10 (by omega) (by omega)
  have s1n:=s1.n
  have s1l:=s1.le
  have s1m:=s1.m
  have kA:=hI.okA
  have scA:=hI.scal
  have gn:(t1.new (.cells [.nilslice] (tag 123))).h.get t1.n=some (.cells [.nilslice] (tag 123)):=get_new_eq _ _ _ rfl (by omega)
  have t10:t1.h.get u.n=some (.cells [v1,v2,v3,v4,.int .i64 b.days] (tag 28)):=(s1.same u.n (by omega)).trans ((w1g u.n (by omega)).trans w00)
  obtain ⟨x1,hx1⟩:∃ x:St,x=(t1.new (.cells [.nilslice] (tag 123))).put t1.n (.cells [vA] (tag 123)):=⟨_,rfl⟩
  have x1n:x1.n=t1.n+1:=by rw [hx1];rfl
  have x1m:x1.m=min far t1.n:=by rw [hx1];simp only [St.put,minN_eq,new_m,s1m,w1m]
  have x1g:∀ c,c<t1.n→x1.h.get c=t1.h.get c:=fun c hc=>by rw [hx1,get_put_ne' _ _ _ _ (by omega),get_new_ne _ _ _ (by omega)]
  have x1p:x1.h.get t1.n=some (.cells [vA] (tag 123)):=by rw [hx1];exact get_put_eq _ _ _ _ rfl (by omega)
  obtain ⟨x2,hx2⟩:∃ x:St,x=(x1.new (.cells [.nilfunc] (tag 125))).put x1.n (.cells [.func 56 [] [.ptr t1.n 0,.ptr x1.n 0]] (tag 125)):=⟨_,rfl⟩
  have x2n:x2.n=t1.n+2:=by rw [hx2];show x1.n+1=_;omega
  have x2m:x2.m=min far t1.n:=by rw [hx2];simp only [St.put,minN_eq,new_m,x1m];omega
  have x2g:∀ c,c<x1.n→x2.h.get c=x1.h.get c:=fun c hc=>by rw [hx2,get_put_ne' _ _ _ _ (by omega),get_new_ne _ _ _ (by omega)]
  have x2p:x2.h.get x1.n=some (.cells [.func 56 [] [.ptr t1.n 0,.ptr x1.n 0]] (tag 125)):=by rw [hx2];exact get_put_eq _ _ _ _ rfl (by omega)
  have x20:=(x2g u.n (by omega)).trans ((x1g u.n (by omega)).trans t10)
  have gn2:(x1.new (.cells [.nilfunc] (tag 125))).h.get x1.n=some (.cells [.nilfunc] (tag 125)):=get_new_eq _ _ _ rfl (by omega)
  simp (disch:=first|omega|(with_unfolding_all exact rfl)|(simp only[new_n,put_n,new_m];omega)|(refine put_m_le ?_;simp only[new_m];omega)) only [Abs.W,reduceIte,Nat.reduceEqDiff,Nat.reduceAdd,decide_true,decide_false,kLoop_def,Nat.reduceSub,List.cons_append,List.nil_append,List.append_nil,List.length_cons,List.length_nil,efs,kA,scA.1,scA.2,gn,Nat.zero_add]
  rw [← hx1]
  have kff:∀ s,okA (.val (.func 56 [] [.ptr t1.n 0,.ptr x1.n 0]) s)=.val (.func 56 [] [.ptr t1.n 0,.ptr x1.n 0]) s:=fun _=>rfl
  have scf:scalars [.func 56 [] [.ptr t1.n 0,.ptr x1.n 0]]=true:=rfl
  have cef:cellsOf 1 (.func 56 [] [.ptr t1.n 0,.ptr x1.n 0])=some [.func 56 [] [.ptr t1.n 0,.ptr x1.n 0]]:=rfl
  simp (disch:=first|omega|(with_unfolding_all exact rfl)|(simp only[new_n,put_n,new_m];omega)|(refine put_m_le ?_;simp only[new_m];omega)) only [K29r2,K29r3,Abs.W,reduceIte,Nat.reduceEqDiff,Nat.reduceAdd,decide_true,decide_false,kLoop_def,Nat.reduceSub,List.cons_append,List.nil_append,List.append_nil,List.length_cons,List.length_nil,efs,kFunc_def',kff,scf,cef,gn2,Nat.zero_add]
  rw [← hx2]
  simp (disch:=first|omega|(with_unfolding_all exact rfl)|(simp only[new_n,put_n,new_m];omega)|(refine put_m_le ?_;simp only[new_m];omega)) only [K29r4,K29r5,Abs.W,reduceIte,Nat.reduceEqDiff,Nat.reduceAdd,decide_true,decide_false,kLoop_def,Nat.reduceSub,List.cons_append,List.nil_append,List.append_nil,List.length_cons,List.length_nil,efs,x20,Nat.zero_add]
  generalize hc2:call _ _ _ (.fn 51) _ _=rc2
  have hB2:BenchAt x2.h x2.n b v1 v2 v3 v4:=hB.grow (fun c hc=>(x2g c (by omega)).trans ((x1g c (by omega)).trans ((s1.same c (by omega)).trans ((w1g c (by omega)).trans (w0g c hc))))) (by omega)
  obtain ⟨vg,t2,rfl,s2,hTg⟩:=given_ex hc2 (by omega) ok hB2 (by omega)
  have s2n:=s2.n
  have s2l:=s2.le
  have s2m:=s2.m
  have kg:=hTg.tab.ok
  have K0:KnOk b (tab0 b):=knT_ok ok 0 (tab0 b) (Nat.zero_le _) rfl
  have hBox:SrBox t2.h t2.n t1.n x1.n b vA:=⟨(s2.same t1.n (by omega)).trans ((x2g t1.n (by omega)).trans x1p),(s2.same x1.n (by omega)).trans x2p,by omega,by omega,(hI.rows.at_.grow (fun c hc=>(s2.same c (by omega)).trans ((x2g c (by omega)).trans (x1g c hc))) (by omega))⟩
  have lA:∀ s,lenSlA s vA=.val (.int .i64 (resMany b:Int)) s:=fun s=>by
   have:=hBox.rows.len s
   rwa [clRows_len] at this
  simp (disch:=first|omega|(with_unfolding_all exact rfl)|(simp only[new_n,put_n,new_m];omega)|(refine put_m_le ?_;simp only[new_m];omega)) only [Abs.W,reduceIte,Nat.reduceEqDiff,Nat.reduceAdd,decide_true,decide_false,kLoop_def,Nat.reduceSub,List.cons_append,List.nil_append,List.append_nil,List.length_cons,List.length_nil,efs,kg]
  generalize hlp:loopN _ rounds _ _ _ _ _=q1
  have hT0:GTab t2.h t2.n (tab0 b) vg:=hTg.tab
  have t2u:∀ c,c<u.n→t2.h.get c=u.h.get c:=fun c hc=>(s2.same c (by omega)).trans ((x2g c (by omega)).trans ((x1g c (by omega)).trans ((s1.same c (by omega)).trans ((w1g c (by omega)).trans (w0g c hc)))))
  have no0:∀ j,j≤0→∀ c ∈ chs (resMany b) j 0,bad b (tab0 b) c=false:=fun j hj c hc=>by
   obtain rfl:j=0:=by omega
   have:c=[]:=List.mem_singleton.mp hc
   subst this
   rfl
  obtain ⟨e,L1,t5,rfl,rfl,y1,y2,y3,y4,y5,m,c,w,f7,y6,y7,y8,y9⟩:=loop_of hlp (fun k L t=>(∀ c,c<t2.n→t.h.get c=t2.h.get c)∧t2.n≤t.n∧t.n≤t2.n+k * 46852160∧t.m=t2.m∧L.find 3=.ptr t1.n 0∧L.find 4=.ptr x1.n 0∧L.find 5=vg∧L.find 6=.int .i64 (k+1:Nat)∧∀ j,j≤k→∀ c ∈ chs (resMany b) j 0,bad b (tab0 b) c=false)
   (fun e L t=>e=.ret∧(∀ c,c<t2.n→t.h.get c=t2.h.get c)∧t2.n≤t.n∧t.n≤t2.n+7 * 46852160∧u.n≤t.m∧t.m≤far∧∃ m c w,L.find 2=w∧Found t.h u.n t.n c w∧m<resMany b∧(∀ j,j≤m→∀ c ∈ chs (resMany b) j 0,bad b (tab0 b) c=false)∧(chs (resMany b) (m+1) 0).find? (bad b (tab0 b))=some c) (resMany b) (by unfold rounds;omega)
   ⟨fun _ _=>rfl,Nat.le_refl _,by omega,rfl,by simp only [find_cons,efs,reduceIte,Nat.reduceEqDiff],by simp only [find_cons,efs,reduceIte,Nat.reduceEqDiff],by simp only [find_cons,efs,reduceIte,Nat.reduceEqDiff],by simp only [find_cons,efs,reduceIte,Nat.reduceEqDiff];rfl,no0⟩
   (fun k L t hk ⟨same,jn,jle,jm,q3,q4,q5,q6,hno⟩=>by
    by_cases hlt:k<resMany b
    ·have e0:decide (((k+1:Nat):Int)≤(resMany b:Int))=true:=decide_eq_true (by omega)
     have ad:∀ s,aAdd s .i64 ((k+1:Nat):Int) 1=.val (.int .i64 (((k+1:Nat):Int)+1)) s:=fun s=>aAdd_i64 s _ _ (by omega)
     have c6:=Nat.mul_le_mul_right 46852160 (show k≤6 by omega)
     have sz:=srSz_le (show k≤5 by omega)
     have hBt:=hBox.grow same jn
     have g3:=hBt.g3
     have g4:=hBt.g4
     have kAll:∀ t,okA (.val vA t)=.val vA t:=fun t=>okA_ne hBt.rows.ne
     have q8n:∀ s,eqlA .nilS true s .nilslice .nilslice=.val (.bool false) s:=fun _=>rfl
     simp (disch:=first|omega|(with_unfolding_all exact rfl)|(simp only[new_n,put_n,new_m];omega)|(refine put_m_le ?_;simp only[new_m];omega)) only [K29l0,K29r6,K29r7,Abs.W,reduceIte,Nat.reduceEqDiff,Nat.reduceAdd,decide_true,decide_false,kLoop_def,Nat.reduceSub,List.cons_append,List.nil_append,List.append_nil,List.length_cons,List.length_nil,efs,q3,q4,q5,q6,g3,g4,kAll,lA,kg,kff,e0,Nat.zero_add]
     generalize hc3:call _ _ _ (.fn 56) _ _=rc3
     obtain ⟨w3,t3,rfl,s3,hres⟩:=sr_ex ok hn t1.n x1.n vA k (by omega) (from_:=0) hc3 (by omega) K0 (hT0.grow same jn) hBt (by omega) hno (by omega)
     have s3n:=s3.n
     have s3l:=s3.le
     have s3m:=s3.m
     rcases hres with ⟨hnone,rfl⟩ | ⟨c,hsome,hfd⟩
     ·have kn:∀ s,okA (.val .nilslice s)=.val .nilslice s:=fun _=>rfl
      refine .inl ⟨hlt,_,t3,by
       simp (disch:=first|omega|(with_unfolding_all exact rfl)|(simp only[new_n,put_n,new_m];omega)|(refine put_m_le ?_;simp only[new_m];omega)) only [K29r8,K29r10,Abs.W,reduceIte,Nat.reduceEqDiff,Nat.reduceAdd,decide_true,decide_false,kLoop_def,Nat.reduceSub,List.cons_append,List.nil_append,List.append_nil,List.length_cons,List.length_nil,efs,kEqlN,q8n,kn,q6,ad]
       rfl,fun c hc=>(s3.same c (by omega)).trans (same c hc),by omega,by omega,by omega,?_,?_,?_,?_,nobad_next hno hnone⟩
      ·simp only [efs,q3,reduceIte,Nat.reduceEqDiff]
      ·simp only [efs,q4,reduceIte,Nat.reduceEqDiff]
      ·simp only [efs,q5,reduceIte,Nat.reduceEqDiff]
      ·simp only [efs,reduceIte,Nat.reduceEqDiff];rfl
     ·obtain ⟨p,e,sz',rfl,gp,lo,lt,hsz,hone,hpos⟩:=hfd
      have q8:∀ s,eqlA .nilS true s (.slice p 0 c.length c.length e) .nilslice=.val (.bool true) s:=fun _=>rfl
      have kn:∀ s,okA (.val (.slice p 0 c.length c.length e) s)=.val (.slice p 0 c.length c.length e) s:=fun _=>rfl
      refine .inr ⟨.ret,_,t3,by simp,by
       simp (disch:=first|omega|(with_unfolding_all exact rfl)|(simp only[new_n,put_n,new_m];omega)|(refine put_m_le ?_;simp only[new_m];omega)) only [K29r8,K29r9,Abs.W,reduceIte,Nat.reduceEqDiff,Nat.reduceAdd,decide_true,decide_false,kLoop_def,Nat.reduceSub,List.cons_append,List.nil_append,List.append_nil,List.length_cons,List.length_nil,efs,kEqlN,q8,kn]
       rfl,rfl,fun c hc=>(s3.same c (by omega)).trans (same c hc),by omega,by omega,by omega,by omega,k,c,_,by simp only [efs,reduceIte,Nat.reduceEqDiff],⟨p,e,sz',rfl,gp,by omega,lt,hsz,hone,hpos⟩,hlt,hno,by rw [← srch_is b (resMany b) k (tab0 b) 0 hno];exact hsome⟩
    ·exfalso
     obtain rfl:k=resMany b:=by omega
     exact all_bad hbad hno)
  obtain ⟨p,e,sz',rfl,gp,lo,lt,hsz,hone,hpos⟩:=y6
  simp (disch:=first|omega|(with_unfolding_all exact rfl)|(simp only[new_n,put_n,new_m];omega)|(refine put_m_le ?_;simp only[new_m];omega)) only [K29r11,res29,Abs.W,reduceIte,Nat.reduceEqDiff,Nat.reduceAdd,decide_true,decide_false,kLoop_def,Nat.reduceSub,List.cons_append,List.nil_append,List.append_nil,List.length_cons,List.length_nil,efs,f7]
  exact ⟨_,_,rfl,⟨fun c hc=>(y1 c (by omega)).trans (t2u c hc),by omega,by omega,y4,y5⟩,rfl,m,c,⟨p,e,sz',rfl,gp,by omega,lt,hsz,hone,hpos⟩,y7,y8,y9⟩)
 exact ⟨w',t,m,c,hr.symm.trans e,st,hq⟩
end Go.Proofs.Ytoolodjbfphkjaa.walk
set_option maxRecDepth 10000
namespace Go.Proofs.Ytoolodjbfphkjaa.walk
open Go.Abs Go.Proofs.Ytoolodjbfphkjaa.code
def Fewest (b:Bench) (c:List Nat):Prop:=∃ m,m<resMany b∧(∀ j,j≤m→∀ c ∈ chs (resMany b) j 0,bad b (tab0 b) c=false)∧(chs (resMany b) (m+1) 0).find? (bad b (tab0 b))=some c
theorem Clash_ex {N:Nat} {b:Bench} {v1 v2 v3 v4:AV} {s:St} {r:ARes} (hr:call Try.prog X N (.fn 7) [.agg (benchV v1 v2 v3 v4 b.days)] s=r) (hN:24≤N) (ok:b.Ok) (hn:resMany b≤6) (hB:BenchAt s.h s.n b v1 v2 v3 v4) (hs:s.n+410000000≤far) :
  ∃ w e t,r=.val (.tup [w,.int .i64 e]) t∧New s t 340000000∧((e=3∧w=.nilslice∧∃ T,knT b (resMany b)=some T)∨(e=0∧knT b (resMany b)=none∧∃ c,Found t.h s.n t.n c w∧Fewest b c)):=by
 obtain ⟨n,rfl⟩:∃ n,N=n+1:=⟨N - 1,by omega⟩
 have hf:far=1000000000:=rfl
 obtain ⟨v',t,e,st,w,ee,rfl,hq⟩:=call_new' (n:=n) (args:=[.agg (benchV v1 v2 v3 v4 b.days)]) (s:=s) (k:=340000000) (Q:=fun v' h k=>∃ w e,v'=.tup [w,.int .i64 e]∧((e=3∧w=.nilslice∧∃ T,knT b (resMany b)=some T)∨(e=0∧knT b (resMany b)=none∧∃ c,Found h s.n k c w∧Fewest b c))) Try.func7 rfl (fun u uh un um=>by
  rw [← uh,← un] at hB
  rw [← un]
  rw [enter7]
  obtain ⟨w0,hw0⟩:∃ w0:St,w0=u.new (.cells (benchV v1 v2 v3 v4 b.days) (tag 28)):=⟨_,rfl⟩
  have w0n:w0.n=u.n+1:=by rw [hw0];rfl
  have w0m:w0.m=far:=by rw [hw0];exact um
  have w0g:∀ c,c<u.n→w0.h.get c=u.h.get c:=fun c hc=>by rw [hw0,get_new_ne _ _ _ (by omega)]
  have w00:w0.h.get u.n=some (.cells (benchV v1 v2 v3 v4 b.days) (tag 28)):=by rw [hw0];exact get_new_eq _ _ _ rfl (by omega)
  have hB0:=hB.grow w0g (by omega:u.n≤w0.n)
  have hck:=ckBench_ok n (by omega) b ok v1 v2 v3 v4 w0 hB0 (by omega)
  have z0:(!decide ((0:Int)=0))=false:=rfl
  have z1:decide ((0:Int)=0)=true:=rfl
  unfold benchV at hw0 w00 hck ⊢
  simp (disch:=first|omega|(with_unfolding_all exact rfl)|(simp only[new_n,put_n,new_m];omega)|(refine put_m_le ?_;simp only[new_m];omega)) only [res7,K7r0,K7r1,K7r2,K7r3,K7r4,K7r5,K7r6,K7r7,K7,Abs.W,reduceIte,Nat.reduceEqDiff,Nat.reduceAdd,decide_true,decide_false,kLoop_def,Nat.reduceSub,List.cons_append,List.nil_append,List.append_nil,List.length_cons,List.length_nil,efs,Nat.zero_add]
  rw [← hw0]
  simp (disch:=first|omega|(with_unfolding_all exact rfl)|(simp only[new_n,put_n,new_m];omega)|(refine put_m_le ?_;simp only[new_m];omega)) only [Abs.W,reduceIte,Nat.reduceEqDiff,Nat.reduceAdd,decide_true,decide_false,kLoop_def,Nat.reduceSub,List.cons_append,List.nil_append,List.append_nil,List.length_cons,List.length_nil,w00,hck,efs,z0,z1]
  generalize hc:call Try.prog X n (.fn 28) _ _=rk
  obtain ⟨vk,p,s1,rfl,st1,hk⟩:=known_ex hc (by omega) ok hB0 (by omega)
  have s1g:=st1.same
  have s1n:=st1.n
  have s1l:=st1.le
  have s1m:=st1.m
  have s10:=(s1g u.n (by omega)).trans w00
  rcases hk with ⟨rfl,rfl,hno⟩ | ⟨rfl,T,hT,hG⟩
  ·have kn:∀ s,okA (.val (.tup [.nilslice,.bool false]) s)=.val (.tup [.nilslice,.bool false]) s:=fun _=>rfl
   simp (disch:=first|omega|(with_unfolding_all exact rfl)|(simp only[new_n,put_n,new_m];omega)|(refine put_m_le ?_;simp only[new_m];omega)) only [res7,K7r0,K7r1,K7r2,K7r3,K7r4,K7r5,K7r6,K7r7,K7,Abs.W,reduceIte,Nat.reduceEqDiff,Nat.reduceAdd,decide_true,decide_false,kLoop_def,Nat.reduceSub,List.cons_append,List.nil_append,List.append_nil,List.length_cons,List.length_nil,efs,ext0,ext1,kn,s10]
   generalize hc2:call Try.prog X n (.fn 29) _ _=rf
   obtain ⟨w,t2,m,c,rfl,s2,hfd,h1,h2,h3⟩:=fewest_ex hc2 (by omega) ok hn (hB0.grow s1g (by omega)) hno (by omega)
   have s2n:=s2.n
   have s2l:=s2.le
   have s2m:=s2.m
   obtain ⟨p,e,sz',rfl,gp,lo,lt,hsz,hone,hpos⟩:=hfd
   have kw:∀ s,okA (.val (.slice p 0 c.length c.length e) s)=.val (.slice p 0 c.length c.length e) s:=fun _=>rfl
   simp (disch:=first|omega|(with_unfolding_all exact rfl)|(simp only[new_n,put_n,new_m];omega)|(refine put_m_le ?_;simp only[new_m];omega)) only [res7,K7r0,K7r1,K7r2,K7r3,K7r4,K7r5,K7r6,K7r7,K7,Abs.W,reduceIte,Nat.reduceEqDiff,Nat.reduceAdd,decide_true,decide_false,kLoop_def,Nat.reduceSub,List.cons_append,List.nil_append,List.append_nil,List.length_cons,List.length_nil,efs,kw,leave_tt]
   refine ⟨_,_,rfl,⟨fun c hc=>(s2.same c (by omega)).trans ((s1g c (by omega)).trans (w0g c hc)),by omega,by omega,by omega,by omega⟩,⟨_,0,rfl,.inr ⟨rfl,hno,c,⟨p,e,sz',rfl,gp,by omega,lt,hsz,hone,hpos⟩,m,h1,h2,h3⟩⟩,fun hp=>(by cases hp)⟩
  ·have gt:=hG.tab
   have vok:=gt.ok
   simp (disch:=first|omega|(with_unfolding_all exact rfl)|(simp only[new_n,put_n,new_m];omega)|(refine put_m_le ?_;simp only[new_m];omega)) only [res7,K7r0,K7r1,K7r2,K7r3,K7r4,K7r5,K7r6,K7r7,K7,Abs.W,reduceIte,Nat.reduceEqDiff,Nat.reduceAdd,decide_true,decide_false,kLoop_def,Nat.reduceSub,List.cons_append,List.nil_append,List.append_nil,List.length_cons,List.length_nil,efs,ext0,ext1,okA_tup,leave_tt]
   exact ⟨_,_,rfl,⟨fun c hc=>(s1g c (by omega)).trans (w0g c hc),by omega,by omega,by omega,by omega⟩,⟨.nilslice,3,rfl,.inl ⟨rfl,rfl,T,hT⟩⟩,fun _=>⟨.nilslice,3,rfl,.inl ⟨rfl,rfl,T,hT⟩⟩⟩)
 exact ⟨w,ee,t,hr.symm.trans e,st,hq⟩
end Go.Proofs.Ytoolodjbfphkjaa.walk
set_option maxRecDepth 10000
namespace Go.Proofs.Ytoolodjbfphkjaa.walk
open Go.Abs Go.Proofs.Ytoolodjbfphkjaa.code
theorem same_ok (N:Nat) (hN:1≤N) (a b:List Int) (v w:AV) (s:St) (hR:RowsAt s.h s.n 1 (intRows a) v) (hQ:RowsAt s.h s.n 1 (intRows b) w) (hl:a.length≤1000) (hs:s.n+10≤far) :
  call Try.prog X N (.fn 12) [v,w] s=.val (.bool (decide (a=b))) s:=by
 obtain ⟨n,rfl⟩:∃ n,N=n+1:=⟨N - 1,by omega⟩
 refine call_plain' Try.func12 (fun u uh un um=>?_) rfl
 rw [← uh,← un] at hR hQ
 have kv:∀ t,okA (.val v t)=.val v t:=fun t=>okA_ne hR.ne
 have lv:=rowLen hR
 have kw:∀ t,okA (.val w t)=.val w t:=fun t=>okA_ne hQ.ne
 have lw:=rowLen hQ
 have hf:far=1000000000:=rfl
 rw [enter12]
 simp (disch:=first|omega|(with_unfolding_all exact rfl)|(simp only[new_n,put_n,new_m];omega)|(refine put_m_le ?_;simp only[new_m];omega)) only [res12,K12r0,K12r1,K12r2,K12r3s6,K12r3s5,K12r3s4,K12r3s3,K12r3,K12r4,K12r5,K12r6,K12,Abs.W,reduceIte,Nat.reduceEqDiff,Nat.reduceAdd,decide_true,decide_false,kLoop_def,Nat.reduceSub,List.cons_append,List.nil_append,List.append_nil,List.length_cons,List.length_nil,efs,kv,lv,kw,lw]
 generalize hlp:loopN _ rounds _ _ _ _ _=q1
 obtain ⟨e,L1,s1,rfl,rfl,rfl,h5⟩:=loop_of hlp (fun i L t=>t=u∧L.find 0=v∧L.find 1=w∧L.find 6=.int .i64 i∧∃ sm:Bool,L.find 5=.bool sm∧(sm=true→a.length=b.length∧a.take i=b.take i)∧(sm=false→a≠b))
  (fun e L t=>e=.exit 0∧t=u∧L.find 5=.bool (decide (a=b))) a.length (by unfold rounds;omega)
  ⟨rfl,by simp only [find_cons,efs,reduceIte,Nat.reduceEqDiff],by simp only [find_cons,efs,reduceIte,Nat.reduceEqDiff],by simp only [find_cons,efs,reduceIte,Nat.reduceEqDiff];rfl,decide ((a.length:Int)=(b.length:Int)),by simp only [find_cons,efs,reduceIte,Nat.reduceEqDiff],fun h=>⟨by have:=of_decide_eq_true h;omega,by simp⟩,fun h e=>by subst e;simp at h⟩
  (fun i L t hi ⟨ht,q0,q1,q6,sm,q5,h1,h2⟩=>by
   subst ht
   cases sm with
   | false =>
    have hne:=h2 rfl
    refine .inr ⟨.exit 0,L.set 18 (.bool false),t,by simp,?_,rfl,rfl,by simp only [efs,q5,reduceIte,Nat.reduceEqDiff];rw [decide_eq_false hne]⟩
    simp (disch:=first|omega|(with_unfolding_all exact rfl)|(simp only[new_n,put_n,new_m];omega)|(refine put_m_le ?_;simp only[new_m];omega)) only [res12,K12r0,K12r1,K12r2,K12r3s6,K12r3s5,K12r3s4,K12r3s3,K12r3,K12r4,K12r5,K12r6,K12,K12l0,Abs.W,reduceIte,Nat.reduceEqDiff,Nat.reduceAdd,decide_true,decide_false,kLoop_def,Nat.reduceSub,List.cons_append,List.nil_append,List.append_nil,List.length_cons,List.length_nil,efs,q0,q1,q5,q6]
   | true =>
    obtain ⟨hl2,ht2⟩:=h1 rfl
    by_cases hlt:i<a.length
    ·have e0:decide ((i:Int)<(a.length:Int))=true:=decide_eq_true (by omega)
     obtain ⟨b1,p1,c1,sz1,r1,r2,r3,r4⟩:=rowInt hR hlt
     obtain ⟨b2,p2,c2,sz2,s1,s2,s3,s4⟩:=rowInt hQ (show i<b.length by omega)
     have ad:∀ s,aAdd s .i64 (i:Int) 1=.val (.int .i64 ((i:Int)+1)) s:=fun s=>aAdd_i64 s _ _ (by omega)
     refine .inl ⟨hlt,_,t,by
      simp (disch:=first|omega|(with_unfolding_all exact rfl)|(simp only[new_n,put_n,new_m];omega)|(refine put_m_le ?_;simp only[new_m];omega)) only [res12,K12r0,K12r1,K12r2,K12r3s6,K12r3s5,K12r3s4,K12r3s3,K12r3,K12r4,K12r5,K12r6,K12,K12l0,Abs.W,reduceIte,Nat.reduceEqDiff,Nat.reduceAdd,decide_true,decide_false,kLoop_def,Nat.reduceSub,List.cons_append,List.nil_append,List.append_nil,List.length_cons,List.length_nil,efs,q0,q1,q5,q6,e0,kv,lv,kw,lw,r2,r3,r4,s2,s3,s4,ad]
      rfl,rfl,?_,?_,?_,decide (a[i]=b[i]),?_,fun h=>⟨hl2,?_⟩,fun h e=>?_⟩
     ·simp only [efs,q0,reduceIte,Nat.reduceEqDiff]
     ·simp only [efs,q1,reduceIte,Nat.reduceEqDiff]
     ·simp only [efs,reduceIte,Nat.reduceEqDiff];rfl
     ·simp only [efs,reduceIte,Nat.reduceEqDiff]
     ·rw [take_snoc hlt,take_snoc (show i<b.length by omega),ht2,of_decide_eq_true h]
     ·subst e;simp at h
    ·obtain rfl:i=a.length:=by omega
     have e0:decide ((a.length:Int)<(a.length:Int))=false:=by simp
     rw [List.take_length,hl2,List.take_length] at ht2
     refine .inr ⟨.exit 0,L.set 18 (.bool false),t,by simp,?_,rfl,rfl,by simp only [efs,q5,reduceIte,Nat.reduceEqDiff];rw [decide_eq_true ht2]⟩
     simp (disch:=first|omega|(with_unfolding_all exact rfl)|(simp only[new_n,put_n,new_m];omega)|(refine put_m_le ?_;simp only[new_m];omega)) only [res12,K12r0,K12r1,K12r2,K12r3s6,K12r3s5,K12r3s4,K12r3s3,K12r3,K12r4,K12r5,K12r6,K12,K12l0,Abs.W,reduceIte,Nat.reduceEqDiff,Nat.reduceAdd,decide_true,decide_false,kLoop_def,Nat.reduceSub,List.cons_append,List.nil_append,List.append_nil,List.length_cons,List.length_nil,efs,q0,q1,q5,q6,kv,lv,e0])
 simp (disch:=first|omega|(with_unfolding_all exact rfl)|(simp only[new_n,put_n,new_m];omega)|(refine put_m_le ?_;simp only[new_m];omega)) only [res12,K12r0,K12r1,K12r2,K12r3s6,K12r3s5,K12r3s4,K12r3s3,K12r3,K12r4,K12r5,K12r6,K12,Abs.W,reduceIte,Nat.reduceEqDiff,Nat.reduceAdd,decide_true,decide_false,kLoop_def,Nat.reduceSub,List.cons_append,List.nil_append,List.append_nil,List.length_cons,List.length_nil,efs,h5]
 exact ⟨_,rfl,by omega⟩
theorem selW_in {b:Bench} {l:List Nat}:∀ w ∈ selW b l,w ∈ b.ws:=fun w h=>by
 unfold selW at h
 obtain ⟨i,hi,rfl⟩:=List.mem_map.mp h
 have:=of_decide_eq_true (List.mem_filter.mp hi).2
 rw [← wAt_at this]
 exact List.getElem_mem _
theorem selT_in {b:Bench} {l:List Nat} (hl:∀ x ∈ l,x<b.ws.length+b.ts.length):∀ t ∈ selT b l,t ∈ b.ts:=fun w h=>by
 unfold selT at h
 obtain ⟨i,hi,rfl⟩:=List.mem_map.mp h
 obtain ⟨h1,h2⟩:=List.mem_filter.mp hi
 have h3:¬ i<b.ws.length:=fun h=>by rw [decide_eq_true h] at h2;cases h2
 have:=hl i h1
 rw [← tAt_at (show i - b.ws.length<b.ts.length by omega)]
 exact List.getElem_mem _
theorem sub_ok {b:Bench} (ok:b.Ok) {ws:List Weigh} {ts:List Trial} (hw:∀ w ∈ ws,w ∈ b.ws) (ht:∀ t ∈ ts,t ∈ b.ts) (h1:ws.length≤6) (h2:ts.length≤6):Bench.Ok ⟨b.ms,ws,b.ss,ts,b.days⟩ :=
 ⟨ok.m0,ok.m1,ok.mok,h1,fun w h=>ok.wok w (hw w h),ok.s0,ok.s1,ok.sok,ok.d1,h2,fun t h=>ok.tok t (ht t h)⟩
noncomputable def awl (n:Nat):CallF:=knows 9 (call Try.prog X n)
theorem only_few {b:Bench} (ok:b.Ok) {l:List Nat} (h:l.Pairwise (·<·)) (hx:∀ x ∈ l,x<resMany b):(onlyB b l).Ok:=by
 have hl:resMany (onlyB b l)=l.length:=only_many h
 refine sub_ok ok selW_in (selT_in hx) ?_ ?_
 ·have h1:(selW b l).length≤b.ws.length:=by
   obtain ⟨l1,l2,rfl,a1,a2⟩:=grow_split (m:=b.ws.length) h
   rw [selW_app,(selW_low a1).1,(selW_high a2).1,List.append_nil,List.length_map]
   have hs:∀ {l:List Nat} {a b:Nat},l.Pairwise (·<·)→(∀ x ∈ l,a≤x∧x<b)→l.length≤b - a:=fun {l}=>by
    induction l with
    | nil=>intros;simp
    | cons y l ih =>
     intro a b p q
     obtain ⟨p1,p2⟩:=List.pairwise_cons.mp p
     have:=q y (List.mem_cons_self ..)
     have:=ih (a:=y+1) (b:=b) p2 fun x hx=>⟨p1 x hx,(q x (List.mem_cons_of_mem _ hx)).2⟩
     simp
     omega
   exact hs (a:=0) (List.pairwise_append.mp h).1 fun x hx=>⟨Nat.zero_le _,a1 x hx⟩
  have:=ok.w1
  omega
 ·have h1:(selT b l).length≤b.ts.length:=by
   obtain ⟨l1,l2,rfl,a1,a2⟩:=grow_split (m:=b.ws.length) h
   rw [selT_app,(selW_low a1).2,(selW_high a2).2,List.nil_append,List.length_map]
   have hs:∀ {l:List Nat} {a b:Nat},l.Pairwise (·<·)→(∀ x ∈ l,a≤x∧x<b)→l.length≤b - a:=fun {l}=>by
    induction l with
    | nil=>intros;simp
    | cons y l ih =>
     intro a b p q
     obtain ⟨p1,p2⟩:=List.pairwise_cons.mp p
     have:=q y (List.mem_cons_self ..)
     have:=ih (a:=y+1) (b:=b) p2 fun x hx=>⟨p1 x hx,(q x (List.mem_cons_of_mem _ hx)).2⟩
     simp
     omega
   have:=hs (a:=b.ws.length) (b:=resMany b) (List.pairwise_append.mp h).2.1 fun x hx=>⟨a2 x hx,by have:=‹∀ x ∈ l1++l2,x<resMany b› x (List.mem_append_right _ hx);exact this⟩
   unfold resMany at this
   omega
  have:=ok.t1
  omega
theorem cla_round (N:Nat) (hN:20≤N) (cx:Ctx) {w t:St} {p3 z3 bl k kk:Nat} {b:Bench} {v1 v2 v3 v4 v6 v12:AV} {C:List (List Nat)} {d:List Nat} {L:Env} (ok:b.Ok) (hn:resMany b≤6) (hB:BenchAt w.h w.n b v1 v2 v3 v4) (g3:w.h.get p3=some (.cells [v1,v2,v3,v4,.int .i64 b.days] z3)) (hp:p3<w.n) (hC:AccI w.h w.n bl (fun _=>True) (toI C) v12) (hD:RowsAt w.h w.n 1 (intRows (d.map Int.ofNat)) v6) (hk:k<C.length) (hC64:C.length≤64) (hc:C[k].length≤6∧C[k].Pairwise (·<·)∧∀ x ∈ C[k],x<resMany b) (hd:bad b (tab0 b) d=true) (hok:C[k]=d∨bad b (tab0 b) C[k]=false) (same:∀ c,c<w.n→t.h.get c=w.h.get c) (jn:w.n≤t.n) (jle:t.n≤w.n+kk) (hs':w.n+kk+2000000≤far)
  (q3:L.find 3=.ptr p3 0) (q6:L.find 6=v6) (q12:L.find 12=v12) (q13:L.find 13=.int .i64 (k:Nat)) :
  ∃ L1 t1 e,K3l0 (awl N) cx L [] t=.done e L1 [] t1∧(∀ c,c<w.n→t1.h.get c=w.h.get c)∧w.n≤t1.n∧t1.n≤w.n+(kk+111000) ∧
   ((e=.norm∧C[k]≠d∧L1.find 13=.int .i64 (k+1:Nat)∧∀ c,c<13→c≠2→L1.find c=L.find c)∨(e=.ret∧C[k]=d∧L1.find 2=.bool true)):=by
 have hf:far=1000000000:=rfl
 have knO:∀ args s,awl N (.fn 11) args s=call Try.prog X N (.fn 11) args s:=fun _ _=>rfl
 have knF:∀ args s,awl N (.fn 8) args s=call Try.prog X N (.fn 8) args s:=fun _ _=>rfl
 have knS:∀ args s,awl N (.fn 12) args s=call Try.prog X N (.fn 12) args s:=fun _ _=>rfl
 have knA:∀ s,awl N (.fn 9) [] s=.val (.bool true) s:=fun _=>rfl
 have hCl:(toI C).length=C.length:=toI_len C
 have hCt:TabI t.h t.n bl (fun _=>True) (toI C) v12:=(hC.tab (by omega)).move (same bl (by obtain ⟨_,_,_,_,_,h3,_⟩:=hC.tab (by omega);exact h3)) (fun c hc _=>⟨same c hc,trivial⟩) jn
 have kC:=hCt.okA
 have lC:∀ s,lenSlA s v12=.val (.int .i64 (C.length:Int)) s:=fun s=>by rw [hCt.len s,hCl]
 have e0:decide ((k:Int)<(C.length:Int))=true:=decide_eq_true (by omega)
 have ad:∀ s,aAdd s .i64 (k:Int) 1=.val (.int .i64 ((k:Int)+1)) s:=fun s=>aAdd_i64 s _ _ (by omega)
 obtain ⟨vk,pk,ck,zk,S1,S2,S3,S4⟩:=hCt.get (j:=k) (by omega)
 have hck:(toI C)[k]'(by omega)=C[k].map Int.ofNat:=by unfold toI;rw [List.getElem_map]
 rw [hck] at S1
 have kk':=S1.okA
 have hBt:=hB.grow same jn
 have t3:=(same p3 hp).trans g3
 have hDt:=hD.grow same jn
 have kD:∀ t,okA (.val v6 t)=.val v6 t:=fun t=>okA_ne hDt.ne
 generalize C[k]=c at *
 simp (disch:=first|omega|(with_unfolding_all exact rfl)|(simp only[new_n,put_n,new_m];omega)|(refine put_m_le ?_;simp only[new_m];omega)) only [K3l0,K3r13,K3r14,Abs.W,reduceIte,Nat.reduceEqDiff,Nat.reduceAdd,decide_true,decide_false,kLoop_def,Nat.reduceSub,List.cons_append,List.nil_append,List.append_nil,List.length_cons,List.length_nil,efs,q3,q6,q12,q13,kC,lC,e0,t3,S2,S3,S4,kk',knO,Nat.zero_add]
 generalize hc1:call _ _ _ (.fn 11) _ _=rc1
 obtain ⟨w1,w3,t4,rfl,s4,hw1,hw3⟩:=only_ex (b:=b) (l:=c) hc1 (by omega) ok hBt S1.at_ (by omega) hc.2.2 (by omega)
 have n4:=s4.n
 have l4:=s4.le
 have hB4:=hBt.grow s4.same n4
 have hO:BenchAt t4.h t4.n (onlyB b c) v1 w1 v3 w3:=⟨hB4.m,hw1.at_,hB4.s,hw3.at_⟩
 have okO:=only_few ok hc.2.1 hc.2.2
 have scC:scalars [v1,w1,v3,w3,.int .i64 (b.days:Int)]=true:=by have:=scB_of hO t4;exact this
 have kag:∀ s,okA (.val (.agg [v1,w1,v3,w3,.int .i64 (b.days:Int)]) s)=.val (.agg [v1,w1,v3,w3,.int .i64 (b.days:Int)]) s:=fun _=>rfl
 simp (disch:=first|omega|(with_unfolding_all exact rfl)|(simp only[new_n,put_n,new_m];omega)|(refine put_m_le ?_;simp only[new_m];omega)) only [Abs.W,reduceIte,Nat.reduceEqDiff,Nat.reduceAdd,decide_true,decide_false,kLoop_def,Nat.reduceSub,List.cons_append,List.nil_append,List.append_nil,List.length_cons,List.length_nil,efs,kag,knF]
 generalize hc2:call _ _ _ (.fn 8) _ _=rc2
 obtain ⟨vo,eo,t5,rfl,s5,hres⟩:=Offs_ex (b:=onlyB b c) hc2 (by omega) okO hO (by omega)
 have n5:=s5.n
 have l5:=s5.le
 have hkn:=only_kn (b:=b) hc.2.1
 have t5w:∀ x,x<t.n→t5.h.get x=t.h.get x:=fun x hx=>(s5.same x (by omega)).trans (s4.same x hx)
 have S5:=S1.grow t5w (by omega:t.n≤t5.n)
 have hD5:=hDt.grow t5w (by omega:t.n≤t5.n)
 have hCt5:TabI t5.h t5.n bl (fun _=>True) (toI C) v12:=hCt.move (t5w bl (by obtain ⟨_,_,_,_,_,h3,_⟩:=hCt;exact h3)) (fun x hx _=>⟨t5w x hx,trivial⟩) (by omega)
 have so:=same_ok N (by omega) (c.map Int.ofNat) (d.map Int.ofNat) vk v6 t5 S5.at_ hD5 (by rw [List.length_map];omega) (by omega)
 have hmap:decide (c.map Int.ofNat=d.map Int.ofNat)=decide (c=d):=by
  rw [decide_eq_decide]
  exact ⟨fun h=>(List.map_inj_right (fun _ _ h=>Int.ofNat.inj h)).mp h,fun h=>by rw [h]⟩
 rw [hmap] at so
 have S3':=(t5w bl (by obtain ⟨_,_,_,_,_,h3,_⟩:=hCt;exact h3)).trans S3
 have kD5:∀ s,okA (.val v6 s)=.val v6 s:=kD
 have st:∀ x,x<w.n→t5.h.get x=w.h.get x:=fun x hx=>(t5w x (by omega)).trans (same x hx)
 have u16:=eq3 K3r16s4.eq_1
 by_cases he:c=d
 ·have hd':knL b (tab0 b) c=none:=by rw [he];exact Option.isNone_iff_eq_none.mp hd
  rcases hres with ⟨_,rfl,rfl⟩ | ⟨_,T,hT,_⟩
  ·have e1:decide (c=d)=true:=decide_eq_true he
   rw [e1] at so
   have z9:decide ((9:Int)=9)=true:=rfl
   have kn:∀ s,okA (.val (.tup [.nilslice,.int .i64 9]) s)=.val (.tup [.nilslice,.int .i64 9]) s:=fun _=>rfl
   refine ⟨_,t5,.ret,by
    simp (disch:=first|omega|(with_unfolding_all exact rfl)|(simp only[new_n,put_n,new_m];omega)|(refine put_m_le ?_;simp only[new_m];omega)) only [K3r15,K3r16,u16,Abs.W,reduceIte,Nat.reduceEqDiff,Nat.reduceAdd,decide_true,decide_false,kLoop_def,Nat.reduceSub,List.cons_append,List.nil_append,List.append_nil,List.length_cons,List.length_nil,efs,ext0,ext1,okA_tup,kn,q6,q12,q13,kC,S2,S3',S4,kk',kD5,knS,so,z9,knA,endO_nil,regD_ok]
    rfl,st,by omega,by rw [← Nat.add_assoc];omega,.inr ⟨rfl,he,by simp only [efs,reduceIte,Nat.reduceEqDiff]⟩⟩
  ·rw [hkn,hd'] at hT;cases hT
 ·have hnb:bad b (tab0 b) c=false:=hok.resolve_left he
  have e1:decide (c=d)=false:=decide_eq_false he
  rw [e1] at so
  rcases hres with ⟨hT,_,_⟩ | ⟨rfl,T,hT,hR⟩
  ·rw [hkn] at hT
   unfold bad at hnb
   rw [hT] at hnb
   cases hnb
  ·have z9:decide ((0:Int)=0)=true:=rfl
   refine ⟨_,t5,.norm,by
    simp (disch:=first|omega|(with_unfolding_all exact rfl)|(simp only[new_n,put_n,new_m];omega)|(refine put_m_le ?_;simp only[new_m];omega)) only [K3r15,K3r17,K3r19,Abs.W,reduceIte,Nat.reduceEqDiff,Nat.reduceAdd,decide_true,decide_false,kLoop_def,Nat.reduceSub,List.cons_append,List.nil_append,List.append_nil,List.length_cons,List.length_nil,efs,ext0,ext1,okA_tup,q6,q12,q13,kC,S2,S3',S4,kk',kD5,knS,so,z9,ad,endO_nil,regD_ok]
    rfl,st,by omega,by rw [← Nat.add_assoc];omega,.inl ⟨rfl,he,?_,fun x hx h2=>?_⟩⟩
   ·simp only [efs,reduceIte,Nat.reduceEqDiff];rfl
   ·simp only [efs]
    repeat rw [if_neg (by omega)]
end Go.Proofs.Ytoolodjbfphkjaa.walk
