/- The law VaultEnds, behind its die. -/
import Derived.Test.YtoklbkgcclkejaaM6
import Derived.Test.YtoklbkgcclkejaaCodes
import Derived.Test.YtoklbkgcclkejaaProg
import Derived.Tactics
import Derived.Tactics2
import Derived.WalkKit
import Derived.OpenShut
import Derived.Below
import Derived.Lib.Hide
import Derived.KernelRfl
import Derived.Deep.RegionHeld3
import Derived.OwnWalk
import Derived.StillTailTactics
import Derived.Test.YtoklbkgcclkejaaAbsTop
import Derived.Test.YtoklbkgcclkejaaAbsWalk
import Derived.Test.YtoklbkgcclkejaaAwake
import Derived.Test.YtoklbkgcclkejaaWalkAll
set_option linter.unusedSimpArgs false
set_option linter.unusedVariables false
set_option maxHeartbeats 16000000
set_option linter.unusedVariables false
set_option maxRecDepth 10000
namespace Go.Proofs.Ytoklbkgcclkejaa.walk
open Go.Abs Go.Proofs.Ytoklbkgcclkejaa.code
def HallR.lowL (H:HallR) (l:List PutR):List Int:=l.map fun p=>(H.kind p.kind).lo
def HallR.highL (H:HallR) (l:List PutR):List Int:=l.map fun p=>(H.kind p.kind).hi
structure EndJ (w t:St) (H:HallR) (l:List PutR) (i:Nat) (v1 v2:AV) (b1 b2:Nat):Prop where
 i1:IsAt t.h t.n b1 1 (tag 3) (intRows (H.lowL (l.take i))) v1
 i2:IsAt t.h t.n b2 1 (tag 3) (intRows (H.highL (l.take i))) v2
 lo:w.n≤b1∧w.n≤b2∧b1≠b2∧(b1<t.n∨far<b1)∧(b2<t.n∨far<b2)
 same:∀ c,c<w.n→t.h.get c=w.h.get c
 n:w.n≤t.n
 le:t.n≤w.n+4 * i
 m:t.m≤far
end Go.Proofs.Ytoklbkgcclkejaa.walk
set_option maxRecDepth 10000
namespace Go.Proofs.Ytoklbkgcclkejaa.walk
open Go.Abs Go.Proofs.Ytoklbkgcclkejaa.code
theorem earns_ok (N:Nat) (hN:10≤N) {no:Nat→Prop} {H:HallR} {vW vS vB vK:AV} {l:List PutR} {v:AV} {s:St} (ok:H.Ok) (hH:HallAt no s.h s.n H vW vS vB vK) (hR:Sl no s.h s.n 3 (l.map PutR.row) v) (hl:∀ q ∈ l,q.In H) (hl1:l.length≤24) (hv:H.Valid l) (hs:s.n+60000≤far) :
  call Try.prog X N (.fn 23) [.agg (hallV H vW vS vB vK),v] s=.val (.tup [.int .i64 (tot (H.rents l) 0),.int .i64 0]) s:=by
 obtain ⟨n,rfl⟩:∃ n,N=n+1:=⟨N - 1,by omega⟩
 have hf:far=1000000000:=rfl
 refine call_plain' Try.func23 (fun u uh un um=>?_) rfl
 rw [← uh,← un] at hH hR
 have kv:=hR.okA
 have lv:=slPuts hR
 obtain ⟨w,hw⟩:∃ w:St,w=u.new (.cells (hallV H vW vS vB vK) (tag 30)):=⟨_,rfl⟩
 have wn:w.n=u.n+1:=by rw [hw];rfl
 have wm:w.m=far:=by rw [hw];exact um
 have wg:∀ c,c<u.n→w.h.get c=u.h.get c:=fun c hc=>by rw [hw,get_new_ne _ _ _ (by omega)]
 have w0:w.h.get u.n=some (.cells (hallV H vW vS vB vK) (tag 30)):=by rw [hw];exact get_new_eq _ _ _ rfl (by omega)
 have hHw:HallAt no w.h w.n H vW vS vB vK:=hH.grow wg (by omega)
 have hRw:=hR.grow wg (by omega:u.n≤w.n)
 obtain ⟨e0,ec,hz⟩:=checkLayout_ex (N:=n) rfl (by omega) ok hHw hRw hl hl1 (by omega)
 rw [hz.mpr hv] at ec
 have z0:decide ((0:Int)=0)=true:=rfl
 rw [enter23]
 simp (disch:=first|omega|(with_unfolding_all exact rfl)|(simp only[new_n,put_n,new_m];omega)|(refine put_m_le ?_;simp only[new_m];omega)) only [K23,K23r0,Abs.W,reduceIte,Nat.reduceEqDiff,Nat.reduceAdd,decide_true,decide_false,kLoop_def,Nat.reduceSub,List.cons_append,List.nil_append,List.append_nil,List.length_cons,List.length_nil,Env.find_set]
 rw [← hw]
 simp (disch:=first|omega|(with_unfolding_all exact rfl)|(simp only[new_n,put_n,new_m];omega)|(refine put_m_le ?_;simp only[new_m];omega)) only [K23r1,K23r2,K23r4,K23r5,Abs.W,reduceIte,Nat.reduceEqDiff,Nat.reduceAdd,decide_true,decide_false,kLoop_def,Nat.reduceSub,List.cons_append,List.nil_append,List.append_nil,List.length_cons,List.length_nil,Env.find_set,find_cons,w0,kv,lv,ec,z0,Nat.zero_add]
 generalize hlp:loopN _ rounds _ _ _ _ _=rl1
 obtain ⟨eE,L1,t3,rfl,rfl,q7,sg,sn,sm⟩:=loop_of hlp (fun i L t=>(∀ c,c<w.n→t.h.get c=w.h.get c)∧w.n≤t.n∧t.n≤w.n+i∧w.n≤t.m∧L.find 2=.ptr u.n 0∧L.find 7=.int .i64 (tot (H.rents (l.take i)) 0)∧L.find 16=v∧L.find 17=.int .i64 (l.length:Int)∧L.find 18=.int .i64 (i:Int))
  (fun e L t=>e=.exit 0∧L.find 7=.int .i64 (tot (H.rents l) 0)∧(∀ c,c<w.n→t.h.get c=w.h.get c)∧w.n≤t.n∧w.n≤t.m) l.length (by unfold rounds;omega)
  ⟨fun _ _=>rfl,Nat.le_refl _,by omega,by omega,(by simp only [find_cons,Env.find_set,reduceIte,Nat.reduceEqDiff]),(by simp only [find_cons,Env.find_set,reduceIte,Nat.reduceEqDiff];rfl),(by simp only [find_cons,Env.find_set,reduceIte,Nat.reduceEqDiff]),(by simp only [find_cons,Env.find_set,reduceIte,Nat.reduceEqDiff]),(by simp only [find_cons,Env.find_set,reduceIte,Nat.reduceEqDiff];rfl)⟩
  (fun i L t hi ⟨tg,tn,tl,tm,q2,q7,q16,q17,q18⟩=>by
   by_cases hlt:i<l.length
   ·have e0:decide ((i:Int)<(l.length:Int))=true:=decide_eq_true (by omega)
    have ad:∀ s,aAdd s .i64 (i:Int) 1=.val (.int .i64 ((i:Int)+1)) s:=fun s=>aAdd_i64 s _ _ (by omega)
    have tu:∀ c,c<u.n→t.h.get c=u.h.get c:=fun c hc=>(tg c (by omega)).trans (wg c hc)
    have hRt:=hR.grow (h':=t.h) (n':=t.n) tu (by omega)
    have hKt:KindsAt no t.h t.n H.kinds vK:=hH.k.move (fun c h1 h2=>⟨tu c h1,h2⟩) (by omega)
    have hsn:=rents_snoc H hlt
    have hbd:=rents_bound ok (l:=l.take i) (fun p hp=>hl p (List.mem_of_mem_take hp)) (by rw [List.length_take];omega)
    have hIn:=hl _ (List.getElem_mem hlt)
    obtain ⟨b,bp,c,szz,⟨r1,_⟩,r2,r3,r4⟩:=slPut hRt hlt
    generalize l[i]=P at *
    have hkP:=kindOk ok hIn.k
    obtain ⟨aw,kb,ko,kc,ksz,⟨kb1,_⟩,kb2,kb3,_,_,_,_,kcut⟩:=hKt.cells hIn.k
    have kK:=hKt.okA
    have kc4:nth kc (ko+4)=.int .i64 (H.kind P.kind).rent:=(cut_nth kcut (by omega)).trans rfl
    have hr0:=hkP.r0
    have hr1:=hkP.r1
    have ad2:∀ s,aAdd s .i64 (tot (H.rents (l.take i)) 0) (H.kind P.kind).rent=.val (.int .i64 (tot (H.rents (l.take i)) 0+(H.kind P.kind).rent)) s:=fun s=>aAdd_i64 s _ _ (by omega)
    have t0:=(tg u.n (by omega)).trans w0
    have okR:∀ t,okA (.val (.agg P.row) t)=.val (.agg P.row) t:=fun _=>rfl
    have okR':∀ (a b c:Int) t,okA (.val (.agg [.int .i64 a,.int .i64 b,.int .i64 c]) t)=.val (.agg [.int .i64 a,.int .i64 b,.int .i64 c]) t:=fun _ _ _ _=>rfl
    obtain ⟨z,hz⟩:∃ z:St,z=(t.new (.cells [.int .i64 0,.int .i64 0,.int .i64 0] (tag 51))).put t.n (.cells P.row (tag 51)):=⟨_,rfl⟩
    have stz:storeA 3 (t.new (.cells [.int .i64 0,.int .i64 0,.int .i64 0] (tag 51))) (.agg P.row) (.ptr t.n 0)=.val .undef z:=by
     rw [hz];exact store_all _ 3 _ _ _ _ (get_new_eq _ _ _ rfl (by omega)) rfl rfl rfl
    have zn:z.n=t.n+1:=by rw [hz];rfl
    have zm:z.m=min t.m t.n:=by rw [hz];simp only [St.put,minN_eq,new_m]
    have zg:∀ c,c<t.n→z.h.get c=t.h.get c:=fun c hc=>by rw [hz,get_put_ne' _ _ _ _ (by omega),get_new_ne _ _ _ (by omega)]
    have z9:z.h.get t.n=some (.cells P.row (tag 51)):=by rw [hz];exact get_put_eq _ _ _ _ rfl (by omega)
    have zu:=(zg u.n (by omega)).trans t0
    have zk:=(zg kb (by omega)).trans kb3
    have n2:nth P.row 2=.int .i64 (P.kind:Int):=rfl
    clear hz
    refine .inl ⟨hlt,?_⟩
    simp (disch:=first|omega|(with_unfolding_all exact rfl)|(simp only[new_n,put_n,new_m];omega)|(refine put_m_le ?_;simp only[new_m];omega)) only [K23l0,K23r6,K23r7,K23r8,K23r9,Abs.W,reduceIte,Nat.reduceEqDiff,Nat.reduceAdd,decide_true,decide_false,kLoop_def,Nat.reduceSub,List.cons_append,List.nil_append,List.append_nil,List.length_cons,List.length_nil,Env.find_set,find_cons,Nat.zero_add,q2,q7,q16,q17,q18,kv,e0,r2,r3,r4,okR,stz,zu,kK,z9,n2,kb2,zk,kc4,ad2,ad]
    refine ⟨_,_,rfl,fun c hc=>(zg c (by omega)).trans (tg c hc),by omega,by omega,by omega,?_,?_,?_,?_,?_⟩
    ·simp only [Env.find_set,q2,reduceIte,Nat.reduceEqDiff]
    ·rw [hsn];simp only [Env.find_set,reduceIte,Nat.reduceEqDiff]
    ·simp only [Env.find_set,q16,reduceIte,Nat.reduceEqDiff]
    ·simp only [Env.find_set,q17,reduceIte,Nat.reduceEqDiff]
    ·simp only [Env.find_set,reduceIte,Nat.reduceEqDiff];rfl
   ·obtain rfl:i=l.length:=by omega
    have e0:decide ((l.length:Int)<(l.length:Int))=false:=by simp
    rw [List.take_length] at q7
    refine .inr ⟨.exit 0,L.set 19 (.bool false),t,by simp,?_,rfl,?_,tg,tn,tm⟩
    ·simp (disch:=first|omega|(with_unfolding_all exact rfl)|(simp only[new_n,put_n,new_m];omega)|(refine put_m_le ?_;simp only[new_m];omega)) only [K23l0,K23r6,Abs.W,reduceIte,Nat.reduceEqDiff,Nat.reduceAdd,decide_true,decide_false,kLoop_def,Nat.reduceSub,List.cons_append,List.nil_append,List.append_nil,List.length_cons,List.length_nil,Env.find_set,q17,q18,e0]
    ·simp only [Env.find_set,q7,reduceIte,Nat.reduceEqDiff])
 simp (disch:=first|omega|(with_unfolding_all exact rfl)|(simp only[new_n,put_n,new_m];omega)|(refine put_m_le ?_;simp only[new_m];omega)) only [K23r10,Abs.W,reduceIte,Nat.reduceEqDiff,Nat.reduceAdd,decide_true,decide_false,kLoop_def,Nat.reduceSub,List.cons_append,List.nil_append,List.append_nil,List.length_cons,List.length_nil,Env.find_set,find_cons,q7,res23,leave_two]
 exact ⟨_,rfl,by omega⟩
theorem sameSpans_ok (N:Nat) (hN:1≤N) {H:HallR} {l:List PutR} {a b:Nat} {s:St} (ok:H.Ok) (ha:s.h.get a=some (.cells (H.loadRows l).flatten 0)) (hb:s.h.get b=some (.cells (H.loadRows l).flatten 0)) (hab:a<s.n∧b<s.n) (hs:s.n+100≤far) :
  call Try.prog X N (.fn 24) [.slice a 0 H.bays H.bays false,.slice b 0 H.bays H.bays false] s=.val (.bool true) s:=by
 obtain ⟨n,rfl⟩:∃ n,N=n+1:=⟨N - 1,by omega⟩
 have hf:far=1000000000:=rfl
 refine call_plain' Try.func24 (fun u uh un um=>?_) rfl
 rw [← uh] at ha hb
 have okM:∀ b t,okA (.val (.slice b 0 H.bays H.bays false) t)=.val (.slice b 0 H.bays H.bays false) t:=fun _ _=>rfl
 have lX:∀ b s,lenSlA s (.slice b 0 H.bays H.bays false)=.val (.int .i64 (H.bays:Int)) s:=fun _ _=>rfl
 have d5:decide ((H.bays:Int)=(H.bays:Int))=true:=decide_eq_true rfl
 have hb24:=bays_le ok.toSize
 have g3:=fun cl L s=>congrFun (congrFun (congrFun K24r3s3.eq_1 cl) L) s
 have g4:=fun cl L s=>congrFun (congrFun (congrFun K24r3s4.eq_1 cl) L) s
 have g5:=fun cl L s=>congrFun (congrFun (congrFun K24r3s5.eq_1 cl) L) s
 have g6:=fun cl L s=>congrFun (congrFun (congrFun K24r3s6.eq_1 cl) L) s
 rw [enter24]
 simp (disch:=first|omega|(with_unfolding_all exact rfl)|(simp only[new_n,put_n,new_m];omega)|(refine put_m_le ?_;simp only[new_m];omega)) only [K24,K24r0,K24r1,K24r2,Abs.W,reduceIte,Nat.reduceEqDiff,Nat.reduceAdd,decide_true,decide_false,kLoop_def,Nat.reduceSub,List.cons_append,List.nil_append,List.append_nil,List.length_cons,List.length_nil,Env.find_set,find_cons,okM,lX,d5]
 generalize hlp:loopN _ rounds _ _ _ _ _=rl1
 obtain ⟨eE,L1,t3,rfl,rfl,rfl,q5⟩:=loop_of hlp (fun i L t=>t=u∧L.find 0=.slice a 0 H.bays H.bays false∧L.find 1=.slice b 0 H.bays H.bays false∧L.find 5=.bool true∧L.find 6=.int .i64 (i:Int))
  (fun e L t=>e=.exit 0∧t=u∧L.find 5=.bool true) H.bays (by unfold rounds;omega)
  ⟨rfl,(by simp only [find_cons,Env.find_set,reduceIte,Nat.reduceEqDiff]),(by simp only [find_cons,Env.find_set,reduceIte,Nat.reduceEqDiff]),(by simp only [find_cons,Env.find_set,reduceIte,Nat.reduceEqDiff]),(by simp only [find_cons,Env.find_set,reduceIte,Nat.reduceEqDiff];rfl)⟩
  (fun i L t hi ⟨tu,q0,q1,q5,q6⟩=>by
   subst tu
   by_cases hlt:i<H.bays
   ·have e0:decide ((i:Int)<(H.bays:Int))=true:=decide_eq_true (by omega)
    have ad:∀ s,aAdd s .i64 (i:Int) 1=.val (.int .i64 ((i:Int)+1)) s:=fun s=>aAdd_i64 s _ _ (by omega)
    have hix:∀ b s,ixsA 2 s (.slice b 0 H.bays H.bays false) (.int .i64 (i:Int))=.val (.ptr b (i * 2)) s:=fun b s=>by rw [ixs_slice _ _ _ _ _ _ _ _ hlt,Nat.zero_add]
    have hcut:cut (i * 2) 2 (H.loadRows l).flatten=some [.int .i64 (tot (H.lows l) i),.int .i64 (tot (H.highs l) i)]:=by
     rw [flatten_cut (loadRows_wide H _) (by rw [loadRows_len];exact hlt),loadRows_at H _ hlt];rfl
    have eq':eqlA (.row [(0,none,.int),(1,none,.int)]) false t (.agg [.int .i64 (tot (H.lows l) i),.int .i64 (tot (H.highs l) i)]) (.agg [.int .i64 (tot (H.lows l) i),.int .i64 (tot (H.highs l) i)])=.val (.bool true) t:=by
     have:=eql_cell (tot (H.lows l) i,tot (H.highs l) i) (tot (H.lows l) i,tot (H.highs l) i) t
     rw [decide_eq_true rfl] at this
     exact this
    refine .inl ⟨hlt,?_⟩
    simp (disch:=first|omega|(with_unfolding_all exact rfl)|(simp only[new_n,put_n,new_m];omega)|(refine put_m_le ?_;simp only[new_m];omega)) only [K24l0,K24r3,g3,g4,g5,g6,K24r4,K24r5,Abs.W,reduceIte,Nat.reduceEqDiff,Nat.reduceAdd,decide_true,decide_false,kLoop_def,Nat.reduceSub,List.cons_append,List.nil_append,List.append_nil,List.length_cons,List.length_nil,Env.find_set,find_cons,Nat.zero_add,q0,q1,q5,q6,okM,lX,e0,hix,ha,hb,hcut,kEqlE,eq',ad]
    refine ⟨_,_,rfl,rfl,?_,?_,?_,?_⟩
    ·simp only [Env.find_set,q0,reduceIte,Nat.reduceEqDiff]
    ·simp only [Env.find_set,q1,reduceIte,Nat.reduceEqDiff]
    ·simp only [Env.find_set,reduceIte,Nat.reduceEqDiff]
    ·simp only [Env.find_set,reduceIte,Nat.reduceEqDiff];rfl
   ·obtain rfl:i=H.bays:=by omega
    have e0:decide ((H.bays:Int)<(H.bays:Int))=false:=by simp
    refine .inr ⟨.exit 0,L.set 18 (.bool false),t,by simp,?_,rfl,rfl,?_⟩
    ·simp (disch:=first|omega|(with_unfolding_all exact rfl)|(simp only[new_n,put_n,new_m];omega)|(refine put_m_le ?_;simp only[new_m];omega)) only [K24l0,K24r3,g3,g4,g5,g6,Abs.W,reduceIte,Nat.reduceEqDiff,Nat.reduceAdd,decide_true,decide_false,kLoop_def,Nat.reduceSub,List.cons_append,List.nil_append,List.append_nil,List.length_cons,List.length_nil,Env.find_set,find_cons,q0,q1,q5,q6,okM,lX,e0]
    ·simp only [Env.find_set,q5,reduceIte,Nat.reduceEqDiff])
 simp (disch:=first|omega|(with_unfolding_all exact rfl)|(simp only[new_n,put_n,new_m];omega)|(refine put_m_le ?_;simp only[new_m];omega)) only [K24r6,Abs.W,reduceIte,Nat.reduceEqDiff,Nat.reduceAdd,decide_true,decide_false,kLoop_def,Nat.reduceSub,List.cons_append,List.nil_append,List.append_nil,List.length_cons,List.length_nil,Env.find_set,find_cons,q5,res24]
 exact ⟨_,rfl,by omega⟩
end Go.Proofs.Ytoklbkgcclkejaa.walk
set_option maxRecDepth 10000
namespace Go.Proofs.Ytoklbkgcclkejaa.walk
open Go.Abs Go.Proofs.Ytoklbkgcclkejaa.code
theorem ordered_snoc {l:List PutR} {f:List Nat} {i:Nat} (hi:i<f.length) (h:f.getD i 0<l.length):ordered l (f.take (i+1))=ordered l (f.take i)++[l[f.getD i 0]]:=by
 unfold ordered
 rw [take_snoc hi,List.map_append]
 have e:f.getD i 0=f[i]:=by rw [List.getD_eq_getElem?_getD,List.getElem?_eq_getElem hi];rfl
 simp only [e] at h ⊢
 simp [List.getD_eq_getElem?_getD,h]
structure FewJ (u t:St) (d kk:Nat) (o ls:List PutR) (v1 v2:AV) (b1 b2:Nat):Prop where
 st:Stir d u t kk
 die:Die d t.h
 i1:IsAt t.h t.n b1 3 (tag 51) (o.map PutR.row) v1
 i2:IsAt t.h t.n b2 3 (tag 51) (ls.map PutR.row) v2
 sub:List.Sublist ls o
 lo:u.n≤b1∧u.n≤b2∧b1≠b2∧(b1<t.n∨far<b1)∧(b2<t.n∨far<b2)
theorem few_round (n:Nat) (hn:20≤n) (cx:Ctx) {u t:St} {d op b1 b2 kk i:Nat} {f:List Nat} {v vo v1 v2:AV} {l ls:List PutR} {L:Env} (J:FewJ u t d kk (ordered l (f.take i)) ls v1 v2 b1 b2) (hR:Sl (fun c=>c≠d) u.h u.n 3 (l.map PutR.row) v) (hl24:l.length≤24) (hO:Blk u.h u.n op 1 (tag 3) (natRows f) vo) (hop:op≠d∧op<u.n) (hfl:f.length=l.length) (hperm:Perm l.length f) (hdn:d<u.n) (hi:i<l.length) (hs:u.n+kk+10000≤far) (hum:u.m≤far) (hdm:d≤u.m)
  (q3:L.find 3=.ptr d 0) (q5:L.find 5=v) (q6:L.find 6=vo) (q7:L.find 7=v1) (q8:L.find 8=v2) (q9:L.find 9=.int .i64 (i:Int)) :
  ∃ L1 t1 ls' w1 w2 c1 c2,K5l0 (awd n) cx L [] t=.done .norm L1 [] t1∧FewJ u t1 d (kk+10) (ordered l (f.take (i+1))) ls' w1 w2 c1 c2∧L1.find 3=.ptr d 0∧L1.find 4=L.find 4∧L1.find 5=v∧L1.find 6=vo∧L1.find 7=w1∧L1.find 8=w2∧L1.find 9=.int .i64 ((i+1:Nat):Int):=by
 have hf:far=1000000000:=rfl
 have knO:∀ args s,awd n (.fn 22) args s=call Try.prog X n (.fn 22) args s:=fun _ _=>rfl
 obtain ⟨jst,jdie,j1,j2,jsub,jlo⟩:=J
 have jn:=jst.n
 have jle:=jst.le
 have jm:=jst.m hdm
 have jml:=jst.mle
 have tg:∀ c,c<u.n→c≠d→t.h.get c=u.h.get c:=jst.same
 have e0:decide ((i:Int)<(l.length:Int))=true:=decide_eq_true (by omega)
 have ad:∀ s,aAdd s .i64 (i:Int) 1=.val (.int .i64 ((i:Int)+1)) s:=fun s=>aAdd_i64 s _ _ (by omega)
 have kv:=hR.okA
 have k1:=j1.okA
 have k2:=j2.okA
 have kvo:∀ t,okA (.val vo t)=.val vo t:=fun t=>okA_ne hO.at_.ne
 have lvo:=hO.at_.len
 rw [natRows_len,hfl] at lvo
 have hkk:f.getD i 0<l.length:=hperm.lt i hi
 have hsn:=ordered_snoc (l:=l) (f:=f) (i:=i) (by omega) hkk
 have hol:(ordered l (f.take i)).length=i:=by rw [ordered_len,List.length_take];omega
 have hsl:ls.length≤i:=by have:=jsub.length_le;omega
 obtain ⟨k,hk⟩:∃ k,k=f.getD i 0:=⟨_,rfl⟩
 have hOt:=hO.mono (h':=t.h) (n':=t.n) (tg op hop.2 hop.1) jn
 obtain ⟨ob,oo,oc,osz,o1,o2,o3,o4⟩:=hOt.at_.at_ i (by rw [natRows_len];omega)
 rw [natRows_at (by omega),← hk] at o4
 have o5:=cut1_nth o4
 have hob:ob=op:=by
  obtain ⟨e,sz',z1,_⟩:=hOt.is
  have:=o2 t
  rw [z1,ixs_slice _ _ _ _ _ _ _ _ (by rw [natRows_len];omega)] at this
  injection this with this
  injection this with this
  exact this.symm
 have hkp:k<l.length:=by omega
 have hRt:Sl (fun c=>c≠d∧c<u.n) t.h t.n 3 (l.map PutR.row) v:=hR.move (fun c h1 h2=>⟨tg c h1 h2,h2,h1⟩) jn
 obtain ⟨ab,ao,ac,asz,⟨a1,a1',a1''⟩,a2,a3,a4⟩:=slPut hRt hkp
 simp only [← hk] at hsn
 generalize l[k]=P at *
 generalize ordered l (f.take i)=o at *
 rw [hsn]
 -- the first
 obtain ⟨y,hy⟩:∃ y:St,y=t.new (.cells P.row 0):=⟨_,rfl⟩
 have yn:y.n=t.n+1:=by rw [hy];rfl
 have ym:y.m=t.m:=by rw [hy];rfl
 have yg:∀ c,c<t.n→y.h.get c=t.h.get c:=fun c hc=>by rw [hy,get_new_ne _ _ _ (by omega)]
 have yp:y.h.get t.n=some (.cells P.row 0):=by rw [hy];exact get_new_eq _ _ _ rfl (by omega)
 obtain ⟨s7,e7,l7,s7n,s7g,s7m,s7l⟩:=append_at (bytes:=24) (j1.mono (h':=y.h) (n':=y.n) (fun h=>yg b1 h) (by omega)) yp rfl rfl (by rw [List.length_map];omega) (by kernel_rfl) (by omega)
 rw [List.length_map] at e7 l7
 obtain ⟨v7,hv7⟩:∃ v7,v7=AV.slice y.n 0 (o.length+1) (o.length+1) true:=⟨_,rfl⟩
 rw [← hv7] at e7 l7
 rw [show o.map PutR.row++[P.row]=(o++[P]).map PutR.row from by rw [List.map_append];rfl] at l7
 have okv7:∀ t,okA (.val v7 t)=.val v7 t:=fun t=>by rw [hv7];rfl
 have g7:∀ c,c<t.n→c≠b1→s7.h.get c=t.h.get c:=fun c hc hcb=>(s7g c (by omega) hcb).trans (yg c hc)
 have m7:d≤s7.m:=s7m d (by omega) (by omega) (by omega)
 rw [hy] at e7
 have okP:∀ t,okA (.val (.agg P.row) t)=.val (.agg P.row) t:=fun _=>rfl
 have e7':appendA false 3 24 (tag 51) (t.new (.cells [.int .i64 P.x,.int .i64 P.y,.int .i64 (P.kind:Int)] 0)) v1 (.slice t.n 0 1 1 false)=.val v7 s7:=e7
 simp (disch:=first|omega|(with_unfolding_all exact rfl)|(simp only[new_n,put_n,new_m];omega)|(refine put_m_le ?_;simp only[new_m];omega)) only [K5l0,K5r7,K5r8,Abs.W,reduceIte,Nat.reduceEqDiff,Nat.reduceAdd,decide_true,decide_false,kLoop_def,Nat.reduceSub,List.cons_append,List.nil_append,List.append_nil,List.length_cons,List.length_nil,Env.find_set,find_cons,Nat.zero_add,q5,q6,q7,q9,kv,kvo,k1,lvo,e0,o2,o3,o5,a2,a3,a4,okP,e7',okv7]
 -- the die
 have d7:Die d s7.h:=jdie.keep (g7 d (by omega) (by omega))
 have S7:Stir d u s7 (kk+2):=⟨fun c hc hcd=>(g7 c (by omega) (by omega)).trans (tg c hc hcd),by omega,by omega,fun _=>m7,by omega⟩
 simp (disch:=first|omega|(with_unfolding_all exact rfl)|(simp only[new_n,put_n,new_m];omega)|(refine put_m_le ?_;simp only[new_m];omega)) only [K5r9,Abs.W,reduceIte,Nat.reduceEqDiff,Nat.reduceAdd,decide_true,decide_false,kLoop_def,Nat.reduceSub,List.cons_append,List.nil_append,List.append_nil,List.length_cons,List.length_nil,Env.find_set,find_cons,q3,knO]
 generalize hc1:call _ _ _ (.fn 22) _ _=r1
 obtain ⟨bb,t2,rfl,st2,d2⟩:=once_ex hc1 (by omega) d7 (by omega) (by omega) (by omega)
 have n2:=st2.n
 have k2':=st2.le
 have m2:=st2.m m7
 have m2l:=st2.mle
 have S2:Stir d u t2 (kk+2):=(S7.trans st2).mono (by omega)
 have i12:IsAt t2.h t2.n y.n 3 (tag 51) ((o++[P]).map PutR.row) v7:=l7.mono (fun h=>st2.same _ h (by omega)) n2
 have i22:IsAt t2.h t2.n b2 3 (tag 51) (ls.map PutR.row) v2:=j2.mono (fun h=>(st2.same b2 (by omega) (by omega)).trans (g7 b2 h (by omega))) (by omega)
 cases bb with
 | false =>
  simp (disch:=first|omega|(with_unfolding_all exact rfl)|(simp only[new_n,put_n,new_m];omega)|(refine put_m_le ?_;simp only[new_m];omega)) only [K5r11,Abs.W,reduceIte,Nat.reduceEqDiff,Nat.reduceAdd,decide_true,decide_false,kLoop_def,Nat.reduceSub,List.cons_append,List.nil_append,List.append_nil,List.length_cons,List.length_nil,Env.find_set,find_cons,q9,ad]
  refine ⟨_,_,ls,v7,v2,y.n,b2,rfl,⟨S2.mono (by omega),d2,i12,i22,jsub.trans (List.sublist_append_left _ _),⟨by omega,by omega,by omega,.inl (by omega),by omega⟩⟩,?_,?_,?_,?_,?_,?_,?_⟩
  ·simp only [Env.find_set,q3,reduceIte,Nat.reduceEqDiff]
  ·simp only [Env.find_set,reduceIte,Nat.reduceEqDiff]
  ·simp only [Env.find_set,q5,reduceIte,Nat.reduceEqDiff]
  ·simp only [Env.find_set,q6,reduceIte,Nat.reduceEqDiff]
  ·simp only [Env.find_set,reduceIte,Nat.reduceEqDiff]
  ·simp only [Env.find_set,q8,reduceIte,Nat.reduceEqDiff]
  ·simp only [Env.find_set,reduceIte,Nat.reduceEqDiff];rfl
 | true =>
  have z3:=(S2.same ob (by omega) (by omega)).trans ((tg ob (by omega) (by omega)).symm.trans o3)
  have za:=(S2.same ab a1'' a1').trans ((tg ab a1'' a1').symm.trans a3)
  obtain ⟨z,hz⟩:∃ z:St,z=t2.new (.cells P.row 0):=⟨_,rfl⟩
  have zn:z.n=t2.n+1:=by rw [hz];rfl
  have zm:z.m=t2.m:=by rw [hz];rfl
  have zg:∀ c,c<t2.n→z.h.get c=t2.h.get c:=fun c hc=>by rw [hz,get_new_ne _ _ _ (by omega)]
  have zp:z.h.get t2.n=some (.cells P.row 0):=by rw [hz];exact get_new_eq _ _ _ rfl (by omega)
  obtain ⟨s8,e8,l8,s8n,s8g,s8m,s8l⟩:=append_at (bytes:=24) (i22.mono (h':=z.h) (n':=z.n) (fun h=>zg b2 h) (by omega)) zp rfl rfl (by rw [List.length_map];omega) (by kernel_rfl) (by omega)
  rw [List.length_map] at e8 l8
  obtain ⟨v8,hv8⟩:∃ v8,v8=AV.slice z.n 0 (ls.length+1) (ls.length+1) true:=⟨_,rfl⟩
  rw [← hv8] at e8 l8
  rw [show ls.map PutR.row++[P.row]=(ls++[P]).map PutR.row from by rw [List.map_append];rfl] at l8
  have okv8:∀ t,okA (.val v8 t)=.val v8 t:=fun t=>by rw [hv8];rfl
  have g8:∀ c,c<t2.n→c≠b2→s8.h.get c=t2.h.get c:=fun c hc hcb=>(s8g c (by omega) hcb).trans (zg c hc)
  have m8:d≤s8.m:=s8m d (by omega) (by omega) (by omega)
  rw [hz] at e8
  have e8':appendA false 3 24 (tag 51) (t2.new (.cells [.int .i64 P.x,.int .i64 P.y,.int .i64 (P.kind:Int)] 0)) v2 (.slice t2.n 0 1 1 false)=.val v8 s8:=e8
  have S8:Stir d u s8 (kk+10):=⟨fun c hc hcd=>(g8 c (by omega) (by omega)).trans (S2.same c hc hcd),by omega,by omega,fun _=>m8,by omega⟩
  simp (disch:=first|omega|(with_unfolding_all exact rfl)|(simp only[new_n,put_n,new_m];omega)|(refine put_m_le ?_;simp only[new_m];omega)) only [K5r10,K5r11,Abs.W,reduceIte,Nat.reduceEqDiff,Nat.reduceAdd,decide_true,decide_false,kLoop_def,Nat.reduceSub,List.cons_append,List.nil_append,List.append_nil,List.length_cons,List.length_nil,Env.find_set,find_cons,Nat.zero_add,q5,q6,q8,q9,kv,kvo,k2,o2,z3,o5,a2,za,a4,okP,e8',okv8,ad]
  refine ⟨_,_,ls++[P],v7,v8,y.n,z.n,rfl,⟨S8,d2.keep (g8 d (by omega) (by omega)),i12.mono (fun h=>g8 y.n h (by omega)) (by omega),l8,List.Sublist.append jsub (List.Sublist.refl _),⟨by omega,by omega,by omega,.inl (by omega),.inl (by omega)⟩⟩,?_,?_,?_,?_,?_,?_,?_⟩
  ·simp only [Env.find_set,q3,reduceIte,Nat.reduceEqDiff]
  ·simp only [Env.find_set,reduceIte,Nat.reduceEqDiff]
  ·simp only [Env.find_set,q5,reduceIte,Nat.reduceEqDiff]
  ·simp only [Env.find_set,q6,reduceIte,Nat.reduceEqDiff]
  ·simp only [Env.find_set,reduceIte,Nat.reduceEqDiff]
  ·simp only [Env.find_set,reduceIte,Nat.reduceEqDiff]
  ·simp only [Env.find_set,reduceIte,Nat.reduceEqDiff];rfl
end Go.Proofs.Ytoklbkgcclkejaa.walk
set_option maxRecDepth 10000
namespace Go.Proofs.Ytoklbkgcclkejaa.walk
open Go.Abs Go.Proofs.Ytoklbkgcclkejaa.code
noncomputable def fewRest:K:=(kSeq (kRegion K5r2 [4]) (kSeq (kRegion K5r3 [5]) (kSeq (kRegion K5r4 [6]) (kSeq (kRegion K5r5 [7,8]) (kSeq (kSeq (kRegion K5r6 [9]) (kBlock 0 (kLoop K5l0))) (kSeq (kRegion K5r12 [10,11]) (kSeq (kRegion K5r13 [12,13]) (kSeq (kRegion K5r14 [14,15]) (kSeq (kRegion K5r15 [16,17]) (kSeq (kRegion K5r16 [18,19]) (kSeq (kRegion K5r17 [20,21]) (kSeq (kRegion K5r18 [22,23]) (kSeq (kRegion K5r19 [24,25]) (kSeq (kSeq (kRegion K5r20 [174]) (kCond (.tmp 174) (kSeq (kRegion K5r21 [2]) kRet) kSkip)) (kSeq (kSeq (kRegion K5r22 [26]) (kBlock 2 (kLoop K5l1))) (kSeq (kRegion K5r27 [2]) kRet))))))))))))))))
theorem few_check (n:Nat) {s:St} {bx b2 b3:Nat} {a c e:Int} {H:HallR} {L:Env} (hac:a=1→c=1)
  (ess:call Try.prog X n (.fn 24) [.slice bx 0 H.bays H.bays false,.slice b2 0 H.bays H.bays false] s=.val (.bool true) s)
  (q10:L.find 10=.slice bx 0 H.bays H.bays false) (q11:L.find 11=.int .i64 0) (q12:L.find 12=.slice b2 0 H.bays H.bays false) (q13:L.find 13=.int .i64 0) (q14:L.find 14=.slice b3 0 H.bays H.bays false) (q15:L.find 15=.int .i64 0)
  (q16:L.find 16=.int .i64 a) (q17:L.find 17=.int .i64 0) (q18:L.find 18=.int .i64 a) (q19:L.find 19=.int .i64 0) (q20:L.find 20=.int .i64 c) (q21:L.find 21=.int .i64 0) (q22:L.find 22=.int .i64 e) (q23:L.find 23=.int .i64 0) (q24:L.find 24=.int .i64 e) (q25:L.find 25=.int .i64 0) :
  regR [174] L [] (K5r20 (awd n) L s)=.done .norm (L.set 174 (.bool false)) [] s:=by
 have knS:∀ args s,awd n (.fn 24) args s=call Try.prog X n (.fn 24) args s:=fun _ _=>rfl
 have okM:∀ b t,okA (.val (.slice b 0 H.bays H.bays false) t)=.val (.slice b 0 H.bays H.bays false) t:=fun _ _=>rfl
 have lX:∀ b s,lenSlA s (.slice b 0 H.bays H.bays false)=.val (.int .i64 (H.bays:Int)) s:=fun _ _=>rfl
 have z0:decide ((0:Int)=0)=true:=rfl
 have da:∀ x:Int,decide (x=x)=true:=fun x=>decide_eq_true rfl
 have u4:=fun cl L s=>congrFun (congrFun (congrFun K5r20s4.eq_1 cl) L) s
 have u5:=fun cl L s=>congrFun (congrFun (congrFun K5r20s5.eq_1 cl) L) s
 have u8:=fun cl L s=>congrFun (congrFun (congrFun K5r20s8.eq_1 cl) L) s
 have u9:=fun cl L s=>congrFun (congrFun (congrFun K5r20s9.eq_1 cl) L) s
 have u12:=fun cl L s=>congrFun (congrFun (congrFun K5r20s12.eq_1 cl) L) s
 have u13:=fun cl L s=>congrFun (congrFun (congrFun K5r20s13.eq_1 cl) L) s
 have u16:=fun cl L s=>congrFun (congrFun (congrFun K5r20s16.eq_1 cl) L) s
 have u17:=fun cl L s=>congrFun (congrFun (congrFun K5r20s17.eq_1 cl) L) s
 have u20:=fun cl L s=>congrFun (congrFun (congrFun K5r20s20.eq_1 cl) L) s
 have u21:=fun cl L s=>congrFun (congrFun (congrFun K5r20s21.eq_1 cl) L) s
 have u24:=fun cl L s=>congrFun (congrFun (congrFun K5r20s24.eq_1 cl) L) s
 have u25:=fun cl L s=>congrFun (congrFun (congrFun K5r20s25.eq_1 cl) L) s
 have u28:=fun cl L s=>congrFun (congrFun (congrFun K5r20s28.eq_1 cl) L) s
 have u29:=fun cl L s=>congrFun (congrFun (congrFun K5r20s29.eq_1 cl) L) s
 have u32:=fun cl L s=>congrFun (congrFun (congrFun K5r20s32.eq_1 cl) L) s
 have u33:=fun cl L s=>congrFun (congrFun (congrFun K5r20s33.eq_1 cl) L) s
 have u34:=fun cl L s=>congrFun (congrFun (congrFun K5r20s34.eq_1 cl) L) s
 have u37:=fun cl L s=>congrFun (congrFun (congrFun K5r20s37.eq_1 cl) L) s
 have u38:=fun cl L s=>congrFun (congrFun (congrFun K5r20s38.eq_1 cl) L) s
 have u39:=fun cl L s=>congrFun (congrFun (congrFun K5r20s39.eq_1 cl) L) s
 have u42:=fun cl L s=>congrFun (congrFun (congrFun K5r20s42.eq_1 cl) L) s
 have u43:=fun cl L s=>congrFun (congrFun (congrFun K5r20s43.eq_1 cl) L) s
 have u44:=fun cl L s=>congrFun (congrFun (congrFun K5r20s44.eq_1 cl) L) s
 have u45:=fun cl L s=>congrFun (congrFun (congrFun K5r20s45.eq_1 cl) L) s
 have u46:=fun cl L s=>congrFun (congrFun (congrFun K5r20s46.eq_1 cl) L) s
 have u47:=fun cl L s=>congrFun (congrFun (congrFun K5r20s47.eq_1 cl) L) s
 have u50:=fun cl L s=>congrFun (congrFun (congrFun K5r20s50.eq_1 cl) L) s
 have u51:=fun cl L s=>congrFun (congrFun (congrFun K5r20s51.eq_1 cl) L) s
 have u52:=fun cl L s=>congrFun (congrFun (congrFun K5r20s52.eq_1 cl) L) s
 have u53:=fun cl L s=>congrFun (congrFun (congrFun K5r20s53.eq_1 cl) L) s
 have u56:=fun cl L s=>congrFun (congrFun (congrFun K5r20s56.eq_1 cl) L) s
 have u57:=fun cl L s=>congrFun (congrFun (congrFun K5r20s57.eq_1 cl) L) s
 have u58:=fun cl L s=>congrFun (congrFun (congrFun K5r20s58.eq_1 cl) L) s
 have u59:=fun cl L s=>congrFun (congrFun (congrFun K5r20s59.eq_1 cl) L) s
 have u60:=fun cl L s=>congrFun (congrFun (congrFun K5r20s60.eq_1 cl) L) s
 cases h1:decide (a=1) with
 | false=>simp (config:={ maxSteps:=2000000 }) (disch:=first|omega|(with_unfolding_all exact rfl)|(simp only[new_n,put_n,new_m];omega)|(refine put_m_le ?_;simp only[new_m];omega)) only [K5r20,u4,u5,u8,u9,u12,u13,u16,u17,u20,u21,u24,u25,u28,u29,u32,u33,u34,u37,u38,u39,u42,u43,u44,u45,u46,u47,u50,u51,u52,u53,u56,u57,u58,u59,u60,Abs.W,reduceIte,Nat.reduceEqDiff,Nat.reduceAdd,decide_true,decide_false,kLoop_def,Nat.reduceSub,List.cons_append,List.nil_append,List.append_nil,List.length_cons,List.length_nil,Env.find_set,find_cons,q10,q11,q12,q13,q14,q15,q16,q17,q18,q19,q20,q21,q22,q23,q24,q25,okM,lX,z0,da,h1,knS,ess]
 | true =>
  have h2:decide (c=1)=true:=decide_eq_true (hac (of_decide_eq_true h1))
  simp (config:={ maxSteps:=2000000 }) (disch:=first|omega|(with_unfolding_all exact rfl)|(simp only[new_n,put_n,new_m];omega)|(refine put_m_le ?_;simp only[new_m];omega)) only [K5r20,u4,u5,u8,u9,u12,u13,u16,u17,u20,u21,u24,u25,u28,u29,u32,u33,u34,u37,u38,u39,u42,u43,u44,u45,u46,u47,u50,u51,u52,u53,u56,u57,u58,u59,u60,Abs.W,reduceIte,Nat.reduceEqDiff,Nat.reduceAdd,decide_true,decide_false,kLoop_def,Nat.reduceSub,List.cons_append,List.nil_append,List.append_nil,List.length_cons,List.length_nil,Env.find_set,find_cons,q10,q11,q12,q13,q14,q15,q16,q17,q18,q19,q20,q21,q22,q23,q24,q25,okM,lX,z0,da,h1,h2,knS,ess]
theorem few_loop (n:Nat) (cx:Ctx) {s:St} {bx b3:Nat} {l ls:List PutR} {H:HallR} {L:Env} {r:R} (ok:H.Ok) (hs:s.n+100≤far) (hle:∀ b,tot (H.lows ls) b≤tot (H.lows l) b∧tot (H.highs ls) b≤tot (H.highs l) b) (gx:s.h.get bx=some (.cells (H.loadRows l).flatten 0)) (g3:s.h.get b3=some (.cells (H.loadRows ls).flatten 0))
  (q10:L.find 10=.slice bx 0 H.bays H.bays false) (q14:L.find 14=.slice b3 0 H.bays H.bays false) (q26:L.find 26=.int .i64 0) (hr:loopN K5l1 rounds (awd n) cx L [] s=r) :
  ∃ L1,r=.done (.exit 2) L1 [] s:=by
 have hf:far=1000000000:=rfl
 have okM:∀ b t,okA (.val (.slice b 0 H.bays H.bays false) t)=.val (.slice b 0 H.bays H.bays false) t:=fun _ _=>rfl
 have lX:∀ b s,lenSlA s (.slice b 0 H.bays H.bays false)=.val (.int .i64 (H.bays:Int)) s:=fun _ _=>rfl
 have hb24:=bays_le ok.toSize
 have w13:=fun cl L s=>congrFun (congrFun (congrFun K5r24s13.eq_1 cl) L) s
 have w14:=fun cl L s=>congrFun (congrFun (congrFun K5r24s14.eq_1 cl) L) s
 have w15:=fun cl L s=>congrFun (congrFun (congrFun K5r24s15.eq_1 cl) L) s
 have w16:=fun cl L s=>congrFun (congrFun (congrFun K5r24s16.eq_1 cl) L) s
 have w17:=fun cl L s=>congrFun (congrFun (congrFun K5r24s17.eq_1 cl) L) s
 have w18:=fun cl L s=>congrFun (congrFun (congrFun K5r24s18.eq_1 cl) L) s
 have w19:=fun cl L s=>congrFun (congrFun (congrFun K5r24s19.eq_1 cl) L) s
 have w20:=fun cl L s=>congrFun (congrFun (congrFun K5r24s20.eq_1 cl) L) s
 have w21:=fun cl L s=>congrFun (congrFun (congrFun K5r24s21.eq_1 cl) L) s
 have w22:=fun cl L s=>congrFun (congrFun (congrFun K5r24s22.eq_1 cl) L) s
 have w23:=fun cl L s=>congrFun (congrFun (congrFun K5r24s23.eq_1 cl) L) s
 obtain ⟨eE,L2,t7,rfl,rfl,rfl⟩:=loop_of hr (fun j L' t'=>t'=s∧L'.find 10=.slice bx 0 H.bays H.bays false∧L'.find 14=.slice b3 0 H.bays H.bays false∧L'.find 26=.int .i64 (j:Int))
  (fun e L' t'=>e=.exit 2∧t'=s) H.bays (by unfold rounds;omega)
  ⟨rfl,q10,q14,q26⟩
  (fun j L' t' hj ⟨ht,q10,q14,q26⟩=>by
   subst ht
   by_cases hlt:j<H.bays
   ·have e0:decide ((j:Int)<(H.bays:Int))=true:=decide_eq_true (by omega)
    have ad:∀ s,aAdd s .i64 (j:Int) 1=.val (.int .i64 ((j:Int)+1)) s:=fun s=>aAdd_i64 s _ _ (by omega)
    have hix:∀ b s,ixsA 2 s (.slice b 0 H.bays H.bays false) (.int .i64 (j:Int))=.val (.ptr b (j * 2)) s:=fun b s=>by rw [ixs_slice _ _ _ _ _ _ _ _ hlt,Nat.zero_add]
    have hcut:∀ l,cut (j * 2) 2 (H.loadRows l).flatten=some [.int .i64 (tot (H.lows l) j),.int .i64 (tot (H.highs l) j)]:=fun l=>by
     rw [flatten_cut (loadRows_wide H _) (by rw [loadRows_len];exact hlt),loadRows_at H _ hlt];rfl
    have c0:∀ l,nth (H.loadRows l).flatten (j * 2)=.int .i64 (tot (H.lows l) j):=fun l=>(cut_nth (i:=0) (hcut l) (by omega)).trans rfl
    have c1:∀ l,nth (H.loadRows l).flatten (j * 2+1)=.int .i64 (tot (H.highs l) j):=fun l=>(cut_nth (i:=1) (hcut l) (by omega)).trans rfl
    have d1:decide (tot (H.lows l) j<tot (H.lows ls) j)=false:=decide_eq_false (by have:=(hle j).1;omega)
    have d2:decide (tot (H.highs l) j<tot (H.highs ls) j)=false:=decide_eq_false (by have:=(hle j).2;omega)
    refine .inl ⟨hlt,?_⟩
    simp (disch:=first|omega|(with_unfolding_all exact rfl)|(simp only[new_n,put_n,new_m];omega)|(refine put_m_le ?_;simp only[new_m];omega)) only [K5l1,K5r23,K5r24,w13,w14,w15,w16,w17,w18,w19,w20,w21,w22,w23,K5r26,Abs.W,reduceIte,Nat.reduceEqDiff,Nat.reduceAdd,decide_true,decide_false,kLoop_def,Nat.reduceSub,List.cons_append,List.nil_append,List.append_nil,List.length_cons,List.length_nil,Env.find_set,find_cons,Nat.zero_add,Nat.add_zero,q10,q14,q26,okM,lX,e0,hix,gx,g3,c0,c1,d1,d2,ad]
    refine ⟨_,_,rfl,rfl,?_,?_,?_⟩
    ·simp only [Env.find_set,q10,reduceIte,Nat.reduceEqDiff]
    ·simp only [Env.find_set,q14,reduceIte,Nat.reduceEqDiff]
    ·simp only [Env.find_set,reduceIte,Nat.reduceEqDiff];rfl
   ·obtain rfl:j=H.bays:=by omega
    have e0:decide ((H.bays:Int)<(H.bays:Int))=false:=by simp
    refine .inr ⟨.exit 2,L'.set 178 (.bool false),t',by simp,?_,rfl,rfl⟩
    simp (disch:=first|omega|(with_unfolding_all exact rfl)|(simp only[new_n,put_n,new_m];omega)|(refine put_m_le ?_;simp only[new_m];omega)) only [K5l1,K5r23,Abs.W,reduceIte,Nat.reduceEqDiff,Nat.reduceAdd,decide_true,decide_false,kLoop_def,Nat.reduceSub,List.cons_append,List.nil_append,List.append_nil,List.length_cons,List.length_nil,Env.find_set,q14,q26,okM,lX,e0])
 exact ⟨_,rfl⟩
theorem few_body (n:Nat) (hn:20≤n) (cx:Ctx) (s:St) (d:Nat) (hd:Die d s.h) (hdn:d<s.n) (hs:s.n+900000000≤far) (hm:s.m=far) :
  ∃ s',finA Try.prog Try.f5 (fewRest (awd n) cx (.cons 3 (.ptr d 0) .nil) [] s)=.val (.bool true) s':=by
 have hf:far=1000000000:=rfl
 have knH:∀ args s,awd n (.fn 11) args s=call Try.prog X n (.fn 11) args s:=fun _ _=>rfl
 have knL:∀ args s,awd n (.fn 12) args s=call Try.prog X n (.fn 12) args s:=fun _ _=>rfl
 have knF:∀ args s,awd n (.fn 21) args s=call Try.prog X n (.fn 21) args s:=fun _ _=>rfl
 have knO:∀ args s,awd n (.fn 13) args s=call Try.prog X n (.fn 13) args s:=fun _ _=>rfl
 have knB:∀ args s,awd n (.fn 14) args s=call Try.prog X n (.fn 14) args s:=fun _ _=>rfl
 have knE:∀ args s,awd n (.fn 23) args s=call Try.prog X n (.fn 23) args s:=fun _ _=>rfl
 have knA:∀ s,awd n (.fn 19) [] s=.val (.bool true) s:=fun _=>rfl
 have ex0:∀ (a b:AV) (s:St),extA 0 s (.tup [a,b])=.val a s:=fun _ _ _=>rfl
 have ex1:∀ (a b:AV) (s:St),extA 1 s (.tup [a,b])=.val b s:=fun _ _ _=>rfl
 have okt:∀ (a b:AV) (s:St),okA (.val (.tup [a,b]) s)=.val (.tup [a,b]) s:=fun _ _ _=>rfl
 unfold fewRest
 simp (disch:=first|omega|(with_unfolding_all exact rfl)|(simp only[new_n,put_n,new_m];omega)|(refine put_m_le ?_;simp only[new_m];omega)) only [K5r2,Abs.W,reduceIte,Nat.reduceEqDiff,Nat.reduceAdd,decide_true,decide_false,kLoop_def,Nat.reduceSub,List.cons_append,List.nil_append,List.append_nil,List.length_cons,List.length_nil,Env.find_set,find_cons,knH]
 generalize hc1:call _ _ _ (.fn 11) _ _=r1
 obtain ⟨H,vW,vS,vB,vK,t1,rfl,st1,d1,ok,hH,_⟩:=hallOf_ex (W:=5) (D:=3) (K:=3) hc1 (by omega) hd hdn (by omega) (by omega) (by omega) (by omega)
 have n1:=st1.n
 have k1:=st1.le
 have m1:=st1.m (by omega)
 have scB:=hH.scal
 have kW:=hH.w.okA
 have kS:=hH.s.okA
 have kB:=hH.b.okA
 have kK:=hH.k.okA
 have okh:∀ t,okA (.val (.agg (hallV H vW vS vB vK)) t)=.val (.agg (hallV H vW vS vB vK)) t:=fun _=>rfl
 obtain ⟨y,hy⟩:∃ y:St,y=(t1.new (.cells [.int .i64 0,.int .i64 0,.nilslice,.nilslice,.int .i64 0,.int .i64 0,.nilslice,.nilslice] (tag 30))).put t1.n (.cells (hallV H vW vS vB vK) (tag 30)):=⟨_,rfl⟩
 have sty:storeA 8 (t1.new (.cells [.int .i64 0,.int .i64 0,.nilslice,.nilslice,.int .i64 0,.int .i64 0,.nilslice,.nilslice] (tag 30))) (.agg (hallV H vW vS vB vK)) (.ptr t1.n 0)=.val .undef y:=by
  rw [hy];exact store_all _ 8 _ _ _ _ (get_new_eq _ _ _ rfl (by omega)) rfl rfl scB
 have yn:y.n=t1.n+1:=by rw [hy];rfl
 have ym:y.m=min t1.m t1.n:=by rw [hy];simp only [St.put,minN_eq,new_m]
 have yg:∀ c,c<t1.n→y.h.get c=t1.h.get c:=fun c hc=>by rw [hy,get_put_ne' _ _ _ _ (by omega),get_new_ne _ _ _ (by omega)]
 have y4:y.h.get t1.n=some (.cells (hallV H vW vS vB vK) (tag 30)):=by rw [hy];exact get_put_eq _ _ _ _ rfl (by omega)
 have dy:Die d y.h:=d1.keep (yg d (by omega))
 have hHy:HallAt (fun c=>c≠d) y.h y.n H vW vS vB vK:=hH.move (fun c h1 h2=>⟨yg c h1,by have h3:s.n≤c:=h2;omega⟩) (by omega)
 clear hy
 have m1l:=st1.mle
 simp (disch:=first|omega|(with_unfolding_all exact rfl)|(simp only[new_n,put_n,new_m];omega)|(refine put_m_le ?_;simp only[new_m];omega)) only [sty,K5r3,Abs.W,reduceIte,Nat.reduceEqDiff,Nat.reduceAdd,decide_true,decide_false,kLoop_def,Nat.reduceSub,List.cons_append,List.nil_append,List.append_nil,List.length_cons,List.length_nil,Env.find_set,find_cons,y4,okh,knL,Nat.zero_add]
 generalize hc2:call _ _ _ (.fn 12) _ _=r2
 obtain ⟨l,v,t2,rfl,st2,d2,hv,hin,hl8,hR⟩:=layoutOf_ex (most:=8) hc2 (by omega) dy (by omega) ok hHy (by omega) (by omega)
 have n2:=st2.n
 have k2:=st2.le
 have m2:=st2.m (by omega)
 have m2l:=st2.mle
 have kv:=hR.okA
 have z4:=(st2.same t1.n (by omega) (by omega)).trans y4
 have hH2:HallAt (fun c=>c≠d) t2.h t2.n H vW vS vB vK:=hHy.move (fun c h1 h2=>⟨st2.same c h1 h2,h2⟩) n2
 have hR2:Sl (fun c=>c≠d) t2.h t2.n 3 (l.map PutR.row) v:=hR.move (fun c h1 h2=>⟨rfl,by have h3:y.n≤c:=h2;omega⟩) (Nat.le_refl _)
 have lv:=slPuts hR2
 have hl24:l.length≤24:=by omega
 simp (disch:=first|omega|(with_unfolding_all exact rfl)|(simp only[new_n,put_n,new_m];omega)|(refine put_m_le ?_;simp only[new_m];omega)) only [K5r4,Abs.W,reduceIte,Nat.reduceEqDiff,Nat.reduceAdd,decide_true,decide_false,kLoop_def,Nat.reduceSub,List.cons_append,List.nil_append,List.append_nil,List.length_cons,List.length_nil,Env.find_set,find_cons,kv,lv,knF]
 generalize hc3:call _ _ _ (.fn 21) _ _=r3
 obtain ⟨vo,f,t3,rfl,st3,d3,hfl,hperm,hO⟩:=Shuffle_ex hc3 (by omega) d2 (by omega) (by omega) (by omega)
 have n3:=st3.n
 have k3:=st3.le
 have m3:d≤t3.m:=st3.m (by omega)
 have m3l:=st3.mle
 have kvo:∀ t,okA (.val vo t)=.val vo t:=fun t=>okA_ne hO.at_.ne
 have lvo:=hO.at_.len
 have hol:=hO.lt
 rw [natRows_len,hfl] at lvo
 have z43:=(st3.same t1.n (by omega) (by omega)).trans z4
 have hH3:HallAt (fun c=>c≠d) t3.h t3.n H vW vS vB vK:=hH2.move (fun c h1 h2=>⟨st3.same c h1 h2,h2⟩) n3
 have hR3:Sl (fun c=>c≠d) t3.h t3.n 3 (l.map PutR.row) v:=hR2.move (fun c h1 h2=>⟨st3.same c h1 h2,h2⟩) n3
 simp (disch:=first|omega|(with_unfolding_all exact rfl)|(simp only[new_n,put_n,new_m];omega)|(refine put_m_le ?_;simp only[new_m];omega)) only [K5r5,K5r6,Abs.W,reduceIte,Nat.reduceEqDiff,Nat.reduceAdd,decide_true,decide_false,kLoop_def,Nat.reduceSub,List.cons_append,List.nil_append,List.append_nil,List.length_cons,List.length_nil,Env.find_set,find_cons,kvo]
 generalize hlp:loopN _ rounds _ _ _ _ _=rl
 obtain ⟨eE,L1,t4,rfl,rfl,ls,v1,v2,b1,b2,J,q3,q4,q5,q7,q8⟩:=loop_of hlp (fun i L' t'=>∃ ls v1 v2 b1 b2,FewJ t3 t' d (10 * i) (ordered l (f.take i)) ls v1 v2 b1 b2∧L'.find 3=.ptr d 0∧L'.find 4=.ptr t1.n 0∧L'.find 5=v∧L'.find 6=vo∧L'.find 7=v1∧L'.find 8=v2∧L'.find 9=.int .i64 (i:Int))
  (fun e L' t'=>e=.exit 0∧∃ ls v1 v2 b1 b2,FewJ t3 t' d (10 * l.length) (ordered l f) ls v1 v2 b1 b2∧L'.find 3=.ptr d 0∧L'.find 4=.ptr t1.n 0∧L'.find 5=v∧L'.find 7=v1∧L'.find 8=v2) l.length (by unfold rounds;omega)
  ⟨[],.nilslice,.nilslice,far+1,far+2,⟨Stir.refl d t3,d3,IsAt.nil _ _ _ _ _,IsAt.nil _ _ _ _ _,List.Sublist.refl _,⟨by omega,by omega,by omega,.inr (by omega),.inr (by omega)⟩⟩,(by simp only [find_cons,Env.find_set,reduceIte,Nat.reduceEqDiff]),(by simp only [find_cons,Env.find_set,reduceIte,Nat.reduceEqDiff]),(by simp only [find_cons,Env.find_set,reduceIte,Nat.reduceEqDiff]),(by simp only [find_cons,Env.find_set,reduceIte,Nat.reduceEqDiff]),(by simp only [find_cons,Env.find_set,reduceIte,Nat.reduceEqDiff]),(by simp only [find_cons,Env.find_set,reduceIte,Nat.reduceEqDiff]),(by simp only [find_cons,Env.find_set,reduceIte,Nat.reduceEqDiff];rfl)⟩
  (fun i L' t' hi ⟨ls,v1,v2,b1,b2,J,q3,q4,q5,q6,q7,q8,q9⟩=>by
   by_cases hlt:i<l.length
   ·obtain ⟨L1,t1',ls',w1,w2,c1,c2,k1,k2,k3,k4,k5,k6,k7,k8,k9⟩:=few_round n hn cx J hR3 hl24 hO ⟨by omega,by omega⟩ hfl hperm (by omega) hlt (by omega) (by omega) m3 q3 q5 q6 q7 q8 q9
    exact .inl ⟨hlt,L1,t1',k1,ls',w1,w2,c1,c2,k2,k3,k4.trans q4,k5,k6,k7,k8,k9⟩
   ·obtain rfl:i=l.length:=by omega
    have e0:decide ((l.length:Int)<(l.length:Int))=false:=by simp
    rw [List.take_of_length_le (by omega)] at J
    refine .inr ⟨.exit 0,L'.set 41 (.bool false),t',by simp,?_,rfl,ls,v1,v2,b1,b2,J,?_,?_,?_,?_,?_⟩
    ·simp (disch:=first|omega|(with_unfolding_all exact rfl)|(simp only[new_n,put_n,new_m];omega)|(refine put_m_le ?_;simp only[new_m];omega)) only [K5l0,K5r7,Abs.W,reduceIte,Nat.reduceEqDiff,Nat.reduceAdd,decide_true,decide_false,kLoop_def,Nat.reduceSub,List.cons_append,List.nil_append,List.append_nil,List.length_cons,List.length_nil,Env.find_set,q6,q9,kvo,lvo,e0]
    ·simp only [Env.find_set,q3,reduceIte,Nat.reduceEqDiff]
    ·simp only [Env.find_set,q4,reduceIte,Nat.reduceEqDiff]
    ·simp only [Env.find_set,q5,reduceIte,Nat.reduceEqDiff]
    ·simp only [Env.find_set,q7,reduceIte,Nat.reduceEqDiff]
    ·simp only [Env.find_set,q8,reduceIte,Nat.reduceEqDiff])
 obtain ⟨S4,d4,j1,j2,jsub,jlo⟩:=J
 have n4:=S4.n
 have k4:=S4.le
 have hop:=ordered_perm hfl hperm
 have hvo:=valid_perm hop hv
 have hino:∀ q ∈ ordered l f,q.In H:=fun q hq=>hin q (hop.mem_iff.mpr hq)
 have hlo:(ordered l f).length≤24:=by rw [ordered_len];omega
 have hvs:=valid_sub jsub hvo
 have hins:∀ q ∈ ls,q.In H:=fun q hq=>hino q (jsub.mem hq)
 have hls:ls.length≤24:=by have:=jsub.length_le;omega
 have z44:=(S4.same t1.n (by omega) (by omega)).trans z43
 have hH4:HallAt (fun c=>c≠d) t4.h t4.n H vW vS vB vK:=hH3.move (fun c h1 h2=>⟨S4.same c h1 h2,h2⟩) n4
 have hR4:Sl (fun c=>c≠d) t4.h t4.n 3 (l.map PutR.row) v:=hR3.move (fun c h1 h2=>⟨S4.same c h1 h2,h2⟩) n4
 have hO4:Sl (fun c=>c≠d) t4.h t4.n 3 ((ordered l f).map PutR.row) v1:=Sl.of_at j1 fun _=>by omega
 have hS4:Sl (fun c=>c≠d) t4.h t4.n 3 (ls.map PutR.row) v2:=Sl.of_at j2 fun _=>by omega
 have kO:=hO4.okA
 have kSs:=hS4.okA
 have okM:∀ b t,okA (.val (.slice b 0 H.bays H.bays false) t)=.val (.slice b 0 H.bays H.bays false) t:=fun _ _=>rfl
 simp (disch:=first|omega|(with_unfolding_all exact rfl)|(simp only[new_n,put_n,new_m];omega)|(refine put_m_le ?_;simp only[new_m];omega)) only [K5r12,Abs.W,reduceIte,Nat.reduceEqDiff,Nat.reduceAdd,decide_true,decide_false,kLoop_def,Nat.reduceSub,List.cons_append,List.nil_append,List.append_nil,List.length_cons,List.length_nil,Env.find_set,find_cons,q4,q5,z44,kv,okh,knO,Nat.zero_add]
 generalize hc5:call _ _ _ (.fn 13) _ _=r5
 obtain ⟨t5,x1,rfl,st5,x11,x12,x13⟩:=vaultLoads_ex hc5 (by omega) ok hH4 hR4 hin (by omega) hv (by omega)
 have n5:=st5.n
 have k5:=st5.le
 have z45:=(st5.same t1.n (by omega)).trans z44
 have hH5:=hH4.grow st5.same n5
 have hO5:=hO4.grow st5.same n5
 simp (disch:=first|omega|(with_unfolding_all exact rfl)|(simp only[new_n,put_n,new_m];omega)|(refine put_m_le ?_;simp only[new_m];omega)) only [K5r13,Abs.W,reduceIte,Nat.reduceEqDiff,Nat.reduceAdd,decide_true,decide_false,kLoop_def,Nat.reduceSub,List.cons_append,List.nil_append,List.append_nil,List.length_cons,List.length_nil,Env.find_set,find_cons,q4,q7,z45,kO,okh,okt,ex0,ex1,okM,knO,Nat.zero_add]
 generalize hc6:call _ _ _ (.fn 13) _ _=r6
 obtain ⟨t6,x2,rfl,st6,x21,x22,x23⟩:=vaultLoads_ex hc6 (by omega) ok hH5 hO5 hino (by omega) hvo (by omega)
 have n6:=st6.n
 have k6:=st6.le
 have z46:=(st6.same t1.n (by omega)).trans z45
 have hH6:=hH5.grow st6.same n6
 have hS6:=(hS4.grow st5.same n5).grow st6.same n6
 simp (disch:=first|omega|(with_unfolding_all exact rfl)|(simp only[new_n,put_n,new_m];omega)|(refine put_m_le ?_;simp only[new_m];omega)) only [K5r14,Abs.W,reduceIte,Nat.reduceEqDiff,Nat.reduceAdd,decide_true,decide_false,kLoop_def,Nat.reduceSub,List.cons_append,List.nil_append,List.append_nil,List.length_cons,List.length_nil,Env.find_set,find_cons,q4,q8,z46,kSs,okh,okt,ex0,ex1,okM,knO,Nat.zero_add]
 generalize hc7:call _ _ _ (.fn 13) _ _=r7
 obtain ⟨t7,x3,rfl,st7,x31,x32,x33⟩:=vaultLoads_ex hc7 (by omega) ok hH6 hS6 hins (by omega) hvs (by omega)
 have n7:=st7.n
 have k7:=st7.le
 have z47:=(st7.same t1.n (by omega)).trans z46
 have hH7:=hH6.grow st7.same n7
 have hR7:=((hR4.grow st5.same n5).grow st6.same n6).grow st7.same n7
 have hO7:=(hO5.grow st6.same n6).grow st7.same n7
 have hS7:=hS6.grow st7.same n7
 have y1:=(st7.same x1 (by omega)).trans ((st6.same x1 (by omega)).trans x13)
 have y2:=(st7.same x2 (by omega)).trans x23
 rw [← loadRows_perm hop] at y2
 have eb1:=vaultBears_ok n (by omega) ok hH7 hR7 hin (by omega) hv (by omega)
 have eb2:=vaultBears_ok n (by omega) ok hH7 hO7 hino (by omega) hvo (by omega)
 have eb3:=vaultBears_ok n (by omega) ok hH7 hS7 hins (by omega) hvs (by omega)
 rw [← verdict_perm hop] at eb2
 have ee1:=earns_ok n (by omega) ok hH7 hR7 hin (by omega) hv (by omega)
 have ee2:=earns_ok n (by omega) ok hH7 hO7 hino (by omega) hvo (by omega)
 rw [← rents_perm hop] at ee2
 have ess:=sameSpans_ok n (by omega) ok y1 y2 ⟨by omega,by omega⟩ (by omega)
 simp (disch:=first|omega|(with_unfolding_all exact rfl)|(simp only[new_n,put_n,new_m];omega)|(refine put_m_le ?_;simp only[new_m];omega)) only [K5r15,K5r16,K5r17,K5r18,K5r19,Abs.W,reduceIte,Nat.reduceEqDiff,Nat.reduceAdd,decide_true,decide_false,kLoop_def,Nat.reduceSub,List.cons_append,List.nil_append,List.append_nil,List.length_cons,List.length_nil,Env.find_set,find_cons,q4,q5,q7,q8,z47,kv,kO,kSs,okh,okt,ex0,ex1,okM,knB,knE,eb1,eb2,eb3,ee1,ee2,Nat.zero_add]
 generalize hL0:Env.set 25 _ _=L0
 have f10:L0.find 10=.slice x1 0 H.bays H.bays false:=by rw [← hL0];simp only [Env.find_set,reduceIte,Nat.reduceEqDiff]
 have f11:L0.find 11=.int .i64 0:=by rw [← hL0];simp only [Env.find_set,reduceIte,Nat.reduceEqDiff]
 have f12:L0.find 12=.slice x2 0 H.bays H.bays false:=by rw [← hL0];simp only [Env.find_set,reduceIte,Nat.reduceEqDiff]
 have f13:L0.find 13=.int .i64 0:=by rw [← hL0];simp only [Env.find_set,reduceIte,Nat.reduceEqDiff]
 have f14:L0.find 14=.slice x3 0 H.bays H.bays false:=by rw [← hL0];simp only [Env.find_set,reduceIte,Nat.reduceEqDiff]
 have f15:L0.find 15=.int .i64 0:=by rw [← hL0];simp only [Env.find_set,reduceIte,Nat.reduceEqDiff]
 have f16:L0.find 16=.int .i64 (H.verdict l):=by rw [← hL0];simp only [Env.find_set,reduceIte,Nat.reduceEqDiff]
 have f17:L0.find 17=.int .i64 0:=by rw [← hL0];simp only [Env.find_set,reduceIte,Nat.reduceEqDiff]
 have f18:L0.find 18=.int .i64 (H.verdict l):=by rw [← hL0];simp only [Env.find_set,reduceIte,Nat.reduceEqDiff]
 have f19:L0.find 19=.int .i64 0:=by rw [← hL0];simp only [Env.find_set,reduceIte,Nat.reduceEqDiff]
 have f20:L0.find 20=.int .i64 (H.verdict ls):=by rw [← hL0];simp only [Env.find_set,reduceIte,Nat.reduceEqDiff]
 have f21:L0.find 21=.int .i64 0:=by rw [← hL0];simp only [Env.find_set,reduceIte,Nat.reduceEqDiff]
 have f22:L0.find 22=.int .i64 (tot (H.rents l) 0):=by rw [← hL0];simp only [Env.find_set,reduceIte,Nat.reduceEqDiff]
 have f23:L0.find 23=.int .i64 0:=by rw [← hL0];simp only [Env.find_set,reduceIte,Nat.reduceEqDiff]
 have f24:L0.find 24=.int .i64 (tot (H.rents l) 0):=by rw [← hL0];simp only [Env.find_set,reduceIte,Nat.reduceEqDiff]
 have f25:L0.find 25=.int .i64 0:=by rw [← hL0];simp only [Env.find_set,reduceIte,Nat.reduceEqDiff]
 clear hL0
 have hck:=few_check n (fun h=>verdict_sub ok hino jsub ((verdict_perm hop).symm.trans h)) ess f10 f11 f12 f13 f14 f15 f16 f17 f18 f19 f20 f21 f22 f23 f24 f25
 simp (disch:=first|omega|(with_unfolding_all exact rfl)|(simp only[new_n,put_n,new_m];omega)|(refine put_m_le ?_;simp only[new_m];omega)) only [hck,K5r22,Abs.W,reduceIte,Nat.reduceEqDiff,Nat.reduceAdd,decide_true,decide_false,kLoop_def,Nat.reduceSub,List.cons_append,List.nil_append,List.append_nil,List.length_cons,List.length_nil,Env.find_set,find_cons]
 generalize hlp2:loopN _ rounds _ _ _ _ _=rl2
 obtain ⟨L2,rfl⟩:=few_loop n cx ok (by omega) (fun b=>⟨by rw [lows_perm hop];exact lows_sub ok hino jsub b,by rw [highs_perm hop];exact highs_sub ok hino jsub b⟩) y1 x33 (by simp only [Env.find_set,f10,reduceIte,Nat.reduceEqDiff]) (by simp only [Env.find_set,f14,reduceIte,Nat.reduceEqDiff]) (by simp only [Env.find_set,reduceIte,Nat.reduceEqDiff]) hlp2
 simp (disch:=first|omega|(with_unfolding_all exact rfl)|(simp only[new_n,put_n,new_m];omega)|(refine put_m_le ?_;simp only[new_m];omega)) only [K5r27,res5,Abs.W,reduceIte,Nat.reduceEqDiff,Nat.reduceAdd,decide_true,decide_false,kLoop_def,Nat.reduceSub,List.cons_append,List.nil_append,List.append_nil,List.length_cons,List.length_nil,Env.find_set,find_cons,knA]
 exact ⟨_,rfl⟩
end Go.Proofs.Ytoklbkgcclkejaa.walk
namespace Go.Proofs.Ytoklbkgcclkejaa.mdie
open Go.RowKit
def Die (b:Nat) (w:World):Prop:=∃ s,w.heap[b]? = some (.cells #[.int .u64 s] 74 (0,0))
theorem Die.old {b:Nat} {w:World} (h:Die b w):(∃ s,w.cell? ⟨b,0,none⟩=some (.int .u64 s))∧w.frozen? ⟨b,0,none⟩=false:=by
 obtain ⟨s,hs⟩:=h
 refine ⟨⟨s,?_⟩,?_⟩
 ·unfold World.cell?;simp [hs]
 ·unfold World.frozen?;simp [hs]
structure Stir (b:Nat) (w w':World):Prop where
 below:Below b w w'
 rest:∀ p:Addr,p.block≠b→p.block<w.heap.size→w'.cell? p=w.cell? p∧w'.frozen? p=w.frozen? p
 die:Die b w'
def Gives (b:Nat) (k:IntKind) (Q:Int→Prop) (w:World) (e:Ending) (w':World):Prop:=∃ r,Q r∧e=.returned (.int k r)∧Stir b w w'
theorem bits_nonneg (op:BinOp) (x y:Int):0≤bits op .u64 x y:=by
 have:=bounds_u64 (wf_bits (k:=.u64) (op:=op) (x:=x) (y:=y))
 exact this.1
theorem Stir.set {b:Nat} {w:World} (h:Die b w) (s:Int):Stir b w (w.setCell ⟨b,0,none⟩ (.int .u64 s)):=by
 obtain ⟨t,ht⟩:=h
 refine ⟨(Below.refl b w).setCell (p:=⟨b,0,none⟩) (Nat.le_refl b) _,fun p hp _=>⟨World.cell?_of_block (Below.heap_setCell _ _ _ _ hp),World.frozen?_of_block (Below.heap_setCell _ _ _ _ hp)⟩,⟨s,?_⟩⟩
 unfold World.setCell
 simp [Array.getElem?_modify,ht]
theorem roll (b:Nat) (w:World) (h:Die b w):Calls Try.prog 39 #[.pointer (some ⟨b,0,none⟩)] w (Gives b .u64 (fun r=>0≤r) w):=by
 have h':=Lib.hid h
 obtain ⟨⟨s,hs⟩,hf⟩:=h.old
 clear h
 go_enter Try.func39,Try.ntmps39
 go_wp2
 go_ret
 exact ⟨_,bits_nonneg _ _ _,rfl,Stir.set h'.out _⟩
theorem Stir.refl {b:Nat} {w:World} (h:Die b w):Stir b w w:=⟨Below.refl _ _,fun _ _ _=>⟨rfl,rfl⟩,h⟩
theorem Stir.trans {b:Nat} {u v w:World} (h:Stir b u v) (k:Stir b v w):Stir b u w :=
 ⟨h.below.trans k.below,fun p hp hb=>⟨(k.rest p hp (Nat.lt_of_lt_of_le hb h.below.size)).1.trans (h.rest p hp hb).1,(k.rest p hp (Nat.lt_of_lt_of_le hb h.below.size)).2.trans (h.rest p hp hb).2⟩,k.die⟩
theorem Die.lt {b:Nat} {w:World} (h:Die b w):b<w.heap.size:=by obtain ⟨⟨s,hs⟩,_⟩:=h.old;exact World.block_lt_of_cell? w _ hs
theorem Stir.drew {b:Nat} {w w':World} (h:Stir b w w'):Stir b w w'.drew:=h.trans ⟨⟨rfl,rfl,rfl,Nat.le_refl _,fun _ _=>rfl⟩,fun _ _ _=>⟨rfl,rfl⟩,h.die⟩
def Born (w:World) (e:Ending) (w':World):Prop:=e=.returned (.pointer (some ⟨w.heap.size,0,none⟩))∧Below w.heap.size w w'∧Die w.heap.size w'∧w.heap.size<w'.heap.size
theorem Die.born (w:World) (s:Int):Die w.heap.size (w.alloc (.cells #[.int .u64 s] 74)):=⟨s,by show (w.heap.push _)[w.heap.size]? = _;rw [Array.getElem?_push,if_pos rfl]⟩
set_option maxRecDepth 100000 in
theorem born (x:Option Addr) (n c:Nat) (w:World) (hn:n≤maxLen) (hc:∀ i,i<n→∃ b o,x=some ⟨b,o,none⟩∧∃ v,w.cell? ⟨b,o+i,none⟩=some (.int .i64 v)) :
  Calls Try.prog 10 #[.slice x n c] w (Born w):=by
 unfold maxLen at hn
 have HC:=Lib.hid hc
 clear hc
 have hdie:=Lib.hid (Die.born w 2611923443488327891)
 go_enter Try.func10,Try.ntmps10
 go_wp2
 go_loopw [4] (fun i wr=>∃ k:Nat,k≤n∧i=.int .i64 k∧Stir w.heap.size (w.alloc (.cells #[.int .u64 2611923443488327891] 74)) wr) (fun i _=>n - (intOf i).toNat)
 case atStart=>exact ⟨0,Nat.zero_le _,rfl,Stir.refl hdie.out⟩
 case round =>
  obtain ⟨k,hk,rfl,hs⟩:=hrel
  by_cases hlt:k<n
  ·obtain ⟨b,o,rfl,v,hv⟩:=HC.out k hlt
   have hb:=World.block_lt_of_cell? _ _ hv
   simp only at hb
   have hv1:wr.cell? ⟨b,o+k,none⟩=some (.int .i64 v):=((hs.rest ⟨b,o+k,none⟩ (Nat.ne_of_lt hb) (by simp;omega)).1.trans (World.cell?_of_block (Below.heap_alloc _ _ _ hb))).trans hv
   clear hv
   obtain ⟨⟨s,hd⟩,hf⟩:=hs.die.old
   have hst:=Lib.hid (fun s1:Int=>(hs.drew).trans (Stir.set hs.drew.die s1))
   have hlt':(k:Int)<(n:Int):=by omega
   have hk0:(0:Int)≤(k:Int):=by omega
   go_wp2
   go_still_tail 12,(by kernel_rfl)
   change wpList _ _ _ _ _ wr.drew
   go_wp2_with (go_at_call 39;refine (roll _ _ ?_).mono ?_;exact (hst.out _).die;rintro e w1 ⟨r,hr,rfl,hs1⟩;(have hs2:=(hst.out _).trans hs1))
   go_roundw
   case rel=>exact ⟨k+1,by omega,by go_num,hs2⟩
   case measure=>simp [intOf];omega
  ·go_wp2
   go_ret
   exact ⟨rfl,((Below.refl w.heap.size w).alloc (Nat.le_refl _) _).trans hs.below,hs.die,by have:=hs.below.size;simp at this;omega⟩
end Go.Proofs.Ytoklbkgcclkejaa.mdie
namespace Go.Abs
open Go.RowKit
variable {P:Program}
theorem mid_calls {cl:CallF} (hc:CallSound P cl) {f:FuncId} {fn:Func} (hf:P.funcs[f]? = some fn) {c0 c1 rest:Code} (hb:fn.body=some (.seq c0 (.seq c1 rest))) {X:FuncId→List Nat} {k:K} {A:Array Value} {W:World} {R:Ending→World→Prop}
  (h:c0.wp P (Exit.then (fun a w=>c1.wp P (Exit.then (fun a w=>∃ ρ L s v s',ActRel ρ fn.ntmps L [] a∧Clean (X f) L∧SRel ρ s w∧finA P fn (k cl ⟨f,none,fn.ntmps,X f⟩ L [] s)=.val v s'∧∀ ρ' V W',After ρ s w ρ' s' W'→VRel ρ' v V→R (.returned V) W') fun _ _ _=>False) a w) fun _ _ _=>False)
   { tmps:=A++Array.replicate (fn.ntmps - A.size) undef,defers:=[] } W)
  (hk:codeK P (X f) fn.ntmps rest=some k):Calls P f A W R:=by
 intro cs
 obtain ⟨b,hbd⟩:∃ b:Frame,b={ (default:Frame) with fn:=f,kind:=.normal }:=⟨_,rfl⟩
 have hr:b.roundOf=none:=by rw [hbd];rfl
 have henter:Frame.enter P f A .normal=b.at { tmps:=A++Array.replicate (fn.ntmps - A.size) undef,defers:=[] } [.code (.seq c0 (.seq c1 rest))]:=by
  rw [hbd];simp [Frame.enter,Frame.at,hf,hb]
 obtain ⟨e0,a0,w0,q0,ar0⟩:=h b [.code (.seq c1 rest)] cs
 cases e0<;>simp only [Exit.then] at q0
 obtain ⟨e1,a1,w1,q1,ar1⟩:=q0 b [.code rest] cs
 cases e1<;>simp only [Exit.then] at q1
 obtain ⟨ρ,L,s,v,s',hact,hclean,hs,hfin,hR⟩:=q1
 have st1:Steps P (lone (Frame.enter P f A .normal) cs W) (lone (b.atR a1 [.code rest]) cs w1):=by
  rw [henter,Frame.atR_of_none hr]
  exact (Steps.head step_seq ar0).trans (Steps.head step_seq ar1)
 have hctx:CtxRel ρ ⟨f,none,fn.ntmps,X f⟩ b:=⟨by rw [hbd],by rw [hbd],fun _=>hr,fun l e=>by cases e⟩
 generalize hr2:k cl ⟨f,none,fn.ntmps,X f⟩ L [] s=r at hfin
 cases r with
 | fail=>cases hfin
 | done e L1 d s₁ =>
  obtain ⟨ρ₁,a₁,W₁,af,ha₁,_,_,st⟩:=codeK_sound rest hk hc rfl rfl hctx hact hclean hs hr2
  have fin:∀ (hle:leaveA P fn.results.toList L1 d s₁=.val v s') (hst:∃ t,Steps P (lone (Frame.enter P f A .normal) cs W) (lone (back b a₁ t) cs W₁)),
    ∃ V w' fr,R (.returned V) w'∧Steps P (lone (Frame.enter P f A .normal) cs W) (lone fr cs w')∧fr.fn=f∧fr.leaving P w' (.returned V):=by
   intro hle hst
   obtain ⟨V,W₂,af₂,hv,st₂⟩:=leaveA_calls ha₁ af.rel hle
   obtain ⟨t,st₁⟩:=hst
   obtain ⟨fr,h1,h2,h3⟩:=st₂ b (by rw [hbd]) (by rw [hbd];exact hf) t cs
   exact ⟨V,W₂,fr,hR _ _ _ (af.trans af₂) hv,Steps.trans st₁ h1,by rw [h2,hbd],h3⟩
  cases e with
  | exit id=>cases hfin
  | norm =>
   have z:=st [] cs
   obtain ⟨V,w',fr,h1,h2,h3,h4⟩:=fin hfin ⟨[],st1.trans (Steps.trans z (.one (stepR_end hr)))⟩
   exact ⟨.returned V,w',fr,h1,h2,h3,h4⟩
  | ret =>
   obtain ⟨k0,z⟩:=st [] cs
   obtain ⟨V,w',fr,h1,h2,h3,h4⟩:=fin hfin ⟨.code .ret::k0,st1.trans (z.trans (.one (stepR_ret hr)))⟩
   exact ⟨.returned V,w',fr,h1,h2,h3,h4⟩
end Go.Abs
set_option maxRecDepth 10000
namespace Go.Proofs.Ytoklbkgcclkejaa.walk
open Go.Abs Go.RowKit Go.Proofs.Ytoklbkgcclkejaa.code
noncomputable def die0 (F:Int):St:=St.new ⟨.nil,0,far⟩ (.cells [.int .u64 F] (tag 74))
def rho0 (d:Nat):Rho:=fun b=>if b=0 then some (d,(0,0)) else none
theorem die0_get {F:Int} {b:Nat} {o:AObj} (h:(die0 F).h.get b=some o):b=0∧o=.cells [.int .u64 F] (tag 74):=by
 by_cases e:b=0
 ·subst e
  have:(die0 F).h.get 0=some (.cells [.int .u64 F] (tag 74)):=get_new_eq _ _ _ rfl (by decide)
  rw [this] at h
  exact ⟨rfl,(Option.some.inj h).symm⟩
 ·unfold die0 at h
  rw [get_new_ne _ _ _ e] at h
  cases h
theorem die0_has {F:Int} {b x:Nat} {o:AObj} (h:Has (die0 F).h b x o):b=0∧x=0∧o=.cells [.int .u64 F] (tag 74):=by
 obtain ⟨y,hy,hp⟩:=h
 obtain ⟨rfl,rfl⟩:=die0_get hy
 have hl:AObj.lone (.cells [.int .u64 F] (tag 74)):=trivial
 rw [parts_lone hl] at hp
 have:=List.mem_singleton.mp hp
 cases this
 exact ⟨rfl,rfl,rfl⟩
theorem die0_rel {F:Int} {d:Nat} {W:World} (h:W.heap[d]? = some (.cells #[.int .u64 F] 74 (0,0))):SRel (rho0 d) (die0 F) W:=by
 refine ⟨⟨fun b o hb=>?_,fun b x o hb=>?_,fun b b' x x' o o' c e e' hb hb' _ _=>?_,fun g cs hg=>(by cases hg),fun b x o c e hb hr=>rfl,fun b x x' o o' c e e' hb hb' hr hr'=>?_⟩,fun b hb=>?_⟩
 ·rw [(die0_get hb).1];decide
 ·obtain ⟨rfl,rfl,rfl⟩:=die0_has hb
  exact ⟨d,(0,0),_,if_pos rfl,h,.cells rfl (.cons (.int _ _) .nil) (Typed.tag _)⟩
 ·rw [(die0_has hb).1,(die0_has hb').1]
 ·obtain ⟨_,rfl,_⟩:=die0_has hb
  obtain ⟨_,rfl,_⟩:=die0_has hb'
  rw [hr] at hr'
  cases hr'
  rfl
 ·have:1≤b:=hb
  exact if_neg (by omega)
end Go.Proofs.Ytoklbkgcclkejaa.walk
set_option maxRecDepth 10000
namespace Go.Proofs.Ytoklbkgcclkejaa.walk
open Go.Abs Go.RowKit Go.Proofs.Ytoklbkgcclkejaa.code
set_option maxRecDepth 100000 in
theorem vfw_calls (a:Option Addr) (n c:Nat) (w:World) (hn:n≤maxLen) (hc:∀ i,i<n→∃ b o,a=some ⟨b,o,none⟩∧∃ v,w.cell? ⟨b,o+i,none⟩=some (.int .i64 v)) :
  Calls Try.prog 5 #[.slice a n c] w fun e w'=>e=.returned (.bool true)∧Below w.heap.size w w':=by
 have HC:=Lib.hid hc
 clear hc
 refine mid_calls (cl:=knows 19 (call Try.prog X 20)) (knows_sound (call_sound 200) Try.func19 awake.entered (call_sound 20)) Try.func5 rfl (X:=X) (k:=fewRest) ?_ (by kernel_rfl)
 simp only [Try.ntmps5,List.size_toArray,List.length_cons,List.length_nil,Nat.reduceAdd,Nat.reduceSub,Array.replicate_succ,Array.replicate_zero,List.push_toArray,List.append_toArray,List.nil_append,List.cons_append]
 go_wp2_with (go_at_call 10;((with_reducible refine (mdie.born _ _ _ _ hn HC.out).mono ?_);rintro e w1 ⟨rfl,hB1,⟨F,hF⟩,hg1⟩))
 have hd0:walk.Die 0 (die0 F).h:=⟨F,get_new_eq _ _ _ rfl (by decide)⟩
 obtain ⟨s',hs'⟩:=few_body 20 (by omega) ⟨5,none,Try.f5.ntmps,X 5⟩ (die0 F) 0 hd0 (by show 0<1;omega) (by show 1+900000000≤1000000000;omega) rfl
 refine ⟨rho0 w.heap.size,.cons 3 (.ptr 0 0) .nil,die0 F,.bool true,s',⟨fun t=>?_,rfl,.nil⟩,fun t ht=>?_,die0_rel hF,hs',fun ρ' V W' af hv=>?_⟩
 ·by_cases e:t=3
  ·subst e
   exact .ptr (e:=(0,0)) (if_pos rfl)
  ·rw [show (Env.cons 3 (.ptr 0 0) .nil).find t=AV.bad by rw [find_cons,if_neg (by omega)];rfl]
   exact .bad _
 ·by_cases e:t=3
  ·subst e
   have hx:(X 5).contains 3=true:=by kernel_rfl
   rw [hx] at ht
   cases ht
  ·rw [find_cons,if_neg (by omega)];rfl
 ·cases hv
  refine ⟨rfl,hB1.trans ⟨af.os,af.tape,af.output,af.size,fun k hk=>af.frame k (by omega) fun b x o e hb hr=>?_⟩⟩
  obtain ⟨_,rfl,_⟩:=die0_has hb
  have hr:some (w.heap.size,(0,0))=some (k,e):=hr
  injection hr with hr
  injection hr with hr _
  omega
end Go.Proofs.Ytoklbkgcclkejaa.walk
