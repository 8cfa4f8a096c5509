/- A lot that may be. -/
import Derived.Test.YtlfalcghhckanabM1
import Derived.Test.YtlfalcghhckanabCodes
import Derived.Test.YtlfalcghhckanabWalkAll
set_option linter.unusedSimpArgs false
set_option maxHeartbeats 16000000
set_option linter.unusedVariables false
set_option maxRecDepth 10000
namespace Go.Proofs.Ytlfalcghhckanab.walk
open Go.Abs Go.Proofs.Ytlfalcghhckanab.code
structure Stay where
 (box fro to:Int)
def Stay.cells (t:Stay):List AV:=[.int .i64 t.box,.int .i64 t.fro,.int .i64 t.to]
structure Stay.Ok (k:Nat) (t:Stay):Prop where
 b0:0≤t.box
 b1:t.box<k
 f0:0≤t.fro
 ft:t.fro<t.to
 t1:t.to≤240
structure Lot where
 (born keeps:Int) (stays:List Stay)
def Lot.free (l:Lot):Nat→Int
 | 0=>l.born
 | i+1=>match l.stays[i]? with
  | some t=>t.to
  | none=>0
structure Lot.Ok (k:Nat) (l:Lot):Prop where
 b0:0≤l.born
 b1:l.born≤239
 k0:0≤l.keeps
 k1:l.keeps≤100000
 s:l.stays.length≤8
 sok:∀ t ∈ l.stays,t.Ok k
 so:∀ i (h:i<l.stays.length),l.free i≤(l.stays[i]).fro
theorem stays_round (N:Nat) (hN:3≤N) (cx:Ctx) (l:Lot) (hl hh:Int) (k:Nat) (v1 v2 v3 v4:AV) (n1:v1≠.bad) (l1:∀ s,lenSlA s v1=.val (.int .i64 k) s) (p0:Nat) (u:St)
  (hR:RowsAt u.h u.n 3 (l.stays.map Stay.cells) v4) (hk:l.stays.length≤8) (hs:u.n+1000≤far) (hp:p0<u.n) (hg0:u.h.get p0=some (.cells [.int .i64 hl,.int .i64 hh,v1,v2,v3] (tag 31)))
  (i:Nat) (L:Env) (s:St) (hi:i<l.stays.length) (hb:(l.stays[i]).Ok k) (ho:l.free i≤(l.stays[i]).fro)
  (h2:L.find 2=.ptr p0 0) (h28:L.find 28=v4) (h29:L.find 29=.int .i64 l.stays.length) (h30:L.find 30=.int .i64 i) (h6:L.find 6=.int .i64 (l.free i)) (hE:Beside u s (2 * i)) :
  ∃ L1 s1,K44l0 (call Try.prog X N) cx L [] s=.done .norm L1 [] s1∧L1.find 2=.ptr p0 0∧L1.find 28=v4∧L1.find 29=.int .i64 l.stays.length∧L1.find 30=.int .i64 ((i:Int)+1) ∧
   L1.find 6=.int .i64 (l.free (i+1))∧Beside u s1 (2 * i+2):=by
 have hf:far=1000000000:=rfl
 obtain ⟨b,p,c,sz,hbn,hix,hg,hcut⟩:=hR.at_ i (by simpa using hi)
 rw [List.getElem_map] at hcut
 have hbf:l.free (i+1)=(l.stays[i]).to:=by simp only [Lot.free,List.getElem?_eq_getElem hi]
 rw [hbf]
 generalize l.free i=pr at ho h6
 generalize l.stays[i]=F at hb hcut ho
 obtain ⟨b0,b1,f0,ft,t1⟩:=hb
 unfold Stay.cells at hcut
 have e0:decide ((i:Int)<(l.stays.length:Int))=true:=by simp;omega
 have e1:decide (F.fro<F.to)=true:=by simp;omega
 have e2:decide (pr≤F.fro)=true:=by simp;omega
 have hg':s.h.get b=some (.cells c sz):=by rw [hE.same b hbn];exact hg
 have hg0':s.h.get p0=some (.cells [.int .i64 hl,.int .i64 hh,v1,v2,v3] (tag 31)):=by rw [hE.same p0 hp];exact hg0
 have q1:=hE.n
 have q2:=hE.le
 have q3:=hE.m
 have q4:=hE.far
 simp (disch:=first|omega|(with_unfolding_all exact rfl)|(simp only[new_n,put_n,new_m];omega)|(refine put_m_le ?_;simp only[new_m];omega)) only [res44,K44r0,K44r1,K44r2,K44r3,K44r4,K44r5,K44r6,K44r7,K44r8s20,K44r8s19,K44r8s18,K44r8s17,K44r8,K44r9,K44r10,K44r11,K44r12,K44l0,K44r13,K44,Abs.W,reduceIte,Nat.reduceEqDiff,Nat.reduceAdd,decide_true,decide_false,kLoop_def,Nat.reduceSub,List.cons_append,List.nil_append,List.append_nil,List.length_cons,List.length_nil,Env.find_set,h2,h6,h28,h29,h30,e0,hix,hg',hg0',hcut,within_ok,box_ok _ _ _ _ _ _ _ _ _ _ n1 l1,e1,e2,unless_ok,or_new4,aAdd_i64]
 exact ⟨_,_,rfl,by simp only [Env.find_set,h2,reduceIte,Nat.reduceEqDiff],by simp only [Env.find_set,h28,reduceIte,Nat.reduceEqDiff],by simp only [Env.find_set,h29,reduceIte,Nat.reduceEqDiff],by simp only [Env.find_set,reduceIte],
  by simp only [Env.find_set,reduceIte,Nat.reduceEqDiff],(((hE.new _).put _ q1).new _).mono (by omega)⟩
theorem lot_ok (N:Nat) (hN:5≤N) (l:Lot) (hl hh:Int) (k:Nat) (ok:l.Ok k) (v1 v2 v3 v4:AV) (n1:v1≠.bad) (l1:∀ s,lenSlA s v1=.val (.int .i64 k) s) (s:St)
  (hR:RowsAt s.h s.n 3 (l.stays.map Stay.cells) v4) (hs:s.n+3000≤far) :
  call Try.prog X N (.fn 44) [.agg [.int .i64 hl,.int .i64 hh,v1,v2,v3],.agg [.int .i64 l.born,.int .i64 l.keeps,v4]] s=.val (.int .i64 0) s:=by
 obtain ⟨n,rfl⟩:∃ n,N=n+1:=⟨N - 1,by omega⟩
 refine call_plain' Try.func44 (fun u uh un um=>?_) rfl
 have hf:far=1000000000:=rfl
 rw [← uh,← un] at hR
 have n4:=hR.ne
 have k4:∀ t,okA (.val v4 t)=.val v4 t:=fun t=>okA_ne n4
 have hlen:=hR.len
 rw [List.length_map] at hlen
 obtain ⟨b0,b1,k0,k1,sl,sok,so⟩:=ok
 -- both parameters, and the slice of the first region
 have hw0:∃ w:St,w=((u.new (.cells [.int .i64 hl,.int .i64 hh,v1,v2,v3] (tag 31))).new (.cells [.int .i64 l.born,.int .i64 l.keeps,v4] (tag 35))).new (.cells [.int .i64 0,.int .i64 0,.int .i64 0] 0):=⟨_,rfl⟩
 obtain ⟨w,hw0⟩:=hw0
 have wn:w.n=u.n+3:=by rw [hw0];rfl
 have wm:w.m=far:=by rw [hw0];exact um
 have g1:w.h.get u.n=some (.cells [.int .i64 hl,.int .i64 hh,v1,v2,v3] (tag 31)):=by
  rw [hw0,get_new_ne _ _ _ (by simp only [new_n];omega),get_new_ne _ _ _ (by simp only [new_n];omega)];exact get_new_eq _ _ _ rfl (by omega)
 have g2:w.h.get (u.n+1)=some (.cells [.int .i64 l.born,.int .i64 l.keeps,v4] (tag 35)):=by
  rw [hw0,get_new_ne _ _ _ (by simp only [new_n];omega)];exact get_new_eq _ _ _ rfl (by simp only [new_n];omega)
 have hRw:RowsAt w.h w.n 3 (l.stays.map Stay.cells) v4:=hR.grow (fun b hb=>by
  rw [hw0,get_new_ne _ _ _ (by simp only [new_n];omega),get_new_ne _ _ _ (by simp only [new_n];omega),get_new_ne _ _ _ (by omega)]) (by omega)
 obtain ⟨e,L1,s1,hL,⟨id,he⟩,hE⟩:=loop_run (body:=K44l0) (cl:=call Try.prog X n) (cx:=⟨44,none,Try.f44.ntmps,X 44⟩)
  (fun i L t=>L.find 2=.ptr u.n 0∧L.find 28=v4∧L.find 29=.int .i64 l.stays.length∧L.find 30=.int .i64 i∧L.find 6=.int .i64 (l.free i)∧Beside w t (2 * i)) (fun e _ t=>e=.exit 0∧Beside w t (2 * l.stays.length)) l.stays.length
  (fun i L t hi ⟨h1,h2,h3,h4,h5,h6⟩=>by
   obtain ⟨L1,s1,q1,q2,q3,q4,q5,q6,q7⟩:=stays_round n (by omega) _ l hl hh k v1 v2 v3 v4 n1 l1 u.n w hRw sl (by omega) (by omega) g1 i L t hi (sok _ (List.getElem_mem hi)) (so i hi) h1 h2 h3 h4 h5 h6
   exact ⟨L1,s1,q1,q2,q3,q4,by rw [q5];rfl,q6,q7⟩)
  (fun L t ⟨h1,h2,h3,h4,h5,h6⟩=>by
   have e0:decide ((l.stays.length:Int)<(l.stays.length:Int))=false:=by simp
   refine ⟨0,L.set 31 (.bool false),t,?_,rfl,h6⟩
   simp (disch:=first|omega|(with_unfolding_all exact rfl)|(simp only[new_n,put_n,new_m];omega)|(refine put_m_le ?_;simp only[new_m];omega)) only [res44,K44r0,K44r1,K44r2,K44r3,K44r4,K44r5,K44r6,K44r7,K44r8s20,K44r8s19,K44r8s18,K44r8s17,K44r8,K44r9,K44r10,K44r11,K44r12,K44l0,K44r13,K44,Abs.W,reduceIte,Nat.reduceEqDiff,Nat.reduceAdd,decide_true,decide_false,kLoop_def,Nat.reduceSub,List.cons_append,List.nil_append,List.append_nil,List.length_cons,List.length_nil,Env.find_set,h3,h4,e0])
  l.stays.length 0 rounds (.cons 0 (.agg [.int .i64 hl,.int .i64 hh,v1,v2,v3]) (.cons 1 (.agg [.int .i64 l.born,.int .i64 l.keeps,v4]) (.cons 2 (.ptr u.n 0) (.cons 3 (.ptr (u.n+1) 0) (.cons 4 (.int .i64 0) (.cons 5 (.int .i64 0) (.cons 23 (.bool false) (.cons 6 (.int .i64 l.born) (.cons 28 v4 (.cons 29 (.int .i64 l.stays.length) (.cons 30 (.int .i64 0) .nil))))))))))) w (by omega) (by unfold rounds;omega)
  ⟨rfl,rfl,rfl,rfl,rfl,Beside.refl w (by omega) wm⟩
 rw [enter44]
 simp (disch:=first|omega|(with_unfolding_all exact rfl)|(simp only[new_n,put_n,new_m];omega)|(refine put_m_le ?_;simp only[new_m];omega)) only [res44,K44r0,K44r1,K44r2,K44r3,K44r4,K44r5,K44r6,K44r7,K44r8s20,K44r8s19,K44r8s18,K44r8s17,K44r8,K44r9,K44r10,K44r11,K44r12,K44r13,K44,Abs.W,reduceIte,Nat.reduceEqDiff,Nat.reduceAdd,decide_true,decide_false,kLoop_def,Nat.reduceSub,List.cons_append,List.nil_append,List.append_nil,List.length_cons,List.length_nil,k4,hlen,hour_ok,within_ok,counted_ok,or_new3]
 rw [← hw0]
 simp only [new_n,hL]
 simp only [res44,K44r0,K44r1,K44r2,K44r3,K44r4,K44r5,K44r6,K44r7,K44r8s20,K44r8s19,K44r8s18,K44r8s17,K44r8,K44r9,K44r10,K44r11,K44r12,K44r13,K44,Abs.W,reduceIte,Nat.reduceEqDiff,Nat.reduceAdd,decide_true,decide_false,kLoop_def,Nat.reduceSub,List.cons_append,List.nil_append,List.append_nil,List.length_cons,List.length_nil,Env.find_set]
 exact ⟨_,rfl,by have:=hE.m;omega⟩
theorem checkLot_ok (N:Nat) (hN:6≤N) (c:Cellar) (ok:c.Ok) (l:Lot) (okl:l.Ok c.boxes.length) (v1 v2 v3 v4:AV) (s:St) (hC:CellarAt s.h s.n c v1 v2 v3) (hR:RowsAt s.h s.n 3 (l.stays.map Stay.cells) v4) (hs:s.n+4000≤far) :
  call Try.prog X N (.fn 25) [.agg [.int .i64 c.hl,.int .i64 c.hh,v1,v2,v3],.agg [.int .i64 l.born,.int .i64 l.keeps,v4]] s=.val (.int .i64 0) s:=by
 obtain ⟨n,rfl⟩:∃ n,N=n+1:=⟨N - 1,by omega⟩
 refine call_plain' Try.func25 (fun u uh un um=>?_) rfl
 have hf:far=1000000000:=rfl
 rw [← uh,← un] at hC hR
 have n1:=hC.b.ne
 have l1:=hC.b.len
 rw [List.length_map] at l1
 have hw0:∃ w:St,w=(u.new (.cells [.int .i64 c.hl,.int .i64 c.hh,v1,v2,v3] (tag 31))).new (.cells [.int .i64 l.born,.int .i64 l.keeps,v4] (tag 35)):=⟨_,rfl⟩
 obtain ⟨w,hw0⟩:=hw0
 have wn:w.n=u.n+2:=by rw [hw0];rfl
 have wm:w.m=far:=by rw [hw0];exact um
 have g1:w.h.get u.n=some (.cells [.int .i64 c.hl,.int .i64 c.hh,v1,v2,v3] (tag 31)):=by
  rw [hw0,get_new_ne _ _ _ (by simp only [new_n];omega)];exact get_new_eq _ _ _ rfl (by omega)
 have g2:w.h.get (u.new (.cells [.int .i64 c.hl,.int .i64 c.hh,v1,v2,v3] (tag 31))).n=some (.cells [.int .i64 l.born,.int .i64 l.keeps,v4] (tag 35)):=by
  rw [hw0];exact get_new_eq _ _ _ rfl (by simp only [new_n];omega)
 have hold:∀ b,b<u.n→w.h.get b=u.h.get b:=fun b hb=>by rw [hw0,get_new_ne _ _ _ (by simp only [new_n];omega),get_new_ne _ _ _ (by omega)]
 have hCw:CellarAt w.h w.n c v1 v2 v3:=hC.grow hold (by omega)
 have hRw:RowsAt w.h w.n 3 (l.stays.map Stay.cells) v4:=hR.grow hold (by omega)
 have c1:=fun t:St=>fun ht:t.h=w.h=>fun hn:t.n=w.n=>check_ok n (by omega) c ok v1 v2 v3 t (by rw [ht,hn];exact hCw) (by omega)
 have c2:=fun t:St=>fun ht:t.h=w.h=>fun hn:t.n=w.n=>lot_ok n (by omega) l c.hl c.hh c.boxes.length okl v1 v2 v3 v4 n1 l1 t (by rw [ht,hn];exact hRw) (by omega)
 rw [enter25]
 simp (disch:=first|omega|(with_unfolding_all exact rfl)|(simp only[new_n,put_n,new_m];omega)|(refine put_m_le ?_;simp only[new_m];omega)) only [res25,K25r0,K25r1,K25,Abs.W,reduceIte,Nat.reduceEqDiff,Nat.reduceAdd,decide_true,decide_false,kLoop_def,Nat.reduceSub,List.cons_append,List.nil_append,List.append_nil,List.length_cons,List.length_nil,← hw0,g1,g2,c1,c2,or_new2]
 exact ⟨_,rfl,by simp only [new_m];omega⟩
end Go.Proofs.Ytlfalcghhckanab.walk
set_option maxRecDepth 10000
namespace Go.Proofs.Ytlfalcghhckanab.walk
open Go.Abs Go.Proofs.Ytlfalcghhckanab.code
theorem leave_nil {P:Program} (L:Env) (s:St):leaveA P [] L [] s=.val (.tup []) s:=rfl
theorem call_turn {P:Program} {X:FuncId→List Nat} {n:Nat} {f:FuncId} {args:List AV} {s:St} {fn:Func} {v:AV} {t:St} (hf:P.funcs[f]? = some fn)
  (h:∀ u:St,u.h=s.h→u.n=s.n→u.m=far→∃ s',enterA P X (call P X n) f args u fn=.val v s'∧s'.m<s.n∧s'.h=t.h∧s'.n=t.n∧minN s.m s'.m=t.m):call P X (n+1) (.fn f) args s=.val v t:=by
 obtain ⟨s',h1,h2,h3,h4,h5⟩:=h ⟨s.h,s.n,far⟩ rfl rfl rfl
 show callStep P X (call P X n) (.fn f) args s=_
 have hb:Nat.ble s.n s'.m=false:=by
  cases hx:Nat.ble s.n s'.m
  ·rfl
  ·have:=Nat.le_of_ble_eq_true hx;omega
 unfold callStep
 simp only [hf,h1]
 unfold Abs.settle
 simp only [hb,h3,h4,h5]
 rfl
theorem verdict_ok (N:Nat) (hN:1≤N) (a b:Bool) (s:St) (hs:s.n≤far):call Try.prog X N (.fn 30) [.bool a,.bool b] s=.val (.int .i64 (if b then 1 else if a then 3 else 2)) s:=by
 obtain ⟨n,rfl⟩:∃ n,N=n+1:=⟨N - 1,by omega⟩
 refine call_plain' Try.func30 (fun u uh un um=>?_) rfl
 rw [enter30]
 cases b<;>cases a<;>simp only [res30,K30r0,K30r1,K30r2,K30r3,K30r4,K30r5,K30,Abs.W,reduceIte,Nat.reduceEqDiff,Nat.reduceAdd,decide_true,decide_false,kLoop_def,Nat.reduceSub,List.cons_append,List.nil_append,List.append_nil,List.length_cons,List.length_nil,Bool.false_eq_true]<;>exact ⟨_,rfl,by omega⟩
theorem begin1_ok (N:Nat) (hN:1≤N) (b h g box:Int) (p:Nat) (sz:Nat) (c:List AV) (s:St) (hp:p<s.n) (hg:s.h.get p=some (.cells (.int .i64 box::c) sz)) (hs:s.n+100≤far) :
  call Try.prog X N (.fn 60) [.agg [.int .i64 b,.int .i64 h,.int .i64 g],.ptr p 0] s=.val (.bool (!decide (b=box))) s:=by
 obtain ⟨n,rfl⟩:∃ n,N=n+1:=⟨N - 1,by omega⟩
 refine call_plain' Try.func60 (fun u uh un um=>?_) rfl
 have hf:far=1000000000:=rfl
 rw [← uh] at hg
 rw [enter60]
 simp (disch:=first|omega|(with_unfolding_all exact rfl)|(simp only[new_n,put_n,new_m];omega)|(refine put_m_le ?_;simp only[new_m];omega)) only [res60,K60r0,K60r1,K60,Abs.W,reduceIte,Nat.reduceEqDiff,Nat.reduceAdd,decide_true,decide_false,kLoop_def,Nat.reduceSub,List.cons_append,List.nil_append,List.append_nil,List.length_cons,List.length_nil,hg]
 exact ⟨_,rfl,by simp only [new_m];omega⟩
theorem melt_ok (N:Nat) (hN:1≤N) (a0 a1 a2 m0 m1 a5 a6 a7 a8 a9 i0 i1:Int) (v:AV) (hv:scalars [v]=true) (p sz:Nat) (s:St) (hp:p<s.n)
  (hg:s.h.get p=some (.cells [.int .i64 a0,.int .i64 a1,.int .i64 a2,.int .i64 m0,.int .i64 m1,.int .i64 a5,.int .i64 a6,.int .i64 a7,.int .i64 a8,.int .i64 a9,.int .i64 i0,.int .i64 i1,v] sz))
  (hi0:0≤i0∧i0≤1000000) (hi1:0≤i1∧i1≤1000000) (hm0:0≤m0∧m0≤1000000) (hm1:0≤m1∧m1≤1000000) (hs:s.n+100≤far) :
  call Try.prog X N (.fn 66) [.ptr p 0] s=.val (.tup []) ((s.put p (.cells [.int .i64 a0,.int .i64 a1,.int .i64 a2,.int .i64 m0,.int .i64 m1,.int .i64 a5,.int .i64 a6,.int .i64 a7,.int .i64 a8,.int .i64 a9,.int .i64 (max 0 (i0 - m1)),.int .i64 i1,v] sz)).put p (.cells [.int .i64 a0,.int .i64 a1,.int .i64 a2,.int .i64 m0,.int .i64 m1,.int .i64 a5,.int .i64 a6,.int .i64 a7,.int .i64 a8,.int .i64 a9,.int .i64 (max 0 (i0 - m1)),.int .i64 (max 0 (i1 - m0)),v] sz)):=by
 obtain ⟨n,rfl⟩:∃ n,N=n+1:=⟨N - 1,by omega⟩
 refine call_turn Try.func66 (fun u uh un um=>?_)
 have hf:far=1000000000:=rfl
 rw [← uh] at hg
 rw [enter66]
 simp (disch:=first|omega|(with_unfolding_all exact rfl)|(simp only[new_n,put_n,new_m];omega)|(refine put_m_le ?_;simp only[new_m];omega)) only [res66,K66r0,K66r1,K66,Abs.W,reduceIte,Nat.reduceEqDiff,Nat.reduceAdd,decide_true,decide_false,kLoop_def,Nat.reduceSub,List.cons_append,List.nil_append,List.append_nil,List.length_cons,List.length_nil,hg,ixa2_0,ixa2_1,kFold_def,foldA_nil,foldA_cons,maxA_i64,leave_nil,aSub_i64,cellsOf_int,Nat.zero_add]
 refine ⟨_,rfl,?_,?_,?_,?_⟩<;>simp only [St.put,minN_eq,uh,un,um]<;>omega
end Go.Proofs.Ytlfalcghhckanab.walk
set_option maxRecDepth 10000
namespace Go.Proofs.Ytlfalcghhckanab.walk
open Go.Abs Go.Proofs.Ytlfalcghhckanab.code
def rounds3:Nat:=rounds - 3
theorem kLoop_3 (b:K) (cl:CallF) (c:Ctx) (L:Env) (d:List Nat) (s:St):kLoop b cl c L d s=loopN b (rounds3+1+1+1) cl c L d s:=by
 rw [kLoop_def]
 have:rounds=rounds3+1+1+1:=by unfold rounds3 rounds;rfl
 rw [← this]
theorem put_ok (N:Nat) (hN:1≤N) (room a1 a2 m0 m1 a5 a6 a7 a8 a9 i0 i1 g:Int) (v:AV) (hv:scalars [v]=true) (p sz:Nat) (s:St) (hp:p<s.n)
  (hg:s.h.get p=some (.cells [.int .i64 room,.int .i64 a1,.int .i64 a2,.int .i64 m0,.int .i64 m1,.int .i64 a5,.int .i64 a6,.int .i64 a7,.int .i64 a8,.int .i64 a9,.int .i64 i0,.int .i64 i1,v] sz))
  (hi0:0≤i0∧i0≤1000000) (hi1:0≤i1∧i1≤1000000) (hgr:0≤g∧g≤1000000) (hs:s.n+100≤far) :
  call Try.prog X N (.fn 75) [.ptr p 0,.int .i64 g] s=.val (.tup []) ((s.put p (.cells [.int .i64 room,.int .i64 a1,.int .i64 a2,.int .i64 m0,.int .i64 m1,.int .i64 a5,.int .i64 a6,.int .i64 a7,.int .i64 a8,.int .i64 a9,.int .i64 (min (i0+g) room),.int .i64 i1,v] sz)).put p (.cells [.int .i64 room,.int .i64 a1,.int .i64 a2,.int .i64 m0,.int .i64 m1,.int .i64 a5,.int .i64 a6,.int .i64 a7,.int .i64 a8,.int .i64 a9,.int .i64 (min (i0+g) room),.int .i64 (min (i1+g) room),v] sz)):=by
 obtain ⟨n,rfl⟩:∃ n,N=n+1:=⟨N - 1,by omega⟩
 refine call_turn Try.func75 (fun u uh un um=>?_)
 have hf:far=1000000000:=rfl
 rw [← uh] at hg
 have l0:decide ((0:Int)<2)=true:=rfl
 have l1:decide ((1:Int)<2)=true:=rfl
 have l2:decide ((2:Int)<2)=false:=rfl
 have p0:∀ s,aAdd s .i64 0 1=.val (.int .i64 1) s:=fun s=>aAdd_i64 s 0 1 (by omega)
 have p1:∀ s,aAdd s .i64 1 1=.val (.int .i64 2) s:=fun s=>aAdd_i64 s 1 1 (by omega)
 have p2:∀ s,aAdd s .i64 i0 g=.val (.int .i64 (i0+g)) s:=fun s=>aAdd_i64 s i0 g (by omega)
 have p3:∀ s,aAdd s .i64 i1 g=.val (.int .i64 (i1+g)) s:=fun s=>aAdd_i64 s i1 g (by omega)
 rw [enter75]
 simp (disch:=first | omega | (with_unfolding_all exact rfl) | (simp only [new_n,put_n,new_m];omega)) only [res75,K75r0,K75r1,K75r2,K75r3,K75r4,K75l0,K75,Abs.W,reduceIte,Nat.reduceEqDiff,Nat.reduceAdd,decide_true,decide_false,Nat.reduceSub,List.cons_append,List.nil_append,List.append_nil,List.length_cons,List.length_nil,kLoop_3,loopN_succ,hg,l0,l1,l2,p0,p1,p2,p3,ixa2_0,ixa2_1,kFold_def,foldA_nil,foldA_cons,minA_i64,leave_nil,Nat.zero_add]
 refine ⟨_,rfl,?_,?_,?_,?_⟩<;>simp only [St.put,minN_eq,uh,un,um]<;>omega
theorem put_m_le' {s:St} {b k:Nat} {o:AObj} (h:k≤s.m) (hb:k≤b):k≤(s.put b o).m:=by
 show k≤minN s.m b
 rw [minN_eq]
 omega
theorem endsOf_ok (N:Nat) (hN:1≤N) (a b:Int) (s:St) (hs:s.n+100≤far):call Try.prog X N (.fn 61) [.agg [.int .i64 a,.int .i64 b]] s=.val (.agg [.int .i64 a,.int .i64 b]) s:=by
 obtain ⟨n,rfl⟩:∃ n,N=n+1:=⟨N - 1,by omega⟩
 refine call_plain' Try.func61 (fun u uh un um=>?_) rfl
 have hf:far=1000000000:=rfl
 rw [enter61]
 simp (disch:=first|omega|(with_unfolding_all exact rfl)|(simp only[new_n,put_n,new_m];omega)|(refine put_m_le ?_;simp only[new_m];omega)) only [res61,K61r0,K61r1,K61,Abs.W,reduceIte,Nat.reduceEqDiff,Nat.reduceAdd,decide_true,decide_false,kLoop_def,Nat.reduceSub,List.cons_append,List.nil_append,List.append_nil,List.length_cons,List.length_nil,Nat.zero_add]
 refine ⟨_,leave_cell _ _ _ _ (sh:=some 2) (by kernel_rfl) ?_,?_⟩
 ·simp (disch:=first|omega|(with_unfolding_all exact rfl)|(simp only[new_n,put_n,new_m];omega)|(refine put_m_le ?_;simp only[new_m];omega)) only [Abs.W,reduceIte,Nat.reduceEqDiff,Nat.reduceAdd,decide_true,decide_false,kLoop_def,Nat.reduceSub,List.cons_append,List.nil_append,List.append_nil,List.length_cons,List.length_nil]
 ·refine put_m_le' ?_ ?_<;>simp only [new_m,new_n]<;>omega
theorem endsSpan_ok (N:Nat) (hN:1≤N) (a b:Int) (s:St) (hs:s.n+100≤far):call Try.prog X N (.fn 43) [.agg [.int .i64 a,.int .i64 b]] s=.val (.agg [.int .i64 a,.int .i64 b]) s:=by
 obtain ⟨n,rfl⟩:∃ n,N=n+1:=⟨N - 1,by omega⟩
 refine call_plain' Try.func43 (fun u uh un um=>?_) rfl
 have hf:far=1000000000:=rfl
 rw [enter43]
 simp (disch:=first|omega|(with_unfolding_all exact rfl)|(simp only[new_n,put_n,new_m];omega)|(refine put_m_le ?_;simp only[new_m];omega)) only [res43,K43r0,K43r1,K43,Abs.W,reduceIte,Nat.reduceEqDiff,Nat.reduceAdd,decide_true,decide_false,kLoop_def,Nat.reduceSub,List.cons_append,List.nil_append,List.append_nil,List.length_cons,List.length_nil,Nat.zero_add,ixa2_0,ixa2_1]
 refine ⟨_,leave_cell _ _ _ _ (sh:=some 2) (by kernel_rfl) ?_,?_⟩
 ·simp (disch:=first|omega|(with_unfolding_all exact rfl)|(simp only[new_n,put_n,new_m];omega)|(refine put_m_le ?_;simp only[new_m];omega)) only [Abs.W,reduceIte,Nat.reduceEqDiff,Nat.reduceAdd,decide_true,decide_false,kLoop_def,Nat.reduceSub,List.cons_append,List.nil_append,List.append_nil,List.length_cons,List.length_nil]
 ·refine put_m_le' ?_ ?_<;>simp only [new_m,new_n]<;>omega
end Go.Proofs.Ytlfalcghhckanab.walk
set_option maxRecDepth 10000
namespace Go.Proofs.Ytlfalcghhckanab.walk
open Go.Abs Go.Proofs.Ytlfalcghhckanab.code
variable {z:Nat}
theorem kSlice_def (f:Option AV→Option AV→St→AV→ARes) (x:Arg) (lo hi:Option Arg) (L:Env) (s:St):kSlice f x lo hi L s=f (optEv lo L) (optEv hi L) s (x.ev L):=rfl
theorem optEv_some (a:Arg) (L:Env):optEv (some a) L=some (a.ev L):=rfl
theorem optEv_none (L:Env):optEv none L=none:=rfl
structure BoxNow where
 (room a1 a2 m0 m1 a5 a6 a7 a8 hour i0 i1:Int)
def BoxNow.cells (x:BoxNow) (v:AV):List AV:=[.int .i64 x.room,.int .i64 x.a1,.int .i64 x.a2,.int .i64 x.m0,.int .i64 x.m1,.int .i64 x.a5,.int .i64 x.a6,.int .i64 x.a7,.int .i64 x.a8,.int .i64 x.hour,.int .i64 x.i0,.int .i64 x.i1,v]
structure Head (h:Heap) (z p:Nat) (v v':AV) (len hour g:Int):Prop where
 count:∀ s,lenSlA s v=.val (.int .i64 len) s
 pos:0<len
 ok:∀ t,okA (.val v t)=.val v t
 sc:scalars [v]=true
 cell:cellsOf 1 v'=some [v']
 sc':scalars [v']=true
 rest:∀ s,sliceVal 3 (some (.int .i64 1)) none s v=.val v' s
 at_:∃ b o c sz,(b≠p∧b<z)∧(∀ s,ixsA 3 s v (.int .i64 0)=.val (.ptr b o) s)∧h.get b=some (.cells c sz)∧nth c (o+1)=.int .i64 hour∧nth c (o+2)=.int .i64 g
theorem fill_round (N:Nat) (hN:1≤N) (cx:Ctx) (x:BoxNow) (v v':AV) (len g:Int) (p sz:Nat) (s:St) (L:Env) (hp:p<s.n) (hg:s.h.get p=some (.cells (x.cells v) sz)) (hd:Head s.h z p v v' len x.hour g)
  (hi0:0≤x.i0∧x.i0≤1000000) (hi1:0≤x.i1∧x.i1≤1000000) (hgr:0≤g∧g≤1000000) (hs:s.n+100≤far) (h0:L.find 0=.ptr p 0) :
  ∃ L1,K65l0 (call Try.prog X N) cx L [] s=.done .norm L1 [] (((s.put p (.cells ({x with i0:=min (x.i0+g) x.room}.cells v) sz)).put p (.cells ({x with i0:=min (x.i0+g) x.room,i1:=min (x.i1+g) x.room}.cells v) sz)).put p (.cells ({x with i0:=min (x.i0+g) x.room,i1:=min (x.i1+g) x.room}.cells v') sz))∧L1.find 0=.ptr p 0:=by
 have hf:far=1000000000:=rfl
 obtain ⟨dl,dp,dk,ds,dc,ds',dr,b,o,c,sz2,hbp,hix,hgb,hh,hgg⟩:=hd
 have hput:=put_ok N hN x.room x.a1 x.a2 x.m0 x.m1 x.a5 x.a6 x.a7 x.a8 x.hour x.i0 x.i1 g v ds p sz s hp hg hi0 hi1 hgr hs
 have e0:decide (0<len)=true:=by simpa using dp
 have e1:∀ a:Int,decide (a=a)=true:=fun a=>by simp
 simp only [BoxNow.cells] at hg ⊢
 simp (disch:=first|omega|(with_unfolding_all exact rfl)|(simp only[new_n,put_n,new_m];omega)|(refine put_m_le ?_;simp only[new_m];omega)) only [res65,K65r0s19,K65r0s18,K65r0s17,K65r0s16,K65r0s15,K65r0s14,K65r0s13,K65r0s12,K65r0s11,K65r0s10,K65r0s9,K65r0s8,K65r0,K65r1,K65r2,K65l0,K65,Abs.W,reduceIte,Nat.reduceEqDiff,Nat.reduceAdd,decide_true,decide_false,kLoop_def,Nat.reduceSub,List.cons_append,List.nil_append,List.append_nil,List.length_cons,List.length_nil,h0,hg,dl,dk,dc,ds',dr,hix,hgb,hh,hgg,e0,e1,hput,kSlice_def,optEv_some,optEv_none,Nat.zero_add,Env.find_set,ixa2_0]
 exact ⟨_,rfl,by simp only [Env.find_set,h0,reduceIte,Nat.reduceEqDiff]⟩
theorem fill_none (N:Nat) (cx:Ctx) (x:BoxNow) (v:AV) (p sz:Nat) (s:St) (L:Env) (hg:s.h.get p=some (.cells (x.cells v) sz)) (dl:∀ s,lenSlA s v=.val (.int .i64 0) s) (dk:∀ t,okA (.val v t)=.val v t) (hs:s.n+100≤far) (h0:L.find 0=.ptr p 0) :
  ∃ L1,K65l0 (call Try.prog X N) cx L [] s=.done (.exit 0) L1 [] s:=by
 have hf:far=1000000000:=rfl
 have e0:decide ((0:Int)<0)=false:=rfl
 simp only [BoxNow.cells] at hg
 simp (disch:=first|omega|(with_unfolding_all exact rfl)|(simp only[new_n,put_n,new_m];omega)|(refine put_m_le ?_;simp only[new_m];omega)) only [res65,K65r0s19,K65r0s18,K65r0s17,K65r0s16,K65r0s15,K65r0s14,K65r0s13,K65r0s12,K65r0s11,K65r0s10,K65r0s9,K65r0s8,K65r0,K65r1,K65r2,K65l0,K65,Abs.W,reduceIte,Nat.reduceEqDiff,Nat.reduceAdd,decide_true,decide_false,kLoop_def,Nat.reduceSub,List.cons_append,List.nil_append,List.append_nil,List.length_cons,List.length_nil,h0,hg,dl,dk,e0,Nat.zero_add,Env.find_set]
 exact ⟨_,rfl⟩
theorem fill_later (N:Nat) (cx:Ctx) (x:BoxNow) (v v':AV) (len hour g:Int) (p sz:Nat) (s:St) (L:Env) (hg:s.h.get p=some (.cells (x.cells v) sz)) (hd:Head s.h z p v v' len hour g) (hne:hour≠x.hour) (hs:s.n+100≤far) (h0:L.find 0=.ptr p 0) :
  ∃ L1,K65l0 (call Try.prog X N) cx L [] s=.done (.exit 0) L1 [] s:=by
 obtain ⟨dl,dp,dk,ds,dc,ds',dr,b,o,c,sz2,hbp,hix,hgb,hh,hgg⟩:=hd
 have e0:decide (0<len)=true:=by simpa using dp
 have hf:far=1000000000:=rfl
 have e1:decide (hour=x.hour)=false:=by simpa using hne
 simp only [BoxNow.cells] at hg
 simp (disch:=first|omega|(with_unfolding_all exact rfl)|(simp only[new_n,put_n,new_m];omega)|(refine put_m_le ?_;simp only[new_m];omega)) only [res65,K65r0s19,K65r0s18,K65r0s17,K65r0s16,K65r0s15,K65r0s14,K65r0s13,K65r0s12,K65r0s11,K65r0s10,K65r0s9,K65r0s8,K65r0,K65r1,K65r2,K65l0,K65,Abs.W,reduceIte,Nat.reduceEqDiff,Nat.reduceAdd,decide_true,decide_false,kLoop_def,Nat.reduceSub,List.cons_append,List.nil_append,List.append_nil,List.length_cons,List.length_nil,h0,hg,dl,dk,hix,hgb,hh,e0,e1,Nat.zero_add,Env.find_set]
 exact ⟨_,rfl⟩
inductive Rests (h:Heap) (z p:Nat):AV→List (Int × Int)→Prop
 | nil (v:AV):(∀ s,lenSlA s v=.val (.int .i64 0) s)→(∀ t,okA (.val v t)=.val v t)→scalars [v]=true→Rests h z p v []
 | cons (v v':AV) (len hour g:Int) (fs:List (Int × Int)):Head h z p v v' len hour g→0≤g∧g≤1000000→Rests h z p v' fs→Rests h z p v ((hour,g)::fs)
theorem Head.grow {h h':Heap} {p:Nat} {v v':AV} {len hour g:Int} (r:Head h z p v v' len hour g) (hh:∀ b,b≠p→b<z→h'.get b=h.get b):Head h' z p v v' len hour g:=by
 obtain ⟨dl,dp,dk,ds,dc,ds',dr,b,o,c,sz2,hbp,hix,hgb,h1,h2⟩:=r
 exact ⟨dl,dp,dk,ds,dc,ds',dr,b,o,c,sz2,hbp,hix,by rw [hh b hbp.1 hbp.2];exact hgb,h1,h2⟩
theorem Rests.grow {h h':Heap} {p:Nat} {v:AV} {fs:List (Int × Int)} (r:Rests h z p v fs) (hh:∀ b,b≠p→b<z→h'.get b=h.get b):Rests h' z p v fs:=by
 induction r with
 | nil v h1 h2 h3=>exact .nil v h1 h2 h3
 | cons v v' len hour g fs h1 h2 _ ih=>exact .cons v v' len hour g fs (h1.grow hh) h2 ih
def BoxNow.put (x:BoxNow) (g:Int):BoxNow:={x with i0:=min (x.i0+g) x.room,i1:=min (x.i1+g) x.room}
def BoxNow.fill (x:BoxNow):List (Int × Int)→BoxNow
 | []=>x
 | (hour,g)::r=>if hour=x.hour then (x.put g).fill r else x
def left (hour:Int):List (Int × Int)→List (Int × Int)
 | []=>[]
 | (h,g)::r=>if h=hour then left hour r else (h,g)::r
structure BoxNow.Fits (x:BoxNow):Prop where
 r:0≤x.room∧x.room≤1000000
 i0:0≤x.i0∧x.i0≤1000000
 i1:0≤x.i1∧x.i1≤1000000
theorem BoxNow.Fits.put {x:BoxNow} (h:x.Fits) {g:Int} (hg:0≤g∧g≤1000000):(x.put g).Fits:=by
 obtain ⟨h1,h2,h3⟩:=h
 refine ⟨h1,?_,?_⟩<;>simp only [BoxNow.put]<;>omega
structure Turned (p:Nat) (s s':St):Prop where
 same:∀ b,b≠p→s'.h.get b=s.h.get b
 n:s'.n=s.n
 or:(s'.h=s.h∧s'.m=s.m)∨s'.m=min s.m p
theorem fill_round' (N:Nat) (hN:1≤N) (cx:Ctx) (x:BoxNow) (v v':AV) (len g:Int) (p sz:Nat) (s:St) (L:Env) (hp:p<s.n) (hg:s.h.get p=some (.cells (x.cells v) sz)) (hd:Head s.h z p v v' len x.hour g)
  (hx:x.Fits) (hgr:0≤g∧g≤1000000) (hs:s.n+100≤far) (h0:L.find 0=.ptr p 0) :
  ∃ L1 S,K65l0 (call Try.prog X N) cx L [] s=.done .norm L1 [] S∧L1.find 0=.ptr p 0∧S.h.get p=some (.cells ((x.put g).cells v') sz)∧(∀ b,b≠p→S.h.get b=s.h.get b)∧S.n=s.n∧S.m=min s.m p:=by
 obtain ⟨L1,e,h1⟩:=fill_round N hN cx x v v' len g p sz s L hp hg hd hx.i0 hx.i1 hgr hs h0
 have hff:far=1000000000:=rfl
 have hb:p<549755813888:=by omega
 refine ⟨L1,_,e,h1,get_put_eq _ _ _ _ rfl hb,fun b hb=>?_,rfl,?_⟩
 ·rw [get_put_ne' _ _ _ _ hb,get_put_ne' _ _ _ _ hb,get_put_ne' _ _ _ _ hb]
 ·simp only [St.put,minN_eq];omega
theorem fill_loop (N:Nat) (hN:1≤N) (cx:Ctx) (p sz:Nat):∀ (fs:List (Int × Int)) (fuel:Nat) (x:BoxNow) (v:AV) (s:St) (L:Env),fs.length<fuel→p<s.n→s.n+100≤far →
  s.h.get p=some (.cells (x.cells v) sz)→Rests s.h z p v fs→x.Fits→L.find 0=.ptr p 0 →
  ∃ L1 s' v',loopN K65l0 fuel (call Try.prog X N) cx L [] s=.done (.exit 0) L1 [] s'∧s'.h.get p=some (.cells ((x.fill fs).cells v') sz)∧Rests s'.h z p v' (left x.hour fs)∧Turned p s s'
 | [],fuel,x,v,s,L,hf,hp,hs,hg,hr,hx,h0=>by
  obtain ⟨m,rfl⟩:∃ m,fuel=m+1:=⟨fuel - 1,by simp at hf;omega⟩
  cases hr with
  | nil _ h1 h2 h3 =>
   obtain ⟨L1,e⟩:=fill_none N cx x v p sz s L hg h1 h2 hs h0
   exact ⟨L1,s,v,by rw [loopN_succ,e,thenK_exit],hg,.nil v h1 h2 h3,fun _ _=>rfl,rfl,.inl ⟨rfl,rfl⟩⟩
 | (hour,g)::fs,fuel,x,v,s,L,hf,hp,hs,hg,hr,hx,h0=>by
  obtain ⟨m,rfl⟩:∃ m,fuel=m+1:=⟨fuel - 1,by simp at hf;omega⟩
  cases hr with
  | cons _ v' len _ _ _ hd hgr hr =>
   by_cases hh:hour=x.hour
   ·subst hh
    obtain ⟨L1,S,e,h1,g1,g2,g3,g4⟩:=fill_round' N hN cx x v v' len g p sz s L hp hg hd hx hgr hs h0
    obtain ⟨L2,s',w,e2,hg2,hr2,ht⟩:=fill_loop N hN cx p sz fs m (x.put g) v' S L1 (by simp at hf;omega) (by omega) (by omega) g1 (hr.grow fun b hb _=>g2 b hb) (hx.put hgr) h1
    refine ⟨L2,s',w,by rw [loopN_succ,e,thenK_norm];exact e2,?_,?_,?_⟩
    ·simp only [BoxNow.fill,reduceIte];exact hg2
    ·simp only [left,reduceIte];exact hr2
    ·obtain ⟨t1,t2,t3⟩:=ht
     refine ⟨fun b hb=>by rw [t1 b hb,g2 b hb],by rw [t2,g3],.inr ?_⟩
     rcases t3 with ⟨_,t3⟩ | t3<;>rw [t3]<;>omega
   ·obtain ⟨L1,e⟩:=fill_later N cx x v v' len hour g p sz s L hg hd hh hs h0
    refine ⟨L1,s,v,by rw [loopN_succ,e,thenK_exit],?_,?_,fun _ _=>rfl,rfl,.inl ⟨rfl,rfl⟩⟩
    ·simp only [BoxNow.fill,if_neg hh];exact hg
    ·simp only [left,if_neg hh];exact .cons _ v' len _ _ _ hd hgr hr
theorem fill_ok (N:Nat) (hN:2≤N) (x:BoxNow) (fs:List (Int × Int)) (v:AV) (p sz:Nat) (s:St) (hk:fs.length≤1000) (hp:p<s.n) (hs:s.n+100≤far) (hg:s.h.get p=some (.cells (x.cells v) sz)) (hr:Rests s.h z p v fs) (hx:x.Fits) :
  ∃ s' v',call Try.prog X N (.fn 65) [.ptr p 0] s=.val (.tup []) s'∧s'.h.get p=some (.cells ((x.fill fs).cells v') sz)∧Rests s'.h z p v' (left x.hour fs)∧Turned p s s':=by
 obtain ⟨n,rfl⟩:∃ n,N=n+1:=⟨N - 1,by omega⟩
 have hff:far=1000000000:=rfl
 obtain ⟨L1,s1,v',e,h1,h2,h3⟩:=fill_loop n (by omega) ⟨65,none,Try.f65.ntmps,X 65⟩ p sz fs rounds x v ⟨s.h,s.n,far⟩ (.cons 0 (.ptr p 0) .nil) (by unfold rounds;omega) hp hs hg hr hx rfl
 have hrun:∀ u:St,u.h=s.h→u.n=s.n→u.m=far→enterA Try.prog X (call Try.prog X n) 65 [.ptr p 0] u Try.f65=.val (.tup []) s1:=fun u uh un um=>by
  obtain ⟨uh',un',um'⟩:=u
  simp only at uh un um
  subst uh un um
  rw [enter65]
  simp only [res65,K65r0s19,K65r0s18,K65r0s17,K65r0s16,K65r0s15,K65r0s14,K65r0s13,K65r0s12,K65r0s11,K65r0s10,K65r0s9,K65r0s8,K65r0,K65r1,K65r2,K65,Abs.W,reduceIte,Nat.reduceEqDiff,Nat.reduceAdd,decide_true,decide_false,kLoop_def,Nat.reduceSub,List.cons_append,List.nil_append,List.append_nil,List.length_cons,List.length_nil,e,leave_nil]
 obtain ⟨t1,t2,t3⟩:=h3
 rcases t3 with ⟨t3,t4⟩ | t3
 ·have hh:s.h=s1.h:=t3.symm
  refine ⟨s,v',call_plain' Try.func65 (fun u uh un um=>⟨s1,hrun u uh un um,?_⟩) rfl,by rw [hh];exact h1,by rw [hh];exact h2,fun _ _=>rfl,rfl,.inl ⟨rfl,rfl⟩⟩
  have:s1.m=far:=t4
  omega
 ·have hm:s1.m=p:=by rw [t3];show min far p=p;omega
  refine ⟨⟨s1.h,s1.n,min s.m p⟩,v',call_turn Try.func65 (fun u uh un um=>⟨s1,hrun u uh un um,by omega,rfl,rfl,?_⟩),h1,h2,t1,t2,.inr rfl⟩
  show minN s.m s1.m=min s.m p
  rw [minN_eq,hm]
end Go.Proofs.Ytlfalcghhckanab.walk
set_option maxRecDepth 10000
namespace Go.Proofs.Ytlfalcghhckanab.walk
open Go.Abs Go.Proofs.Ytlfalcghhckanab.code
def BoxNow.warmth (x:BoxNow) (j0 j1:Int):Int × Int:=(if 0<j1 then x.a5 else x.a7,if 0<j0 then x.a6 else x.a8)
theorem warmth_ok (N:Nat) (hN:2≤N) (x:BoxNow) (v:AV) (p sz:Nat) (j0 j1:Int) (s:St) (hp:p<s.n) (hs:s.n+200≤far) (hg:s.h.get p=some (.cells (x.cells v) sz)) :
  call Try.prog X N (.fn 46) [.ptr p 0,.agg [.int .i64 j0,.int .i64 j1]] s=.val (.agg [.int .i64 (x.warmth j0 j1).1,.int .i64 (x.warmth j0 j1).2]) s:=by
 obtain ⟨n,rfl⟩:∃ n,N=n+1:=⟨N - 1,by omega⟩
 refine call_plain' Try.func46 (fun u uh un um=>?_) rfl
 have hf:far=1000000000:=rfl
 rw [← uh] at hg
 simp only [BoxNow.cells] at hg
 have hn:∀ k,p≠u.n+k:=fun k=>by omega
 have sh:shapeT Try.prog 93=some (some 2):=by kernel_rfl
 rw [enter46]
 unfold BoxNow.warmth
 by_cases h1:0<j1<;>by_cases h0:0<j0
 all_goals
  simp (disch:=first | omega | (with_unfolding_all exact rfl) | (simp only [new_n,put_n,new_m];omega)) only [res46,K46r0,K46r1,K46r2,K46r3,K46r4,K46r5,K46r6,K46,Abs.W,reduceIte,Nat.reduceEqDiff,Nat.reduceAdd,decide_true,decide_false,kLoop_def,Nat.reduceSub,List.cons_append,List.nil_append,List.append_nil,List.length_cons,List.length_nil,hg,h0,h1,ixa2_0,ixa2_1,Nat.zero_add,endsOf_ok]
  refine ⟨_,leave_cell _ _ _ _ sh ?_,?_⟩
  ·simp (disch:=first | omega | (with_unfolding_all exact rfl) | (simp only [new_n,put_n,new_m];omega)) only [Abs.W,reduceIte,Nat.reduceEqDiff,Nat.reduceAdd,decide_true,decide_false,kLoop_def,Nat.reduceSub,List.cons_append,List.nil_append,List.append_nil,List.length_cons,List.length_nil]
  ·repeat' (first | refine put_m_le' ?_ ?_ | (simp only [new_m,new_n,put_n];omega))
end Go.Proofs.Ytlfalcghhckanab.walk
set_option maxRecDepth 10000
namespace Go.Proofs.Ytlfalcghhckanab.walk
open Go.Abs Go.Proofs.Ytlfalcghhckanab.code
structure WarmAt (h:Heap) (n:Nat) (vb:AV) (box hour w0 w1:Int):Prop where
 ok:∀ t,okA (.val vb t)=.val vb t
 at_:∃ vr b1 p1 c1 sz1 b2 p2 c2 sz2,b1<n∧b2<n∧(∀ s,ixsA 1 s vb (.int .i64 box)=.val (.ptr b1 p1) s)∧h.get b1=some (.cells c1 sz1)∧nth c1 p1=vr∧(∀ t,okA (.val vr t)=.val vr t) ∧
  (∀ s,ixsA 2 s vr (.int .i64 hour)=.val (.ptr b2 p2) s)∧h.get b2=some (.cells c2 sz2)∧cut p2 2 c2=some [.int .i64 w0,.int .i64 w1]
theorem around_no (N:Nat) (cx:Ctx) (ts:List Stay) (v4:AV) (u:St) (hour:Int) (hR:RowsAt u.h u.n 3 (ts.map Stay.cells) v4) (hk:ts.length≤8) (hs:u.n+1000≤far)
  (i:Nat) (L:Env) (s:St) (hi:i<ts.length) (hno:¬ ((ts[i]).fro≤hour∧hour<(ts[i]).to))
  (h2:L.find 2=.int .i64 hour) (h10:L.find 10=v4) (h11:L.find 11=.int .i64 ts.length) (h12:L.find 12=.int .i64 i) (hE:Beside u s i) :
  ∃ L1 s1,K69l0 (call Try.prog X N) cx L [] s=.done .norm L1 [] s1∧L1.find 2=.int .i64 hour∧L1.find 3=L.find 3∧L1.find 6=L.find 6∧L1.find 10=v4∧L1.find 11=.int .i64 ts.length∧L1.find 12=.int .i64 ((i:Int)+1)∧Beside u s1 (i+1):=by
 have hf:far=1000000000:=rfl
 obtain ⟨b,p,c,sz,hbn,hix,hg,hcut⟩:=hR.at_ i (by simpa using hi)
 rw [List.getElem_map] at hcut
 generalize ts[i]=F at hno hcut
 unfold Stay.cells at hcut
 have e0:decide ((i:Int)<(ts.length:Int))=true:=by simp;omega
 have hg':s.h.get b=some (.cells c sz):=by rw [hE.same b hbn];exact hg
 have q1:=hE.n
 have q2:=hE.le
 have q3:=hE.m
 have q4:=hE.far
 by_cases e1':F.fro≤hour
 ·have e1:decide (F.fro≤hour)=true:=by simpa using e1'
  have e2:decide (hour<F.to)=false:=by simp;omega
  simp (disch:=first|omega|(with_unfolding_all exact rfl)|(simp only[new_n,put_n,new_m];omega)|(refine put_m_le ?_;simp only[new_m];omega)) only [res69,K69r0,K69r1,K69r2,K69r3,K69r4s9,K69r4s8,K69r4s7,K69r4s6,K69r4,K69r5,K69r6,K69l0,K69r7,K69,Abs.W,reduceIte,Nat.reduceEqDiff,Nat.reduceAdd,decide_true,decide_false,kLoop_def,Nat.reduceSub,List.cons_append,List.nil_append,List.append_nil,List.length_cons,List.length_nil,Env.find_set,h2,h10,h11,h12,e0,hix,hg',hcut,e1,e2,aAdd_i64,Nat.zero_add]
  exact ⟨_,_,rfl,by simp only [Env.find_set,h2,reduceIte,Nat.reduceEqDiff],by simp only [Env.find_set,reduceIte,Nat.reduceEqDiff],by simp only [Env.find_set,reduceIte,Nat.reduceEqDiff],by simp only [Env.find_set,h10,reduceIte,Nat.reduceEqDiff],by simp only [Env.find_set,h11,reduceIte,Nat.reduceEqDiff],by simp only [Env.find_set,reduceIte],
   ((hE.new _).put _ q1)⟩
 ·have e1:decide (F.fro≤hour)=false:=by simpa using e1'
  simp (disch:=first|omega|(with_unfolding_all exact rfl)|(simp only[new_n,put_n,new_m];omega)|(refine put_m_le ?_;simp only[new_m];omega)) only [res69,K69r0,K69r1,K69r2,K69r3,K69r4s9,K69r4s8,K69r4s7,K69r4s6,K69r4,K69r5,K69r6,K69l0,K69r7,K69,Abs.W,reduceIte,Nat.reduceEqDiff,Nat.reduceAdd,decide_true,decide_false,kLoop_def,Nat.reduceSub,List.cons_append,List.nil_append,List.append_nil,List.length_cons,List.length_nil,Env.find_set,h2,h10,h11,h12,e0,hix,hg',hcut,e1,aAdd_i64,Nat.zero_add]
  exact ⟨_,_,rfl,by simp only [Env.find_set,h2,reduceIte,Nat.reduceEqDiff],by simp only [Env.find_set,reduceIte,Nat.reduceEqDiff],by simp only [Env.find_set,reduceIte,Nat.reduceEqDiff],by simp only [Env.find_set,h10,reduceIte,Nat.reduceEqDiff],by simp only [Env.find_set,h11,reduceIte,Nat.reduceEqDiff],by simp only [Env.find_set,reduceIte],
   ((hE.new _).put _ q1)⟩
theorem around_hit (N:Nat) (cx:Ctx) (ts:List Stay) (v4 vb:AV) (u:St) (hour w0 w1:Int) (hR:RowsAt u.h u.n 3 (ts.map Stay.cells) v4) (hk:ts.length≤8) (hs:u.n+1000≤far)
  (i:Nat) (L:Env) (s:St) (hi:i<ts.length) (hyes:(ts[i]).fro≤hour∧hour<(ts[i]).to) (p3 p6 k3 sz6:Nat) (z0 z1:Int) (a0 a1 a2 a3 a4:AV) (hW:WarmAt u.h u.n vb (ts[i]).box hour w0 w1)
  (hp3:p3<u.n) (hp6:p6<u.n) (g3:u.h.get p3=some (.cells [a0,a1,a2,a3,a4,vb] k3)) (g6:u.h.get p6=some (.cells [.int .i64 z0,.int .i64 z1] sz6))
  (h2:L.find 2=.int .i64 hour) (h3:L.find 3=.ptr p3 0) (h6:L.find 6=.ptr p6 0) (h10:L.find 10=v4) (h11:L.find 11=.int .i64 ts.length) (h12:L.find 12=.int .i64 i) (hE:Beside u s i) (m0:Nat) (hm0:m0≤p6) :
  ∃ L1 s1,K69l0 (call Try.prog X N) cx L [] s=.done .ret L1 [] s1∧L1.find 6=.ptr p6 0∧s1.h.get p6=some (.cells [.int .i64 w0,.int .i64 w1] sz6)∧m0≤s1.m:=by
 have hf:far=1000000000:=rfl
 obtain ⟨b,p,c,sz,hbn,hix,hg,hcut⟩:=hR.at_ i (by simpa using hi)
 rw [List.getElem_map] at hcut
 generalize ts[i]=F at hyes hcut hW
 unfold Stay.cells at hcut
 obtain ⟨wk,vr,b1,p1,c1,sz1,b2,p2,c2,sz2,hb1,hb2,hx1,hg1,hn1,rk,hx2,hg2,hc2⟩:=hW
 have e0:decide ((i:Int)<(ts.length:Int))=true:=by simp;omega
 have e1:decide (F.fro≤hour)=true:=by simpa using hyes.1
 have e2:decide (hour<F.to)=true:=by simpa using hyes.2
 have hg':s.h.get b=some (.cells c sz):=by rw [hE.same b hbn];exact hg
 have hg1':s.h.get b1=some (.cells c1 sz1):=by rw [hE.same b1 hb1];exact hg1
 have hg2':s.h.get b2=some (.cells c2 sz2):=by rw [hE.same b2 hb2];exact hg2
 have g3':s.h.get p3=some (.cells [a0,a1,a2,a3,a4,vb] k3):=by rw [hE.same p3 hp3];exact g3
 have g6':s.h.get p6=some (.cells [.int .i64 z0,.int .i64 z1] sz6):=by rw [hE.same p6 hp6];exact g6
 have q1:=hE.n
 have q2:=hE.le
 have q3:=hE.m
 have q4:=hE.far
 simp (disch:=first|omega|(with_unfolding_all exact rfl)|(simp only[new_n,put_n,new_m];omega)|(refine put_m_le ?_;simp only[new_m];omega)) only [res69,K69r0,K69r1,K69r2,K69r3,K69r4s9,K69r4s8,K69r4s7,K69r4s6,K69r4,K69r5,K69r6,K69l0,K69r7,K69,Abs.W,reduceIte,Nat.reduceEqDiff,Nat.reduceAdd,decide_true,decide_false,kLoop_def,Nat.reduceSub,List.cons_append,List.nil_append,List.append_nil,List.length_cons,List.length_nil,Env.find_set,h2,h3,h6,h10,h11,h12,e0,hix,hg',hcut,e1,e2,hx1,hg1',hn1,rk,hx2,hg2',hc2,wk,g3',g6',Nat.zero_add]
 refine ⟨_,_,rfl,by simp only [Env.find_set,h6,reduceIte,Nat.reduceEqDiff],get_put_eq _ _ _ _ rfl (by omega),?_⟩
 repeat' (first | refine put_m_le' ?_ ?_ | (simp only [new_m,new_n,put_n];omega) | omega)
def hit (hour:Int) (t:Stay):Bool:=decide (t.fro≤hour) && decide (hour<t.to)
theorem around_loop (N:Nat) (cx:Ctx) (ts:List Stay) (v4 vb:AV) (u:St) (hour:Int) (W:Int→Int × Int) (hR:RowsAt u.h u.n 3 (ts.map Stay.cells) v4) (hk:ts.length≤8) (hs:u.n+1000≤far)
  (p3 p6 k3 sz6:Nat) (z0 z1:Int) (a0 a1 a2 a3 a4:AV) (hW:∀ t ∈ ts,hit hour t=true→WarmAt u.h u.n vb t.box hour (W t.box).1 (W t.box).2)
  (hp3:p3<u.n) (hp6:p6<u.n) (g3:u.h.get p3=some (.cells [a0,a1,a2,a3,a4,vb] k3)) (g6:u.h.get p6=some (.cells [.int .i64 z0,.int .i64 z1] sz6)) (m0:Nat) (hm0:m0≤p6) :
  ∀ (m i fuel:Nat) (L:Env) (s:St),i+m=ts.length→m<fuel→L.find 2=.int .i64 hour→L.find 3=.ptr p3 0→L.find 6=.ptr p6 0→L.find 10=v4→L.find 11=.int .i64 ts.length→L.find 12=.int .i64 i→Beside u s i →
  ∃ e L1 s1,loopN K69l0 fuel (call Try.prog X N) cx L [] s=.done e L1 [] s1∧L1.find 6=.ptr p6 0 ∧
   (match (ts.drop i).find? (hit hour) with
   | some t=>e=.ret∧s1.h.get p6=some (.cells [.int .i64 (W t.box).1,.int .i64 (W t.box).2] sz6)∧m0≤s1.m
   | none=>e=.exit 0∧L1.find 3=.ptr p3 0∧Beside u s1 ts.length)
 | m,i,0,L,s,hm,hf,h2,h3,h6,h10,h11,h12,hE=>by omega
 | m,i,fuel+1,L,s,hm,hf,h2,h3,h6,h10,h11,h12,hE=>by
  by_cases hi:i<ts.length
  ·obtain ⟨m',rfl⟩:∃ m',m=m'+1:=⟨m - 1,by omega⟩
   rw [List.drop_eq_getElem_cons hi,List.find?_cons]
   cases hh:hit hour ts[i]
   ·have hno:¬ ((ts[i]).fro≤hour∧hour<(ts[i]).to):=fun ⟨x,y⟩=>by unfold hit at hh;rw [decide_eq_true x,decide_eq_true y] at hh;cases hh
    obtain ⟨L1,s1,e1,k2,k3',k6,k10,k11,k12,kE⟩:=around_no N cx ts v4 u hour hR hk hs i L s hi hno h2 h10 h11 h12 hE
    obtain ⟨e,L2,s2,r1,r2,r3⟩:=around_loop N cx ts v4 vb u hour W hR hk hs p3 p6 k3 sz6 z0 z1 a0 a1 a2 a3 a4 hW hp3 hp6 g3 g6 m0 hm0 m' (i+1) fuel L1 s1 (by omega) (by omega) k2 (by rw [k3',h3]) (by rw [k6,h6]) k10 k11 (by rw [k12];rfl) kE
    exact ⟨e,L2,s2,by rw [loopN_succ,e1,thenK_norm];exact r1,r2,r3⟩
   ·have hyes:(ts[i]).fro≤hour∧hour<(ts[i]).to:=by unfold hit at hh;simpa using hh
    obtain ⟨L1,s1,e1,k6,kg,km⟩:=around_hit N cx ts v4 vb u hour _ _ hR hk hs i L s hi hyes p3 p6 k3 sz6 z0 z1 a0 a1 a2 a3 a4 (hW _ (List.getElem_mem hi) hh) hp3 hp6 g3 g6 h2 h3 h6 h10 h11 h12 hE m0 hm0
    exact ⟨.ret,L1,s1,by rw [loopN_succ,e1,thenK_ret],k6,rfl,kg,km⟩
  ·have hd:ts.drop i=[]:=List.drop_eq_nil_of_le (by omega)
   rw [hd]
   have e0:decide ((i:Int)<(ts.length:Int))=false:=by simp;omega
   have hff:far=1000000000:=rfl
   have q2:=hE.le
   refine ⟨.exit 0,L.set 13 (.bool false),s,?_,by simp only [Env.find_set,h6,reduceIte,Nat.reduceEqDiff],rfl,by simp only [Env.find_set,h3,reduceIte,Nat.reduceEqDiff],hE.mono (by omega)⟩
   rw [loopN_succ]
   simp (disch:=first|omega|(with_unfolding_all exact rfl)|(simp only[new_n,put_n,new_m];omega)|(refine put_m_le ?_;simp only[new_m];omega)) only [res69,K69r0,K69r1,K69r2,K69r3,K69r4s9,K69r4s8,K69r4s7,K69r4s6,K69r4,K69r5,K69r6,K69l0,K69r7,K69,Abs.W,reduceIte,Nat.reduceEqDiff,Nat.reduceAdd,decide_true,decide_false,kLoop_def,Nat.reduceSub,List.cons_append,List.nil_append,List.append_nil,List.length_cons,List.length_nil,Env.find_set,h11,h12,e0]
def aroundOf (ts:List Stay) (hour hl hh:Int) (W:Int→Int × Int):Int × Int:=match ts.find? (hit hour) with
 | some t=>W t.box
 | none=>(hl,hh)
theorem WarmAt.grow {h h':Heap} {n n':Nat} {vb:AV} {box hour w0 w1:Int} (r:WarmAt h n vb box hour w0 w1) (hh:∀ b,b<n→h'.get b=h.get b) (hn:n≤n'):WarmAt h' n' vb box hour w0 w1:=by
 obtain ⟨wk,vr,b1,p1,c1,sz1,b2,p2,c2,sz2,hb1,hb2,hx1,hg1,hn1,rk,hx2,hg2,hc2⟩:=r
 exact ⟨wk,vr,b1,p1,c1,sz1,b2,p2,c2,sz2,by omega,by omega,hx1,by rw [hh b1 hb1];exact hg1,hn1,rk,hx2,by rw [hh b2 hb2];exact hg2,hc2⟩
theorem around_ok (N:Nat) (hN:2≤N) (ts:List Stay) (born keeps hl hh hour:Int) (v1 v2 v3 v4 vb:AV) (W:Int→Int × Int) (s:St) (hR:RowsAt s.h s.n 3 (ts.map Stay.cells) v4) (hk:ts.length≤8) (hs:s.n+2000≤far)
  (hW:∀ t ∈ ts,hit hour t=true→WarmAt s.h s.n vb t.box hour (W t.box).1 (W t.box).2) :
  call Try.prog X N (.fn 69) [.agg [.int .i64 hl,.int .i64 hh,v1,v2,v3,vb],.agg [.int .i64 born,.int .i64 keeps,v4],.int .i64 hour] s=.val (.agg [.int .i64 (aroundOf ts hour hl hh W).1,.int .i64 (aroundOf ts hour hl hh W).2]) s:=by
 obtain ⟨n,rfl⟩:∃ n,N=n+1:=⟨N - 1,by omega⟩
 refine call_plain' Try.func69 (fun u uh un um=>?_) rfl
 have hf:far=1000000000:=rfl
 rw [← uh,← un] at hR hW
 have n4:=hR.ne
 have k4:∀ t,okA (.val v4 t)=.val v4 t:=fun t=>okA_ne n4
 have hlen:=hR.len
 rw [List.length_map] at hlen
 obtain ⟨w,hw0⟩:∃ w:St,w=((u.new (.cells [.int .i64 hl,.int .i64 hh,v1,v2,v3,vb] (tag 78))).new (.cells [.int .i64 born,.int .i64 keeps,v4] (tag 35))).new (.cells [.int .i64 0,.int .i64 0] (tag 93)):=⟨_,rfl⟩
 have wn:w.n=u.n+3:=by rw [hw0];rfl
 have wm:w.m=far:=by rw [hw0];exact um
 have g1:w.h.get u.n=some (.cells [.int .i64 hl,.int .i64 hh,v1,v2,v3,vb] (tag 78)):=by
  rw [hw0,get_new_ne _ _ _ (by simp only [new_n];omega),get_new_ne _ _ _ (by simp only [new_n];omega)];exact get_new_eq _ _ _ rfl (by omega)
 have g6:w.h.get (u.n+2)=some (.cells [.int .i64 0,.int .i64 0] (tag 93)):=by
  rw [hw0];exact get_new_eq _ _ _ rfl (by simp only [new_n];omega)
 have hold:∀ b,b<u.n→w.h.get b=u.h.get b:=fun b hb=>by rw [hw0,get_new_ne _ _ _ (by simp only [new_n];omega),get_new_ne _ _ _ (by simp only [new_n];omega),get_new_ne _ _ _ (by omega)]
 have hRw:RowsAt w.h w.n 3 (ts.map Stay.cells) v4:=hR.grow hold (by omega)
 obtain ⟨e,L1,s1,hL,h6,hres⟩:=around_loop n ⟨69,none,Try.f69.ntmps,X 69⟩ ts v4 vb w hour W hRw hk (by omega) u.n (u.n+2) _ _ 0 0 _ _ _ _ _ (fun t ht hh=>(hW t ht hh).grow hold (by omega)) (by omega) (by omega) g1 g6 u.n (by omega)
  ts.length 0 rounds (.cons 0 (.agg [.int .i64 hl,.int .i64 hh,v1,v2,v3,vb]) (.cons 1 (.agg [.int .i64 born,.int .i64 keeps,v4]) (.cons 2 (.int .i64 hour) (.cons 3 (.ptr u.n 0) (.cons 4 (.ptr (u.n+1) 0) (.cons 6 (.ptr (u.n+2) 0) (.cons 10 v4 (.cons 11 (.int .i64 ts.length) (.cons 12 (.int .i64 0) .nil))))))))) w (by omega) (by unfold rounds;omega)
  rfl rfl rfl rfl rfl rfl (Beside.refl w (by omega) wm)
 rw [enter69]
 simp (disch:=first|omega|(with_unfolding_all exact rfl)|(simp only[new_n,put_n,new_m];omega)|(refine put_m_le ?_;simp only[new_m];omega)) only [res69,K69r0,K69r1,K69r2,K69r3,K69r4s9,K69r4s8,K69r4s7,K69r4s6,K69r4,K69r5,K69r6,K69r7,K69,Abs.W,reduceIte,Nat.reduceEqDiff,Nat.reduceAdd,decide_true,decide_false,kLoop_def,Nat.reduceSub,List.cons_append,List.nil_append,List.append_nil,List.length_cons,List.length_nil,k4,hlen]
 rw [← hw0]
 simp only [new_n,hL]
 have sh:shapeT Try.prog 93=some (some 2):=by kernel_rfl
 rw [List.drop_zero] at hres
 unfold aroundOf
 cases hfnd:ts.find? (hit hour) with
 | some t =>
  rw [hfnd] at hres
  obtain ⟨he,hg,hm⟩:=hres
  subst he
  simp only [res69,K69r0,K69r1,K69r2,K69r3,K69r4s9,K69r4s8,K69r4s7,K69r4s6,K69r4,K69r5,K69r6,K69r7,K69,Abs.W,reduceIte,Nat.reduceEqDiff,Nat.reduceAdd,decide_true,decide_false,kLoop_def,Nat.reduceSub,List.cons_append,List.nil_append,List.append_nil,List.length_cons,List.length_nil]
  refine ⟨_,leave_cell _ _ _ _ sh ?_,hm⟩
  rw [h6]
  simp (disch:=first|omega|(with_unfolding_all exact rfl)|(simp only[new_n,put_n,new_m];omega)|(refine put_m_le ?_;simp only[new_m];omega)) only [Abs.W,reduceIte,Nat.reduceEqDiff,Nat.reduceAdd,decide_true,decide_false,kLoop_def,Nat.reduceSub,List.cons_append,List.nil_append,List.append_nil,List.length_cons,List.length_nil,hg]
 | none =>
  rw [hfnd] at hres
  obtain ⟨he,h3,hE⟩:=hres
  subst he
  have q1:=hE.n
  have q2:=hE.le
  have q3:=hE.m
  have q4:=hE.far
  have g1':=g1
  rw [← hE.same u.n (by omega)] at g1'
  have g6':=g6
  rw [← hE.same (u.n+2) (by omega)] at g6'
  simp (disch:=first|omega|(with_unfolding_all exact rfl)|(simp only[new_n,put_n,new_m];omega)|(refine put_m_le ?_;simp only[new_m];omega)) only [res69,K69r0,K69r1,K69r2,K69r3,K69r4s9,K69r4s8,K69r4s7,K69r4s6,K69r4,K69r5,K69r6,K69r7,K69,Abs.W,reduceIte,Nat.reduceEqDiff,Nat.reduceAdd,decide_true,decide_false,kLoop_def,Nat.reduceSub,List.cons_append,List.nil_append,List.append_nil,List.length_cons,List.length_nil,h3,h6,g1',g6',endsOf_ok,Nat.zero_add]
  refine ⟨_,leave_cell _ _ _ _ sh ?_,?_⟩
  ·simp (disch:=first|omega|(with_unfolding_all exact rfl)|(simp only[new_n,put_n,new_m];omega)|(refine put_m_le ?_;simp only[new_m];omega)) only [Abs.W,reduceIte,Nat.reduceEqDiff,Nat.reduceAdd,decide_true,decide_false,kLoop_def,Nat.reduceSub,List.cons_append,List.nil_append,List.append_nil,List.length_cons,List.length_nil,h6]
  ·repeat' (first | refine put_m_le' ?_ ?_ | (simp only [new_m,new_n,put_n];omega) | omega)
end Go.Proofs.Ytlfalcghhckanab.walk
set_option maxRecDepth 10000
namespace Go.Proofs.Ytlfalcghhckanab.walk
open Go.Abs Go.Proofs.Ytlfalcghhckanab.code
def lossFrom (t:Int):Int→List Rate→Int
 | cur,[]=>cur
 | cur,r::rs=>if t<r.above then cur else lossFrom t r.loss rs
def two (E:Int) (a b:Int):List AV:=if E=0 then [.int .i64 a,.int .i64 b] else [.int .i64 b,.int .i64 a]
structure LossRound (p5:Nat) (u s s1:St) (L L1:Env) (k:Nat):Prop where
 find:∀ t,t≠9→t≠19→t≠20→t≠26→L1.find t=L.find t
 same:∀ b,b≠p5→b<s.n→s1.h.get b=s.h.get b
 n:s.n≤s1.n
 beside:Beside u s1 k
theorem loss_on (N:Nat) (cx:Ctx) (rs:List Rate) (v3:AV) (u:St) (E tenths cur other:Int) (hE01:E=0∨E=1) (hR:RowsAt u.h u.n 2 (rs.map Rate.cells) v3) (hk:rs.length≤8) (hs:u.n+1000≤far) (k:Nat) (hk':k≤500) (p5 sz5:Nat)
  (i:Nat) (L:Env) (s:St) (hi:i<rs.length) (hle:(rs[i]).above≤tenths) (hp5:u.n≤p5) (hp5':p5<s.n) (g5:s.h.get p5=some (.cells (two E cur other) sz5))
  (h5:L.find 5=.ptr p5 0) (h6:L.find 6=.int .i64 E) (h7:L.find 7=.int .i64 tenths) (h17:L.find 17=v3) (h18:L.find 18=.int .i64 rs.length) (h19:L.find 19=.int .i64 i) (hE:Beside u s k) :
  ∃ L1 s1,K49l0 (call Try.prog X N) cx L [] s=.done .norm L1 [] s1∧L1.find 19=.int .i64 ((i:Int)+1)∧s1.h.get p5=some (.cells (two E (rs[i]).loss other) sz5)∧LossRound p5 u s s1 L L1 (k+1):=by
 have hf:far=1000000000:=rfl
 obtain ⟨b,p,c,sz,hbn,hix,hg,hcut⟩:=hR.at_ i (by simpa using hi)
 rw [List.getElem_map] at hcut
 generalize rs[i]=F at hle hcut
 unfold Rate.cells at hcut
 have e0:decide ((i:Int)<(rs.length:Int))=true:=by simp;omega
 have e1:decide (tenths<F.above)=false:=by simp;omega
 have hg':s.h.get b=some (.cells c sz):=by rw [hE.same b hbn];exact hg
 have q1:=hE.n
 have q2:=hE.le
 have q3:=hE.m
 have q4:=hE.far
 rcases hE01 with rfl | rfl
 all_goals
  simp only [two,reduceIte,Int.reduceEq] at g5 ⊢
  simp (disch:=first|omega|(with_unfolding_all exact rfl)|(simp only[new_n,put_n,new_m];omega)|(refine put_m_le ?_;simp only[new_m];omega)) only [res49,K49r0,K49r1,K49r2,K49r3,K49r4,K49r5,K49r6,K49r7,K49r8,K49r9,K49r10,K49l0,K49r11,K49l1,K49r12,K49,Abs.W,reduceIte,Nat.reduceEqDiff,Nat.reduceAdd,decide_true,decide_false,kLoop_def,Nat.reduceSub,List.cons_append,List.nil_append,List.append_nil,List.length_cons,List.length_nil,Env.find_set,h5,h6,h7,h17,h18,h19,e0,hix,hg',hcut,e1,g5,ixa2_0,ixa2_1,aAdd_i64,Nat.zero_add]
  refine ⟨_,_,rfl,by simp only [Env.find_set,reduceIte],get_put_eq _ _ _ _ rfl (by omega),fun t n1 n2 n3 n4=>?_,fun x n1 n2=>?_,?_,?_⟩
  ·simp only [Env.find_set]
   repeat rw [if_neg (by omega)]
  ·rw [get_put_ne' _ _ _ _ n1,get_put_ne' _ _ _ _ (by omega),get_new_ne _ _ _ (by omega)]
  ·simp only [put_n,new_n];omega
  ·exact ((hE.new _).put _ q1).put _ hp5
theorem loss_stop (N:Nat) (cx:Ctx) (rs:List Rate) (v3:AV) (u:St) (tenths:Int) (hR:RowsAt u.h u.n 2 (rs.map Rate.cells) v3) (hk:rs.length≤8) (hs:u.n+1000≤far) (k:Nat) (hk':k≤500) (p5:Nat)
  (i:Nat) (L:Env) (s:St) (hi:i<rs.length) (hgt:tenths<(rs[i]).above) (hp5':p5<s.n)
  (h7:L.find 7=.int .i64 tenths) (h17:L.find 17=v3) (h18:L.find 18=.int .i64 rs.length) (h19:L.find 19=.int .i64 i) (hE:Beside u s k) :
  ∃ L1 s1,K49l0 (call Try.prog X N) cx L [] s=.done (.exit 1) L1 [] s1∧s1.h.get p5=s.h.get p5∧LossRound p5 u s s1 L L1 (k+1):=by
 have hf:far=1000000000:=rfl
 obtain ⟨b,p,c,sz,hbn,hix,hg,hcut⟩:=hR.at_ i (by simpa using hi)
 rw [List.getElem_map] at hcut
 generalize rs[i]=F at hgt hcut
 unfold Rate.cells at hcut
 have e0:decide ((i:Int)<(rs.length:Int))=true:=by simp;omega
 have e1:decide (tenths<F.above)=true:=by simp;omega
 have hg':s.h.get b=some (.cells c sz):=by rw [hE.same b hbn];exact hg
 have q1:=hE.n
 have q2:=hE.le
 have q3:=hE.m
 have q4:=hE.far
 simp (disch:=first|omega|(with_unfolding_all exact rfl)|(simp only[new_n,put_n,new_m];omega)|(refine put_m_le ?_;simp only[new_m];omega)) only [res49,K49r0,K49r1,K49r2,K49r3,K49r4,K49r5,K49r6,K49r7,K49r8,K49r9,K49r10,K49l0,K49r11,K49l1,K49r12,K49,Abs.W,reduceIte,Nat.reduceEqDiff,Nat.reduceAdd,decide_true,decide_false,kLoop_def,Nat.reduceSub,List.cons_append,List.nil_append,List.append_nil,List.length_cons,List.length_nil,Env.find_set,h7,h17,h18,h19,e0,hix,hg',hcut,e1,Nat.zero_add]
 refine ⟨_,_,rfl,?_,fun t n1 n2 n3 n4=>?_,fun x n1 n2=>?_,?_,?_⟩
 ·rw [get_put_ne' _ _ _ _ (by omega),get_new_ne _ _ _ (by omega)]
 ·simp only [Env.find_set]
  repeat rw [if_neg (by omega)]
 ·rw [get_put_ne' _ _ _ _ (by omega),get_new_ne _ _ _ (by omega)]
 ·simp only [put_n,new_n];omega
 ·exact (hE.new _).put _ q1
theorem loss_loop (N:Nat) (cx:Ctx) (rs:List Rate) (v3:AV) (u:St) (E tenths other:Int) (hE01:E=0∨E=1) (hR:RowsAt u.h u.n 2 (rs.map Rate.cells) v3) (hk:rs.length≤8) (hs:u.n+1000≤far) (p5 sz5:Nat) (hp5:u.n≤p5) :
  ∀ (m i fuel k:Nat) (cur:Int) (L:Env) (s:St),i+m=rs.length→m<fuel→k+m≤500→p5<s.n→s.h.get p5=some (.cells (two E cur other) sz5) →
  L.find 5=.ptr p5 0→L.find 6=.int .i64 E→L.find 7=.int .i64 tenths→L.find 17=v3→L.find 18=.int .i64 rs.length→L.find 19=.int .i64 i→Beside u s k →
  ∃ e L1 s1,loopN K49l0 fuel (call Try.prog X N) cx L [] s=.done e L1 [] s1∧(e=.exit 1∨e=.exit 2)∧s1.h.get p5=some (.cells (two E (lossFrom tenths cur (rs.drop i)) other) sz5)∧LossRound p5 u s s1 L L1 (k+m)
 | m,i,0,k,cur,L,s,hm,hf,hkk,hp5',g5,h5,h6,h7,h17,h18,h19,hE=>by omega
 | m,i,fuel+1,k,cur,L,s,hm,hf,hkk,hp5',g5,h5,h6,h7,h17,h18,h19,hE=>by
  by_cases hi:i<rs.length
  ·obtain ⟨m',rfl⟩:∃ m',m=m'+1:=⟨m - 1,by omega⟩
   rw [List.drop_eq_getElem_cons hi]
   unfold lossFrom
   by_cases hh:tenths<(rs[i]).above
   ·rw [if_pos hh]
    obtain ⟨L1,s1,e1,k1,k2⟩:=loss_stop N cx rs v3 u tenths hR hk hs k (by omega) p5 i L s hi hh hp5' h7 h17 h18 h19 hE
    exact ⟨_,L1,s1,by rw [loopN_succ,e1,thenK_exit],.inl rfl,by rw [k1];exact g5,k2.find,k2.same,k2.n,k2.beside.mono (by omega)⟩
   ·rw [if_neg hh]
    obtain ⟨L1,s1,e1,k19,k5,k2⟩:=loss_on N cx rs v3 u E tenths cur other hE01 hR hk hs k (by omega) p5 sz5 i L s hi (by omega) hp5 hp5' g5 h5 h6 h7 h17 h18 h19 hE
    obtain ⟨e,L2,s2,r1,r2,r3,r4⟩:=loss_loop N cx rs v3 u E tenths other hE01 hR hk hs p5 sz5 hp5 m' (i+1) fuel (k+1) (rs[i]).loss L1 s1 (by omega) (by omega) (by omega) (Nat.lt_of_lt_of_le hp5' k2.n) k5
     (by rw [k2.find 5 (by omega) (by omega) (by omega) (by omega),h5]) (by rw [k2.find 6 (by omega) (by omega) (by omega) (by omega),h6]) (by rw [k2.find 7 (by omega) (by omega) (by omega) (by omega),h7]) (by rw [k2.find 17 (by omega) (by omega) (by omega) (by omega),h17]) (by rw [k2.find 18 (by omega) (by omega) (by omega) (by omega),h18]) (by rw [k19];rfl) k2.beside
    exact ⟨e,L2,s2,by rw [loopN_succ,e1,thenK_norm];exact r1,r2,r3,fun t n1 n2 n3 n4=>by rw [r4.find t n1 n2 n3 n4,k2.find t n1 n2 n3 n4],fun b n1 n2=>by rw [r4.same b n1 (Nat.lt_of_lt_of_le n2 k2.n),k2.same b n1 n2],Nat.le_trans k2.n r4.n,r4.beside.mono (by omega)⟩
  ·have hd:rs.drop i=[]:=List.drop_eq_nil_of_le (by omega)
   rw [hd]
   unfold lossFrom
   have e0:decide ((i:Int)<(rs.length:Int))=false:=by simp;omega
   have hff:far=1000000000:=rfl
   have q2:=hE.le
   refine ⟨.exit 2,L.set 20 (.bool false),s,?_,.inr rfl,g5,fun t n1 n2 n3 n4=>?_,fun _ _ _=>rfl,Nat.le_refl _,hE.mono (by omega)⟩
   ·rw [loopN_succ]
    simp (disch:=first|omega|(with_unfolding_all exact rfl)|(simp only[new_n,put_n,new_m];omega)|(refine put_m_le ?_;simp only[new_m];omega)) only [res49,K49r0,K49r1,K49r2,K49r3,K49r4,K49r5,K49r6,K49r7,K49r8,K49r9,K49r10,K49l0,K49r11,K49l1,K49r12,K49,Abs.W,reduceIte,Nat.reduceEqDiff,Nat.reduceAdd,decide_true,decide_false,kLoop_def,Nat.reduceSub,List.cons_append,List.nil_append,List.append_nil,List.length_cons,List.length_nil,Env.find_set,h18,h19,e0]
   ·simp only [Env.find_set]
    repeat rw [if_neg (by omega)]
theorem blk_12 (L:Env) (d:List Nat) (s:St):blkR 2 (.done (.exit 1) L d s)=.done (.exit 1) L d s:=by rfl
theorem ind2_0 (s:St) (a b:Int):indA 2 1 none s (.agg [.int .i64 a,.int .i64 b]) (.int .i64 0)=.val (.int .i64 a) s:=rfl
theorem ind2_1 (s:St) (a b:Int):indA 2 1 none s (.agg [.int .i64 a,.int .i64 b]) (.int .i64 1)=.val (.int .i64 b) s:=rfl
theorem loss_end (N:Nat) (cx:Ctx) (rs:List Rate) (v3 a0 a1 a2 a3 vb:AV) (u:St) (E t0 t1 cur other:Int) (hE01:E=0∨E=1) (hR:RowsAt u.h u.n 2 (rs.map Rate.cells) v3) (hk:rs.length≤8) (hs:u.n+1000≤far) (p2 p5 sz2 sz5:Nat) (hp5:u.n≤p5) (k:Nat) (hkk:k≤100)
  (L:Env) (s:St) (hp2':p2<s.n) (hp5':p5<s.n) (hne:p2≠p5) (g2:s.h.get p2=some (.cells [a0,a1,a2,a3,v3,vb] sz2)) (g5:s.h.get p5=some (.cells (two E cur other) sz5))
  (h2:L.find 2=.ptr p2 0) (h5:L.find 5=.ptr p5 0) (h10:L.find 10=.agg [.int .i64 t0,.int .i64 t1]) (h11:L.find 11=.int .i64 E) (hE:Beside u s k) :
  ∃ L1 s1,K49l1 (call Try.prog X N) cx L [] s=.done .norm L1 [] s1∧L1.find 2=.ptr p2 0∧L1.find 4=L.find 4∧L1.find 5=.ptr p5 0∧L1.find 10=.agg [.int .i64 t0,.int .i64 t1]∧L1.find 11=.int .i64 (E+1) ∧
   s1.h.get p5=some (.cells (two E (lossFrom (if E=0 then t0 else t1) cur rs) other) sz5)∧(∀ b,b≠p5→b<s.n→s1.h.get b=s.h.get b)∧s.n≤s1.n∧Beside u s1 (k+rs.length):=by
 have hf:far=1000000000:=rfl
 have n3:=hR.ne
 have k3:∀ t,okA (.val v3 t)=.val v3 t:=fun t=>okA_ne n3
 have hlen:=hR.len
 rw [List.length_map] at hlen
 have q1:=hE.n
 have q2:=hE.le
 have q3:=hE.m
 have q4:=hE.far
 obtain ⟨e,L1,s1,r1,r2,r3,r4⟩:=loss_loop N cx rs v3 u E (if E=0 then t0 else t1) other hE01 hR hk hs p5 sz5 hp5 rs.length 0 rounds k cur
  ((((((L.set 12 (.bool true)).set 6 (.int .i64 E)).set 7 (.int .i64 (if E=0 then t0 else t1))).set 17 v3).set 18 (.int .i64 rs.length)).set 19 (.int .i64 0)) s (by omega) (by unfold rounds;omega) (by omega) hp5' g5
  (by simp only [Env.find_set,h5,reduceIte,Nat.reduceEqDiff]) (by simp only [Env.find_set,reduceIte,Nat.reduceEqDiff]) (by simp only [Env.find_set,reduceIte,Nat.reduceEqDiff]) (by simp only [Env.find_set,reduceIte,Nat.reduceEqDiff]) (by simp only [Env.find_set,reduceIte,Nat.reduceEqDiff]) (by simp only [Env.find_set,reduceIte];rfl) hE
 have f2:L1.find 2=.ptr p2 0:=by rw [r4.find 2 (by omega) (by omega) (by omega) (by omega)];simp only [Env.find_set,h2,reduceIte,Nat.reduceEqDiff]
 have f4:L1.find 4=L.find 4:=by rw [r4.find 4 (by omega) (by omega) (by omega) (by omega)];simp only [Env.find_set,reduceIte,Nat.reduceEqDiff]
 have f5:L1.find 5=.ptr p5 0:=by rw [r4.find 5 (by omega) (by omega) (by omega) (by omega)];simp only [Env.find_set,h5,reduceIte,Nat.reduceEqDiff]
 have f10:L1.find 10=.agg [.int .i64 t0,.int .i64 t1]:=by rw [r4.find 10 (by omega) (by omega) (by omega) (by omega)];simp only [Env.find_set,h10,reduceIte,Nat.reduceEqDiff]
 have f11:L1.find 11=.int .i64 E:=by rw [r4.find 11 (by omega) (by omega) (by omega) (by omega)];simp only [Env.find_set,h11,reduceIte,Nat.reduceEqDiff]
 have z2:=r4.beside.le
 rcases hE01 with rfl | rfl
 all_goals
  simp only [reduceIte,Int.reduceEq] at r1 r3 ⊢
  have e0:decide ((0:Int)<2)=true:=rfl
  have e1:decide ((1:Int)<2)=true:=rfl
  rcases r2 with rfl | rfl
  all_goals
   simp (disch:=first|omega|(with_unfolding_all exact rfl)|(simp only[new_n,put_n,new_m];omega)|(refine put_m_le ?_;simp only[new_m];omega)) only [res49,K49r0,K49r1,K49r2,K49r3,K49r4,K49r5,K49r6,K49r7,K49r8,K49r9,K49r10,K49r11,K49r12,K49,K49l1,Abs.W,reduceIte,Nat.reduceEqDiff,Nat.reduceAdd,decide_true,decide_false,kLoop_def,Nat.reduceSub,List.cons_append,List.nil_append,List.append_nil,List.length_cons,List.length_nil,Env.find_set,h2,h10,h11,e0,e1,g2,k3,hlen,ind2_0,ind2_1,Nat.zero_add,r1,f11,aAdd_i64,blk_12]
   exact ⟨_,_,rfl,by simp only [Env.find_set,f2,reduceIte,Nat.reduceEqDiff],by simp only [Env.find_set,f4,reduceIte,Nat.reduceEqDiff],by simp only [Env.find_set,f5,reduceIte,Nat.reduceEqDiff],by simp only [Env.find_set,f10,reduceIte,Nat.reduceEqDiff],by simp only [Env.find_set,reduceIte,Nat.reduceEqDiff],r3,r4.same,r4.n,r4.beside⟩
end Go.Proofs.Ytlfalcghhckanab.walk
set_option maxRecDepth 10000
namespace Go.Proofs.Ytlfalcghhckanab.walk
open Go.Abs Go.Proofs.Ytlfalcghhckanab.code
theorem loss_ok (N:Nat) (hN:1≤N) (rs:List Rate) (hl hh t0 t1:Int) (v1 v2 v3 vb:AV) (s:St) (hR:RowsAt s.h s.n 2 (rs.map Rate.cells) v3) (hk:rs.length≤8) (hs:s.n+2000≤far) :
  call Try.prog X N (.fn 49) [.agg [.int .i64 hl,.int .i64 hh,v1,v2,v3,vb],.agg [.int .i64 t0,.int .i64 t1]] s=.val (.agg [.int .i64 (lossFrom t0 0 rs),.int .i64 (lossFrom t1 0 rs)]) s:=by
 obtain ⟨n,rfl⟩:∃ n,N=n+1:=⟨N - 1,by omega⟩
 refine call_plain' Try.func49 (fun u uh un um=>?_) rfl
 have hf:far=1000000000:=rfl
 rw [← uh,← un] at hR
 obtain ⟨w,hw0⟩:∃ w:St,w=(((u.new (.cells [.int .i64 hl,.int .i64 hh,v1,v2,v3,vb] (tag 78))).new (.cells [.int .i64 t0,.int .i64 t1] (tag 93))).new (.cells [.int .i64 0,.int .i64 0] (tag 93))).new (.cells [.int .i64 0,.int .i64 0] (tag 93)):=⟨_,rfl⟩
 have wn:w.n=u.n+4:=by rw [hw0];rfl
 have wm:w.m=far:=by rw [hw0];exact um
 have g2:w.h.get u.n=some (.cells [.int .i64 hl,.int .i64 hh,v1,v2,v3,vb] (tag 78)):=by
  rw [hw0,get_new_ne _ _ _ (by simp only [new_n];omega),get_new_ne _ _ _ (by simp only [new_n];omega),get_new_ne _ _ _ (by simp only [new_n];omega)];exact get_new_eq _ _ _ rfl (by omega)
 have g3:w.h.get (u.n+1)=some (.cells [.int .i64 t0,.int .i64 t1] (tag 93)):=by
  rw [hw0,get_new_ne _ _ _ (by simp only [new_n];omega),get_new_ne _ _ _ (by simp only [new_n];omega)];exact get_new_eq _ _ _ rfl (by simp only [new_n];omega)
 have g4:w.h.get (u.n+2)=some (.cells [.int .i64 0,.int .i64 0] (tag 93)):=by
  rw [hw0,get_new_ne _ _ _ (by simp only [new_n];omega)];exact get_new_eq _ _ _ rfl (by simp only [new_n];omega)
 have g5:w.h.get (u.n+3)=some (.cells [.int .i64 0,.int .i64 0] (tag 93)):=by
  rw [hw0];exact get_new_eq _ _ _ rfl (by simp only [new_n];omega)
 have hB:Beside u w 4:=by rw [hw0];exact (((Beside.refl u (by omega) um).new _).new _).new _ |>.new _
 have hd0:lossFrom t0 0 rs=lossFrom (if (0:Int)=0 then t0 else t1) 0 rs:=rfl
 obtain ⟨L1,s1,e1,a2,a4,a5,a10,a11,b5,bs,bn,bB⟩:=loss_end n ⟨49,none,Try.f49.ntmps,X 49⟩ rs v3 _ _ _ _ vb u 0 t0 t1 0 0 (.inl rfl) hR hk (by omega) u.n (u.n+3) _ _ (by omega) 4 (by omega)
  (.cons 0 (.agg [.int .i64 hl,.int .i64 hh,v1,v2,v3,vb]) (.cons 1 (.agg [.int .i64 t0,.int .i64 t1]) (.cons 2 (.ptr u.n 0) (.cons 3 (.ptr (u.n+1) 0) (.cons 4 (.ptr (u.n+2) 0) (.cons 5 (.ptr (u.n+3) 0) (.cons 10 (.agg [.int .i64 t0,.int .i64 t1]) (.cons 11 (.int .i64 0) .nil)))))))) w (by omega) (by omega) (by omega) g2 g5 rfl rfl rfl rfl hB
 have e01:(0:Int)+1=1:=rfl
 rw [e01] at a11
 have g2':s1.h.get u.n=some (.cells [.int .i64 hl,.int .i64 hh,v1,v2,v3,vb] (tag 78)):=by rw [bs u.n (by omega) (by omega)];exact g2
 have b5':s1.h.get (u.n+3)=some (.cells (two 1 0 (lossFrom t0 0 rs)) (tag 93)):=b5
 obtain ⟨L2,s2,e2,c2,c4,c5,c10,c11,d5,ds,dn,dB⟩:=loss_end n ⟨49,none,Try.f49.ntmps,X 49⟩ rs v3 _ _ _ _ vb u 1 t0 t1 0 (lossFrom t0 0 rs) (.inr rfl) hR hk (by omega) u.n (u.n+3) _ _ (by omega) (4+rs.length) (by omega)
  L1 s1 (by omega) (by omega) (by omega) g2' b5' a2 a5 a10 a11 bB
 have e12:(1:Int)+1=2:=rfl
 rw [e12] at c11
 have d5':s2.h.get (u.n+3)=some (.cells [.int .i64 (lossFrom t0 0 rs),.int .i64 (lossFrom t1 0 rs)] (tag 93)):=d5
 have d4:s2.h.get (u.n+2)=some (.cells [.int .i64 0,.int .i64 0] (tag 93)):=by rw [ds _ (by omega) (by omega),bs _ (by omega) (by omega)];exact g4
 have l2:decide ((2:Int)<2)=false:=rfl
 have e3:K49l1 (call Try.prog X n) ⟨49,none,Try.f49.ntmps,X 49⟩ L2 [] s2=.done (.exit 0) (L2.set 12 (.bool false)) [] s2:=by
  simp (disch:=first|omega|(with_unfolding_all exact rfl)|(simp only[new_n,put_n,new_m];omega)|(refine put_m_le ?_;simp only[new_m];omega)) only [res49,K49r0,K49r1,K49r2,K49r3,K49r4,K49r5,K49r6,K49r7,K49r8,K49r9,K49r10,K49r11,K49r12,K49,K49l1,Abs.W,reduceIte,Nat.reduceEqDiff,Nat.reduceAdd,decide_true,decide_false,kLoop_def,Nat.reduceSub,List.cons_append,List.nil_append,List.append_nil,List.length_cons,List.length_nil,Env.find_set,c11,l2]
 have f4:L2.find 4=.ptr (u.n+2) 0:=by rw [c4,a4];rfl
 have sh:shapeT Try.prog 93=some (some 2):=by kernel_rfl
 have q1:=dB.n
 have q2:=dB.le
 have q3:=dB.m
 have q4:=dB.far
 rw [enter49]
 simp (disch:=first | omega | (with_unfolding_all exact rfl) | (simp only [new_n,put_n,new_m];omega)) only [res49,K49r0,K49r1,K49r2,K49r3,K49r4,K49r5,K49r6,K49r7,K49r8,K49r9,K49r10,K49r11,K49r12,K49,Abs.W,reduceIte,Nat.reduceEqDiff,Nat.reduceAdd,decide_true,decide_false,Nat.reduceSub,List.cons_append,List.nil_append,List.append_nil,List.length_cons,List.length_nil,kLoop_3]
 rw [← hw0]
 simp only [new_n,loopN_succ,e1,e2,e3,thenK_norm,thenK_exit]
 simp (disch:=first | omega | (with_unfolding_all exact rfl) | (simp only [new_n,put_n,new_m];omega)) only [res49,K49r0,K49r1,K49r2,K49r3,K49r4,K49r5,K49r6,K49r7,K49r8,K49r9,K49r10,K49r11,K49r12,K49,Abs.W,reduceIte,Nat.reduceEqDiff,Nat.reduceAdd,decide_true,decide_false,Nat.reduceSub,List.cons_append,List.nil_append,List.append_nil,List.length_cons,List.length_nil,Env.find_set,f4,c5,d5',d4]
 refine ⟨_,leave_cell _ _ _ _ sh ?_,?_⟩
 ·simp (disch:=first|omega|(with_unfolding_all exact rfl)|(simp only[new_n,put_n,new_m];omega)|(refine put_m_le ?_;simp only[new_m];omega)) only [Abs.W,reduceIte,Nat.reduceEqDiff,Nat.reduceAdd,decide_true,decide_false,kLoop_def,Nat.reduceSub,List.cons_append,List.nil_append,List.append_nil,List.length_cons,List.length_nil,Env.find_set,f4]
 ·repeat' (first | refine put_m_le' ?_ ?_ | (simp only [new_m,new_n,put_n];omega) | omega)
end Go.Proofs.Ytlfalcghhckanab.walk
namespace Go.Abs
variable {P:Program}
theorem call_round {X:FuncId→List Nat} {n l:Nat} {args:List AV} {s s1 s2:St} {r r1 r2:ALoop} {a b:K} {L L2:Env} {d d2:List Nat} {e:Ex} (hl:s.h.get l=some (.loop r)) (hr:args.length=r.params.length)
  (ha:codeK P r.xs r.nt r.assign=some a) (hb:codeK P r.xs r.nt r.body=some b) (h1:a (call P X n) ⟨r.fn,some l,r.nt,r.xs⟩ (setParams r.tmps r.params args) [] s=.done .norm L d s1)
  (h2:s1.h.get l=some (.loop r1)) (h3:r1.state=.ready) (h4:b (call P X n) ⟨r.fn,some l,r.nt,r.xs⟩ L [] (s1.put l (.loop { r1 with state:=.busy }))=.done e L2 d2 s2) (h5:s2.h.get l=some (.loop r2)) :
  call P X (n+1) (.yield l) args s=.val (.bool (goesOn e)) (s2.put l (.loop { r2 with state:=if goesOn e then .ready else .done,pending:=jumpOf e })):=by
 have e1:loopAt s l=some r:=by unfold loopAt;rw [hl]
 have e2:loopAt s1 l=some r1:=by unfold loopAt;rw [h2]
 have e3:loopAt s2 l=some r2:=by unfold loopAt;rw [h5]
 show callStep P X (call P X n) (.yield l) args s=_
 unfold callStep
 simp only [e1]
 unfold roundA
 rw [if_neg (by simp [hr])]
 simp only [ha,hb,h1,e2,h3,h4]
 unfold endRoundA
 simp only [e3]
theorem range_eq {f:Arg} {ps:List Tmp} {a b:Code} {cl:CallF} {c:Ctx} {L:Env} {d:List Nat} {s s2:St} {v:AV} {r:ALoop} (hc:c.rnd=none)
  (h:callV cl [.yield (s.n+1)] ((s.new .dfr).new (.loop ⟨.ready,none,c.fn,L,ps,a,b,s.n,c.nt,c.xs⟩)) (f.ev L)=.val v s2) (hr:s2.h.get (s.n+1)=some (.loop r)) (hb:r.state≠.busy) :
  kRange f ps a b cl c L d s=jumpA L (s.n::d) (s2.put (s.n+1) (.loop { r with state:=.exhausted })) r.pending:=by
 have e1:enterLoopA c L d ps a b s=some (s.n::d,(s.new .dfr).new (.loop ⟨.ready,none,c.fn,L,ps,a,b,s.n,c.nt,c.xs⟩)):=by unfold enterLoopA;rw [hc]
 have e2:Nat.sub ((s.new .dfr).new (.loop ⟨.ready,none,c.fn,L,ps,a,b,s.n,c.nt,c.xs⟩)).n 1=s.n+1:=rfl
 have e3:loopAt s2 (s.n+1)=some r:=by unfold loopAt;rw [hr]
 unfold kRange
 simp only [e1]
 rw [e2,h]
 simp only
 rw [e3]
 cases hst:r.state with
 | busy=>exact absurd hst hb
 | _=>simp only [hst]
end Go.Abs
set_option maxRecDepth 10000
namespace Go.Proofs.Ytlfalcghhckanab.walk
open Go.Abs Go.Proofs.Ytlfalcghhckanab.code
def firstNot (box:Int):Nat→List Fill→Int
 | _,[] => -1
 | i,f::fs=>if f.box=box then firstNot box (i+1) fs else (i:Int)
theorem index_loop (N:Nat) (hN:1≤N) (cx:Ctx) (fs:List Fill) (v:AV) (box:Int) (q szq:Nat) (s:St) (hR:RowsAt s.h s.n 3 (fs.map Fill.cells) v) (hk:fs.length≤20) (hs:s.n+1000≤far) (hq:q<s.n) (gq:s.h.get q=some (.cells [.int .i64 box] szq)) :
  ∀ (m i fuel:Nat) (L:Env),i+m=fs.length→m<fuel→L.find 0=v→L.find 1=.func 60 [] [.ptr q 0]→L.find 7=.int .i64 fs.length→L.find 8=.int .i64 i →
  ∃ e L1,loopN K74l0 fuel (call Try.prog X N) cx L [] s=.done e L1 [] s∧((e=.ret∧L1.find 4=.int .i64 (firstNot box i (fs.drop i)))∨(e=.exit 0∧firstNot box i (fs.drop i) = -1))
 | m,i,0,L,hm,hf,h0,h1,h7,h8=>by omega
 | m,i,fuel+1,L,hm,hf,h0,h1,h7,h8=>by
  have hff:far=1000000000:=rfl
  by_cases hi:i<fs.length
  ·obtain ⟨m',rfl⟩:∃ m',m=m'+1:=⟨m - 1,by omega⟩
   obtain ⟨b,p,c,sz,hbn,hix,hg,hcut⟩:=hR.at_ i (by simpa using hi)
   rw [List.getElem_map] at hcut
   rw [List.drop_eq_getElem_cons hi]
   generalize hF:fs[i]=F at hcut
   unfold Fill.cells at hcut
   have e0:decide ((i:Int)<(fs.length:Int))=true:=by simp;omega
   have hb:=begin1_ok N hN F.box F.hour F.grams box q szq [] s hq gq (by omega)
   unfold firstNot
   by_cases hh:F.box=box
   ·rw [if_pos hh]
    rw [decide_eq_true hh] at hb
    obtain ⟨e,L1,r1,r2⟩:=index_loop N hN cx fs v box q szq s hR hk hs hq gq m' (i+1) fuel (((((L.set 9 (.bool true)).set 5 (.int .i64 i)).set 16 (.bool false)).set 8 (.int .i64 ((i:Int)+1)))) (by omega) (by omega)
     (by simp only [Env.find_set,h0,reduceIte,Nat.reduceEqDiff]) (by simp only [Env.find_set,h1,reduceIte,Nat.reduceEqDiff]) (by simp only [Env.find_set,h7,reduceIte,Nat.reduceEqDiff]) (by simp only [Env.find_set,reduceIte];rfl)
    refine ⟨e,L1,?_,r2⟩
    rw [← r1,loopN_succ]
    simp (disch:=first|omega|(with_unfolding_all exact rfl)|(simp only[new_n,put_n,new_m];omega)|(refine put_m_le ?_;simp only[new_m];omega)) only [res74,K74r0,K74r1,K74r2,K74r3,K74r4,K74r5,K74r6,K74l0,K74r7,K74,Abs.W,reduceIte,Nat.reduceEqDiff,Nat.reduceAdd,decide_true,decide_false,kLoop_def,Nat.reduceSub,List.cons_append,List.nil_append,List.append_nil,List.length_cons,List.length_nil,Env.find_set,h0,h1,h7,h8,e0,hix,hg,hcut,hb,aAdd_i64]
   ·rw [if_neg hh]
    rw [decide_eq_false hh] at hb
    refine ⟨.ret,((((L.set 9 (.bool true)).set 5 (.int .i64 i)).set 16 (.bool true)).set 4 (.int .i64 i)),?_,.inl ⟨rfl,by simp only [Env.find_set,reduceIte]⟩⟩
    rw [loopN_succ]
    simp (disch:=first|omega|(with_unfolding_all exact rfl)|(simp only[new_n,put_n,new_m];omega)|(refine put_m_le ?_;simp only[new_m];omega)) only [res74,K74r0,K74r1,K74r2,K74r3,K74r4,K74r5,K74r6,K74l0,K74r7,K74,Abs.W,reduceIte,Nat.reduceEqDiff,Nat.reduceAdd,decide_true,decide_false,kLoop_def,Nat.reduceSub,List.cons_append,List.nil_append,List.append_nil,List.length_cons,List.length_nil,Env.find_set,h0,h1,h7,h8,e0,hix,hg,hcut,hb]
  ·have hd:fs.drop i=[]:=List.drop_eq_nil_of_le (by omega)
   rw [hd]
   have e0:decide ((i:Int)<(fs.length:Int))=false:=by simp;omega
   refine ⟨.exit 0,L.set 9 (.bool false),?_,.inr ⟨rfl,rfl⟩⟩
   rw [loopN_succ]
   simp (disch:=first|omega|(with_unfolding_all exact rfl)|(simp only[new_n,put_n,new_m];omega)|(refine put_m_le ?_;simp only[new_m];omega)) only [res74,K74r0,K74r1,K74r2,K74r3,K74r4,K74r5,K74r6,K74l0,K74r7,K74,Abs.W,reduceIte,Nat.reduceEqDiff,Nat.reduceAdd,decide_true,decide_false,kLoop_def,Nat.reduceSub,List.cons_append,List.nil_append,List.append_nil,List.length_cons,List.length_nil,Env.find_set,h7,h8,e0]
theorem index_ok (N:Nat) (hN:2≤N) (fs:List Fill) (v:AV) (box:Int) (q szq:Nat) (s:St) (hR:RowsAt s.h s.n 3 (fs.map Fill.cells) v) (hk:fs.length≤20) (hs:s.n+1000≤far) (hq:q<s.n) (gq:s.h.get q=some (.cells [.int .i64 box] szq)) :
  call Try.prog X N (.fn 74) [v,.func 60 [] [.ptr q 0]] s=.val (.int .i64 (firstNot box 0 fs)) s:=by
 obtain ⟨n,rfl⟩:∃ n,N=n+1:=⟨N - 1,by omega⟩
 refine call_plain' Try.func74 (fun u uh un um=>?_) rfl
 have hff:far=1000000000:=rfl
 rw [← uh,← un] at hR
 rw [← uh] at gq
 have n3:=hR.ne
 have k3:∀ t,okA (.val v t)=.val v t:=fun t=>okA_ne n3
 have hlen:=hR.len
 rw [List.length_map] at hlen
 obtain ⟨e,L1,hL,hres⟩:=index_loop n (by omega) ⟨74,none,Try.f74.ntmps,X 74⟩ fs v box q szq u hR hk (by omega) (by omega) gq fs.length 0 rounds
  (.cons 0 v (.cons 1 (.func 60 [] [.ptr q 0]) (.cons 4 (.int .i64 0) (.cons 7 (.int .i64 fs.length) (.cons 8 (.int .i64 0) .nil))))) (by omega) (by unfold rounds;omega) rfl rfl rfl rfl
 rw [List.drop_zero] at hres
 rw [enter74]
 rcases hres with ⟨rfl,h4⟩ | ⟨rfl,h4⟩
 ·simp (disch:=first|omega|(with_unfolding_all exact rfl)|(simp only[new_n,put_n,new_m];omega)|(refine put_m_le ?_;simp only[new_m];omega)) only [res74,K74r0,K74r1,K74r2,K74r3,K74r4,K74r5,K74r6,K74r7,K74,Abs.W,reduceIte,Nat.reduceEqDiff,Nat.reduceAdd,decide_true,decide_false,kLoop_def,Nat.reduceSub,List.cons_append,List.nil_append,List.append_nil,List.length_cons,List.length_nil,k3,hlen,hL,h4]
  exact ⟨_,rfl,by omega⟩
 ·rw [h4]
  simp (disch:=first|omega|(with_unfolding_all exact rfl)|(simp only[new_n,put_n,new_m];omega)|(refine put_m_le ?_;simp only[new_m];omega)) only [res74,K74r0,K74r1,K74r2,K74r3,K74r4,K74r5,K74r6,K74r7,K74,Abs.W,reduceIte,Nat.reduceEqDiff,Nat.reduceAdd,decide_true,decide_false,kLoop_def,Nat.reduceSub,List.cons_append,List.nil_append,List.append_nil,List.length_cons,List.length_nil,Env.find_set,k3,hlen,hL]
  exact ⟨_,rfl,by omega⟩
end Go.Proofs.Ytlfalcghhckanab.walk
