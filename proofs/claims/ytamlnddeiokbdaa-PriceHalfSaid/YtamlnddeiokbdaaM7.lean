/- Truths that push a price, made of a book. -/
import Derived.Test.YtamlnddeiokbdaaM6
import Derived.Test.YtamlnddeiokbdaaCodes
import Derived.Test.YtamlnddeiokbdaaM3
import Derived.Test.YtamlnddeiokbdaaM1
import Derived.Test.YtamlnddeiokbdaaM4
import Derived.Test.YtamlnddeiokbdaaM5
import Derived.Test.YtamlnddeiokbdaaWalkAll
set_option linter.unusedSimpArgs false
set_option maxHeartbeats 16000000
set_option linter.unusedVariables false
set_option maxRecDepth 10000
namespace Go.Proofs.Ytamlnddeiokbdaa.walk
open Go.Abs Go.Proofs.Ytamlnddeiokbdaa.code
structure PusJ (u t:St) (S:List Sale) (hi:Bool) (p:Int) (v:AV) (bl kk:Nat):Prop where
 is:IsAt t.h t.n bl 2 (tag 64) (truthRows (pushZ hi p S)) v
 lo:u.n≤bl
 same:∀ c,c<u.n→t.h.get c=u.h.get c
 n:u.n≤t.n
 le:t.n≤u.n+kk
 m:u.n≤t.m
end Go.Proofs.Ytamlnddeiokbdaa.walk
set_option maxRecDepth 10000
namespace Go.Proofs.Ytamlnddeiokbdaa.walk
open Go.Abs Go.Proofs.Ytamlnddeiokbdaa.code
theorem salesOf_ok (N:Nat) (hN:1≤N) (l:List AV) (g:Int) (s:St) (hsc:scalars l=true) (hs:s.n+100≤far):call Try.prog X N (.fn 44) [.agg l,.int .i64 g] s=.val (.func 64 [] [.ptr s.n 0,.ptr (s.n+1) 0]) ((s.new (.cells l (tag 27))).new (.cells [.int .i64 g] (tag 3))):=by
 obtain ⟨n,rfl⟩:∃ n,N=n+1:=⟨N - 1,by omega⟩
 have hf:far=1000000000:=rfl
 obtain ⟨v,t,e,st,hv,hh⟩:=call_new (n:=n) (args:=[.agg l,.int .i64 g]) (s:=s) (k:=2) (Q:=fun v h n=>v=.func 64 [] [.ptr s.n 0,.ptr (s.n+1) 0]∧h=((s.new (.cells l (tag 27))).new (.cells [.int .i64 g] (tag 3))).h∧n=s.n+2) Try.func44 rfl (fun u uh un um=>by
  rw [enter44]
  simp (disch:=first|omega|(with_unfolding_all exact rfl)|(simp only[new_n,put_n,new_m];omega)|(refine put_m_le ?_;simp only[new_m];omega)) only [res44,K44r0,K44r1,K44,Abs.W,reduceIte,Nat.reduceEqDiff,Nat.reduceAdd,decide_true,decide_false,kLoop_def,Nat.reduceSub,List.cons_append,List.nil_append,List.append_nil,List.length_cons,List.length_nil,hsc,boxIntE,kFuncE',okA_fnv]
  refine ⟨_,_,rfl,((Beside.refl u (by omega) um).new _).new _,rfl,by simp only [new_n];rw [un],?_,?_⟩
  ·show ((u.new _).new _).h=((s.new _).new _).h
   unfold St.new
   simp only [uh,un]
  ·show u.n+1+1=_
   omega)
 rw [e,hv]
 congr 1
 obtain ⟨th,tn,tm⟩:=t
 have m1:tm=s.m:=st.m
 obtain ⟨h1,h2⟩:=hh
 simp only at h1 h2
 subst h1 h2 m1
 rfl
section
variable {M nb cb p8 z8:Nat} {H:Heap} {g:FuncId} {cap:List AV} {T:List Sale} {s:St}
theorem priceA_ok (hi:Bool) (hM:2≤M) (hh:∀ N,Hands Try.prog X N (N+1) nb cb H g cap (fun s:Sale=>.agg s.cells) T) (hF:Fine T) (hl:T.length≤40) (hcb:cb≤100) (hH:∀ y,y<nb→s.h.get y=H.get y) (hnb:nb≤s.n) (h8:s.h.get p8=some (.cells [.func g [] cap] z8)) (n8:p8<s.n) (hs:s.n+300000≤far) :
  call Try.prog X (M+4) (.fn 45) (.agg (endV hi)::[.ptr p8 0]) s=.val (.int .i64 (weighI hi T)) s:=by
 have hff:far=1000000000:=rfl
 refine call_plain' (n:=M+3) Try.func45 (fun u uh un um=>?_) rfl
 have scE:=endV_cells hi
 obtain ⟨w,hw⟩:∃ w:St,w=u.new (.cells (endV hi) (tag 82)):=⟨_,rfl⟩
 have wn:w.n=u.n+1:=by rw [hw];rfl
 have wm:w.m=far:=by rw [hw];exact um
 have wg:∀ c,c<u.n→w.h.get c=u.h.get c:=fun c hc=>by rw [hw,get_new_ne _ _ _ (by omega)]
 have w0:w.h.get u.n=some (.cells [hereV hi,hereV (!hi)] (tag 82)):=by rw [hw];exact get_new_eq _ _ _ rfl (by omega)
 have w8:w.h.get p8=some (.cells [.func g [] cap] z8):=by rw [wg p8 (by omega),uh];exact h8
 have we:=weighs_ok (M:=M) (s:=w) hi hM (hh (M+1)) hF hl hcb (fun y hy=>by rw [wg y (by omega),uh];exact hH y hy) (by omega) (by omega)
 unfold endV at we
 rw [enter45]
 simp (disch:=first|omega|(with_unfolding_all exact rfl)|(simp only[new_n,put_n,new_m];omega)|(refine put_m_le ?_;simp only[new_m];omega)) only [K45,K45r0,res45,Abs.W,reduceIte,Nat.reduceEqDiff,Nat.reduceAdd,decide_true,decide_false,kLoop_def,Nat.reduceSub,List.cons_append,List.nil_append,List.append_nil,List.length_cons,List.length_nil,Env.find_set,scE,Nat.zero_add]
 rw [← hw]
 clear hw
 simp (disch:=first|omega|(with_unfolding_all exact rfl)|(simp only[new_n,put_n,new_m];omega)|(refine put_m_le ?_;simp only[new_m];omega)) only [K45r1,Abs.W,reduceIte,Nat.reduceEqDiff,Nat.reduceAdd,decide_true,decide_false,kLoop_def,Nat.reduceSub,List.cons_append,List.nil_append,List.append_nil,List.length_cons,List.length_nil,Env.find_set,w0,w8,okA_end,okA_fnv,we,Nat.zero_add]
 exact ⟨_,rfl,by omega⟩
theorem priceB_ok (hi:Bool) (hM:7≤M) (hh:∀ N,Hands Try.prog X N (N+1) nb cb H g cap (fun s:Sale=>.agg s.cells) T) (hF:Fine T) (hl:T.length≤40) (hcb:cb≤100) (hH:∀ y,y<nb→s.h.get y=H.get y) (hnb:nb≤s.n) (h8:s.h.get p8=some (.cells [.func g [] cap] z8)) (n8:p8<s.n) (hs:s.n+2100000≤far) :
  call Try.prog X (M+7) (.fn 47) (.agg (endV hi)::[.ptr p8 0]) s=.val (.int .i64 (priceI hi T)) s:=by
 have hff:far=1000000000:=rfl
 refine call_plain' (n:=M+6) Try.func47 (fun u uh un um=>?_) rfl
 have scE:=endV_cells hi
 obtain ⟨w,hw⟩:∃ w:St,w=u.new (.cells (endV hi) (tag 82)):=⟨_,rfl⟩
 have wn:w.n=u.n+1:=by rw [hw];rfl
 have wm:w.m=far:=by rw [hw];exact um
 have wg:∀ c,c<u.n→w.h.get c=u.h.get c:=fun c hc=>by rw [hw,get_new_ne _ _ _ (by omega)]
 have w0:w.h.get u.n=some (.cells [hereV hi,hereV (!hi)] (tag 82)):=by rw [hw];exact get_new_eq _ _ _ rfl (by omega)
 have w8:w.h.get p8=some (.cells [.func g [] cap] z8):=by rw [wg p8 (by omega),uh];exact h8
 have we:=price_ok (M:=M) (s:=w) hi hM hh hF hl hcb (fun y hy=>by rw [wg y (by omega),uh];exact hH y hy) (by omega) (by omega)
 unfold endV at we
 rw [enter47]
 simp (disch:=first|omega|(with_unfolding_all exact rfl)|(simp only[new_n,put_n,new_m];omega)|(refine put_m_le ?_;simp only[new_m];omega)) only [K47,K47r0,res47,Abs.W,reduceIte,Nat.reduceEqDiff,Nat.reduceAdd,decide_true,decide_false,kLoop_def,Nat.reduceSub,List.cons_append,List.nil_append,List.append_nil,List.length_cons,List.length_nil,Env.find_set,scE,Nat.zero_add]
 rw [← hw]
 clear hw
 simp (disch:=first|omega|(with_unfolding_all exact rfl)|(simp only[new_n,put_n,new_m];omega)|(refine put_m_le ?_;simp only[new_m];omega)) only [K47r1,Abs.W,reduceIte,Nat.reduceEqDiff,Nat.reduceAdd,decide_true,decide_false,kLoop_def,Nat.reduceSub,List.cons_append,List.nil_append,List.append_nil,List.length_cons,List.length_nil,Env.find_set,w0,w8,okA_end,okA_fnv,we,Nat.zero_add]
 exact ⟨_,rfl,by omega⟩
end
def verdI (best worst:Bool):Int:=if worst then 1 else if best then 3 else 2
theorem verd_ok (N:Nat) (hN:1≤N) (a b:Bool) (s:St) (hs:s.n≤far):call Try.prog X N (.fn 49) [.bool a,.bool b] s=.val (.int .i64 (verdI a b)) s:=by
 obtain ⟨n,rfl⟩:∃ n,N=n+1:=⟨N - 1,by omega⟩
 refine call_plain' Try.func49 (fun u uh un um=>?_) rfl
 rw [enter49]
 cases a<;>cases b
 all_goals
  simp (disch:=first|omega|(with_unfolding_all exact rfl)|(simp only[new_n,put_n,new_m];omega)|(refine put_m_le ?_;simp only[new_m];omega)) only [res49,K49r0,K49r1,K49r2,K49r3,K49r4,K49r5,K49,Abs.W,reduceIte,Nat.reduceEqDiff,Nat.reduceAdd,decide_true,decide_false,kLoop_def,Nat.reduceSub,List.cons_append,List.nil_append,List.append_nil,List.length_cons,List.length_nil,Env.find_set]
  exact ⟨_,rfl,by omega⟩
theorem leave_tct {P:Program} (a b:Nat) (t:TypeId) (c:Nat) (L:Env) (s:St) {sh:Option Nat} (hs:shapeT P t=some sh) {v:AV} (h:okA (loadA sh s (L.find b))=.val v s):leaveA P [.tmp a,.cell b t,.tmp c] L [] s=.val (.tup [L.find a,v,L.find c]) s:=by
 unfold leaveA
 simp only [takeDfs,resultsA,hs,h]
 rfl
theorem sold_fine {b:Book} (ok:b.Ok) (good:Int):Fine (soldOf b.sales good):=fun s hs=>by
 obtain ⟨h1,_⟩:=List.mem_filter.mp hs
 obtain ⟨s0,s1,d0,d1,g0,g1,g2,c0,c1,c2⟩:=ok.ok s h1
 exact ⟨g0,g1,g2,c0,c1,c2⟩
theorem sold_len {b:Book} (ok:b.Ok) (good:Int):(soldOf b.sales good).length≤40:=Nat.le_trans (List.length_filter_le ..) ok.l
def verdOf (l:List Sale):Int:=verdI (decide (0<weighI true l)) (decide (0<weighI false l))
def priceV (l:List Sale):AV:=.tup [.int .i64 (verdOf l),.agg [.int .i64 (priceI false l),.int .i64 (priceI true l)],.int .i64 0]
theorem Price_ok {N good:Nat} {b:Book} {v:AV} {s:St} (hN:16≤N) (ok:b.Ok) (hg:good<b.goods) (hB:RowsAt s.h s.n 6 (b.sales.map Sale.cells) v) (hs:s.n+3000000≤far) :
  call Try.prog X N (.fn 14) [.agg (bookV b v),.int .i64 (good:Int)] s=.val (priceV (soldOf b.sales good)) s:=by
 obtain ⟨n,rfl⟩:∃ n,N=n+1:=⟨N - 1,by omega⟩
 have hf:far=1000000000:=rfl
 have sh2:shapeT Try.prog 38=some (some 2):=by kernel_rfl
 refine call_plain' Try.func14 (fun u uh un um=>?_) rfl
 rw [← uh,← un] at hB
 rw [← un] at hs
 have kv:∀ t,okA (.val v t)=.val v t:=fun t=>okA_ne hB.ne
 have scB:scalars (bookV b v)=true:=by
  have hv:v.scalar=true:=by
   have h:=hB.len u
   cases v<;>first | rfl | cases h
  show scalars [v]=true
  unfold scalars
  rw [hv]
  rfl
 obtain ⟨w,hw⟩:∃ w:St,w=(u.new (.cells (bookV b v) (tag 27))).new (.cells [.int .i64 0,.int .i64 0] (tag 38)):=⟨_,rfl⟩
 have wn:w.n=u.n+2:=by rw [hw];rfl
 have wm:w.m=far:=by rw [hw];exact um
 have wg:∀ c,c<u.n→w.h.get c=u.h.get c:=fun c hc=>by rw [hw,get_new_ne _ _ _ (by simp only [new_n];omega),get_new_ne _ _ _ (by omega)]
 have w0:w.h.get u.n=some (.cells (bookV b v) (tag 27)):=by rw [hw,get_new_ne _ _ _ (by simp only [new_n];omega)];exact get_new_eq _ _ _ rfl (by omega)
 have w1:w.h.get (u.n+1)=some (.cells [.int .i64 0,.int .i64 0] (tag 38)):=by rw [hw];exact get_new_eq _ _ _ rfl (by simp only [new_n];omega)
 have hR:=hB.grow wg (by omega:u.n≤w.n)
 have hck:=fun m=>check_ok n (by omega) b ok v ⟨w.h,w.n,m⟩ hR (by show w.n+4000≤far;omega)
 have hFi:=sold_fine ok (good:Int)
 have hle:=sold_len ok (good:Int)
 have z0:decide ((0:Int)=0)=true:=rfl
 have w0':=w0
 have scB':=scB
 unfold bookV at w0 hw scB hck
 rw [enter14]
 unfold bookV
 simp (disch:=first|omega|(with_unfolding_all exact rfl)|(simp only[new_n,put_n,new_m];omega)|(refine put_m_le ?_;simp only[new_m];omega)) only [K14,K14r0,Abs.W,reduceIte,Nat.reduceEqDiff,Nat.reduceAdd,decide_true,decide_false,kLoop_def,Nat.reduceSub,List.cons_append,List.nil_append,List.append_nil,List.length_cons,List.length_nil,scB,Nat.zero_add]
 try simp only [new_n]
 rw [← hw]
 clear hw
 simp (disch:=first|omega|(with_unfolding_all exact rfl)|(simp only[new_n,put_n,new_m];omega)|(refine put_m_le ?_;simp only[new_m];omega)) only [K14r1,K14r2,Abs.W,reduceIte,Nat.reduceEqDiff,Nat.reduceAdd,decide_true,decide_false,kLoop_def,Nat.reduceSub,List.cons_append,List.nil_append,List.append_nil,List.length_cons,List.length_nil,Env.find_set,new_n,w0,kv,scB,hck,hck w.m,named_ok,or_new2,z0,endO_nil,Nat.zero_add]
 obtain ⟨w2,hw2⟩:∃ w2:St,w2=w.new (.cells [AV.int .i64 0,.int .i64 0] 0):=⟨_,rfl⟩
 rw [← hw2]
 have w2n:w2.n=w.n+1:=by rw [hw2];rfl
 have w2m:w2.m=far:=by rw [hw2];exact wm
 have w2g:∀ c,c<w.n→w2.h.get c=w.h.get c:=fun c hc=>by rw [hw2,get_new_ne _ _ _ (by omega)]
 clear hw2
 have a0:=(w2g u.n (by omega)).trans w0
 have so:=fun s hs=>salesOf_ok n (by omega) [.int .i64 b.stalls,.int .i64 b.goods,v] (good:Int) s scB hs
 simp (disch:=first|omega|(with_unfolding_all exact rfl)|(simp only[new_n,put_n,new_m];omega)|(refine put_m_le ?_;simp only[new_m];omega)) only [K14r4,Abs.W,reduceIte,Nat.reduceEqDiff,Nat.reduceAdd,decide_true,decide_false,kLoop_def,Nat.reduceSub,List.cons_append,List.nil_append,List.append_nil,List.length_cons,List.length_nil,Env.find_set,a0,kv,so,okA_fnv,cellsFn,Nat.zero_add]
 obtain ⟨x,hx⟩:∃ x:St,x=(((w2.new (.cells [.int .i64 b.stalls,.int .i64 b.goods,v] (tag 27))).new (.cells [.int .i64 (good:Int)] (tag 3))).new (.cells [.nilfunc] (tag 89))).put (w2.n+2) (.cells [.func 64 [] [.ptr w2.n 0,.ptr (w2.n+1) 0]] (tag 89)):=⟨_,rfl⟩
 have xn:x.n=w2.n+3:=by rw [hx];rfl
 have xm:x.m=min far (w2.n+2):=by rw [hx];simp only [St.put,minN_eq,new_m,w2m]
 have xg:∀ c,c<w2.n→x.h.get c=w2.h.get c:=fun c hc=>by rw [hx,get_put_ne' _ _ _ _ (by omega),get_new_ne _ _ _ (by simp only [new_n];omega),get_new_ne _ _ _ (by simp only [new_n];omega),get_new_ne _ _ _ (by omega)]
 have x0:x.h.get w2.n=some (.cells [.int .i64 b.stalls,.int .i64 b.goods,v] (tag 27)):=by rw [hx,get_put_ne' _ _ _ _ (by omega),get_new_ne _ _ _ (by simp only [new_n];omega),get_new_ne _ _ _ (by simp only [new_n];omega)];exact get_new_eq _ _ _ rfl (by omega)
 have x1:x.h.get (w2.n+1)=some (.cells [.int .i64 (good:Int)] (tag 3)):=by rw [hx,get_put_ne' _ _ _ _ (by omega),get_new_ne _ _ _ (by simp only [new_n];omega)];exact get_new_eq _ _ _ rfl (by simp only [new_n];omega)
 have x2:x.h.get (w2.n+2)=some (.cells [.func 64 [] [.ptr w2.n 0,.ptr (w2.n+1) 0]] (tag 89)):=by rw [hx];exact get_put_eq _ _ _ _ rfl (by omega)
 try simp only [new_n]
 first | rw [← hx] | skip
 have xw:∀ c,c<w.n→x.h.get c=w.h.get c:=fun c hc=>(xg c (by omega)).trans (w2g c hc)
 have hRx:RowsAt x.h x.n 6 (b.sales.map Sale.cells) v:=hR.grow xw (by omega)
 have hh:∀ N,Hands Try.prog X N (N+1) x.n 10 x.h 64 [.ptr w2.n 0,.ptr (w2.n+1) 0] (fun s:Sale=>.agg s.cells) (soldOf b.sales good):=fun N=>salesOf1_hands ok hRx x0 x1 (by omega) (by omega)
 obtain ⟨n',rfl⟩:∃ n',n=n'+9:=⟨n - 9,by omega⟩
 have b1:∀ y:St,(∀ c,c<x.n→y.h.get c=x.h.get c)→x.n≤y.n→y.n+2200000≤far→call Try.prog X (n'+9) (.fn 38) [.func 45 [] [.ptr (w2.n+2) 0]] y=.val (.agg [.int .i64 (weighI false (soldOf b.sales good)),.int .i64 (weighI true (soldOf b.sales good))]) y:=fun y hy hyn hyf=>between_ok _ _ (by omega) (fun e t ht h3 h4=>by
  have:=priceA_ok (M:=n'+4) (s:=t) (p8:=w2.n+2) e (by omega) hh hFi hle (by omega) (fun c hc=>(ht c (by omega)).trans (hy c hc)) (by omega) ((ht _ (by omega)).trans ((hy _ (by omega)).trans x2)) (by omega) (by omega)
  cases e<;>exact this) (by omega)
 have b2:∀ y:St,(∀ c,c<x.n→y.h.get c=x.h.get c)→x.n≤y.n→y.n+2200000≤far→call Try.prog X (n'+9) (.fn 38) [.func 47 [] [.ptr (w2.n+2) 0]] y=.val (.agg [.int .i64 (priceI false (soldOf b.sales good)),.int .i64 (priceI true (soldOf b.sales good))]) y:=fun y hy hyn hyf=>between_ok _ _ (by omega) (fun e t ht h3 h4=>by
  have:=priceB_ok (M:=n'+1) (s:=t) (p8:=w2.n+2) e (by omega) hh hFi hle (by omega) (fun c hc=>(ht c (by omega)).trans (hy c hc)) (by omega) ((ht _ (by omega)).trans ((hy _ (by omega)).trans x2)) (by omega) (by omega)
  cases e<;>exact this) (by omega)
 have b1x:=b1 x (fun _ _=>rfl) (Nat.le_refl _) (by omega)
 simp (disch:=first|omega|(with_unfolding_all exact rfl)|(simp only[new_n,put_n,new_m];omega)|(refine put_m_le ?_;simp only[new_m];omega)) only [K14r5,Abs.W,reduceIte,Nat.reduceEqDiff,Nat.reduceAdd,decide_true,decide_false,kLoop_def,Nat.reduceSub,List.cons_append,List.nil_append,List.append_nil,List.length_cons,List.length_nil,Env.find_set,kFuncE',okA_fnv,b1x,Nat.zero_add]
 obtain ⟨y,hy⟩:∃ y:St,y=(x.new (.cells [.int .i64 0,.int .i64 0] (tag 38))).put x.n (.cells [.int .i64 (weighI false (soldOf b.sales good)),.int .i64 (weighI true (soldOf b.sales good))] (tag 38)):=⟨_,rfl⟩
 have yn:y.n=x.n+1:=by rw [hy];rfl
 have ym:y.m=min x.m x.n:=by rw [hy];simp only [St.put,minN_eq,new_m]
 have yg:∀ c,c<x.n→y.h.get c=x.h.get c:=fun c hc=>by rw [hy,get_put_ne' _ _ _ _ (by omega),get_new_ne _ _ _ (by omega)]
 have yx:y.h.get x.n=some (.cells [.int .i64 (weighI false (soldOf b.sales good)),.int .i64 (weighI true (soldOf b.sales good))] (tag 38)):=by rw [hy];exact get_put_eq _ _ _ _ rfl (by omega)
 rw [← hy]
 clear hy
 have b2y:=b2 y yg (by omega) (by omega)
 have y5:=(yg (u.n+1) (by omega)).trans ((xw (u.n+1) (by omega)).trans w1)
 simp (disch:=first|omega|(with_unfolding_all exact rfl)|(simp only[new_n,put_n,new_m];omega)|(refine put_m_le ?_;simp only[new_m];omega)) only [K14r6,Abs.W,reduceIte,Nat.reduceEqDiff,Nat.reduceAdd,decide_true,decide_false,kLoop_def,Nat.reduceSub,List.cons_append,List.nil_append,List.append_nil,List.length_cons,List.length_nil,Env.find_set,kFuncE',okA_fnv,b2y,y5,Nat.zero_add]
 obtain ⟨z,hz⟩:∃ z:St,z=y.put (u.n+1) (.cells [.int .i64 (priceI false (soldOf b.sales good)),.int .i64 (priceI true (soldOf b.sales good))] (tag 38)):=⟨_,rfl⟩
 have zn:z.n=y.n:=by rw [hz];rfl
 have zm:z.m=min y.m (u.n+1):=by rw [hz];simp only [St.put,minN_eq]
 have zx:z.h.get x.n=some (.cells [.int .i64 (weighI false (soldOf b.sales good)),.int .i64 (weighI true (soldOf b.sales good))] (tag 38)):=by rw [hz,get_put_ne' _ _ _ _ (by omega)];exact yx
 have z5:z.h.get (u.n+1)=some (.cells [.int .i64 (priceI false (soldOf b.sales good)),.int .i64 (priceI true (soldOf b.sales good))] (tag 38)):=by rw [hz];exact get_put_eq _ _ _ _ rfl (by omega)
 rw [← hz]
 clear hz
 have zf:z.m≤far:=by omega
 simp (disch:=first|omega|(with_unfolding_all exact rfl)|(simp only[new_n,put_n,new_m];omega)|(refine put_m_le ?_;simp only[new_m];omega)) only [K14r7,res14,Abs.W,reduceIte,Nat.reduceEqDiff,Nat.reduceAdd,decide_true,decide_false,kLoop_def,Nat.reduceSub,List.cons_append,List.nil_append,List.append_nil,List.length_cons,List.length_nil,Env.find_set,zx,z5,verd_ok,endO_nil,Nat.zero_add]
 refine ⟨_,leave_tct _ _ _ _ _ _ sh2 ?_,?_⟩
 ·simp only [find_cons,reduceIte,Nat.reduceEqDiff]
  rw [load_ptr,get_put_eq _ _ _ _ rfl (by omega),loadO_cells,partS_some]
  rfl
 ·simp only [St.put,minN_eq];omega
end Go.Proofs.Ytamlnddeiokbdaa.walk
set_option maxRecDepth 10000
namespace Go.Proofs.Ytamlnddeiokbdaa.walk
open Go.Abs Go.Proofs.Ytamlnddeiokbdaa.code
theorem kEql_def (c:Cmp) (neg:Bool) (x y:Arg) (L:Env) (s:St):kEql c neg x y L s=eqlA c neg s (x.ev L) (y.ev L):=Eq.trans (Eq.refl _) (Eq.refl _)
end Go.Proofs.Ytamlnddeiokbdaa.walk
set_option maxRecDepth 10000
namespace Go.Abs
structure StepsTo (l:List Step) (f:Int):Prop where
 f0:l.length=0→f=0
 z:0<l.length→(stepAt l 0).fr=0
 up:∀ i,i+1<l.length→(stepAt l i).fr<(stepAt l (i+1)).fr
 lt:∀ i,i<l.length→0≤(stepAt l i).fr∧(stepAt l i).fr<f
 p:0≤f
 le:f≤5000 * l.length
 s0:∀ i,i<l.length→0≤(stepAt l i).sh
 s1:∀ i,i<l.length→(stepAt l i).sh≤1000
theorem StepsTo.nil:StepsTo [] 0:=⟨fun _=>rfl,fun h=>absurd h (by simp),fun i h=>absurd h (by simp),fun i h=>absurd h (by simp),Int.le_refl _,by simp,fun i h=>absurd h (by simp),fun i h=>absurd h (by simp)⟩
theorem StepsTo.ok {l:List Step} {f:Int} (h:StepsTo l f) (h0:1≤l.length) (h1:l.length≤4):StepsOk l :=
 ⟨h0,by omega,h.z (by omega),h.up,fun i hi=>by have:=h.lt i hi;have:=h.le;omega,h.s0,h.s1⟩
end Go.Abs
namespace Go.Proofs.Ytamlnddeiokbdaa.walk
open Go.Abs Go.Proofs.Ytamlnddeiokbdaa.code
structure StepsJ (u t:St) (d:Nat) (l:List Step) (v:AV) (bl kk:Nat):Prop where
 die:Die d t.h
 is:IsAt t.h t.n bl 2 (tag 75) (l.map Step.cells) v
 lo:u.n≤bl
 same:∀ c,c<u.n→c≠d→t.h.get c=u.h.get c
 n:u.n≤t.n
 le:t.n≤u.n+kk
 m:d≤t.m
 mle:t.m≤u.m
end Go.Proofs.Ytamlnddeiokbdaa.walk
