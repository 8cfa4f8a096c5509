/- A sale as it is when a price is tried; whether a price is enough. -/
import Derived.Test.YtamlnddeiokbdaaM2
import Derived.Test.YtamlnddeiokbdaaAbsOps
import Derived.Test.YtamlnddeiokbdaaM1
import Derived.Test.YtamlnddeiokbdaaWalkAll
set_option linter.unusedSimpArgs false
set_option maxHeartbeats 16000000
set_option linter.unusedVariables false
set_option maxRecDepth 10000
namespace Go.Proofs.Ytamlnddeiokbdaa.walk
open Go.Abs Go.Proofs.Ytamlnddeiokbdaa.code
def triedG (hi:Bool) (M:Sale) (p:Int):Int:=if spanAt hi M.cl M.ch≤p then spanAt (!hi) M.gl M.gh else spanAt hi M.gl M.gh
theorem tried_ok (N:Nat) (hN:3≤N) (hi:Bool) (M:Sale) (p:Int) (s:St) (hs:s.n+2000≤far):call Try.prog X N (.fn 66) [.agg (endV hi),.agg M.cells,.int .i64 p] s=.val (.agg [.int .i64 (triedG hi M p),.int .i64 (spanAt hi M.cl M.ch)]) s:=by
 obtain ⟨n,rfl⟩:∃ n,N=n+1:=⟨N - 1,by omega⟩
 have hf:far=1000000000:=rfl
 have sh2:shapeT Try.prog 103=some (some 2):=by kernel_rfl
 refine call_plain' Try.func66 (fun u uh un um=>?_) rfl
 have scE:=endV_cells hi
 have so:∀ s:St,s.n+1000≤far→call Try.prog X n (.fn 62) [.agg [hereV hi,hereV (!hi)],.agg [.int .i64 M.st,.int .i64 M.gd,.int .i64 M.gl,.int .i64 M.gh,.int .i64 M.cl,.int .i64 M.ch]] s=.val (.agg [.int .i64 (spanAt hi M.gl M.gh),.int .i64 (spanAt hi M.cl M.ch)]) s:=fun s hs=>sale_ok n (by omega) hi M s hs
 obtain ⟨w,hw⟩:∃ w:St,w=((u.new (.cells (endV hi) (tag 82))).new (.cells M.cells (tag 51))).new (.cells [.int .i64 0,.int .i64 0] (tag 103)):=⟨_,rfl⟩
 have wn:w.n=u.n+3:=by rw [hw];rfl
 have wm:w.m=far:=by rw [hw];exact um
 have w0:w.h.get u.n=some (.cells [hereV hi,hereV (!hi)] (tag 82)):=by rw [hw,get_new_ne _ _ _ (by simp only [new_n];omega),get_new_ne _ _ _ (by simp only [new_n];omega)];exact get_new_eq _ _ _ rfl (by omega)
 have w1:w.h.get (u.n+1)=some (.cells [.int .i64 M.st,.int .i64 M.gd,.int .i64 M.gl,.int .i64 M.gh,.int .i64 M.cl,.int .i64 M.ch] (tag 51)):=by rw [hw,get_new_ne _ _ _ (by simp only [new_n];omega)];exact get_new_eq _ _ _ rfl (by simp only [new_n];omega)
 have w2:w.h.get (u.n+2)=some (.cells [.int .i64 0,.int .i64 0] (tag 103)):=by rw [hw];exact get_new_eq _ _ _ rfl (by simp only [new_n];omega)
 obtain ⟨x,hx⟩:∃ x:St,x=(w.new (.cells [.int .i64 0,.int .i64 0] (tag 103))).put w.n (.cells [.int .i64 (spanAt hi M.gl M.gh),.int .i64 (spanAt hi M.cl M.ch)] (tag 103)):=⟨_,rfl⟩
 have xn:x.n=w.n+1:=by rw [hx];rfl
 have xm:x.m=min far w.n:=by rw [hx];simp only [St.put,minN_eq,new_m,wm]
 have xg:∀ c,c<w.n→x.h.get c=w.h.get c:=fun c hc=>by rw [hx,get_put_ne' _ _ _ _ (by omega),get_new_ne _ _ _ (by omega)]
 have xt:x.h.get w.n=some (.cells [.int .i64 (spanAt hi M.gl M.gh),.int .i64 (spanAt hi M.cl M.ch)] (tag 103)):=by rw [hx];exact get_put_eq _ _ _ _ rfl (by omega)
 have x0:=(xg u.n (by omega)).trans w0
 have x1:=(xg (u.n+1) (by omega)).trans w1
 have x2:=(xg (u.n+2) (by omega)).trans w2
 have scM:scalars M.cells=true:=rfl
 rw [enter66]
 simp (disch:=first|omega|(with_unfolding_all exact rfl)|(simp only[new_n,put_n,new_m];omega)|(refine put_m_le ?_;simp only[new_m];omega)) only [K66,K66r0,Abs.W,reduceIte,Nat.reduceEqDiff,Nat.reduceAdd,decide_true,decide_false,kLoop_def,Nat.reduceSub,List.cons_append,List.nil_append,List.append_nil,List.length_cons,List.length_nil,Env.find_set,scE,scM,Nat.zero_add]
 simp only [new_n]
 rw [← hw]
 clear hw
 simp (disch:=first|omega|(with_unfolding_all exact rfl)|(simp only[new_n,put_n,new_m];omega)|(refine put_m_le ?_;simp only[new_m];omega)) only [K66r1,Abs.W,reduceIte,Nat.reduceEqDiff,Nat.reduceAdd,decide_true,decide_false,kLoop_def,Nat.reduceSub,List.cons_append,List.nil_append,List.append_nil,List.length_cons,List.length_nil,Env.find_set,w0,w1,okA_end,so,Nat.zero_add]
 rw [← hx]
 clear hx
 by_cases hp:spanAt hi M.cl M.ch≤p
 ·have d:decide (spanAt hi M.cl M.ch≤p)=true:=decide_eq_true hp
  have hT:triedG hi M p=spanAt (!hi) M.gl M.gh:=by unfold triedG;rw [if_pos hp]
  rw [hT]
  have th:∀ s:St,s.n+100≤far→callV (call Try.prog X n) [.agg [.int .i64 M.gl,.int .i64 M.gh]] s (hereV (!hi))=.val (.int .i64 (spanAt (!hi) M.gl M.gh)) s:=fun s hs=>by
   cases hi
   ·show callV _ _ s (.func 61 [] [])=_
    rw [callV_func];exact hi_ok n (by omega) _ _ s hs
   ·show callV _ _ s (.func 60 [] [])=_
    rw [callV_func];exact lo_ok n (by omega) _ _ s hs
  have okh:∀ s,okA (.val (hereV (!hi)) s)=.val (hereV (!hi)) s:=fun s=>by cases hi<;>rfl
  simp (disch:=first|omega|(with_unfolding_all exact rfl)|(simp only[new_n,put_n,new_m];omega)|(refine put_m_le ?_;simp only[new_m];omega)) only [res66,K66r0,K66r1,K66r2,K66r3,K66r4,K66,Abs.W,reduceIte,Nat.reduceEqDiff,Nat.reduceAdd,decide_true,decide_false,kLoop_def,Nat.reduceSub,List.cons_append,List.nil_append,List.append_nil,List.length_cons,List.length_nil,Env.find_set,ixa2_0,ixa2_1,xt,x0,x1,x2,d,okh,th,Nat.zero_add]
  refine ⟨_,leave_cell _ _ _ _ sh2 ?_,?_⟩
  ·simp only [find_cons,reduceIte,Nat.reduceEqDiff]
   rw [load_ptr,get_put_eq _ _ _ _ rfl (by omega),loadO_cells,partS_some]
   rfl
  ·simp only [St.put,minN_eq];omega
 ·have d:decide (spanAt hi M.cl M.ch≤p)=false:=decide_eq_false hp
  have hT:triedG hi M p=spanAt hi M.gl M.gh:=by unfold triedG;rw [if_neg hp]
  rw [hT]
  simp (disch:=first|omega|(with_unfolding_all exact rfl)|(simp only[new_n,put_n,new_m];omega)|(refine put_m_le ?_;simp only[new_m];omega)) only [res66,K66r0,K66r1,K66r2,K66r3,K66r4,K66,Abs.W,reduceIte,Nat.reduceEqDiff,Nat.reduceAdd,decide_true,decide_false,kLoop_def,Nat.reduceSub,List.cons_append,List.nil_append,List.append_nil,List.length_cons,List.length_nil,Env.find_set,ixa2_0,ixa2_1,xt,x0,x1,x2,d,Nat.zero_add]
  refine ⟨_,leave_cell _ _ _ _ sh2 ?_,?_⟩
  ·simp only [find_cons,reduceIte,Nat.reduceEqDiff]
   rw [load_ptr,get_put_eq _ _ _ _ rfl (by omega),loadO_cells,partS_some]
   rfl
  ·simp only [St.put,minN_eq];omega
theorem cheap_snoc (hi:Bool) (q:Int) (x:Sale):∀ p:List Sale,cheapI hi q (p++[x])=cheapI hi q p+(if spanAt hi x.cl x.ch≤q then spanAt (!hi) x.gl x.gh else 0)
 | []=>by show _+0=0+_;omega
 | y::p=>by
  show _+cheapI hi q (p++[x])=_+cheapI hi q p+_
  rw [cheap_snoc hi q x p];omega
theorem dear_snoc (hi:Bool) (q:Int) (x:Sale):∀ p:List Sale,dearI hi q (p++[x])=dearI hi q p+(if spanAt hi x.cl x.ch≤q then 0 else spanAt hi x.gl x.gh)
 | []=>by show _+0=0+_;omega
 | y::p=>by
  show _+dearI hi q (p++[x])=_+dearI hi q p+_
  rw [dear_snoc hi q x p];omega
theorem cheap_range (hi:Bool) (q:Int):∀ l:List Sale,Fine l→(0≤cheapI hi q l∧cheapI hi q l≤5000 * l.length)∧0≤dearI hi q l∧dearI hi q l≤5000 * l.length
 | [],_=>by unfold cheapI dearI;simp
 | x::r,h=>by
  obtain ⟨⟨a,b⟩,a',b'⟩:=cheap_range hi q r (fun s hs=>h s (List.mem_cons_of_mem _ hs))
  have c:=h x (List.mem_cons_self ..)
  unfold cheapI dearI
  rw [List.length_cons]
  cases hi<;>simp only [spanAt,Bool.not_true,Bool.not_false]<;>split<;>omega
theorem enough_ok {M nb cb p2 p3 z2 z3:Nat} {H:Heap} {g:FuncId} {cap:List AV} {T:List Sale} {s:St} (hi:Bool) (q:Int) (hM:4≤M) (hh:Hands Try.prog X (M+1) (M+2) nb cb H g cap (fun s:Sale=>.agg s.cells) T) (hF:Fine T) (hl:T.length≤40) (hcb:cb≤100) (hH:∀ y,y<nb→s.h.get y=H.get y) (hnb:nb≤s.n)
  (h2:s.h.get p2=some (.cells [hereV hi,hereV (!hi)] z2)) (h3:s.h.get p3=some (.cells [.func g [] cap] z3)) (n2:p2<s.n) (n3:p3<s.n) (hs:s.n+200000≤far) :
  call Try.prog X (M+3) (.fn 65) [.int .i64 q,.ptr p3 0,.ptr p2 0] s=.val (.bool (enoughI hi T q)) s:=by
 have hff:far=1000000000:=rfl
 refine call_plain' (n:=M+2) Try.func65 (fun u uh un um=>?_) rfl
 rw [← uh] at h2 h3
 rw [← un] at n2 n3 hnb hs
 obtain ⟨w,hw⟩:∃ w:St,w=((((u.new (.cells [.int .i64 q] (tag 3))).new (.cells [.int .i64 0] (tag 3))).new (.cells [.int .i64 0] (tag 3))).put (u.n+1) (.cells [.int .i64 0] (tag 3))).put (u.n+2) (.cells [.int .i64 0] (tag 3)):=⟨_,rfl⟩
 have wn:w.n=u.n+3:=by rw [hw];rfl
 have wm:w.m=min (min far (u.n+1)) (u.n+2):=by rw [hw];simp only [St.put,minN_eq,new_m,um]
 have wg:∀ c,c<u.n→w.h.get c=u.h.get c:=fun c hc=>by rw [hw,get_put_ne' _ _ _ _ (by omega),get_put_ne' _ _ _ _ (by omega),get_new_ne _ _ _ (by simp only [new_n];omega),get_new_ne _ _ _ (by simp only [new_n];omega),get_new_ne _ _ _ (by omega)]
 have w0:w.h.get u.n=some (.cells [.int .i64 q] (tag 3)):=by rw [hw,get_put_ne' _ _ _ _ (by omega),get_put_ne' _ _ _ _ (by omega),get_new_ne _ _ _ (by simp only [new_n];omega),get_new_ne _ _ _ (by simp only [new_n];omega)];exact get_new_eq _ _ _ rfl (by omega)
 have w1:w.h.get (u.n+1)=some (.cells [.int .i64 0] (tag 3)):=by rw [hw,get_put_ne' _ _ _ _ (by omega)];exact get_put_eq _ _ _ _ rfl (by omega)
 have w2:w.h.get (u.n+2)=some (.cells [.int .i64 0] (tag 3)):=by rw [hw];exact get_put_eq _ _ _ _ rfl (by omega)
 have w3:=(wg p3 n3).trans h3
 rw [enter65]
 simp (disch:=first|omega|(with_unfolding_all exact rfl)|(simp only[new_n,put_n,new_m];omega)|(refine put_m_le ?_;simp only[new_m];omega)) only [K65,K65r0,K65r1,Abs.W,reduceIte,Nat.reduceEqDiff,Nat.reduceAdd,decide_true,decide_false,kLoop_def,Nat.reduceSub,List.cons_append,List.nil_append,List.append_nil,List.length_cons,List.length_nil,boxIntE,Env.find_set,Nat.zero_add]
 try simp only [new_n]
 rw [← hw]
 clear hw
 simp (disch:=first|omega|(with_unfolding_all exact rfl)|(simp only[new_n,put_n,new_m];omega)|(refine put_m_le ?_;simp only[new_m];omega)) only [K65r2,Abs.W,reduceIte,Nat.reduceEqDiff,Nat.reduceAdd,decide_true,decide_false,kLoop_def,Nat.reduceSub,List.cons_append,List.nil_append,List.append_nil,List.length_cons,List.length_nil,Env.find_set,w3,okA_fnv]
 generalize hL:Env.cons 0 _ _=L0
 have f2:L0.find 2=.ptr p2 0:=by rw [← hL];simp only [find_cons,reduceIte,Nat.reduceEqDiff]
 have f3:L0.find 3=.ptr u.n 0:=by rw [← hL];simp only [find_cons,reduceIte,Nat.reduceEqDiff]
 have f5:L0.find 5=.ptr (u.n+1) 0:=by rw [← hL];simp only [find_cons,reduceIte,Nat.reduceEqDiff]
 have f6:L0.find 6=.ptr (u.n+2) 0:=by rw [← hL];simp only [find_cons,reduceIte,Nat.reduceEqDiff]
 have f9:L0.find 9=.func g [] cap:=by rw [← hL];simp only [find_cons,reduceIte,Nat.reduceEqDiff]
 clear hL
 obtain ⟨s',e1,⟨e2,e2'⟩,e3,e4,e5,e6,e7,e8,_⟩:=hands_range (P:=Try.prog) (X:=X) (M:=M) (Z:=M+2) hh (f:=.tmp 9) (ps:=[10]) (c:=⟨65,none,Try.f65.ntmps,X 65⟩) (L:=L0) (s:=w) rfl (by rw [ev_tmp,f9]) rfl code65a0 code65b0 10 (u.n+1) 10000 (fun y=>y=u.n+1∨y=u.n+2) (fun _ _=>True) (fun _ _ _ _ _=>trivial) (fun _=>trivial) (fun p h _=>h.get (u.n+1)=some (.cells [.int .i64 (cheapI hi q p)] (tag 3))∧h.get (u.n+2)=some (.cells [.int .i64 (dearI hi q p)] (tag 3)))
  (by omega) (fun y hy=>by rw [wg y (by omega),uh];exact hH y hy) (by omega) (fun y hy=>by omega) (by omega) (by omega) (by omega) (by omega) ⟨w1,w2⟩ (fun p h h' n n' hb _ ⟨hp,hp'⟩=>⟨(hb _ (by omega)).trans hp,(hb _ (by omega)).trans hp'⟩)
  (fun p x rest t ht ⟨hp,hp'⟩ hfr htn htf htm htm' _=>by
   have hT:T=p++x::rest:=ht.symm
   have hFp:Fine p:=by rw [hT] at hF;exact hF.left
   have hx:=hF x (by rw [hT];simp)
   have hpl:p.length+1≤40:=by rw [hT] at hl;simp at hl;omega
   obtain ⟨⟨a0,a1⟩,a2,a3⟩:=cheap_range hi q p hFp
   have hs1:=cheap_snoc hi q x p
   have hs2:=dear_snoc hi q x p
   have hxs:0≤spanAt hi x.gl x.gh∧spanAt hi x.gl x.gh≤5000:=by cases hi<;>simp only [spanAt]<;>omega
   have hxs':0≤spanAt (!hi) x.gl x.gh∧spanAt (!hi) x.gl x.gh≤5000:=by cases hi<;>simp only [spanAt,Bool.not_true,Bool.not_false]<;>omega
   obtain ⟨y,hy⟩:∃ y:St,y=(t.new (.cells [.int .i64 0,.int .i64 0,.int .i64 0,.int .i64 0,.int .i64 0,.int .i64 0] (tag 51))).put t.n (.cells [.int .i64 x.st,.int .i64 x.gd,.int .i64 x.gl,.int .i64 x.gh,.int .i64 x.cl,.int .i64 x.ch] (tag 51)):=⟨_,rfl⟩
   have yn:y.n=t.n+1:=by rw [hy];rfl
   have yg:∀ c,c<t.n→y.h.get c=t.h.get c:=fun c hc=>by rw [hy,get_put_ne' _ _ _ _ (by omega),get_new_ne _ _ _ (by omega)]
   have yt:y.h.get t.n=some (.cells [.int .i64 x.st,.int .i64 x.gd,.int .i64 x.gl,.int .i64 x.gh,.int .i64 x.cl,.int .i64 x.ch] (tag 51)):=by rw [hy];exact get_put_eq _ _ _ _ rfl (by omega)
   have ym:y.m=min t.m t.n:=by rw [hy];simp only [St.put,minN_eq,new_m]
   obtain ⟨z,hz⟩:∃ z:St,z=y.put (w.n+1) (.loop { loopO ⟨65,none,Try.f65.ntmps,X 65⟩ L0 [10] (rangeAt Try.f65 0).1 (rangeAt Try.f65 0).2 w with state:=.busy }):=⟨_,rfl⟩
   have zn:z.n=y.n:=by rw [hz];rfl
   have zg:∀ c,c≠w.n+1→z.h.get c=y.h.get c:=fun c hc=>by rw [hz,get_put_ne' _ _ _ _ hc]
   have zl:z.h.get (w.n+1)=some (.loop { loopO ⟨65,none,Try.f65.ntmps,X 65⟩ L0 [10] (rangeAt Try.f65 0).1 (rangeAt Try.f65 0).2 w with state:=.busy }):=by rw [hz];exact get_put_eq _ _ _ _ rfl (by omega)
   have zm:z.m=min y.m (w.n+1):=by rw [hz];simp only [St.put,minN_eq]
   have z2':=(zg p2 (by omega)).trans ((yg p2 (by omega)).trans ((hfr p2 (by omega) (by omega)).trans ((wg p2 n2).trans h2)))
   have z0:=(zg u.n (by omega)).trans ((yg u.n (by omega)).trans ((hfr u.n (by omega) (by omega)).trans w0))
   have zt:=(zg t.n (by omega)).trans yt
   have tr:∀ s:St,s.n+2000≤far→call Try.prog X M (.fn 66) [.agg [hereV hi,hereV (!hi)],.agg [.int .i64 x.st,.int .i64 x.gd,.int .i64 x.gl,.int .i64 x.gh,.int .i64 x.cl,.int .i64 x.ch],.int .i64 q] s=.val (.agg [.int .i64 (triedG hi x q),.int .i64 (spanAt hi x.cl x.ch)]) s:=fun s hs=>tried_ok M (by omega) hi x q s hs
   obtain ⟨v,hv⟩:∃ v:St,v=(z.new (.cells [.int .i64 0,.int .i64 0] (tag 103))).put z.n (.cells [.int .i64 (triedG hi x q),.int .i64 (spanAt hi x.cl x.ch)] (tag 103)):=⟨_,rfl⟩
   have vn:v.n=z.n+1:=by rw [hv];rfl
   have vg:∀ c,c<z.n→v.h.get c=z.h.get c:=fun c hc=>by rw [hv,get_put_ne' _ _ _ _ (by omega),get_new_ne _ _ _ (by omega)]
   have vt:v.h.get z.n=some (.cells [.int .i64 (triedG hi x q),.int .i64 (spanAt hi x.cl x.ch)] (tag 103)):=by rw [hv];exact get_put_eq _ _ _ _ rfl (by omega)
   have vm:v.m=min z.m z.n:=by rw [hv];simp only [St.put,minN_eq,new_m]
   have v1:=(vg (u.n+1) (by omega)).trans ((zg (u.n+1) (by omega)).trans ((yg (u.n+1) (by omega)).trans hp))
   have v2:=(vg (u.n+2) (by omega)).trans ((zg (u.n+2) (by omega)).trans ((yg (u.n+2) (by omega)).trans hp'))
   have v0:=(vg u.n (by omega)).trans z0
   have vl:=(vg (w.n+1) (by omega)).trans zl
   have vy:∀ c,c<t.n→c≠w.n+1→v.h.get c=t.h.get c:=fun c hc h1=>(vg c (by omega)).trans ((zg c h1).trans (yg c hc))
   have hA:K65a0 (call Try.prog X M) ⟨65,some (w.n+1),Try.f65.ntmps,X 65⟩ (setParams L0 [10] [.agg x.cells]) [] t=.done .norm ((L0.set 10 (.agg x.cells)).set 7 (.ptr t.n 0)) [] y:=by
    rw [hy]
    simp (disch:=first|omega|(with_unfolding_all exact rfl)|(simp only[new_n,put_n,new_m];omega)|(refine put_m_le ?_;simp only[new_m];omega)) only [K65a0,K65a0r0,Abs.W,reduceIte,Nat.reduceEqDiff,Nat.reduceAdd,decide_true,decide_false,kLoop_def,Nat.reduceSub,List.cons_append,List.nil_append,List.append_nil,List.length_cons,List.length_nil,setParams1,Sale.cells,Env.find_set,Nat.reduceEqDiff]
   by_cases hc:spanAt hi x.cl x.ch≤q
   ·have d:decide (spanAt hi x.cl x.ch≤q)=true:=decide_eq_true hc
    rw [if_pos hc] at hs1 hs2
    have hG:triedG hi x q=spanAt (!hi) x.gl x.gh:=by unfold triedG;rw [if_pos hc]
    have ad:∀ s,aAdd s .i64 (cheapI hi q p) (triedG hi x q)=.val (.int .i64 (cheapI hi q (p++[x]))) s:=fun s=>by rw [hs1,hG];exact aAdd_i64 s _ _ (by omega)
    rw [Int.add_zero] at hs2
    refine ⟨_,y,((L0.set 10 (.agg x.cells)).set 7 (.ptr t.n 0)).set 8 (.ptr z.n 0) |>.set 18 (.bool true),v.put (u.n+1) (.cells [.int .i64 (cheapI hi q (p++[x]))] (tag 3)),hA,yg _ (by omega),?_,⟨get_put_eq _ _ _ _ rfl (by omega),?_⟩,?_,fun c hc h1 h2=>?_,by rw [put_n];omega,by rw [put_n];omega,?_,?_,trivial⟩
    ·rw [← hz]
     simp (disch:=first|omega|(with_unfolding_all exact rfl)|(simp only[new_n,put_n,new_m];omega)|(refine put_m_le ?_;simp only[new_m];omega)) only [K65b0,K65b0r0,Abs.W,reduceIte,Nat.reduceEqDiff,Nat.reduceAdd,decide_true,decide_false,kLoop_def,Nat.reduceSub,List.cons_append,List.nil_append,List.append_nil,List.length_cons,List.length_nil,Env.find_set,Nat.reduceEqDiff,f2,f3,f5,f6,z0,z2',zt,okA_end,tr,Nat.zero_add]
     rw [← hv]
     simp (disch:=first|omega|(with_unfolding_all exact rfl)|(simp only[new_n,put_n,new_m];omega)|(refine put_m_le ?_;simp only[new_m];omega)) only [K65b0r1,K65b0r2,Abs.W,reduceIte,Nat.reduceEqDiff,Nat.reduceAdd,decide_true,decide_false,kLoop_def,Nat.reduceSub,List.cons_append,List.nil_append,List.append_nil,List.length_cons,List.length_nil,Env.find_set,Nat.reduceEqDiff,f2,f3,f5,f6,ixa2_0,ixa2_1,vt,v0,v1,v2,d,ad,Nat.zero_add]
    ·rw [get_put_ne' _ _ _ _ (by omega),hs2];exact v2
    ·rw [get_put_ne' _ _ _ _ (by omega)];exact vl
    ·rw [get_put_ne' _ _ _ _ (by omega)];exact vy c hc h1
    ·simp only [St.put,minN_eq];omega
    ·simp only [St.put,minN_eq];omega
   ·have d:decide (spanAt hi x.cl x.ch≤q)=false:=decide_eq_false hc
    rw [if_neg hc] at hs1 hs2
    have hG:triedG hi x q=spanAt hi x.gl x.gh:=by unfold triedG;rw [if_neg hc]
    have ad:∀ s,aAdd s .i64 (dearI hi q p) (triedG hi x q)=.val (.int .i64 (dearI hi q (p++[x]))) s:=fun s=>by rw [hs2,hG];exact aAdd_i64 s _ _ (by omega)
    rw [Int.add_zero] at hs1
    refine ⟨_,y,((L0.set 10 (.agg x.cells)).set 7 (.ptr t.n 0)).set 8 (.ptr z.n 0) |>.set 18 (.bool false),v.put (u.n+2) (.cells [.int .i64 (dearI hi q (p++[x]))] (tag 3)),hA,yg _ (by omega),?_,⟨?_,get_put_eq _ _ _ _ rfl (by omega)⟩,?_,fun c hc h1 h2=>?_,by rw [put_n];omega,by rw [put_n];omega,?_,?_,trivial⟩
    ·rw [← hz]
     simp (disch:=first|omega|(with_unfolding_all exact rfl)|(simp only[new_n,put_n,new_m];omega)|(refine put_m_le ?_;simp only[new_m];omega)) only [K65b0,K65b0r0,Abs.W,reduceIte,Nat.reduceEqDiff,Nat.reduceAdd,decide_true,decide_false,kLoop_def,Nat.reduceSub,List.cons_append,List.nil_append,List.append_nil,List.length_cons,List.length_nil,Env.find_set,Nat.reduceEqDiff,f2,f3,f5,f6,z0,z2',zt,okA_end,tr,Nat.zero_add]
     rw [← hv]
     simp (disch:=first|omega|(with_unfolding_all exact rfl)|(simp only[new_n,put_n,new_m];omega)|(refine put_m_le ?_;simp only[new_m];omega)) only [K65b0r1,K65b0r3,Abs.W,reduceIte,Nat.reduceEqDiff,Nat.reduceAdd,decide_true,decide_false,kLoop_def,Nat.reduceSub,List.cons_append,List.nil_append,List.append_nil,List.length_cons,List.length_nil,Env.find_set,Nat.reduceEqDiff,f2,f3,f5,f6,ixa2_0,ixa2_1,vt,v0,v1,v2,d,ad,Nat.zero_add]
    ·rw [get_put_ne' _ _ _ _ (by omega),hs1];exact v1
    ·rw [get_put_ne' _ _ _ _ (by omega)];exact vl
    ·rw [get_put_ne' _ _ _ _ (by omega)];exact vy c hc h1
    ·simp only [St.put,minN_eq];omega
    ·simp only [St.put,minN_eq];omega)
 have hE:enoughI hi T q=decide (dearI hi q T≤cheapI hi q T):=rfl
 rw [hE]
 simp (disch:=first|omega|(with_unfolding_all exact rfl)|(simp only[new_n,put_n,new_m];omega)|(refine put_m_le ?_;simp only[new_m];omega)) only [K65r3,Abs.W,reduceIte,Nat.reduceEqDiff,Nat.reduceAdd,decide_true,decide_false,kLoop_def,Nat.reduceSub,List.cons_append,List.nil_append,List.append_nil,List.length_cons,List.length_nil,e1,Env.find_set,f5,f6,e2,e2']
 have ed:s'.h.get w.n=some .dfr:=e4
 rw [leave_dfr _ _ _ _ _ ed]
 simp (disch:=first|omega|(with_unfolding_all exact rfl)|(simp only[new_n,put_n,new_m];omega)|(refine put_m_le ?_;simp only[new_m];omega)) only [res65,Abs.W,reduceIte,Nat.reduceEqDiff,Nat.reduceAdd,decide_true,decide_false,kLoop_def,Nat.reduceSub,List.cons_append,List.nil_append,List.append_nil,List.length_cons,List.length_nil,Env.find_set]
 refine ⟨_,rfl,?_⟩
 simp only [St.kill,minN_eq];omega
end Go.Proofs.Ytamlnddeiokbdaa.walk
set_option maxRecDepth 10000
namespace Go.Proofs.Ytamlnddeiokbdaa.walk
open Go.Abs Go.Proofs.Ytamlnddeiokbdaa.code
def pricesTo (hi:Bool) (T l:List Sale):List Int:=(l.filter fun s=>enoughI hi T (spanAt hi s.cl s.ch)).map fun s=>spanAt hi s.cl s.ch
theorem pricesTo_app (hi:Bool) (T l r:List Sale):pricesTo hi T (l++r)=pricesTo hi T l++pricesTo hi T r:=by unfold pricesTo;rw [List.filter_append,List.map_append]
theorem pricesTo_yes {hi:Bool} {T:List Sale} {x:Sale} (h:enoughI hi T (spanAt hi x.cl x.ch)=true) (r:List Sale):pricesTo hi T (x::r)=spanAt hi x.cl x.ch::pricesTo hi T r:=by unfold pricesTo;rw [List.filter_cons,if_pos h];rfl
theorem pricesTo_no {hi:Bool} {T:List Sale} {x:Sale} (h:enoughI hi T (spanAt hi x.cl x.ch)=false) (r:List Sale):pricesTo hi T (x::r)=pricesTo hi T r:=by unfold pricesTo;rw [List.filter_cons,if_neg (by rw [h];simp)]
theorem least_tries (hi:Bool) (T:List Sale):∀ (r:List Sale) (st:Bool × Int),r.foldl (tryI hi T) st=(pricesTo hi T r).foldl leastI st
 | [],_=>rfl
 | x::r,st=>by
  rw [List.foldl_cons]
  cases h:enoughI hi T (spanAt hi x.cl x.ch) with
  | true=>rw [pricesTo_yes h,List.foldl_cons,← least_tries hi T r];unfold tryI;rw [if_pos h]
  | false=>rw [pricesTo_no h,← least_tries hi T r];unfold tryI;rw [if_neg (by rw [h];simp)]
theorem boxYE (sz l:Nat) (s:St):boxA sz s (.yield l)=.val (.ptr s.n 0) (s.new (.cells [.yield l] sz)):=Eq.trans (Eq.refl _) (Eq.refl _)
theorem okA_yi (l:Nat) (s:St):okA (.val (.yield l) s)=.val (.yield l) s:=Eq.trans (Eq.refl _) (Eq.refl _)
set_option maxRecDepth 100000 in
theorem price2_hands {M nb nb' cb p2 p3 p5 z2 z3 z5:Nat} {H H':Heap} {g:FuncId} {cap:List AV} {T:List Sale} (hi:Bool) (hM:7≤M) (hh:∀ N,Hands Try.prog X N (N+1) nb cb H g cap (fun s:Sale=>.agg s.cells) T) (hF:Fine T) (hl:T.length≤40) (hcb:cb≤100) (hnn:nb≤nb') (hHH:∀ y,y<nb→H'.get y=H.get y)
  (h2:H'.get p2=some (.cells [hereV hi,hereV (!hi)] z2)) (h3:H'.get p3=some (.cells [.func g [] cap] z3)) (h5:H'.get p5=some (.cells [.func 65 [] [.ptr p3 0,.ptr p2 0]] z5)) (n2:p2<nb') (n3:p3<nb') (n5:p5<nb') :
  Hands Try.prog X M (M+3) nb' 6000 H' 68 [.ptr p3 0,.ptr p2 0,.ptr p5 0] (fun c:Int=>.int .i64 c) (pricesTo hi T T):=by
 intro l k0 w rm own μ J s hT ho hH hnb hll hw hs hJ hwm hm
 have hff:far=1000000000:=rfl
 have kf:=hT.few
 obtain ⟨rq,hrq⟩:∃ rq,rq=rm+300000:=⟨_,rfl⟩
 obtain ⟨v',t,mm,e,⟨rfl,a1,a2,a3,a4,a5,a6,a7,a8⟩,hm'⟩:=call_any (n:=M+2) (args:=[.yield l,.ptr p3 0,.ptr p2 0,.ptr p5 0]) (s:=s) (Q:=fun v h n m'=>v=.tup []∧J (pricesTo hi T T) h n∧(∀ y,y<s.n→y≠l→¬ own y→h.get y=s.h.get y)∧s.n≤n∧n≤s.n+60 * (k0+6000)∧w≤m'∧m'≤far∧(pricesTo hi T T=[]∨m'≤l)∧μ (pricesTo hi T T) m') Try.func68 rfl (fun u uh un um=>by
  have hu:∀ y,y<nb'→u.h.get y=H'.get y:=fun y hy=>by rw [uh];exact hH y hy
  obtain ⟨w0,hw0⟩:∃ w0:St,w0=u.new (.cells [.yield l] (tag 108)):=⟨_,rfl⟩
  have wn:w0.n=u.n+1:=by rw [hw0];rfl
  have wm:w0.m=far:=by rw [hw0];exact um
  have wg:∀ c,c<u.n→w0.h.get c=u.h.get c:=fun c hc=>by rw [hw0,get_new_ne _ _ _ (by omega)]
  have w4:w0.h.get u.n=some (.cells [.yield l] (tag 108)):=by rw [hw0];exact get_new_eq _ _ _ rfl (by omega)
  have wH:∀ y,y<nb'→w0.h.get y=H'.get y:=fun y hy=>(wg y (by omega)).trans (hu y hy)
  have w3:=(wH p3 n3).trans h3
  rw [enter68]
  simp (disch:=first|omega|(with_unfolding_all exact rfl)|(simp only[new_n,put_n,new_m];omega)|(refine put_m_le ?_;simp only[new_m];omega)) only [K68,K68r0,Abs.W,reduceIte,Nat.reduceEqDiff,Nat.reduceAdd,decide_true,decide_false,kLoop_def,Nat.reduceSub,List.cons_append,List.nil_append,List.append_nil,List.length_cons,List.length_nil,boxYE,Env.find_set,Nat.zero_add]
  rw [← hw0]
  clear hw0
  simp (disch:=first|omega|(with_unfolding_all exact rfl)|(simp only[new_n,put_n,new_m];omega)|(refine put_m_le ?_;simp only[new_m];omega)) only [K68r1,Abs.W,reduceIte,Nat.reduceEqDiff,Nat.reduceAdd,decide_true,decide_false,kLoop_def,Nat.reduceSub,List.cons_append,List.nil_append,List.append_nil,List.length_cons,List.length_nil,Env.find_set,w3,okA_fnv]
  generalize hL:Env.cons 0 _ _=L0
  have f2:L0.find 2=.ptr p2 0:=by rw [← hL];simp only [find_cons,reduceIte,Nat.reduceEqDiff]
  have f3:L0.find 3=.ptr p5 0:=by rw [← hL];simp only [find_cons,reduceIte,Nat.reduceEqDiff]
  have f4:L0.find 4=.ptr u.n 0:=by rw [← hL];simp only [find_cons,reduceIte,Nat.reduceEqDiff]
  have f7:L0.find 7=.func g [] cap:=by rw [← hL];simp only [find_cons,reduceIte,Nat.reduceEqDiff]
  clear hL
  obtain ⟨s',e1,e2,e3,e4,e5,e6,e7,e8,e9,e10⟩:=hands_range (P:=Try.prog) (X:=X) (M:=M) (Z:=M+2) (hh (M+1)) (f:=.tmp 7) (ps:=[8]) (c:=⟨68,none,Try.f68.ntmps,X 68⟩) (L:=L0) (s:=w0) rfl (by rw [ev_tmp,f7]) rfl code68a0 code68b0 (k0+10) w rq (fun y=>own y∨y=l) (fun p m=>μ (pricesTo hi T p) m∧(pricesTo hi T p=[]∨m≤l)) (fun p m m' h1 h2=>⟨hT.mono _ _ _ h1 h2.1,h2.2.imp id (fun h=>by omega)⟩) (fun m=>⟨hT.nil m,.inl rfl⟩) (fun p h n=>J (pricesTo hi T p) h n)
   (by omega) (fun y hy=>(wH y (by omega)).trans (hHH y hy)) (by omega) (fun y hy=>by
    rcases hy with hy | hy
    ·have:=ho y hy;omega
    ·omega) (by omega) (by omega) (by omega) (by omega) (hT.keep _ _ _ _ _ (fun y hy=>by rw [wg y (by omega),uh]) (by omega) hJ) (fun p h h' n n' hb hn hp=>hT.keep _ _ _ _ _ (fun y hy=>hb y (by omega)) hn hp)
   (fun p x rest t ht hp hfr htn htf htm htm' hμ=>by
    have hTe:T=p++x::rest:=ht.symm
    have hpx:=pricesTo_app hi T p [x]
    have hpr:=pricesTo_app hi T p (x::rest)
    rw [← hTe] at hpr
    obtain ⟨y,hy⟩:∃ y:St,y=(t.new (.cells [.int .i64 0,.int .i64 0,.int .i64 0,.int .i64 0,.int .i64 0,.int .i64 0] (tag 51))).put t.n (.cells [.int .i64 x.st,.int .i64 x.gd,.int .i64 x.gl,.int .i64 x.gh,.int .i64 x.cl,.int .i64 x.ch] (tag 51)):=⟨_,rfl⟩
    have yn:y.n=t.n+1:=by rw [hy];rfl
    have yg:∀ c,c<t.n→y.h.get c=t.h.get c:=fun c hc=>by rw [hy,get_put_ne' _ _ _ _ (by omega),get_new_ne _ _ _ (by omega)]
    have yt:y.h.get t.n=some (.cells [.int .i64 x.st,.int .i64 x.gd,.int .i64 x.gl,.int .i64 x.gh,.int .i64 x.cl,.int .i64 x.ch] (tag 51)):=by rw [hy];exact get_put_eq _ _ _ _ rfl (by omega)
    have ym:y.m=min t.m t.n:=by rw [hy];simp only [St.put,minN_eq,new_m]
    obtain ⟨z,hz⟩:∃ z:St,z=y.put (w0.n+1) (.loop { loopO ⟨68,none,Try.f68.ntmps,X 68⟩ L0 [8] (rangeAt Try.f68 0).1 (rangeAt Try.f68 0).2 w0 with state:=.busy }):=⟨_,rfl⟩
    have zn:z.n=y.n:=by rw [hz];rfl
    have zg:∀ c,c≠w0.n+1→z.h.get c=y.h.get c:=fun c hc=>by rw [hz,get_put_ne' _ _ _ _ hc]
    have zl:z.h.get (w0.n+1)=some (.loop { loopO ⟨68,none,Try.f68.ntmps,X 68⟩ L0 [8] (rangeAt Try.f68 0).1 (rangeAt Try.f68 0).2 w0 with state:=.busy }):=by rw [hz];exact get_put_eq _ _ _ _ rfl (by omega)
    have zm:z.m=min y.m (w0.n+1):=by rw [hz];simp only [St.put,minN_eq]
    have zy:∀ c,c<t.n→c≠w0.n+1→z.h.get c=t.h.get c:=fun c hc h1=>(zg c h1).trans (yg c hc)
    have nown:∀ y,y<nb'→¬ (own y∨y=l):=fun y hy h=>by
     rcases h with h | h
     ·have:=ho y h;omega
     ·omega
    have zH:∀ c,c<nb'→z.h.get c=H'.get c:=fun c hc=>(zy c (by omega) (by omega)).trans ((hfr c (by omega) (nown c hc)).trans (wH c hc))
    have z2':=(zH p2 n2).trans h2
    have z3':=(zH p3 n3).trans h3
    have z5':=(zH p5 n5).trans h5
    have z4:=(zy u.n (by omega) (by omega)).trans ((hfr u.n (by omega) (fun h=>by
     rcases h with h | h
     ·have:=ho _ h;omega
     ·omega)).trans w4)
    have zt:=(zg t.n (by omega)).trans yt
    have so:∀ s:St,s.n+1000≤far→call Try.prog X M (.fn 62) [.agg [hereV hi,hereV (!hi)],.agg [.int .i64 x.st,.int .i64 x.gd,.int .i64 x.gl,.int .i64 x.gh,.int .i64 x.cl,.int .i64 x.ch]] s=.val (.agg [.int .i64 (spanAt hi x.gl x.gh),.int .i64 (spanAt hi x.cl x.ch)]) s:=fun s hs=>sale_ok M (by omega) hi x s hs
    obtain ⟨M',rfl⟩:∃ M',M=M'+3:=⟨M - 3,by omega⟩
    have en:=enough_ok (M:=M') (nb:=nb) (cb:=cb) (p2:=p2) (p3:=p3) (T:=T) (s:=z) hi (spanAt hi x.cl x.ch) (by omega) (hh (M'+1)) hF hl hcb (fun y hy=>(zH y (by omega)).trans (hHH y hy)) (by omega) z2' z3' (by omega) (by omega) (by omega)
    have hA:K68a0 (call Try.prog X (M'+3)) ⟨68,some (w0.n+1),Try.f68.ntmps,X 68⟩ (setParams L0 [8] [.agg x.cells]) [] t=.done .norm ((L0.set 8 (.agg x.cells)).set 5 (.ptr t.n 0)) [] y:=by
     rw [hy]
     simp (disch:=first|omega|(with_unfolding_all exact rfl)|(simp only[new_n,put_n,new_m];omega)|(refine put_m_le ?_;simp only[new_m];omega)) only [K68a0,K68a0r0,Abs.W,reduceIte,Nat.reduceEqDiff,Nat.reduceAdd,decide_true,decide_false,kLoop_def,Nat.reduceSub,List.cons_append,List.nil_append,List.append_nil,List.length_cons,List.length_nil,setParams1,Sale.cells,Env.find_set,Nat.reduceEqDiff]
    have hJz:J (pricesTo hi T p) z.h z.n:=hT.keep _ _ _ _ _ (fun b hb=>zy b (by omega) (by omega)) (by omega) hp
    have hzm:z.m≤t.m:=by omega
    have hμz:μ (pricesTo hi T p) z.m:=hT.mono _ _ _ hzm hμ.1
    have u1s5:=fun cl L s=>congrFun (congrFun (congrFun K68b0r1s5.eq_1 cl) L) s
    have u1s6:=fun cl L s=>congrFun (congrFun (congrFun K68b0r1s6.eq_1 cl) L) s
    have u1s7:=fun cl L s=>congrFun (congrFun (congrFun K68b0r1s7.eq_1 cl) L) s
    have u1s8:=fun cl L s=>congrFun (congrFun (congrFun K68b0r1s8.eq_1 cl) L) s
    cases hen:enoughI hi T (spanAt hi x.cl x.ch) with
    | true =>
     rw [hen] at en
     have h1:pricesTo hi T [x]=[spanAt hi x.cl x.ch]:=pricesTo_yes hen []
     have h2:pricesTo hi T (x::rest)=spanAt hi x.cl x.ch::pricesTo hi T rest:=pricesTo_yes hen rest
     rw [h1] at hpx
     rw [h2] at hpr
     obtain ⟨s2,k0',k1,k3,k4,k5,k6,k7,k8,k9⟩:=hT.take (pricesTo hi T p) (spanAt hi x.cl x.ch) (pricesTo hi T rest) z hpr.symm hJz (by omega) (by omega) (by omega) (by omega) hμz
     rw [hpx]
     refine ⟨_,y,(((L0.set 8 (.agg x.cells)).set 5 (.ptr t.n 0)).set 6 (.int .i64 (spanAt hi x.cl x.ch))).set 21 (.bool false),s2,hA,yg _ (by omega),?_,k1,(k3 _ (by omega) (by omega) (fun h=>by have:=ho _ h;omega)).trans zl,fun c hc h1 h2=>?_,by omega,by omega,k6,by omega,k9,.inr k8⟩
     ·rw [← hz]
      simp (disch:=first|omega|(with_unfolding_all exact rfl)|(simp only[new_n,put_n,new_m];omega)|(refine put_m_le ?_;simp only[new_m];omega)) only [K68b0,K68b0r0,Abs.W,reduceIte,Nat.reduceEqDiff,Nat.reduceAdd,decide_true,decide_false,kLoop_def,Nat.reduceSub,List.cons_append,List.nil_append,List.append_nil,List.length_cons,List.length_nil,Env.find_set,Nat.reduceEqDiff,f2,f3,f4,z2',zt,okA_end,so,ind1,Nat.zero_add]
      simp (disch:=first|omega|(with_unfolding_all exact rfl)|(simp only[new_n,put_n,new_m];omega)|(refine put_m_le ?_;simp only[new_m];omega)) only [K68b0r1,u1s5,u1s6,u1s7,u1s8,Abs.W,reduceIte,Nat.reduceEqDiff,Nat.reduceAdd,decide_true,decide_false,kLoop_def,Nat.reduceSub,List.cons_append,List.nil_append,List.append_nil,List.length_cons,List.length_nil,Env.find_set,Nat.reduceEqDiff,f2,f3,f4,z5',z4,okA_fnv,okA_yi,en,k0',Nat.zero_add]
     ·rw [k3 c (by omega) (fun h=>h2 (.inr h)) (fun h=>h2 (.inl h))];exact zy c hc h1
    | false =>
     rw [hen] at en
     have h1:pricesTo hi T [x]=[]:=pricesTo_no hen []
     rw [h1,List.append_nil] at hpx
     rw [hpx]
     refine ⟨_,y,(((L0.set 8 (.agg x.cells)).set 5 (.ptr t.n 0)).set 6 (.int .i64 (spanAt hi x.cl x.ch))).set 21 (.bool false),z,hA,yg _ (by omega),?_,hJz,zl,fun c hc h1 h2=>zy c hc h1,by omega,by omega,by omega,hzm,hμz,hμ.2.imp id (fun h=>by omega)⟩
     rw [← hz]
     simp (disch:=first|omega|(with_unfolding_all exact rfl)|(simp only[new_n,put_n,new_m];omega)|(refine put_m_le ?_;simp only[new_m];omega)) only [K68b0,K68b0r0,Abs.W,reduceIte,Nat.reduceEqDiff,Nat.reduceAdd,decide_true,decide_false,kLoop_def,Nat.reduceSub,List.cons_append,List.nil_append,List.append_nil,List.length_cons,List.length_nil,Env.find_set,Nat.reduceEqDiff,f2,f3,f4,z2',zt,okA_end,so,ind1,Nat.zero_add]
     simp (disch:=first|omega|(with_unfolding_all exact rfl)|(simp only[new_n,put_n,new_m];omega)|(refine put_m_le ?_;simp only[new_m];omega)) only [K68b0r1,u1s5,u1s6,u1s7,u1s8,Abs.W,reduceIte,Nat.reduceEqDiff,Nat.reduceAdd,decide_true,decide_false,kLoop_def,Nat.reduceSub,List.cons_append,List.nil_append,List.append_nil,List.length_cons,List.length_nil,Env.find_set,Nat.reduceEqDiff,f2,f3,f4,z5',z4,okA_fnv,okA_yi,en,Nat.zero_add])
  have ed:s'.h.get w0.n=some .dfr:=e4
  simp (disch:=first|omega|(with_unfolding_all exact rfl)|(simp only[new_n,put_n,new_m];omega)|(refine put_m_le ?_;simp only[new_m];omega)) only [Abs.W,reduceIte,Nat.reduceEqDiff,Nat.reduceAdd,decide_true,decide_false,kLoop_def,Nat.reduceSub,List.cons_append,List.nil_append,List.append_nil,List.length_cons,List.length_nil,e1]
  rw [leave_dfr _ _ _ _ _ ed]
  simp (disch:=first|omega|(with_unfolding_all exact rfl)|(simp only[new_n,put_n,new_m];omega)|(refine put_m_le ?_;simp only[new_m];omega)) only [res68,Abs.W,reduceIte,Nat.reduceEqDiff,Nat.reduceAdd,decide_true,decide_false,kLoop_def,Nat.reduceSub,List.cons_append,List.nil_append,List.append_nil,List.length_cons,List.length_nil,leave_nil]
  have kg:∀ c,c≠w0.n→(s'.kill w0.n).h.get c=s'.h.get c:=fun c hc=>get_kill_ne _ _ _ hc
  have km:(s'.kill w0.n).m=min s'.m w0.n:=by simp only [St.kill,minN_eq]
  have kn:(s'.kill w0.n).n=s'.n:=rfl
  have q1:pricesTo hi T T=[]∨(s'.kill w0.n).m≤l:=e10.imp id (fun h=>by omega)
  have q2:μ (pricesTo hi T T) (s'.kill w0.n).m:=hT.mono _ _ _ (by omega) e9
  refine ⟨_,_,rfl,⟨rfl,hT.keep _ _ _ _ _ (fun b hb=>kg b (by omega)) (Nat.le_refl _) e2,fun y hy h1 h2=>?_,by omega,by omega,by omega,by omega,q1,q2⟩,fun _ hle=>⟨rfl,?_,fun _ _ _ _=>trivial,Nat.le_refl _,by omega,by omega,by omega,q1,q2⟩⟩
  ·rw [kg y (by omega),e3 y (by omega) (fun h=>by rcases h with h | h;exact h2 h;exact h1 h),wg y (by omega),uh]
  ·rcases q1 with q1 | q1
   ·rw [q1];exact hJ
   ·omega)
 refine ⟨t,e,a1,a2,a3,a4,?_,?_,?_⟩
 ·rcases hm' with ⟨_,hm'⟩ | ⟨_,hm'⟩<;>omega
 ·rcases hm' with ⟨_,hm'⟩ | ⟨_,hm'⟩<;>omega
 ·rcases hm' with ⟨h1,hm'⟩ | ⟨h1,hm'⟩
  ·rcases a7 with a7 | a7
   ·rw [a7];exact hT.nil _
   ·omega
  ·exact hT.mono _ _ _ (by omega) a8
end Go.Proofs.Ytamlnddeiokbdaa.walk
set_option maxRecDepth 10000
namespace Go.Proofs.Ytamlnddeiokbdaa.walk
open Go.Abs Go.Proofs.Ytamlnddeiokbdaa.code
theorem cellsBool (b:Bool):cellsOf 1 (.bool b)=some [.bool b]:=rfl
def leastQ (p:List Int):Bool × Int:=p.foldl leastI (false,0)
theorem leastQ_snoc (p:List Int) (c:Int):leastQ (p++[c])=leastI (leastQ p) c:=by unfold leastQ;rw [List.foldl_append];rfl
theorem least_ok {M Z nb cb:Nat} {H:Heap} {g:FuncId} {cap:List AV} {T:List Int} {s:St} (hh:Hands Try.prog X (M+1) Z nb cb H g cap (fun c:Int=>.int .i64 c) T) (hcb:cb≤6000) (hH:∀ y,y<nb→s.h.get y=H.get y) (hnb:nb≤s.n) (hs:s.n+1000000≤far) :
  call Try.prog X (Z+1) (.fn 67) [.func g [] cap] s=.val (.int .i64 (leastQ T).2) s:=by
 have hff:far=1000000000:=rfl
 refine call_plain' (n:=Z) Try.func67 (fun u uh un um=>?_) rfl
 obtain ⟨w,hw⟩:∃ w:St,w=((u.new (.cells [.int .i64 0] (tag 3))).new (.cells [.bool false] (tag 4))).put (u.n+1) (.cells [.bool false] (tag 4)):=⟨_,rfl⟩
 have wn:w.n=u.n+2:=by rw [hw];rfl
 have wm:w.m=min far (u.n+1):=by rw [hw];simp only [St.put,minN_eq,new_m,um]
 have wg:∀ c,c<u.n→w.h.get c=u.h.get c:=fun c hc=>by rw [hw,get_put_ne' _ _ _ _ (by omega),get_new_ne _ _ _ (by rw [new_n];omega),get_new_ne _ _ _ (by omega)]
 have w0:w.h.get u.n=some (.cells [.int .i64 0] (tag 3)):=by rw [hw,get_put_ne' _ _ _ _ (by omega),get_new_ne _ _ _ (by rw [new_n];omega)];exact get_new_eq _ _ _ rfl (by omega)
 have w1:w.h.get (u.n+1)=some (.cells [.bool false] (tag 4)):=by rw [hw];exact get_put_eq _ _ _ _ rfl (by omega)
 rw [enter67]
 simp (disch:=first|omega|(with_unfolding_all exact rfl)|(simp only[new_n,put_n,new_m];omega)|(refine put_m_le ?_;simp only[new_m];omega)) only [K67,K67r0,K67r1,K67r2,Abs.W,reduceIte,Nat.reduceEqDiff,Nat.reduceAdd,decide_true,decide_false,kLoop_def,Nat.reduceSub,List.cons_append,List.nil_append,List.append_nil,List.length_cons,List.length_nil,cellsBool,Env.find_set,Nat.zero_add]
 try simp only [new_n]
 rw [← hw]
 clear hw
 simp (disch:=first|omega|(with_unfolding_all exact rfl)|(simp only[new_n,put_n,new_m];omega)|(refine put_m_le ?_;simp only[new_m];omega)) only [K67r3,Abs.W,reduceIte,Nat.reduceEqDiff,Nat.reduceAdd,decide_true,decide_false,kLoop_def,Nat.reduceSub,List.cons_append,List.nil_append,List.append_nil,List.length_cons,List.length_nil,cellsBool,Env.find_set]
 generalize hL:Env.cons 0 _ _=L0
 have f3:L0.find 3=.ptr u.n 0:=by rw [← hL];simp only [find_cons,reduceIte,Nat.reduceEqDiff]
 have f4:L0.find 4=.ptr (u.n+1) 0:=by rw [← hL];simp only [find_cons,reduceIte,Nat.reduceEqDiff]
 have f6:L0.find 6=.func g [] cap:=by rw [← hL];simp only [find_cons,reduceIte,Nat.reduceEqDiff]
 clear hL
 obtain ⟨s',e1,⟨e2,e2'⟩,e3,e4,e5,e6,e7,e8,_⟩:=hands_range (P:=Try.prog) (X:=X) (M:=M) (Z:=Z) hh (f:=.tmp 6) (ps:=[7]) (c:=⟨67,none,Try.f67.ntmps,X 67⟩) (L:=L0) (s:=w) rfl (by rw [ev_tmp,f6]) rfl code67a0 code67b0 10 u.n 10000 (fun y=>y=u.n∨y=u.n+1) (fun _ _=>True) (fun _ _ _ _ _=>trivial) (fun _=>trivial) (fun p h _=>h.get u.n=some (.cells [.int .i64 (leastQ p).2] (tag 3))∧h.get (u.n+1)=some (.cells [.bool (leastQ p).1] (tag 4)))
  (by omega) (fun y hy=>by rw [wg y (by omega),uh];exact hH y hy) (by omega) (fun y hy=>by omega) (by omega) (by omega) (by omega) (by omega) ⟨w0,w1⟩ (fun p h h' n n' hb _ ⟨hp,hp'⟩=>⟨(hb _ (by omega)).trans hp,(hb _ (by omega)).trans hp'⟩)
  (fun p c rest t ht ⟨hp,hp'⟩ hfr htn htf htm htm' _=>by
   have hq:=leastQ_snoc p c
   rw [hq]
   generalize leastQ p=q at *
   obtain ⟨qf,qb⟩:=q
   simp only at hp hp'
   obtain ⟨z,hz⟩:∃ z:St,z=t.put (w.n+1) (.loop { loopO ⟨67,none,Try.f67.ntmps,X 67⟩ L0 [7] (rangeAt Try.f67 0).1 (rangeAt Try.f67 0).2 w with state:=.busy }):=⟨_,rfl⟩
   have zn:z.n=t.n:=by rw [hz];rfl
   have zg:∀ c,c≠w.n+1→z.h.get c=t.h.get c:=fun c hc=>by rw [hz,get_put_ne' _ _ _ _ hc]
   have zl:z.h.get (w.n+1)=some (.loop { loopO ⟨67,none,Try.f67.ntmps,X 67⟩ L0 [7] (rangeAt Try.f67 0).1 (rangeAt Try.f67 0).2 w with state:=.busy }):=by rw [hz];exact get_put_eq _ _ _ _ rfl (by omega)
   have zm:z.m=min t.m (w.n+1):=by rw [hz];simp only [St.put,minN_eq]
   have z0:=(zg u.n (by omega)).trans hp
   have z1:=(zg (u.n+1) (by omega)).trans hp'
   have hA:K67a0 (call Try.prog X M) ⟨67,some (w.n+1),Try.f67.ntmps,X 67⟩ (setParams L0 [7] [.int .i64 c]) [] t=.done .norm ((L0.set 7 (.int .i64 c)).set 5 (.int .i64 c)) [] t:=by
    simp (disch:=first|omega|(with_unfolding_all exact rfl)|(simp only[new_n,put_n,new_m];omega)|(refine put_m_le ?_;simp only[new_m];omega)) only [K67a0,K67a0r0,Abs.W,reduceIte,Nat.reduceEqDiff,Nat.reduceAdd,decide_true,decide_false,kLoop_def,Nat.reduceSub,List.cons_append,List.nil_append,List.append_nil,List.length_cons,List.length_nil,setParams1,Env.find_set,Nat.reduceEqDiff]
   have u0s4:=fun cl L s=>congrFun (congrFun (congrFun K67b0r0s4.eq_1 cl) L) s
   have u0s5:=fun cl L s=>congrFun (congrFun (congrFun K67b0r0s5.eq_1 cl) L) s
   have u0s6:=fun cl L s=>congrFun (congrFun (congrFun K67b0r0s6.eq_1 cl) L) s
   by_cases hb:(!qf || decide (c<qb))=true
   ·have hQ:leastI (qf,qb) c=(true,c):=by unfold leastI;rw [if_pos hb]
    rw [hQ]
    refine ⟨_,t,(((L0.set 7 (.int .i64 c)).set 5 (.int .i64 c)).set 14 (.bool true)),(z.put u.n (.cells [.int .i64 c] (tag 3))).put (u.n+1) (.cells [.bool true] (tag 4)),hA,rfl,?_,⟨?_,get_put_eq _ _ _ _ rfl (by omega)⟩,?_,fun x hc h1 h2=>?_,by simp only [put_n];omega,by simp only [put_n];omega,?_,?_,trivial⟩
    ·rw [← hz]
     cases qf with
     | false=>simp (disch:=first|omega|(with_unfolding_all exact rfl)|(simp only[new_n,put_n,new_m];omega)|(refine put_m_le ?_;simp only[new_m];omega)) only [K67b0,K67b0r0,K67b0r1,u0s4,u0s5,u0s6,Abs.W,reduceIte,Nat.reduceEqDiff,Nat.reduceAdd,decide_true,decide_false,kLoop_def,Nat.reduceSub,List.cons_append,List.nil_append,List.append_nil,List.length_cons,List.length_nil,cellsBool,Env.find_set,Nat.reduceEqDiff,f3,f4,z0,z1,Nat.zero_add]
     | true =>
      have d:decide (c<qb)=true:=by simpa using hb
      simp (disch:=first|omega|(with_unfolding_all exact rfl)|(simp only[new_n,put_n,new_m];omega)|(refine put_m_le ?_;simp only[new_m];omega)) only [K67b0,K67b0r0,K67b0r1,u0s4,u0s5,u0s6,Abs.W,reduceIte,Nat.reduceEqDiff,Nat.reduceAdd,decide_true,decide_false,kLoop_def,Nat.reduceSub,List.cons_append,List.nil_append,List.append_nil,List.length_cons,List.length_nil,cellsBool,Env.find_set,Nat.reduceEqDiff,f3,f4,z0,z1,d,Nat.zero_add]
    ·rw [get_put_ne' _ _ _ _ (by omega)];exact get_put_eq _ _ _ _ rfl (by omega)
    ·rw [get_put_ne' _ _ _ _ (by omega),get_put_ne' _ _ _ _ (by omega)];exact zl
    ·rw [get_put_ne' _ _ _ _ (fun h=>h2 (.inr h)),get_put_ne' _ _ _ _ (fun h=>h2 (.inl h))];exact zg x h1
    ·simp only [St.put,minN_eq];omega
    ·simp only [St.put,minN_eq];omega
   ·have hQ:leastI (qf,qb) c=(qf,qb):=by unfold leastI;rw [if_neg hb]
    have h1:qf=true:=by cases qf with
     | true=>rfl
     | false=>simp at hb
    subst h1
    have d:decide (c<qb)=false:=by simpa using hb
    rw [hQ]
    refine ⟨_,t,(((L0.set 7 (.int .i64 c)).set 5 (.int .i64 c)).set 14 (.bool false)),z,hA,rfl,?_,⟨z0,z1⟩,zl,fun x hc h1 h2=>zg x h1,by omega,by omega,by omega,by omega,trivial⟩
    rw [← hz]
    simp (disch:=first|omega|(with_unfolding_all exact rfl)|(simp only[new_n,put_n,new_m];omega)|(refine put_m_le ?_;simp only[new_m];omega)) only [K67b0,K67b0r0,u0s4,u0s5,u0s6,Abs.W,reduceIte,Nat.reduceEqDiff,Nat.reduceAdd,decide_true,decide_false,kLoop_def,Nat.reduceSub,List.cons_append,List.nil_append,List.append_nil,List.length_cons,List.length_nil,cellsBool,Env.find_set,Nat.reduceEqDiff,f3,f4,z0,z1,d,Nat.zero_add])
 simp (disch:=first|omega|(with_unfolding_all exact rfl)|(simp only[new_n,put_n,new_m];omega)|(refine put_m_le ?_;simp only[new_m];omega)) only [K67r4,Abs.W,reduceIte,Nat.reduceEqDiff,Nat.reduceAdd,decide_true,decide_false,kLoop_def,Nat.reduceSub,List.cons_append,List.nil_append,List.append_nil,List.length_cons,List.length_nil,e1,Env.find_set,f3,e2]
 have ed:s'.h.get w.n=some .dfr:=e4
 rw [leave_dfr _ _ _ _ _ ed]
 simp (disch:=first|omega|(with_unfolding_all exact rfl)|(simp only[new_n,put_n,new_m];omega)|(refine put_m_le ?_;simp only[new_m];omega)) only [res67,Abs.W,reduceIte,Nat.reduceEqDiff,Nat.reduceAdd,decide_true,decide_false,kLoop_def,Nat.reduceSub,List.cons_append,List.nil_append,List.append_nil,List.length_cons,List.length_nil,cellsBool,Env.find_set]
 refine ⟨_,rfl,?_⟩
 simp only [St.kill,minN_eq];omega
theorem price_ok {M nb cb:Nat} {H:Heap} {g:FuncId} {cap:List AV} {T:List Sale} {s:St} (hi:Bool) (hM:7≤M) (hh:∀ N,Hands Try.prog X N (N+1) nb cb H g cap (fun s:Sale=>.agg s.cells) T) (hF:Fine T) (hl:T.length≤40) (hcb:cb≤100) (hH:∀ y,y<nb→s.h.get y=H.get y) (hnb:nb≤s.n) (hs:s.n+2000000≤far) :
  call Try.prog X (M+6) (.fn 48) [.agg (endV hi),.func g [] cap] s=.val (.int .i64 (priceI hi T)) s:=by
 have hff:far=1000000000:=rfl
 refine call_plain' (n:=M+5) Try.func48 (fun u uh un um=>?_) rfl
 have scE:=endV_cells hi
 obtain ⟨w,hw⟩:∃ w:St,w=(((u.new (.cells (endV hi) (tag 82))).new (.cells [.func g [] cap] (tag 89))).new (.cells [.nilfunc] (tag 108))).put (u.n+2) (.cells [.func 65 [] [.ptr (u.n+1) 0,.ptr u.n 0]] (tag 108)):=⟨_,rfl⟩
 have wn:w.n=u.n+3:=by rw [hw];rfl
 have wm:w.m=min far (u.n+2):=by rw [hw];simp only [St.put,minN_eq,new_m,um]
 have wg:∀ c,c<u.n→w.h.get c=u.h.get c:=fun c hc=>by rw [hw,get_put_ne' _ _ _ _ (by omega),get_new_ne _ _ _ (by simp only [new_n];omega),get_new_ne _ _ _ (by simp only [new_n];omega),get_new_ne _ _ _ (by omega)]
 have w0:w.h.get u.n=some (.cells [hereV hi,hereV (!hi)] (tag 82)):=by rw [hw,get_put_ne' _ _ _ _ (by omega),get_new_ne _ _ _ (by simp only [new_n];omega),get_new_ne _ _ _ (by simp only [new_n];omega)];exact get_new_eq _ _ _ rfl (by omega)
 have w1:w.h.get (u.n+1)=some (.cells [.func g [] cap] (tag 89)):=by rw [hw,get_put_ne' _ _ _ _ (by omega),get_new_ne _ _ _ (by simp only [new_n];omega)];exact get_new_eq _ _ _ rfl (by simp only [new_n];omega)
 have w2:w.h.get (u.n+2)=some (.cells [.func 65 [] [.ptr (u.n+1) 0,.ptr u.n 0]] (tag 108)):=by rw [hw];exact get_put_eq _ _ _ _ rfl (by omega)
 have wH:∀ y,y<nb→w.h.get y=H.get y:=fun y hy=>by rw [wg y (by omega),uh];exact hH y hy
 have h2:=price2_hands (M:=M+1) (nb:=nb) (nb':=w.n) (cb:=cb) (p2:=u.n) (p3:=u.n+1) (p5:=u.n+2) (H:=H) (H':=w.h) (g:=g) (cap:=cap) (T:=T) hi (by omega) hh hF hl hcb (by omega) wH w0 w1 w2 (by omega) (by omega) (by omega)
 have hle:=fun m=>least_ok (s:=⟨w.h,w.n,m⟩) h2 (Nat.le_refl _) (fun _ _=>rfl) (Nat.le_refl _) (by show w.n+1000000≤far;omega)
 have hle':call Try.prog X (M+5) (.fn 67) [.func 68 [] [.ptr (u.n+1) 0,.ptr u.n 0,.ptr (u.n+2) 0]] w=.val (.int .i64 (priceI hi T)) w:=by
  have:=hle w.m
  have e:(leastQ (pricesTo hi T T)).2=priceI hi T:=by unfold leastQ priceI;rw [least_tries]
  rw [e] at this
  exact this
 rw [enter48]
 simp (disch:=first|omega|(with_unfolding_all exact rfl)|(simp only[new_n,put_n,new_m];omega)|(refine put_m_le ?_;simp only[new_m];omega)) only [K48,K48r0,K48r1,Abs.W,reduceIte,Nat.reduceEqDiff,Nat.reduceAdd,decide_true,decide_false,kLoop_def,Nat.reduceSub,List.cons_append,List.nil_append,List.append_nil,List.length_cons,List.length_nil,Env.find_set,scE,boxA_func,kFuncE',okA_fnv,cellsFn,Nat.zero_add]
 try simp only [new_n]
 rw [← hw]
 clear hw
 simp (disch:=first|omega|(with_unfolding_all exact rfl)|(simp only[new_n,put_n,new_m];omega)|(refine put_m_le ?_;simp only[new_m];omega)) only [K48r2,res48,Abs.W,reduceIte,Nat.reduceEqDiff,Nat.reduceAdd,decide_true,decide_false,kLoop_def,Nat.reduceSub,List.cons_append,List.nil_append,List.append_nil,List.length_cons,List.length_nil,Env.find_set,kFuncE',okA_fnv,hle']
 refine ⟨_,rfl,?_⟩
 omega
end Go.Proofs.Ytamlnddeiokbdaa.walk
namespace Go.Abs
structure Step where
 (fr sh:Int)
def Step.cells (s:Step):List AV:=[.int .i64 s.fr,.int .i64 s.sh]
def stepAt (l:List Step) (i:Nat):Step:=l.getD i ⟨0,0⟩
structure StepsOk (l:List Step):Prop where
 n0:1≤l.length
 n1:l.length≤6
 f0:(stepAt l 0).fr=0
 up:∀ i,i+1<l.length→(stepAt l i).fr<(stepAt l (i+1)).fr
 f1:∀ i,i<l.length→0≤(stepAt l i).fr∧(stepAt l i).fr≤100000
 s0:∀ i,i<l.length→0≤(stepAt l i).sh
 s1:∀ i,i<l.length→(stepAt l i).sh≤1000
end Go.Abs
namespace Go.Abs
variable {P:Program}
structure Blk (h:Heap) (n b w tg:Nat) (rows:List (List AV)) (v:AV):Prop where
 wide:∀ r ∈ rows,r.length=w
 is:∃ e sz,v=.slice b 0 rows.length rows.length e∧b<n∧h.get b=some (.cells rows.flatten sz)∧(e=true→sz=w+tg)
theorem Blk.mono {h h':Heap} {n n' b w tg:Nat} {rows:List (List AV)} {v:AV} (r:Blk h n b w tg rows v) (hh:h'.get b=h.get b) (hn:n≤n'):Blk h' n' b w tg rows v :=
 ⟨r.wide,by obtain ⟨e,sz,h1,h2,h3,h4⟩:=r.is;exact ⟨e,sz,h1,by omega,by rw [hh];exact h3,h4⟩⟩
theorem Blk.lt {h:Heap} {n b w tg:Nat} {rows:List (List AV)} {v:AV} (r:Blk h n b w tg rows v):b<n:=by obtain ⟨e,sz,h1,h2,h3,h4⟩:=r.is;exact h2
theorem Blk.okA {h:Heap} {n b w tg:Nat} {rows:List (List AV)} {v:AV} (r:Blk h n b w tg rows v) (t:St):Abs.okA (.val v t)=.val v t:=by obtain ⟨e,sz,h1,h2,h3,h4⟩:=r.is;subst h1;rfl
theorem Blk.scal {h:Heap} {n b w tg:Nat} {rows:List (List AV)} {v:AV} (r:Blk h n b w tg rows v):v.scalar=true:=by obtain ⟨e,sz,h1,h2,h3,h4⟩:=r.is;subst h1;rfl
theorem Blk.cells {h:Heap} {n b w tg:Nat} {rows:List (List AV)} {v:AV} (r:Blk h n b w tg rows v):cellsOf 1 v=some [v]:=by obtain ⟨e,sz,h1,h2,h3,h4⟩:=r.is;subst h1;rfl
theorem Blk.len {h:Heap} {n b w tg:Nat} {rows:List (List AV)} {v:AV} (r:Blk h n b w tg rows v) (s:St):lenSlA s v=.val (.int .i64 rows.length) s:=by obtain ⟨e,sz,h1,h2,h3,h4⟩:=r.is;subst h1;rfl
theorem Blk.get {h:Heap} {n b w tg:Nat} {rows:List (List AV)} {v:AV} (r:Blk h n b w tg rows v):∃ sz,h.get b=some (.cells rows.flatten sz):=by obtain ⟨e,sz,h1,h2,h3,h4⟩:=r.is;exact ⟨sz,h3⟩
theorem Blk.ixs {h:Heap} {n b w tg:Nat} {rows:List (List AV)} {v:AV} (r:Blk h n b w tg rows v) {i:Nat} (hi:i<rows.length) (s:St):ixsA w s v (.int .i64 i)=.val (.ptr b (i * w)) s:=by
 obtain ⟨e,sz,h1,h2,h3,h4⟩:=r.is
 subst h1
 rw [ixs_slice _ _ _ _ _ _ _ _ hi,Nat.zero_add]
theorem Blk.cut {h:Heap} {n b w tg:Nat} {rows:List (List AV)} {v:AV} (r:Blk h n b w tg rows v) {i:Nat} (hi:i<rows.length):Abs.cut (i * w) w rows.flatten=some rows[i]:=flatten_cut r.wide hi
theorem Blk.at_ {h:Heap} {n b w tg:Nat} {rows:List (List AV)} {v:AV} (r:Blk h n b w tg rows v):RowsAt h n w rows v :=
 ⟨r.len,fun i hi=>by
  obtain ⟨sz,hg⟩:=r.get
  exact ⟨b,i * w,_,sz,r.lt,fun s=>r.ixs hi s,hg,r.cut hi⟩⟩
theorem endO_ok {M:Env} {l:List (Nat × Nat)} (s:St) (h:endOk M l=true):endO l (.ok M s)=.ok M s:=by
 show (match endOk M l with | true=>ORes.ok M s | false=>.fail)=_
 rw [h]
theorem endOk_nil (M:Env):endOk M []=true:=rfl
theorem apart_slice {b c o n k p:Nat} {e:Bool} (h:b≠c):apartA (.slice b o n k e) (.ptr c p)=true:=by
 unfold apartA
 simp [blockOf,nbeq_f h]
theorem Blk.apart {h:Heap} {n b w tg c o:Nat} {rows:List (List AV)} {v:AV} (r:Blk h n b w tg rows v) (hc:b≠c):apartA v (.ptr c o)=true:=by
 obtain ⟨e,sz,h1,h2,h3,h4⟩:=r.is
 subst h1;exact apart_slice hc
end Go.Abs
set_option maxRecDepth 10000
namespace Go.Abs
structure IsAt (h:Heap) (n b w tg:Nat) (rows:List (List AV)) (v:AV):Prop where
 wide:∀ r ∈ rows,r.length=w
 is:(rows=[]∧v=.nilslice)∨(rows≠[]∧b<n∧v=.slice b 0 rows.length rows.length true∧h.get b=some (.cells rows.flatten (w+tg)))
theorem IsAt.nil (h:Heap) (n b w tg:Nat):IsAt h n b w tg [] .nilslice:=⟨fun _ hr=>(by cases hr),.inl ⟨rfl,rfl⟩⟩
theorem IsAt.mono {h h':Heap} {n n' b w tg:Nat} {rows:List (List AV)} {v:AV} (r:IsAt h n b w tg rows v) (hh:b<n→h'.get b=h.get b) (hn:n≤n'):IsAt h' n' b w tg rows v :=
 ⟨r.wide,r.is.imp id fun ⟨h1,h2,h3,h4⟩=>⟨h1,by omega,h3,by rw [hh h2];exact h4⟩⟩
theorem IsAt.rows {h:Heap} {n b w tg:Nat} {rows:List (List AV)} {v:AV} (r:IsAt h n b w tg rows v):Rows h 0 n w tg rows v :=
 ⟨r.wide,r.is.imp id fun ⟨_,h2,h3,h4⟩=>⟨b,Nat.zero_le _,h2,h3,h4⟩⟩
theorem IsAt.okA {h:Heap} {n b w tg:Nat} {rows:List (List AV)} {v:AV} (r:IsAt h n b w tg rows v) (t:St):Abs.okA (.val v t)=.val v t:=okA_ne r.rows.at_.ne
theorem IsAt.scal {h:Heap} {n b w tg:Nat} {rows:List (List AV)} {v:AV} (r:IsAt h n b w tg rows v):scalars [v]=true∧cellsOf 1 v=some [v]:=by
 rcases r.is with ⟨_,h2⟩ | ⟨_,_,h3,_⟩
 ·subst h2;exact ⟨rfl,rfl⟩
 ·subst h3;exact ⟨rfl,rfl⟩
theorem append_at {s:St} {b w bytes tg:Nat} {rows:List (List AV)} {v:AV} (r:IsAt s.h s.n b w tg rows v) {p sz:Nat} {row:List AV} (hp:s.h.get p=some (.cells row sz)) (hw:row.length=w) (hsc:scalars row=true)
  (hb:(rows.length+1) * bytes≤1000000) (htg:szOf (w+tg)=w) (hs:s.n<549755813888) :
  ∃ s',appendA false w bytes tg s v (.slice p 0 1 1 false)=.val (.slice s.n 0 (rows.length+1) (rows.length+1) true) s'∧IsAt s'.h s'.n s.n w tg (rows++[row]) (.slice s.n 0 (rows.length+1) (rows.length+1) true)∧s'.n=s.n+1∧(∀ c,c<s.n→c≠b→s'.h.get c=s.h.get c)∧(∀ k,k≤b→k≤s.n→k≤s.m→k≤s'.m)∧s'.m≤s.m:=by
 rcases r.is with ⟨h1,h2⟩ | ⟨h1,h2,h3,h4⟩
 ·obtain ⟨v',s',e1,e2,e3,e4,e5,e6,e7,e8⟩:=append_row (lo:=s.n) (bytes:=bytes) (⟨r.wide,.inl ⟨h1,h2⟩⟩:Rows s.h s.n s.n w tg rows v) hp hw hsc hb htg hs (Nat.le_refl _)
  subst e8
  refine ⟨s',e1,⟨e2.wide,.inr ⟨by simp,by omega,by simp,?_⟩⟩,e3,fun c hc _=>e4 c hc,fun k _ hk hm=>e6 k hk hm,e7⟩
  rcases e2.is with ⟨z,_⟩ | ⟨b',_,_,z2,z3⟩
  ·simp at z
  ·injection z2 with z2
   rw [z2];exact z3
 ·obtain ⟨v',s',e1,e2,e3,e4,e5,e6,e7,e8⟩:=append_row (lo:=b) (bytes:=bytes) (⟨r.wide,.inr ⟨b,Nat.le_refl _,h2,h3,h4⟩⟩:Rows s.h b s.n w tg rows v) hp hw hsc hb htg hs (by omega)
  subst e8
  refine ⟨s',e1,⟨e2.wide,.inr ⟨by simp,by omega,by simp,?_⟩⟩,e3,fun c hc hcb=>e5 c hc (by rw [h3];intro z;injection z with z;exact hcb z.symm),fun k hk _ hm=>e6 k hk hm,e7⟩
  rcases e2.is with ⟨z,_⟩ | ⟨b',_,_,z2,z3⟩
  ·simp at z
  ·injection z2 with z2
   rw [z2];exact z3
theorem kSlice_def (f:Option AV→Option AV→St→AV→ARes) (x:Arg) (lo hi:Option Arg) (L:Env) (s:St):kSlice f x lo hi L s=f (optEv lo L) (optEv hi L) s (x.ev L):=rfl
theorem optEv_some (a:Arg) (L:Env):optEv (some a) L=some (a.ev L):=rfl
theorem optEv_none (L:Env):optEv none L=none:=rfl
theorem boundA_nat (y i:Nat) (k:IntKind) (h:i≤y):boundA y (.int k (i:Int))=some i:=by
 show (match Nat.ble i y with | true=>some i | false=>none)=_
 rw [Nat.ble_eq_true_of_le h]
theorem slice_to (w:Nat) (s:St) (b o n c i:Nat) (e:Bool) (h:n≤c) (hi:i≤c) (hc:0<c):sliceVal w none (some (.int .i64 (i:Int))) s (.slice b o n c e)=.val (.slice b o i c e) s:=by
 have e1:boundsA n c none (some (.int .i64 (i:Int)))=some (0,i):=by
  unfold boundsA hiA loA
  simp only [boundA_nat _ _ _ hi]
 have e2:Nat.beq c 0=false:=nbeq_f (by omega)
 unfold sliceVal
 simp only [Nat.ble_eq_true_of_le h,e1,e2,Nat.zero_mul,Nat.add_zero,Nat.sub_zero]
theorem nth_skip:∀ (a l:List AV) (k:Nat),nth (a++l) (a.length+k)=nth l k
 | [],l,k=>by rw [List.length_nil,Nat.zero_add,List.nil_append]
 | x::a,l,k=>by rw [List.length_cons,List.cons_append,show a.length+1+k=(a.length+k)+1 by omega,nth_cons,if_neg (by omega)];exact nth_skip a l k
end Go.Abs
namespace Go.Proofs.Ytamlnddeiokbdaa.walk
open Go.Abs
def intRows (l:List Int):List (List AV):=l.map fun x=>[.int .i64 x]
def LAt (h:Heap) (n bl:Nat) (l:List Int) (v:AV):Prop:=∃ x,x≠bl∧IsAt h n x 1 (tag 3) (intRows l) v
theorem LAt.nil (h:Heap) (n bl:Nat):LAt h n bl [] .nilslice:=⟨bl+1,by omega,IsAt.nil _ _ _ _ _⟩
theorem LAt.move {h h':Heap} {n n' bl bl':Nat} {l:List Int} {v:AV} (a:LAt h n bl l v) (hh:∀ c,c<n→c≠bl→h'.get c=h.get c) (hn:n≤n') (hb:bl'=bl∨n≤bl'):LAt h' n' bl' l v:=by
 obtain ⟨x,h1,h2⟩:=a
 rcases h2.is with ⟨h3,h4⟩ | ⟨_,h3,_⟩
 ·exact ⟨bl'+1,by omega,h2.wide,.inl ⟨h3,h4⟩⟩
 ·exact ⟨x,by omega,h2.mono (fun _=>hh x h3 h1) hn⟩
theorem LAt.rows {h:Heap} {n bl:Nat} {l:List Int} {v:AV} (a:LAt h n bl l v):RowsAt h n 1 (intRows l) v:=by obtain ⟨x,_,h⟩:=a;exact h.rows.at_
end Go.Proofs.Ytamlnddeiokbdaa.walk
