/- The two ends of what may be sold: what a sale is at an end, its turnover. -/
import Derived.Test.YtamlnddeiokbdaaM1
import Derived.Test.YtamlnddeiokbdaaCodes
import Derived.Test.YtamlnddeiokbdaaWalkAll
set_option linter.unusedSimpArgs false
set_option maxHeartbeats 16000000
set_option linter.unusedVariables false
set_option maxRecDepth 10000
namespace Go.Proofs.Ytamlnddeiokbdaa.walk
open Go.Abs Go.Proofs.Ytamlnddeiokbdaa.code
def hereV:Bool→AV
 | false=>.func 60 [] []
 | true=>.func 61 [] []
def endV (hi:Bool):List AV:=[hereV hi,hereV (!hi)]
def spanAt:Bool→Int→Int→Int
 | false,x,_=>x
 | true,_,y=>y
theorem lo_ok (N:Nat) (hN:1≤N) (x y:Int) (s:St) (hs:s.n+100≤far):call Try.prog X N (.fn 60) [.agg [.int .i64 x,.int .i64 y]] s=.val (.int .i64 x) s:=by
 obtain ⟨n,rfl⟩:∃ n,N=n+1:=⟨N - 1,by omega⟩
 have hf:far=1000000000:=rfl
 refine call_plain' Try.func60 (fun u uh un um=>?_) rfl
 rw [enter60]
 simp (disch:=first|omega|(with_unfolding_all exact rfl)|(simp only[new_n,put_n,new_m];omega)|(refine put_m_le ?_;simp only[new_m];omega)) only [res60,K60r0,K60r1,K60,Abs.W,reduceIte,Nat.reduceEqDiff,Nat.reduceAdd,decide_true,decide_false,kLoop_def,Nat.reduceSub,List.cons_append,List.nil_append,List.append_nil,List.length_cons,List.length_nil,Env.find_set,Nat.zero_add]
 exact ⟨_,rfl,by simp only [new_m];omega⟩
theorem hi_ok (N:Nat) (hN:1≤N) (x y:Int) (s:St) (hs:s.n+100≤far):call Try.prog X N (.fn 61) [.agg [.int .i64 x,.int .i64 y]] s=.val (.int .i64 y) s:=by
 obtain ⟨n,rfl⟩:∃ n,N=n+1:=⟨N - 1,by omega⟩
 have hf:far=1000000000:=rfl
 refine call_plain' Try.func61 (fun u uh un um=>?_) rfl
 rw [enter61]
 simp (disch:=first|omega|(with_unfolding_all exact rfl)|(simp only[new_n,put_n,new_m];omega)|(refine put_m_le ?_;simp only[new_m];omega)) only [res61,K61r0,K61r1,K61,Abs.W,reduceIte,Nat.reduceEqDiff,Nat.reduceAdd,decide_true,decide_false,kLoop_def,Nat.reduceSub,List.cons_append,List.nil_append,List.append_nil,List.length_cons,List.length_nil,Env.find_set,Nat.zero_add]
 exact ⟨_,rfl,by simp only [new_m];omega⟩
theorem okA_fnv (f:FuncId) (x y:List AV) (s:St):okA (.val (.func f x y) s)=.val (.func f x y) s:=Eq.trans (Eq.refl _) (Eq.refl _)
def Sale.at (M:Sale) (hi:Bool):List AV:=[.int .i64 (spanAt hi M.gl M.gh),.int .i64 (spanAt hi M.cl M.ch)]
theorem sale_ok (N:Nat) (hN:2≤N) (hi:Bool) (M:Sale) (s:St) (hs:s.n+1000≤far):call Try.prog X N (.fn 62) [.agg (endV hi),.agg M.cells] s=.val (.agg (M.at hi)) s:=by
 obtain ⟨n,rfl⟩:∃ n,N=n+1:=⟨N - 1,by omega⟩
 have hf:far=1000000000:=rfl
 have sh2:shapeT Try.prog 103=some (some 2):=by kernel_rfl
 refine call_plain' Try.func62 (fun u uh un um=>?_) rfl
 rw [enter62]
 cases hi
 all_goals
  unfold endV Sale.cells Sale.at
  simp only [hereV,spanAt,Bool.not_true,Bool.not_false]
  simp (disch:=first|omega|(with_unfolding_all exact rfl)|(simp only[new_n,put_n,new_m];omega)|(refine put_m_le ?_;simp only[new_m];omega)) only [res62,K62r0,K62r1,K62,Abs.W,reduceIte,Nat.reduceEqDiff,Nat.reduceAdd,decide_true,decide_false,kLoop_def,Nat.reduceSub,List.cons_append,List.nil_append,List.append_nil,List.length_cons,List.length_nil,Env.find_set,okA_fnv,lo_ok,hi_ok,endO_nil,Nat.zero_add]
 all_goals
  refine ⟨_,leave_cell _ _ _ _ sh2 ?_,?_⟩
  ·simp only [find_cons,reduceIte,Nat.reduceEqDiff]
   rw [load_ptr,get_put_eq _ _ _ _ rfl (by simp only [new_n];omega),loadO_cells,partS_some]
   rfl
  ·simp only [St.put,minN_eq,new_m,new_n];omega
end Go.Proofs.Ytamlnddeiokbdaa.walk
namespace Go.Proofs.Ytamlnddeiokbdaa.walk
open Go.Abs Go.Proofs.Ytamlnddeiokbdaa.code
def cheapI (hi:Bool) (p:Int):List Sale→Int
 | []=>0
 | s::r=>(if spanAt hi s.cl s.ch≤p then spanAt (!hi) s.gl s.gh else 0)+cheapI hi p r
def dearI (hi:Bool) (p:Int):List Sale→Int
 | []=>0
 | s::r=>(if spanAt hi s.cl s.ch≤p then 0 else spanAt hi s.gl s.gh)+dearI hi p r
def enoughI (hi:Bool) (l:List Sale) (p:Int):Bool:=decide (dearI hi p l≤cheapI hi p l)
def leastI (st:Bool × Int) (c:Int):Bool × Int:=if !st.1 || decide (c<st.2) then (true,c) else st
def tryI (hi:Bool) (l:List Sale) (st:Bool × Int) (s:Sale):Bool × Int:=if enoughI hi l (spanAt hi s.cl s.ch) then leastI st (spanAt hi s.cl s.ch) else st
def priceI (hi:Bool) (l:List Sale):Int:=(l.foldl (tryI hi l) (false,0)).2
def soldOf (l:List Sale) (good:Int):List Sale:=l.filter fun s=>decide (s.gd=good) && decide (0<s.gh)
def weighI (hi:Bool):List Sale→Int
 | []=>0
 | s::r=>spanAt hi s.gl s.gh+weighI hi r
theorem price_fold (hi:Bool) (l:List Sale):∀ (r:List Sale) (st:Bool × Int),
  (st.1=true→(r.foldl (tryI hi l) st).1=true)∧(∀ s ∈ r,enoughI hi l (spanAt hi s.cl s.ch)=true→(r.foldl (tryI hi l) st).1=true) ∧
  (st.1=true→(r.foldl (tryI hi l) st).2≤st.2)∧(∀ s ∈ r,enoughI hi l (spanAt hi s.cl s.ch)=true→(r.foldl (tryI hi l) st).2≤spanAt hi s.cl s.ch) ∧
  (r.foldl (tryI hi l) st=st∨∃ s ∈ r,enoughI hi l (spanAt hi s.cl s.ch)=true∧(r.foldl (tryI hi l) st)=(true,spanAt hi s.cl s.ch))
 | [],st=>⟨fun h=>h,⟨fun s hs=>absurd hs (by simp),⟨fun _=>Int.le_refl _,⟨fun s hs=>absurd hs (by simp),Or.inl rfl⟩⟩⟩⟩
 | a::r,st=>by
  obtain ⟨h1,h2,h3,h4,h5⟩:=price_fold hi l r (tryI hi l st a)
  rw [List.foldl_cons]
  have k1:st.1=true→(tryI hi l st a).1=true:=fun h=>by unfold tryI leastI;split<;>(try split)<;>first | rfl | exact h
  have k2:enoughI hi l (spanAt hi a.cl a.ch)=true→(tryI hi l st a).1=true:=fun h=>by
   unfold tryI leastI
   rw [if_pos h]
   by_cases h':(!st.1 || decide (spanAt hi a.cl a.ch<st.2))=true
   ·rw [if_pos h']
   ·rw [if_neg h']
    cases hs:st.1 with
    | true=>rfl
    | false=>rw [hs] at h';simp at h'
  have k3:st.1=true→(tryI hi l st a).2≤st.2:=fun h=>by
   unfold tryI leastI
   rw [h]
   by_cases e:enoughI hi l (spanAt hi a.cl a.ch)=true
   ·rw [if_pos e]
    by_cases h':spanAt hi a.cl a.ch<st.2
    ·simp only [Bool.not_true,Bool.false_or,decide_eq_true h',if_true];omega
    ·simp only [Bool.not_true,Bool.false_or,decide_eq_false h',if_false,Bool.false_eq_true];omega
   ·rw [if_neg e];omega
  have k4:enoughI hi l (spanAt hi a.cl a.ch)=true→(tryI hi l st a).2≤spanAt hi a.cl a.ch:=fun e=>by
   unfold tryI leastI
   rw [if_pos e]
   by_cases h':(!st.1 || decide (spanAt hi a.cl a.ch<st.2))=true
   ·rw [if_pos h'];exact Int.le_refl _
   ·rw [if_neg h']
    have:¬ spanAt hi a.cl a.ch<st.2:=fun h=>h' (by rw [decide_eq_true h,Bool.or_true])
    omega
  refine ⟨fun h=>h1 (k1 h),fun s hs e=>?_,fun h=>Int.le_trans (h3 (k1 h)) (k3 h),fun s hs e=>?_,?_⟩
  ·rcases List.mem_cons.mp hs with rfl | hs
   ·exact h1 (k2 e)
   ·exact h2 s hs e
  ·rcases List.mem_cons.mp hs with rfl | hs
   ·exact Int.le_trans (h3 (k2 e)) (k4 e)
   ·exact h4 s hs e
  ·rcases h5 with h5 | ⟨s,hs,e,h5⟩
   ·rw [h5]
    unfold tryI leastI
    by_cases e:enoughI hi l (spanAt hi a.cl a.ch)=true
    ·rw [if_pos e]
     by_cases h':(!st.1 || decide (spanAt hi a.cl a.ch<st.2))=true
     ·rw [if_pos h'];exact .inr ⟨a,List.mem_cons_self ..,e,rfl⟩
     ·rw [if_neg h'];exact .inl rfl
    ·rw [if_neg e];exact .inl rfl
   ·exact .inr ⟨s,List.mem_cons_of_mem _ hs,e,h5⟩
theorem price_least (hi:Bool) (l:List Sale):∀ s ∈ l,enoughI hi l (spanAt hi s.cl s.ch)=true→priceI hi l≤spanAt hi s.cl s.ch :=
 fun s hs e=>(price_fold hi l l (false,0)).2.2.2.1 s hs e
theorem all_cheap (hi:Bool) (p:Int):∀ (l:List Sale),(∀ s ∈ l,spanAt hi s.cl s.ch≤p)→dearI hi p l=0
 | [],_=>rfl
 | s::r,h=>by
  unfold dearI
  rw [if_pos (h s (List.mem_cons_self ..)),all_cheap hi p r (fun s hs=>h s (List.mem_cons_of_mem _ hs))]
  rfl
theorem cheap_nonneg (hi:Bool) (p:Int):∀ (l:List Sale),(∀ s ∈ l,0≤s.gl∧s.gl≤s.gh)→0≤cheapI hi p l
 | [],_=>Int.le_refl _
 | s::r,h=>by
  have a:=cheap_nonneg hi p r (fun s hs=>h s (List.mem_cons_of_mem _ hs))
  have b:=h s (List.mem_cons_self ..)
  unfold cheapI
  cases hi<;>simp only [spanAt,Bool.not_true,Bool.not_false]<;>split<;>omega
theorem greatest_in (f:Sale→Int):∀ (l:List Sale),l≠[]→∃ s ∈ l,∀ t ∈ l,f t≤f s
 | [],h=>absurd rfl h
 | [a],_=>⟨a,List.mem_cons_self ..,fun t ht=>by rw [List.mem_singleton.mp ht];exact Int.le_refl _⟩
 | a::b::r,_=>by
  obtain ⟨s,hs,h⟩:=greatest_in f (b::r) (by simp)
  by_cases g:f s≤f a
  ·exact ⟨a,List.mem_cons_self ..,fun t ht=>by
    rcases List.mem_cons.mp ht with rfl | ht
    ·exact Int.le_refl _
    ·exact Int.le_trans (h t ht) g⟩
  ·exact ⟨s,List.mem_cons_of_mem _ hs,fun t ht=>by
    rcases List.mem_cons.mp ht with rfl | ht
    ·omega
    ·exact h t ht⟩
theorem price_is (hi:Bool) (l:List Sale) (hl:l≠[]) (ok:∀ s ∈ l,0≤s.gl∧s.gl≤s.gh):∃ s ∈ l,enoughI hi l (spanAt hi s.cl s.ch)=true∧priceI hi l=spanAt hi s.cl s.ch:=by
 obtain ⟨s,hs,h⟩:=greatest_in (fun s=>spanAt hi s.cl s.ch) l hl
 have e:enoughI hi l (spanAt hi s.cl s.ch)=true:=decide_eq_true (by rw [all_cheap hi _ l h];exact cheap_nonneg hi _ l ok)
 obtain ⟨_,h2,_,_,h5⟩:=price_fold hi l l (false,0)
 have t:=h2 s hs e
 rcases h5 with h5 | ⟨s',hs',e',h5⟩
 ·rw [h5] at t;cases t
 ·exact ⟨s',hs',e',by unfold priceI;rw [h5]⟩
theorem cheap_same (hi:Bool) {p q:Int}:∀ (l:List Sale),(∀ s ∈ l,spanAt hi s.cl s.ch≤p↔spanAt hi s.cl s.ch≤q)→cheapI hi p l=cheapI hi q l∧dearI hi p l=dearI hi q l
 | [],_=>⟨rfl,rfl⟩
 | s::r,h=>by
  obtain ⟨a,b⟩:=cheap_same hi r (fun s hs=>h s (List.mem_cons_of_mem _ hs))
  have c:=h s (List.mem_cons_self ..)
  unfold cheapI dearI
  rw [a,b]
  by_cases k:spanAt hi s.cl s.ch≤p
  ·rw [if_pos k,if_pos (c.mp k),if_pos k,if_pos (c.mp k)];exact ⟨rfl,rfl⟩
  ·rw [if_neg k,if_neg (fun h=>k (c.mpr h)),if_neg k,if_neg (fun h=>k (c.mpr h))];exact ⟨rfl,rfl⟩
theorem price_upTo (hi:Bool) (l:List Sale) {q:Int} (h:dearI hi q l≤cheapI hi q l) {s:Sale} (hs:s ∈ l) (hq:spanAt hi s.cl s.ch≤q):priceI hi l≤q:=by
 have hm:s ∈ l.filter (fun t=>decide (spanAt hi t.cl t.ch≤q)):=List.mem_filter.mpr ⟨hs,decide_eq_true hq⟩
 obtain ⟨m,mm,mg⟩:=greatest_in (fun s=>spanAt hi s.cl s.ch) (l.filter (fun t=>decide (spanAt hi t.cl t.ch≤q))) (fun h0=>by rw [h0] at hm;cases hm)
 obtain ⟨m1,m2⟩:=List.mem_filter.mp mm
 have m3:=of_decide_eq_true m2
 obtain ⟨a,b⟩:=cheap_same hi (p:=spanAt hi m.cl m.ch) (q:=q) l (fun t ht=>⟨fun h=>Int.le_trans h m3,fun h=>mg t (List.mem_filter.mpr ⟨ht,decide_eq_true h⟩)⟩)
 exact Int.le_trans (price_least hi l m m1 (decide_eq_true (by rw [a,b];exact h))) m3
end Go.Proofs.Ytamlnddeiokbdaa.walk
set_option maxRecDepth 10000
namespace Go.Proofs.Ytamlnddeiokbdaa.walk
open Go.Abs Go.Proofs.Ytamlnddeiokbdaa.code
structure Bedd (u t:St) (l w kk:Nat) (own:Nat→Prop):Prop where
 same:∀ y,y<u.n→y≠l→¬ own y→t.h.get y=u.h.get y
 n:u.n≤t.n
 le:t.n≤u.n+kk
 m:w≤t.m
 mle:t.m≤far
theorem soldOf_snoc {l:List Sale} {i:Nat} (hi:i<l.length) (good:Int):soldOf (l.take (i+1)) good=soldOf (l.take i) good++(if decide (l[i].gd=good) && decide (0<l[i].gh) then [l[i]] else []):=by
 unfold soldOf
 rw [List.take_succ_eq_append_getElem hi,List.filter_append]
 congr 1
 rw [List.filter_cons]
 rfl
theorem soldOf_split {l:List Sale} {i:Nat} (hi:i<l.length) {good:Int} (h:(decide (l[i].gd=good) && decide (0<l[i].gh))=true):soldOf (l.take i) good++l[i]::soldOf (l.drop (i+1)) good=soldOf l good:=by
 have e:l=l.take i++l[i]::l.drop (i+1):=by rw [← List.drop_eq_getElem_cons hi,List.take_append_drop]
 conv=>rhs;rw [e]
 unfold soldOf
 rw [List.filter_append,List.filter_cons,if_pos h]
theorem sold_round (N:Nat) (cx:Ctx) {l k0 w rm q i kk nb:Nat} {own:Nat→Prop} {μ:List Sale→Nat→Prop} {J:List Sale→Heap→Nat→Prop} {b:Book} {v:AV} {good:Int} {u t:St} {L:Env} (hT:Takes Try.prog X N l k0 w rm own (fun s:Sale=>.agg s.cells) (soldOf b.sales good) μ J) (ok:b.Ok)
  (hB:RowsAt u.h nb 6 (b.sales.map Sale.cells) v) (gq:u.h.get q=some (.cells [.int .i64 good] (tag 3))) (hq:q<nb) (hnb:nb≤l) (ho:∀ y,own y→nb≤y∧y≤l) (hlu:l<u.n) (hs:u.n+kk+rm+500≤far) (hi:i<b.sales.length)
  (q0:L.find 0=.yield l) (q2:L.find 2=.ptr q 0) (q7:L.find 7=v) (q8:L.find 8=.int .i64 b.sales.length) (q9:L.find 9=.int .i64 i) (hD:Bedd u t l w kk own) (hw:w≤l) (hz:(soldOf (b.sales.take i) good=[]∨t.m≤l)∧μ (soldOf (b.sales.take i) good) t.m) (hJ:J (soldOf (b.sales.take i) good) t.h t.n) :
  ∃ L1 t1,K64l0 (call Try.prog X N) cx L [] t=.done .norm L1 [] t1∧Bedd u t1 l w (kk+k0+1) own∧((soldOf (b.sales.take (i+1)) good=[]∨t1.m≤l)∧μ (soldOf (b.sales.take (i+1)) good) t1.m)∧L1.find 0=.yield l∧L1.find 2=.ptr q 0∧L1.find 7=v∧L1.find 8=.int .i64 b.sales.length∧L1.find 9=.int .i64 (i+1:Nat)∧J (soldOf (b.sales.take (i+1)) good) t1.h t1.n:=by
 have hf:far=1000000000:=rfl
 obtain ⟨same,tn,tk,tm,tf⟩:=hD
 have c1:=ok.l
 have e0:decide ((i:Int)<(b.sales.length:Int))=true:=decide_eq_true (by omega)
 obtain ⟨x0,o0,cs,sz,r1,r2,r3,r4⟩:=hB.at_ i (by simpa using hi)
 rw [List.getElem_map] at r4
 have nob:∀ y,y<nb→y<u.n∧y≠l∧¬ own y:=fun y hy=>⟨by omega,by omega,fun h=>by have:=ho y h;omega⟩
 have g0:=(same x0 (nob _ r1).1 (nob _ r1).2.1 (nob _ r1).2.2).trans r3
 have gq':=(same q (nob _ hq).1 (nob _ hq).2.1 (nob _ hq).2.2).trans gq
 have hsn:=soldOf_snoc hi good
 have hsp:=soldOf_split hi (good:=good)
 have ad:∀ s,aAdd s .i64 (i:Int) 1=.val (.int .i64 ((i:Int)+1)) s:=fun s=>aAdd_i64 s _ _ (by omega)
 generalize b.sales[i]=M at *
 unfold Sale.cells at r4
 have xt:x0<t.n:=by have:=(nob _ r1).1;omega
 obtain ⟨x,hx⟩:∃ x:St,x=(t.new (.cells [.int .i64 0,.int .i64 0,.int .i64 0,.int .i64 0,.int .i64 0,.int .i64 0] (tag 51))).put t.n (.cells [.int .i64 M.st,.int .i64 M.gd,.int .i64 M.gl,.int .i64 M.gh,.int .i64 M.cl,.int .i64 M.ch] (tag 51)):=⟨_,rfl⟩
 have xn:x.n=t.n+1:=by rw [hx];rfl
 have xg:∀ c,c<t.n→x.h.get c=t.h.get c:=fun c hc=>by rw [hx,get_put_ne' _ _ _ _ (by omega),get_new_ne _ _ _ (by omega)]
 have xc:x.h.get t.n=some (.cells [.int .i64 M.st,.int .i64 M.gd,.int .i64 M.gl,.int .i64 M.gh,.int .i64 M.cl,.int .i64 M.ch] (tag 51)):=by rw [hx];exact get_put_eq _ _ _ _ rfl (by omega)
 have xm:w≤x.m∧x.m≤far∧(t.m≤l→x.m≤l)∧x.m≤t.m:=by rw [hx];simp only [St.put,minN_eq,new_m];omega
 have xq:=(xg q (by omega)).trans gq'
 have hJx:J (soldOf (b.sales.take i) good) x.h x.n:=hT.keep _ _ _ _ _ (fun y hy=>xg y (by omega)) (by omega) hJ
 have kf:=hT.few
 have hμx:=hT.mono _ _ _ xm.2.2.2 hz.2
 simp (disch:=first|omega|(with_unfolding_all exact rfl)|(simp only[new_n,put_n,new_m];omega)|(refine put_m_le ?_;simp only[new_m];omega)) only [K64l0,K64r1,K64r2,Abs.W,reduceIte,Nat.reduceEqDiff,Nat.reduceAdd,decide_true,decide_false,kLoop_def,Nat.reduceSub,List.cons_append,List.nil_append,List.append_nil,List.length_cons,List.length_nil,Env.find_set,Nat.zero_add,q0,q2,q7,q8,q9,e0,r2,r4,g0]
 rw [← hx]
 clear hx
 have u3s6:=fun cl L s=>congrFun (congrFun (congrFun K64r3s6.eq_1 cl) L) s
 have u3s7:=fun cl L s=>congrFun (congrFun (congrFun K64r3s7.eq_1 cl) L) s
 have u3s8:=fun cl L s=>congrFun (congrFun (congrFun K64r3s8.eq_1 cl) L) s
 have u3s9:=fun cl L s=>congrFun (congrFun (congrFun K64r3s9.eq_1 cl) L) s
 have u3s12:=fun cl L s=>congrFun (congrFun (congrFun K64r3s12.eq_1 cl) L) s
 have u3s13:=fun cl L s=>congrFun (congrFun (congrFun K64r3s13.eq_1 cl) L) s
 have u3s14:=fun cl L s=>congrFun (congrFun (congrFun K64r3s14.eq_1 cl) L) s
 have u3s15:=fun cl L s=>congrFun (congrFun (congrFun K64r3s15.eq_1 cl) L) s
 have same':∀ y,y<u.n→y≠l→¬ own y→x.h.get y=u.h.get y:=fun y hy h1 h2=>(xg y (by omega)).trans (same y hy h1 h2)
 by_cases h1:M.gd=good
 ·have d1:decide (M.gd=good)=true:=decide_eq_true h1
  by_cases h2:0<M.gh
  ·have d2:decide (0<M.gh)=true:=decide_eq_true h2
   rw [d1,d2] at hsn hsp
   rw [hsn]
   obtain ⟨s2,e2,k1,k3,k4,k5,k6,k7,k8,k9⟩:=hT.take _ _ _ x (hsp rfl) hJx (by omega) (by omega) xm.1 xm.2.1 hμx
   have e2':call Try.prog X N (.yield l) [.agg [.int .i64 M.st,.int .i64 M.gd,.int .i64 M.gl,.int .i64 M.gh,.int .i64 M.cl,.int .i64 M.ch]] x=.val (.bool true) s2:=e2
   simp (disch:=first|omega|(with_unfolding_all exact rfl)|(simp only[new_n,put_n,new_m];omega)|(refine put_m_le ?_;simp only[new_m];omega)) only [K64r3,K64r4,u3s6,u3s7,u3s8,u3s9,u3s12,u3s13,u3s14,u3s15,Abs.W,reduceIte,Nat.reduceEqDiff,Nat.reduceAdd,decide_true,decide_false,kLoop_def,Nat.reduceSub,List.cons_append,List.nil_append,List.append_nil,List.length_cons,List.length_nil,Env.find_set,Nat.zero_add,q0,q2,q7,q8,q9,xc,xq,d1,d2,e2',ad]
   refine ⟨_,_,rfl,⟨fun y hy h1 h2=>(k3 y (by omega) h1 h2).trans (same' y hy h1 h2),by omega,by omega,k6,by omega⟩,⟨.inr k8,k9⟩,?_,?_,?_,?_,?_,k1⟩
   ·simp only [Env.find_set,q0,reduceIte,Nat.reduceEqDiff]
   ·simp only [Env.find_set,q2,reduceIte,Nat.reduceEqDiff]
   ·simp only [Env.find_set,q7,reduceIte,Nat.reduceEqDiff]
   ·simp only [Env.find_set,q8,reduceIte,Nat.reduceEqDiff]
   ·simp only [Env.find_set,reduceIte,Nat.reduceEqDiff];rfl
  ·have d2:decide (0<M.gh)=false:=decide_eq_false h2
   rw [d1,d2] at hsn
   rw [hsn]
   simp (disch:=first|omega|(with_unfolding_all exact rfl)|(simp only[new_n,put_n,new_m];omega)|(refine put_m_le ?_;simp only[new_m];omega)) only [K64r3,K64r4,u3s6,u3s7,u3s8,u3s9,u3s12,u3s13,u3s14,u3s15,Abs.W,reduceIte,Nat.reduceEqDiff,Nat.reduceAdd,decide_true,decide_false,kLoop_def,Nat.reduceSub,List.cons_append,List.nil_append,List.append_nil,List.length_cons,List.length_nil,Env.find_set,Nat.zero_add,q0,q2,q7,q8,q9,xc,xq,d1,d2,ad]
   refine ⟨_,_,rfl,⟨same',by omega,by omega,xm.1,xm.2.1⟩,⟨by simpa using hz.1.imp id xm.2.2.1,by simpa using hμx⟩,?_,?_,?_,?_,?_,by simpa using hJx⟩
   ·simp only [Env.find_set,q0,reduceIte,Nat.reduceEqDiff]
   ·simp only [Env.find_set,q2,reduceIte,Nat.reduceEqDiff]
   ·simp only [Env.find_set,q7,reduceIte,Nat.reduceEqDiff]
   ·simp only [Env.find_set,q8,reduceIte,Nat.reduceEqDiff]
   ·simp only [Env.find_set,reduceIte,Nat.reduceEqDiff];rfl
 ·have d1:decide (M.gd=good)=false:=decide_eq_false h1
  rw [d1] at hsn
  rw [hsn]
  simp (disch:=first|omega|(with_unfolding_all exact rfl)|(simp only[new_n,put_n,new_m];omega)|(refine put_m_le ?_;simp only[new_m];omega)) only [K64r3,K64r4,u3s6,u3s7,u3s8,u3s9,u3s12,u3s13,u3s14,u3s15,Abs.W,reduceIte,Nat.reduceEqDiff,Nat.reduceAdd,decide_true,decide_false,kLoop_def,Nat.reduceSub,List.cons_append,List.nil_append,List.append_nil,List.length_cons,List.length_nil,Env.find_set,Nat.zero_add,q0,q2,q7,q8,q9,xc,xq,d1,ad]
  refine ⟨_,_,rfl,⟨same',by omega,by omega,xm.1,xm.2.1⟩,⟨by simpa using hz.1.imp id xm.2.2.1,by simpa using hμx⟩,?_,?_,?_,?_,?_,by simpa using hJx⟩
  ·simp only [Env.find_set,q0,reduceIte,Nat.reduceEqDiff]
  ·simp only [Env.find_set,q2,reduceIte,Nat.reduceEqDiff]
  ·simp only [Env.find_set,q7,reduceIte,Nat.reduceEqDiff]
  ·simp only [Env.find_set,q8,reduceIte,Nat.reduceEqDiff]
  ·simp only [Env.find_set,reduceIte,Nat.reduceEqDiff];rfl
theorem salesOf1_hands {N p q nb:Nat} {b:Book} {v:AV} {good:Int} {H:Heap} (ok:b.Ok) (hB:RowsAt H nb 6 (b.sales.map Sale.cells) v) (gp:H.get p=some (.cells (bookV b v) (tag 27))) (gq:H.get q=some (.cells [.int .i64 good] (tag 3))) (hp:p<nb) (hq:q<nb) :
  Hands Try.prog X N (N+1) nb 10 H 64 [.ptr p 0,.ptr q 0] (fun s:Sale=>.agg s.cells) (soldOf b.sales good):=by
 intro l k0 w rm own μ J s hT ho hH hnb hl hw hs hJ hwm hm
 have hf:far=1000000000:=rfl
 have kf:=hT.few
 have c1:=ok.l
 have hkm:∀ i,i≤40→(k0+1) * i≤(k0+1) * 40:=fun i hi=>Nat.mul_le_mul_left _ hi
 obtain ⟨v',t,mm,e,⟨rfl,a1,a2,a3,a4,a5,a6,a7,a8⟩,hm'⟩:=call_any (n:=N) (args:=[.yield l,.ptr p 0,.ptr q 0]) (s:=s) (Q:=fun v h n m'=>v=.tup []∧J (soldOf b.sales good) h n∧(∀ y,y<s.n→y≠l→¬ own y→h.get y=s.h.get y)∧s.n≤n∧n≤s.n+(k0+1) * 40∧w≤m'∧m'≤far∧(soldOf b.sales good=[]∨m'≤l)∧μ (soldOf b.sales good) m') Try.func64 rfl (fun u uh un um=>by
  have hBu:RowsAt u.h nb 6 (b.sales.map Sale.cells) v:=hB.grow (fun y hy=>by rw [uh];exact hH y hy) (Nat.le_refl _)
  have gpu:u.h.get p=some (.cells (bookV b v) (tag 27)):=by rw [uh,hH p hp];exact gp
  have gqu:u.h.get q=some (.cells [.int .i64 good] (tag 3)):=by rw [uh,hH q hq];exact gq
  have kv:∀ t,okA (.val v t)=.val v t:=fun t=>okA_ne hBu.ne
  have lv:=hBu.len
  rw [List.length_map] at lv
  have gp':=gpu
  unfold bookV at gp'
  rw [enter64]
  simp (disch:=first|omega|(with_unfolding_all exact rfl)|(simp only[new_n,put_n,new_m];omega)|(refine put_m_le ?_;simp only[new_m];omega)) only [res64,K64r0,K64r1,K64r2,K64r3s15,K64r3s14,K64r3s13,K64r3s12,K64r3s9,K64r3s8,K64r3s7,K64r3s6,K64r3,K64r4,K64,Abs.W,reduceIte,Nat.reduceEqDiff,Nat.reduceAdd,decide_true,decide_false,kLoop_def,Nat.reduceSub,List.cons_append,List.nil_append,List.append_nil,List.length_cons,List.length_nil,gp',kv,lv,Nat.zero_add]
  generalize hlp:loopN _ rounds _ _ _ _ _=rl
  have h0:Bedd u u l w ((k0+1) * 0) own:=⟨fun _ _ _ _=>rfl,Nat.le_refl _,by omega,by omega,by omega⟩
  have hJ0:J (soldOf (b.sales.take 0) good) u.h u.n:=by rw [uh,un];exact hJ
  obtain ⟨e,L1,s1,rfl,rfl,hD,hJ1,hz⟩:=loop_of hlp (fun i L' t'=>L'.find 0=.yield l∧L'.find 2=.ptr q 0∧L'.find 7=v∧L'.find 8=.int .i64 b.sales.length∧L'.find 9=.int .i64 i∧Bedd u t' l w ((k0+1) * i) own∧J (soldOf (b.sales.take i) good) t'.h t'.n∧((soldOf (b.sales.take i) good=[]∨t'.m≤l)∧μ (soldOf (b.sales.take i) good) t'.m))
   (fun e L1 t'=>e=.exit 0∧Bedd u t' l w ((k0+1) * 40) own∧J (soldOf b.sales good) t'.h t'.n∧((soldOf b.sales good=[]∨t'.m≤l)∧μ (soldOf b.sales good) t'.m)) b.sales.length (by unfold rounds;omega)
   ⟨by simp only [Env.find_set,find_cons,reduceIte,Nat.reduceEqDiff],by simp only [Env.find_set,find_cons,reduceIte,Nat.reduceEqDiff],by simp only [Env.find_set,find_cons,reduceIte,Nat.reduceEqDiff],by simp only [Env.find_set,find_cons,reduceIte,Nat.reduceEqDiff],by simp only [Env.find_set,find_cons,reduceIte,Nat.reduceEqDiff];rfl,h0,hJ0,.inl (by rw [List.take_zero];rfl),by rw [List.take_zero];exact hT.nil _⟩
   (fun i L' t' hi ⟨q0,q2,q7,q8,q9,hD,hJi,hz⟩=>by
    have hki:=hkm i (by omega)
    by_cases hlt:i<b.sales.length
    ·obtain ⟨L2,t2,p1,p2,p3,z0,z2,z7,z8,z9,zJ⟩:=sold_round N ⟨64,none,Try.f64.ntmps,X 64⟩ hT ok hBu gqu hq hnb ho (by omega) (by omega) hlt q0 q2 q7 q8 q9 hD hw hz hJi
     have p2':Bedd u t2 l w ((k0+1) * (i+1)) own:=by rw [Nat.mul_succ];exact p2
     exact .inl ⟨hlt,L2,t2,p1,z0,z2,z7,z8,z9,p2',zJ,p3⟩
    ·obtain rfl:i=b.sales.length:=by omega
     have e1:decide ((b.sales.length:Int)<(b.sales.length:Int))=false:=by simp
     rw [List.take_length] at hJi hz
     refine .inr ⟨.exit 0,L'.set 10 (.bool false),t',by simp,?_,rfl,⟨hD.same,hD.n,by have:=hD.le;omega,hD.m,hD.mle⟩,hJi,hz⟩
     simp (disch:=first|omega|(with_unfolding_all exact rfl)|(simp only[new_n,put_n,new_m];omega)|(refine put_m_le ?_;simp only[new_m];omega)) only [res64,K64r0,K64r1,K64r2,K64r3s15,K64r3s14,K64r3s13,K64r3s12,K64r3s9,K64r3s8,K64r3s7,K64r3s6,K64r3,K64r4,K64,K64l0,Abs.W,reduceIte,Nat.reduceEqDiff,Nat.reduceAdd,decide_true,decide_false,kLoop_def,Nat.reduceSub,List.cons_append,List.nil_append,List.append_nil,List.length_cons,List.length_nil,Env.find_set,q8,q9,e1])
  obtain ⟨d1,d2,d3,d4,d5⟩:=hD
  simp (disch:=first|omega|(with_unfolding_all exact rfl)|(simp only[new_n,put_n,new_m];omega)|(refine put_m_le ?_;simp only[new_m];omega)) only [res64,K64r0,K64r1,K64r2,K64r3s15,K64r3s14,K64r3s13,K64r3s12,K64r3s9,K64r3s8,K64r3s7,K64r3s6,K64r3,K64r4,K64,Abs.W,reduceIte,Nat.reduceEqDiff,Nat.reduceAdd,decide_true,decide_false,kLoop_def,Nat.reduceSub,List.cons_append,List.nil_append,List.append_nil,List.length_cons,List.length_nil,Env.find_set,leave_nil]
  refine ⟨_,_,rfl,⟨rfl,hJ1,fun y hy h1 h2=>by rw [d1 y (by omega) h1 h2,uh],by omega,by omega,d4,d5,hz.1,hz.2⟩,fun _ hle=>⟨rfl,?_,fun _ _ _ _=>trivial,Nat.le_refl _,by omega,d4,d5,hz.1,hz.2⟩⟩
  rcases hz.1 with hz | hz
  ·rw [hz];exact hJ
  ·omega)
 have hkk:=hkm 40 (Nat.le_refl _)
 refine ⟨t,e,a1,a2,a3,by omega,?_,?_,?_⟩
 ·rcases hm' with ⟨_,hm'⟩ | ⟨_,hm'⟩<;>omega
 ·rcases hm' with ⟨_,hm'⟩ | ⟨_,hm'⟩<;>omega
 ·rcases hm' with ⟨h1,hm'⟩ | ⟨h1,hm'⟩
  ·rcases a7 with a7 | a7
   ·rw [a7];exact hT.nil _
   ·omega
  ·exact hT.mono _ _ _ (by omega) a8
end Go.Proofs.Ytamlnddeiokbdaa.walk
set_option maxRecDepth 10000
namespace Go.Proofs.Ytamlnddeiokbdaa.walk
open Go.Abs Go.Proofs.Ytamlnddeiokbdaa.code
theorem ind0 (x y:Int) (s:St):indA 2 1 none s (.agg [.int .i64 x,.int .i64 y]) (.int .i64 0)=.val (.int .i64 x) s:=rfl
theorem ind1 (x y:Int) (s:St):indA 2 1 none s (.agg [.int .i64 x,.int .i64 y]) (.int .i64 1)=.val (.int .i64 y) s:=rfl
theorem weighI_snoc (hi:Bool) (x:Sale):∀ p:List Sale,weighI hi (p++[x])=weighI hi p+spanAt hi x.gl x.gh
 | []=>by show spanAt hi x.gl x.gh+0=0+_;omega
 | y::p=>by
  show spanAt hi y.gl y.gh+weighI hi (p++[x])=spanAt hi y.gl y.gh+weighI hi p+_
  rw [weighI_snoc hi x p];omega
def Fine (l:List Sale):Prop:=∀ s ∈ l,0≤s.gl∧s.gl≤s.gh∧s.gh≤5000∧0≤s.cl∧s.cl≤s.ch∧s.ch≤2000
theorem weigh_range (hi:Bool):∀ l:List Sale,Fine l→0≤weighI hi l∧weighI hi l≤5000 * l.length
 | [],_=>by unfold weighI;simp
 | x::r,h=>by
  obtain ⟨a,b⟩:=weigh_range hi r (fun s hs=>h s (List.mem_cons_of_mem _ hs))
  have c:=h x (List.mem_cons_self ..)
  unfold weighI
  rw [List.length_cons]
  cases hi<;>simp only [spanAt]<;>omega
theorem Fine.left {p r:List Sale} (h:Fine (p++r)):Fine p:=fun s hs=>h s (List.mem_append_left _ hs)
theorem endV_cells (hi:Bool):scalars (endV hi)=true:=by cases hi<;>rfl
theorem okA_end (hi:Bool) (s:St):okA (.val (.agg [hereV hi,hereV (!hi)]) s)=.val (.agg [hereV hi,hereV (!hi)]) s:=by cases hi<;>rfl
theorem weighs_ok {M nb cb:Nat} {H:Heap} {g:FuncId} {cap:List AV} {T:List Sale} {s:St} (hi:Bool) (hM:2≤M) (hh:Hands Try.prog X (M+1) (M+2) nb cb H g cap (fun s:Sale=>.agg s.cells) T) (hF:Fine T) (hl:T.length≤40) (hcb:cb≤100) (hH:∀ y,y<nb→s.h.get y=H.get y) (hnb:nb≤s.n) (hs:s.n+200000≤far) :
  call Try.prog X (M+3) (.fn 46) [.agg (endV hi),.func g [] cap] s=.val (.int .i64 (weighI hi T)) s:=by
 have hff:far=1000000000:=rfl
 refine call_plain' (n:=M+2) Try.func46 (fun u uh un um=>?_) rfl
 have scE:=endV_cells hi
 obtain ⟨w,hw⟩:∃ w:St,w=((u.new (.cells (endV hi) (tag 82))).new (.cells [.int .i64 0] (tag 3))).put (u.n+1) (.cells [.int .i64 0] (tag 3)):=⟨_,rfl⟩
 have wn:w.n=u.n+2:=by rw [hw];rfl
 have wm:w.m=min far (u.n+1):=by rw [hw];simp only [St.put,minN_eq,new_m,um]
 have wg:∀ c,c<u.n→w.h.get c=u.h.get c:=fun c hc=>by rw [hw,get_put_ne' _ _ _ _ (by omega),get_new_ne _ _ _ (by rw [new_n];omega),get_new_ne _ _ _ (by omega)]
 have w0:w.h.get u.n=some (.cells [hereV hi,hereV (!hi)] (tag 82)):=by rw [hw,get_put_ne' _ _ _ _ (by omega),get_new_ne _ _ _ (by rw [new_n];omega)];exact get_new_eq _ _ _ rfl (by omega)
 have w1:w.h.get (u.n+1)=some (.cells [.int .i64 0] (tag 3)):=by rw [hw];exact get_put_eq _ _ _ _ rfl (by omega)
 rw [enter46]
 simp (disch:=first|omega|(with_unfolding_all exact rfl)|(simp only[new_n,put_n,new_m];omega)|(refine put_m_le ?_;simp only[new_m];omega)) only [K46,K46r0,K46r1,K46r2,Abs.W,reduceIte,Nat.reduceEqDiff,Nat.reduceAdd,decide_true,decide_false,kLoop_def,Nat.reduceSub,List.cons_append,List.nil_append,List.append_nil,List.length_cons,List.length_nil,Env.find_set,scE,Nat.zero_add]
 simp only [new_n]
 rw [← hw]
 clear hw
 generalize hL:Env.cons 0 _ _=L0
 have f2:L0.find 2=.ptr u.n 0:=by rw [← hL];simp only [find_cons,reduceIte,Nat.reduceEqDiff]
 have f5:L0.find 5=.ptr (u.n+1) 0:=by rw [← hL];simp only [find_cons,reduceIte,Nat.reduceEqDiff]
 have f7:L0.find 7=.func g [] cap:=by rw [← hL];simp only [find_cons,reduceIte,Nat.reduceEqDiff]
 clear hL
 obtain ⟨s',e1,e2,e3,e4,e5,e6,e7,e8,_⟩:=hands_range (P:=Try.prog) (X:=X) (M:=M) (Z:=M+2) hh (f:=.tmp 7) (ps:=[8]) (c:=⟨46,none,Try.f46.ntmps,X 46⟩) (L:=L0) (s:=w) rfl (by rw [ev_tmp,f7]) rfl code46a0 code46b0 10 (u.n+1) 10000 (fun y=>y=u.n+1) (fun _ _=>True) (fun _ _ _ _ _=>trivial) (fun _=>trivial) (fun p h _=>h.get (u.n+1)=some (.cells [.int .i64 (weighI hi p)] (tag 3)))
  (by omega) (fun y hy=>by rw [wg y (by omega),uh];exact hH y hy) (by omega) (fun y hy=>by omega) (by omega) (by omega) (by omega) (by omega) w1 (fun p h h' n n' hb _ hp=>(hb _ (by omega)).trans hp)
  (fun p x rest t ht hp hfr htn htf htm htm' _=>by
   have hT:T=p++x::rest:=ht.symm
   have hFp:Fine p:=by rw [hT] at hF;exact hF.left
   have hx:=hF x (by rw [hT];simp)
   have hpl:p.length+1≤40:=by rw [hT] at hl;simp at hl;omega
   obtain ⟨a0,a1⟩:=weigh_range hi p hFp
   have hsn:=weighI_snoc hi x p
   have hxs:0≤spanAt hi x.gl x.gh∧spanAt hi x.gl x.gh≤5000:=by cases hi<;>simp only [spanAt]<;>omega
   have ad:∀ s,aAdd s .i64 (weighI hi p) (spanAt hi x.gl x.gh)=.val (.int .i64 (weighI hi (p++[x]))) s:=fun s=>by rw [hsn];exact aAdd_i64 s _ _ (by omega)
   obtain ⟨y,hy⟩:∃ y:St,y=(t.new (.cells [.int .i64 0,.int .i64 0,.int .i64 0,.int .i64 0,.int .i64 0,.int .i64 0] (tag 51))).put t.n (.cells [.int .i64 x.st,.int .i64 x.gd,.int .i64 x.gl,.int .i64 x.gh,.int .i64 x.cl,.int .i64 x.ch] (tag 51)):=⟨_,rfl⟩
   have yn:y.n=t.n+1:=by rw [hy];rfl
   have yg:∀ c,c<t.n→y.h.get c=t.h.get c:=fun c hc=>by rw [hy,get_put_ne' _ _ _ _ (by omega),get_new_ne _ _ _ (by omega)]
   have yt:y.h.get t.n=some (.cells [.int .i64 x.st,.int .i64 x.gd,.int .i64 x.gl,.int .i64 x.gh,.int .i64 x.cl,.int .i64 x.ch] (tag 51)):=by rw [hy];exact get_put_eq _ _ _ _ rfl (by omega)
   have ym:y.m=min t.m t.n:=by rw [hy];simp only [St.put,minN_eq,new_m]
   obtain ⟨z,hz⟩:∃ z:St,z=y.put (w.n+1) (.loop { loopO ⟨46,none,Try.f46.ntmps,X 46⟩ L0 [8] (rangeAt Try.f46 0).1 (rangeAt Try.f46 0).2 w with state:=.busy }):=⟨_,rfl⟩
   have zn:z.n=y.n:=by rw [hz];rfl
   have zg:∀ c,c≠w.n+1→z.h.get c=y.h.get c:=fun c hc=>by rw [hz,get_put_ne' _ _ _ _ hc]
   have zl:z.h.get (w.n+1)=some (.loop { loopO ⟨46,none,Try.f46.ntmps,X 46⟩ L0 [8] (rangeAt Try.f46 0).1 (rangeAt Try.f46 0).2 w with state:=.busy }):=by rw [hz];exact get_put_eq _ _ _ _ rfl (by omega)
   have zm:z.m=min y.m (w.n+1):=by rw [hz];simp only [St.put,minN_eq]
   have z0:=(zg u.n (by omega)).trans ((yg u.n (by omega)).trans ((hfr u.n (by omega) (by omega)).trans w0))
   have z1:=(zg (u.n+1) (by omega)).trans ((yg (u.n+1) (by omega)).trans hp)
   have zt:=(zg t.n (by omega)).trans yt
   have so:∀ s:St,s.n+1000≤far→call Try.prog X M (.fn 62) [.agg [hereV hi,hereV (!hi)],.agg [.int .i64 x.st,.int .i64 x.gd,.int .i64 x.gl,.int .i64 x.gh,.int .i64 x.cl,.int .i64 x.ch]] s=.val (.agg [.int .i64 (spanAt hi x.gl x.gh),.int .i64 (spanAt hi x.cl x.ch)]) s:=fun s hs=>sale_ok M (by omega) hi x s hs
   have zmf:z.m≤far:=by omega
   refine ⟨(L0.set 8 (.agg x.cells)).set 6 (.ptr t.n 0),y,(L0.set 8 (.agg x.cells)).set 6 (.ptr t.n 0),z.put (u.n+1) (.cells [.int .i64 (weighI hi (p++[x]))] (tag 3)),?_,yg _ (by omega),?_,get_put_eq _ _ _ _ rfl (by omega),?_,fun c hc h1 h2=>?_,by rw [put_n];omega,by rw [put_n];omega,?_,?_,trivial⟩
   ·rw [hy]
    simp (disch:=first|omega|(with_unfolding_all exact rfl)|(simp only[new_n,put_n,new_m];omega)|(refine put_m_le ?_;simp only[new_m];omega)) only [K46a0,K46a0r0,Abs.W,reduceIte,Nat.reduceEqDiff,Nat.reduceAdd,decide_true,decide_false,kLoop_def,Nat.reduceSub,List.cons_append,List.nil_append,List.append_nil,List.length_cons,List.length_nil,setParams1,Sale.cells,Env.find_set,Nat.reduceEqDiff]
   ·rw [← hz]
    simp (disch:=first|omega|(with_unfolding_all exact rfl)|(simp only[new_n,put_n,new_m];omega)|(refine put_m_le ?_;simp only[new_m];omega)) only [K46b0,K46b0r0,Abs.W,reduceIte,Nat.reduceEqDiff,Nat.reduceAdd,decide_true,decide_false,kLoop_def,Nat.reduceSub,List.cons_append,List.nil_append,List.append_nil,List.length_cons,List.length_nil,Env.find_set,Nat.reduceEqDiff,f2,f5,z0,z1,zt,okA_end,so,ind0,ad,endO_nil,Nat.zero_add]
   ·rw [get_put_ne' _ _ _ _ (by omega)];exact zl
   ·rw [get_put_ne' _ _ _ _ h2,zg c h1];exact yg c hc
   ·simp only [St.put,minN_eq];omega
   ·simp only [St.put,minN_eq];omega)
 simp (disch:=first|omega|(with_unfolding_all exact rfl)|(simp only[new_n,put_n,new_m];omega)|(refine put_m_le ?_;simp only[new_m];omega)) only [K46r3,Abs.W,reduceIte,Nat.reduceEqDiff,Nat.reduceAdd,decide_true,decide_false,kLoop_def,Nat.reduceSub,List.cons_append,List.nil_append,List.append_nil,List.length_cons,List.length_nil,e1,Env.find_set,f5,e2]
 have ed:s'.h.get w.n=some .dfr:=e4
 rw [leave_dfr _ _ _ _ _ ed]
 simp (disch:=first|omega|(with_unfolding_all exact rfl)|(simp only[new_n,put_n,new_m];omega)|(refine put_m_le ?_;simp only[new_m];omega)) only [res46,Abs.W,reduceIte,Nat.reduceEqDiff,Nat.reduceAdd,decide_true,decide_false,kLoop_def,Nat.reduceSub,List.cons_append,List.nil_append,List.append_nil,List.length_cons,List.length_nil,Env.find_set]
 refine ⟨_,rfl,?_⟩
 simp only [St.kill,minN_eq];omega
end Go.Proofs.Ytamlnddeiokbdaa.walk
set_option maxRecDepth 10000
namespace Go.Proofs.Ytamlnddeiokbdaa.walk
open Go.Abs Go.Proofs.Ytamlnddeiokbdaa.code
end Go.Proofs.Ytamlnddeiokbdaa.walk
set_option maxRecDepth 10000
namespace Go.Proofs.Ytamlnddeiokbdaa.walk
open Go.Abs Go.Proofs.Ytamlnddeiokbdaa.code
theorem kFuncE' (f:FuncId) (x y:List Arg) (L:Env) (s:St):kFunc f x y L s=.val (.func f (evs x L) (evs y L)) s:=Eq.trans (Eq.refl _) (Eq.refl _)
theorem cellsFn (f:FuncId) (x y:List AV):cellsOf 1 (.func f x y)=some [.func f x y]:=rfl
theorem between_ok {N f:Nat} {cap:List AV} {s:St} (lo hi:Int) (hN:1≤N) (hF:∀ (b:Bool) (t:St),(∀ c,c<s.n→t.h.get c=s.h.get c)→s.n≤t.n→t.n≤s.n+10→call Try.prog X (N - 1) (.fn f) (.agg (endV b)::cap) t=.val (.int .i64 (spanAt b lo hi)) t) (hs:s.n+100≤far) :
  call Try.prog X N (.fn 38) [.func f [] cap] s=.val (.agg [.int .i64 lo,.int .i64 hi]) s:=by
 obtain ⟨n,rfl⟩:∃ n,N=n+1:=⟨N - 1,by omega⟩
 have hf:far=1000000000:=rfl
 have sh2:shapeT Try.prog 38=some (some 2):=by kernel_rfl
 refine call_plain' Try.func38 (fun u uh un um=>?_) rfl
 obtain ⟨w,hw⟩:∃ w:St,w=u.new (.cells [.int .i64 0,.int .i64 0] (tag 38)):=⟨_,rfl⟩
 have wn:w.n=u.n+1:=by rw [hw];rfl
 have wm:w.m=far:=by rw [hw];exact um
 have wg:∀ c,c<u.n→w.h.get c=u.h.get c:=fun c hc=>by rw [hw,get_new_ne _ _ _ (by omega)]
 have w0:w.h.get u.n=some (.cells [.int .i64 0,.int .i64 0] (tag 38)):=by rw [hw];exact get_new_eq _ _ _ rfl (by omega)
 have F:∀ (b:Bool) (m:Nat),call Try.prog X n (.fn f) (.agg (endV b)::cap) ⟨w.h,w.n,m⟩=.val (.int .i64 (spanAt b lo hi)) ⟨w.h,w.n,m⟩:=fun b m=>hF b ⟨w.h,w.n,m⟩ (fun c hc=>(wg c (by omega)).trans (by rw [uh])) (by show s.n≤w.n;omega) (by show w.n≤s.n+10;omega)
 have F0:call Try.prog X n (.fn f) (.agg [.func 60 [] [],.func 61 [] []]::cap) w=.val (.int .i64 lo) w:=F false w.m
 have F1:call Try.prog X n (.fn f) (.agg [.func 61 [] [],.func 60 [] []]::cap) w=.val (.int .i64 hi) w:=F true w.m
 rw [enter38]
 simp (disch:=first|omega|(with_unfolding_all exact rfl)|(simp only[new_n,put_n,new_m];omega)|(refine put_m_le ?_;simp only[new_m];omega)) only [K38,K38r0,Abs.W,reduceIte,Nat.reduceEqDiff,Nat.reduceAdd,decide_true,decide_false,kLoop_def,Nat.reduceSub,List.cons_append,List.nil_append,List.append_nil,List.length_cons,List.length_nil,Env.find_set,Nat.zero_add]
 rw [← hw]
 clear hw
 simp (disch:=first|omega|(with_unfolding_all exact rfl)|(simp only[new_n,put_n,new_m];omega)|(refine put_m_le ?_;simp only[new_m];omega)) only [res38,K38r0,K38r1,K38r2,K38r3,K38,Abs.W,reduceIte,Nat.reduceEqDiff,Nat.reduceAdd,decide_true,decide_false,kLoop_def,Nat.reduceSub,List.cons_append,List.nil_append,List.append_nil,List.length_cons,List.length_nil,Env.find_set,okA_fnv,cellsFn,F0,F1,w0,Nat.zero_add]
 refine ⟨_,leave_cell _ _ _ _ sh2 ?_,?_⟩
 ·simp only [find_cons,reduceIte,Nat.reduceEqDiff]
  rw [load_ptr,get_put_eq _ _ _ _ rfl (by omega),loadO_cells,partS_some]
  rfl
 ·simp only [St.put,minN_eq];omega
end Go.Proofs.Ytamlnddeiokbdaa.walk
set_option maxRecDepth 10000
namespace Go.Proofs.Ytamlnddeiokbdaa.walk
open Go.Abs Go.Proofs.Ytamlnddeiokbdaa.code
theorem leave_ct {P:Program} (a:Nat) (t:TypeId) (b:Nat) (L:Env) (s:St) {sh:Option Nat} (hs:shapeT P t=some sh) {v:AV} (h:okA (loadA sh s (L.find a))=.val v s):leaveA P [.cell a t,.tmp b] L [] s=.val (.tup [v,L.find b]) s:=by
 unfold leaveA
 simp only [takeDfs,resultsA,hs,h]
 rfl
theorem boxIntE (sz:Nat) (s:St) (k:IntKind) (x:Int):boxA sz s (.int k x)=.val (.ptr s.n 0) (s.new (.cells [.int k x] sz)):=Eq.trans (Eq.refl _) (Eq.refl _)
end Go.Proofs.Ytamlnddeiokbdaa.walk
