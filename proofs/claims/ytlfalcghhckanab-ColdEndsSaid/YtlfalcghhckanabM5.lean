/- What a lot may have lost at an hour. -/
import Derived.Test.YtlfalcghhckanabM4
import Derived.Test.YtlfalcghhckanabM2
import Derived.Test.YtlfalcghhckanabM3
import Derived.Test.YtlfalcghhckanabM1
import Derived.Test.YtlfalcghhckanabCodes
import Derived.Test.YtlfalcghhckanabWalkAll
set_option linter.unusedSimpArgs false
set_option maxHeartbeats 16000000
set_option linter.unusedVariables false
set_option maxRecDepth 10000
namespace Go.Proofs.Ytlfalcghhckanab.walk
open Go.Abs Go.Proofs.Ytlfalcghhckanab.code
theorem warmths_ex {N:Nat} {s:St} {r:ARes} {hour:Int} {a b:List AV} (hr:call Try.prog X N (.fn 48) [.agg a,.agg b,.int .i64 hour] s=r) (hN:1≤N) (hs:s.n+100≤far) :
  ∃ t z1 z2 z3,r=.val (.func 68 [] [.ptr (s.n+1) 0,.ptr (s.n+2) 0,.ptr s.n 0]) t∧New s t 3∧t.n=s.n+3∧t.h.get s.n=some (.cells a z3)∧t.h.get (s.n+1)=some (.cells b z1)∧t.h.get (s.n+2)=some (.cells [.int .i64 hour] z2):=by
 obtain ⟨n,rfl⟩:∃ n,N=n+1:=⟨N - 1,by omega⟩
 have hf:far=1000000000:=rfl
 obtain ⟨w,t,e,st,⟨rfl,hn,z1,z2,z3,h1,h2,h3⟩⟩:=call_new (n:=n) (args:=[.agg a,.agg b,.int .i64 hour]) (s:=s) (k:=3) (Q:=fun w h m=>w=.func 68 [] [.ptr (s.n+1) 0,.ptr (s.n+2) 0,.ptr s.n 0]∧m=s.n+3∧∃ z1 z2 z3,h.get s.n=some (.cells a z3)∧h.get (s.n+1)=some (.cells b z1)∧h.get (s.n+2)=some (.cells [.int .i64 hour] z2)) Try.func48 rfl (fun u uh un um=>by
  rw [← un]
  have nn1:∀ o,(u.new o).n=u.n+1:=fun _=>rfl
  have nn2:∀ o1 o2,((u.new o1).new o2).n=u.n+2:=fun _ _=>rfl
  rw [enter48]
  simp (disch:=first|omega|(with_unfolding_all exact rfl)|(simp only[new_n,put_n,new_m];omega)|(refine put_m_le ?_;simp only[new_m];omega)) only [res48,K48r0,K48r1,K48,Abs.W,reduceIte,Nat.reduceEqDiff,Nat.reduceAdd,decide_true,decide_false,kLoop_def,Nat.reduceSub,List.cons_append,List.nil_append,List.append_nil,List.length_cons,List.length_nil,boxA_int,kFunc_def,nn1,nn2]
  have ga:∀ o1 o2 o3,(((u.new o1).new o2).new o3).h.get u.n=some o1:=fun o1 o2 o3=>by
   rw [get_new_ne _ _ _ (by simp only [new_n];omega),get_new_ne _ _ _ (by simp only [new_n];omega)];exact get_new_eq _ _ _ rfl (by omega)
  have gb:∀ o1 o2 o3,(((u.new o1).new o2).new o3).h.get (u.n+1)=some o2:=fun o1 o2 o3=>by
   rw [get_new_ne _ _ _ (by simp only [new_n];omega)];exact get_new_eq _ _ _ rfl (by simp only [new_n];omega)
  exact ⟨_,_,rfl,(((Beside.refl u (by omega) um).new _).new _).new _,rfl,rfl,rfl,_,_,_,ga _ _ _,gb _ _ _,get_new_eq _ _ _ rfl (by simp only [new_n];omega)⟩)
 exact ⟨t,z1,z2,z3,hr.symm.trans e,st,hn,h1,h2,h3⟩
theorem lost_ok {N:Nat} {hl hh born keeps hour:Int} {v1 v2 v3 v4 vb:AV} {s:St} (tabs:List (List (Int × Int))) (ts:List Stay) (rs:List Rate) (vs:List AV) (lo:Nat) (m:Nat) (hN:8≤N) (hb0:0≤born) (hm:hour=born+m) (hb2:hour≤240) (hs:s.n+60000≤far)
  (hR:RowsAt s.h s.n 3 (ts.map Stay.cells) v4) (hk:ts.length≤8) (hS:Sheets s.h lo s.n tabs vs vb) (ht:∀ t ∈ tabs,t.length=240) (hts:∀ t ∈ ts,0≤t.box∧t.box<tabs.length)
  (hRt:RowsAt s.h s.n 2 (rs.map Rate.cells) v3) (hkr:rs.length≤6) (hr:∀ r ∈ rs,r.Ok) :
  call Try.prog X N (.fn 29) [.agg [.int .i64 hl,.int .i64 hh,v1,v2,v3,vb],.agg [.int .i64 born,.int .i64 keeps,v4],.int .i64 hour] s =
   .val (.agg [.int .i64 (lostLo rs (warms tabs ts hl hh born m)),.int .i64 (lostHi rs (warms tabs ts hl hh born m))]) s:=by
 obtain ⟨n,rfl⟩:∃ n,N=n+1:=⟨N - 1,by omega⟩
 refine call_plain' Try.func29 (fun u uh un um=>?_) rfl
 have hff:far=1000000000:=rfl
 rw [← uh,← un] at hR hS hRt
 have sh:shapeT Try.prog 26=some (some 2):=by kernel_rfl
 obtain ⟨w,hw⟩:∃ w:St,w=((u.new (.cells [.int .i64 hl,.int .i64 hh,v1,v2,v3,vb] (tag 78))).new (.cells [.int .i64 born,.int .i64 keeps,v4] (tag 35))).new (.cells [.int .i64 0,.int .i64 0] (tag 26)):=⟨_,rfl⟩
 have wn:w.n=u.n+3:=by rw [hw];rfl
 have wm:w.m=far:=by rw [hw];exact um
 have wg:∀ c,c<u.n→w.h.get c=u.h.get c:=fun c hc=>by rw [hw,get_new_ne _ _ _ (by simp only [new_n];omega),get_new_ne _ _ _ (by simp only [new_n];omega),get_new_ne _ _ _ (by omega)]
 have w0:w.h.get u.n=some (.cells [.int .i64 hl,.int .i64 hh,v1,v2,v3,vb] (tag 78)):=by
  rw [hw,get_new_ne _ _ _ (by simp only [new_n];omega),get_new_ne _ _ _ (by simp only [new_n];omega)];exact get_new_eq _ _ _ rfl (by omega)
 have w1:w.h.get (u.n+1)=some (.cells [.int .i64 born,.int .i64 keeps,v4] (tag 35)):=by
  rw [hw,get_new_ne _ _ _ (by simp only [new_n];omega)];exact get_new_eq _ _ _ rfl (by simp only [new_n];omega)
 have w2:w.h.get (u.n+2)=some (.cells [.int .i64 0,.int .i64 0] (tag 26)):=by rw [hw];exact get_new_eq _ _ _ rfl (by simp only [new_n];omega)
 have nn1:∀ o,(u.new o).n=u.n+1:=fun _=>rfl
 have nn2:∀ o1 o2,((u.new o1).new o2).n=u.n+2:=fun _ _=>rfl
 rw [enter29]
 simp (disch:=first|omega|(with_unfolding_all exact rfl)|(simp only[new_n,put_n,new_m];omega)|(refine put_m_le ?_;simp only[new_m];omega)) only [res29,K29,K29r0,Abs.W,reduceIte,Nat.reduceEqDiff,Nat.reduceAdd,decide_true,decide_false,kLoop_def,Nat.reduceSub,List.cons_append,List.nil_append,List.append_nil,List.length_cons,List.length_nil,nn1,nn2]
 rw [← hw]
 simp (disch:=first|omega|(with_unfolding_all exact rfl)|(simp only[new_n,put_n,new_m];omega)|(refine put_m_le ?_;simp only[new_m];omega)) only [res29,K29r0,K29r1,K29,Abs.W,reduceIte,Nat.reduceEqDiff,Nat.reduceAdd,decide_true,decide_false,kLoop_def,Nat.reduceSub,List.cons_append,List.nil_append,List.append_nil,List.length_cons,List.length_nil,w0,w1]
 generalize hc:call _ _ _ (.fn 48) _ _=r1
 obtain ⟨t1,z1,z2,z3,rfl,st1,t1n,g3,g1,g2⟩:=warmths_ex hc (by omega) (by show w.n+100≤far;omega)
 have t1m:t1.m=far:=st1.m
 have t1n':t1.n=w.n+3:=t1n
 have t1g:∀ c,c<w.n→t1.h.get c=w.h.get c:=st1.same
 have t1u:∀ c,c<u.n→t1.h.get c=u.h.get c:=fun c hc=>(t1g c (by omega)).trans (wg c hc)
 have e1:=sum_ok (N:=n) (s:=⟨t1.h,t1.n,minN w.m t1.m⟩) (hl:=hl) (hh:=hh) (born:=born) (keeps:=keeps) (before:=hour) (v1:=v1) (v2:=v2) (v3:=v3) (v4:=v4) (vb:=vb) tabs ts rs vs lo m (by omega) hb0 (.inl hm) hb2 (by omega) (show w.n+1<t1.n by omega) (show w.n+2<t1.n by omega) (show w.n<t1.n by omega) (by show t1.n+50000≤far;omega) g1 g2 g3
  (hR.grow t1u (by show u.n≤t1.n;omega)) hk (hS.mono (fun c _ hc=>t1u c hc) (by show u.n≤t1.n;omega)) ht hts (hRt.grow t1u (by show u.n≤t1.n;omega)) hkr hr
 have w0':=(t1g u.n (by omega)).trans w0
 have w2':=(t1g (u.n+2) (by omega)).trans w2
 simp (disch:=first|omega|(with_unfolding_all exact rfl)|(simp only[new_n,put_n,new_m];omega)|(refine put_m_le ?_;simp only[new_m];omega)) only [res29,K29r0,K29r1,K29,Abs.W,reduceIte,Nat.reduceEqDiff,Nat.reduceAdd,decide_true,decide_false,kLoop_def,Nat.reduceSub,List.cons_append,List.nil_append,List.append_nil,List.length_cons,List.length_nil,thenT_val,kFunc_def,w0',w2',e1,endO_nil,regD_ok,Nat.zero_add]
 refine ⟨_,leave_cell _ _ _ _ sh ?_,?_⟩
 ·simp (disch:=first|omega|(with_unfolding_all exact rfl)|(simp only[new_n,put_n,new_m];omega)|(refine put_m_le ?_;simp only[new_m];omega)) only [Abs.W,reduceIte,Nat.reduceEqDiff,Nat.reduceAdd,decide_true,decide_false,kLoop_def,Nat.reduceSub,List.cons_append,List.nil_append,List.append_nil,List.length_cons,List.length_nil]
 ·simp only [St.put,minN_eq,wm,t1m];omega
def Cellar.warms (c:Cellar) (l:Lot) (m:Nat):List (Int × Int):=walk.warms (tabsOf c.boxes c.fills c.boxes.length) l.stays c.hl c.hh l.born m
end Go.Proofs.Ytlfalcghhckanab.walk
set_option maxRecDepth 10000
namespace Go.Abs
theorem leave_cell_tmp {P:Program} (a:Nat) (t:TypeId) (b:Nat) (L:Env) (s:St) {sh:Option Nat} (hs:shapeT P t=some sh) {v:AV} (h:okA (loadA sh s (L.find a))=.val v s):leaveA P [.cell a t,.tmp b] L [] s=.val (.tup [v,L.find b]) s:=by
 unfold leaveA
 simp only [takeDfs,resultsA,hs,h]
 rfl
theorem leave_tmp_tmp {P:Program} (a b:Nat) (L:Env) (s:St):leaveA P [.tmp a,.tmp b] L [] s=.val (.tup [L.find a,L.find b]) s:=rfl
end Go.Abs
namespace Go.Proofs.Ytlfalcghhckanab.walk
open Go.Abs Go.Proofs.Ytlfalcghhckanab.code
structure CellarIn (h:Heap) (n:Nat) (c:Cellar) (v1 v2 v3:AV):Prop where
 at_:CellarAt h n c v1 v2 v3
 f:Seq h n 3 (c.fills.map Fill.cells) v2
 s1:v1.scalar=true
 s3:v3.scalar=true
theorem CellarIn.grow {h h':Heap} {n n':Nat} {c:Cellar} {v1 v2 v3:AV} (a:CellarIn h n c v1 v2 v3) (hh:∀ b,b<n→h'.get b=h.get b) (hn:n≤n'):CellarIn h' n' c v1 v2 v3 :=
 ⟨a.at_.grow hh hn,a.f.grow hh hn,a.s1,a.s3⟩
theorem scal_ne {v:AV} (h:v.scalar=true):v≠.bad:=fun e=>by rw [e] at h;cases h
def Cellar.lost (c:Cellar) (l:Lot) (m:Nat):Int × Int:=(lostLo c.rates (c.warms l m),lostHi c.rates (c.warms l m))
theorem Lost_ok {N:Nat} {s:St} {hour:Int} {v1 v2 v3 v4:AV} (c:Cellar) (ok:c.Ok) (l:Lot) (okl:l.Ok c.boxes.length) (m:Nat) (hN:10≤N) (hC:CellarIn s.h s.n c v1 v2 v3) (hR:RowsAt s.h s.n 3 (l.stays.map Stay.cells) v4) (s4:v4.scalar=true) (hm:hour=l.born+m) (hb2:hour≤240) (hs:s.n+300000≤far) :
  call Try.prog X N (.fn 10) [.agg [.int .i64 c.hl,.int .i64 c.hh,v1,v2,v3],.agg [.int .i64 l.born,.int .i64 l.keeps,v4],.int .i64 hour] s=.val (.tup [.agg [.int .i64 (c.lost l m).1,.int .i64 (c.lost l m).2],.int .i64 0]) s:=by
 obtain ⟨n,rfl⟩:∃ n,N=n+1:=⟨N - 1,by omega⟩
 refine call_plain' Try.func10 (fun u uh un um=>?_) rfl
 have hff:far=1000000000:=rfl
 rw [← uh,← un] at hC hR
 have sh:shapeT Try.prog 26=some (some 2):=by kernel_rfl
 obtain ⟨w,hw⟩:∃ w:St,w=((u.new (.cells [.int .i64 c.hl,.int .i64 c.hh,v1,v2,v3] (tag 31))).new (.cells [.int .i64 l.born,.int .i64 l.keeps,v4] (tag 35))).new (.cells [.int .i64 0,.int .i64 0] (tag 26)):=⟨_,rfl⟩
 have wn:w.n=u.n+3:=by rw [hw];rfl
 have wm:w.m=far:=by rw [hw];exact um
 have wg:∀ c,c<u.n→w.h.get c=u.h.get c:=fun c hc=>by rw [hw,get_new_ne _ _ _ (by simp only [new_n];omega),get_new_ne _ _ _ (by simp only [new_n];omega),get_new_ne _ _ _ (by omega)]
 have w0:w.h.get u.n=some (.cells [.int .i64 c.hl,.int .i64 c.hh,v1,v2,v3] (tag 31)):=by
  rw [hw,get_new_ne _ _ _ (by simp only [new_n];omega),get_new_ne _ _ _ (by simp only [new_n];omega)];exact get_new_eq _ _ _ rfl (by omega)
 have w1:w.h.get (u.n+1)=some (.cells [.int .i64 l.born,.int .i64 l.keeps,v4] (tag 35)):=by
  rw [hw,get_new_ne _ _ _ (by simp only [new_n];omega)];exact get_new_eq _ _ _ rfl (by simp only [new_n];omega)
 have w2:w.h.get (u.n+2)=some (.cells [.int .i64 0,.int .i64 0] (tag 26)):=by rw [hw];exact get_new_eq _ _ _ rfl (by simp only [new_n];omega)
 have nn1:∀ o,(u.new o).n=u.n+1:=fun _=>rfl
 have nn2:∀ o1 o2,((u.new o1).new o2).n=u.n+2:=fun _ _=>rfl
 have hCw:∀ m,CellarIn (⟨w.h,w.n,m⟩:St).h (⟨w.h,w.n,m⟩:St).n c v1 v2 v3:=fun m=>hC.grow wg (by show u.n≤w.n;omega)
 have hRw:∀ m,RowsAt (⟨w.h,w.n,m⟩:St).h (⟨w.h,w.n,m⟩:St).n 3 (l.stays.map Stay.cells) v4:=fun m=>hR.grow wg (by show u.n≤w.n;omega)
 have e1:∀ m,call Try.prog X n (.fn 25) [.agg [.int .i64 c.hl,.int .i64 c.hh,v1,v2,v3],.agg [.int .i64 l.born,.int .i64 l.keeps,v4]] ⟨w.h,w.n,m⟩=.val (.int .i64 0) ⟨w.h,w.n,m⟩:=fun m =>
  checkLot_ok n (by omega) c ok l okl v1 v2 v3 v4 ⟨w.h,w.n,m⟩ (hCw m).at_ (hRw m) (by show w.n+4000≤far;omega)
 have e2:decide (l.born≤hour)=true:=by simp;omega
 have b0:=okl.b0
 rw [enter10]
 simp (disch:=first|omega|(with_unfolding_all exact rfl)|(simp only[new_n,put_n,new_m];omega)|(refine put_m_le ?_;simp only[new_m];omega)) only [res10,K10,K10r0,Abs.W,reduceIte,Nat.reduceEqDiff,Nat.reduceAdd,decide_true,decide_false,kLoop_def,Nat.reduceSub,List.cons_append,List.nil_append,List.append_nil,List.length_cons,List.length_nil,nn1,nn2]
 rw [← hw]
 simp (disch:=first|omega|(with_unfolding_all exact rfl)|(simp only[new_n,put_n,new_m];omega)|(refine put_m_le ?_;simp only[new_m];omega)) only [res10,K10r0,K10r1,K10r2,K10r3,K10r4,K10,Abs.W,reduceIte,Nat.reduceEqDiff,Nat.reduceAdd,decide_true,decide_false,kLoop_def,Nat.reduceSub,List.cons_append,List.nil_append,List.append_nil,List.length_cons,List.length_nil,w0,w1,e1,e2,within_ok,unless_ok,or_new3,endO_nil,regD_ok,Nat.zero_add]
 obtain ⟨y,hy⟩:∃ y:St,y=w.new (.cells [.int .i64 0,.int .i64 0,.int .i64 0] 0):=⟨_,rfl⟩
 rw [← hy]
 have yn:y.n=w.n+1:=by rw [hy];rfl
 have ym:y.m=far:=by rw [hy];exact wm
 have yg:∀ c,c<w.n→y.h.get c=w.h.get c:=fun c hc=>by rw [hy,get_new_ne _ _ _ (by omega)]
 have yu:∀ c,c<u.n→y.h.get c=u.h.get c:=fun c hc=>(yg c (by omega)).trans (wg c hc)
 have hCy:CellarIn (⟨y.h,y.n,far⟩:St).h (⟨y.h,y.n,far⟩:St).n c v1 v2 v3:=hC.grow yu (by show u.n≤y.n;omega)
 generalize hc:call _ _ _ (.fn 28) _ _=r1
 obtain ⟨vs,vb,t1,rfl,st1,hS⟩:=larderOf_ex c.boxes c.fills c.boxes.length hc (by omega) hCy.at_.b hCy.f ok.b ok.f ok.bok ok.fok (scal_ne hC.s3) hC.s1 hC.s3 (by show y.n+200000≤far;omega)
 have t1m:t1.m=far:=st1.m
 have t1n:y.n≤t1.n:=st1.n
 have t1l:t1.n≤y.n+30000:=st1.le
 have t1g:∀ c,c<y.n→t1.h.get c=y.h.get c:=st1.same
 have t1u:∀ c,c<u.n→t1.h.get c=u.h.get c:=fun c hc=>(t1g c (by omega)).trans (yu c hc)
 have tl:(tabsOf c.boxes c.fills c.boxes.length).length=c.boxes.length:=by unfold tabsOf;rw [List.length_map,List.length_range]
 have e3:=lost_ok (N:=n) (s:=⟨t1.h,t1.n,minN y.m t1.m⟩) (hl:=c.hl) (hh:=c.hh) (born:=l.born) (keeps:=l.keeps) (hour:=hour) (v1:=v1) (v2:=v2) (v3:=v3) (v4:=v4) (vb:=vb) (tabsOf c.boxes c.fills c.boxes.length) l.stays c.rates vs (y.n+3) m (by omega) b0 hm hb2 (by show t1.n+60000≤far;omega)
  (hR.grow t1u (by show u.n≤t1.n;omega)) okl.s hS (fun t ht=>by
   unfold tabsOf at ht
   obtain ⟨j,_,rfl⟩:=List.mem_map.mp ht
   exact tabOf_len _ _ _) (fun t ht=>by
   have:=okl.sok t ht
   rw [tl]
   exact ⟨this.b0,this.b1⟩) (hC.at_.r.grow t1u (by show u.n≤t1.n;omega)) ok.r ok.rok
 have w1':=(t1g (u.n+1) (by omega)).trans ((yg (u.n+1) (by omega)).trans w1)
 have w2':=(t1g (u.n+2) (by omega)).trans ((yg (u.n+2) (by omega)).trans w2)
 simp (disch:=first|omega|(with_unfolding_all exact rfl)|(simp only[new_n,put_n,new_m];omega)|(refine put_m_le ?_;simp only[new_m];omega)) only [res10,K10r0,K10r1,K10r2,K10r3,K10r4,K10,Abs.W,reduceIte,Nat.reduceEqDiff,Nat.reduceAdd,decide_true,decide_false,kLoop_def,Nat.reduceSub,List.cons_append,List.nil_append,List.append_nil,List.length_cons,List.length_nil,thenT_val,w1',w2',e3,endO_nil,regD_ok,Nat.zero_add]
 refine ⟨_,leave_cell_tmp _ _ _ _ _ sh ?_,?_⟩
 ·simp (disch:=first|omega|(with_unfolding_all exact rfl)|(simp only[new_n,put_n,new_m];omega)|(refine put_m_le ?_;simp only[new_m];omega)) only [Abs.W,reduceIte,Nat.reduceEqDiff,Nat.reduceAdd,decide_true,decide_false,kLoop_def,Nat.reduceSub,List.cons_append,List.nil_append,List.append_nil,List.length_cons,List.length_nil]
  rfl
 ·simp only [St.put,minN_eq,ym,t1m];omega
theorem Fresh_ok {N:Nat} {s:St} {hour:Int} {v1 v2 v3 v4:AV} (c:Cellar) (ok:c.Ok) (l:Lot) (okl:l.Ok c.boxes.length) (m:Nat) (hN:11≤N) (hC:CellarIn s.h s.n c v1 v2 v3) (hR:RowsAt s.h s.n 3 (l.stays.map Stay.cells) v4) (s4:v4.scalar=true) (hm:hour=l.born+m) (hb2:hour≤240) (hs:s.n+400000≤far) :
  call Try.prog X N (.fn 11) [.agg [.int .i64 c.hl,.int .i64 c.hh,v1,v2,v3],.agg [.int .i64 l.born,.int .i64 l.keeps,v4],.int .i64 hour] s =
   .val (.tup [.int .i64 (if (c.lost l m).2≤l.keeps then 1 else if (c.lost l m).1≤l.keeps then 3 else 2),.int .i64 0]) s:=by
 obtain ⟨n,rfl⟩:∃ n,N=n+1:=⟨N - 1,by omega⟩
 refine call_plain' Try.func11 (fun u uh un um=>?_) rfl
 have hff:far=1000000000:=rfl
 rw [← uh,← un] at hC hR
 obtain ⟨w,hw⟩:∃ w:St,w=(u.new (.cells [.int .i64 c.hl,.int .i64 c.hh,v1,v2,v3] (tag 31))).new (.cells [.int .i64 l.born,.int .i64 l.keeps,v4] (tag 35)):=⟨_,rfl⟩
 have wn:w.n=u.n+2:=by rw [hw];rfl
 have wm:w.m=far:=by rw [hw];exact um
 have wg:∀ c,c<u.n→w.h.get c=u.h.get c:=fun c hc=>by rw [hw,get_new_ne _ _ _ (by simp only [new_n];omega),get_new_ne _ _ _ (by omega)]
 have w0:w.h.get u.n=some (.cells [.int .i64 c.hl,.int .i64 c.hh,v1,v2,v3] (tag 31)):=by
  rw [hw,get_new_ne _ _ _ (by simp only [new_n];omega)];exact get_new_eq _ _ _ rfl (by omega)
 have w1:w.h.get (u.n+1)=some (.cells [.int .i64 l.born,.int .i64 l.keeps,v4] (tag 35)):=by
  rw [hw];exact get_new_eq _ _ _ rfl (by simp only [new_n];omega)
 have nn1:∀ o,(u.new o).n=u.n+1:=fun _=>rfl
 have e1:=Lost_ok (N:=n) (s:=w) c ok l okl m (by omega) (hC.grow wg (by omega)) (hR.grow wg (by omega)) s4 hm hb2 (by omega)
 have ex0:∀ (a b:AV) (s:St),extA 0 s (.tup [a,b])=.val a s:=fun _ _ _=>rfl
 have ex1:∀ (a b:AV) (s:St),extA 1 s (.tup [a,b])=.val b s:=fun _ _ _=>rfl
 have w1n:∀ o1 o2,((w.new o1).put w.n o2).h.get (u.n+1)=some (.cells [.int .i64 l.born,.int .i64 l.keeps,v4] (tag 35)):=fun o1 o2=>by rw [get_put_ne' _ _ _ _ (by omega),get_new_ne _ _ _ (by omega)];exact w1
 rw [enter11]
 simp (disch:=first|omega|(with_unfolding_all exact rfl)|(simp only[new_n,put_n,new_m];omega)|(refine put_m_le ?_;simp only[new_m];omega)) only [res11,K11,K11r0,Abs.W,reduceIte,Nat.reduceEqDiff,Nat.reduceAdd,decide_true,decide_false,kLoop_def,Nat.reduceSub,List.cons_append,List.nil_append,List.append_nil,List.length_cons,List.length_nil,nn1]
 rw [← hw]
 simp (disch:=first|omega|(with_unfolding_all exact rfl)|(simp only[new_n,put_n,new_m];omega)|(refine put_m_le ?_;simp only[new_m];omega)) only [res11,K11r0,K11r1,K11r2,K11r3,K11r4,K11,Abs.W,reduceIte,Nat.reduceEqDiff,Nat.reduceAdd,decide_true,decide_false,kLoop_def,Nat.reduceSub,List.cons_append,List.nil_append,List.append_nil,List.length_cons,List.length_nil,w0,w1,w1n,e1,ex0,ex1,verdict_ok,Nat.zero_add,leave_tmp_tmp]
 simp only [decide_eq_true_eq]
 exact ⟨_,rfl,by simp only [St.put,minN_eq,wm,new_m];omega⟩
end Go.Proofs.Ytlfalcghhckanab.walk
set_option maxRecDepth 10000
namespace Go.Proofs.Ytlfalcghhckanab.walk
open Go.Abs
/-! ### One end of the ice -/
def fill1 (room hour:Int):Int→List (Int × Int)→Int
 | i,[]=>i
 | i,(h,g)::r=>if h=hour then fill1 room hour (min (i+g) room) r else i
def lev (room:Int) (melt:Int→Int):Nat→Int→Int→List (Int × Int)→Int
 | 0,hour,i,fs=>fill1 room hour i fs
 | k+1,hour,i,fs=>lev room melt k (hour+1) (max 0 (fill1 room hour i fs - melt hour)) (left hour fs)
theorem fill_fill1:∀ (fs:List (Int × Int)) (x:BoxNow),(x.fill fs).i0=fill1 x.room x.hour x.i0 fs∧(x.fill fs).i1=fill1 x.room x.hour x.i1 fs
 | [],x=>⟨rfl,rfl⟩
 | (h,g)::r,x=>by
  unfold BoxNow.fill fill1
  by_cases e:h=x.hour
  ·rw [if_pos e,if_pos e,if_pos e]
   exact fill_fill1 r (x.put g)
  ·rw [if_neg e,if_neg e,if_neg e]
   exact ⟨rfl,rfl⟩
theorem ices_lev:∀ (m k:Nat) (x:BoxNow) (fs:List (Int × Int)),k<m→(ices m x fs).getD k (0,0)=(lev x.room (fun _=>x.m1) k x.hour x.i0 fs,lev x.room (fun _=>x.m0) k x.hour x.i1 fs)
 | 0,k,x,fs,h=>absurd h (Nat.not_lt_zero k)
 | m+1,0,x,fs,h=>by
  obtain ⟨h1,h2⟩:=fill_fill1 fs x
  unfold ices lev
  rw [List.getD_cons_zero,h1,h2]
 | m+1,k+1,x,fs,h=>by
  obtain ⟨h1,h2⟩:=fill_fill1 fs x
  obtain ⟨⟨q1,q2,q3,_⟩,q8⟩:=x.fill_like fs
  unfold ices
  rw [List.getD_cons_succ,ices_lev m k (x.on fs) (left x.hour fs) (by omega)]
  have e1:(x.on fs).room=x.room:=q1
  have e2:(x.on fs).m1=x.m1:=q3
  have e3:(x.on fs).m0=x.m0:=q2
  have e4:(x.on fs).hour=x.hour+1:=by show (x.fill fs).hour+1=_;rw [q8]
  have e5:(x.on fs).i0=max 0 (fill1 x.room x.hour x.i0 fs - x.m1):=by show max 0 ((x.fill fs).i0 - (x.fill fs).m1)=_;rw [h1,q3]
  have e6:(x.on fs).i1=max 0 (fill1 x.room x.hour x.i1 fs - x.m0):=by show max 0 ((x.fill fs).i1 - (x.fill fs).m0)=_;rw [h2,q2]
  rw [e1,e2,e3,e4,e5,e6]
  rfl
theorem fill1_mono {room room' hour:Int} (hr:room≤room'):∀ (fs:List (Int × Int)) (i i':Int),i≤i'→fill1 room hour i fs≤fill1 room' hour i' fs
 | [],i,i',h=>h
 | (h0,g)::r,i,i',h=>by
  unfold fill1
  by_cases e:h0=hour
  ·rw [if_pos e,if_pos e]
   exact fill1_mono hr r _ _ (by omega)
  ·rw [if_neg e,if_neg e];exact h
/-! ### A cellar's boxes, hour by hour -/
def Cellar.box (c:Cellar) (b:Nat):Box:=c.boxes.getD b noBox
def Cellar.of (c:Cellar) (b:Nat):List (Int × Int):=(ofBox b c.fills).map fun f=>(f.hour,f.grams)
def Cellar.iceLo (c:Cellar) (b k:Nat):Int:=lev (c.box b).room (fun _=>(c.box b).mh) k 0 (c.box b).il (c.of b)
def Cellar.iceHi (c:Cellar) (b k:Nat):Int:=lev (c.box b).room (fun _=>(c.box b).ml) k 0 (c.box b).ih (c.of b)
def Cellar.warm (c:Cellar) (b k:Nat):Int × Int:=(if 0<c.iceHi b k then (c.box b).cl else (c.box b).wl,if 0<c.iceLo b k then (c.box b).ch else (c.box b).wh)
theorem warmW_eq (c:Cellar) (b k:Nat) (hb:b<c.boxes.length) (hk:k<240):warmW (tabsOf c.boxes c.fills c.boxes.length) k b=c.warm b k:=by
 unfold warmW
 rw [Int.toNat_natCast,Int.toNat_natCast]
 unfold tabsOf
 have e0:((List.range c.boxes.length).map fun j=>tabOf (c.boxes.getD j noBox) c.fills j).getD b []=tabOf (c.box b) c.fills b:=by
  rw [List.getD_eq_getElem?_getD,List.getElem?_map,List.getElem?_range hb];rfl
 rw [e0]
 unfold tabOf
 have hl:k<(ices 240 (c.box b).start (c.of b)).length:=by rw [ices_len];exact hk
 have e:=ices_lev 240 k (c.box b).start (c.of b) hk
 rw [List.getD_eq_getElem?_getD,List.getElem?_eq_getElem hl] at e
 rw [List.getD_eq_getElem?_getD,List.getElem?_map]
 show (((ices 240 (c.box b).start (c.of b))[k]?.map _).getD (0,0))=_
 rw [List.getElem?_eq_getElem hl]
 simp only [Option.getD_some] at e
 simp only [Option.map_some,Option.getD_some]
 rw [e]
 rfl
def Cellar.at (c:Cellar) (l:Lot) (k:Nat):Int × Int:=match l.stays.find? (hit k) with
 | some t=>c.warm t.box.toNat k
 | none=>(c.hl,c.hh)
theorem Cellar.warmAt_eq (c:Cellar) (l:Lot) (okl:l.Ok c.boxes.length) (k:Nat) (hk:k<240):warmAt (tabsOf c.boxes c.fills c.boxes.length) l.stays c.hl c.hh k=c.at l k:=by
 unfold warmAt aroundOf Cellar.at
 cases hf:l.stays.find? (hit k) with
 | none=>rfl
 | some t =>
  have ht:=okl.sok t (List.mem_of_find?_eq_some hf)
  obtain ⟨b,hb⟩:∃ b:Nat,t.box=b:=⟨t.box.toNat,by have:=ht.b0;omega⟩
  have:=warmW_eq c b k (by have:=ht.b1;omega) hk
  simp only [hb,Int.toNat_natCast]
  exact this
/-! ### Losses -/
theorem lossFrom_up (rs:List Rate) (ro:∀ i (h:i<rs.length),(rateBefore rs i).above<(rs[i]).above∧(rateBefore rs i).loss≤(rs[i]).loss) (t t':Int) (h:t≤t') :
  ∀ m j:Nat,j+m=rs.length→(rateBefore rs j).loss≤lossFrom t' (rateBefore rs j).loss (rs.drop j)∧lossFrom t (rateBefore rs j).loss (rs.drop j)≤lossFrom t' (rateBefore rs j).loss (rs.drop j)
 | 0,j,hm=>by
  rw [List.drop_of_length_le (by omega)]
  exact ⟨Int.le_refl _,Int.le_refl _⟩
 | m+1,j,hm=>by
  have hj:j<rs.length:=by omega
  have ih:=lossFrom_up rs ro t t' h m (j+1) (by omega)
  have hb:rateBefore rs (j+1)=rs[j]:=by simp only [rateBefore,List.getElem?_eq_getElem hj]
  rw [hb] at ih
  rw [List.drop_eq_getElem_cons hj]
  have r1:=(ro j hj).2
  unfold lossFrom
  by_cases e:t'<(rs[j]).above
  ·rw [if_pos e,if_pos (by omega)]
   exact ⟨Int.le_refl _,Int.le_refl _⟩
  ·rw [if_neg e]
   by_cases e2:t<(rs[j]).above
   ·rw [if_pos e2]
    exact ⟨by omega,by omega⟩
   ·rw [if_neg e2]
    exact ⟨by omega,ih.2⟩
theorem lossFrom_mono (rs:List Rate) (ro:∀ i (h:i<rs.length),(rateBefore rs i).above<(rs[i]).above∧(rateBefore rs i).loss≤(rs[i]).loss) (t t':Int) (h:t≤t'):lossFrom t 0 rs≤lossFrom t' 0 rs:=by
 have:=(lossFrom_up rs ro t t' h rs.length 0 (by omega)).2
 rw [List.drop_zero] at this
 exact this
theorem total_le {f g:Int × Int→Int} {u v:Nat→Int × Int}:∀ m:Nat,(∀ i,i<m→f (u i)≤g (v i))→total f ((List.range m).map u)≤total g ((List.range m).map v)
 | 0,_=>Int.le_refl _
 | m+1,h=>by
  rw [List.range_succ,List.map_append,List.map_append]
  show total f (_++[u m])≤total g (_++[v m])
  rw [total_snoc,total_snoc]
  have h1:=total_le (f:=f) (g:=g) (u:=u) (v:=v) m fun i hi=>h i (by omega)
  have h2:=h m (by omega)
  omega
end Go.Proofs.Ytlfalcghhckanab.walk
set_option maxRecDepth 10000
namespace Go.Proofs.Ytlfalcghhckanab.walk
open Go.Abs Go.Proofs.Ytlfalcghhckanab.code
def lastOf (is:List (Int × Int)):Int × Int:=is.getD (is.length - 1) (0,0)
theorem lastOf_snoc (is:List (Int × Int)) (x:Int × Int):lastOf (is++[x])=x:=by
 unfold lastOf
 rw [List.length_append,List.length_singleton,Nat.add_sub_cancel,List.getD_eq_getElem?_getD,List.getElem?_append_right (Nat.le_refl _),Nat.sub_self]
 rfl
structure Nows (q z:Nat) (R:ALoop) (is:List (Int × Int)) (h:Heap) (n:Nat):Prop where
 now:h.get q=some (.cells [.int .i64 (lastOf is).1,.int .i64 (lastOf is).2] (tag 93))
 loop:h.get (z+1)=some (.loop R)
 dfr:h.get z=some .dfr
 n:z+2≤n
theorem ice_takes (N:Nat) (p q z sz:Nat) (top:Int) (x0:BoxNow) (R:ALoop) (L0:Env) (hR:R=⟨.ready,none,16,L0,[32,33],(rangeAt Try.f16 0).1,(rangeAt Try.f16 0).2,z,Try.f16.ntmps,X 16⟩) (hp:p<q) (hq:q<z)
  (h10:L0.find 10=.ptr q 0):TakesQ (N+1) (z+1) p q sz z 10 top x0 (Nows q z R):=by
 have hf:far=1000000000:=rfl
 refine ⟨fun is h h' n hh ⟨g1,g2,g3,g4⟩=>⟨by rw [hh _ (by omega)];exact g1,by rw [hh _ (by omega)];exact g2,by rw [hh _ (by omega)];exact g3,g4⟩,?_⟩
 intro is s x v hlt hil hl ⟨g1,g4,g5,g6⟩ gp hs
 obtain ⟨s1,hs1⟩:∃ s1:St,s1=(s.new (.cells [.int .i64 0,.int .i64 0] (tag 93))).put s.n (.cells [.int .i64 x.i0,.int .i64 x.i1] (tag 93)):=⟨_,rfl⟩
 have s1n:s1.n=s.n+1:=by rw [hs1];rfl
 have s1g:∀ c,c≠s.n→s1.h.get c=s.h.get c:=fun c hc=>by rw [hs1,get_put_ne' _ _ _ _ hc,get_new_ne _ _ _ hc]
 have s1m:s1.m=min s.m s.n:=by rw [hs1];simp only [St.put,minN_eq,new_m]
 have s1w:s1.h.get s.n=some (.cells [.int .i64 x.i0,.int .i64 x.i1] (tag 93)):=by rw [hs1];exact get_put_eq _ _ _ _ rfl (by omega)
 have h1:K16a0 (call Try.prog X N) ⟨16,some (z+1),Try.f16.ntmps,X 16⟩ (setParams L0 [32,33] [.int .i64 x.hour,.agg [.int .i64 x.i0,.int .i64 x.i1]]) [] s=.done .norm ((((L0.set 32 (.int .i64 x.hour)).set 33 (.agg [.int .i64 x.i0,.int .i64 x.i1])).set 12 (.ptr s.n 0))) [] s1:=by
  rw [hs1]
  simp (disch:=first|omega|(with_unfolding_all exact rfl)|(simp only[new_n,put_n,new_m];omega)|(refine put_m_le ?_;simp only[new_m];omega)) only [K16a0,K16a0r0,Abs.W,reduceIte,Nat.reduceEqDiff,Nat.reduceAdd,decide_true,decide_false,kLoop_def,Nat.reduceSub,List.cons_append,List.nil_append,List.append_nil,List.length_cons,List.length_nil,setParams2,Env.find_set,Nat.reduceEqDiff]
 obtain ⟨s2,hs2⟩:∃ s2:St,s2=s1.put (z+1) (.loop { R with state:=.busy }):=⟨_,rfl⟩
 have s2n:s2.n=s.n+1:=by rw [hs2];exact s1n
 have s2g:∀ c,c≠s.n→c≠z+1→s2.h.get c=s.h.get c:=fun c hc hc3=>by rw [hs2,get_put_ne' _ _ _ _ hc3];exact s1g c hc
 have s2l:s2.h.get (z+1)=some (.loop { R with state:=.busy }):=by rw [hs2];exact get_put_eq _ _ _ _ rfl (by omega)
 have s2w:s2.h.get s.n=some (.cells [.int .i64 x.i0,.int .i64 x.i1] (tag 93)):=by rw [hs2,get_put_ne' _ _ _ _ (by omega)];exact s1w
 have s2m:s2.m=min (min s.m s.n) (z+1):=by rw [hs2];simp only [St.put,minN_eq,s1m]
 have g1':=(s2g q (by omega) (by omega)).trans g1
 have h4:K16b0 (call Try.prog X N) ⟨16,some (z+1),Try.f16.ntmps,X 16⟩ ((((L0.set 32 (.int .i64 x.hour)).set 33 (.agg [.int .i64 x.i0,.int .i64 x.i1])).set 12 (.ptr s.n 0))) [] s2=.done .norm ((((L0.set 32 (.int .i64 x.hour)).set 33 (.agg [.int .i64 x.i0,.int .i64 x.i1])).set 12 (.ptr s.n 0))) [] (s2.put q (.cells [.int .i64 x.i0,.int .i64 x.i1] (tag 93))):=by
  simp (disch:=first|omega|(with_unfolding_all exact rfl)|(simp only[new_n,put_n,new_m];omega)|(refine put_m_le ?_;simp only[new_m];omega)) only [K16b0,K16b0r0,Abs.W,reduceIte,Nat.reduceEqDiff,Nat.reduceAdd,decide_true,decide_false,kLoop_def,Nat.reduceSub,List.cons_append,List.nil_append,List.append_nil,List.length_cons,List.length_nil,Env.find_set,h10,g1',s2w,Nat.zero_add]
 have g6':(s2.put q (.cells [.int .i64 x.i0,.int .i64 x.i1] (tag 93))).h.get (z+1)=some (.loop { R with state:=.busy }):=by
  rw [get_put_ne' _ _ _ _ (by omega)];exact s2l
 have h4':=h4
 rw [hs2] at h4' g6'
 have hfin:=call_round (P:=Try.prog) (X:=X) (n:=N) (l:=z+1) (args:=[.int .i64 x.hour,.agg [.int .i64 x.i0,.int .i64 x.i1]]) (r:=R) (r1:=R) (r2:={ R with state:=.busy }) (s:=s) (s1:=s1) (e:=.norm) g4 (by rw [hR];rfl) (by rw [hR];exact code16a0) (by rw [hR];exact code16b0) (by rw [hR];exact h1) (by rw [s1g _ (by omega)];exact g4) (by rw [hR]) (by rw [hR];rw [hR] at h4';exact h4') g6'
 have hRR:({ ({ R with state:=.busy }:ALoop) with state:=if goesOn .norm then .ready else .done,pending:=jumpOf .norm }:ALoop)=R:=by rw [hR];rfl
 rw [hRR,← hs2] at hfin
 refine ⟨_,hfin,⟨?_,get_put_eq _ _ _ _ rfl (by omega),?_,?_⟩,fun c hc hcq=>?_,?_,?_,fun hpm=>?_,?_,?_⟩
 ·rw [get_put_ne' _ _ _ _ (by omega),lastOf_snoc];exact get_put_eq _ _ _ _ rfl (by omega)
 ·rw [get_put_ne' _ _ _ _ (by omega),get_put_ne' _ _ _ _ (by omega)];exact (s2g _ (by omega) (by omega)).trans g5
 ·simp only [put_n];omega
 ·rw [get_put_ne' _ _ _ _ (by omega),get_put_ne' _ _ _ _ hcq];exact s2g _ (by omega) (by omega)
 ·simp only [put_n];omega
 ·simp only [put_n];omega
 ·simp only [St.put,minN_eq,s2m];omega
 ·simp only [St.put,minN_eq,s2m];omega
 ·simp only [St.put,minN_eq,s2m];omega
theorem Ice_ok {N:Nat} {s:St} {v1 v2 v3:AV} {box hour:Int} (c:Cellar) (ok:c.Ok) (b k:Nat) (hb:b<c.boxes.length) (hk:k<240) (hbox:box=b) (hhour:hour=k) (hN:8≤N) (hC:CellarIn s.h s.n c v1 v2 v3) (hs:s.n+200000≤far) :
  call Try.prog X N (.fn 16) [.agg [.int .i64 c.hl,.int .i64 c.hh,v1,v2,v3],.int .i64 box,.int .i64 hour] s=.val (.tup [.agg [.int .i64 (c.iceLo b k),.int .i64 (c.iceHi b k)],.int .i64 0]) s:=by
 obtain ⟨n,rfl⟩:∃ n,N=n+1:=⟨N - 1,by omega⟩
 subst hbox hhour
 refine call_plain' Try.func16 (fun u uh un um=>?_) rfl
 have hff:far=1000000000:=rfl
 rw [← uh,← un] at hC
 have sh:shapeT Try.prog 26=some (some 2):=by kernel_rfl
 obtain ⟨w,hw⟩:∃ w:St,w=(u.new (.cells [.int .i64 c.hl,.int .i64 c.hh,v1,v2,v3] (tag 31))).new (.cells [.int .i64 0,.int .i64 0] (tag 26)):=⟨_,rfl⟩
 have wn:w.n=u.n+2:=by rw [hw];rfl
 have wm:w.m=far:=by rw [hw];exact um
 have wg:∀ c,c<u.n→w.h.get c=u.h.get c:=fun c hc=>by rw [hw,get_new_ne _ _ _ (by simp only [new_n];omega),get_new_ne _ _ _ (by omega)]
 have w0:w.h.get u.n=some (.cells [.int .i64 c.hl,.int .i64 c.hh,v1,v2,v3] (tag 31)):=by
  rw [hw,get_new_ne _ _ _ (by simp only [new_n];omega)];exact get_new_eq _ _ _ rfl (by omega)
 have w2:w.h.get (u.n+1)=some (.cells [.int .i64 0,.int .i64 0] (tag 26)):=by rw [hw];exact get_new_eq _ _ _ rfl (by simp only [new_n];omega)
 have nn1:∀ o,(u.new o).n=u.n+1:=fun _=>rfl
 have hCw:∀ m,CellarIn (⟨w.h,w.n,m⟩:St).h (⟨w.h,w.n,m⟩:St).n c v1 v2 v3:=fun m=>hC.grow wg (by show u.n≤w.n;omega)
 have e1:∀ m,call Try.prog X n (.fn 38) [.agg [.int .i64 c.hl,.int .i64 c.hh,v1,v2,v3]] ⟨w.h,w.n,m⟩=.val (.int .i64 0) ⟨w.h,w.n,m⟩:=fun m =>
  check_ok n (by omega) c ok v1 v2 v3 ⟨w.h,w.n,m⟩ (hCw m).at_ (by show w.n+3000≤far;omega)
 have len1:=hC.at_.b.len
 rw [List.length_map] at len1
 have e2:∀ s:St,s.n+100≤far→call Try.prog X n (.fn 39) [.agg [.int .i64 c.hl,.int .i64 c.hh,v1,v2,v3],.int .i64 (b:Int)] s=.val (.int .i64 0) s:=fun s hs=>box_ok n (by omega) c.hl c.hh b c.boxes.length v1 v2 v3 s hC.at_.b.ne len1 (by omega) (by omega) hs
 have e3:∀ s:St,s.n+100≤far→call Try.prog X n (.fn 40) [.int .i64 (k:Int)] s=.val (.int .i64 0) s:=fun s hs=>hour_ok n (by omega) k s (by omega) (by omega) hs
 have a1:∀ s,aAdd s .i64 (k:Int) 1=.val (.int .i64 ((k:Int)+1)) s:=fun s=>aAdd_i64 s _ _ (by omega)
 rw [enter16]
 simp (disch:=first|omega|(with_unfolding_all exact rfl)|(simp only[new_n,put_n,new_m];omega)|(refine put_m_le ?_;simp only[new_m];omega)) only [res16,K16,K16r0,Abs.W,reduceIte,Nat.reduceEqDiff,Nat.reduceAdd,decide_true,decide_false,kLoop_def,Nat.reduceSub,List.cons_append,List.nil_append,List.append_nil,List.length_cons,List.length_nil,nn1]
 rw [← hw]
 simp (disch:=first|omega|(with_unfolding_all exact rfl)|(simp only[new_n,put_n,new_m];omega)|(refine put_m_le ?_;simp only[new_m];omega)) only [K16r1,K16r2,K16r4,Abs.W,reduceIte,Nat.reduceEqDiff,Nat.reduceAdd,decide_true,decide_false,kLoop_def,Nat.reduceSub,List.cons_append,List.nil_append,List.append_nil,List.length_cons,List.length_nil,Env.find_set,w0,e1,e2,e3,or_new3,endO_nil,regD_ok,Nat.zero_add]
 obtain ⟨y,hy⟩:∃ y:St,y=w.new (.cells [.int .i64 0,.int .i64 0,.int .i64 0] 0):=⟨_,rfl⟩
 rw [← hy]
 have yn:y.n=w.n+1:=by rw [hy];rfl
 have ym:y.m=far:=by rw [hy];exact wm
 have yg:∀ c,c<w.n→y.h.get c=w.h.get c:=fun c hc=>by rw [hy,get_new_ne _ _ _ (by omega)]
 have yu:∀ c,c<u.n→y.h.get c=u.h.get c:=fun c hc=>(yg c (by omega)).trans (wg c hc)
 have hCy:=hC.grow yu (by omega:u.n≤y.n)
 generalize hc:call _ _ _ (.fn 41) _ _=r1
 obtain ⟨v',t1,rfl,st1,kept1⟩:=begin_ex c.boxes c.fills b hb hc (by omega) hCy.at_.b hCy.f ok.f (scal_ne hC.s3) (by omega)
 have t1n:=st1.n
 have t1l:=st1.le
 have t1m:t1.m=far:=st1.m.trans ym
 have t1g:=st1.same
 have ksc:=kept1.scalar1
 obtain ⟨B,hBe⟩:∃ B,B=c.boxes[b]:=⟨_,rfl⟩
 have hBok:B.Ok:=by rw [hBe];exact ok.bok _ (List.getElem_mem hb)
 have hBx:c.box b=B:=by unfold Cellar.box;rw [List.getD_eq_getElem?_getD,List.getElem?_eq_getElem hb,hBe];rfl
 rw [← hBe]
 have hcells:∀ v,B.start.cells v=[.int .i64 B.start.room,.int .i64 B.start.a1,.int .i64 B.start.a2,.int .i64 B.start.m0,.int .i64 B.start.m1,.int .i64 B.start.a5,.int .i64 B.start.a6,.int .i64 B.start.a7,.int .i64 B.start.a8,.int .i64 B.start.hour,.int .i64 B.start.i0,.int .i64 B.start.i1,v]:=fun _=>rfl
 obtain ⟨t2,ht2⟩:∃ t2:St,t2=((t1.new (.cells [.int .i64 0,.int .i64 0,.int .i64 0,.int .i64 0,.int .i64 0,.int .i64 0,.int .i64 0,.int .i64 0,.int .i64 0,.int .i64 0,.int .i64 0,.int .i64 0,.nilslice] (tag 95))).put t1.n (.cells (B.start.cells v') (tag 95))).new (.cells [.int .i64 0,.int .i64 0] (tag 93)):=⟨_,rfl⟩
 have t2n:t2.n=t1.n+2:=by rw [ht2];rfl
 have t2m:t2.m=min t1.m t1.n:=by rw [ht2];simp only [St.put,minN_eq,new_m]
 have t2g:∀ c,c<t1.n→t2.h.get c=t1.h.get c:=fun c hc=>by rw [ht2,get_new_ne _ _ _ (by simp only [put_n,new_n];omega),get_put_ne' _ _ _ _ (by omega),get_new_ne _ _ _ (by omega)]
 have t2p:t2.h.get t1.n=some (.cells (B.start.cells v') (tag 95)):=by rw [ht2,get_new_ne _ _ _ (by simp only [put_n,new_n];omega)];exact get_put_eq _ _ _ _ rfl (by omega)
 have t2q:t2.h.get (t1.n+1)=some (.cells [.int .i64 0,.int .i64 0] (tag 93)):=by rw [ht2];exact get_new_eq _ _ _ (by simp only [put_n,new_n]) (by simp only [put_n,new_n];omega)
 rw [hcells] at ht2
 have nn2:∀ o1 o2,((t1.new o1).put t1.n o2).n=t1.n+1:=fun _ _=>rfl
 simp (disch:=first|omega|(with_unfolding_all exact rfl)|(simp only[new_n,put_n,new_m];omega)|(refine put_m_le ?_;simp only[new_m];omega)) only [K16r5,K16r6,Abs.W,reduceIte,Nat.reduceEqDiff,Nat.reduceAdd,decide_true,decide_false,kLoop_def,Nat.reduceSub,List.cons_append,List.nil_append,List.append_nil,List.length_cons,List.length_nil,Env.find_set,hcells,ksc,a1,nn2,Nat.zero_add]
 rw [← ht2]
 generalize hc2:call _ _ _ (.fn 42) _ _=r2
 obtain ⟨t3,sa,sb,rfl,st3,t3n,ga,gb⟩:=hours_ex hc2 (by omega) (by omega)
 have t3m:t3.m=t2.m:=st3.m
 have t3g:∀ c,c<t2.n→t3.h.get c=t2.h.get c:=st3.same
 simp (disch:=first|omega|(with_unfolding_all exact rfl)|(simp only[new_n,put_n,new_m];omega)|(refine put_m_le ?_;simp only[new_m];omega)) only [Abs.W,reduceIte,Nat.reduceEqDiff,Nat.reduceAdd,decide_true,decide_false,kLoop_def,Nat.reduceSub,List.cons_append,List.nil_append,List.append_nil,List.length_cons,List.length_nil,Env.find_set]
 have t3p:=(t3g t1.n (by omega)).trans t2p
 have t3q:=(t3g (t1.n+1) (by omega)).trans t2q
 have hgr:∀ f ∈ ofBox b c.fills,0≤f.grams∧f.grams≤1000000:=fun f hff'=>by
  have:=ok.fok f (List.mem_filter.mp hff').1
  obtain ⟨_,_,_,_,z0,z1⟩:=this
  omega
 have kept3:Kept t3.h (y.n+3) t1.n (ofBox b c.fills) v':=kept1.mono (fun c h1 h2=>(t3g c (by omega)).trans (t2g c h2)) (Nat.le_refl _)
 obtain ⟨hx,hm0,hm1,hm2,hm3⟩:=Box.start_fits hBok
 generalize hL:Env.cons 0 _ _=L0
 have f10:L0.find 10=.ptr (t1.n+1) 0:=by rw [← hL];simp only [find_cons,Env.find_set,reduceIte,Nat.reduceEqDiff]
 have f31:L0.find 31=.func 64 [] [.ptr t2.n 0,.ptr (t2.n+1) 0]:=by rw [← hL];simp only [find_cons,Env.find_set,reduceIte,Nat.reduceEqDiff]
 have f6:L0.find 6=.ptr (u.n+1) 0:=by rw [← hL];simp only [find_cons,Env.find_set,reduceIte,Nat.reduceEqDiff]
 obtain ⟨R,hRdef⟩:∃ R:ALoop,R=⟨.ready,none,16,L0,[32,33],(rangeAt Try.f16 0).1,(rangeAt Try.f16 0).2,t3.n,Try.f16.ntmps,X 16⟩:=⟨_,rfl⟩
 obtain ⟨n2,rfl⟩:∃ n2,n=n2+2:=⟨n - 2,by omega⟩
 have hT:=ice_takes n2 t1.n (t1.n+1) t3.n (tag 95) ((k+1:Nat):Int) B.start R L0 hRdef (by omega) (by omega) f10
 obtain ⟨x2,hx2⟩:∃ x2:St,x2=(t3.new .dfr).new (.loop R):=⟨_,rfl⟩
 have x2n:x2.n=t3.n+2:=by rw [hx2];rfl
 have x2m:x2.m=t3.m:=by rw [hx2];rfl
 have x2g:∀ c,c<t3.n→x2.h.get c=t3.h.get c:=fun c hc=>by rw [hx2,get_new_ne _ _ _ (by simp only [new_n];omega),get_new_ne _ _ _ (by omega)]
 have x2d:x2.h.get t3.n=some .dfr:=by rw [hx2,get_new_ne _ _ _ (by simp only [new_n];omega)];exact get_new_eq _ _ _ rfl (by omega)
 have x2l:x2.h.get (t3.n+1)=some (.loop R):=by rw [hx2];exact get_new_eq _ _ _ rfl (by simp only [new_n];omega)
 have G0:Nows (t1.n+1) t3.n R [] x2.h x2.n:=⟨(x2g _ (by omega)).trans t3q,x2l,x2d,by omega⟩
 generalize hc4:call Try.prog X (n2+2) (.fn 64) [.yield (t3.n+1),.ptr t2.n 0,.ptr (t2.n+1) 0] x2=r94
 obtain ⟨s2,rfl,G,same,sn,sk,sm,smm⟩:=hours1Q_ex (z:=t1.n) (fs:=(ofBox b c.fills).map fun f=>(f.hour,f.grams)) (k+1) hc4 (by omega) hT (by omega) (by omega) (by omega) (by omega) (by omega) rfl rfl (by omega) (by omega) (by rw [List.length_map];unfold ofBox;exact Nat.le_trans (List.length_filter_le _ _) (by have:=ok.f;omega)) hx ⟨hm0,hm1,hm2,hm3⟩ (by omega) ⟨by omega,by omega⟩ ⟨by omega,by omega⟩ (by omega) (by omega) (by omega) ((x2g _ (by omega)).trans ga) ((x2g _ (by omega)).trans gb) ((x2g _ (by omega)).trans t3p) ((kept3.rests (.inr (Nat.le_refl _)) (Nat.le_refl _) hgr).grow fun c _ hcz=>x2g c (by omega)) G0
 obtain ⟨G1,G4,G5,G6⟩:=G
 have hcall:callV (call Try.prog X (n2+2)) [.yield (t3.n+1)] ((t3.new .dfr).new (.loop ⟨.ready,none,16,L0,[32,33],(rangeAt Try.f16 0).1,(rangeAt Try.f16 0).2,t3.n,Try.f16.ntmps,X 16⟩)) ((Arg.tmp 31).ev L0)=.val (.tup []) s2:=by
  rw [ev_tmp,f31,callV_func,← hRdef,← hx2]
  exact hc4
 have hrange:=range_to_end (ps:=[32,33]) (c:=⟨16,none,Try.f16.ntmps,X 16⟩) rfl hcall G4 (by rw [hRdef]) (by rw [hRdef])
 have hlast:lastOf (ices (k+1) B.start ((ofBox b c.fills).map fun f=>(f.hour,f.grams)))=(c.iceLo b k,c.iceHi b k):=by
  unfold lastOf
  rw [ices_len,Nat.add_sub_cancel,ices_lev (k+1) k _ _ (by omega)]
  unfold Cellar.iceLo Cellar.iceHi Cellar.of
  rw [hBx]
  rfl
 rw [hlast] at G1
 have g10:∀ o,(s2.put (t3.n+1) o).h.get (t1.n+1)=some (.cells [.int .i64 (c.iceLo b k),.int .i64 (c.iceHi b k)] (tag 93)):=fun o=>by rw [get_put_ne' _ _ _ _ (by omega)];exact G1
 have g6:∀ o,(s2.put (t3.n+1) o).h.get (u.n+1)=some (.cells [.int .i64 0,.int .i64 0] (tag 26)):=fun o=>by
  rw [get_put_ne' _ _ _ _ (by omega),same _ (by omega) (by omega) (by omega),x2g _ (by omega),t3g _ (by omega),t2g _ (by omega),t1g _ (by omega),yg _ (by omega)];exact w2
 have gd:∀ o o2,((s2.put (t3.n+1) o).put (u.n+1) o2).h.get t3.n=some .dfr:=fun o o2=>by rw [get_put_ne' _ _ _ _ (by omega),get_put_ne' _ _ _ _ (by omega)];exact G5
 have km:10 * (k+1)≤2400:=by omega
 simp (disch:=first|omega|(with_unfolding_all exact rfl)|(simp only[new_n,put_n,new_m];omega)|(refine put_m_le ?_;simp only[new_m];omega)) only [K16r7,Abs.W,reduceIte,Nat.reduceEqDiff,Nat.reduceAdd,decide_true,decide_false,kLoop_def,Nat.reduceSub,List.cons_append,List.nil_append,List.append_nil,List.length_cons,List.length_nil,hrange,Env.find_set,f10,f6,g10,g6,endsSpan_ok,Nat.zero_add]
 rw [leave_dfr _ _ _ _ _ (gd _ _),res16]
 have f7:(L0.set 7 (.int .i64 0)).find 7=.int .i64 0:=by simp only [Env.find_set,reduceIte]
 refine ⟨_,(leave_cell_tmp _ _ _ _ _ sh (v:=.agg [.int .i64 (c.iceLo b k),.int .i64 (c.iceHi b k)]) ?_).trans (by rw [f7]),?_⟩
 ·simp only [Env.find_set,f6,reduceIte,Nat.reduceEqDiff]
  rw [load_ptr,get_kill_ne _ _ _ (by omega),get_put_eq _ _ _ _ rfl (by omega)]
  simp (disch:=first|omega|(with_unfolding_all exact rfl)|(simp only[new_n,put_n,new_m];omega)|(refine put_m_le ?_;simp only[new_m];omega)) only [Abs.W,reduceIte,Nat.reduceEqDiff,Nat.reduceAdd,decide_true,decide_false,kLoop_def,Nat.reduceSub,List.cons_append,List.nil_append,List.append_nil,List.length_cons,List.length_nil]
 ·have:=sm (by omega)
  simp only [St.kill,St.put,minN_eq];omega
theorem Cold_ok {N:Nat} {s:St} {v1 v2 v3:AV} {box hour:Int} (c:Cellar) (ok:c.Ok) (b k:Nat) (hb:b<c.boxes.length) (hk:k<240) (hbox:box=b) (hhour:hour=k) (hN:9≤N) (hC:CellarIn s.h s.n c v1 v2 v3) (hs:s.n+300000≤far) :
  call Try.prog X N (.fn 17) [.agg [.int .i64 c.hl,.int .i64 c.hh,v1,v2,v3],.int .i64 box,.int .i64 hour] s=.val (.tup [.int .i64 (if 0<c.iceLo b k then 1 else if 0<c.iceHi b k then 3 else 2),.int .i64 0]) s:=by
 obtain ⟨n,rfl⟩:∃ n,N=n+1:=⟨N - 1,by omega⟩
 refine call_plain' Try.func17 (fun u uh un um=>?_) rfl
 have hff:far=1000000000:=rfl
 rw [← uh,← un] at hC
 obtain ⟨w,hw⟩:∃ w:St,w=u.new (.cells [.int .i64 c.hl,.int .i64 c.hh,v1,v2,v3] (tag 31)):=⟨_,rfl⟩
 have wn:w.n=u.n+1:=by rw [hw];rfl
 have wm:w.m=far:=by rw [hw];exact um
 have wg:∀ c,c<u.n→w.h.get c=u.h.get c:=fun c hc=>by rw [hw,get_new_ne _ _ _ (by omega)]
 have w0:w.h.get u.n=some (.cells [.int .i64 c.hl,.int .i64 c.hh,v1,v2,v3] (tag 31)):=by rw [hw];exact get_new_eq _ _ _ rfl (by omega)
 have e1:=Ice_ok (N:=n) (s:=w) c ok b k hb hk hbox hhour (by omega) (hC.grow wg (by omega)) (by omega)
 have ex0:∀ (a b:AV) (s:St),extA 0 s (.tup [a,b])=.val a s:=fun _ _ _=>rfl
 have ex1:∀ (a b:AV) (s:St),extA 1 s (.tup [a,b])=.val b s:=fun _ _ _=>rfl
 rw [enter17]
 simp (disch:=first|omega|(with_unfolding_all exact rfl)|(simp only[new_n,put_n,new_m];omega)|(refine put_m_le ?_;simp only[new_m];omega)) only [res17,K17,K17r0,Abs.W,reduceIte,Nat.reduceEqDiff,Nat.reduceAdd,decide_true,decide_false,kLoop_def,Nat.reduceSub,List.cons_append,List.nil_append,List.append_nil,List.length_cons,List.length_nil]
 rw [← hw]
 simp (disch:=first|omega|(with_unfolding_all exact rfl)|(simp only[new_n,put_n,new_m];omega)|(refine put_m_le ?_;simp only[new_m];omega)) only [K17r1,K17r2,K17r4,Abs.W,reduceIte,Nat.reduceEqDiff,Nat.reduceAdd,decide_true,decide_false,kLoop_def,Nat.reduceSub,List.cons_append,List.nil_append,List.append_nil,List.length_cons,List.length_nil,Env.find_set,w0,e1,ex0,ex1,verdict_ok,Nat.zero_add,leave_tmp_tmp]
 simp only [decide_eq_true_eq]
 exact ⟨_,rfl,by simp only [St.put,minN_eq,wm,new_m];omega⟩
end Go.Proofs.Ytlfalcghhckanab.walk
set_option maxRecDepth 10000
namespace Go.Proofs.Ytlfalcghhckanab.walk
open Go.Abs Go.Proofs.Ytlfalcghhckanab.code
def Die (d:Nat) (h:Heap):Prop:=∃ f,h.get d=some (.cells [.int .u64 f] (tag 58))
theorem roll_ex {N d:Nat} {s:St} {r:ARes} (hr:call Try.prog X N (.fn 19) [.ptr d 0] s=r) (hN:1≤N) (hd:Die d s.h) (hlt:d<s.n) (hs:s.n+10≤far) :
  ∃ x t,r=.val (.int .u64 x) t∧Stir d s t 0∧Die d t.h∧0≤x∧x≤18446744073709551615:=by
 obtain ⟨n,rfl⟩:∃ n,N=n+1:=⟨N - 1,by omega⟩
 have hf:far=1000000000:=rfl
 obtain ⟨f,hg⟩:=hd
 obtain ⟨v,t,e,st,⟨x,rfl,x0,x1⟩,hd'⟩:=call_stir_plain (n:=n) (args:=[.ptr d 0]) (d:=d) (k:=0) (Q:=fun v=>∃ x,v=.int .u64 x∧0≤x∧x≤18446744073709551615) (R:=Die d) Try.func19 ⟨f,hg⟩ (fun u uh un um=>by
  rw [← uh] at hg
  rw [enter19]
  simp (disch:=first|omega|(with_unfolding_all exact rfl)|(simp only[new_n,put_n,new_m];omega)|(refine put_m_le ?_;simp only[new_m];omega)) only [res19,K19r0,K19r1,K19r2,K19r3,K19r4,K19r5,K19,Abs.W,reduceIte,Nat.reduceEqDiff,Nat.reduceAdd,decide_true,decide_false,kLoop_def,Nat.reduceSub,List.cons_append,List.nil_append,List.append_nil,List.length_cons,List.length_nil,hg,Nat.zero_add,ints_u64,kShr_def,shrA_u64,aAdd_def,aMul_def,aXor_def]
  refine ⟨_,_,rfl,(Stir.refl d u).put (by omega) _ (.inl rfl),rfl,⟨_,rfl,?_⟩,⟨_,get_put_eq _ _ _ _ rfl (by omega)⟩⟩
  exact xorI_range _ _) (by omega)
 exact ⟨x,t,hr.symm.trans e,st,hd',x0,x1⟩
theorem cast_ex {N d:Nat} {n:Int} {s:St} {r:ARes} (hr:call Try.prog X N (.fn 8) [.ptr d 0,.int .i64 n] s=r) (hN:2≤N) (hd:Die d s.h) (hlt:d<s.n) (hs:s.n+100≤far) (hn:n≤1000000000) :
  ∃ x t,r=.val (.int .i64 x) t∧Stir d s t 0∧Die d t.h∧0≤x∧(x<n∨x=0):=by
 obtain ⟨m,rfl⟩:∃ m,N=m+1:=⟨N - 1,by omega⟩
 have hf:far=1000000000:=rfl
 obtain ⟨v,t,e,st,⟨x,rfl,x0,x1⟩,hd'⟩:=call_stir_plain (n:=m) (args:=[.ptr d 0,.int .i64 n]) (d:=d) (k:=0) (Q:=fun v=>∃ x,v=.int .i64 x∧0≤x∧(x<n∨x=0)) (R:=Die d) Try.func8 hd (fun u uh un um=>by
  rw [← uh] at hd
  rw [enter8]
  by_cases hlow:n<2
  ·have e0:decide (n<2)=true:=by simpa using hlow
   simp (disch:=first|omega|(with_unfolding_all exact rfl)|(simp only[new_n,put_n,new_m];omega)|(refine put_m_le ?_;simp only[new_m];omega)) only [res8,K8r0,K8r1,K8r2,K8r3,K8,Abs.W,reduceIte,Nat.reduceEqDiff,Nat.reduceAdd,decide_true,decide_false,kLoop_def,Nat.reduceSub,List.cons_append,List.nil_append,List.append_nil,List.length_cons,List.length_nil,e0]
   exact ⟨_,_,rfl,Stir.refl d u,rfl,⟨0,rfl,by omega,.inr rfl⟩,hd⟩
  ·have e0:decide (n<2)=false:=by simpa using hlow
   simp (disch:=first|omega|(with_unfolding_all exact rfl)|(simp only[new_n,put_n,new_m];omega)|(refine put_m_le ?_;simp only[new_m];omega)) only [res8,K8r0,K8r1,K8r2,K8r3,K8,Abs.W,reduceIte,Nat.reduceEqDiff,Nat.reduceAdd,decide_true,decide_false,kLoop_def,Nat.reduceSub,List.cons_append,List.nil_append,List.append_nil,List.length_cons,List.length_nil,e0]
   generalize hc:call _ _ _ (.fn 19) _ _=r1
   obtain ⟨y,w,rfl,sw,dw,y0,y1⟩:=roll_ex hc (by omega) hd (by omega) (by omega)
   have q0:0≤shrI y 2:=shrI_nonneg _ _ y0
   have q2:0≤(shrI y 2).tmod n:=Int.tmod_nonneg _ q0
   have q3:(shrI y 2).tmod n<n:=Int.tmod_lt_of_pos _ (by omega)
   have w1:wrapA .u64 n=n:=wrap_u64 n (by omega)
   have w2:wrapA .i64 ((shrI y 2).tmod n)=(shrI y 2).tmod n:=wrap_in _ (by omega)
   have w3:∀ s,aRem s .u64 (shrI y 2) n=.val (.int .u64 ((shrI y 2).tmod n)) s:=fun s=>aRem_ne s _ _ _ (by omega)
   simp (disch:=first|omega|(with_unfolding_all exact rfl)|(simp only[new_n,put_n,new_m];omega)|(refine put_m_le ?_;simp only[new_m];omega)) only [res8,K8r0,K8r1,K8r2,K8r3,K8,Abs.W,reduceIte,Nat.reduceEqDiff,Nat.reduceAdd,decide_true,decide_false,kLoop_def,Nat.reduceSub,List.cons_append,List.nil_append,List.append_nil,List.length_cons,List.length_nil,ints_u64,kShr_def,shrA_u64,cviA_int,w1,w2,w3]
   exact ⟨_,_,rfl,sw,rfl,⟨_,rfl,q2,.inl q3⟩,dw⟩) (by omega)
 exact ⟨x,t,hr.symm.trans e,st,hd',x0,x1⟩
theorem from_ex {N d:Nat} {lo hi:Int} {s:St} {r:ARes} (hr:call Try.prog X N (.fn 21) [.ptr d 0,.int .i64 lo,.int .i64 hi] s=r) (hN:3≤N) (hd:Die d s.h) (hlt:d<s.n) (hs:s.n+200≤far)
  (h0 : -100000000≤lo) (h1:lo≤100000000) (h2 : -100000000≤hi) (h3:hi≤100000000) :
  ∃ x t,r=.val (.int .i64 x) t∧Stir d s t 0∧Die d t.h∧lo≤x∧(x≤hi∨x=lo):=by
 obtain ⟨m,rfl⟩:∃ m,N=m+1:=⟨N - 1,by omega⟩
 have hf:far=1000000000:=rfl
 obtain ⟨v,t,e,st,⟨x,rfl,x0,x1⟩,hd'⟩:=call_stir_plain (n:=m) (args:=[.ptr d 0,.int .i64 lo,.int .i64 hi]) (d:=d) (k:=0) (Q:=fun v=>∃ x,v=.int .i64 x∧lo≤x∧(x≤hi∨x=lo)) (R:=Die d) Try.func21 hd (fun u uh un um=>by
  rw [← uh] at hd
  have a1:∀ s,aSub s .i64 hi lo=.val (.int .i64 (hi - lo)) s:=fun s=>aSub_i64 s _ _ (by omega)
  have a2:∀ s,aAdd s .i64 (hi - lo) 1=.val (.int .i64 (hi - lo+1)) s:=fun s=>aAdd_i64 s _ _ (by omega)
  rw [enter21]
  simp (disch:=first|omega|(with_unfolding_all exact rfl)|(simp only[new_n,put_n,new_m];omega)|(refine put_m_le ?_;simp only[new_m];omega)) only [res21,K21r0,K21r1,K21,Abs.W,reduceIte,Nat.reduceEqDiff,Nat.reduceAdd,decide_true,decide_false,kLoop_def,Nat.reduceSub,List.cons_append,List.nil_append,List.append_nil,List.length_cons,List.length_nil,a1,a2]
  generalize hc:call _ _ _ (.fn 8) _ _=r1
  obtain ⟨y,w,rfl,sw,dw,y0,y1⟩:=cast_ex hc (by omega) hd (by omega) (by omega) (by omega)
  have a3:∀ s,aAdd s .i64 lo y=.val (.int .i64 (lo+y)) s:=fun s=>aAdd_i64 s _ _ (by omega)
  simp (disch:=first|omega|(with_unfolding_all exact rfl)|(simp only[new_n,put_n,new_m];omega)|(refine put_m_le ?_;simp only[new_m];omega)) only [res21,K21r0,K21r1,K21,Abs.W,reduceIte,Nat.reduceEqDiff,Nat.reduceAdd,decide_true,decide_false,kLoop_def,Nat.reduceSub,List.cons_append,List.nil_append,List.append_nil,List.length_cons,List.length_nil,a3]
  exact ⟨_,_,rfl,sw,rfl,⟨_,rfl,by omega,by omega⟩,dw⟩) (by omega)
 exact ⟨x,t,hr.symm.trans e,st,hd',x0,x1⟩
theorem nth_ints:∀ {l:List Int} {i:Nat},i<l.length→∃ x ∈ l,nth (l.map fun x=>AV.int .i64 x) i=.int .i64 x
 | [],i,h=>by simp at h
 | a::l,0,_=>⟨a,List.mem_cons_self ..,rfl⟩
 | a::l,i+1,h=>by
  obtain ⟨x,hx,e⟩:=nth_ints (l:=l) (i:=i) (by simpa using h)
  exact ⟨x,List.mem_cons_of_mem _ hx,e⟩
theorem one_ex {N d b:Nat} {k sz:Nat} (l:List Int) {s:St} {r:ARes} (hr:call Try.prog X N (.fn 22) [.ptr d 0,.slice b 0 k k false] s=r) (hN:3≤N) (hd:Die d s.h) (hlt:d<s.n) (hs:s.n+200≤far)
  (hb:s.h.get b=some (.cells (l.map fun x=>AV.int .i64 x) sz)) (hbn:b<s.n) (hbd:b≠d) (hl:l.length=k) (h0:0<k) (hk:k≤1000) :
  ∃ x t,r=.val (.int .i64 x) t∧Stir d s t 0∧Die d t.h∧x ∈ l:=by
 obtain ⟨m,rfl⟩:∃ m,N=m+1:=⟨N - 1,by omega⟩
 have hf:far=1000000000:=rfl
 obtain ⟨v,t,e,st,⟨x,rfl,hx⟩,hd'⟩:=call_stir_plain (n:=m) (args:=[.ptr d 0,.slice b 0 k k false]) (d:=d) (k:=0) (Q:=fun v=>∃ x,v=.int .i64 x∧x ∈ l) (R:=Die d) Try.func22 hd (fun u uh un um=>by
  rw [← uh] at hd hb
  have e0:decide ((k:Int)=0)=false:=by simp;omega
  rw [enter22]
  simp (disch:=first|omega|(with_unfolding_all exact rfl)|(simp only[new_n,put_n,new_m];omega)|(refine put_m_le ?_;simp only[new_m];omega)) only [res22,K22r0,K22r1,K22r2,K22r3,K22,Abs.W,reduceIte,Nat.reduceEqDiff,Nat.reduceAdd,decide_true,decide_false,kLoop_def,Nat.reduceSub,List.cons_append,List.nil_append,List.append_nil,List.length_cons,List.length_nil,e0]
  generalize hc:call _ _ _ (.fn 8) _ _=r1
  obtain ⟨y,w,rfl,sw,dw,y0,y1⟩:=cast_ex hc (by omega) hd (by omega) (by omega) (by omega)
  obtain ⟨i,rfl⟩:∃ i:Nat,y=i:=⟨y.toNat,by omega⟩
  have hi:i<k:=by omega
  obtain ⟨x,hx,hn⟩:=nth_ints (l:=l) (i:=i) (by omega)
  have hg:w.h.get b=some (.cells (l.map fun x=>AV.int .i64 x) sz):=by rw [sw.same b (by omega) hbd];exact hb
  simp (disch:=first|omega|(with_unfolding_all exact rfl)|(simp only[new_n,put_n,new_m];omega)|(refine put_m_le ?_;simp only[new_m];omega)) only [res22,K22r0,K22r1,K22r2,K22r3,K22,Abs.W,reduceIte,Nat.reduceEqDiff,Nat.reduceAdd,decide_true,decide_false,kLoop_def,Nat.reduceSub,List.cons_append,List.nil_append,List.append_nil,List.length_cons,List.length_nil,ixs_slice _ _ _ _ _ _ _ _ hi,Nat.mul_one,Nat.zero_add,hg,hn]
  exact ⟨_,_,rfl,sw,rfl,⟨x,rfl,hx⟩,dw⟩) (by omega)
 exact ⟨x,t,hr.symm.trans e,st,hd',hx⟩
theorem span_ex {N d:Nat} {lo hi:Int} {s:St} {r:ARes} (hr:call Try.prog X N (.fn 20) [.ptr d 0,.int .i64 lo,.int .i64 hi] s=r) (hN:4≤N) (hd:Die d s.h) (hlt:d<s.n) (hs:s.n+300≤far)
  (h0 : -1000000≤lo) (h1:lo≤hi) (h2:hi≤1000000) :
  ∃ a b t,r=.val (.agg [.int .i64 a,.int .i64 b]) t∧Stir d s t 2∧Die d t.h∧lo≤a∧a≤b∧b≤hi:=by
 obtain ⟨m,rfl⟩:∃ m,N=m+1:=⟨N - 1,by omega⟩
 have hf:far=1000000000:=rfl
 obtain ⟨v,t,e,st,⟨a,b,rfl,x0,x1,x2⟩,hd'⟩:=call_stir_plain (n:=m) (args:=[.ptr d 0,.int .i64 lo,.int .i64 hi]) (d:=d) (k:=2) (Q:=fun v=>∃ a b,v=.agg [.int .i64 a,.int .i64 b]∧lo≤a∧a≤b∧b≤hi) (R:=Die d) Try.func20 hd (fun u uh un um=>by
  rw [← uh] at hd
  have sh:shapeT Try.prog 26=some (some 2):=by kernel_rfl
  rw [enter20]
  simp (disch:=first|omega|(with_unfolding_all exact rfl)|(simp only[new_n,put_n,new_m];omega)|(refine put_m_le ?_;simp only[new_m];omega)) only [res20,K20r0,K20r1,K20r2,K20r3,K20,Abs.W,reduceIte,Nat.reduceEqDiff,Nat.reduceAdd,decide_true,decide_false,kLoop_def,Nat.reduceSub,List.cons_append,List.nil_append,List.append_nil,List.length_cons,List.length_nil]
  generalize hc:call _ _ _ (.fn 21) _ _=r1
  obtain ⟨x,w,rfl,sw,dw,y0,y1⟩:=from_ex hc (by omega) (by obtain ⟨f,hg⟩:=hd;exact ⟨f,by rw [get_new_ne _ _ _ (by omega)];exact hg⟩) (by simp only [new_n];omega) (by simp only [new_n];omega) (by omega) (by omega) (by omega) (by omega)
  have wn:=sw.n
  have wl:=sw.le
  simp only [new_n] at wn wl
  have a1:∀ s,aAdd s .i64 x 4=.val (.int .i64 (x+4)) s:=fun s=>aAdd_i64 s _ _ (by omega)
  simp (disch:=first|omega|(with_unfolding_all exact rfl)|(simp only[new_n,put_n,new_m];omega)|(refine put_m_le ?_;simp only[new_m];omega)) only [res20,K20r0,K20r1,K20r2,K20r3,K20,Abs.W,reduceIte,Nat.reduceEqDiff,Nat.reduceAdd,decide_true,decide_false,kLoop_def,Nat.reduceSub,List.cons_append,List.nil_append,List.append_nil,List.length_cons,List.length_nil,a1,kFold_def,foldA_nil,foldA_cons,minA_i64]
  generalize hc2:call _ _ _ (.fn 22) _ _=r2
  obtain ⟨y,w2,rfl,sw2,dw2,ym⟩:=one_ex [x,min hi (x+4),hi] hc2 (by omega) (by obtain ⟨f,hg⟩:=dw;exact ⟨f,by rw [get_new_ne _ _ _ (by omega)];exact hg⟩) (by simp only [new_n];omega) (by simp only [new_n];omega) (get_new_eq _ _ _ rfl (by omega)) (by simp only [new_n];omega) (by omega) rfl (by omega) (by omega)
  have wn2:=sw2.n
  have wl2:=sw2.le
  simp only [new_n] at wn2 wl2
  have ym':x≤y∧y≤hi:=by
   simp only [List.mem_cons,List.not_mem_nil,or_false] at ym
   omega
  simp (disch:=first|omega|(with_unfolding_all exact rfl)|(simp only[new_n,put_n,new_m];omega)|(refine put_m_le ?_;simp only[new_m];omega)) only [res20,K20r0,K20r1,K20r2,K20r3,K20,Abs.W,reduceIte,Nat.reduceEqDiff,Nat.reduceAdd,decide_true,decide_false,kLoop_def,Nat.reduceSub,List.cons_append,List.nil_append,List.append_nil,List.length_cons,List.length_nil]
  generalize hc3:call _ _ _ (.fn 21) _ _=r3
  obtain ⟨z,w3,rfl,sw3,dw3,z0,z1⟩:=from_ex hc3 (by omega) dw2 (by omega) (by omega) (by omega) (by omega) (by omega) (by omega)
  have wn3:=sw3.n
  have wl3:=sw3.le
  have g:w3.h.get u.n=some (.cells [.int .i64 0,.int .i64 0] (tag 26)):=by
   rw [sw3.same _ (by omega) (by omega),sw2.same _ (by simp only [new_n];omega) (by omega),get_new_ne _ _ _ (by omega),sw.same _ (by simp only [new_n];omega) (by omega)]
   exact get_new_eq _ _ _ rfl (by omega)
  simp (disch:=first|omega|(with_unfolding_all exact rfl)|(simp only[new_n,put_n,new_m];omega)|(refine put_m_le ?_;simp only[new_m];omega)) only [res20,K20r0,K20r1,K20r2,K20r3,K20,Abs.W,reduceIte,Nat.reduceEqDiff,Nat.reduceAdd,decide_true,decide_false,kLoop_def,Nat.reduceSub,List.cons_append,List.nil_append,List.append_nil,List.length_cons,List.length_nil,g]
  have S1:Stir d u w3 2:=((((((Stir.refl d u).new _).trans sw).new _).trans sw2).trans sw3)
  refine ⟨_,_,leave_cell _ _ _ _ sh ?_,S1.put (by omega) _ (.inr (Nat.le_refl _)),rfl,⟨x,z,rfl,by omega,by omega,by omega⟩,?_⟩
  ·simp (disch:=first|omega|(with_unfolding_all exact rfl)|(simp only[new_n,put_n,new_m];omega)|(refine put_m_le ?_;simp only[new_m];omega)) only [Abs.W,reduceIte,Nat.reduceEqDiff,Nat.reduceAdd,decide_true,decide_false,kLoop_def,Nat.reduceSub,List.cons_append,List.nil_append,List.append_nil,List.length_cons,List.length_nil]
  ·obtain ⟨f,hg⟩:=dw3
   exact ⟨f,by rw [get_put_ne' _ _ _ _ (by omega)];exact hg⟩) (by omega)
 exact ⟨a,b,t,hr.symm.trans e,st,hd',x0,x1,x2⟩
end Go.Proofs.Ytlfalcghhckanab.walk
set_option maxRecDepth 10000
namespace Go.Proofs.Ytlfalcghhckanab.walk
open Go.Abs Go.Proofs.Ytlfalcghhckanab.code
end Go.Proofs.Ytlfalcghhckanab.walk
