/- At which place in its wishes a stall stands; which one it has. -/
import Derived.Test.YtbcjojljiochfaaM6
import Derived.Test.YtbcjojljiochfaaCodes
import Derived.Test.YtbcjojljiochfaaM2
import Derived.Test.YtbcjojljiochfaaM4
import Derived.Test.YtbcjojljiochfaaWalkAll
set_option linter.unusedSimpArgs false
set_option maxHeartbeats 16000000
set_option linter.unusedVariables false
set_option maxRecDepth 10000
namespace Go.Proofs.Ytbcjojljiochfaa.walk
open Go.Abs Go.Proofs.Ytbcjojljiochfaa.code
theorem idx_at {l:List Int} {x:Int} {i:Nat} (hi:i<l.length) (hx:l[i]=x) (h:∀ y ∈ l.take i,y≠x):l.idxOf x=i:=by
 have e:l=l.take i++l[i]::l.drop (i+1):=(take_split hi).symm
 have hn:x ∉ l.take i:=fun hm=>h x hm rfl
 rw [e,List.idxOf_append,if_neg hn,hx,List.idxOf_cons_self,List.length_take]
 omega
theorem idx_none' {l:List Int} {x:Int} (h:∀ y ∈ l,y≠x):l.idxOf x=l.length:=List.idxOf_eq_length fun hm=>h x hm rfl
theorem wish_ok (N:Nat) (hN:1≤N) {no:Nat→Prop} {a b bv wv:AV} {wl:List Int} {st:Int} {s:St} (hR:Sl no s.h s.n 1 (intRows wl) wv) (hl:wl.length≤8) (hs:s.n+100≤far) :
  call Try.prog X N (.fn 30) [.agg [a,b,wv,bv],.int .i64 st] s=.val (.int .i64 (wl.idxOf st:Nat)) s:=by
 obtain ⟨n,rfl⟩:∃ n,N=n+1:=⟨N - 1,by omega⟩
 refine call_plain' Try.func30 (fun u uh un um=>?_) rfl
 have hf:far=1000000000:=rfl
 rw [← uh,← un] at hR
 obtain ⟨w,hw⟩:∃ w:St,w=u.new (.cells [a,b,wv,bv] (tag 37)):=⟨_,rfl⟩
 have wn:w.n=u.n+1:=by rw [hw];rfl
 have wm:w.m=far:=by rw [hw];exact um
 have wg:∀ c,c<u.n→w.h.get c=u.h.get c:=fun c hc=>by rw [hw,get_new_ne _ _ _ (by omega)]
 have w0:w.h.get u.n=some (.cells [a,b,wv,bv] (tag 37)):=by rw [hw];exact get_new_eq _ _ _ rfl (by omega)
 have hRw:=hR.grow wg (by omega:u.n≤w.n)
 have kv:=hRw.okA
 have lv:=rowLen hRw.at_
 rw [enter30]
 simp (disch:=first|omega|(with_unfolding_all exact rfl)|(simp only[new_n,put_n,new_m];omega)|(refine put_m_le ?_;simp only[new_m];omega)) only [K30,K30r0,Abs.W,reduceIte,Nat.reduceEqDiff,Nat.reduceAdd,decide_true,decide_false,kLoop_def,Nat.reduceSub,List.cons_append,List.nil_append,List.append_nil,List.length_cons,List.length_nil]
 rw [← hw]
 simp (disch:=first|omega|(with_unfolding_all exact rfl)|(simp only[new_n,put_n,new_m];omega)|(refine put_m_le ?_;simp only[new_m];omega)) only [K30r1,Abs.W,reduceIte,Nat.reduceEqDiff,Nat.reduceAdd,decide_true,decide_false,kLoop_def,Nat.reduceSub,List.cons_append,List.nil_append,List.append_nil,List.length_cons,List.length_nil,Env.find_set]
 generalize hlp:loopN _ rounds _ _ _ _ _=q1
 obtain ⟨e,L1,s1,rfl,rfl,hQ⟩:=loop_of hlp (fun i L t=>t=w∧L.find 1=.int .i64 st∧L.find 2=.ptr u.n 0∧L.find 5=.int .i64 (i:Nat)∧∀ y ∈ wl.take i,y≠st)
  (fun e L t=>t=w∧((e=.ret∧L.find 4=.int .i64 (wl.idxOf st:Nat))∨(e=.exit 0∧L.find 2=.ptr u.n 0∧wl.idxOf st=wl.length))) wl.length (by unfold rounds;omega)
  ⟨rfl,by simp only [find_cons,Env.find_set,reduceIte,Nat.reduceEqDiff],by simp only [find_cons,Env.find_set,reduceIte,Nat.reduceEqDiff],by simp only [find_cons,Env.find_set,reduceIte,Nat.reduceEqDiff];rfl,by simp⟩
  (fun i L t hi ⟨ht,q1,q2,q5,hx⟩=>by
   subst ht
   by_cases hlt:i<wl.length
   ·have e0:decide ((i:Int)<(wl.length:Int))=true:=decide_eq_true (by omega)
    obtain ⟨b1,p1,c1,sz1,r1,r2,r3,r4⟩:=rowInt hRw.at_ hlt
    have ad:∀ s,aAdd s .i64 (i:Int) 1=.val (.int .i64 ((i:Int)+1)) s:=fun s=>aAdd_i64 s _ _ (by omega)
    by_cases he:wl[i]=st
    ·have e1:decide (wl[i]=st)=true:=decide_eq_true he
     refine .inr ⟨.ret,_,t,by simp,by
      simp (disch:=first|omega|(with_unfolding_all exact rfl)|(simp only[new_n,put_n,new_m];omega)|(refine put_m_le ?_;simp only[new_m];omega)) only [K30l0,K30r2,K30r3,K30r4,Abs.W,reduceIte,Nat.reduceEqDiff,Nat.reduceAdd,decide_true,decide_false,kLoop_def,Nat.reduceSub,List.cons_append,List.nil_append,List.append_nil,List.length_cons,List.length_nil,Env.find_set,q1,q2,q5,w0,kv,lv,e0,r2,r3,r4,e1,Nat.zero_add]
      rfl,rfl,.inl ⟨rfl,by rw [idx_at hlt he hx];simp only [Env.find_set,reduceIte,Nat.reduceEqDiff]⟩⟩
    ·have e1:decide (wl[i]=st)=false:=decide_eq_false he
     refine .inl ⟨hlt,_,t,by
      simp (disch:=first|omega|(with_unfolding_all exact rfl)|(simp only[new_n,put_n,new_m];omega)|(refine put_m_le ?_;simp only[new_m];omega)) only [K30l0,K30r2,K30r3,K30r5,Abs.W,reduceIte,Nat.reduceEqDiff,Nat.reduceAdd,decide_true,decide_false,kLoop_def,Nat.reduceSub,List.cons_append,List.nil_append,List.append_nil,List.length_cons,List.length_nil,Env.find_set,q1,q2,q5,w0,kv,lv,e0,r2,r3,r4,e1,ad,Nat.zero_add]
      rfl,rfl,?_,?_,?_,?_⟩
     ·simp only [Env.find_set,q1,reduceIte,Nat.reduceEqDiff]
     ·simp only [Env.find_set,q2,reduceIte,Nat.reduceEqDiff]
     ·simp only [Env.find_set,reduceIte,Nat.reduceEqDiff];rfl
     ·intro y hy
      rw [take_snoc hlt] at hy
      rcases List.mem_append.mp hy with h | h
      ·exact hx y h
      ·rw [List.mem_singleton.mp h];exact he
   ·obtain rfl:i=wl.length:=by omega
    have e0:decide ((wl.length:Int)<(wl.length:Int))=false:=by simp
    rw [List.take_length] at hx
    refine .inr ⟨.exit 0,L.set 10 (.bool false),t,by simp,?_,rfl,.inr ⟨rfl,?_,idx_none' hx⟩⟩
    ·simp (disch:=first|omega|(with_unfolding_all exact rfl)|(simp only[new_n,put_n,new_m];omega)|(refine put_m_le ?_;simp only[new_m];omega)) only [K30l0,K30r2,Abs.W,reduceIte,Nat.reduceEqDiff,Nat.reduceAdd,decide_true,decide_false,kLoop_def,Nat.reduceSub,List.cons_append,List.nil_append,List.append_nil,List.length_cons,List.length_nil,Env.find_set,q1,q2,q5,w0,kv,lv,e0,Nat.zero_add]
    ·simp only [Env.find_set,q2,reduceIte,Nat.reduceEqDiff])
 rcases hQ with ⟨rfl,h4⟩ | ⟨rfl,h2,h3⟩
 ·simp (disch:=first|omega|(with_unfolding_all exact rfl)|(simp only[new_n,put_n,new_m];omega)|(refine put_m_le ?_;simp only[new_m];omega)) only [res30,Abs.W,reduceIte,Nat.reduceEqDiff,Nat.reduceAdd,decide_true,decide_false,kLoop_def,Nat.reduceSub,List.cons_append,List.nil_append,List.append_nil,List.length_cons,List.length_nil,Env.find_set,h4]
  exact ⟨_,rfl,by omega⟩
 ·rw [h3]
  simp (disch:=first|omega|(with_unfolding_all exact rfl)|(simp only[new_n,put_n,new_m];omega)|(refine put_m_le ?_;simp only[new_m];omega)) only [K30r6,res30,Abs.W,reduceIte,Nat.reduceEqDiff,Nat.reduceAdd,decide_true,decide_false,kLoop_def,Nat.reduceSub,List.cons_append,List.nil_append,List.append_nil,List.length_cons,List.length_nil,Env.find_set,h2,w0,kv,lv,Nat.zero_add]
  exact ⟨_,rfl,by omega⟩
end Go.Proofs.Ytbcjojljiochfaa.walk
set_option maxRecDepth 10000
namespace Go.Proofs.Ytbcjojljiochfaa.walk
open Go.Abs Go.Proofs.Ytbcjojljiochfaa.code
def hcell (hs:List Int):List AV:=(intRows hs).flatten
theorem hcell_wide (hs:List Int):∀ r ∈ intRows hs,r.length=1:=fun r hr=>by
 unfold intRows at hr
 obtain ⟨x,_,rfl⟩:=List.mem_map.mp hr
 rfl
theorem hcell_nth {hs:List Int} {i:Nat} (h:i<hs.length):nth (hcell hs) i=.int .i64 (hs.getD i (-1)):=by
 have h2:i<(intRows hs).length:=by unfold intRows;rw [List.length_map];exact h
 have:=flatten_cut (hcell_wide hs) h2
 rw [Nat.mul_one] at this
 refine cut1_nth (this.trans ?_)
 have e:∀ (l:List (List AV)) (e:l=hs.map fun x=>[.int .i64 x]) (hi:i<l.length),l[i]=[.int .i64 (hs.getD i (-1))]:=fun l e hi=>by subst e;simp [List.getD,h]
 exact congrArg some (e _ rfl h2)
theorem hcell_over {hs:List Int} {i:Nat} (h:i<hs.length) (x:Int):over i [.int .i64 x] (hcell hs)=some (hcell (hs.set i x)):=by
 have h2:i<(intRows hs).length:=by unfold intRows;rw [List.length_map];exact h
 have:=over_flatten (row:=[.int .i64 x]) (hcell_wide hs) h2 rfl
 rw [Nat.mul_one] at this
 unfold hcell
 rw [this]
 congr 2
 unfold intRows
 rw [List.map_set]
def Held (l:Letting) (st:Nat) (h:Int):Prop:=h = -1∨∃ b:Nat,h=b∧b ∈ ableL l st
structure Dis (lb pr ph bh pw p8 b:Nat):Prop where
 l5:pr≠lb
 l6:ph≠lb
 lh:bh≠lb
 lw:pw≠lb
 l8:p8≠lb
 ll:b≠lb
 h5:pr≠bh
 h6:ph≠bh
 h8:p8≠bh
 w5:pr≠pw
 w6:ph≠pw
 wh:bh≠pw
 w8:p8≠pw
 b5:pr≠b
 b6:ph≠b
 bh':bh≠b
 bw:pw≠b
 b8:p8≠b
theorem offer_body (M:Nat) (hM:1≤M) {l:Letting} (cx:Ctx) {t:St} {O:AObj} {lb pr ph bh pw p8 b bm lo nr k a st u0 z5 z6 zh z7 z8:Nat} {vr vq:AV} {hs:List Int} {r:List Nat} {L1:Env}
  (f5:L1.find 5=.ptr pr 0) (f6:L1.find 6=.ptr ph 0) (f7:L1.find 7=.ptr pw 0) (f8:L1.find 8=.ptr p8 0) (f9:L1.find 9=.int .i64 (st:Int))
  (g5:t.h.get pr=some (.cells [vr] z5)) (hR:RkS t.h nr bm lo l k vr) (g6:t.h.get ph=some (.cells [.slice bh 0 k k false] z6)) (gh:t.h.get bh=some (.cells (hcell hs) zh)) (hk:hs.length=k) (g7:t.h.get pw=some (.cells [vq] z7)) (hQ:QAt t.h t.n b r vq) (g8:t.h.get p8=some (.cells [.int .i64 (a:Int)] z8))
  (d1:nr≤lb) (d2:bm<nr→lo≤bm) (d3:nr≤t.n) (dd:Dis lb pr ph bh pw p8 b) (dl:lb<t.n) (dh:bh<t.n) (dw:pw<t.n) (dp:ph<t.n)
  (hst:st<k) (ha:a ∈ ableL l st) (hh:Held l st (hs.getD st (-1))) (hr:r.length≤100) (hs':t.n+200≤far) (u1:u0≤lb) (u2:u0≤bh) (u3:u0≤pw) (u4:u0≤b) (u5:u0≤t.m) :
  ∃ e L2 t2,K18b0 (call Try.prog X M) cx L1 [] (t.put lb O)=.done e L2 [] t2 ∧
   ((betterB l st a (hs.getD st (-1))=false∧e=.norm∧t2=t.put lb O)∨(betterB l st a (hs.getD st (-1))=true∧e=.exit 1∧t2.h.get bh=some (.cells (hcell (hs.set st a)) zh)∧∃ vq' b',t2.h.get pw=some (.cells [vq'] z7)∧QAt t2.h t2.n b' (Mkt.behind r (hs.getD st (-1))) vq'∧(b'=b∨t.n≤b'))) ∧
   t2.h.get lb=some O∧(∀ y,y<t.n→y≠lb→y≠bh→y≠pw→y≠b→t2.h.get y=t.h.get y)∧t.n≤t2.n∧t2.n≤t.n+10∧u0≤t2.m∧t2.m≤t.m:=by
 have hf:far=1000000000:=rfl
 obtain ⟨z,hz⟩:∃ z:St,z=t.put lb O:=⟨_,rfl⟩
 have zn:z.n=t.n:=by rw [hz];rfl
 have zm:z.m=min t.m lb:=by rw [hz];simp only [St.put,minN_eq]
 have zg:∀ c,c≠lb→z.h.get c=t.h.get c:=fun c hc=>by rw [hz,get_put_ne' _ _ _ _ hc]
 have zl:z.h.get lb=some O:=by rw [hz];exact get_put_eq _ _ _ _ rfl (by omega)
 have y5:=(zg pr dd.l5).trans g5
 have y6:=(zg ph dd.l6).trans g6
 have yh:=(zg bh dd.lh).trans gh
 have y7:=(zg pw dd.lw).trans g7
 have y8:=(zg p8 dd.l8).trans g8
 have hRz:RkS z.h z.n bm lo l k vr:=hR.move d2 (fun c h1 _=>zg c (by omega)) (by omega)
 have hQz:QAt z.h z.n b r vq:=hQ.move (zg b dd.ll) (by omega)
 have kvr:=hRz.okA
 have kvq:=hQz.okA
 have bo:=better_ok M hM hRz hst ha hh (by omega)
 have ix:=fun s=>ixs_slice 1 s bh 0 k k false st hst
 have nt:=hcell_nth (hs:=hs) (i:=st) (by omega)
 have ov:=hcell_over (hs:=hs) (i:=st) (by omega) (a:Int)
 obtain ⟨hv,hhv⟩:∃ hv,hv=hs.getD st (-1):=⟨_,rfl⟩
 rw [← hhv] at nt bo hh ⊢
 rw [← hz]
 have n1:∀ s (c:Bool),notA s (.bool c)=.val (.bool !c) s:=fun _ _=>rfl
 cases hb:betterB l st a hv with
 | false =>
  rw [hb] at bo
  simp (disch:=first|omega|(with_unfolding_all exact rfl)|(simp only[new_n,put_n,new_m];omega)|(refine put_m_le ?_;simp only[new_m];omega)) only [K18b0,K18b0r0,K18b0r1,Abs.W,reduceIte,Nat.reduceEqDiff,Nat.reduceAdd,decide_true,decide_false,kLoop_def,Nat.reduceSub,List.cons_append,List.nil_append,List.append_nil,List.length_cons,List.length_nil,Env.find_set,f5,f6,f7,f8,f9,y5,y6,yh,y7,y8,kvr,kvq,ix,nt,bo,n1,Nat.zero_add,Nat.mul_one]
  exact ⟨_,_,_,rfl,.inl ⟨trivial,rfl,rfl⟩,zl,fun y h1 h2 _ _ _=>zg y h2,by omega,by omega,by omega,by omega⟩
 | true =>
  rw [hb] at bo
  obtain ⟨y,hy⟩:∃ y:St,y=z.put bh (.cells (hcell (hs.set st a)) zh):=⟨_,rfl⟩
  have yn:y.n=z.n:=by rw [hy,put_n]
  have ym:y.m=min z.m bh:=by rw [hy];simp only [St.put,minN_eq]
  have yg:∀ c,c≠bh→y.h.get c=z.h.get c:=fun c hc=>by rw [hy,get_put_ne' _ _ _ _ hc]
  have ygh:y.h.get bh=some (.cells (hcell (hs.set st a)) zh):=by rw [hy];exact get_put_eq _ _ _ _ rfl (by omega)
  have w7:=(yg pw dd.wh.symm).trans y7
  have hQy:QAt y.h y.n b r vq:=hQz.move (yg b dd.bh'.symm) (by omega)
  rcases hh with rfl | ⟨c,rfl,hc⟩
  ·have e0:decide ((-1:Int) ≠ -1)=false:=rfl
   simp (disch:=first|omega|(with_unfolding_all exact rfl)|(simp only[new_n,put_n,new_m];omega)|(refine put_m_le ?_;simp only[new_m];omega)) only [K18b0,K18b0r0,K18b0r1,K18b0r2,K18b0r3,Abs.W,reduceIte,Nat.reduceEqDiff,Nat.reduceAdd,decide_true,decide_false,kLoop_def,Nat.reduceSub,List.cons_append,List.nil_append,List.append_nil,List.length_cons,List.length_nil,Env.find_set,f5,f6,f7,f8,f9,y5,y6,yh,y7,y8,kvr,kvq,ix,nt,bo,n1,ov,Nat.zero_add,Nat.mul_one]
   rw [← hy]
   simp (disch:=first|omega|(with_unfolding_all exact rfl)|(simp only[new_n,put_n,new_m];omega)|(refine put_m_le ?_;simp only[new_m];omega)) only [Abs.W,reduceIte,Nat.reduceEqDiff,Nat.reduceAdd,decide_true,decide_false,kLoop_def,Nat.reduceSub,List.cons_append,List.nil_append,List.append_nil,List.length_cons,List.length_nil,blkR_pass]
   exact ⟨_,_,_,rfl,.inr ⟨trivial,rfl,ygh,vq,b,w7,hQy,.inl rfl⟩,(yg lb dd.lh.symm).trans zl,fun y h1 h2 h3 _ _=>(yg y h3).trans (zg y h2),by omega,by omega,by omega,by omega⟩
  ·have e0:decide ((c:Int) = -1)=false:=decide_eq_false (by omega)
   obtain ⟨x,hx⟩:∃ x:St,x=y.new (.cells [.int .i64 (c:Int)] 0):=⟨_,rfl⟩
   have xn:x.n=y.n+1:=by rw [hx];rfl
   have xm:x.m=y.m:=by rw [hx];rfl
   have xg:∀ c,c<y.n→x.h.get c=y.h.get c:=fun c hc=>by rw [hx,get_new_ne _ _ _ (by omega)]
   have xp:x.h.get y.n=some (.cells [.int .i64 (c:Int)] 0):=by rw [hx];exact get_new_eq _ _ _ rfl (by omega)
   obtain ⟨vq',s7,e7,hQ7,n7,g7',m7,m7'⟩:=(hQy.move (h':=x.h) (n':=x.n) (xg b hQy.1) (by omega)).push xp (by omega) (by omega)
   have hQ7':=hQ7.scal
   rw [hx] at e7
   have xw:=(g7' pw (by omega) dd.bw).trans ((xg pw (by omega)).trans w7)
   have eb:Mkt.behind r ((c:Int))=r++[c]:=by
    unfold Mkt.behind
    rw [if_neg (by omega),Int.toNat_natCast]
   rw [eb]
   have bb:=hQy.1
   simp (disch:=first|omega|(with_unfolding_all exact rfl)|(simp only[new_n,put_n,new_m];omega)|(refine put_m_le ?_;simp only[new_m];omega)) only [K18b0,K18b0r0,K18b0r1,K18b0r2,K18b0r3,K18b0r4,Abs.W,reduceIte,Nat.reduceEqDiff,Nat.reduceAdd,decide_true,decide_false,kLoop_def,Nat.reduceSub,List.cons_append,List.nil_append,List.append_nil,List.length_cons,List.length_nil,Env.find_set,f5,f6,f7,f8,f9,y5,y6,yh,y7,y8,kvr,kvq,ix,nt,bo,n1,ov,e0,Nat.zero_add,Nat.mul_one]
   rw [← hy]
   simp (disch:=first|omega|(with_unfolding_all exact rfl)|(simp only[new_n,put_n,new_m];omega)|(refine put_m_le ?_;simp only[new_m];omega)) only [Abs.W,reduceIte,Nat.reduceEqDiff,Nat.reduceAdd,decide_true,decide_false,kLoop_def,Nat.reduceSub,List.cons_append,List.nil_append,List.append_nil,List.length_cons,List.length_nil,blkR_pass,Env.find_set,f7,w7,kvq,e7,xw,hQ7'.1,hQ7'.2,Nat.zero_add]
   refine ⟨_,_,_,rfl,.inr ⟨trivial,rfl,?_,vq',x.n,get_put_eq _ _ _ _ rfl (by omega),hQ7.move (get_put_ne' _ _ _ _ (by omega)) (by rw [put_n];omega),.inr (by omega)⟩,?_,fun c h1 h2 h3 h4 h5=>?_,by rw [put_n];omega,by rw [put_n];omega,by simp only [St.put,minN_eq];omega,by simp only [St.put,minN_eq];omega⟩
   ·rw [get_put_ne' _ _ _ _ dd.wh,g7' bh (by omega) dd.bh',xg bh (by omega)];exact ygh
   ·rw [get_put_ne' _ _ _ _ dd.lw.symm,g7' lb (by omega) dd.ll.symm,xg lb (by omega),yg lb dd.lh.symm];exact zl
   ·rw [get_put_ne' _ _ _ _ h4,g7' c (by omega) h5,xg c (by omega),yg c h3];exact zg c h2
end Go.Proofs.Ytbcjojljiochfaa.walk
set_option maxRecDepth 10000
namespace Go.Proofs.Ytbcjojljiochfaa.walk
open Go.Abs Go.Proofs.Ytbcjojljiochfaa.code
def holdF (hs:List Int):Nat→Int:=fun s=>hs.getD s (-1)
theorem holdF_set {hs:List Int} {s:Nat} (h:s<hs.length) (a:Int):holdF (hs.set s a)=Mkt.upd (holdF hs) s a:=by
 funext t
 unfold holdF Mkt.upd
 by_cases e:t=s
 ·subst e
  rw [if_pos rfl]
  simp [List.getD,h]
 ·rw [if_neg e]
  simp [List.getD,List.getElem?_set_ne (Ne.symm e)]
structure OfferB (no na:Nat→Prop) (w:St) (u0 nr bm pr bh ph b0 pw z5 z6:Nat) (l:Letting) (vS vA vr:AV):Prop where
 box:w.h.get u0=some (.cells [vS,vA] (tag 28))
 lt:LetAt no na w.h u0 l vS vA
 g5:w.h.get pr=some (.cells [vr] z5)
 rk:RkS w.h nr bm (u0+1) l l.stalls.length vr
 rb:bm<nr→u0+1≤bm
 g6:w.h.get ph=some (.cells [.slice bh 0 l.stalls.length l.stalls.length false] z6)
 o0:u0<pr
 o1:nr≤pr
 o2:pr<bh
 o3:bh<ph
 o4:ph<b0
 o5:b0<pw
 o6:pw<w.n
structure OfferJ (w t:St) (u0 bh b0 pw zh z7:Nat) (l:Letting) (hs:List Int) (q:List Nat) (d:List Nat) (kk:Nat):Prop where
 gh:t.h.get bh=some (.cells (hcell hs) zh)
 hk:hs.length=l.stalls.length
 qu:∃ vq b,t.h.get pw=some (.cells [vq] z7)∧QAt t.h t.n b q vq∧(b=b0∨w.n≤b)
 same:∀ c,c<w.n→c≠bh→c≠pw→c≠b0→t.h.get c=w.h.get c
 n:w.n≤t.n
 le:t.n≤w.n+kk
 m:u0≤t.m
 ml:t.m≤far
 dd:∀ c ∈ d,w.n≤c∧c<t.n∧t.h.get c=some .dfr
 dn:d.Nodup
theorem rnd_le {a b c d e:Nat} (h1:a≤b+2+10 * (10+2000)) (h2:b=c+3) (h3:c≤d+e):a≤d+(e+30000):=by
 rw [← Nat.add_assoc]
 omega
theorem offer_round (M:Nat) (hM:1≤M) {no na:Nat→Prop} {w t:St} {u0 nr bm pr bh ph b0 pw z5 z6 zh z7 kk a:Nat} {l:Letting} {vS vA vr:AV} {hs:List Int} {r d:List Nat} {L:Env} (ok:l.Ok) (B:OfferB no na w u0 nr bm pr bh ph b0 pw z5 z6 l vS vA vr) (J:OfferJ w t u0 bh b0 pw zh z7 l hs (a::r) d kk) (I:(mktOf l).Inv (holdF hs) (a::r)) (hr:r.length≤90)
  (f1:L.find 1=.ptr u0 0) (f5:L.find 5=.ptr pr 0) (f6:L.find 6=.ptr ph 0) (f7:L.find 7=.ptr pw 0) (hs':w.n+kk+100000≤far) :
  ∃ L1 d1 t1 hs1 q1,K18l0 (call Try.prog X (M+4)) ⟨18,none,Try.f18.ntmps,X 18⟩ L d t=.done .norm L1 d1 t1∧OfferJ w t1 u0 bh b0 pw zh z7 l hs1 q1 d1 (kk+30000)∧(mktOf l).Inv (holdF hs1) q1∧(mktOf l).meas (holdF hs1) q1+1≤(mktOf l).meas (holdF hs) (a::r)∧L1.find 1=.ptr u0 0∧L1.find 5=.ptr pr 0∧L1.find 6=.ptr ph 0∧L1.find 7=.ptr pw 0:=by
 have hf:far=1000000000:=rfl
 obtain ⟨box,hL,g5,rk,rb,g6,o0,o1,o2,o3,o4,o5,o6⟩:=B
 obtain ⟨gh,hk,⟨vq,b,gw,hQ,hb⟩,same,jn,jle,jm,jml,dd,dn⟩:=J
 have ha:a<l.appls.length:=(I.qn a (List.mem_cons_self ..)).1
 have kS:=hL.okS
 have kA:=hL.okV
 have kq:=hQ.okA
 have lq:=hQ.len
 have e0:decide ((0:Int)<((r.length+1:Nat):Int))=true:=decide_eq_true (by omega)
 obtain ⟨o,cq,zq,h1,h2,h3⟩:=hQ.head
 obtain ⟨v',t1,hQ'⟩:=hQ.tail
 have bl:=hQ.1
 have sc:=hQ'.scal
 have kq':=hQ'.okA
 obtain ⟨y1,hy1⟩:∃ y1:St,y1=(t.new (.cells [.int .i64 0] (tag 3))).put t.n (.cells [.int .i64 (a:Int)] (tag 3)):=⟨_,rfl⟩
 have y1n:y1.n=t.n+1:=by rw [hy1];rfl
 have y1m:y1.m=min t.m t.n:=by rw [hy1];simp only [St.put,minN_eq,new_m]
 have y1g:∀ c,c<t.n→y1.h.get c=t.h.get c:=fun c hc=>by rw [hy1,get_put_ne' _ _ _ _ (by omega),get_new_ne _ _ _ (by omega)]
 have y1p:y1.h.get t.n=some (.cells [.int .i64 (a:Int)] (tag 3)):=by rw [hy1];exact get_put_eq _ _ _ _ rfl (by omega)
 have y1w:=(y1g pw (by omega)).trans gw
 obtain ⟨y2,hy2⟩:∃ y2:St,y2=y1.put pw (.cells [v'] z7):=⟨_,rfl⟩
 have y2n:y2.n=t.n+1:=by rw [hy2,put_n];exact y1n
 have y2m:y2.m=min y1.m pw:=by rw [hy2];simp only [St.put,minN_eq]
 have y2g:∀ c,c<t.n→c≠pw→y2.h.get c=t.h.get c:=fun c hc hw=>by rw [hy2,get_put_ne' _ _ _ _ hw];exact y1g c hc
 have y2w:y2.h.get pw=some (.cells [v'] z7):=by rw [hy2];exact get_put_eq _ _ _ _ rfl (by omega)
 have y2p:y2.h.get t.n=some (.cells [.int .i64 (a:Int)] (tag 3)):=by rw [hy2,get_put_ne' _ _ _ _ (by omega)];exact y1p
 have y20:y2.h.get u0=some (.cells [vS,vA] (tag 28)):=by rw [y2g u0 (by omega) (by omega),same u0 (by omega) (by omega) (by omega) (by omega)];exact box
 have re:=reach_ok (M+4) (by omega) [vS,vA] (a:Int) y2 (by omega)
 obtain ⟨s0,hs0⟩:∃ s0:St,s0=(y2.new (.cells [vS,vA] (tag 28))).new (.cells [.int .i64 (a:Int)] (tag 3)):=⟨_,rfl⟩
 have s0n:s0.n=t.n+3:=by rw [hs0];show y2.n+1+1=_;omega
 have s0m:s0.m=y2.m:=by rw [hs0];rfl
 have s0g:∀ c,c<y2.n→s0.h.get c=y2.h.get c:=fun c hc=>by rw [hs0,get_new_ne _ _ _ (by rw [new_n];omega),get_new_ne _ _ _ (by omega)]
 have s00:s0.h.get (t.n+1)=some (.cells [vS,vA] (tag 28)):=by rw [hs0,get_new_ne _ _ _ (by rw [new_n];omega)];exact get_new_eq _ _ _ (by omega) (by omega)
 have s01:s0.h.get (t.n+2)=some (.cells [.int .i64 (a:Int)] (tag 3)):=by rw [hs0];exact get_new_eq _ _ _ (by rw [new_n];omega) (by rw [new_n];omega)
 rw [← hs0,y2n] at re
 have s0t:∀ c,c<t.n→c≠pw→s0.h.get c=t.h.get c:=fun c hc hw=>(s0g c (by omega)).trans (y2g c hc hw)
 have s0p:=(s0g t.n (by omega)).trans y2p
 have s0w:=(s0g pw (by omega)).trans y2w
 simp (disch:=first|omega|(with_unfolding_all exact rfl)|(simp only[new_n,put_n,new_m];omega)|(refine put_m_le ?_;simp only[new_m];omega)) only [K18l0,K18r7,K18r8,Abs.W,reduceIte,Nat.reduceEqDiff,Nat.reduceAdd,decide_true,decide_false,kLoop_def,Nat.reduceSub,List.cons_append,List.nil_append,List.append_nil,List.length_cons,List.length_nil,Env.find_set,f7,gw,kq,lq,e0,h1,h2,h3,Nat.zero_add]
 rw [← hy1]
 simp (disch:=first|omega|(with_unfolding_all exact rfl)|(simp only[new_n,put_n,new_m];omega)|(refine put_m_le ?_;simp only[new_m];omega)) only [K18r9,Abs.W,reduceIte,Nat.reduceEqDiff,Nat.reduceAdd,decide_true,decide_false,kLoop_def,Nat.reduceSub,List.cons_append,List.nil_append,List.append_nil,List.length_cons,List.length_nil,Env.find_set,f7,y1w,kq,kSlice_def,optEv_some,optEv_none,t1,sc.1,sc.2,Nat.zero_add]
 rw [← hy2]
 simp (disch:=first|omega|(with_unfolding_all exact rfl)|(simp only[new_n,put_n,new_m];omega)|(refine put_m_le ?_;simp only[new_m];omega)) only [K18r10,Abs.W,reduceIte,Nat.reduceEqDiff,Nat.reduceAdd,decide_true,decide_false,kLoop_def,Nat.reduceSub,List.cons_append,List.nil_append,List.append_nil,List.length_cons,List.length_nil,Env.find_set,f1,y20,y2p,kS,kA,re,Nat.zero_add]
 obtain ⟨L0,hL0⟩:∃ L0,L0=Env.set 35 (.func 56 [] [.ptr (t.n+1) 0,.ptr (t.n+1+1) 0]) (Env.set 8 (.ptr t.n 0) (Env.set 27 (.bool true) L)):=⟨_,rfl⟩
 rw [← hL0]
 have k1:L0.find 1=.ptr u0 0:=by rw [hL0];simp only [Env.find_set,f1,reduceIte,Nat.reduceEqDiff]
 have k5:L0.find 5=.ptr pr 0:=by rw [hL0];simp only [Env.find_set,f5,reduceIte,Nat.reduceEqDiff]
 have k6:L0.find 6=.ptr ph 0:=by rw [hL0];simp only [Env.find_set,f6,reduceIte,Nat.reduceEqDiff]
 have k7:L0.find 7=.ptr pw 0:=by rw [hL0];simp only [Env.find_set,f7,reduceIte,Nat.reduceEqDiff]
 have k8:L0.find 8=.ptr t.n 0:=by rw [hL0];simp only [Env.find_set,reduceIte,Nat.reduceEqDiff]
 have k35:L0.find 35=.func 56 [] [.ptr (t.n+1) 0,.ptr (t.n+2) 0]:=by rw [hL0];simp only [Env.find_set,reduceIte,Nat.reduceEqDiff]
 clear hL0 re t1 h1 h2 h3
 have s0u:∀ c,c<u0→s0.h.get c=w.h.get c:=fun c hc=>(s0t c (by omega) (by omega)).trans (same c (by omega) (by omega) (by omega) (by omega))
 have hLb:=hL.bound.move (h':=s0.h) (n':=u0) (no':=fun y=>no y∧y<u0) (na':=fun y=>na y∧y<u0) (fun b h1 h2=>⟨s0u b h1,h2⟩) (fun b h1 h2=>⟨s0u b h1,h2⟩) (Nat.le_refl _)
 have hh:=reach1_hands (N:=M+1) (p1:=t.n+1) (p2:=t.n+2) (H:=s0.h) (rd:=fun y=>y=t.n+1∨y=t.n+2∨(no y∧y<u0)∨(na y∧y<u0)) ok hLb ha s00 s01 (.inl rfl) (.inr (.inl rfl)) (fun y h=>.inr (.inr (.inl h))) (fun y h=>.inr (.inr (.inr h)))
 have rl:∀ y,(y=t.n+1∨y=t.n+2∨(no y∧y<u0)∨(na y∧y<u0))→y=t.n+1∨y=t.n+2∨y<u0:=fun y h=>by
  rcases h with h | h | h | h
  ·exact .inl h
  ·exact .inr (.inl h)
  ·exact .inr (.inr h.2)
  ·exact .inr (.inr h.2)
 have hTm:∀ x ∈ reachOf l.stalls l.appls[a],∃ st:Nat,x.1=st∧st<l.stalls.length∧a ∈ ableL l st:=fun x hx=>by
  rw [← applAt_of ha] at hx
  obtain ⟨st,h1,h2,_⟩:=reach_mem ok ha hx
  refine ⟨st,h1,h2,(able_iff ok ha).mpr (List.mem_map.mpr ⟨x,hx,by rw [h1];exact Int.toNat_natCast st⟩)⟩
 have hRT:(mktOf l).R a=(reachOf l.stalls l.appls[a]).map fun x=>x.1.toNat:=by rw [← applAt_of ha];rfl
 have hbl2:u0<b:=by omega
 have sw:∀ c,c<w.n→c≠bh→c≠pw→c≠b0→s0.h.get c=w.h.get c:=fun c h1 h2 h3 h4=>(s0t c (by omega) h3).trans (same c h1 h2 h3 h4)
 have sb:s0.h.get b=t.h.get b:=s0t b bl (by omega)
 have sh:s0.h.get bh=t.h.get bh:=s0t bh (by omega) (by omega)
 generalize reachOf l.stalls l.appls[a]=T at hh hTm hRT
 obtain ⟨e,s',e1,hE,e3,e4,e5,e6,e7,e8⟩:=hands_range (P:=Try.prog) (X:=X) (M:=M) (Z:=M+4) hh (f:=.tmp 35) (ps:=[36,37]) (c:=⟨18,none,Try.f18.ntmps,X 18⟩) (L:=L0) (d:=d) (s:=s0) rfl (by rw [ev_tmp,k35]) (fun _=>rfl) code18a0 code18b0 10 u0 300 (fun y=>y=bh∨y=pw∨y=b) (fun _ _=>True) (fun _ _ _ _ _=>trivial) (fun _=>trivial)
  (fun p h n=>(∀ x ∈ p,betterB l x.1.toNat a (hs.getD x.1.toNat (-1))=false)∧h.get bh=s0.h.get bh∧h.get pw=s0.h.get pw∧h.get b=s0.h.get b)
  (fun e p x kx h n=>e=.exit 1∧(∀ x ∈ p,betterB l x.1.toNat a (hs.getD x.1.toNat (-1))=false)∧betterB l x.1.toNat a (hs.getD x.1.toNat (-1))=true∧h.get bh=some (.cells (hcell (hs.set x.1.toNat a)) zh)∧∃ vq' b',h.get pw=some (.cells [vq'] z7)∧QAt h n b' (Mkt.behind r (hs.getD x.1.toNat (-1))) vq'∧(b'=b∨kx≤b'))
  (fun y hy=>⟨by have:=rl y hy;omega,rfl⟩) (fun y hy=>⟨fun h=>by have:=rl y h;omega,by omega⟩) (by omega) (by omega) (by omega) (by omega) ⟨(fun _ h=>(by cases h)),rfl,rfl,rfl⟩
  (fun p h h' n n' hb' hn ⟨h0,h1,h2,h3⟩=>⟨h0,(hb' _ (by omega)).trans h1,(hb' _ (by omega)).trans h2,(hb' _ (by omega)).trans h3⟩)
  (fun e p x kx h h' n n' hb' hn ⟨h0,h1,h2,h3,vq',b',h4,h5,h6⟩=>⟨h0,h1,h2,(hb' _ (by omega)).trans h3,vq',b',(hb' _ (by omega)).trans h4,h5.move (hb' _ (by omega)) hn,h6⟩)
  (fun p x rest t' ht ⟨p1,p2,p3,p4⟩ hfr htn htf htm htm' _=>by
   have hmem:x ∈ T:=by rw [← ht];simp
   obtain ⟨st,x1,x2,x3⟩:=hTm x hmem
   obtain ⟨xs,xb⟩:=x
   simp only at x1
   subst x1
   have etn:((st:Int),xb).1.toNat=st:=Int.toNat_natCast st
   have hass:K18a0 (call Try.prog X M) ⟨18,some (s0.n+1),Try.f18.ntmps,X 18⟩ (setParams L0 [36,37] (ev2 ((st:Int),xb))) [] t'=.done .norm (((L0.set 36 (.int .i64 (st:Int))).set 37 (.int .i64 xb)).set 9 (.int .i64 (st:Int))) [] t':=by
    simp (disch:=first|omega|(with_unfolding_all exact rfl)|(simp only[new_n,put_n,new_m];omega)|(refine put_m_le ?_;simp only[new_m];omega)) only [K18a0,K18a0r0,ev2,setParams2,Abs.W,reduceIte,Nat.reduceEqDiff,Nat.reduceAdd,decide_true,decide_false,kLoop_def,Nat.reduceSub,List.cons_append,List.nil_append,List.append_nil,List.length_cons,List.length_nil,Env.find_set,Nat.reduceEqDiff]
   obtain ⟨L1,hL1⟩:∃ L1,L1=(((L0.set 36 (.int .i64 (st:Int))).set 37 (.int .i64 xb)).set 9 (.int .i64 (st:Int))):=⟨_,rfl⟩
   rw [← hL1] at hass
   have l5:L1.find 5=.ptr pr 0:=by rw [hL1];simp only [Env.find_set,k5,reduceIte,Nat.reduceEqDiff]
   have l6:L1.find 6=.ptr ph 0:=by rw [hL1];simp only [Env.find_set,k6,reduceIte,Nat.reduceEqDiff]
   have l7:L1.find 7=.ptr pw 0:=by rw [hL1];simp only [Env.find_set,k7,reduceIte,Nat.reduceEqDiff]
   have l8:L1.find 8=.ptr t.n 0:=by rw [hL1];simp only [Env.find_set,k8,reduceIte,Nat.reduceEqDiff]
   have l9:L1.find 9=.int .i64 (st:Int):=by rw [hL1];simp only [Env.find_set,reduceIte,Nat.reduceEqDiff]
   clear hL1
   have tw:∀ c,c<w.n→c≠bh→c≠pw→c≠b0→t'.h.get c=w.h.get c:=fun c h1 h2 h3 h4=>(hfr c (by omega) (by omega)).trans (sw c h1 h2 h3 h4)
   have held:Held l st (hs.getD st (-1)):=by
    rcases I.form st with h | ⟨c,h⟩
    ·exact .inl h
    ·obtain ⟨q1,q2⟩:=I.hold st c h
     exact .inr ⟨c,h,(able_iff ok q1).mpr q2⟩
   have hR':RkS t'.h nr bm (u0+1) l l.stalls.length vr:=rk.move rb (fun c h1 _=>tw c (by omega) (by omega) (by omega) (by omega)) (Nat.le_refl _)
   obtain ⟨e,L2,t2,b1,b2,b3,b4,b5,b6,b7,b8⟩:=offer_body M hM (cx:=⟨18,some (s0.n+1),Try.f18.ntmps,X 18⟩) (t:=t') (O:=.loop { loopO ⟨18,none,Try.f18.ntmps,X 18⟩ L0 [36,37] (rangeAt Try.f18 0).1 (rangeAt Try.f18 0).2 s0 with state:=.busy }) (lb:=s0.n+1) (b:=b) (u0:=u0) (r:=r) l5 l6 l7 l8 l9
    ((tw pr (by omega) (by omega) (by omega) (by omega)).trans g5) hR' ((tw ph (by omega) (by omega) (by omega) (by omega)).trans g6) (p2.trans (sh.trans gh)) hk (p3.trans s0w) (hQ'.move (p4.trans sb) (by omega)) ((hfr t.n (by omega) (by omega)).trans s0p)
    (by omega) rb (by omega) ⟨by omega,by omega,by omega,by omega,by omega,by omega,by omega,by omega,by omega,by omega,by omega,by omega,by omega,by omega,by omega,by omega,by omega,by omega⟩ (by omega) (by omega) (by omega) (by omega) x2 x3 held (by omega) (by omega) (by omega) (by omega) (by omega) (by omega) htm
   refine ⟨L1,t',e,L2,t2,hass,rfl,b1,fun he=>?_,fun he=>?_,b3,fun y h1 h2 h3=>b4 y h1 h2 (fun h=>h3 (.inl h)) (fun h=>h3 (.inr (.inl h))) (fun h=>h3 (.inr (.inr h))),b5,b6,b7,b8,trivial⟩
   ·rcases b2 with ⟨c1,_,c3⟩ | ⟨_,c2,_⟩
    ·subst c3
     refine ⟨fun y hy=>?_,?_,?_,?_⟩
     ·rcases List.mem_append.mp hy with h | h
      ·exact p1 y h
      ·rw [List.mem_singleton.mp h];exact c1
     ·rw [get_put_ne' _ _ _ _ (by omega)];exact p2
     ·rw [get_put_ne' _ _ _ _ (by omega)];exact p3
     ·rw [get_put_ne' _ _ _ _ (by omega)];exact p4
    ·subst c2;cases he
   ·rcases b2 with ⟨_,c2,_⟩ | ⟨c1,c2,c3,vq',b',c4,c5,c6⟩
    ·exact absurd c2 he
    ·exact ⟨c2,p1,c1,c3,vq',b',c4,c5,c6⟩)
 rw [e1]
 have bnd:∀ c ∈ d,b≠c:=fun c hc e=>by
  obtain ⟨_,o,cc,zz,hg,_⟩:=hQ
  have:=(dd c hc).2.2
  rw [← e,hg] at this
  cases this
 have sd:∀ c ∈ s0.n::d,w.n≤c∧c<s'.n∧s'.h.get c=some .dfr:=fun c hc=>by
  rcases List.mem_cons.mp hc with rfl | hc
  ·exact ⟨by omega,by omega,e4⟩
  ·obtain ⟨c1,c2,c3⟩:=dd c hc
   have c4:=bnd c hc
   refine ⟨c1,by omega,?_⟩
   rw [e3 c (by omega) (by omega),s0t c c2 (by omega)]
   exact c3
 have snd:(s0.n::d).Nodup:=List.nodup_cons.mpr ⟨fun h=>by have:=(dd _ h).2.1;omega,dn⟩
 have ssame:∀ c,c<w.n→c≠bh→c≠pw→c≠b0→s'.h.get c=w.h.get c:=fun c h1 h2 h3 h4=>(e3 c (by omega) (by omega)).trans (sw c h1 h2 h3 h4)
 have hn1:w.n≤s'.n:=by omega
 have hn2:s'.n≤w.n+(kk+30000):=rnd_le e6 s0n jle
 have hm2:s'.m≤far:=by omega
 rcases hE with ⟨rfl,⟨q1,q2,q3,q4⟩,_⟩ | ⟨_,p,x,rest,kx,hT,hkx,⟨rfl,q1,q2,q3,vq',b',q4,q5,q6⟩,_⟩
 ·rw [blkR_norm,blkR_norm]
  refine ⟨L0,_,s',hs,r,rfl,⟨q2.trans (sh.trans gh),hk,⟨v',b,q3.trans s0w,hQ'.move (q4.trans sb) (by omega),hb⟩,ssame,hn1,hn2,e7,hm2,sd,snd⟩,I.refuse (fun s hsm hb=>?_),Nat.le_of_eq (Mkt.meas_refuse _ _ _),k1,k5,k6,k7⟩
  rw [hRT] at hsm
  obtain ⟨x,hx,rfl⟩:=List.mem_map.mp hsm
  have:=q1 x hx
  have h2:betterB l x.1.toNat a (hs.getD x.1.toNat (-1))=true:=(betterB_iff l _ a _).mpr hb
  rw [h2] at this
  cases this
 ·rw [blkR_pass _ _ _ _ _ (by omega),blkR_exit]
  obtain ⟨st,x1,x2,x3⟩:=hTm x (by rw [← hT];simp)
  have etn:x.1.toNat=st:=by rw [x1];exact Int.toNat_natCast st
  rw [etn] at q2 q3 q5
  have hb':=(betterB_iff l st a _).mp q2
  have hsl:st<hs.length:=by omega
  have hR2:(mktOf l).R a=p.map (fun x=>x.1.toNat)++st::rest.map (fun x=>x.1.toNat):=by
   rw [hRT,← hT,List.map_append,List.map_cons,etn]
  refine ⟨L0,_,s',hs.set st a,Mkt.behind r (hs.getD st (-1)),rfl,⟨q3,by rw [List.length_set];exact hk,⟨vq',b',q4,q5,by omega⟩,ssame,hn1,hn2,e7,hm2,sd,snd⟩,?_,?_,k1,k5,k6,k7⟩
  ·rw [holdF_set hsl]
   refine I.take (mktOf_ok ok) hR2 (fun t ht hb=>?_) hb'
   obtain ⟨y,hy,rfl⟩:=List.mem_map.mp ht
   have:=q1 y hy
   have h2:betterB l y.1.toNat a (hs.getD y.1.toNat (-1))=true:=(betterB_iff l _ a _).mpr hb
   rw [h2] at this
   cases this
  ·rw [holdF_set hsl]
   exact Mkt.meas_take (H:=holdF hs) ha x2 hb'
end Go.Proofs.Ytbcjojljiochfaa.walk
set_option maxRecDepth 10000
namespace Go.Proofs.Ytbcjojljiochfaa.walk
open Go.Abs Go.Proofs.Ytbcjojljiochfaa.code
structure ValidH (l:Letting) (hs:List Int):Prop where
 len:hs.length=l.stalls.length
 can:∀ s (h:s<hs.length),hs[s] = -1∨∃ a:Nat,hs[s]=a∧a<l.appls.length∧canI l s a=true
 once:∀ s t (h:s<hs.length) (h':t<hs.length),hs[s]=hs[t]→hs[s] ≠ -1→s=t
theorem checkHolder_ok (N:Nat) (hN:8≤N) {no na nb:Nat→Prop} {l:Letting} {vS vA vB:AV} {hs:List Int} {st:Nat} {s:St} (ok:l.Ok) (V:ValidH l hs) (hst:st<hs.length) (hL:LetAt no na s.h s.n l vS vA) (hB:Sl nb s.h s.n 1 (intRows (hs.take st)) vB) (hs':s.n+200000≤far) :
  call Try.prog X N (.fn 45) [.agg (letV vS vA),vB,.int .i64 hs[st]] s=.val (.int .i64 0) s:=by
 obtain ⟨n,rfl⟩:∃ n,N=n+1:=⟨N - 1,by omega⟩
 refine call_plain' Try.func45 (fun u uh un um=>?_) rfl
 have hf:far=1000000000:=rfl
 rw [← uh,← un] at hL hB
 obtain ⟨w,hw⟩:∃ w:St,w=u.new (.cells [vS,vA] (tag 28)):=⟨_,rfl⟩
 have wn:w.n=u.n+1:=by rw [hw];rfl
 have wm:w.m=far:=by rw [hw];exact um
 have wg:∀ c,c<u.n→w.h.get c=u.h.get c:=fun c hc=>by rw [hw,get_new_ne _ _ _ (by omega)]
 have w0:w.h.get u.n=some (.cells [vS,vA] (tag 28)):=by rw [hw];exact get_new_eq _ _ _ rfl (by omega)
 have hLw:=hL.grow wg (by omega:u.n≤w.n)
 have hBw:=hB.grow wg (by omega:u.n≤w.n)
 have kA:=hLw.okV
 have kS:=hLw.okS
 have lA:=hLw.lenA
 have kB:=hBw.okA
 have hlt:(hs.take st).length=st:=by rw [List.length_take];omega
 have lB:∀ s,lenSlA s vB=.val (.int .i64 (st:Int)) s:=fun s=>by have:=rowLen hBw.at_ s;rwa [hlt] at this
 have z0:decide ((0:Int)=0)=true:=rfl
 have ex0:∀ (a b:AV) (s:St),extA 0 s (.tup [a,b])=.val a s:=fun _ _ _=>rfl
 have ex1:∀ (a b:AV) (s:St),extA 1 s (.tup [a,b])=.val b s:=fun _ _ _=>rfl
 have okt:∀ (a b:AV) (s:St),okA (.val (.tup [a,b]) s)=.val (.tup [a,b]) s:=fun _ _ _=>rfl
 have n1:∀ s (c:Bool),notA s (.bool c)=.val (.bool !c) s:=fun _ _=>rfl
 have k1:=ok.k1
 have vl:=V.len
 rw [enter45]
 simp (disch:=first|omega|(with_unfolding_all exact rfl)|(simp only[new_n,put_n,new_m];omega)|(refine put_m_le ?_;simp only[new_m];omega)) only [K45,K45r0,Abs.W,reduceIte,Nat.reduceEqDiff,Nat.reduceAdd,decide_true,decide_false,kLoop_def,Nat.reduceSub,List.cons_append,List.nil_append,List.append_nil,List.length_cons,List.length_nil]
 rw [← hw]
 have hnot:hs[st] ≠ -1→hs[st] ∉ hs.take st:=fun h hm=>by
  obtain ⟨i,hi,he⟩:=List.getElem_of_mem hm
  rw [hlt] at hi
  rw [List.getElem_take] at he
  have:=V.once i st (by omega) hst he (by rw [he];exact h)
  omega
 rcases V.can st hst with h | ⟨a,h,ha,hc⟩
 ·rw [h]
  have e1:decide ((-1:Int) = -1)=true:=rfl
  simp (disch:=first|omega|(with_unfolding_all exact rfl)|(simp only[new_n,put_n,new_m];omega)|(refine put_m_le ?_;simp only[new_m];omega)) only [K45r1,K45r2,res45,Abs.W,reduceIte,Nat.reduceEqDiff,Nat.reduceAdd,decide_true,decide_false,kLoop_def,Nat.reduceSub,List.cons_append,List.nil_append,List.append_nil,List.length_cons,List.length_nil,Env.find_set,e1]
  exact ⟨_,rfl,by omega⟩
 ·have hn:=hnot (by rw [h];omega)
  rw [h] at hn ⊢
  have e1:decide ((a:Int) = -1)=false:=decide_eq_false (by omega)
  have c1:=named_ok n (by omega) (a:Int) (l.appls.length:Int) w (by omega) (by omega) (by omega)
  have c2:=contains_ok n (by omega) (hs.take st) (a:Int) vB w hBw.at_ (by omega) (by omega)
  have e2:decide ((a:Int) ∈ hs.take st)=false:=decide_eq_false hn
  rw [e2] at c2
  have c3:=bid_ok n (by omega) ok ha st hLw (by omega)
  have hc':(bidI l st a).2=true:=hc
  rw [hc'] at c3
  simp (disch:=first|omega|(with_unfolding_all exact rfl)|(simp only[new_n,put_n,new_m];omega)|(refine put_m_le ?_;simp only[new_m];omega)) only [K45r1,K45r3,K45r4,K45r6,K45r8,K45r9,K45r11,res45,Abs.W,reduceIte,Nat.reduceEqDiff,Nat.reduceAdd,decide_true,decide_false,kLoop_def,Nat.reduceSub,List.cons_append,List.nil_append,List.append_nil,List.length_cons,List.length_nil,Env.find_set,e1,w0,kA,kS,lA,c1,c2,c3,z0,kB,lB,ex0,ex1,okt,n1,Nat.zero_add]
  exact ⟨_,rfl,by omega⟩
theorem checkHolders_ok (N:Nat) (hN:9≤N) {no na nh:Nat→Prop} {l:Letting} {vS vA vH:AV} {hs:List Int} {s:St} (ok:l.Ok) (V:ValidH l hs) (hL:LetAt no na s.h s.n l vS vA) (hH:Sl nh s.h s.n 1 (intRows hs) vH) (hs':s.n+300000≤far) :
  call Try.prog X N (.fn 21) [.agg (letV vS vA),vH] s=.val (.int .i64 0) s:=by
 obtain ⟨n,rfl⟩:∃ n,N=n+1:=⟨N - 1,by omega⟩
 refine call_plain' Try.func21 (fun u uh un um=>?_) rfl
 have hf:far=1000000000:=rfl
 rw [← uh,← un] at hL hH
 obtain ⟨w,hw⟩:∃ w:St,w=u.new (.cells [vS,vA] (tag 28)):=⟨_,rfl⟩
 have wn:w.n=u.n+1:=by rw [hw];rfl
 have wm:w.m=far:=by rw [hw];exact um
 have wg:∀ c,c<u.n→w.h.get c=u.h.get c:=fun c hc=>by rw [hw,get_new_ne _ _ _ (by omega)]
 have w0:w.h.get u.n=some (.cells [vS,vA] (tag 28)):=by rw [hw];exact get_new_eq _ _ _ rfl (by omega)
 have hLw:=hL.grow wg (by omega:u.n≤w.n)
 have hHw:=hH.grow wg (by omega:u.n≤w.n)
 have kA:=hLw.okV
 have kS:=hLw.okS
 have lS:=hLw.lenS
 have kH:=hHw.okA
 have lH:=rowLen hHw.at_
 have k1:=ok.k1
 have vl:=V.len
 have z0:decide ((0:Int)=0)=true:=rfl
 have z1:decide ((hs.length:Int)=(l.stalls.length:Int))=true:=decide_eq_true (by omega)
 have c1:=check_ok n (by omega) l ok vS vA w hLw (by omega)
 rw [enter21]
 simp (disch:=first|omega|(with_unfolding_all exact rfl)|(simp only[new_n,put_n,new_m];omega)|(refine put_m_le ?_;simp only[new_m];omega)) only [K21,K21r0,Abs.W,reduceIte,Nat.reduceEqDiff,Nat.reduceAdd,decide_true,decide_false,kLoop_def,Nat.reduceSub,List.cons_append,List.nil_append,List.append_nil,List.length_cons,List.length_nil]
 rw [← hw]
 simp (disch:=first|omega|(with_unfolding_all exact rfl)|(simp only[new_n,put_n,new_m];omega)|(refine put_m_le ?_;simp only[new_m];omega)) only [K21r1,K21r2,K21r4,K21r6,Abs.W,reduceIte,Nat.reduceEqDiff,Nat.reduceAdd,decide_true,decide_false,kLoop_def,Nat.reduceSub,List.cons_append,List.nil_append,List.append_nil,List.length_cons,List.length_nil,Env.find_set,w0,kA,kS,lS,c1,z0,z1,kH,lH,Nat.zero_add]
 generalize hlp:loopN _ rounds _ _ _ _ _=q1
 obtain ⟨e,L1,t,rfl,rfl,rfl⟩:=loop_of hlp (fun i L t=>t=w∧L.find 1=vH∧L.find 2=.ptr u.n 0∧L.find 20=vH∧L.find 21=.int .i64 (hs.length:Int)∧L.find 22=.int .i64 (i:Nat)) (fun e L t=>e=.exit 0∧t=w) hs.length (by unfold rounds;omega)
  ⟨rfl,by simp only [find_cons,Env.find_set,reduceIte,Nat.reduceEqDiff],by simp only [find_cons,Env.find_set,reduceIte,Nat.reduceEqDiff],by simp only [find_cons,Env.find_set,reduceIte,Nat.reduceEqDiff],by simp only [find_cons,Env.find_set,reduceIte,Nat.reduceEqDiff],by simp only [find_cons,Env.find_set,reduceIte,Nat.reduceEqDiff];rfl⟩
  (fun i L t hi ⟨ht,q1,q2,q20,q21,q22⟩=>by
   subst ht
   by_cases hlt:i<hs.length
   ·have e0:decide ((i:Int)<(hs.length:Int))=true:=decide_eq_true (by omega)
    obtain ⟨b1,p1,c1',sz1,x1,x2,x3,x4⟩:=rowInt hHw.at_ hlt
    obtain ⟨vB,t1,t2⟩:=hHw.to (i:=i) (by rw [intRows_len];omega)
    rw [intRows_take] at t2
    have c2:=checkHolder_ok n (by omega) ok V hlt hLw t2 (by omega)
    have ad:∀ s,aAdd s .i64 (i:Int) 1=.val (.int .i64 ((i:Int)+1)) s:=fun s=>aAdd_i64 s _ _ (by omega)
    refine .inl ⟨hlt,_,t,by
     simp (disch:=first|omega|(with_unfolding_all exact rfl)|(simp only[new_n,put_n,new_m];omega)|(refine put_m_le ?_;simp only[new_m];omega)) only [K21l0,K21r7,K21r8,K21r9,K21r10,K21r12,Abs.W,reduceIte,Nat.reduceEqDiff,Nat.reduceAdd,decide_true,decide_false,kLoop_def,Nat.reduceSub,List.cons_append,List.nil_append,List.append_nil,List.length_cons,List.length_nil,Env.find_set,q1,q2,q20,q21,q22,e0,kH,x2,x3,x4,w0,kA,kS,kSlice_def,optEv_some,optEv_none,t1,c2,z0,ad,Nat.zero_add]
     rfl,rfl,?_,?_,?_,?_,?_⟩
    ·simp only [Env.find_set,q1,reduceIte,Nat.reduceEqDiff]
    ·simp only [Env.find_set,q2,reduceIte,Nat.reduceEqDiff]
    ·simp only [Env.find_set,q20,reduceIte,Nat.reduceEqDiff]
    ·simp only [Env.find_set,q21,reduceIte,Nat.reduceEqDiff]
    ·simp only [Env.find_set,reduceIte,Nat.reduceEqDiff];rfl
   ·obtain rfl:i=hs.length:=by omega
    have e0:decide ((hs.length:Int)<(hs.length:Int))=false:=by simp
    refine .inr ⟨.exit 0,L.set 23 (.bool false),t,by simp,?_,rfl,rfl⟩
    simp (disch:=first|omega|(with_unfolding_all exact rfl)|(simp only[new_n,put_n,new_m];omega)|(refine put_m_le ?_;simp only[new_m];omega)) only [K21l0,K21r7,Abs.W,reduceIte,Nat.reduceEqDiff,Nat.reduceAdd,decide_true,decide_false,kLoop_def,Nat.reduceSub,List.cons_append,List.nil_append,List.append_nil,List.length_cons,List.length_nil,Env.find_set,q21,q22,e0])
 simp (disch:=first|omega|(with_unfolding_all exact rfl)|(simp only[new_n,put_n,new_m];omega)|(refine put_m_le ?_;simp only[new_m];omega)) only [K21r13,res21,Abs.W,reduceIte,Nat.reduceEqDiff,Nat.reduceAdd,decide_true,decide_false,kLoop_def,Nat.reduceSub,List.cons_append,List.nil_append,List.append_nil,List.length_cons,List.length_nil,Env.find_set]
 exact ⟨_,rfl,by omega⟩
end Go.Proofs.Ytbcjojljiochfaa.walk
set_option maxRecDepth 10000
namespace Go.Proofs.Ytbcjojljiochfaa.walk
open Go.Abs Go.Proofs.Ytbcjojljiochfaa.code
theorem insort0O_ex {N:Nat} {v:AV} {s:St} (hs:s.n≤far):call Try.prog X (N+1) (.fn 72) [v,.int .i64 0,.int .i64 0] s=.val (.tup []) s:=by
 refine call_plain (s':=⟨s.h,s.n,far⟩) Try.func72 ?_ rfl hs
 have ad01:∀ s,aAdd s .i64 0 1=.val (.int .i64 1) s:=fun s=>rfl
 have e0:decide ((1:Int)<0)=false:=rfl
 rw [enter72]
 simp only [K72,K72r0,Abs.W,reduceIte,Nat.reduceEqDiff,Nat.reduceAdd,decide_true,decide_false,kLoop_def,Nat.reduceSub,List.cons_append,List.nil_append,List.append_nil,List.length_cons,List.length_nil,Env.find_set,ad01]
 rw [show rounds=(rounds - 1)+1 from rfl,loopN_succ]
 simp only [K72l1,K72r1,res72,Abs.W,reduceIte,Nat.reduceEqDiff,Nat.reduceAdd,decide_true,decide_false,kLoop_def,Nat.reduceSub,List.cons_append,List.nil_append,List.append_nil,List.length_cons,List.length_nil,Env.find_set,e0,leave_nil]
theorem pdq0O_ex {N:Nat} {v:AV} {lim:Int} {s:St} (hs:s.n≤far):call Try.prog X (N+2) (.fn 58) [v,.int .i64 0,.int .i64 0,.int .i64 lim] s=.val (.tup []) s:=by
 refine call_plain (s':=⟨s.h,s.n,far⟩) Try.func58 ?_ rfl hs
 have i0:=insort0O_ex (N:=N) (v:=v) (s:=⟨s.h,s.n,far⟩) hs
 have sb:∀ s,aSub s .i64 0 0=.val (.int .i64 0) s:=fun s=>rfl
 have e0:decide ((0:Int)≤12)=true:=rfl
 rw [enter58]
 simp only [K58,K58r0,K58r1,Abs.W,reduceIte,Nat.reduceEqDiff,Nat.reduceAdd,decide_true,decide_false,kLoop_def,Nat.reduceSub,List.cons_append,List.nil_append,List.append_nil,List.length_cons,List.length_nil,Env.find_set]
 rw [show rounds=(rounds - 1)+1 from rfl,loopN_succ]
 simp only [K58l0,K58r2,K58r3,K58r4,res58,Abs.W,reduceIte,Nat.reduceEqDiff,Nat.reduceAdd,decide_true,decide_false,kLoop_def,Nat.reduceSub,List.cons_append,List.nil_append,List.append_nil,List.length_cons,List.length_nil,Env.find_set,sb,e0,i0,leave_nil]
theorem sortf0O_ex {N:Nat} {v:AV} {s:St} (hv:∀ s,lenSlA s v=.val (.int .i64 0) s) (hs:s.n≤far):call Try.prog X (N+3) (.fn 44) [v] s=.val (.tup []) s:=by
 refine call_plain (s':=⟨s.h,s.n,far⟩) Try.func44 ?_ rfl hs
 obtain ⟨lim,hl⟩:=len_ok (N+2) (by omega) 0 (by omega) ⟨s.h,s.n,far⟩ hs
 have p0:=pdq0O_ex (N:=N) (v:=v) (lim:=lim) (s:=⟨s.h,s.n,far⟩) hs
 have w1:wrapA .u64 0=((0:Nat):Int):=rfl
 rw [enter44]
 simp only [res44,K44r0,K44r1,K44,Abs.W,reduceIte,Nat.reduceEqDiff,Nat.reduceAdd,decide_true,decide_false,kLoop_def,Nat.reduceSub,List.cons_append,List.nil_append,List.append_nil,List.length_cons,List.length_nil,Env.find_set,hv,cviA_int,w1,hl,p0,leave_nil]
end Go.Proofs.Ytbcjojljiochfaa.walk
