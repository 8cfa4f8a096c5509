/- The choice for a morning, looked up or found. -/
import Derived.Test.YtoolodjbfphkjaaM2
import Derived.Test.YtoolodjbfphkjaaM1
import Derived.Test.YtoolodjbfphkjaaCodes
import Derived.Test.YtoolodjbfphkjaaWalkAll
set_option linter.unusedSimpArgs false
set_option maxHeartbeats 16000000
set_option linter.unusedVariables false
set_option maxRecDepth 10000
namespace Go.Proofs.Ytoolodjbfphkjaa.walk
open Go.Abs Go.Proofs.Ytoolodjbfphkjaa.code
theorem okA_map (b:Nat) (s:St):okA (.val (.map b) s)=.val (.map b) s:=Eq.trans (Eq.refl _) (Eq.refl _)
structure ChBox (w y:St) (s:Sl) (d:Nat) (u:Int × Int) (vL vE:AV) (mb:Nat):Prop where
 n:y.n=w.n+3
 m:y.m=w.m
 same:∀ c,c<w.n→y.h.get c=w.h.get c
 g0:y.h.get w.n=some (.cells (planV s vL vE mb) (tag 100))
 g1:y.h.get (w.n+1)=some (.cells (moC d u) (tag 103))
 g2:y.h.get (w.n+2)=some (.cells (chC none) (tag 106))
theorem chBox (w:St) (s:Sl) (d:Nat) (u:Int × Int) (vL vE:AV) (mb:Nat) (hw:w.n+10≤far):ChBox w (((w.new (.cells (planV s vL vE mb) (tag 100))).new (.cells (moC d u) (tag 103))).new (.cells (chC none) (tag 106))) s d u vL vE mb:=by
 have hf:far=1000000000:=rfl
 refine ⟨rfl,rfl,fun c hc=>?_,?_,?_,?_⟩
 ·rw [get_new_ne _ _ _ (by simp only [new_n];omega),get_new_ne _ _ _ (by simp only [new_n];omega),get_new_ne _ _ _ (by omega)]
 ·rw [get_new_ne _ _ _ (by simp only [new_n];omega),get_new_ne _ _ _ (by simp only [new_n];omega)];exact get_new_eq _ _ _ rfl (by omega)
 ·rw [get_new_ne _ _ _ (by simp only [new_n];omega)];exact get_new_eq _ _ _ rfl (by simp only [new_n];omega)
 ·exact get_new_eq _ _ _ rfl (by simp only [new_n];omega)
theorem choose_zero {s:Sl} (ok:s.Ok):ChAt s 0:=by
 intro N d nb mb u vL vE ps t r hr hN hd hu hS hnb hmt gM gd hs
 obtain ⟨n,rfl⟩:∃ n,N=n+1:=⟨N - 1,by omega⟩
 have hf:far=1000000000:=rfl
 have hn:=ok.n
 have e20:chSz 0=20:=rfl
 obtain ⟨v,t',e,st,rfl,⟨ps',h2,h3⟩,h4⟩:=call_memo (n:=n) (args:=[.agg (planV s vL vE mb),.agg (moC d u)]) (s:=t) (d:=mb) (k:=chSz 0) (Q:=fun v=>v=.agg (chC (s.opt 0 d u))) (R:=fun h=>∃ ps',h.get mb=some (.map (mapE ps'))∧GoodM s ps') Try.func41 ⟨ps,gM,gd⟩ (fun w wh wn wm=>by
  rw [← wh] at hS gM
  rw [← wn] at hmt hs
  have scS:=hS.scal
  have b:=chBox w s d u vL vE mb (by omega)
  have eg:decide ((s.days:Int)<(d:Int))=true:=decide_eq_true (by omega)
  rw [enter41]
  simp (disch:=first|omega|(with_unfolding_all exact rfl)|(simp only[new_n,put_n,new_m];omega)|(refine put_m_le ?_;simp only[new_m];omega)) only [K41,K41r0,Abs.W,reduceIte,Nat.reduceEqDiff,Nat.reduceAdd,decide_true,decide_false,kLoop_def,Nat.reduceSub,List.cons_append,List.nil_append,List.append_nil,List.length_cons,List.length_nil,Env.find_set,scS,Nat.zero_add]
  generalize hgy:St.new (St.new (St.new _ _) _) _=y
  have hb:ChBox w y s d u vL vE mb:=by rw [← hgy];exact b
  clear hgy b
  simp only [new_n]
  obtain ⟨bn,bm,bs,b0,b1,b2⟩:=hb
  have cot:cellsOf 1 (.bool true)=some [.bool true]:=rfl
  unfold chC at b2
  simp (disch:=first|omega|(with_unfolding_all exact rfl)|(simp only[new_n,put_n,new_m];omega)|(refine put_m_le ?_;simp only[new_m];omega)) only [K41r1,K41r2,res41,Abs.W,reduceIte,Nat.reduceEqDiff,Nat.reduceAdd,decide_true,decide_false,kLoop_def,Nat.reduceSub,List.cons_append,List.nil_append,List.append_nil,List.length_cons,List.length_nil,Env.find_set,b0,b1,b2,eg,cot,Nat.zero_add]
  have hl:∀ z:St,z=y.put (w.n+1+1) (.cells (chC (some (0,0))) (tag 106))→z.h.get (w.n+1+1)=some (.cells (chC (some (0,0))) (tag 106)):=fun z hz=>by rw [hz];exact get_put_eq _ _ _ _ rfl (by omega)
  refine ⟨_,y.put (w.n+1+1) (.cells (chC (some (0,0))) (tag 106)),leave_cell _ _ _ _ (sh:=some 3) (v:=.agg (chC (some (0,0)))) (by kernel_rfl) ?_,⟨fun c hc hne=>?_,by rw [put_n];omega,by rw [put_n];omega,fun h=>put_m_leP (by omega) (by omega),?_⟩,rfl,rfl,⟨ps,?_,gd⟩,.inl ?_⟩
  ·have:=hl _ rfl
   unfold chC at this ⊢
   simp (disch:=first|omega|(with_unfolding_all exact rfl)|(simp only[new_n,put_n,new_m];omega)|(refine put_m_le ?_;simp only[new_m];omega)) only [Abs.W,reduceIte,Nat.reduceEqDiff,Nat.reduceAdd,decide_true,decide_false,kLoop_def,Nat.reduceSub,List.cons_append,List.nil_append,List.append_nil,List.length_cons,List.length_nil,Env.find_set,this]
   rfl
  ·rw [get_put_ne' _ _ _ _ (by omega)];exact bs c hc
  ·simp only [St.put,minN_eq];omega
  ·rw [get_put_ne' _ _ _ _ (by omega)];exact (bs mb hmt).trans gM
  ·rw [get_put_ne' _ _ _ _ (by omega)];exact bs mb hmt) (by omega)
 exact ⟨t',ps',hr.symm.trans e,st,h2,h3,h4⟩
theorem choose_step {s:Sl} (ok:s.Ok) (j:Nat) (hj:j≤4) (ih:ChAt s j):ChAt s (j+1):=by
 intro N d nb mb u vL vE ps t r hr hN hd hu hS hnb hmt gM gd hs
 obtain ⟨n,rfl⟩:∃ n,N=n+1:=⟨N - 1,by omega⟩
 have hf:far=1000000000:=rfl
 have hn:=ok.n
 have eS:chSz (j+1)=10000+5 * (100+chSz j):=rfl
 have hpl:plain (.agg (chC (s.opt (j+1) d u)))=true:=by cases s.opt (j+1) d u<;>rfl
 obtain ⟨v,t',e,st,rfl,⟨ps',h2,h3⟩,h4⟩:=call_memo (n:=n) (args:=[.agg (planV s vL vE mb),.agg (moC d u)]) (s:=t) (d:=mb) (k:=chSz (j+1)) (Q:=fun v=>v=.agg (chC (s.opt (j+1) d u))) (R:=fun h=>∃ ps',h.get mb=some (.map (mapE ps'))∧GoodM s ps') Try.func41 ⟨ps,gM,gd⟩ (fun w wh wn wm=>by
  rw [← wh] at hS gM
  rw [← wn] at hmt hs
  have scS:=hS.scal
  have b:=chBox w s d u vL vE mb (by omega)
  have eg:decide ((s.days:Int)<(d:Int))=false:=decide_eq_false (by omega)
  have ex0:∀ (a b:AV) (st:St),extA 0 st (.tup [a,b])=.val a st:=fun _ _ _=>rfl
  have ex1:∀ (a b:AV) (st:St),extA 1 st (.tup [a,b])=.val b st:=fun _ _ _=>rfl
  have okt:∀ (l:List AV) (st:St),okA (.val (.tup l) st)=.val (.tup l) st:=fun _ _=>rfl
  have nt:∀ (b:Bool) st,notA st (.bool b)=.val (.bool !b) st:=fun _ _=>rfl
  have cob:∀ b:Bool,cellsOf 1 (.bool b)=some [.bool b]:=fun _=>rfl
  have kL:∀ t,okA (.val vL t)=.val vL t:=fun t=>okA_ne hS.l.ne
  rw [enter41]
  simp (disch:=first|omega|(with_unfolding_all exact rfl)|(simp only[new_n,put_n,new_m];omega)|(refine put_m_le ?_;simp only[new_m];omega)) only [K41,K41r0,Abs.W,reduceIte,Nat.reduceEqDiff,Nat.reduceAdd,decide_true,decide_false,kLoop_def,Nat.reduceSub,List.cons_append,List.nil_append,List.append_nil,List.length_cons,List.length_nil,Env.find_set,scS,Nat.zero_add]
  generalize hgy:St.new (St.new (St.new _ _) _) _=y
  have hb:ChBox w y s d u vL vE mb:=by rw [← hgy];exact b
  clear hgy b
  simp only [new_n]
  obtain ⟨bn,bm,bs,b0,b1,b2⟩:=hb
  have gMy:=(bs mb hmt).trans gM
  have hlook:=fun st h=>look_key ps (d,u) mb st h
  have hlk:=hlook y gMy
  have hopt:s.days+1 - d=j+1:=by omega
  cases hidx:idxK ps (d,u) with
  | some i =>
   have hg:=gd.get hidx
   have hg':getK ps (d,u)=s.opt (j+1) d u:=by rw [← hopt];exact hg
   rw [hg',hidx,Option.isSome_some] at hlk
   generalize s.opt (j+1) d u=o at *
   cases o with
   | none =>
    unfold chC at hlk b2
    simp (disch:=first|omega|(with_unfolding_all exact rfl)|(simp only[new_n,put_n,new_m];omega)|(refine put_m_le ?_;simp only[new_m];omega)) only [K41r1,K41r3,K41r4,Abs.W,reduceIte,Nat.reduceEqDiff,Nat.reduceAdd,decide_true,decide_false,kLoop_def,Nat.reduceSub,List.cons_append,List.nil_append,List.append_nil,List.length_cons,List.length_nil,Env.find_set,b0,b1,b2,eg,gMy,okA_map,kLookE,hlk,ex0,ex1,okt,nt,cob,Nat.zero_add]
    generalize hgz:St.put (St.new _ _) _ _=z
    have zn:z.n=y.n+1:=by rw [← hgz];rfl
    have zg:∀ c,c<y.n→z.h.get c=y.h.get c:=fun c hc=>by rw [← hgz,get_put_ne' _ _ _ _ (by omega),get_new_ne _ _ _ (by omega)]
    have zp:z.h.get y.n=some (.cells [.int .i64 0,.int .i64 0,.bool false] (tag 106)):=by rw [← hgz];exact get_put_eq _ _ _ _ rfl (by omega)
    have zm:z.m=min y.m y.n:=by rw [← hgz];simp only [St.put,minN_eq,new_m]
    have z2:=(zg (w.n+1+1) (by omega)).trans b2
    clear hgz
    simp (disch:=first|omega|(with_unfolding_all exact rfl)|(simp only[new_n,put_n,new_m];omega)|(refine put_m_le ?_;simp only[new_m];omega)) only [K41r7,res41,Abs.W,reduceIte,Nat.reduceEqDiff,Nat.reduceAdd,decide_true,decide_false,kLoop_def,Nat.reduceSub,List.cons_append,List.nil_append,List.append_nil,List.length_cons,List.length_nil,Env.find_set,zp,z2,cob,Nat.zero_add]
    have hfin:(z.put (w.n+1+1) (.cells [.int .i64 0,.int .i64 0,.bool false] (tag 106))).h.get (w.n+1+1)=some (.cells [.int .i64 0,.int .i64 0,.bool false] (tag 106)):=get_put_eq _ _ _ _ rfl (by omega)
    refine ⟨_,z.put (w.n+1+1) (.cells [.int .i64 0,.int .i64 0,.bool false] (tag 106)),leave_cell _ _ _ _ (sh:=some 3) (v:=.agg [.int .i64 0,.int .i64 0,.bool false]) (by kernel_rfl) (by simp (disch:=first|omega|(with_unfolding_all exact rfl)|(simp only[new_n,put_n,new_m];omega)|(refine put_m_le ?_;simp only[new_m];omega)) only [Abs.W,reduceIte,Nat.reduceEqDiff,Nat.reduceAdd,decide_true,decide_false,kLoop_def,Nat.reduceSub,List.cons_append,List.nil_append,List.append_nil,List.length_cons,List.length_nil,Env.find_set,hfin]),⟨fun x hx hne=>?_,by rw [put_n];omega,by rw [put_n];omega,fun h=>put_m_leP (by omega) (by omega),?_⟩,rfl,rfl,⟨ps,?_,gd⟩,.inl ?_⟩
    ·rw [get_put_ne' _ _ _ _ (by omega),zg x (by omega)];exact bs x hx
    ·simp only [St.put,minN_eq];omega
    ·rw [get_put_ne' _ _ _ _ (by omega),zg mb (by omega)];exact gMy
    ·rw [get_put_ne' _ _ _ _ (by omega),zg mb (by omega)];exact bs mb hmt
   | some c =>
    unfold chC at hlk b2
    simp (disch:=first|omega|(with_unfolding_all exact rfl)|(simp only[new_n,put_n,new_m];omega)|(refine put_m_le ?_;simp only[new_m];omega)) only [K41r1,K41r3,K41r4,Abs.W,reduceIte,Nat.reduceEqDiff,Nat.reduceAdd,decide_true,decide_false,kLoop_def,Nat.reduceSub,List.cons_append,List.nil_append,List.append_nil,List.length_cons,List.length_nil,Env.find_set,b0,b1,b2,eg,gMy,okA_map,kLookE,hlk,ex0,ex1,okt,nt,cob,Nat.zero_add]
    generalize hgz:St.put (St.new _ _) _ _=z
    have zn:z.n=y.n+1:=by rw [← hgz];rfl
    have zg:∀ c,c<y.n→z.h.get c=y.h.get c:=fun c hc=>by rw [← hgz,get_put_ne' _ _ _ _ (by omega),get_new_ne _ _ _ (by omega)]
    have zp:z.h.get y.n=some (.cells [.int .i64 (c.1:Int),.int .i64 (c.2:Int),.bool true] (tag 106)):=by rw [← hgz];exact get_put_eq _ _ _ _ rfl (by omega)
    have zm:z.m=min y.m y.n:=by rw [← hgz];simp only [St.put,minN_eq,new_m]
    have z2:=(zg (w.n+1+1) (by omega)).trans b2
    clear hgz
    simp (disch:=first|omega|(with_unfolding_all exact rfl)|(simp only[new_n,put_n,new_m];omega)|(refine put_m_le ?_;simp only[new_m];omega)) only [K41r7,res41,Abs.W,reduceIte,Nat.reduceEqDiff,Nat.reduceAdd,decide_true,decide_false,kLoop_def,Nat.reduceSub,List.cons_append,List.nil_append,List.append_nil,List.length_cons,List.length_nil,Env.find_set,zp,z2,cob,Nat.zero_add]
    have hfin:(z.put (w.n+1+1) (.cells [.int .i64 (c.1:Int),.int .i64 (c.2:Int),.bool true] (tag 106))).h.get (w.n+1+1)=some (.cells [.int .i64 (c.1:Int),.int .i64 (c.2:Int),.bool true] (tag 106)):=get_put_eq _ _ _ _ rfl (by omega)
    refine ⟨_,z.put (w.n+1+1) (.cells [.int .i64 (c.1:Int),.int .i64 (c.2:Int),.bool true] (tag 106)),leave_cell _ _ _ _ (sh:=some 3) (v:=.agg [.int .i64 (c.1:Int),.int .i64 (c.2:Int),.bool true]) (by kernel_rfl) (by simp (disch:=first|omega|(with_unfolding_all exact rfl)|(simp only[new_n,put_n,new_m];omega)|(refine put_m_le ?_;simp only[new_m];omega)) only [Abs.W,reduceIte,Nat.reduceEqDiff,Nat.reduceAdd,decide_true,decide_false,kLoop_def,Nat.reduceSub,List.cons_append,List.nil_append,List.append_nil,List.length_cons,List.length_nil,Env.find_set,hfin]),⟨fun x hx hne=>?_,by rw [put_n];omega,by rw [put_n];omega,fun h=>put_m_leP (by omega) (by omega),?_⟩,rfl,rfl,⟨ps,?_,gd⟩,.inl ?_⟩
    ·rw [get_put_ne' _ _ _ _ (by omega),zg x (by omega)];exact bs x hx
    ·simp only [St.put,minN_eq];omega
    ·rw [get_put_ne' _ _ _ _ (by omega),zg mb (by omega)];exact gMy
    ·rw [get_put_ne' _ _ _ _ (by omega),zg mb (by omega)];exact bs mb hmt
  | none =>
   have hg:=(idxK_none (d,u) ps hidx).1
   rw [hg,hidx,Option.isSome_none] at hlk
   have b2':=b2
   unfold chC at hlk b2
   simp (disch:=first|omega|(with_unfolding_all exact rfl)|(simp only[new_n,put_n,new_m];omega)|(refine put_m_le ?_;simp only[new_m];omega)) only [K41r1,K41r3,K41r4,Abs.W,reduceIte,Nat.reduceEqDiff,Nat.reduceAdd,decide_true,decide_false,kLoop_def,Nat.reduceSub,List.cons_append,List.nil_append,List.append_nil,List.length_cons,List.length_nil,Env.find_set,b0,b1,b2,eg,gMy,okA_map,kLookE,hlk,ex0,ex1,okt,nt,cob,Nat.zero_add]
   generalize hgz:St.put (St.new _ _) _ _=z
   have zn:z.n=y.n+1:=by rw [← hgz];rfl
   have zg:∀ c,c<y.n→z.h.get c=y.h.get c:=fun c hc=>by rw [← hgz,get_put_ne' _ _ _ _ (by omega),get_new_ne _ _ _ (by omega)]
   have zp:z.h.get y.n=some (.cells [.int .i64 0,.int .i64 0,.bool false] (tag 106)):=by rw [← hgz];exact get_put_eq _ _ _ _ rfl (by omega)
   have zm:z.m=min y.m y.n:=by rw [← hgz];simp only [St.put,minN_eq,new_m]
   clear hgz
   have z0:=(zg w.n (by omega)).trans b0
   have z1:=(zg (w.n+1) (by omega)).trans b1
   have zu:∀ c,c<w.n→z.h.get c=w.h.get c:=fun c hc=>(zg c (by omega)).trans (bs c hc)
   simp (disch:=first|omega|(with_unfolding_all exact rfl)|(simp only[new_n,put_n,new_m];omega)|(refine put_m_le ?_;simp only[new_m];omega)) only [K41r5,Abs.W,reduceIte,Nat.reduceEqDiff,Nat.reduceAdd,decide_true,decide_false,kLoop_def,Nat.reduceSub,List.cons_append,List.nil_append,List.append_nil,List.length_cons,List.length_nil,Env.find_set,z0,z1,scS,kL,Nat.zero_add]
   generalize hcc:call _ _ _ (.fn 64) _ _=rc
   obtain ⟨t1,rfl,s1,t1n,t10,t11⟩:=choices_ex hcc (by omega) (hS.grow (fun c hc=>zu c (by omega)) (Nat.le_refl _)) (by omega)
   have kf:∀ s,okA (.val (.func 76 [] [.ptr z.n 0,.ptr (z.n+1) 0]) s)=.val (.func 76 [] [.ptr z.n 0,.ptr (z.n+1) 0]) s:=fun _=>rfl
   simp (disch:=first|omega|(with_unfolding_all exact rfl)|(simp only[new_n,put_n,new_m];omega)|(refine put_m_le ?_;simp only[new_m];omega)) only [Abs.W,reduceIte,Nat.reduceEqDiff,Nat.reduceAdd,decide_true,decide_false,kLoop_def,Nat.reduceSub,List.cons_append,List.nil_append,List.append_nil,List.length_cons,List.length_nil,Env.find_set,kf,Nat.zero_add]
   generalize hcc2:call _ _ _ (.fn 63) _ _=rc2
   have s1m:=s1.m
   have t1u:∀ c,c<z.n→t1.h.get c=z.h.get c:=s1.same
   obtain ⟨t2,ps2,rfl,s2,gM2,gd2,q2⟩:=best_ex ok j ih n (by omega) hcc2 hd hu (hS.grow (fun c hc=>(t1u c (by omega)).trans (zu c (by omega))) (Nat.le_refl _)) hnb t10 t11 (by omega) (by omega) (by omega) (by omega) ((t1u mb (by omega)).trans ((zu mb hmt).trans gM)) gd (by omega)
   have s2n:=s2.n
   have s2l:=s2.le
   have s2m:=s2.m
   have s2u:=s2.mle
   have t2z:∀ c,c<z.n→c≠mb→t2.h.get c=z.h.get c:=fun c hc hc2=>(s2.same c (by omega) hc2).trans (t1u c hc)
   have y20:=(t2z w.n (by omega) (by omega)).trans z0
   have y21:=(t2z (w.n+1) (by omega) (by omega)).trans z1
   have y22:=(t2z (w.n+1+1) (by omega) (by omega)).trans ((zg _ (by omega)).trans b2)
   have y23:=(t2z y.n (by omega) (by omega)).trans zp
   have hup:=fun st h=>upd_key ps2 (d,u) (s.opt (j+1) d u) mb st h
   have gdp:=gd2.put (d:=d) (u:=u) (by omega)
   rw [hopt] at gdp
   generalize s.opt (j+1) d u=o at *
   cases o with
   | none =>
    have hup1:=hup (t2.put y.n (.cells [.int .i64 0,.int .i64 0,.bool false] (tag 106))) (by rw [get_put_ne' _ _ _ _ (by omega)];exact gM2)
    unfold chC at hup1
    simp (disch:=first|omega|(with_unfolding_all exact rfl)|(simp only[new_n,put_n,new_m];omega)|(refine put_m_le ?_;simp only[new_m];omega)) only [K41r6,chC,Abs.W,reduceIte,Nat.reduceEqDiff,Nat.reduceAdd,decide_true,decide_false,kLoop_def,Nat.reduceSub,List.cons_append,List.nil_append,List.append_nil,List.length_cons,List.length_nil,Env.find_set,y20,y21,y22,y23,okA_map,kUpdE,updK_ch,hup1,cob,scS,kL,Nat.zero_add]
    generalize hg3:St.put (St.put _ _ _) _ _=x
    have xn:x.n=t2.n:=by rw [← hg3];rfl
    have xm:x.m=min (min t2.m y.n) mb:=by rw [← hg3];simp only [St.put,minN_eq]
    have xg:∀ c,c≠y.n→c≠mb→x.h.get c=t2.h.get c:=fun c h1 h2=>by rw [← hg3,get_put_ne' _ _ _ _ h2,get_put_ne' _ _ _ _ h1]
    have xM:x.h.get mb=some (.map (mapE (putK ps2 (d,u) (none)))):=by rw [← hg3];exact get_put_eq _ _ _ _ rfl (by omega)
    have xp:x.h.get y.n=some (.cells [.int .i64 0,.int .i64 0,.bool false] (tag 106)):=by rw [← hg3,get_put_ne' _ _ _ _ (by omega)];exact get_put_eq _ _ _ _ rfl (by omega)
    have x2:=(xg (w.n+1+1) (by omega) (by omega)).trans y22
    clear hg3
    simp (disch:=first|omega|(with_unfolding_all exact rfl)|(simp only[new_n,put_n,new_m];omega)|(refine put_m_le ?_;simp only[new_m];omega)) only [K41r7,res41,Abs.W,reduceIte,Nat.reduceEqDiff,Nat.reduceAdd,decide_true,decide_false,kLoop_def,Nat.reduceSub,List.cons_append,List.nil_append,List.append_nil,List.length_cons,List.length_nil,Env.find_set,xp,x2,cob,Nat.zero_add]
    have hfin:(x.put (w.n+1+1) (.cells [.int .i64 0,.int .i64 0,.bool false] (tag 106))).h.get (w.n+1+1)=some (.cells [.int .i64 0,.int .i64 0,.bool false] (tag 106)):=get_put_eq _ _ _ _ rfl (by omega)
    refine ⟨_,x.put (w.n+1+1) (.cells [.int .i64 0,.int .i64 0,.bool false] (tag 106)),leave_cell _ _ _ _ (sh:=some 3) (v:=.agg [.int .i64 0,.int .i64 0,.bool false]) (by kernel_rfl) (by simp (disch:=first|omega|(with_unfolding_all exact rfl)|(simp only[new_n,put_n,new_m];omega)|(refine put_m_le ?_;simp only[new_m];omega)) only [Abs.W,reduceIte,Nat.reduceEqDiff,Nat.reduceAdd,decide_true,decide_false,kLoop_def,Nat.reduceSub,List.cons_append,List.nil_append,List.append_nil,List.length_cons,List.length_nil,Env.find_set,hfin]),⟨fun c hc hne=>?_,by rw [put_n];omega,by rw [put_n];omega,fun h=>put_m_leP (by omega) (by omega),?_⟩,rfl,rfl,⟨_,?_,gdp⟩,.inr ?_⟩
    ·rw [get_put_ne' _ _ _ _ (by omega),xg c (by omega) hne,t2z c (by omega) hne];exact zu c hc
    ·simp only [St.put,minN_eq];omega
    ·rw [get_put_ne' _ _ _ _ (by omega)];exact xM
    ·simp only [St.put,minN_eq];omega
   | some c =>
    have hup1:=hup (t2.put y.n (.cells [.int .i64 (c.1:Int),.int .i64 (c.2:Int),.bool true] (tag 106))) (by rw [get_put_ne' _ _ _ _ (by omega)];exact gM2)
    unfold chC at hup1
    simp (disch:=first|omega|(with_unfolding_all exact rfl)|(simp only[new_n,put_n,new_m];omega)|(refine put_m_le ?_;simp only[new_m];omega)) only [K41r6,chC,Abs.W,reduceIte,Nat.reduceEqDiff,Nat.reduceAdd,decide_true,decide_false,kLoop_def,Nat.reduceSub,List.cons_append,List.nil_append,List.append_nil,List.length_cons,List.length_nil,Env.find_set,y20,y21,y22,y23,okA_map,kUpdE,updK_ch,hup1,cob,scS,kL,Nat.zero_add]
    generalize hg3:St.put (St.put _ _ _) _ _=x
    have xn:x.n=t2.n:=by rw [← hg3];rfl
    have xm:x.m=min (min t2.m y.n) mb:=by rw [← hg3];simp only [St.put,minN_eq]
    have xg:∀ c,c≠y.n→c≠mb→x.h.get c=t2.h.get c:=fun c h1 h2=>by rw [← hg3,get_put_ne' _ _ _ _ h2,get_put_ne' _ _ _ _ h1]
    have xM:x.h.get mb=some (.map (mapE (putK ps2 (d,u) (some c)))):=by rw [← hg3];exact get_put_eq _ _ _ _ rfl (by omega)
    have xp:x.h.get y.n=some (.cells [.int .i64 (c.1:Int),.int .i64 (c.2:Int),.bool true] (tag 106)):=by rw [← hg3,get_put_ne' _ _ _ _ (by omega)];exact get_put_eq _ _ _ _ rfl (by omega)
    have x2:=(xg (w.n+1+1) (by omega) (by omega)).trans y22
    clear hg3
    simp (disch:=first|omega|(with_unfolding_all exact rfl)|(simp only[new_n,put_n,new_m];omega)|(refine put_m_le ?_;simp only[new_m];omega)) only [K41r7,res41,Abs.W,reduceIte,Nat.reduceEqDiff,Nat.reduceAdd,decide_true,decide_false,kLoop_def,Nat.reduceSub,List.cons_append,List.nil_append,List.append_nil,List.length_cons,List.length_nil,Env.find_set,xp,x2,cob,Nat.zero_add]
    have hfin:(x.put (w.n+1+1) (.cells [.int .i64 (c.1:Int),.int .i64 (c.2:Int),.bool true] (tag 106))).h.get (w.n+1+1)=some (.cells [.int .i64 (c.1:Int),.int .i64 (c.2:Int),.bool true] (tag 106)):=get_put_eq _ _ _ _ rfl (by omega)
    refine ⟨_,x.put (w.n+1+1) (.cells [.int .i64 (c.1:Int),.int .i64 (c.2:Int),.bool true] (tag 106)),leave_cell _ _ _ _ (sh:=some 3) (v:=.agg [.int .i64 (c.1:Int),.int .i64 (c.2:Int),.bool true]) (by kernel_rfl) (by simp (disch:=first|omega|(with_unfolding_all exact rfl)|(simp only[new_n,put_n,new_m];omega)|(refine put_m_le ?_;simp only[new_m];omega)) only [Abs.W,reduceIte,Nat.reduceEqDiff,Nat.reduceAdd,decide_true,decide_false,kLoop_def,Nat.reduceSub,List.cons_append,List.nil_append,List.append_nil,List.length_cons,List.length_nil,Env.find_set,hfin]),⟨fun c hc hne=>?_,by rw [put_n];omega,by rw [put_n];omega,fun h=>put_m_leP (by omega) (by omega),?_⟩,rfl,rfl,⟨_,?_,gdp⟩,.inr ?_⟩
    ·rw [get_put_ne' _ _ _ _ (by omega),xg c (by omega) hne,t2z c (by omega) hne];exact zu c hc
    ·simp only [St.put,minN_eq];omega
    ·rw [get_put_ne' _ _ _ _ (by omega)];exact xM
    ·simp only [St.put,minN_eq];omega) (by omega)
 exact ⟨t',ps',hr.symm.trans e,st,h2,h3,h4⟩
theorem choose_ex {s:Sl} (ok:s.Ok):∀ j,j≤5→ChAt s j
 | 0,_=>choose_zero ok
 | j+1,h=>choose_step ok j (by omega) (choose_ex ok j (by omega))
end Go.Proofs.Ytoolodjbfphkjaa.walk
set_option maxRecDepth 10000
namespace Go.Proofs.Ytoolodjbfphkjaa.walk
open Go.Abs Go.Proofs.Ytoolodjbfphkjaa.code
theorem checkSeals_ok {s:Sl} (ok:s.Ok) (N:Nat) (hN:4≤N) {vL vE:AV} (t:St) (hS:SealAt t.h t.n s vL vE) (ht:t.n+300≤far):call Try.prog X N (.fn 39) [.agg (sealV s vL vE)] t=.val (.int .i64 0) t:=by
 obtain ⟨N,rfl⟩:∃ n,N=n+1:=⟨N - 1,by omega⟩
 have hf:far=1000000000:=rfl
 have hn:=ok.n
 have o1:=ok.most
 have o2:=ok.days
 have o3:=ok.l0
 have o4:=ok.l1
 have o5:=ok.e0
 have o6:=ok.e1
 refine call_plain' Try.func39 (fun w wh wn wm=>?_) rfl
 rw [← wh,← wn] at hS
 have scS:=hS.scal
 have kL:∀ t,okA (.val vL t)=.val vL t:=fun t=>okA_ne hS.l.ne
 have kE:∀ t,okA (.val vE t)=.val vE t:=fun t=>okA_ne hS.e.ne
 have ll:=hS.lenL hn
 have le:=hS.lenE hn
 obtain ⟨w1,hw1⟩:∃ x:St,x=(w.new (.cells (sealV s vL vE) (tag 48))):=⟨_,rfl⟩
 have n1:w1.n=w.n+1:=by rw [hw1];rfl
 have m1:w1.m=far:=by rw [hw1];exact wm
 have g0:w1.h.get w.n=some (.cells (sealV s vL vE) (tag 48)):=by rw [hw1];exact get_new_eq _ _ _ rfl (by omega)
 have gs:∀ c,c<w.n→w1.h.get c=w.h.get c:=fun c hc=>by rw [hw1,get_new_ne _ _ _ (by omega)]
 have z0:decide ((0:Int)≠0)=false:=rfl
 have zn:decide ((s.n:Int)≠(s.n:Int))=false:=by simp
 rw [enter39]
 simp (disch:=first|omega|(with_unfolding_all exact rfl)|(simp only[new_n,put_n,new_m];omega)|(refine put_m_le ?_;simp only[new_m];omega)) only [K39,K39r0,Abs.W,reduceIte,Nat.reduceEqDiff,Nat.reduceAdd,decide_true,decide_false,kLoop_def,Nat.reduceSub,List.cons_append,List.nil_append,List.append_nil,List.length_cons,List.length_nil,Env.find_set,scS,Nat.zero_add]
 rw [← hw1]
 simp (disch:=first|omega|(with_unfolding_all exact rfl)|(simp only[new_n,put_n,new_m];omega)|(refine put_m_le ?_;simp only[new_m];omega)) only [K39r1,K39r2,K39r4,K39r6,K39r7,Abs.W,reduceIte,Nat.reduceEqDiff,Nat.reduceAdd,decide_true,decide_false,kLoop_def,Nat.reduceSub,List.cons_append,List.nil_append,List.append_nil,List.length_cons,List.length_nil,Env.find_set,g0,kL,kE,ll,le,counted_ok,within_ok,or_new2,z0,zn,endO_nil,regD_ok,Nat.zero_add]
 generalize hy:St.new _ _=y
 have yn:y.n=w.n+2:=by rw [← hy];show w1.n+1=_;omega
 have ym:y.m=far:=by rw [← hy];exact m1
 have y0:y.h.get w.n=some (.cells (sealV s vL vE) (tag 48)):=by rw [← hy,get_new_ne _ _ _ (by omega)];exact g0
 have ys:∀ c,c<w.n→y.h.get c=w.h.get c:=fun c hc=>by rw [← hy,get_new_ne _ _ _ (by omega)];exact gs c hc
 clear hy
 generalize hlp:loopN _ rounds _ _ _ _ _=q1
 obtain ⟨e,L1,t1,rfl,rfl,j1,j2,j4,jn,jk,jm,js,j0⟩:=loop_of hlp (fun i L t=>L.find 1=.ptr w.n 0∧L.find 4=.int .i64 0∧L.find 32=vL∧L.find 33=.int .i64 (s.n:Int)∧L.find 34=.int .i64 (i:Int)∧w.n≤t.n∧t.n≤w.n+2+5 * i∧w.n≤t.m∧(∀ c,c<w.n→t.h.get c=w.h.get c)∧t.h.get w.n=some (.cells (sealV s vL vE) (tag 48))∧w.n<t.n∧t.m≤far)
  (fun e L t=>e=.exit 0∧L.find 1=.ptr w.n 0∧L.find 4=.int .i64 0∧w.n<t.n∧t.n≤w.n+12∧w.n≤t.m∧t.m≤far∧(∀ c,c<w.n→t.h.get c=w.h.get c)∧t.h.get w.n=some (.cells (sealV s vL vE) (tag 48))) s.n (by unfold rounds;omega)
  ⟨by simp only [find_cons,Env.find_set,reduceIte,Nat.reduceEqDiff],by simp only [find_cons,Env.find_set,reduceIte,Nat.reduceEqDiff],by simp only [find_cons,Env.find_set,reduceIte,Nat.reduceEqDiff],by simp only [find_cons,Env.find_set,reduceIte,Nat.reduceEqDiff],by simp only [find_cons,Env.find_set,reduceIte,Nat.reduceEqDiff];rfl,by omega,by omega,by omega,ys,y0,by omega,by omega⟩
  (fun i L t hi ⟨q1,q4,q32,q33,q34,tn,tk,tm,ts,t0,tl,tf⟩=>by
   by_cases hlt:i<s.n
   ·have e0:decide ((i:Int)<(s.n:Int))=true:=decide_eq_true (by omega)
    obtain ⟨pb,pp,pc,pz,x1,x2,x3,x4⟩:=intRow_at hS.l (i:=i) (by rw [two_len hn];exact hlt)
    rw [two_get hn _ _ hlt] at x4
    have x4':nth pc pp=.int .i64 (s.lf i):=x4
    have x3':t.h.get pb=some (.cells pc pz):=(ts pb x1).trans x3
    have hb : -1≤s.lf i∧s.lf i≤10:=by unfold Sl.lf;split<;>omega
    have ad1:∀ st,aAdd st .i64 (i:Int) 1=.val (.int .i64 ((i+1:Nat):Int)) st:=fun st=>aAdd_i64 st _ _ (by omega)
    refine .inl ⟨hlt,_,t.new (.cells [.int .i64 0,.int .i64 0] 0),by
     simp (disch:=first|omega|(with_unfolding_all exact rfl)|(simp only[new_n,put_n,new_m];omega)|(refine put_m_le ?_;simp only[new_m];omega)) only [K39l0,K39r8,K39r9,K39r10,K39r11,Abs.W,reduceIte,Nat.reduceEqDiff,Nat.reduceAdd,decide_true,decide_false,kLoop_def,Nat.reduceSub,List.cons_append,List.nil_append,List.append_nil,List.length_cons,List.length_nil,Env.find_set,q1,q4,q32,q33,q34,x2,x3',x4',e0,within_ok,or_new2,ad1,Nat.zero_add]
     rfl,?_,?_,?_,?_,?_,by rw [new_n];omega,by rw [new_n];omega,by rw [new_m];exact tm,fun c hc=>by rw [get_new_ne _ _ _ (by omega)];exact ts c hc,by rw [get_new_ne _ _ _ (by omega)];exact t0,by rw [new_n];omega,by rw [new_m];exact tf⟩
    ·simp only [Env.find_set,q1,reduceIte,Nat.reduceEqDiff]
    ·simp only [Env.find_set,reduceIte,Nat.reduceEqDiff]
    ·simp only [Env.find_set,q32,reduceIte,Nat.reduceEqDiff]
    ·simp only [Env.find_set,q33,reduceIte,Nat.reduceEqDiff]
    ·simp only [Env.find_set,reduceIte,Nat.reduceEqDiff]
   ·have e0:decide ((i:Int)<(s.n:Int))=false:=decide_eq_false (by omega)
    refine .inr ⟨.exit 0,_,t,by simp,by
     simp (disch:=first|omega|(with_unfolding_all exact rfl)|(simp only[new_n,put_n,new_m];omega)|(refine put_m_le ?_;simp only[new_m];omega)) only [K39l0,K39r8,Abs.W,reduceIte,Nat.reduceEqDiff,Nat.reduceAdd,decide_true,decide_false,kLoop_def,Nat.reduceSub,List.cons_append,List.nil_append,List.append_nil,List.length_cons,List.length_nil,Env.find_set,q33,q34,e0,Nat.zero_add]
     rfl,rfl,?_,?_,tl,by omega,tm,tf,ts,t0⟩
    ·simp only [Env.find_set,q1,reduceIte,Nat.reduceEqDiff]
    ·simp only [Env.find_set,q4,reduceIte,Nat.reduceEqDiff])
 simp (disch:=first|omega|(with_unfolding_all exact rfl)|(simp only[new_n,put_n,new_m];omega)|(refine put_m_le ?_;simp only[new_m];omega)) only [K39r12,Abs.W,reduceIte,Nat.reduceEqDiff,Nat.reduceAdd,decide_true,decide_false,kLoop_def,Nat.reduceSub,List.cons_append,List.nil_append,List.append_nil,List.length_cons,List.length_nil,Env.find_set,j1,j0,kE,le,Nat.zero_add]
 generalize hlp2:loopN _ rounds _ _ _ _ _=q2
 obtain ⟨e,L2,t2,rfl,rfl,k4,km⟩:=loop_of hlp2 (fun i L t=>L.find 4=.int .i64 0∧L.find 45=vE∧L.find 46=.int .i64 (s.n:Int)∧L.find 47=.int .i64 (i:Int)∧w.n<t.n∧t.n≤w.n+12+5 * i∧w.n≤t.m∧(∀ c,c<w.n→t.h.get c=w.h.get c)∧t.m≤far)
  (fun e L t=>e=.exit 2∧L.find 4=.int .i64 0∧w.n≤t.m) s.n (by unfold rounds;omega)
  ⟨by simp only [find_cons,Env.find_set,j2,reduceIte,Nat.reduceEqDiff],by simp only [find_cons,Env.find_set,reduceIte,Nat.reduceEqDiff],by simp only [find_cons,Env.find_set,reduceIte,Nat.reduceEqDiff],by simp only [find_cons,Env.find_set,reduceIte,Nat.reduceEqDiff];rfl,by omega,by omega,by omega,js,by omega⟩
  (fun i L t hi ⟨q4,q32,q33,q34,tl,tk,tm,ts,tf⟩=>by
   by_cases hlt:i<s.n
   ·have e0:decide ((i:Int)<(s.n:Int))=true:=decide_eq_true (by omega)
    obtain ⟨pb,pp,pc,pz,x1,x2,x3,x4⟩:=intRow_at hS.e (i:=i) (by rw [two_len hn];exact hlt)
    rw [two_get hn _ _ hlt] at x4
    have x4':nth pc pp=.int .i64 (s.ev i):=x4
    have x3':t.h.get pb=some (.cells pc pz):=(ts pb x1).trans x3
    have hb:=ok_ev ok i
    have ad1:∀ st,aAdd st .i64 (i:Int) 1=.val (.int .i64 ((i+1:Nat):Int)) st:=fun st=>aAdd_i64 st _ _ (by omega)
    refine .inl ⟨hlt,_,t.new (.cells [.int .i64 0,.int .i64 0] 0),by
     simp (disch:=first|omega|(with_unfolding_all exact rfl)|(simp only[new_n,put_n,new_m];omega)|(refine put_m_le ?_;simp only[new_m];omega)) only [K39l1,K39r13,K39r14,K39r15,K39r16,Abs.W,reduceIte,Nat.reduceEqDiff,Nat.reduceAdd,decide_true,decide_false,kLoop_def,Nat.reduceSub,List.cons_append,List.nil_append,List.append_nil,List.length_cons,List.length_nil,Env.find_set,q4,q32,q33,q34,x2,x3',x4',e0,within_ok,or_new2,ad1,Nat.zero_add]
     rfl,?_,?_,?_,?_,by rw [new_n];omega,by rw [new_n];omega,by rw [new_m];exact tm,fun c hc=>by rw [get_new_ne _ _ _ (by omega)];exact ts c hc,by rw [new_m];exact tf⟩
    ·simp only [Env.find_set,reduceIte,Nat.reduceEqDiff]
    ·simp only [Env.find_set,q32,reduceIte,Nat.reduceEqDiff]
    ·simp only [Env.find_set,q33,reduceIte,Nat.reduceEqDiff]
    ·simp only [Env.find_set,reduceIte,Nat.reduceEqDiff]
   ·have e0:decide ((i:Int)<(s.n:Int))=false:=decide_eq_false (by omega)
    refine .inr ⟨.exit 2,_,t,by simp,by
     simp (disch:=first|omega|(with_unfolding_all exact rfl)|(simp only[new_n,put_n,new_m];omega)|(refine put_m_le ?_;simp only[new_m];omega)) only [K39l1,K39r13,Abs.W,reduceIte,Nat.reduceEqDiff,Nat.reduceAdd,decide_true,decide_false,kLoop_def,Nat.reduceSub,List.cons_append,List.nil_append,List.append_nil,List.length_cons,List.length_nil,Env.find_set,q33,q34,e0,Nat.zero_add]
     rfl,rfl,?_,tm⟩
    ·simp only [Env.find_set,q4,reduceIte,Nat.reduceEqDiff])
 simp (disch:=first|omega|(with_unfolding_all exact rfl)|(simp only[new_n,put_n,new_m];omega)|(refine put_m_le ?_;simp only[new_m];omega)) only [K39r17,res39,Abs.W,reduceIte,Nat.reduceEqDiff,Nat.reduceAdd,decide_true,decide_false,kLoop_def,Nat.reduceSub,List.cons_append,List.nil_append,List.append_nil,List.length_cons,List.length_nil,Env.find_set,k4]
 exact ⟨_,rfl,km⟩
def upto0 (s:Sl) (k:Nat):Int × Int:=if k=0 then (0,0) else if k=1 then (min s.l0 s.days,0) else (min s.l0 s.days,min s.l1 s.days)
theorem upto0_end {s:Sl} (hn:s.n=1∨s.n=2):upto0 s s.n=s.u0:=by
 unfold upto0 Sl.u0
 rcases hn with hn | hn<;>rw [hn]<;>rfl
theorem upto0_step (s:Sl) {k:Nat} (hk:k<2):upto0 s (k+1)=setK (upto0 s k) k (min (s.lf k) s.days):=by
 rcases (show k=0∨k=1 by omega) with rfl | rfl<;>rfl
theorem first_ok {s:Sl} (ok:s.Ok) (N:Nat) (hN:2≤N) {vL vE:AV} (mb:Nat) (t:St) (hS:SealAt t.h t.n s vL vE) (ht:t.n+300≤far):call Try.prog X N (.fn 40) [.agg (planV s vL vE mb)] t=.val (.agg (moC 0 s.u0)) t:=by
 obtain ⟨N,rfl⟩:∃ n,N=n+1:=⟨N - 1,by omega⟩
 have hf:far=1000000000:=rfl
 have hn:=ok.n
 refine call_plain' Try.func40 (fun w wh wn wm=>?_) rfl
 rw [← wh,← wn] at hS
 have scS:=hS.scal
 have kL:∀ t,okA (.val vL t)=.val vL t:=fun t=>okA_ne hS.l.ne
 have ll:=hS.lenL hn
 obtain ⟨w1,hw1⟩:∃ x:St,x=(w.new (.cells (planV s vL vE mb) (tag 100))):=⟨_,rfl⟩
 obtain ⟨w2,hw2⟩:∃ x:St,x=(w1.new (.cells [.int .i64 0,.int .i64 0,.int .i64 0,.int .i64 0,.int .i64 0] (tag 103))):=⟨_,rfl⟩
 obtain ⟨w3,hw3⟩:∃ x:St,x=(w2.new (.cells [.int .i64 0,.int .i64 0,.int .i64 0,.int .i64 0,.int .i64 0] (tag 103))):=⟨_,rfl⟩
 have n1:w1.n=w.n+1:=by rw [hw1];rfl
 have n2:w2.n=w.n+2:=by rw [hw2];show w1.n+1=_;omega
 have n3:w3.n=w.n+3:=by rw [hw3];show w2.n+1=_;omega
 have g0:w3.h.get w.n=some (.cells (planV s vL vE mb) (tag 100)):=by rw [hw3,get_new_ne _ _ _ (by omega),hw2,get_new_ne _ _ _ (by omega),hw1];exact get_new_eq _ _ _ rfl (by omega)
 have g1:w3.h.get (w.n+1)=some (.cells (moC 0 (0,0)) (tag 103)):=by rw [hw3,get_new_ne _ _ _ (by omega),hw2];exact get_new_eq _ _ _ (by omega) (by omega)
 have g2:w3.h.get (w.n+2)=some (.cells (moC 0 (0,0)) (tag 103)):=by rw [hw3];exact get_new_eq _ _ _ (by omega) (by omega)
 have gs:∀ c,c<w.n→w3.h.get c=w.h.get c:=fun c hc=>by rw [hw3,get_new_ne _ _ _ (by omega),hw2,get_new_ne _ _ _ (by omega),hw1,get_new_ne _ _ _ (by omega)]
 have m3:w3.m=far:=by rw [hw3,hw2,hw1];exact wm
 rw [enter40]
 simp (disch:=first|omega|(with_unfolding_all exact rfl)|(simp only[new_n,put_n,new_m];omega)|(refine put_m_le ?_;simp only[new_m];omega)) only [K40,K40r0,K40r1,Abs.W,reduceIte,Nat.reduceEqDiff,Nat.reduceAdd,decide_true,decide_false,kLoop_def,Nat.reduceSub,List.cons_append,List.nil_append,List.append_nil,List.length_cons,List.length_nil,Env.find_set,scS,Nat.zero_add]
 rw [← hw1,← hw2,← hw3,n1,n2]
 simp (disch:=first|omega|(with_unfolding_all exact rfl)|(simp only[new_n,put_n,new_m];omega)|(refine put_m_le ?_;simp only[new_m];omega)) only [K40r2,Abs.W,reduceIte,Nat.reduceEqDiff,Nat.reduceAdd,decide_true,decide_false,kLoop_def,Nat.reduceSub,List.cons_append,List.nil_append,List.append_nil,List.length_cons,List.length_nil,Env.find_set,g0,kL,ll,Nat.zero_add]
 generalize hlp:loopN _ rounds _ _ _ _ _=q1
 obtain ⟨e,L1,t1,rfl,rfl,j2,j3,jn,jm,j1,jg⟩:=loop_of hlp (fun i L t=>L.find 1=.ptr w.n 0∧L.find 2=.ptr (w.n+1) 0∧L.find 3=.ptr (w.n+2) 0∧L.find 8=vL∧L.find 9=.int .i64 (s.n:Int)∧L.find 10=.int .i64 (i:Int)∧t.n=w.n+3∧w.n≤t.m∧(∀ c,c<w.n→t.h.get c=w.h.get c)∧t.h.get w.n=some (.cells (planV s vL vE mb) (tag 100))∧t.h.get (w.n+1)=some (.cells (moC 0 (0,0)) (tag 103))∧t.h.get (w.n+2)=some (.cells (moC 0 (upto0 s i)) (tag 103)))
  (fun e L t=>e=.exit 0∧L.find 2=.ptr (w.n+1) 0∧L.find 3=.ptr (w.n+2) 0∧t.n=w.n+3∧w.n≤t.m∧t.h.get (w.n+1)=some (.cells (moC 0 (0,0)) (tag 103))∧t.h.get (w.n+2)=some (.cells (moC 0 s.u0) (tag 103))) s.n (by unfold rounds;omega)
  ⟨by simp only [find_cons,Env.find_set,reduceIte,Nat.reduceEqDiff],by simp only [find_cons,Env.find_set,reduceIte,Nat.reduceEqDiff],by simp only [find_cons,Env.find_set,reduceIte,Nat.reduceEqDiff],by simp only [find_cons,Env.find_set,reduceIte,Nat.reduceEqDiff],by simp only [find_cons,Env.find_set,reduceIte,Nat.reduceEqDiff],by simp only [find_cons,Env.find_set,reduceIte,Nat.reduceEqDiff];rfl,n3,by omega,gs,g0,g1,g2⟩
  (fun i L t hi ⟨q1,q2,q3,q8,q9,q10,tn,tm,ts,t0,t1,t2⟩=>by
   by_cases hlt:i<s.n
   ·have hi2:i<2:=by omega
    have e0:decide ((i:Int)<(s.n:Int))=true:=decide_eq_true (by omega)
    obtain ⟨pb,pp,pc,pz,x1,x2,x3,x4⟩:=intRow_at hS.l (i:=i) (by rw [two_len hn];exact hlt)
    rw [two_get hn _ _ hlt] at x4
    have x4':nth pc pp=.int .i64 (s.lf i):=x4
    have x3':t.h.get pb=some (.cells pc pz):=(ts pb x1).trans x3
    have ad1:∀ st,aAdd st .i64 (i:Int) 1=.val (.int .i64 ((i+1:Nat):Int)) st:=fun st=>aAdd_i64 st _ _ (by omega)
    have mn:minA (.int .i64 (s.lf i)) (.int .i64 (s.days:Int))=.int .i64 (min (s.lf i) (s.days:Int)):=minA_i64 _ _
    have ix:=fun st=>ixa41 st (w.n+2) i hi2
    obtain ⟨C,hC⟩:∃ C,C=moC 0 (upto0 s i):=⟨_,rfl⟩
    have co:over (1+i) [.int .i64 (min (s.lf i) (s.days:Int))] C=some (moC 0 (upto0 s (i+1))):=by rw [hC,upto0_step s hi2];exact mo_over hi2 _
    rw [← hC] at t2
    obtain ⟨C2,hC2⟩:∃ C,C=moC 0 (upto0 s (i+1)):=⟨_,rfl⟩
    rw [← hC2] at co
    refine .inl ⟨hlt,_,t.put (w.n+2) (.cells C2 (tag 103)),by
     simp (disch:=first|omega|(with_unfolding_all exact rfl)|(simp only[new_n,put_n,new_m];omega)|(refine put_m_le ?_;simp only[new_m];omega)) only [K40l0,K40r3,K40r4,K40r5,K40r6,Abs.W,reduceIte,Nat.reduceEqDiff,Nat.reduceAdd,decide_true,decide_false,kLoop_def,Nat.reduceSub,List.cons_append,List.nil_append,List.append_nil,List.length_cons,List.length_nil,Env.find_set,q1,q2,q3,q8,q9,q10,x2,x3',x4',e0,t0,t2,ix,kFold_def,foldA_nil,foldA_cons,mn,co,ad1,Nat.zero_add]
     rfl,?_,?_,?_,?_,?_,?_,tn,put_m_leP tm (by omega),fun c hc=>by rw [get_put_ne' _ _ _ _ (by omega)];exact ts c hc,by rw [get_put_ne' _ _ _ _ (by omega)];exact t0,by rw [get_put_ne' _ _ _ _ (by omega)];exact t1,by rw [← hC2];exact get_put_eq _ _ _ _ rfl (by omega)⟩
    ·simp only [Env.find_set,q1,reduceIte,Nat.reduceEqDiff]
    ·simp only [Env.find_set,q2,reduceIte,Nat.reduceEqDiff]
    ·simp only [Env.find_set,q3,reduceIte,Nat.reduceEqDiff]
    ·simp only [Env.find_set,q8,reduceIte,Nat.reduceEqDiff]
    ·simp only [Env.find_set,q9,reduceIte,Nat.reduceEqDiff]
    ·simp only [Env.find_set,reduceIte,Nat.reduceEqDiff]
   ·have e0:decide ((i:Int)<(s.n:Int))=false:=decide_eq_false (by omega)
    obtain rfl:i=s.n:=by omega
    refine .inr ⟨.exit 0,_,t,by simp,by
     simp (disch:=first|omega|(with_unfolding_all exact rfl)|(simp only[new_n,put_n,new_m];omega)|(refine put_m_le ?_;simp only[new_m];omega)) only [K40l0,K40r3,Abs.W,reduceIte,Nat.reduceEqDiff,Nat.reduceAdd,decide_true,decide_false,kLoop_def,Nat.reduceSub,List.cons_append,List.nil_append,List.append_nil,List.length_cons,List.length_nil,Env.find_set,q9,q10,e0,Nat.zero_add]
     rfl,rfl,?_,?_,tn,tm,t1,by rw [← upto0_end hn];exact t2⟩
    ·simp only [Env.find_set,q2,reduceIte,Nat.reduceEqDiff]
    ·simp only [Env.find_set,q3,reduceIte,Nat.reduceEqDiff])
 simp (disch:=first|omega|(with_unfolding_all exact rfl)|(simp only[new_n,put_n,new_m];omega)|(refine put_m_le ?_;simp only[new_m];omega)) only [K40r7,res40,Abs.W,reduceIte,Nat.reduceEqDiff,Nat.reduceAdd,decide_true,decide_false,kLoop_def,Nat.reduceSub,List.cons_append,List.nil_append,List.append_nil,List.length_cons,List.length_nil,Env.find_set,j2,j3,j1,jg,Nat.zero_add]
 refine ⟨_,leave_cell _ _ _ _ (sh:=some 5) (by kernel_rfl) (by simp (disch:=first|omega|(with_unfolding_all exact rfl)|(simp only[new_n,put_n,new_m];omega)|(refine put_m_le ?_;simp only[new_m];omega)) only [Abs.W,reduceIte,Nat.reduceEqDiff,Nat.reduceAdd,decide_true,decide_false,kLoop_def,Nat.reduceSub,List.cons_append,List.nil_append,List.append_nil,List.length_cons,List.length_nil,j2]),put_m_leP jm (by omega)⟩
end Go.Proofs.Ytoolodjbfphkjaa.walk
set_option maxRecDepth 10000
namespace Go.Proofs.Ytoolodjbfphkjaa.walk
open Go.Abs Go.Proofs.Ytoolodjbfphkjaa.code
theorem opt_next {s:Sl} {j d:Nat} {u:Int × Int} {c:Nat × Nat} (h:s.opt (j+1) d u=some c):c.1<2 ^ s.n∧s.okn d (s.nx d c.1 u)=true∧∃ r,s.opt j (d+1) (s.nx d c.1 u)=some r:=by
 rcases keep_fold ((List.range (2 ^ s.n)).filterMap (s.cand (s.opt j (d+1)) d u)) none with ⟨_,_,h3⟩ | ⟨c',h1,h2,_,_⟩
 ·rw [show s.opt (j+1) d u=_ from h3] at h;cases h
 ·rw [show s.opt (j+1) d u=_ from h1] at h
  injection h with h
  subst h
  rcases h2 with h2 | ⟨p,q,e1,_,_⟩
  ·cases h2
  ·have hm:c' ∈ (List.range (2 ^ s.n)).filterMap (s.cand (s.opt j (d+1)) d u):=by rw [e1];simp
   obtain ⟨set,hset,hc⟩:=List.mem_filterMap.mp hm
   obtain ⟨g1,g2,g3,r,g4,g5⟩:=cand_some hc
   rw [List.mem_range] at hset
   rw [g1]
   exact ⟨hset,g3,r,g4⟩
theorem plan_next {s:Sl} {j d:Nat} {u:Int × Int} {c:Nat × Nat} (h:s.opt (j+1) d u=some c):s.plan (j+1) d u=slotsOf s.n d c.1++s.plan j (d+1) (s.nx d c.1 u):=by
 show (match s.opt (j+1) d u with | none=>[] | some c=>slotsOf s.n d c.1++s.plan j (d+1) (s.nx d c.1 u))=_
 rw [h]
def tRow (n a:Nat):List AV:=[.int .i64 ((a / n:Nat):Int),.int .i64 ((a % n:Nat):Int)]
def tRows (n:Nat) (x:List Nat):List (List AV):=x.map (tRow n)
theorem tRows_len (n:Nat) (x:List Nat):(tRows n x).length=x.length:=List.length_map ..
theorem tRows_app (n:Nat) (x y:List Nat):tRows n (x++y)=tRows n x++tRows n y:=List.map_append ..
def slotsTo (n d set k:Nat):List Nat:=((List.range k).filter (tst n set)).map (d * n+·)
theorem slotsTo_step (n d set k:Nat):slotsTo n d set (k+1)=if tst n set k then slotsTo n d set k++[d * n+k] else slotsTo n d set k:=by
 unfold slotsTo
 rw [List.range_succ,List.filter_append,List.map_append]
 cases h:tst n set k<;>simp [h]
theorem slotsTo_len (n d set k:Nat):(slotsTo n d set k).length≤k:=by
 unfold slotsTo
 rw [List.length_map]
 exact Nat.le_trans (List.length_filter_le _ _) (by rw [List.length_range];exact Nat.le_refl _)
structure PlanS (w t:St) (s:Sl) (vL vE:AV) (d:Nat) (u:Int × Int) (k:Nat) (x:List Nat) (v:AV):Prop where
 same:∀ c,c<w.n→t.h.get c=w.h.get c
 n:w.n+4≤t.n
 le:t.n≤w.n+k
 m:w.n≤t.m
 mf:t.m≤far
 g0:t.h.get w.n=some (.cells (sealV s vL vE) (tag 48))
 gM:∃ ps,t.h.get (w.n+1)=some (.map (mapE ps))∧GoodM s ps
 g2:t.h.get (w.n+2)=some (.cells (planV s vL vE (w.n+1)) (tag 100))
 g3:t.h.get (w.n+3)=some (.cells (moC d u) (tag 103))
 l:∃ b,w.n+4≤b∧IsAt t.h t.n b 2 (tag 96) (tRows s.n x) v
theorem PlanS.grow {w t t':St} {s:Sl} {vL vE v:AV} {d k k':Nat} {u:Int × Int} {x:List Nat} (a:PlanS w t s vL vE d u k x v) (st:Stir (w.n+1) t t' k') (gM:∃ ps,t'.h.get (w.n+1)=some (.map (mapE ps))∧GoodM s ps) (hm:w.n+1≤t.m):PlanS w t' s vL vE d u (k+k') x v:=by
 have n:=a.n
 obtain ⟨b,hb,hl⟩:=a.l
 have le:=a.le
 have stn:=st.n
 have stl:=st.le
 have stm:=st.m
 have stu:=st.mle
 have mf:=a.mf
 exact ⟨fun c hc=>(st.same c (by omega) (by omega)).trans (a.same c hc),by omega,by omega,by have:=stm hm;omega,by omega,(st.same _ (by omega) (by omega)).trans a.g0,gM,(st.same _ (by omega) (by omega)).trans a.g2,(st.same _ (by omega) (by omega)).trans a.g3,⟨b,hb,hl.mono (fun h=>st.same b h (by omega)) stn⟩⟩
structure PlanT (w t:St) (s:Sl) (vL vE:AV) (d:Nat) (u:Int × Int) (k:Nat) (x:List Nat) (v:AV):Prop extends PlanS w t s vL vE d u k x v where
 mm:w.n+1≤t.m
theorem PlanT.grow {w t t':St} {s:Sl} {vL vE v:AV} {d k k':Nat} {u:Int × Int} {x:List Nat} (a:PlanT w t s vL vE d u k x v) (st:Stir (w.n+1) t t' k') (gM:∃ ps,t'.h.get (w.n+1)=some (.map (mapE ps))∧GoodM s ps):PlanT w t' s vL vE d u (k+k') x v :=
 ⟨a.toPlanS.grow st gM a.mm,st.m a.mm⟩
theorem plan_scales {s:Sl} (ok:s.Ok) (N:Nat) (hN:3≤N) (cx:Ctx) {w t:St} {vL vE v:AV} {d set k:Nat} {u:Int × Int} {x:List Nat} {L:Env} {r:R} (hr:loopN K14l0 rounds (call Try.prog X N) cx L [] t=r) (P:PlanT w t s vL vE d u k x v) (hS:SealAt w.h w.n s vL vE) (hset:set<2 ^ s.n) (hx:x.length≤100) (hs:w.n+k+1000≤far)
  (q5:L.find 5=.ptr (w.n+2) 0) (q6:L.find 6=.ptr (w.n+3) 0) (q7:L.find 7=v) (q8:L.find 8=.int .i64 (set:Int)) (q36:L.find 36=.int .i64 (s.n:Int)) (q37:L.find 37=.int .i64 0) (q1:L.find 1=.ptr w.n 0) :
  ∃ L1 t1 v1,r=.done (.exit 2) L1 [] t1∧PlanT w t1 s vL vE d u (k+20) (x++slotsOf s.n d set) v1∧L1.find 1=.ptr w.n 0∧L1.find 5=.ptr (w.n+2) 0∧L1.find 6=.ptr (w.n+3) 0∧L1.find 7=v1∧L1.find 8=.int .i64 (set:Int):=by
 have hf:far=1000000000:=rfl
 have hn:=ok.n
 have scS:=hS.scal
 have kL:∀ t,okA (.val vL t)=.val vL t:=fun t=>okA_ne hS.l.ne
 obtain ⟨e,L1,t1,rfl,rfl,v1,hP,j1,j5,j6,j7,j8⟩:=loop_of hr (fun i L t=>∃ v,PlanT w t s vL vE d u (k+10 * i) (x++slotsTo s.n d set i) v∧L.find 1=.ptr w.n 0∧L.find 5=.ptr (w.n+2) 0∧L.find 6=.ptr (w.n+3) 0∧L.find 7=v∧L.find 8=.int .i64 (set:Int)∧L.find 36=.int .i64 (s.n:Int)∧L.find 37=.int .i64 (i:Int))
  (fun e L t=>e=.exit 2∧∃ v,PlanT w t s vL vE d u (k+20) (x++slotsOf s.n d set) v∧L.find 1=.ptr w.n 0∧L.find 5=.ptr (w.n+2) 0∧L.find 6=.ptr (w.n+3) 0∧L.find 7=v∧L.find 8=.int .i64 (set:Int)) s.n (by unfold rounds;omega)
  ⟨v,by rw [show slotsTo s.n d set 0=[] from rfl,List.append_nil];exact P,q1,q5,q6,q7,q8,q36,q37⟩
  (fun i L t hi ⟨v,P,q1,q5,q6,q7,q8,q36,q37⟩=>by
   have Pn:=P.n
   have Pl:=P.le
   have Pm:=P.m
   have Pf:=P.mf
   have Pmm:=P.mm
   by_cases hlt:i<s.n
   ·have e0:decide ((i:Int)<(s.n:Int))=true:=decide_eq_true (by omega)
    have g2:=P.g2
    have g3:=P.g3
    have ad1:∀ st,aAdd st .i64 (i:Int) 1=.val (.int .i64 ((i+1:Nat):Int)) st:=fun st=>aAdd_i64 st _ _ (by omega)
    have htests:=tests_ok (s:=s) hn N (by omega) (h:=t.h) (n:=t.n) (vL:=vL) (vE:=vE) (w.n+1) set i hlt hset t (hS.grow P.same (by omega)) (by omega)
    have hstep:=slotsTo_step s.n d set i
    obtain ⟨b,hb,hI⟩:=P.l
    cases ht:tst s.n set i with
    | false =>
     rw [ht] at htests
     rw [ht] at hstep
     have hstep:slotsTo s.n d set (i+1)=slotsTo s.n d set i:=hstep
     refine .inl ⟨hlt,_,t,by
      simp (disch:=first|omega|(with_unfolding_all exact rfl)|(simp only[new_n,put_n,new_m];omega)|(refine put_m_le ?_;simp only[new_m];omega)) only [K14l0,K14r12,K14r13,K14r14,K14r16,Abs.W,reduceIte,Nat.reduceEqDiff,Nat.reduceAdd,decide_true,decide_false,kLoop_def,Nat.reduceSub,List.cons_append,List.nil_append,List.append_nil,List.length_cons,List.length_nil,Env.find_set,q1,q5,q6,q7,q8,q36,q37,e0,g2,scS,kL,htests,ad1,Nat.zero_add]
      rfl,v,by rw [hstep];exact ⟨⟨P.same,Pn,by omega,Pm,Pf,P.g0,P.gM,P.g2,P.g3,P.l⟩,Pmm⟩,?_,?_,?_,?_,?_,?_,?_⟩
     ·simp only [Env.find_set,q1,reduceIte,Nat.reduceEqDiff]
     ·simp only [Env.find_set,q5,reduceIte,Nat.reduceEqDiff]
     ·simp only [Env.find_set,q6,reduceIte,Nat.reduceEqDiff]
     ·simp only [Env.find_set,q7,reduceIte,Nat.reduceEqDiff]
     ·simp only [Env.find_set,q8,reduceIte,Nat.reduceEqDiff]
     ·simp only [Env.find_set,q36,reduceIte,Nat.reduceEqDiff]
     ·simp only [Env.find_set,reduceIte,Nat.reduceEqDiff]
    | true =>
     rw [ht] at htests
     rw [ht] at hstep
     have hstep:slotsTo s.n d set (i+1)=slotsTo s.n d set i++[d * s.n+i]:=hstep
     have hlen:=slotsTo_len s.n d set i
     obtain ⟨C,hC⟩:∃ C,C=moC d u:=⟨_,rfl⟩
     have c0:nth C 0=.int .i64 (d:Int):=by rw [hC];rfl
     rw [← hC] at g3
     obtain ⟨y,hy⟩:∃ y:St,y=t.new (.cells [.int .i64 (d:Int),.int .i64 (i:Int)] 0):=⟨_,rfl⟩
     have yn:y.n=t.n+1:=by rw [hy];rfl
     have ym:y.m=t.m:=by rw [hy];rfl
     have yg:∀ c,c<t.n→y.h.get c=t.h.get c:=fun c hc=>by rw [hy,get_new_ne _ _ _ (by omega)]
     have yp:y.h.get t.n=some (.cells [.int .i64 (d:Int),.int .i64 (i:Int)] 0):=by rw [hy];exact get_new_eq _ _ _ rfl (by omega)
     obtain ⟨s4,e4,I4,n4,g4,m4,m4'⟩:=append_at (bytes:=16) (hI.mono (fun h=>yg b h) (by omega):IsAt y.h y.n b 2 _ _ v) yp rfl rfl (by rw [tRows_len,List.length_append];omega) (by kernel_rfl) (by omega)
     rw [tRows_len] at e4
     have kv:=hI.okA
     rw [hy] at e4
     have hrow:tRows s.n (x++slotsTo s.n d set i)++[[.int .i64 (d:Int),.int .i64 (i:Int)]]=tRows s.n (x++slotsTo s.n d set (i+1)):=by
      rw [hstep,← List.append_assoc,tRows_app s.n _ [d * s.n+i]]
      unfold tRows
      rw [List.map_cons,List.map_nil]
      unfold tRow
      rw [dn_div hlt,dn_mod hlt]
     rw [hrow] at I4
     have s4g:∀ c,c<t.n→c≠b→s4.h.get c=t.h.get c:=fun c hc hcb=>(g4 c (by omega) hcb).trans (yg c hc)
     refine .inl ⟨hlt,_,s4,by
      simp (disch:=first|omega|(with_unfolding_all exact rfl)|(simp only[new_n,put_n,new_m];omega)|(refine put_m_le ?_;simp only[new_m];omega)) only [K14l0,K14r12,K14r13,K14r14,K14r15,K14r16,Abs.W,reduceIte,Nat.reduceEqDiff,Nat.reduceAdd,decide_true,decide_false,kLoop_def,Nat.reduceSub,List.cons_append,List.nil_append,List.append_nil,List.length_cons,List.length_nil,Env.find_set,q1,q5,q6,q7,q8,q36,q37,e0,g2,g3,c0,scS,kL,kv,htests,e4,ad1,Nat.zero_add]
      rfl,_,⟨⟨fun c hc=>(s4g c (by omega) (by omega)).trans (P.same c hc),by omega,by omega,?_,by omega,(s4g _ (by omega) (by omega)).trans P.g0,?_,(s4g _ (by omega) (by omega)).trans P.g2,(s4g _ (by omega) (by omega)).trans P.g3,⟨y.n,by omega,I4⟩⟩,?_⟩,?_,?_,?_,?_,?_,?_,?_⟩
     ·exact m4 _ (by omega) (by omega) (by omega)
     ·obtain ⟨ps,h1,h2⟩:=P.gM
      exact ⟨ps,(s4g _ (by omega) (by omega)).trans h1,h2⟩
     ·exact m4 _ (by omega) (by omega) (by omega)
     ·simp only [Env.find_set,q1,reduceIte,Nat.reduceEqDiff]
     ·simp only [Env.find_set,q5,reduceIte,Nat.reduceEqDiff]
     ·simp only [Env.find_set,q6,reduceIte,Nat.reduceEqDiff]
     ·simp only [Env.find_set,tRows_len,reduceIte,Nat.reduceEqDiff,new_n,yn]
     ·simp only [Env.find_set,q8,reduceIte,Nat.reduceEqDiff]
     ·simp only [Env.find_set,q36,reduceIte,Nat.reduceEqDiff]
     ·simp only [Env.find_set,reduceIte,Nat.reduceEqDiff]
   ·have e0:decide ((i:Int)<(s.n:Int))=false:=decide_eq_false (by omega)
    obtain rfl:i=s.n:=by omega
    refine .inr ⟨.exit 2,_,t,by simp,by
     simp (disch:=first|omega|(with_unfolding_all exact rfl)|(simp only[new_n,put_n,new_m];omega)|(refine put_m_le ?_;simp only[new_m];omega)) only [K14l0,K14r12,Abs.W,reduceIte,Nat.reduceEqDiff,Nat.reduceAdd,decide_true,decide_false,kLoop_def,Nat.reduceSub,List.cons_append,List.nil_append,List.append_nil,List.length_cons,List.length_nil,Env.find_set,q36,q37,e0,Nat.zero_add]
     rfl,rfl,v,⟨⟨P.same,Pn,by omega,Pm,Pf,P.g0,P.gM,P.g2,P.g3,P.l⟩,Pmm⟩,?_,?_,?_,?_,?_⟩
    ·simp only [Env.find_set,q1,reduceIte,Nat.reduceEqDiff]
    ·simp only [Env.find_set,q5,reduceIte,Nat.reduceEqDiff]
    ·simp only [Env.find_set,q6,reduceIte,Nat.reduceEqDiff]
    ·simp only [Env.find_set,q7,reduceIte,Nat.reduceEqDiff]
    ·simp only [Env.find_set,q8,reduceIte,Nat.reduceEqDiff])
 exact ⟨L1,t1,v1,rfl,hP,j1,j5,j6,j7,j8⟩
end Go.Proofs.Ytoolodjbfphkjaa.walk
set_option maxRecDepth 10000
namespace Go.Proofs.Ytoolodjbfphkjaa.walk
open Go.Abs Go.Proofs.Ytoolodjbfphkjaa.code
theorem leave_tt2 {P:Program} (a b:Nat) (L:Env) (s:St):leaveA P [.tmp a,.tmp b] L [] s=.val (.tup [L.find a,L.find b]) s:=rfl
theorem chSz_le {j:Nat} (h:j≤5):chSz j≤8263000:=by
 have:j=0∨j=1∨j=2∨j=3∨j=4∨j=5:=by omega
 rcases this with rfl | rfl | rfl | rfl | rfl | rfl<;>decide
theorem plan_day {s:Sl} (ok:s.Ok) (N:Nat) (hN:61≤N) (cx:Ctx) {w t:St} {vL vE v:AV} {d j k:Nat} {u:Int × Int} {x:List Nat} {L:Env} {c:Nat × Nat} (P:PlanT w t s vL vE d u k x v) (hS:SealAt w.h w.n s vL vE) (hd:d+(j+1)=s.days+1) (hu:∀ k, -10≤gk u k∧gk u k≤100) (ho:s.opt (j+1) d u=some c) (hx:x.length≤2 * d) (hs:w.n+k+20000000≤far)
  (q1:L.find 1=.ptr w.n 0) (q5:L.find 5=.ptr (w.n+2) 0) (q6:L.find 6=.ptr (w.n+3) 0) (q7:L.find 7=v) :
  ∃ L1 t1 v1 r,K14l1 (call Try.prog X N) cx L [] t=.done .norm L1 [] t1∧PlanT w t1 s vL vE (d+1) (s.nx d c.1 u) (k+9000000) (x++slotsOf s.n d c.1) v1∧s.opt j (d+1) (s.nx d c.1 u)=some r∧L1.find 1=.ptr w.n 0∧L1.find 5=.ptr (w.n+2) 0∧L1.find 6=.ptr (w.n+3) 0∧L1.find 7=v1∧c.1<2 ^ s.n:=by
 have hf:far=1000000000:=rfl
 have hn:=ok.n
 have od:=ok.days
 have scS:=hS.scal
 have kL:∀ t,okA (.val vL t)=.val vL t:=fun t=>okA_ne hS.l.ne
 have ll:=hS.lenL hn
 have Pn:=P.n
 have Pl:=P.le
 have Pf:=P.mf
 have g0:=P.g0
 have g2:=P.g2
 have g3:=P.g3
 obtain ⟨ps,gM,gd⟩:=P.gM
 obtain ⟨hset,hok,r,hr⟩:=opt_next ho
 have hcz:=chSz_le (j:=j+1) (by omega)
 have e0:decide ((d:Int)≤(s.days:Int))=true:=decide_eq_true (by omega)
 have fl0:∀ (a:Int) (b c:AV) (st:St),fldA none 0 st (.agg [.int .i64 a,b,c])=.val (.int .i64 a) st:=fun _ _ _ _=>rfl
 simp (disch:=first|omega|(with_unfolding_all exact rfl)|(simp only[new_n,put_n,new_m];omega)|(refine put_m_le ?_;simp only[new_m];omega)) only [K14l1,K14r9,K14r10,Abs.W,reduceIte,Nat.reduceEqDiff,Nat.reduceAdd,decide_true,decide_false,kLoop_def,Nat.reduceSub,List.cons_append,List.nil_append,List.append_nil,List.length_cons,List.length_nil,Env.find_set,q1,q5,q6,q7,g0,g2,g3,e0,scS,kL,Nat.zero_add]
 generalize hcc:call _ _ _ (.fn 41) _ _=rc
 obtain ⟨t2,ps2,rfl,s2,gM2,gd2,_⟩:=choose_ex ok (j+1) (by omega) hcc (by omega) hd hu (hS.grow P.same (Nat.le_refl _)) (by omega) (by omega) gM gd (by omega)
 have P2:=P.grow s2 ⟨ps2,gM2,gd2⟩
 have P20:=P2.g0
 have P22:=P2.g2
 have P23:=P2.g3
 have P2l:=P2.le
 rw [ho]
 unfold chC
 simp (disch:=first|omega|(with_unfolding_all exact rfl)|(simp only[new_n,put_n,new_m];omega)|(refine put_m_le ?_;simp only[new_m];omega)) only [K14r11,Abs.W,reduceIte,Nat.reduceEqDiff,Nat.reduceAdd,decide_true,decide_false,kLoop_def,Nat.reduceSub,List.cons_append,List.nil_append,List.append_nil,List.length_cons,List.length_nil,Env.find_set,q1,q5,q6,q7,fl0,P20,P22,P23,kL,ll,Nat.zero_add]
 generalize hlp:loopN _ rounds _ _ _ _ _=q1'
 obtain ⟨L3,t3,v3,rfl,P3,j1,j5,j6,j7,j8⟩:=plan_scales ok N (by omega) _ hlp P2 hS hset (by omega) (by omega)
  (by simp only [find_cons,Env.find_set,q5,reduceIte,Nat.reduceEqDiff]) (by simp only [find_cons,Env.find_set,q6,reduceIte,Nat.reduceEqDiff]) (by simp only [find_cons,Env.find_set,q7,reduceIte,Nat.reduceEqDiff]) (by simp only [find_cons,Env.find_set,reduceIte,Nat.reduceEqDiff]) (by simp only [find_cons,Env.find_set,reduceIte,Nat.reduceEqDiff]) (by simp only [find_cons,Env.find_set,reduceIte,Nat.reduceEqDiff]) (by simp only [find_cons,Env.find_set,q1,reduceIte,Nat.reduceEqDiff])
 have P3n:=P3.n
 have P3l:=P3.le
 have P3m:=P3.m
 have P3mm:=P3.mm
 have P3f:=P3.mf
 obtain ⟨R,hnx,hR⟩:=next_ok ok N (by omega) (w.n+1) d c.1 u (by omega) hu hset t3 (hS.grow P3.same (by omega)) (by omega)
 rw [hok] at hnx
 rw [hok,if_pos rfl] at hR
 subst hR
 have P32:=P3.g2
 have P33:=P3.g3
 have ex0:∀ (a b:AV) (st:St),extA 0 st (.tup [a,b])=.val a st:=fun _ _ _=>rfl
 have ex1:∀ (a b:AV) (st:St),extA 1 st (.tup [a,b])=.val b st:=fun _ _ _=>rfl
 have okt:∀ (l:List AV) (st:St),okA (.val (.tup l) st)=.val (.tup l) st:=fun _ _=>rfl
 obtain ⟨z,hz⟩:∃ z:St,z=t3.put (w.n+3) (.cells (moC (d+1) (s.nx d c.1 u)) (tag 103)):=⟨_,rfl⟩
 have zg:∀ x,x≠w.n+3→z.h.get x=t3.h.get x:=fun x hx=>by rw [hz,get_put_ne' _ _ _ _ hx]
 have zn:z.n=t3.n:=by rw [hz];rfl
 have zm:z.m=min t3.m (w.n+3):=by rw [hz];simp only [St.put,minN_eq]
 refine ⟨_,z,v3,r,by
  simp (disch:=first|omega|(with_unfolding_all exact rfl)|(simp only[new_n,put_n,new_m];omega)|(refine put_m_le ?_;simp only[new_m];omega)) only [K14r17,Abs.W,reduceIte,Nat.reduceEqDiff,Nat.reduceAdd,decide_true,decide_false,kLoop_def,Nat.reduceSub,List.cons_append,List.nil_append,List.append_nil,List.length_cons,List.length_nil,Env.find_set,j1,j5,j6,j7,j8,P32,P33,scS,kL,hnx,ex0,ex1,okt,Nat.zero_add]
  rw [hz],⟨⟨fun x hx=>(zg x (by omega)).trans (P3.same x hx),by omega,by omega,by omega,by omega,(zg _ (by omega)).trans P3.g0,?_,(zg _ (by omega)).trans P3.g2,?_,?_⟩,by omega⟩,hr,?_,?_,?_,?_,hset⟩
 ·obtain ⟨ps3,h1,h2⟩:=P3.gM
  exact ⟨ps3,(zg _ (by omega)).trans h1,h2⟩
 ·rw [hz];exact get_put_eq _ _ _ _ rfl (by omega)
 ·obtain ⟨b,hb,hI⟩:=P3.l
  exact ⟨b,hb,hI.mono (fun h=>zg b (by omega)) (by omega)⟩
 ·simp only [Env.find_set,j1,reduceIte,Nat.reduceEqDiff]
 ·simp only [Env.find_set,j5,reduceIte,Nat.reduceEqDiff]
 ·simp only [Env.find_set,j6,reduceIte,Nat.reduceEqDiff]
 ·simp only [Env.find_set,j7,reduceIte,Nat.reduceEqDiff]
theorem Plan_ex {s:Sl} (ok:s.Ok) {N:Nat} (hN:62≤N) {vL vE:AV} {t:St} {r:ARes} (hr:call Try.prog X N (.fn 14) [.agg (sealV s vL vE)] t=r) (hS:SealAt t.h t.n s vL vE) (ht:t.n+100000000≤far) :
  ∃ v e t',r=.val (.tup [v,.int .i64 e]) t'∧New t t' 80000000∧((s.opt (s.days+1) 0 s.u0=none∧v=.nilslice∧e=3)∨(∃ c,s.opt (s.days+1) 0 s.u0=some c∧e=0∧∃ b,t.n≤b∧IsAt t'.h t'.n b 2 (tag 96) (tRows s.n (s.plan (s.days+1) 0 s.u0)) v)):=by
 obtain ⟨N,rfl⟩:∃ n,N=n+1:=⟨N - 1,by omega⟩
 have hf:far=1000000000:=rfl
 have hn:=ok.n
 have od:=ok.days
 obtain ⟨v',t',e1,st,v,e,rfl,hq⟩:=call_new' (n:=N) (args:=[.agg (sealV s vL vE)]) (s:=t) (k:=80000000) (Q:=fun v' h m=>∃ v e,v'=.tup [v,.int .i64 e]∧((s.opt (s.days+1) 0 s.u0=none∧v=.nilslice∧e=3)∨(∃ c,s.opt (s.days+1) 0 s.u0=some c∧e=0∧∃ b,t.n≤b∧IsAt h m b 2 (tag 96) (tRows s.n (s.plan (s.days+1) 0 s.u0)) v))) Try.func14 rfl (fun w wh wn wm=>by
  rw [← wh,← wn] at hS
  rw [← wn] at ht ⊢
  have scS:=hS.scal
  have kL:∀ t,okA (.val vL t)=.val vL t:=fun t=>okA_ne hS.l.ne
  rw [enter14]
  obtain ⟨w1,hw1⟩:∃ x:St,x=(w.new (.cells (sealV s vL vE) (tag 48))):=⟨_,rfl⟩
  have n1:w1.n=w.n+1:=by rw [hw1];rfl
  have m1:w1.m=far:=by rw [hw1];exact wm
  have w10:w1.h.get w.n=some (.cells (sealV s vL vE) (tag 48)):=by rw [hw1];exact get_new_eq _ _ _ rfl (by omega)
  have w1g:∀ c,c<w.n→w1.h.get c=w.h.get c:=fun c hc=>by rw [hw1,get_new_ne _ _ _ (by omega)]
  have hck:=checkSeals_ok ok N (by omega) w1 (hS.grow w1g (by omega)) (by omega)
  obtain ⟨w2,hw2⟩:∃ x:St,x=w1.new (.map []):=⟨_,rfl⟩
  obtain ⟨w3,hw3⟩:∃ x:St,x=(w2.new (.cells [.nilslice,.nilslice,.int .i64 0,.int .i64 0,.nilmap] (tag 100))).put w2.n (.cells (planV s vL vE w1.n) (tag 100)):=⟨_,rfl⟩
  have n2:w2.n=w.n+2:=by rw [hw2];show w1.n+1=_;omega
  have n3:w3.n=w.n+3:=by rw [hw3];show w2.n+1=_;omega
  have m3:w3.m=min far (w.n+2):=by rw [hw3];simp only [St.put,minN_eq,new_m];rw [hw2];simp only [new_m,new_n,m1,n1]
  have w2g:∀ c,c<w1.n→w2.h.get c=w1.h.get c:=fun c hc=>by rw [hw2,get_new_ne _ _ _ (by omega)]
  have w3g:∀ c,c<w2.n→w3.h.get c=w2.h.get c:=fun c hc=>by rw [hw3,get_put_ne' _ _ _ _ (by omega),get_new_ne _ _ _ (by omega)]
  have w3M:w3.h.get (w.n+1)=some (.map (mapE [])):=(w3g _ (by omega)).trans (by rw [hw2];exact get_new_eq _ _ _ (by omega) (by omega))
  have w32:w3.h.get (w.n+2)=some (.cells (planV s vL vE (w.n+1)) (tag 100)):=by rw [hw3,← n2,← n1];exact get_put_eq _ _ _ _ rfl (by omega)
  have w30:w3.h.get w.n=some (.cells (sealV s vL vE) (tag 48)):=(w3g _ (by omega)).trans ((w2g _ (by omega)).trans w10)
  have w3s:∀ c,c<w.n→w3.h.get c=w.h.get c:=fun c hc=>(w3g _ (by omega)).trans ((w2g _ (by omega)).trans (w1g c hc))
  have hfi:=first_ok ok N (by omega) (w.n+1) w3 (hS.grow w3s (by omega)) (by omega)
  have z0:decide ((0:Int)≠0)=false:=rfl
  have fl2:∀ (a b:AV) (c:Bool) (st:St),fldA none 2 st (.agg [a,b,.bool c])=.val (.bool c) st:=fun _ _ _ _=>rfl
  have nt:∀ (b:Bool) st,notA st (.bool b)=.val (.bool !b) st:=fun _ _=>rfl
  have kmp:∀ (L:Env) (s:St),kMap L s=.val (.map s.n) (s.new (.map [])):=fun _ _=>rfl
  have cem:∀ b:Nat,cellsOf 1 (.map b)=some [.map b]:=fun _=>rfl
  have scm:∀ (b:Nat) (l:List AV),scalars (.map b::l)=scalars l:=fun _ _=>rfl
  simp (disch:=first|omega|(with_unfolding_all exact rfl)|(simp only[new_n,put_n,new_m];omega)|(refine put_m_le ?_;simp only[new_m];omega)) only [K14,K14r0,Abs.W,reduceIte,Nat.reduceEqDiff,Nat.reduceAdd,decide_true,decide_false,kLoop_def,Nat.reduceSub,List.cons_append,List.nil_append,List.append_nil,List.length_cons,List.length_nil,Env.find_set,scS,Nat.zero_add]
  rw [← hw1]
  simp (disch:=first|omega|(with_unfolding_all exact rfl)|(simp only[new_n,put_n,new_m];omega)|(refine put_m_le ?_;simp only[new_m];omega)) only [K14r1,K14r2,K14r4,Abs.W,reduceIte,Nat.reduceEqDiff,Nat.reduceAdd,decide_true,decide_false,kLoop_def,Nat.reduceSub,List.cons_append,List.nil_append,List.append_nil,List.length_cons,List.length_nil,Env.find_set,w10,hck,z0,scS,kL,kmp,okA_map,cem,scm,Nat.zero_add]
  rw [← hw2]
  generalize hgz:St.put (St.new _ _) _ _=z
  obtain rfl:w3=z:=hw3.trans hgz
  clear hgz
  rw [n2]
  simp (disch:=first|omega|(with_unfolding_all exact rfl)|(simp only[new_n,put_n,new_m];omega)|(refine put_m_le ?_;simp only[new_m];omega)) only [K14r5,Abs.W,reduceIte,Nat.reduceEqDiff,Nat.reduceAdd,decide_true,decide_false,kLoop_def,Nat.reduceSub,List.cons_append,List.nil_append,List.append_nil,List.length_cons,List.length_nil,Env.find_set,w32,hfi,scS,kL,okA_map,scm,Nat.zero_add]
  obtain ⟨w4,hw4⟩:∃ x:St,x=(w3.new (.cells [.int .i64 0,.int .i64 0,.int .i64 0,.int .i64 0,.int .i64 0] (tag 103))).put w3.n (.cells (moC 0 s.u0) (tag 103)):=⟨_,rfl⟩
  generalize hgz:St.put (St.new _ _) _ _=z
  obtain rfl:w4=z:=hw4.trans hgz
  clear hgz
  have n4:w4.n=w.n+4:=by rw [hw4];show w3.n+1=_;omega
  have m4:w4.m=min far (w.n+2):=by rw [hw4];simp only [St.put,minN_eq,new_m];omega
  have w4g:∀ c,c<w3.n→w4.h.get c=w3.h.get c:=fun c hc=>by rw [hw4,get_put_ne' _ _ _ _ (by omega),get_new_ne _ _ _ (by omega)]
  have w43:w4.h.get (w.n+3)=some (.cells (moC 0 s.u0) (tag 103)):=by rw [← n3,hw4];exact get_put_eq _ _ _ _ rfl (by omega)
  have w42:=(w4g (w.n+2) (by omega)).trans w32
  have hP:PlanT w w4 s vL vE 0 s.u0 4 [] .nilslice:=⟨⟨fun c hc=>(w4g c (by omega)).trans (w3s c hc),by omega,by omega,by omega,by omega,(w4g _ (by omega)).trans w30,⟨[],(w4g _ (by omega)).trans w3M,fun _ h=>(by cases h)⟩,w42,w43,⟨w.n+4,Nat.le_refl _,IsAt.nil _ _ _ _ _⟩⟩,by omega⟩
  clear hw4
  rw [n3]
  simp (disch:=first|omega|(with_unfolding_all exact rfl)|(simp only[new_n,put_n,new_m];omega)|(refine put_m_le ?_;simp only[new_m];omega)) only [K14r6,Abs.W,reduceIte,Nat.reduceEqDiff,Nat.reduceAdd,decide_true,decide_false,kLoop_def,Nat.reduceSub,List.cons_append,List.nil_append,List.append_nil,List.length_cons,List.length_nil,Env.find_set,w42,w43,scS,kL,okA_map,scm,Nat.zero_add]
  generalize hcc:call _ _ _ (.fn 41) _ _=rc
  have hu0:∀ k, -10≤gk s.u0 k∧gk s.u0 k≤100:=fun k=>by
   have:=ok.l0
   have:=ok.l1
   unfold Sl.u0 gk
   split
   ·show -10≤min s.l0 (s.days:Int)∧min s.l0 (s.days:Int)≤100;omega
   ·show -10≤(if s.n=2 then min s.l1 (s.days:Int) else 0)∧(if s.n=2 then min s.l1 (s.days:Int) else 0)≤100
    split<;>omega
  have hcz:=chSz_le (j:=s.days+1) (by omega)
  obtain ⟨t2,ps2,rfl,s2,gM2,gd2,_⟩:=choose_ex ok (s.days+1) (by omega) hcc (by omega) (by omega) hu0 (hS.grow hP.same (Nat.le_refl _)) (by omega) (by omega) ((w4g _ (by omega)).trans w3M) (fun _ h=>(by cases h)) (by omega)
  have hP2:=hP.grow s2 ⟨ps2,gM2,gd2⟩
  have P2n:=hP2.n
  have P2l:=hP2.le
  have P2m:=hP2.m
  have P2f:=hP2.mf
  cases ho:s.opt (s.days+1) 0 s.u0 with
  | none =>
   unfold chC
   simp (disch:=first|omega|(with_unfolding_all exact rfl)|(simp only[new_n,put_n,new_m];omega)|(refine put_m_le ?_;simp only[new_m];omega)) only [K14r7,res14,Abs.W,reduceIte,Nat.reduceEqDiff,Nat.reduceAdd,decide_true,decide_false,kLoop_def,Nat.reduceSub,List.cons_append,List.nil_append,List.append_nil,List.length_cons,List.length_nil,Env.find_set,fl2,nt,Nat.zero_add]
   exact ⟨_,t2,rfl,⟨hP2.same,by omega,by omega,P2m,P2f⟩,⟨_,_,rfl,.inl ⟨by trivial,rfl,rfl⟩⟩,fun _=>⟨_,_,rfl,.inl ⟨by trivial,rfl,rfl⟩⟩⟩
  | some c =>
   unfold chC
   simp (disch:=first|omega|(with_unfolding_all exact rfl)|(simp only[new_n,put_n,new_m];omega)|(refine put_m_le ?_;simp only[new_m];omega)) only [K14r8,Abs.W,reduceIte,Nat.reduceEqDiff,Nat.reduceAdd,decide_true,decide_false,kLoop_def,Nat.reduceSub,List.cons_append,List.nil_append,List.append_nil,List.length_cons,List.length_nil,Env.find_set,fl2,nt,Nat.zero_add]
   generalize hlp:loopN _ rounds _ _ _ _ _=q1
   obtain ⟨e,L1,t1,rfl,rfl,v1,l7,hB,b,hb,hI⟩:=loop_of hlp (fun i L t=>∃ u x v c,PlanT w t s vL vE i u (8263004+9000000 * i) x v∧s.opt (s.days+1 - i) i u=some c∧(∀ k, -10≤gk u k∧gk u k≤100)∧x.length≤2 * i∧x++s.plan (s.days+1 - i) i u=s.plan (s.days+1) 0 s.u0∧L.find 1=.ptr w.n 0∧L.find 5=.ptr (w.n+2) 0∧L.find 6=.ptr (w.n+3) 0∧L.find 7=v)
    (fun e L t=>e=.exit 0∧∃ v,L.find 7=v∧Beside w t 80000000∧∃ b,w.n≤b∧IsAt t.h t.n b 2 (tag 96) (tRows s.n (s.plan (s.days+1) 0 s.u0)) v) (s.days+1) (by unfold rounds;omega)
    ⟨s.u0,[],.nilslice,c,⟨⟨hP2.same,P2n,by omega,P2m,P2f,hP2.g0,hP2.gM,hP2.g2,hP2.g3,hP2.l⟩,hP2.mm⟩,ho,hu0,Nat.le_refl _,rfl,by simp only [find_cons,Env.find_set,reduceIte,Nat.reduceEqDiff],by simp only [find_cons,Env.find_set,reduceIte,Nat.reduceEqDiff],by simp only [find_cons,Env.find_set,reduceIte,Nat.reduceEqDiff],by simp only [find_cons,Env.find_set,reduceIte,Nat.reduceEqDiff]⟩
    (fun i L t hi ⟨u,x,v,c,P,hc,hu,hx,hpl,q1,q5,q6,q7⟩=>by
     obtain ⟨K,hK⟩:∃ K,K=8263004+9000000 * i:=⟨_,rfl⟩
     rw [← hK] at P
     have hK2:K≤53263004:=by omega
     have hK4:K+20000000≤100000000:=by omega
     have hK3:w.n+K+20000000≤far:=by rw [Nat.add_assoc];exact Nat.le_trans (Nat.add_le_add_left hK4 _) ht
     by_cases hlt:i<s.days+1
     ·obtain ⟨j,hj⟩:∃ j,s.days+1 - i=j+1:=⟨s.days - i,by omega⟩
      rw [hj] at hc hpl
      obtain ⟨L1,t1,v1,r,b1,b2,b3,b4,b5,b6,b7,b8⟩:=plan_day ok N (by omega) _ P hS (by omega) hu hc hx hK3 q1 q5 q6 q7
      have hsl:=slots_len (d:=i) hn b8
      have hpp:pop c.1≤2:=by unfold pop;omega
      refine .inl ⟨hlt,L1,t1,b1,s.nx i c.1 u,_,v1,r,⟨⟨b2.same,b2.n,by have:=b2.le;rw [show 8263004+9000000 * (i+1)=K+9000000 by omega];exact this,b2.m,b2.mf,b2.g0,b2.gM,b2.g2,b2.g3,b2.l⟩,b2.mm⟩,by rw [show s.days+1 - (i+1)=j by omega];exact b3,nx_bound ok (by omega) hu,by rw [List.length_append];omega,?_,b4,b5,b6,b7⟩
      rw [show s.days+1 - (i+1)=j by omega,List.append_assoc,← plan_next hc]
      exact hpl
     ·obtain rfl:i=s.days+1:=by omega
      have e0:decide (((s.days+1:Nat):Int)≤(s.days:Int))=false:=decide_eq_false (by omega)
      have g0:=P.g0
      have g3:=P.g3
      have Pn:=P.n
      have Pl:=P.le
      rw [Nat.sub_self] at hpl
      have hxe:x=s.plan (s.days+1) 0 s.u0:=by rw [← hpl];exact (List.append_nil x).symm
      obtain ⟨b,hb,hI⟩:=P.l
      refine .inr ⟨.exit 0,_,t,by simp,by
       simp (disch:=first|omega|(with_unfolding_all exact rfl)|(simp only[new_n,put_n,new_m];omega)|(refine put_m_le ?_;simp only[new_m];omega)) only [K14l1,K14r9,Abs.W,reduceIte,Nat.reduceEqDiff,Nat.reduceAdd,decide_true,decide_false,kLoop_def,Nat.reduceSub,List.cons_append,List.nil_append,List.append_nil,List.length_cons,List.length_nil,Env.find_set,q1,q6,g0,g3,e0,Nat.zero_add]
       rfl,rfl,v,?_,⟨P.same,by omega,Nat.le_trans Pl (Nat.add_le_add_left (by omega) _),P.m,P.mf⟩,b,by omega,by rw [← hxe];exact hI⟩
      simp only [Env.find_set,q7,reduceIte,Nat.reduceEqDiff])
   have kv:=hI.okA
   simp (disch:=first|omega|(with_unfolding_all exact rfl)|(simp only[new_n,put_n,new_m];omega)|(refine put_m_le ?_;simp only[new_m];omega)) only [K14r18,res14,Abs.W,reduceIte,Nat.reduceEqDiff,Nat.reduceAdd,decide_true,decide_false,kLoop_def,Nat.reduceSub,List.cons_append,List.nil_append,List.append_nil,List.length_cons,List.length_nil,Env.find_set,l7,kv,leave_tt2,Env.find_set]
   refine ⟨_,t1,rfl,hB,⟨v1,0,rfl,.inr ⟨c,rfl,rfl,b,hb,hI⟩⟩,fun hp=>⟨v1,0,rfl,.inr ⟨c,rfl,rfl,b,hb,?_⟩⟩⟩
   rcases hI.is with ⟨z1,z2⟩ | ⟨_,_,z2,_⟩
   ·rw [z1,z2];exact IsAt.nil _ _ _ _ _
   ·rw [z2] at hp;cases hp)
 exact ⟨v,e,t',hr.symm.trans e1,st,hq⟩
end Go.Proofs.Ytoolodjbfphkjaa.walk
set_option maxRecDepth 10000
namespace Go.Proofs.Ytoolodjbfphkjaa.walk
open Go.Abs Go.Proofs.Ytoolodjbfphkjaa.code
def Die (d:Nat) (h:Heap):Prop:=∃ f,h.get d=some (.cells [.int .u64 f] (tag 77))
theorem roll_ex {N d:Nat} {s:St} {r:ARes} (hr:call Try.prog X N (.fn 26) [.ptr d 0] s=r) (hN:1≤N) (hd:Die d s.h) (hlt:d<s.n) (hs:s.n+10≤far) :
  ∃ x t,r=.val (.int .u64 x) t∧Stir d s t 0∧Die d t.h∧0≤x∧x≤18446744073709551615:=by
 obtain ⟨n,rfl⟩:∃ n,N=n+1:=⟨N - 1,by omega⟩
 have hf:far=1000000000:=rfl
 obtain ⟨f,hg⟩:=hd
 obtain ⟨v,t,e,st,⟨x,rfl,x0,x1⟩,hd'⟩:=call_stir_plain (n:=n) (args:=[.ptr d 0]) (d:=d) (k:=0) (Q:=fun v=>∃ x,v=.int .u64 x∧0≤x∧x≤18446744073709551615) (R:=Die d) Try.func26 ⟨f,hg⟩ (fun u uh un um=>by
  rw [← uh] at hg
  rw [enter26]
  simp (disch:=first|omega|(with_unfolding_all exact rfl)|(simp only[new_n,put_n,new_m];omega)|(refine put_m_le ?_;simp only[new_m];omega)) only [res26,K26r0,K26r1,K26r2,K26r3,K26r4,K26r5,K26,Abs.W,reduceIte,Nat.reduceEqDiff,Nat.reduceAdd,decide_true,decide_false,kLoop_def,Nat.reduceSub,List.cons_append,List.nil_append,List.append_nil,List.length_cons,List.length_nil,hg,Nat.zero_add,ints_u64,kShr_def,shrA_u64,aAdd_def,aMul_def,aXor_def]
  refine ⟨_,_,rfl,(Stir.refl d u).put (by omega) _ (.inl rfl),rfl,⟨_,rfl,?_⟩,⟨_,get_put_eq _ _ _ _ rfl (by omega)⟩⟩
  exact xorI_range _ _) (by omega)
 exact ⟨x,t,hr.symm.trans e,st,hd',x0,x1⟩
theorem cast_ex {N d:Nat} {n:Int} {s:St} {r:ARes} (hr:call Try.prog X N (.fn 18) [.ptr d 0,.int .i64 n] s=r) (hN:2≤N) (hd:Die d s.h) (hlt:d<s.n) (hs:s.n+100≤far) (hn:n≤4000000000) :
  ∃ x t,r=.val (.int .i64 x) t∧Stir d s t 0∧Die d t.h∧0≤x∧(x<n∨x=0):=by
 obtain ⟨m,rfl⟩:∃ m,N=m+1:=⟨N - 1,by omega⟩
 have hf:far=1000000000:=rfl
 obtain ⟨v,t,e,st,⟨x,rfl,x0,x1⟩,hd'⟩:=call_stir_plain (n:=m) (args:=[.ptr d 0,.int .i64 n]) (d:=d) (k:=0) (Q:=fun v=>∃ x,v=.int .i64 x∧0≤x∧(x<n∨x=0)) (R:=Die d) Try.func18 hd (fun u uh un um=>by
  rw [← uh] at hd
  rw [enter18]
  by_cases hlow:n<2
  ·have e0:decide (n<2)=true:=by simpa using hlow
   simp (disch:=first|omega|(with_unfolding_all exact rfl)|(simp only[new_n,put_n,new_m];omega)|(refine put_m_le ?_;simp only[new_m];omega)) only [res18,K18r0,K18r1,K18r2,K18r3,K18,Abs.W,reduceIte,Nat.reduceEqDiff,Nat.reduceAdd,decide_true,decide_false,kLoop_def,Nat.reduceSub,List.cons_append,List.nil_append,List.append_nil,List.length_cons,List.length_nil,e0]
   exact ⟨_,_,rfl,Stir.refl d u,rfl,⟨0,rfl,by omega,.inr rfl⟩,hd⟩
  ·have e0:decide (n<2)=false:=by simpa using hlow
   simp (disch:=first|omega|(with_unfolding_all exact rfl)|(simp only[new_n,put_n,new_m];omega)|(refine put_m_le ?_;simp only[new_m];omega)) only [res18,K18r0,K18r1,K18r2,K18r3,K18,Abs.W,reduceIte,Nat.reduceEqDiff,Nat.reduceAdd,decide_true,decide_false,kLoop_def,Nat.reduceSub,List.cons_append,List.nil_append,List.append_nil,List.length_cons,List.length_nil,e0]
   generalize hc:call _ _ _ (.fn 26) _ _=r1
   obtain ⟨y,w,rfl,sw,dw,y0,y1⟩:=roll_ex hc (by omega) hd (by omega) (by omega)
   have q0:0≤shrI y 2:=shrI_nonneg _ _ y0
   have q2:0≤(shrI y 2).tmod n:=Int.tmod_nonneg _ q0
   have q3:(shrI y 2).tmod n<n:=Int.tmod_lt_of_pos _ (by omega)
   have w1:wrapA .u64 n=n:=wrap_u64 n (by omega)
   have w2:wrapA .i64 ((shrI y 2).tmod n)=(shrI y 2).tmod n:=wrap_in _ (by omega)
   have w3:∀ s,aRem s .u64 (shrI y 2) n=.val (.int .u64 ((shrI y 2).tmod n)) s:=fun s=>aRem_ne s _ _ _ (by omega)
   simp (disch:=first|omega|(with_unfolding_all exact rfl)|(simp only[new_n,put_n,new_m];omega)|(refine put_m_le ?_;simp only[new_m];omega)) only [res18,K18r0,K18r1,K18r2,K18r3,K18,Abs.W,reduceIte,Nat.reduceEqDiff,Nat.reduceAdd,decide_true,decide_false,kLoop_def,Nat.reduceSub,List.cons_append,List.nil_append,List.append_nil,List.length_cons,List.length_nil,ints_u64,kShr_def,shrA_u64,cviA_int,w1,w2,w3]
   exact ⟨_,_,rfl,sw,rfl,⟨_,rfl,q2,.inl q3⟩,dw⟩) (by omega)
 exact ⟨x,t,hr.symm.trans e,st,hd',x0,x1⟩
theorem from_ex {N d:Nat} {lo hi:Int} {s:St} {r:ARes} (hr:call Try.prog X N (.fn 19) [.ptr d 0,.int .i64 lo,.int .i64 hi] s=r) (hN:3≤N) (hd:Die d s.h) (hlt:d<s.n) (hs:s.n+200≤far)
  (h0 : -100000000≤lo) (h1:lo≤100000000) (h2 : -100000000≤hi) (h3:hi≤100000000) :
  ∃ x t,r=.val (.int .i64 x) t∧Stir d s t 0∧Die d t.h∧lo≤x∧(x≤hi∨x=lo):=by
 obtain ⟨m,rfl⟩:∃ m,N=m+1:=⟨N - 1,by omega⟩
 have hf:far=1000000000:=rfl
 obtain ⟨v,t,e,st,⟨x,rfl,x0,x1⟩,hd'⟩:=call_stir_plain (n:=m) (args:=[.ptr d 0,.int .i64 lo,.int .i64 hi]) (d:=d) (k:=0) (Q:=fun v=>∃ x,v=.int .i64 x∧lo≤x∧(x≤hi∨x=lo)) (R:=Die d) Try.func19 hd (fun u uh un um=>by
  rw [← uh] at hd
  have a1:∀ s,aSub s .i64 hi lo=.val (.int .i64 (hi - lo)) s:=fun s=>aSub_i64 s _ _ (by omega)
  have a2:∀ s,aAdd s .i64 (hi - lo) 1=.val (.int .i64 (hi - lo+1)) s:=fun s=>aAdd_i64 s _ _ (by omega)
  rw [enter19]
  simp (disch:=first|omega|(with_unfolding_all exact rfl)|(simp only[new_n,put_n,new_m];omega)|(refine put_m_le ?_;simp only[new_m];omega)) only [res19,K19r0,K19r1,K19,Abs.W,reduceIte,Nat.reduceEqDiff,Nat.reduceAdd,decide_true,decide_false,kLoop_def,Nat.reduceSub,List.cons_append,List.nil_append,List.append_nil,List.length_cons,List.length_nil,a1,a2]
  generalize hc:call _ _ _ (.fn 18) _ _=r1
  obtain ⟨y,w,rfl,sw,dw,y0,y1⟩:=cast_ex hc (by omega) hd (by omega) (by omega) (by omega)
  have a3:∀ s,aAdd s .i64 lo y=.val (.int .i64 (lo+y)) s:=fun s=>aAdd_i64 s _ _ (by omega)
  simp (disch:=first|omega|(with_unfolding_all exact rfl)|(simp only[new_n,put_n,new_m];omega)|(refine put_m_le ?_;simp only[new_m];omega)) only [res19,K19r0,K19r1,K19,Abs.W,reduceIte,Nat.reduceEqDiff,Nat.reduceAdd,decide_true,decide_false,kLoop_def,Nat.reduceSub,List.cons_append,List.nil_append,List.append_nil,List.length_cons,List.length_nil,a3]
  exact ⟨_,_,rfl,sw,rfl,⟨_,rfl,by omega,by omega⟩,dw⟩) (by omega)
 exact ⟨x,t,hr.symm.trans e,st,hd',x0,x1⟩
theorem nth_ints:∀ {l:List Int} {i:Nat},i<l.length→∃ x ∈ l,nth (l.map fun x=>AV.int .i64 x) i=.int .i64 x
 | [],i,h=>by simp at h
 | a::l,0,_=>⟨a,List.mem_cons_self ..,rfl⟩
 | a::l,i+1,h=>by
  obtain ⟨x,hx,e⟩:=nth_ints (l:=l) (i:=i) (by simpa using h)
  exact ⟨x,List.mem_cons_of_mem _ hx,e⟩
theorem one_ex {N d b:Nat} {k sz:Nat} (l:List Int) {s:St} {r:ARes} (hr:call Try.prog X N (.fn 21) [.ptr d 0,.slice b 0 k k false] s=r) (hN:3≤N) (hd:Die d s.h) (hlt:d<s.n) (hs:s.n+200≤far)
  (hb:s.h.get b=some (.cells (l.map fun x=>AV.int .i64 x) sz)) (hbn:b<s.n) (hbd:b≠d) (hl:l.length=k) (h0:0<k) (hk:k≤1000) :
  ∃ x t,r=.val (.int .i64 x) t∧Stir d s t 0∧Die d t.h∧x ∈ l:=by
 obtain ⟨m,rfl⟩:∃ m,N=m+1:=⟨N - 1,by omega⟩
 have hf:far=1000000000:=rfl
 obtain ⟨v,t,e,st,⟨x,rfl,hx⟩,hd'⟩:=call_stir_plain (n:=m) (args:=[.ptr d 0,.slice b 0 k k false]) (d:=d) (k:=0) (Q:=fun v=>∃ x,v=.int .i64 x∧x ∈ l) (R:=Die d) Try.func21 hd (fun u uh un um=>by
  rw [← uh] at hd hb
  have e0:decide ((k:Int)=0)=false:=by simp;omega
  rw [enter21]
  simp (disch:=first|omega|(with_unfolding_all exact rfl)|(simp only[new_n,put_n,new_m];omega)|(refine put_m_le ?_;simp only[new_m];omega)) only [res21,K21r0,K21r1,K21r2,K21r3,K21,Abs.W,reduceIte,Nat.reduceEqDiff,Nat.reduceAdd,decide_true,decide_false,kLoop_def,Nat.reduceSub,List.cons_append,List.nil_append,List.append_nil,List.length_cons,List.length_nil,e0]
  generalize hc:call _ _ _ (.fn 18) _ _=r1
  obtain ⟨y,w,rfl,sw,dw,y0,y1⟩:=cast_ex hc (by omega) hd (by omega) (by omega) (by omega)
  obtain ⟨i,rfl⟩:∃ i:Nat,y=i:=⟨y.toNat,by omega⟩
  have hi:i<k:=by omega
  obtain ⟨x,hx,hn⟩:=nth_ints (l:=l) (i:=i) (by omega)
  have hg:w.h.get b=some (.cells (l.map fun x=>AV.int .i64 x) sz):=by rw [sw.same b (by omega) hbd];exact hb
  simp (disch:=first|omega|(with_unfolding_all exact rfl)|(simp only[new_n,put_n,new_m];omega)|(refine put_m_le ?_;simp only[new_m];omega)) only [res21,K21r0,K21r1,K21r2,K21r3,K21,Abs.W,reduceIte,Nat.reduceEqDiff,Nat.reduceAdd,decide_true,decide_false,kLoop_def,Nat.reduceSub,List.cons_append,List.nil_append,List.append_nil,List.length_cons,List.length_nil,ixs_slice _ _ _ _ _ _ _ _ hi,Nat.mul_one,Nat.zero_add,hg,hn]
  exact ⟨_,_,rfl,sw,rfl,⟨x,rfl,hx⟩,dw⟩) (by omega)
 exact ⟨x,t,hr.symm.trans e,st,hd',hx⟩
end Go.Proofs.Ytoolodjbfphkjaa.walk
set_option maxRecDepth 10000
namespace Go.Proofs.Ytoolodjbfphkjaa.walk
open Go.Abs Go.Proofs.Ytoolodjbfphkjaa.code
end Go.Proofs.Ytoolodjbfphkjaa.walk
set_option maxRecDepth 10000
namespace Go.Proofs.Ytoolodjbfphkjaa.walk
open Go.Abs Go.Proofs.Ytoolodjbfphkjaa.code
theorem Die.keep {d:Nat} {h h':Heap} (D:Die d h) (e:h'.get d=h.get d):Die d h':=by obtain ⟨f,hf⟩:=D;exact ⟨f,e.trans hf⟩
theorem apart_is {h:Heap} {n b w tg c o:Nat} {rows:List (List AV)} {v:AV} (r:IsAt h n b w tg rows v) (hc:b≠c):apartA v (.ptr c o)=true:=by
 rcases r.is with ⟨_,z⟩ | ⟨_,_,z,_⟩
 ·subst z;rfl
 ·subst z;exact apart_slice hc
structure SealJ (u t:St) (d p bL bE:Nat) (lL lE:List Int) (vL vE:AV) (most days:Int) (kk:Nat):Prop where
 die:Die d t.h
 cells:t.h.get p=some (.cells [vL,vE,.int .i64 most,.int .i64 days] (tag 48))
 l:IsAt t.h t.n bL 1 (tag 3) (intRows lL) vL
 e:IsAt t.h t.n bE 1 (tag 3) (intRows lE) vE
 lp:p<bL
 ep:p<bE
 le_:bL=bE→bL=Abs.far+1
 lb:bL<t.n∨bL=Abs.far+1
 eb:bE<t.n∨bE=Abs.far+1
 same:∀ c,c<u.n→c≠d→t.h.get c=u.h.get c
 n:p<t.n
 le:t.n≤u.n+kk
 m:d≤t.m
 mf:t.m≤Abs.far
 dp:d<u.n
 pu:u.n≤p
 lok:∀ x ∈ lL, -1≤x∧x≤3
 eok:∀ x ∈ lE,0≤x∧x≤4
 len:lL.length=lE.length
 few:lL.length≤10
theorem seal_round (N:Nat) (hN:5≤N) (cx:Ctx) {u t:St} {d p bL bE kk i:Nat} {lL lE:List Int} {vL vE:AV} {most days:Int} {L:Env} (J:SealJ u t d p bL bE lL lE vL vE most days kk) (hi:i≤10) (hfew:lL.length<10) (hs:u.n+kk+2000≤far) (q0:L.find 0=.ptr d 0) (q7:L.find 7=.ptr p 0) (q8:L.find 8=.int .i64 (i+1:Nat)) :
  ∃ L1 t1 vL1 vE1 bL1 bE1 x y,K13l0 (call Try.prog X N) cx L [] t=.done .norm L1 [] t1∧SealJ u t1 d p bL1 bE1 (lL++[x]) (lE++[y]) vL1 vE1 most days (kk+10)∧L1.find 8=.int .i64 (i:Nat)∧L1.find 0=.ptr d 0∧L1.find 7=.ptr p 0∧L1.find 6=L.find 6:=by
 have hf:far=1000000000:=rfl
 obtain ⟨jd,jc,jl,je,jlp,jep,jle,jlb,jeb,js,jn,jk,jm,jmf,jdp,jpu,jlo,jeo,jlen,jfew⟩:=J
 have e0:decide ((0:Int)<((i+1:Nat):Int))=true:=decide_eq_true (by omega)
 have kL:=jl.okA
 have kE:=je.okA
 have sb:∀ s,aSub s .i64 ((i+1:Nat):Int) 1=.val (.int .i64 (i:Int)) s:=fun s=>by rw [aSub_i64 s _ _ (by omega)];congr 2;omega
 simp (disch:=first|omega|(with_unfolding_all exact rfl)|(simp only[new_n,put_n,new_m];omega)|(refine put_m_le ?_;simp only[new_m];omega)) only [K13l0,K13r3,K13r4,Abs.W,reduceIte,Nat.reduceEqDiff,Nat.reduceAdd,decide_true,decide_false,kLoop_def,Nat.reduceSub,List.cons_append,List.nil_append,List.append_nil,List.length_cons,List.length_nil,Env.find_set,q0,q7,q8,jc,kL,e0,Nat.zero_add]
 generalize hc1:call _ _ _ (.fn 19) _ _=r1
 obtain ⟨x1,t1,rfl,st1,d1,x10,x11⟩:=from_ex hc1 (by omega) jd (by show d<t.n;omega) (by show t.n+200≤far;omega) (by omega) (by omega) (by omega) (by omega)
 have n1:t.n≤t1.n:=st1.n
 have k1:t1.n≤t.n:=st1.le
 have m1:d≤t1.m:=st1.m (by show d≤far;omega)
 have g1:∀ c,c<t.n→c≠d→t1.h.get c=t.h.get c:=fun c hc hcd=>st1.same c hc hcd
 have ap:=(g1 p (by omega) (by omega)).trans jc
 obtain ⟨y8,hy8⟩:∃ y8:St,y8=⟨t1.h,t1.n,minN t.m t1.m⟩:=⟨_,rfl⟩
 have y8n:y8.n=t1.n:=by rw [hy8]
 have y8h:y8.h=t1.h:=by rw [hy8]
 have y8m:y8.m=min t.m t1.m:=by rw [hy8];simp only [minN_eq]
 obtain ⟨y,hy⟩:∃ y:St,y=y8.new (.cells [.int .i64 x1] 0):=⟨_,rfl⟩
 have yn:y.n=t1.n+1:=by rw [hy];show y8.n+1=_;rw [y8n]
 have ym:y.m=y8.m:=by rw [hy];rfl
 have yg:∀ c,c<t1.n→y.h.get c=t1.h.get c:=fun c hc=>by rw [hy,get_new_ne _ _ _ (by omega),y8h]
 have yp:y.h.get t1.n=some (.cells [.int .i64 x1] 0):=by rw [hy,← y8n];exact get_new_eq _ _ _ rfl (by omega)
 have gy:∀ c,c<t.n→c≠d→y.h.get c=t.h.get c:=fun c hc hcd=>(yg c (by omega)).trans (g1 c hc hcd)
 obtain ⟨s4,e4,l4,s4n,s4g,s4m,s4l⟩:=append_at (bytes:=8) (jl.mono (h':=y.h) (n':=y.n) (fun h=>gy bL h (by omega)) (by omega)) yp rfl rfl (by rw [intRows_len];omega) (by kernel_rfl) (by omega)
 rw [intRows_len] at e4 l4
 obtain ⟨v4,hv4⟩:∃ v4,v4=AV.slice y.n 0 (lL.length+1) (lL.length+1) true:=⟨_,rfl⟩
 rw [← hv4] at e4 l4
 rw [hy] at e4
 have s4c:=(s4g p (by omega) (by omega)).trans ((gy p (by omega) (by omega)).trans jc)
 simp (disch:=first|omega|(with_unfolding_all exact rfl)|(simp only[new_n,put_n,new_m];omega)|(refine put_m_le ?_;simp only[new_m];omega)) only [thenT_turn,Abs.W,reduceIte,Nat.reduceEqDiff,Nat.reduceAdd,decide_true,decide_false,kLoop_def,Nat.reduceSub,List.cons_append,List.nil_append,List.append_nil,List.length_cons,List.length_nil,Env.find_set,q0,q7,Nat.zero_add]
 rw [← hy8]
 have sc4:scalars [v4]=true:=by rw [hv4];rfl
 have cc4:cellsOf 1 v4=some [v4]:=by rw [hv4];rfl
 simp (disch:=first|omega|(with_unfolding_all exact rfl)|(simp only[new_n,put_n,new_m];omega)|(refine put_m_le ?_;simp only[new_m];omega)) only [Abs.W,reduceIte,Nat.reduceEqDiff,Nat.reduceAdd,decide_true,decide_false,kLoop_def,Nat.reduceSub,List.cons_append,List.nil_append,List.append_nil,List.length_cons,List.length_nil,Env.find_set,q0,q7,e4,s4c,kE,Nat.zero_add]
 generalize hc2:call _ _ _ (.fn 18) _ _=r2
 obtain ⟨x2,t2,rfl,st2,d2,x20,x21⟩:=cast_ex hc2 (by omega) (Die.keep d1 ((s4g d (by omega) (by omega)).trans (yg d (by omega)))) (by show d<s4.n;omega) (by show s4.n+100≤far;omega) (by omega)
 have n2:s4.n≤t2.n:=st2.n
 have k2:t2.n≤s4.n:=st2.le
 have m2:d≤t2.m:=st2.m (by show d≤far;omega)
 have g2:∀ c,c<s4.n→c≠d→t2.h.get c=s4.h.get c:=fun c hc hcd=>st2.same c hc hcd
 obtain ⟨z8,hz8⟩:∃ y8:St,y8=⟨t2.h,t2.n,minN s4.m t2.m⟩:=⟨_,rfl⟩
 have z8n:z8.n=t2.n:=by rw [hz8]
 have z8h:z8.h=t2.h:=by rw [hz8]
 have z8m:z8.m=min s4.m t2.m:=by rw [hz8];simp only [minN_eq]
 obtain ⟨z,hz⟩:∃ y:St,y=z8.new (.cells [.int .i64 x2] 0):=⟨_,rfl⟩
 have zn:z.n=t2.n+1:=by rw [hz];show z8.n+1=_;rw [z8n]
 have zm:z.m=z8.m:=by rw [hz];rfl
 have zg:∀ c,c<t2.n→z.h.get c=t2.h.get c:=fun c hc=>by rw [hz,get_new_ne _ _ _ (by omega),z8h]
 have zp:z.h.get t2.n=some (.cells [.int .i64 x2] 0):=by rw [hz,← z8n];exact get_new_eq _ _ _ rfl (by omega)
 have gz:∀ c,c<s4.n→c≠d→z.h.get c=s4.h.get c:=fun c hc hcd=>(zg c (by omega)).trans (g2 c hc hcd)
 have gt:∀ c,c<t.n→c≠d→c≠bL→s4.h.get c=t.h.get c:=fun c hc hcd hb=>(s4g c (by omega) hb).trans (gy c hc hcd)
 obtain ⟨s5,e5,l5,s5n,s5g,s5m,s5l⟩:=append_at (bytes:=8) (je.mono (h':=z.h) (n':=z.n) (fun h=>(gz bE (by omega) (by omega)).trans (gt bE h (by omega) (fun e=>by have:=jle e.symm;omega))) (by omega)) zp rfl rfl (by rw [intRows_len];omega) (by kernel_rfl) (by omega)
 rw [intRows_len] at e5 l5
 obtain ⟨v5,hv5⟩:∃ v5,v5=AV.slice z.n 0 (lE.length+1) (lE.length+1) true:=⟨_,rfl⟩
 rw [← hv5] at e5 l5
 rw [hz] at e5
 simp (disch:=first|omega|(with_unfolding_all exact rfl)|(simp only[new_n,put_n,new_m];omega)|(refine put_m_le ?_;simp only[new_m];omega)) only [thenT_turn,Abs.W,reduceIte,Nat.reduceEqDiff,Nat.reduceAdd,decide_true,decide_false,kLoop_def,Nat.reduceSub,List.cons_append,List.nil_append,List.append_nil,List.length_cons,List.length_nil,Env.find_set,q0,q7,Nat.zero_add]
 rw [← hz8]
 have sc5:scalars [v5]=true:=by rw [hv5];rfl
 have cc5:cellsOf 1 v5=some [v5]:=by rw [hv5];rfl
 have s5c:=(s5g p (by omega) (by omega)).trans ((gz p (by omega) (by omega)).trans s4c)
 have scA:∀ l,scalars (v4::l)=scalars l:=fun l=>scals_cons sc4 l
 have scE:scalars [vE,.int .i64 most,.int .i64 days]=true:=by
  have:=scal_ln (je.rows.at_.len t)
  rw [scals_cons (by simp [scalars,this])];rfl
 simp (disch:=first|omega|(with_unfolding_all exact rfl)|(simp only[new_n,put_n,new_m];omega)|(refine put_m_le ?_;simp only[new_m];omega)) only [Abs.W,reduceIte,Nat.reduceEqDiff,Nat.reduceAdd,decide_true,decide_false,kLoop_def,Nat.reduceSub,List.cons_append,List.nil_append,List.append_nil,List.length_cons,List.length_nil,Env.find_set,q0,q7,e5,s5c,sc4,cc4,sc5,cc5,Nat.zero_add]
 rw [endT_kept (l:=[32]) (s':=t2) (by simp only [keptAll_cons,keptAll_nil,find_cons,Env.find_set,keptV_ptr,s4c,(g2 p (by omega) (by omega)).trans s4c,sameO_cells,reduceIte,Nat.reduceEqDiff,Bool.and_self])]
 rw [endT_kept (l:=[26,32]) (s':=t1) (by simp only [keptAll_cons,keptAll_nil,find_cons,Env.find_set,keptV_ptr,jc,ap,sameO_cells,reduceIte,Nat.reduceEqDiff,Bool.and_self])]
 rw [endO_ok _ (by rw [endOk_cons (by simp only [find_cons,Env.find_set,reduceIte,Nat.reduceEqDiff];exact apart_is jl (by omega)),endOk_nil])]
 simp (disch:=first|omega|(with_unfolding_all exact rfl)|(simp only[new_n,put_n,new_m];omega)|(refine put_m_le ?_;simp only[new_m];omega)) only [K13r5,Abs.W,reduceIte,Nat.reduceEqDiff,Nat.reduceAdd,decide_true,decide_false,kLoop_def,Nat.reduceSub,List.cons_append,List.nil_append,List.append_nil,List.length_cons,List.length_nil,Env.find_set,q8,sb,Nat.zero_add]
 have hint:∀ (l:List Int) (x:Int),intRows l++[[.int .i64 x]]=intRows (l++[x]):=fun l x=>(intRows_snoc l x).symm
 rw [hint] at l4 l5
 refine ⟨_,_,v4,v5,y.n,z.n,x1,x2,rfl,⟨?_,?_,?_,?_,by omega,by omega,by omega,.inl (by simp only [put_n];omega),.inl (by simp only [put_n];omega),fun c hc hcd=>?_,by simp only [put_n];omega,by simp only [put_n];omega,?_,?_,jdp,jpu,fun x hx=>?_,fun x hx=>?_,by simp [jlen],by simp;omega⟩,by simp only [Env.find_set,reduceIte,Nat.reduceEqDiff],?_,?_,?_⟩
 ·exact Die.keep d2 (by rw [get_put_ne' _ _ _ _ (by omega),get_put_ne' _ _ _ _ (by omega),s5g d (by omega) (by omega),zg d (by omega)])
 ·exact get_put_eq _ _ _ _ rfl (by omega)
 ·exact l4.mono (fun _=>by rw [get_put_ne' _ _ _ _ (by omega),get_put_ne' _ _ _ _ (by omega),s5g _ (by omega) (by omega),gz _ (by omega) (by omega)]) (by simp only [put_n];omega)
 ·exact l5.mono (fun _=>by rw [get_put_ne' _ _ _ _ (by omega),get_put_ne' _ _ _ _ (by omega)]) (by simp only [put_n];omega)
 ·rw [get_put_ne' _ _ _ _ (by omega),get_put_ne' _ _ _ _ (by omega),s5g c (by omega) (by omega),gz c (by omega) hcd,gt c (by omega) hcd (by omega)]
  exact js c hc hcd
 ·have h4:=s4m d (by omega) (by omega) (by omega)
  have h5:=s5m d (by omega) (by omega) (by omega)
  simp only [St.put,minN_eq];omega
 ·simp only [St.put,minN_eq];omega
 ·rcases List.mem_append.mp hx with hx | hx
  ·exact jlo x hx
  ·rw [List.mem_singleton.mp hx];omega
 ·rcases List.mem_append.mp hx with hx | hx
  ·exact jeo x hx
  ·rw [List.mem_singleton.mp hx];omega
 ·simp only [Env.find_set,q0,reduceIte,Nat.reduceEqDiff]
 ·simp only [Env.find_set,q7,reduceIte,Nat.reduceEqDiff]
 ·simp only [Env.find_set,reduceIte,Nat.reduceEqDiff]
end Go.Proofs.Ytoolodjbfphkjaa.walk
set_option maxRecDepth 10000
namespace Go.Proofs.Ytoolodjbfphkjaa.walk
open Go.Abs Go.Proofs.Ytoolodjbfphkjaa.code
theorem two_of {l:List Int} {n:Nat} (hn:n=1∨n=2) (h:l.length=n):two n (l.getD 0 0) (l.getD 1 0)=l:=by
 rcases hn with rfl | rfl
 ·match l,h with
  | [a],_=>rfl
 ·match l,h with
  | [a,b],_=>rfl
theorem getD_in {l:List Int} {P:Int→Prop} (h:∀ x ∈ l,P x) (h0:P 0) (i:Nat):P (l.getD i 0):=by
 by_cases hi:i<l.length
 ·rw [show l.getD i 0=l[i] by simp [List.getD,hi]];exact h _ (List.getElem_mem hi)
 ·rw [show l.getD i 0=0 by simp [List.getD,hi]];exact h0
theorem SealsOf_ex {N d:Nat} {t:St} {r:ARes} (hr:call Try.prog X N (.fn 13) [.ptr d 0,.int .i64 2,.int .i64 4] t=r) (hN:8≤N) (hd:Die d t.h) (hdt:d<t.n) (hs:t.n+5000≤far) :
  ∃ s vL vE t',r=.val (.agg (sealV s vL vE)) t'∧Stir d t t' 100∧s.Ok∧SealAt t'.h t'.n s vL vE:=by
 obtain ⟨N,rfl⟩:∃ n,N=n+1:=⟨N - 1,by omega⟩
 have hf:far=1000000000:=rfl
 obtain ⟨v,t',e,st,s,vL,vE,rfl,h2,h3⟩:=call_stir (n:=N) (args:=[.ptr d 0,.int .i64 2,.int .i64 4]) (s:=t) (d:=d) (k:=100) (Q:=fun v h n=>∃ s vL vE,v=.agg (sealV s vL vE)∧s.Ok∧SealAt h n s vL vE) Try.func13 rfl (fun u uh un um=>by
  rw [← uh] at hd
  rw [← un] at hdt hs
  have a41:∀ st,aAdd st .i64 4 1=.val (.int .i64 5) st:=fun st=>by rw [aAdd_i64 st _ _ (by omega)];rfl
  rw [enter13]
  obtain ⟨w0,hw0⟩:∃ x:St,x=u.new (.cells [.nilslice,.nilslice,.int .i64 0,.int .i64 0] (tag 48)):=⟨_,rfl⟩
  have w0n:w0.n=u.n+1:=by rw [hw0];rfl
  have w0m:w0.m=far:=by rw [hw0];exact um
  have w0g:∀ c,c<u.n→w0.h.get c=u.h.get c:=fun c hc=>by rw [hw0,get_new_ne _ _ _ (by omega)]
  have w0p:w0.h.get u.n=some (.cells [.nilslice,.nilslice,.int .i64 0,.int .i64 0] (tag 48)):=by rw [hw0];exact get_new_eq _ _ _ rfl (by omega)
  simp (disch:=first|omega|(with_unfolding_all exact rfl)|(simp only[new_n,put_n,new_m];omega)|(refine put_m_le ?_;simp only[new_m];omega)) only [K13,K13r0,Abs.W,reduceIte,Nat.reduceEqDiff,Nat.reduceAdd,decide_true,decide_false,kLoop_def,Nat.reduceSub,List.cons_append,List.nil_append,List.append_nil,List.length_cons,List.length_nil,Env.find_set,Nat.zero_add]
  rw [← hw0]
  simp (disch:=first|omega|(with_unfolding_all exact rfl)|(simp only[new_n,put_n,new_m];omega)|(refine put_m_le ?_;simp only[new_m];omega)) only [K13r1,Abs.W,reduceIte,Nat.reduceEqDiff,Nat.reduceAdd,decide_true,decide_false,kLoop_def,Nat.reduceSub,List.cons_append,List.nil_append,List.append_nil,List.length_cons,List.length_nil,Env.find_set,a41,Nat.zero_add]
  generalize hc1:call _ _ _ (.fn 18) _ _=r1
  obtain ⟨x1,t1,rfl,st1,d1,x10,x11⟩:=cast_ex hc1 (by omega) (Die.keep hd (w0g d hdt)) (by omega) (by omega) (by omega)
  have n1:=st1.n
  have k1:=st1.le
  have m1:=st1.m (by omega)
  have u1:=st1.mle
  simp (disch:=first|omega|(with_unfolding_all exact rfl)|(simp only[new_n,put_n,new_m];omega)|(refine put_m_le ?_;simp only[new_m];omega)) only [Abs.W,reduceIte,Nat.reduceEqDiff,Nat.reduceAdd,decide_true,decide_false,kLoop_def,Nat.reduceSub,List.cons_append,List.nil_append,List.append_nil,List.length_cons,List.length_nil,Env.find_set,Nat.zero_add]
  generalize hc2:call _ _ _ (.fn 18) _ _=r2
  obtain ⟨x2,t2,rfl,st2,d2,x20,x21⟩:=cast_ex hc2 (by omega) d1 (by omega) (by omega) (by omega)
  have n2:=st2.n
  have k2:=st2.le
  have m2:=st2.m (by omega)
  have u2:=st2.mle
  obtain ⟨y,hy⟩:∃ x:St,x=t2.new (.cells [.int .i64 1,.int .i64 1,.int .i64 x2] 0):=⟨_,rfl⟩
  have yn:y.n=t2.n+1:=by rw [hy];rfl
  have ym:y.m=t2.m:=by rw [hy];rfl
  have yg:∀ c,c<t2.n→y.h.get c=t2.h.get c:=fun c hc=>by rw [hy,get_new_ne _ _ _ (by omega)]
  have yp:y.h.get t2.n=some (.cells ([1,1,x2].map fun x=>AV.int .i64 x) 0):=by rw [hy];exact get_new_eq _ _ _ rfl (by omega)
  simp (disch:=first|omega|(with_unfolding_all exact rfl)|(simp only[new_n,put_n,new_m];omega)|(refine put_m_le ?_;simp only[new_m];omega)) only [Abs.W,reduceIte,Nat.reduceEqDiff,Nat.reduceAdd,decide_true,decide_false,kLoop_def,Nat.reduceSub,List.cons_append,List.nil_append,List.append_nil,List.length_cons,List.length_nil,Env.find_set,Nat.zero_add]
  rw [← hy]
  generalize hc3:call _ _ _ (.fn 21) _ _=r3
  obtain ⟨x3,t3,rfl,st3,d3,x30⟩:=one_ex [1,1,x2] (b:=t2.n) (sz:=0) hc3 (by omega) (Die.keep d2 (yg d (by omega))) (by omega) (by omega) yp (by omega) (by omega) rfl (by omega) (by omega)
  have n3:=st3.n
  have k3:=st3.le
  have m3:=st3.m (by omega)
  have u3:=st3.mle
  have x3b:0≤x3∧x3≤2:=by
   simp only [List.mem_cons,List.not_mem_nil,or_false] at x30
   omega
  have g3:∀ c,c<w0.n→c≠d→t3.h.get c=w0.h.get c:=fun c hc hcd=>(st3.same c (by omega) hcd).trans ((yg c (by omega)).trans ((st2.same c (by omega) hcd).trans (st1.same c (by omega) hcd)))
  obtain ⟨z,hz⟩:∃ x:St,x=(t3.new (.cells [.nilslice,.nilslice,.int .i64 0,.int .i64 0] (tag 48))).put t3.n (.cells [.nilslice,.nilslice,.int .i64 x3,.int .i64 x1] (tag 48)):=⟨_,rfl⟩
  have zn:z.n=t3.n+1:=by rw [hz];rfl
  have zm:z.m=min t3.m t3.n:=by rw [hz];simp only [St.put,minN_eq,new_m]
  have zg:∀ c,c<t3.n→z.h.get c=t3.h.get c:=fun c hc=>by rw [hz,get_put_ne' _ _ _ _ (by omega),get_new_ne _ _ _ (by omega)]
  have zp:z.h.get t3.n=some (.cells [.nilslice,.nilslice,.int .i64 x3,.int .i64 x1] (tag 48)):=by rw [hz];exact get_put_eq _ _ _ _ rfl (by omega)
  simp (disch:=first|omega|(with_unfolding_all exact rfl)|(simp only[new_n,put_n,new_m];omega)|(refine put_m_le ?_;simp only[new_m];omega)) only [Abs.W,reduceIte,Nat.reduceEqDiff,Nat.reduceAdd,decide_true,decide_false,kLoop_def,Nat.reduceSub,List.cons_append,List.nil_append,List.append_nil,List.length_cons,List.length_nil,Env.find_set,Nat.zero_add]
  rw [← hz]
  simp (disch:=first|omega|(with_unfolding_all exact rfl)|(simp only[new_n,put_n,new_m];omega)|(refine put_m_le ?_;simp only[new_m];omega)) only [K13r2,Abs.W,reduceIte,Nat.reduceEqDiff,Nat.reduceAdd,decide_true,decide_false,kLoop_def,Nat.reduceSub,List.cons_append,List.nil_append,List.append_nil,List.length_cons,List.length_nil,Env.find_set,Nat.zero_add]
  generalize hc4:call _ _ _ (.fn 19) _ _=r4
  obtain ⟨x4,t4,rfl,st4,d4,x40,x41⟩:=from_ex hc4 (by omega) (Die.keep d3 (zg d (by omega))) (by omega) (by omega) (by omega) (by omega) (by omega) (by omega)
  have n4:=st4.n
  have k4:=st4.le
  have m4:=st4.m (by omega)
  have u4:=st4.mle
  obtain ⟨n,rfl⟩:∃ n:Nat,x4=n:=⟨x4.toNat,by omega⟩
  have hn:n=1∨n=2:=by omega
  simp (disch:=first|omega|(with_unfolding_all exact rfl)|(simp only[new_n,put_n,new_m];omega)|(refine put_m_le ?_;simp only[new_m];omega)) only [Abs.W,reduceIte,Nat.reduceEqDiff,Nat.reduceAdd,decide_true,decide_false,kLoop_def,Nat.reduceSub,List.cons_append,List.nil_append,List.append_nil,List.length_cons,List.length_nil,Env.find_set,Nat.zero_add]
  generalize hlp:loopN _ rounds _ _ _ _ _=q1
  obtain ⟨e,L1,t5,rfl,rfl,lL,lE,vL,vE,bL,bE,kk,J,hkk,hlen,f6,f7⟩:=loop_of hlp (fun i L t=>∃ lL lE vL vE bL bE,SealJ w0 t d t3.n bL bE lL lE vL vE x3 x1 (30+10 * i)∧lL.length=i∧L.find 8=.int .i64 ((n - i:Nat):Int)∧L.find 0=.ptr d 0∧L.find 7=.ptr t3.n 0∧L.find 6=.ptr u.n 0)
   (fun e L t=>e=.exit 0∧∃ lL lE vL vE bL bE kk,SealJ w0 t d t3.n bL bE lL lE vL vE x3 x1 kk∧kk≤60∧lL.length=n∧L.find 6=.ptr u.n 0∧L.find 7=.ptr t3.n 0) n (by unfold rounds;omega)
   ⟨[],[],.nilslice,.nilslice,far+1,far+1,⟨d4,(st4.same _ (by omega) (by omega)).trans zp,IsAt.nil _ _ _ _ _,IsAt.nil _ _ _ _ _,by omega,by omega,fun _=>rfl,.inr rfl,.inr rfl,fun c hc hcd=>(st4.same c (by omega) hcd).trans ((zg c (by omega)).trans (g3 c hc hcd)),by omega,by omega,by omega,by omega,by omega,by omega,fun _ h=>(by cases h),fun _ h=>(by cases h),rfl,by decide⟩,rfl,by simp only [find_cons,Env.find_set,reduceIte,Nat.reduceEqDiff];rfl,by simp only [find_cons,Env.find_set,reduceIte,Nat.reduceEqDiff],by simp only [find_cons,Env.find_set,reduceIte,Nat.reduceEqDiff],by simp only [find_cons,Env.find_set,reduceIte,Nat.reduceEqDiff]⟩
   (fun i L t hi ⟨lL,lE,vL,vE,bL,bE,J,hlen,q8,q0,q7,q6⟩=>by
    by_cases hlt:i<n
    ·obtain ⟨j,hj⟩:∃ j,n - i=j+1:=⟨n - i - 1,by omega⟩
     rw [hj] at q8
     obtain ⟨L1,t1,vL1,vE1,bL1,bE1,x,y,b1,b2,b8,b0,b7,b6⟩:=seal_round N (by omega) _ (i:=j) J (by omega) (by omega) (by omega) q0 q7 q8
     refine .inl ⟨hlt,L1,t1,b1,lL++[x],lE++[y],vL1,vE1,bL1,bE1,?_,by simp [hlen],by rw [show n - (i+1)=j by omega];exact b8,b0,b7,b6.trans q6⟩
     rw [show 30+10 * (i+1)=30+10 * i+10 by omega]
     exact b2
    ·obtain rfl:i=n:=by omega
     rw [Nat.sub_self] at q8
     have e0:decide ((0:Int)<((0:Nat):Int))=false:=rfl
     refine .inr ⟨.exit 0,_,t,by simp,by
      simp (disch:=first|omega|(with_unfolding_all exact rfl)|(simp only[new_n,put_n,new_m];omega)|(refine put_m_le ?_;simp only[new_m];omega)) only [K13l0,K13r3,Abs.W,reduceIte,Nat.reduceEqDiff,Nat.reduceAdd,decide_true,decide_false,kLoop_def,Nat.reduceSub,List.cons_append,List.nil_append,List.append_nil,List.length_cons,List.length_nil,Env.find_set,q8,e0,Nat.zero_add]
      rfl,rfl,lL,lE,vL,vE,bL,bE,_,J,by omega,hlen,?_,?_⟩
     ·simp only [Env.find_set,q6,reduceIte,Nat.reduceEqDiff]
     ·simp only [Env.find_set,q7,reduceIte,Nat.reduceEqDiff])
  obtain ⟨jd,jc,jl,je,jlp,jep,jle,jlb,jeb,js,jn,jk,jm,jmf,jdp,jpu,jlo,jeo,jlen,jfew⟩:=J
  have j0:=(js u.n (by omega) (by omega)).trans w0p
  obtain ⟨s,hsd⟩:∃ s:Sl,s=⟨n,lL.getD 0 0,lL.getD 1 0,lE.getD 0 0,lE.getD 1 0,x3.toNat,x1.toNat⟩:=⟨_,rfl⟩
  have ok:s.Ok:=by
   rw [hsd]
   exact ⟨hn,getD_in jlo (by omega) 0,getD_in jlo (by omega) 1,getD_in jeo (by omega) 0,getD_in jeo (by omega) 1,by show x3.toNat≤2;omega,by show x1.toNat≤4;omega⟩
  have hv:sealV s vL vE=[vL,vE,.int .i64 x3,.int .i64 x1]:=by
   rw [hsd]
   show [vL,vE,AV.int .i64 ((x3.toNat:Nat):Int),AV.int .i64 ((x1.toNat:Nat):Int)]=_
   rw [Int.toNat_of_nonneg (by omega),Int.toNat_of_nonneg (by omega)]
  have hLs:two s.n s.l0 s.l1=lL:=by rw [hsd];exact two_of hn hlen
  have hEs:two s.n s.e0 s.e1=lE:=by rw [hsd];exact two_of hn (jlen.symm.trans hlen)
  have hSA:∀ h',(∀ c,c<t5.n→c≠u.n→h'.get c=t5.h.get c)→SealAt h' t5.n s vL vE:=fun h' hh=>⟨by rw [hLs];exact (jl.mono (fun hb=>hh bL hb (by omega)) (Nat.le_refl _)).rows.at_,by rw [hEs];exact (je.mono (fun hb=>hh bE hb (by omega)) (Nat.le_refl _)).rows.at_,fun b hb=>by
   rcases jl.is with ⟨_,z⟩ | ⟨_,z1,z,_⟩
   ·rw [z] at hb;cases hb
   ·rw [z] at hb;injection hb with hb;omega⟩
  have scS:=(hSA t5.h fun _ _ _=>rfl).scal
  obtain ⟨x,hx⟩:∃ x:St,x=t5.put u.n (.cells [vL,vE,.int .i64 x3,.int .i64 x1] (tag 48)):=⟨_,rfl⟩
  have hpl:plain (.agg (sealV s vL vE))=false:=by
   have hne:vL=.slice bL 0 lL.length lL.length true:=by
    rcases jl.is with ⟨z,_⟩ | ⟨_,_,z,_⟩
    ·have h0:lL.length=0:=by rw [← intRows_len,z];rfl
     omega
    ·rw [intRows_len] at z;exact z
   rw [hv,hne];rfl
  have xp:x.h.get u.n=some (.cells [vL,vE,.int .i64 x3,.int .i64 x1] (tag 48)):=by rw [hx];exact get_put_eq _ _ _ _ rfl (by omega)
  simp (disch:=first|omega|(with_unfolding_all exact rfl)|(simp only[new_n,put_n,new_m];omega)|(refine put_m_le ?_;simp only[new_m];omega)) only [K13r6,res13,Abs.W,reduceIte,Nat.reduceEqDiff,Nat.reduceAdd,decide_true,decide_false,kLoop_def,Nat.reduceSub,List.cons_append,List.nil_append,List.append_nil,List.length_cons,List.length_nil,Env.find_set,f6,f7,jc,j0,scS,Nat.zero_add]
  rw [← hx]
  refine ⟨_,x,leave_cell _ _ _ _ (sh:=some 4) (v:=.agg (sealV s vL vE)) (by kernel_rfl) (by rw [hv];simp (disch:=first|omega|(with_unfolding_all exact rfl)|(simp only[new_n,put_n,new_m];omega)|(refine put_m_le ?_;simp only[new_m];omega)) only [Abs.W,reduceIte,Nat.reduceEqDiff,Nat.reduceAdd,decide_true,decide_false,kLoop_def,Nat.reduceSub,List.cons_append,List.nil_append,List.append_nil,List.length_cons,List.length_nil,Env.find_set,f6,xp,scS]),⟨fun c hc hcd=>?_,by rw [hx,put_n];omega,by rw [hx,put_n];omega,fun h=>by rw [hx];exact put_m_leP (by omega) (by omega),?_⟩,hpl,s,vL,vE,rfl,ok,?_⟩
  ·rw [hx,get_put_ne' _ _ _ _ (by omega)];exact (js c (by omega) hcd).trans (w0g c hc)
  ·rw [um];rw [hx];simp only [St.put,minN_eq];omega
  ·have:=hSA x.h (fun c hc hcu=>by rw [hx,get_put_ne' _ _ _ _ hcu])
   rw [hx] at this ⊢
   exact this) (by omega)
 exact ⟨s,vL,vE,t',hr.symm.trans e,st,h2,h3⟩
end Go.Proofs.Ytoolodjbfphkjaa.walk
