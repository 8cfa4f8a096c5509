/- What is known without any result: a table that grows, claim by claim. -/
import Derived.Test.YtoolodjbfphkjaaM4
import Derived.Test.YtoolodjbfphkjaaM1
import Derived.Test.YtoolodjbfphkjaaCodes
import Derived.Test.YtoolodjbfphkjaaWalkAll
set_option linter.unusedSimpArgs false
set_option maxHeartbeats 16000000
set_option linter.unusedVariables false
set_option maxRecDepth 10000
namespace Go.Proofs.Ytoolodjbfphkjaa.walk
open Go.Abs Go.Proofs.Ytoolodjbfphkjaa.code
def rowOf (n:Nat) (E:Nat→Nat→Gap) (i:Nat):List Gap:=(List.range n).map fun j=>E i j
theorem rowOf_len (n:Nat) (E:Nat→Nat→Gap) (i:Nat):(rowOf n E i).length=n:=by unfold rowOf;rw [List.length_map,List.length_range]
theorem rowOf_at {n:Nat} {E:Nat→Nat→Gap} {i j:Nat} (h:j<(rowOf n E i).length):(rowOf n E i)[j]=E i j:=by simp [rowOf]
theorem rowOf_more {n:Nat} {E:Nat→Nat→Gap} {b:Nat} {g:Gap} {i:Nat} (hi:i<n):rowOf (n+1) (moreE n E b g) i=rowOf n E i++[(g.plus (E b i)).turned]:=by
 unfold rowOf
 rw [range_snoc]
 congr 1
 ·apply List.map_congr_left
  intro j hj
  exact moreE_old hi (List.mem_range.mp hj)
 ·unfold moreE
  rw [if_pos hi,if_neg (Nat.lt_irrefl n)]
theorem rowOf_new {n:Nat} {E:Nat→Nat→Gap} {b:Nat} {g:Gap}:rowOf (n+1) (moreE n E b g) n=((List.range n).map fun x=>g.plus (E b x))++[(0,0)]:=by
 unfold rowOf
 rw [range_snoc]
 congr 1
 ·apply List.map_congr_left
  intro j hj
  unfold moreE
  rw [if_neg (Nat.lt_irrefl n),if_pos (List.mem_range.mp hj)]
 ·unfold moreE
  rw [if_neg (Nat.lt_irrefl n),if_neg (Nat.lt_irrefl n)]
abbrev tgap:Nat:=tag 86
abbrev trow:Nat:=tag 87
def rowNow (m j:Nat) (E:Nat→Nat→Gap) (c:Claim) (x:Nat):List Gap:=if x<j then rowOf (m+1) (moreE m E c.b c.gap) x else rowOf m E x
theorem rowNow_at {m j:Nat} {E:Nat→Nat→Gap} {c:Claim} {x y:Nat} (hx:x<m) (hy:y<m):∃ h:y<(rowNow m j E c x).length,(rowNow m j E c x)[y]=E x y:=by
 unfold rowNow
 by_cases h:x<j
 ·simp only [h,if_true]
  exact ⟨by rw [rowOf_len];omega,by rw [rowOf_at,moreE_old hx hy]⟩
 ·simp only [h,if_false]
  exact ⟨by rw [rowOf_len];omega,by rw [rowOf_at]⟩
structure InGiv (u t:St) (q x4 bl ob m j k w:Nat) (E:Nat→Nat→Gap) (c:Claim) (bf0 bf:Nat→Nat) (vf:Nat→AV) (v:AV) (L:Env):Prop where
 l3:L.find 3=.ptr q 0
 l4:L.find 4=.ptr x4 0
 l5:L.find 5=.slice bl 0 (m+1) (m+1) false
 l18:L.find 18=v
 l19:L.find 19=.int .i64 m
 l20:L.find 20=.int .i64 j
 outer:Blk t.h t.n ob 1 trow ((List.range m).map fun x=>[vf x]) v
 rows:∀ x,x<m→Blk t.h t.n (bf x) 2 tgap (gapRow (rowNow m j E c x)) (vf x)
 apart:∀ x y,x<m→y<m→x≠y→bf x≠bf y
 from_:∀ x,x<m→bf x=bf0 x∨u.n≤bf x
 last:t.h.get bl=some (.cells (fillRows (m+1) zgap (gapRow ((List.range j).map fun x=>c.gap.plus (E c.b x)))).flatten 0)
 same:∀ x,x<u.n→x≠ob→x≠bl→(∀ y,y<m→x≠bf0 y)→t.h.get x=u.h.get x
 n:u.n≤t.n
 le:t.n≤u.n+k
 m_:w≤t.m
 mle:t.m≤Abs.far
 mu:t.m≤u.m
theorem given_cell (N:Nat) (hN:1≤N) (cx:Ctx) {u t:St} {q x4 bl ob m j k w sq:Nat} {E:Nat→Nat→Gap} {c:Claim} {bf0 bf:Nat→Nat} {vf:Nat→AV} {v:AV} {L:Env} (h:InGiv u t q x4 bl ob m j k w E c bf0 bf vf v L) (hj:j<m) (hm:m≤60) (hb:c.b<m)
  (hE:∀ x y,x<m→y<m→Small (E x y).1∧Small (E x y).2) (hg:Small c.gap.1∧Small c.gap.2) (hE2:∀ x,x<m→Small (c.gap.plus (E c.b x)).1∧Small (c.gap.plus (E c.b x)).2)
  (gq:u.h.get q=some (.cells [v] sq)) (g4:u.h.get x4=some (.cells [.int .i64 c.a,.int .i64 c.b,.int .i64 c.gap.1,.int .i64 c.gap.2] (tag 120)))
  (hq:q<u.n∧q≠ob∧q≠bl∧∀ y,y<m→q≠bf0 y) (h4:x4<u.n∧x4≠ob∧x4≠bl∧∀ y,y<m→x4≠bf0 y) (hob:ob<u.n∧ob≠bl∧∀ y,y<m→ob≠bf0 y) (hbl:bl<u.n∧∀ y,y<m→bl≠bf0 y)
  (hw:w≤ob∧w≤bl∧∀ y,y<m→w≤bf0 y) (hwu:w≤u.n) (hs:u.n+k+1000≤far) :
  ∃ L1 t1 bf1 vf1,K51b0l0 (call Try.prog X N) cx L [] t=.done .norm L1 [] t1∧InGiv u t1 q x4 bl ob m (j+1) (k+2) w E c bf0 bf1 vf1 v L1:=by
 have hf:far=1000000000:=rfl
 obtain ⟨l3,l4,l5,l18,l19,l20,outer,rows,apart,from_,last,same,tn,tk,tm,tml,tmu⟩:=h
 have e0:decide ((j:Int)<(m:Int))=true:=decide_eq_true (by omega)
 have hbf:∀ x,x<m→bf x≠ob∧bf x≠q∧bf x≠x4∧bf x≠bl∧w≤bf x:=fun x hx=>by
  have a1:=hob.2.2 x hx
  have a2:=hq.2.2.2 x hx
  have a3:=h4.2.2.2 x hx
  have a4:=hbl.2 x hx
  have a5:=hw.2.2 x hx
  rcases from_ x hx with e | e
  ·rw [e];exact ⟨fun h=>a1 h.symm,fun h=>a2 h.symm,fun h=>a3 h.symm,fun h=>a4 h.symm,a5⟩
  ·omega
 have gq':=(same q hq.1 hq.2.1 hq.2.2.1 hq.2.2.2).trans gq
 have g4':=(same x4 h4.1 h4.2.1 h4.2.2.1 h4.2.2.2).trans g4
 have ol:((List.range m).map fun x=>[vf x]).length=m:=by rw [List.length_map,List.length_range]
 have o1:=fun s=>outer.ixs (i:=j) (by rw [ol];exact hj) s
 have o2:=fun s=>outer.ixs (i:=c.b) (by rw [ol];exact hb) s
 obtain ⟨so,og⟩:=outer.get
 have oc:∀ x,x<m→nth (((List.range m).map fun x=>[vf x]).flatten) (x * 1)=vf x:=fun x hx=>cut1_nth ((outer.cut (i:=x) (by rw [ol];exact hx)).trans (by rw [List.getElem_map,List.getElem_range]))
 have oc1:=oc j hj
 have oc2:=oc c.b hb
 have vok:=outer.okA
 have rj:=rows j hj
 have rb:=rows c.b hb
 have rjo:=rj.okA
 have rbo:=rb.okA
 obtain ⟨y1,y2⟩:=rowNow_at (m:=m) (j:=j) (E:=E) (c:=c) hb hj
 have rbi:=fun s=>rb.ixs (i:=j) (by rw [gapRow_len];exact y1) s
 obtain ⟨sb,rbg⟩:=rb.get
 have rbc:=rb.cut (i:=j) (by rw [gapRow_len];exact y1)
 rw [gapRow_at _ _ _ y1,y2] at rbc
 have la:∀ s,ixsA 2 s (.slice bl 0 (m+1) (m+1) false) (.int .i64 (j:Int))=.val (.ptr bl (j * 2)) s:=fun s=>by rw [ixs_slice _ _ _ _ _ _ _ _ (by omega),Nat.zero_add]
 have okL:∀ t,okA (.val (.slice bl 0 (m+1) (m+1) false) t)=.val (.slice bl 0 (m+1) (m+1) false) t:=fun _=>rfl
 have hlen:(gapRow ((List.range j).map fun x=>c.gap.plus (E c.b x))).length=j:=by rw [gapRow_len,List.length_map,List.length_range]
 have hov:=fillRows_over (n:=m+1) (z:=zgap) (row:=[.int .i64 (c.gap.plus (E c.b j)).1,.int .i64 (c.gap.plus (E c.b j)).2]) (l:=gapRow ((List.range j).map fun x=>c.gap.plus (E c.b x))) (w:=2) rfl (gapRow_wide _) rfl (by omega)
 rw [hlen,← gapRow_snoc,← range_snoc (f:=fun x=>c.gap.plus (E c.b x))] at hov
 have hcut:=fillRows_cut (n:=m+1) (z:=zgap) (w:=2) (l:=gapRow ((List.range (j+1)).map fun x=>c.gap.plus (E c.b x))) rfl (gapRow_wide _) (i:=j) (by rw [gapRow_len,List.length_map,List.length_range];omega)
 rw [gapRow_at _ _ _ (by rw [List.length_map,List.length_range];omega),List.getElem_map,List.getElem_range] at hcut
 rw [plus1,plus2] at hov hcut
 have ad:∀ s,aAdd s .i64 (j:Int) 1=.val (.int .i64 ((j:Int)+1)) s:=fun s=>aAdd_i64 s _ _ (by omega)
 have EB:=hE c.b j hb hj
 have EP:=hE2 j hj
 rw [plus1,plus2] at EP
 have tob:=outer.lt
 have n1:=hbf c.b hb
 have n2:=hbf j hj
 have n3:=rb.lt
 have n4:=rj.lt
 have ts:∀ v o d rest cl L,thenT (some [3]) (.val v ⟨(t.put bl o).h,(t.put bl o).n,far⟩) d rest cl L (t.put bl o)=rest cl (d.put v L) (t.put bl o):=fun v o d rest cl L=>thenT_same _ _ _ _ _ _ _ (by show t.n≤far;omega) (put_m_le tml)
 simp (disch:=first|omega|(with_unfolding_all exact rfl)|(simp only[new_n,put_n,new_m];omega)|(refine put_m_le ?_;simp only[new_m];omega)) only [ts,K51b0l0,K51b0r2,K51b0r3,K51b0r4,K51b0r5,Abs.W,reduceIte,Nat.reduceEqDiff,Nat.reduceAdd,decide_true,decide_false,kLoop_def,Nat.reduceSub,List.cons_append,List.nil_append,List.append_nil,List.length_cons,List.length_nil,efs,Nat.zero_add,Nat.add_zero,l3,l4,l5,l18,l19,l20,e0,o1,o2,og,oc1,oc2,vok,rjo,rbo,rbi,rbg,rbc,la,okL,last,gq',g4',hov,hcut,plus_ok,turned_ok]
 simp only [put_n]
 generalize hs2:(t.put bl _).new _=s2
 have s2n:s2.n=t.n+1:=by rw [← hs2];rfl
 have s2m:s2.m=min t.m bl:=by rw [← hs2];simp only [St.put,minN_eq,new_m]
 have s2g:∀ x,x<t.n→x≠bl→s2.h.get x=t.h.get x:=fun x h1 h2=>by rw [← hs2,get_new_ne _ _ _ (by show x≠t.n;omega),get_put_ne' _ _ _ _ h2]
 have s2p:s2.h.get t.n=some (.cells [.int .i64 (-(c.gap.2+(E c.b j).2)),.int .i64 (-(c.gap.1+(E c.b j).1))] 0):=by rw [← hs2];exact get_new_eq _ _ _ rfl (by show t.n<_;omega)
 have s2b:s2.h.get bl=some (.cells (fillRows (m+1) zgap (gapRow ((List.range (j+1)).map fun x=>c.gap.plus (E c.b x)))).flatten 0):=by rw [← hs2,get_new_ne _ _ _ (by show bl≠t.n;omega)];exact get_put_eq _ _ _ _ rfl (by omega)
 have rj2:Blk s2.h s2.n (bf j) 2 tgap (gapRow (rowNow m j E c j)) (vf j):=rj.mono (s2g _ (by omega) (by omega)) (by omega)
 obtain ⟨s3,e3,B3,s3n,s3g,s3m,s3l⟩:=append_blk (bytes:=16) rj2 s2p rfl rfl (by
  rw [gapRow_len]
  have:(rowNow m j E c j).length=m:=by unfold rowNow;rw [if_neg (Nat.lt_irrefl j),rowOf_len]
  omega) (by kernel_rfl) (by omega)
 have hln:(gapRow (rowNow m j E c j)).length+1=m+1:=by rw [gapRow_len];unfold rowNow;rw [if_neg (Nat.lt_irrefl j),rowOf_len]
 rw [hln] at e3 B3
 have e3':appendA false 2 16 (tag 86) s2 (vf j) (.slice t.n 0 1 1 false)=.val (.slice s2.n 0 (m+1) (m+1) true) s3:=e3
 have B3':Blk s3.h s3.n s2.n 2 tgap (gapRow (rowNow m (j+1) E c j)) (.slice s2.n 0 (m+1) (m+1) true):=by
  have:gapRow (rowNow m (j+1) E c j)=gapRow (rowNow m j E c j)++[[.int .i64 (-(c.gap.2+(E c.b j).2)),.int .i64 (-(c.gap.1+(E c.b j).1))]]:=by
   unfold rowNow
   rw [if_pos (Nat.lt_succ_self j),if_neg (Nat.lt_irrefl j),rowOf_more hj,gapRow_snoc]
   rfl
  rw [this];exact B3
 have og3:s3.h.get ob=some (.cells ((List.range m).map fun x=>[vf x]).flatten so):=(s3g ob (by omega) (by have:=n2.1;omega)).trans ((s2g ob (by omega) (by omega)).trans og)
 have oov:over (j * 1) [.slice s2.n 0 (m+1) (m+1) true] ((List.range m).map fun x=>[vf x]).flatten=some ((List.range m).map fun x=>[if x=j then AV.slice s2.n 0 (m+1) (m+1) true else vf x]).flatten:=by
  rw [over_flatten outer.wide (by rw [ol];exact hj) rfl,map_set_range]
  congr 3
  funext x
  by_cases h:x=j
  ·rw [if_pos h,if_pos h]
  ·rw [if_neg h,if_neg h]
 have sc1:∀ b n k e,scalars [AV.slice b 0 n k e]=true:=fun _ _ _ _=>rfl
 have ce1:∀ b n k e,cellsOf 1 (AV.slice b 0 n k e)=some [AV.slice b 0 n k e]:=fun _ _ _ _=>rfl
 simp (disch:=first|omega|(with_unfolding_all exact rfl)|(simp only[new_n,put_n,new_m];omega)|(refine put_m_le ?_;simp only[new_m];omega)) only [Abs.W,reduceIte,Nat.reduceEqDiff,Nat.reduceAdd,decide_true,decide_false,kLoop_def,Nat.reduceSub,List.cons_append,List.nil_append,List.append_nil,List.length_cons,List.length_nil,efs,e3',o1,og3,oov]
 rw [endO_ok _ (by
  rw [endOk_cons,endOk_nil]
  simp only [find_cons,efs,l3,reduceIte,Nat.reduceEqDiff]
  exact rj.apart n2.2.1)]
 simp (disch:=first|omega|(with_unfolding_all exact rfl)|(simp only[new_n,put_n,new_m];omega)|(refine put_m_le ?_;simp only[new_m];omega)) only [K51b0r6,Abs.W,reduceIte,Nat.reduceEqDiff,Nat.reduceAdd,decide_true,decide_false,kLoop_def,Nat.reduceSub,List.cons_append,List.nil_append,List.append_nil,List.length_cons,List.length_nil,efs,l20,ad]
 obtain ⟨oe,osz,ov,oln,ogg,oez⟩:=outer.is
 have hso:osz=so:=by rw [og] at ogg;injection ogg with z;injection z with _ z;exact z.symm
 have now_ne:∀ x,x≠j→rowNow m (j+1) E c x=rowNow m j E c x:=fun x hx=>by
  unfold rowNow
  by_cases h:x<j
  ·rw [if_pos (by omega),if_pos h]
  ·rw [if_neg (by omega),if_neg h]
 have s3ml:=s3m w n2.2.2.2.2 (by omega)
 refine ⟨_,_,fun x=>if x=j then s2.n else bf x,fun x=>if x=j then .slice s2.n 0 (m+1) (m+1) true else vf x,rfl,?_,?_,?_,?_,?_,?_,⟨?_,oe,so,?_,?_,?_,?_⟩,fun x hx=>?_,fun x y hx hy hxy=>?_,fun x hx=>?_,?_,fun x h1 h2 h3 h4=>?_,?_,?_,?_,?_,?_⟩
 ·simp only [efs,l3,reduceIte,Nat.reduceEqDiff]
 ·simp only [efs,l4,reduceIte,Nat.reduceEqDiff]
 ·simp only [efs,l5,reduceIte,Nat.reduceEqDiff]
 ·simp only [efs,l18,reduceIte,Nat.reduceEqDiff]
 ·simp only [efs,l19,reduceIte,Nat.reduceEqDiff]
 ·simp only [efs,reduceIte,Nat.reduceEqDiff];rfl
 ·intro r hr
  obtain ⟨x,_,rfl⟩:=List.mem_map.mp hr
  rfl
 ·rw [ov,List.length_map,List.length_map]
 ·simp only [put_n];omega
 ·exact get_put_eq _ _ _ _ rfl (by omega)
 ·intro h;rw [← hso];exact oez h
 ·by_cases h:x=j
  ·subst h
   simp only [if_true]
   exact B3'.mono (get_put_ne' _ _ _ _ (by omega)) (Nat.le_refl _)
  ·simp only [h,if_false,now_ne x h]
   have hx1:=hbf x hx
   have hx2:=(rows x hx).lt
   exact (rows x hx).mono ((get_put_ne' _ _ _ _ hx1.1).trans ((s3g _ (by omega) (apart x j hx hj h)).trans (s2g _ hx2 hx1.2.2.2.1))) (by simp only [put_n];omega)
 ·have hx2:=(rows x hx).lt
  have hy2:=(rows y hy).lt
  have hap:=apart x y hx hy hxy
  by_cases h:x=j
  ·have h':y≠j:=by omega
   simp only [h,h',if_true,if_false];omega
  ·by_cases h':y=j
   ·simp only [h,h',if_true,if_false];omega
   ·simp only [h,h',if_false];exact hap
 ·by_cases h:x=j
  ·simp only [h,if_true];exact .inr (by omega)
  ·simp only [h,if_false];exact from_ x hx
 ·exact (get_put_ne' _ _ _ _ (by omega)).trans ((s3g _ (by omega) (fun e=>n2.2.2.2.1 e.symm)).trans s2b)
 ·have:=h4 j hj
  have hne:x≠bf j:=by rcases from_ j hj with e | e<;>omega
  exact (get_put_ne' _ _ _ _ h2).trans ((s3g _ (by omega) hne).trans ((s2g _ (by omega) h3).trans (same x h1 h2 h3 h4)))
 ·simp only [put_n];omega
 ·simp only [put_n];omega
 ·simp only [St.put,minN_eq];omega
 ·simp only [St.put,minN_eq];omega
 ·simp only [St.put,minN_eq];omega
def givE (b:Bench):Nat→Nat→Nat→Gap
 | 0,_,_=>(0,0)
 | i+1,x,y=>moreE (i+1) (givE b i) (givAt b i).b (givAt b i).gap x y
theorem givE_succ (b:Bench) (i:Nat):givE b (i+1)=moreE (i+1) (givE b i) (givAt b i).b (givAt b i).gap:=rfl
structure GivJ (b:Bench) (R:ALoop) (q l w:Nat) (i:Nat) (O:Nat→Prop) (h:Heap) (n:Nat):Prop where
 loop:h.get l=some (.loop R)
 dfr:h.get (l - 1)=some .dfr
 ql:q+1<l
 ln:l<n
 tab:∃ (ob:Nat) (bf:Nat→Nat) (vf:Nat→AV) (v:AV),h.get q=some (.cells [v] (tag 81))∧Blk h n ob 1 trow ((List.range (i+1)).map fun x=>[vf x]) v∧(∀ x,x<i+1→Blk h n (bf x) 2 tgap (gapRow (rowOf (i+1) (givE b i) x)) (vf x)) ∧
  (∀ x y,x<i+1→y<i+1→x≠y→bf x≠bf y)∧(∀ x,x<i+1→bf x≠ob∧bf x≠q∧bf x≠l∧bf x≠l - 1∧w≤bf x)∧(ob≠q∧ob≠l∧ob≠l - 1∧w≤ob)∧(∀ x,O x↔(x=q∨x=l∨x=ob∨∃ y,y<i+1∧x=bf y))
theorem GivJ.keep {b:Bench} {R:ALoop} {q l w i:Nat} {O:Nat→Prop} {h h':Heap} {n n':Nat} (hh:∀ x,x<n→h'.get x=h.get x) (hn:n≤n') (j:GivJ b R q l w i O h n):GivJ b R q l w i O h' n':=by
 obtain ⟨j1,j2,j3,j4,ob,bf,vf,v,j5,j6,j7,j8⟩:=j
 exact ⟨by rw [hh _ j4];exact j1,by rw [hh _ (by omega)];exact j2,j3,by omega,ob,bf,vf,v,by rw [hh _ (by omega)];exact j5,j6.mono (hh _ j6.lt) hn,fun x hx=>(j7 x hx).mono (hh _ (j7 x hx).lt) hn,j8⟩
theorem GivJ.below {b:Bench} {R:ALoop} {q l w i:Nat} {O:Nat→Prop} {h:Heap} {n x:Nat} (j:GivJ b R q l w i O h n) (hx:O x):x<n:=by
 obtain ⟨j1,j2,j3,j4,ob,bf,vf,v,j5,j6,j7,j8,j9,ja,jb⟩:=j
 rcases (jb x).mp hx with rfl | rfl | rfl | ⟨y,hy,rfl⟩
 ·omega
 ·exact j4
 ·exact j6.lt
 ·exact (j7 y hy).lt
theorem given_take (N:Nat) (hN:1≤N) {b:Bench} {R:ALoop} {q l w i:Nat} {O:Nat→Prop} {L0:Env} {s:St} (hR:R=⟨.ready,none,51,L0,[13],(rangeAt Try.f51 0).1,(rangeAt Try.f51 0).2,l - 1,Try.f51.ntmps,X 51⟩)
  (h3:L0.find 3=.ptr q 0) (hi:i≤40) (ha:(givAt b i).a=i+1) (hb:(givAt b i).b<i+1) (hg:Small (givAt b i).gap.1∧Small (givAt b i).gap.2)
  (hE:∀ x y,x<i+1→y<i+1→Small (givE b i x y).1∧Small (givE b i x y).2) (hE2:∀ x,x<i+1→Small ((givAt b i).gap.plus (givE b i (givAt b i).b x)).1∧Small ((givAt b i).gap.plus (givE b i (givAt b i).b x)).2)
  (hw:w≤q) (hs:s.n+10000≤far) (hws:w≤s.m) (hms:s.m≤far) (hJ:GivJ b R q l w i O s.h s.n) :
  ∃ s' O',call Try.prog X (N+1) (.yield l) [claimV (givAt b i)] s=.val (.bool true) s'∧GivJ b R q l w (i+1) O' s'.h s'.n∧(∀ x,x<s.n→¬ O x→s'.h.get x=s.h.get x)∧(∀ x,x<s.n→O' x→O x)∧s.n≤s'.n∧s'.n≤s.n+200∧w≤s'.m∧s'.m≤s.m∧s'.m≤l:=by
 have hf:far=1000000000:=rfl
 obtain ⟨jl,jd,jq,jn,ob,bf,vf,v,jv,jo,jr,ja,jb,jc,jO⟩:=hJ
 obtain ⟨c,hc⟩:∃ c,c=givAt b i:=⟨_,rfl⟩
 have hE':∃ E,E=givE b i:=⟨_,rfl⟩
 obtain ⟨E,hEE⟩:=hE'
 have hsuc:=givE_succ b i
 rw [← hc] at ha hb hg hE2 hsuc ⊢
 rw [← hEE] at hE hE2 jr hsuc
 -- the round's own claim
 obtain ⟨s1,hs1⟩:∃ s1:St,s1=(s.new (.cells [.int .i64 0,.int .i64 0,.int .i64 0,.int .i64 0] (tag 120))).put s.n (.cells [.int .i64 c.a,.int .i64 c.b,.int .i64 c.gap.1,.int .i64 c.gap.2] (tag 120)):=⟨_,rfl⟩
 have s1n:s1.n=s.n+1:=by rw [hs1];rfl
 have s1g:∀ c,c≠s.n→s1.h.get c=s.h.get c:=fun c hc=>by rw [hs1,get_put_ne' _ _ _ _ hc,get_new_ne _ _ _ hc]
 have s1m:s1.m=min s.m s.n:=by rw [hs1];simp only [St.put,minN_eq,new_m]
 have s1w:s1.h.get s.n=some (.cells [.int .i64 c.a,.int .i64 c.b,.int .i64 c.gap.1,.int .i64 c.gap.2] (tag 120)):=by rw [hs1];exact get_put_eq _ _ _ _ rfl (by omega)
 have h1:K51a0 (call Try.prog X N) ⟨51,some l,Try.f51.ntmps,X 51⟩ (setParams L0 [13] [claimV c]) [] s=.done .norm ((L0.set 13 (claimV c)).set 4 (.ptr s.n 0)) [] s1:=by
  rw [hs1]
  simp (disch:=first|omega|(with_unfolding_all exact rfl)|(simp only[new_n,put_n,new_m];omega)|(refine put_m_le ?_;simp only[new_m];omega)) only [K51a0,K51a0r0,Abs.W,reduceIte,Nat.reduceEqDiff,Nat.reduceAdd,decide_true,decide_false,kLoop_def,Nat.reduceSub,List.cons_append,List.nil_append,List.append_nil,List.length_cons,List.length_nil,setParams1,efs,Nat.reduceEqDiff]
 obtain ⟨s2,hs2⟩:∃ s2:St,s2=s1.put l (.loop { R with state:=.busy }):=⟨_,rfl⟩
 have s2n:s2.n=s.n+1:=by rw [hs2];exact s1n
 have s2g:∀ c,c≠s.n→c≠l→s2.h.get c=s.h.get c:=fun c hc hc3=>by rw [hs2,get_put_ne' _ _ _ _ hc3];exact s1g c hc
 have s2l:s2.h.get l=some (.loop { R with state:=.busy }):=by rw [hs2];exact get_put_eq _ _ _ _ rfl (by omega)
 have s2w:s2.h.get s.n=some (.cells [.int .i64 c.a,.int .i64 c.b,.int .i64 c.gap.1,.int .i64 c.gap.2] (tag 120)):=by rw [hs2,get_put_ne' _ _ _ _ (by omega)];exact s1w
 have s2m:s2.m=min (min s.m s.n) l:=by rw [hs2];simp only [St.put,minN_eq,s1m]
 have jv2:=(s2g q (by omega) (by omega)).trans jv
 have vok:=jo.okA
 have vlen:=jo.len
 rw [List.length_map,List.length_range] at vlen
 have mk:∀ s:St,makeA [.int .i64 0,.int .i64 0] 16 s (.int .i64 ((i:Int)+1+1)) (.int .i64 ((i:Int)+1+1))=.val (.slice s.n 0 (i+2) (i+2) false) (s.new (.cells (List.replicate (i+2) zgap).flatten 0)):=fun s=>make_rows zgap 16 (i+2) s (by omega) (by omega)
 have ad:∀ s,aAdd s .i64 (c.a:Int) 1=.val (.int .i64 ((i:Int)+1+1)) s:=fun s=>by rw [aAdd_i64 s _ _ (by omega),ha];rfl
 have hbody:∃ (L2:Env) (s3:St) (ob':Nat) (bf':Nat→Nat) (vf':Nat→AV) (v':AV),K51b0 (call Try.prog X N) ⟨51,some l,Try.f51.ntmps,X 51⟩ ((L0.set 13 (claimV c)).set 4 (.ptr s.n 0)) [] s2=.done .norm L2 [] s3 ∧
   s3.h.get l=some (.loop { R with state:=.busy })∧s3.h.get (l - 1)=some .dfr∧s3.h.get q=some (.cells [v'] (tag 81))∧Blk s3.h s3.n ob' 1 trow ((List.range (i+1+1)).map fun x=>[vf' x]) v'∧(∀ x,x<i+1+1→Blk s3.h s3.n (bf' x) 2 tgap (gapRow (rowOf (i+1+1) (givE b (i+1)) x)) (vf' x)) ∧
   (∀ x y,x<i+1+1→y<i+1+1→x≠y→bf' x≠bf' y)∧(∀ x,x<i+1+1→bf' x≠ob'∧bf' x≠q∧bf' x≠l∧bf' x≠l - 1∧w≤bf' x∧(s.n≤bf' x∨∃ y,y<i+1∧bf' x=bf y))∧s.n≤ob' ∧
   (∀ x,x<s.n→x≠q→x≠l→x≠ob→(∀ y,y<i+1→x≠bf y)→s3.h.get x=s.h.get x)∧s.n≤s3.n∧s3.n≤s.n+150∧w≤s3.m∧s3.m≤s2.m:=by
  simp (disch:=first|omega|(with_unfolding_all exact rfl)|(simp only[new_n,put_n,new_m];omega)|(refine put_m_le ?_;simp only[new_m];omega)) only [K51b0,K51b0r0,K51b0r1,K51b0r7,Abs.W,reduceIte,Nat.reduceEqDiff,Nat.reduceAdd,decide_true,decide_false,kLoop_def,Nat.reduceSub,List.cons_append,List.nil_append,List.append_nil,List.length_cons,List.length_nil,efs,Nat.zero_add,h3,s2w,jv2,vok,vlen,kMake_def,ad,mk]
  generalize hl:loopN _ rounds _ _ _ _ _=r1
  obtain ⟨u3,M0,hu3,hM0,hl'⟩:=loop_state hl
  have u3n:u3.n=s.n+2:=by rw [hu3];show s2.n+1=_;omega
  have u3g:∀ x,x<s.n→x≠l→u3.h.get x=s.h.get x:=fun x h1 h2=>by rw [hu3,get_new_ne _ _ _ (by omega)];exact s2g x (by omega) h2
  have u3m:u3.m=min (min s.m s.n) l:=by rw [hu3,new_m,s2m]
  have u3l:u3.h.get l=some (.loop { R with state:=.busy }):=by rw [hu3,get_new_ne _ _ _ (by omega)];exact s2l
  have u3b:u3.h.get s2.n=some (.cells (List.replicate (i+2) zgap).flatten 0):=by rw [hu3];exact get_new_eq _ _ _ rfl (by omega)
  have u3x:u3.h.get s.n=some (.cells [.int .i64 c.a,.int .i64 c.b,.int .i64 c.gap.1,.int .i64 c.gap.2] (tag 120)):=by rw [hu3,get_new_ne _ _ _ (by omega)];exact s2w
  have hbn:∀ x,x<i+1→bf x<s.n:=fun x hx=>(jr x hx).lt
  have hon:=jo.lt
  have gq3:=(u3g q (by omega) (by omega)).trans jv
  obtain ⟨e,M1,s4,rfl,rfl,bf1,vf1,hI⟩:=loop_of hl' (fun j L' t'=>∃ (bf1:Nat→Nat) (vf1:Nat→AV),InGiv u3 t' q s.n s2.n ob (i+1) j (2 * j) w E c bf bf1 vf1 v L') (fun e L' t'=>e=.exit 2∧∃ (bf1:Nat→Nat) (vf1:Nat→AV),InGiv u3 t' q s.n s2.n ob (i+1) (i+1) (2 * (i+1)) w E c bf bf1 vf1 v L') (i+1) (by unfold rounds;omega)
   ⟨bf,vf,by rw [hM0];simp only [efs,h3,reduceIte,Nat.reduceEqDiff],by rw [hM0];simp only [efs,reduceIte,Nat.reduceEqDiff],by rw [hM0];simp only [efs,reduceIte,Nat.reduceEqDiff],by rw [hM0];simp only [efs,reduceIte,Nat.reduceEqDiff],by rw [hM0];simp only [efs,reduceIte,Nat.reduceEqDiff],by rw [hM0];simp only [efs,reduceIte,Nat.reduceEqDiff];rfl,
    jo.mono (u3g ob hon (by omega)) (by omega),fun x hx=>by
     have:rowNow (i+1) 0 E c x=rowOf (i+1) E x:=by unfold rowNow;rw [if_neg (Nat.not_lt_zero x)]
     rw [this]
     exact (jr x hx).mono (u3g _ (hbn x hx) (jb x hx).2.2.1) (by omega),ja,fun x _=>.inl rfl,by rw [u3b,List.range_zero,List.map_nil];exact congrArg (fun x=>some (AObj.cells (List.flatten x) 0)) (fillRows_nil (i+2) zgap).symm,fun _ _ _ _ _=>rfl,Nat.le_refl _,Nat.le_refl _,by omega,by omega,Nat.le_refl _⟩
   (fun j L' t' hj ⟨bf1,vf1,hI⟩=>by
    by_cases hlt:j<i+1
    ·obtain ⟨L2,t2,bf2,vf2,p1,p2⟩:=given_cell N hN ⟨51,some l,Try.f51.ntmps,X 51⟩ hI hlt (by omega) hb hE hg hE2 gq3 u3x ⟨by omega,by omega,by omega,fun y hy=>(by have:=(jb y hy).2.1;omega)⟩ ⟨by omega,by omega,by omega,fun y hy=>(by have:=hbn y hy;omega)⟩ ⟨by omega,by omega,fun y hy=>(by have:=(jb y hy).1;omega)⟩ ⟨by omega,fun y hy=>(by have:=hbn y hy;omega)⟩ ⟨jc.2.2.2,by omega,fun y hy=>(jb y hy).2.2.2.2⟩ (by omega) (by omega)
     exact .inl ⟨hlt,L2,t2,p1,bf2,vf2,by rw [Nat.mul_succ];exact p2⟩
    ·obtain rfl:j=i+1:=by omega
     have e1:decide (((i+1:Nat):Int)<((i+1:Nat):Int))=false:=by simp
     have q19:=hI.l19
     have q20:=hI.l20
     refine .inr ⟨.exit 2,L'.set 21 (.bool false),t',by simp,?_,rfl,bf1,vf1,?_⟩
     ·simp (disch:=first|omega|(with_unfolding_all exact rfl)|(simp only[new_n,put_n,new_m];omega)|(refine put_m_le ?_;simp only[new_m];omega)) only [K51b0l0,K51b0r2,Abs.W,reduceIte,Nat.reduceEqDiff,Nat.reduceAdd,decide_true,decide_false,kLoop_def,Nat.reduceSub,List.cons_append,List.nil_append,List.append_nil,List.length_cons,List.length_nil,efs,q19,q20,e1]
     ·obtain ⟨r1,r2,r3,r4,r5,r6,r7,r8,r9,ra,rb,rc,rd,re,rf,rg,rh⟩:=hI
      refine ⟨?_,?_,?_,?_,?_,?_,r7,r8,r9,ra,rb,rc,rd,re,rf,rg,rh⟩<;>rw [efs,if_neg (by omega)]<;>assumption)
  obtain ⟨r1,r2,r3,r4,r5,r6,r7,r8,r9,ra,rb,rc,rd,re,rf,rg,rh⟩:=hI
  have gq4:=(rc q (by omega) (by omega) (by omega) (fun y hy=>by have:=(jb y hy).2.1;omega)).trans gq3
  simp (disch:=first|omega|(with_unfolding_all exact rfl)|(simp only[new_n,put_n,new_m];omega)|(refine put_m_le ?_;simp only[new_m];omega)) only [Abs.W,reduceIte,Nat.reduceEqDiff,Nat.reduceAdd,decide_true,decide_false,kLoop_def,Nat.reduceSub,List.cons_append,List.nil_append,List.append_nil,List.length_cons,List.length_nil,efs,r1,r3,gq4,vok]
  obtain ⟨s5,hs5⟩:∃ s5:St,s5=s4.new (.cells [.slice s2.n 0 (i+1+1) (i+1+1) false] 0):=⟨_,rfl⟩
  rw [← hs5]
  have s5n:s5.n=s4.n+1:=by rw [hs5];rfl
  have s5g:∀ x,x<s4.n→s5.h.get x=s4.h.get x:=fun x hx=>by rw [hs5,get_new_ne _ _ _ (by omega)]
  have s5p:s5.h.get s4.n=some (.cells [.slice s2.n 0 (i+1+1) (i+1+1) false] 0):=by rw [hs5];exact get_new_eq _ _ _ rfl (by omega)
  have s5m:s5.m=s4.m:=by rw [hs5,new_m]
  have r7n:=r7.lt
  have hln:((List.range (i+1)).map fun x=>[vf1 x]).length=i+1:=by rw [List.length_map,List.length_range]
  obtain ⟨s6,e6,B6,s6n,s6g,s6m,s6l⟩:=append_blk (bytes:=24) (r7.mono (s5g _ r7n) (by omega):Blk s5.h s5.n ob 1 trow ((List.range (i+1)).map fun x=>[vf1 x]) v) s5p rfl rfl (by rw [hln];omega) (by kernel_rfl) (by omega)
  rw [hln] at e6 B6
  have e6':appendA false 1 24 (tag 87) s5 v (.slice s4.n 0 1 1 false)=.val (.slice s5.n 0 (i+1+1) (i+1+1) true) s6:=e6
  have g6q:s6.h.get q=some (.cells [v] (tag 81)):=(s6g q (by omega) (by omega)).trans ((s5g q (by omega)).trans gq4)
  have sc1:∀ b n k e,scalars [AV.slice b 0 n k e]=true:=fun _ _ _ _=>rfl
  have ce1:∀ b n k e,cellsOf 1 (AV.slice b 0 n k e)=some [AV.slice b 0 n k e]:=fun _ _ _ _=>rfl
  simp (disch:=first|omega|(with_unfolding_all exact rfl)|(simp only[new_n,put_n,new_m];omega)|(refine put_m_le ?_;simp only[new_m];omega)) only [Abs.W,reduceIte,Nat.reduceEqDiff,Nat.reduceAdd,decide_true,decide_false,kLoop_def,Nat.reduceSub,List.cons_append,List.nil_append,List.append_nil,List.length_cons,List.length_nil,efs,r1,e6',g6q]
  have hs6:=s6m w jc.2.2.2 (by omega)
  have bfn:∀ x,x<i+1→bf1 x<s4.n:=fun x hx=>(r8 x hx).lt
  have bfo:∀ x,x<i+1→bf1 x≠ob∧bf1 x≠q∧bf1 x≠l∧bf1 x≠l - 1∧w≤bf1 x∧bf1 x≠s2.n:=fun x hx=>by
   have j1:=jb x hx
   have j2:=hbn x hx
   rcases ra x hx with e | e
   ·rw [e];omega
   ·omega
  have old:∀ x,x<s4.n→x≠ob→x≠q→(s6.put q (.cells [.slice s5.n 0 (i+1+1) (i+1+1) true] (tag 81))).h.get x=s4.h.get x:=fun x h1 h2 h3=>(get_put_ne' _ _ _ _ h3).trans ((s6g x (by omega) h2).trans (s5g x h1))
  have low:∀ x,x<s.n→x≠q→x≠ob→(∀ y,y<i+1→x≠bf y)→s4.h.get x=u3.h.get x:=fun x h1 h2 h3 h4=>rc x (by omega) h3 (by omega) h4
  refine ⟨_,_,s5.n,fun x=>if x<i+1 then bf1 x else s2.n,fun x=>if x<i+1 then vf1 x else .slice s2.n 0 (i+1+1) (i+1+1) false,.slice s5.n 0 (i+1+1) (i+1+1) true,rfl,?_,?_,get_put_eq _ _ _ _ rfl (by omega),?_,fun x hx=>?_,fun x y hx hy hxy=>?_,fun x hx=>?_,by omega,fun x h1 h2 h3 h4 h5=>?_,?_,?_,?_,?_⟩
  ·exact (old l (by omega) (by omega) (by omega)).trans ((low l jn (by omega) (by omega) (fun y hy=>by have:=jb y hy;omega)).trans u3l)
  ·exact (old (l - 1) (by omega) (by omega) (by omega)).trans ((low (l - 1) (by omega) (by omega) (by omega) (fun y hy=>by have:=jb y hy;omega)).trans ((u3g _ (by omega) (by omega)).trans jd))
  ·have:((List.range (i+1+1)).map fun x=>[if x<i+1 then vf1 x else AV.slice s2.n 0 (i+1+1) (i+1+1) false])=((List.range (i+1)).map fun x=>[vf1 x])++[[.slice s2.n 0 (i+1+1) (i+1+1) false]]:=by
    rw [range_snoc,if_neg (Nat.lt_irrefl (i+1))]
    congr 1
    apply List.map_congr_left
    intro x hx
    rw [if_pos (List.mem_range.mp hx)]
   rw [this]
   exact B6.mono (get_put_ne' _ _ _ _ (by omega)) (by simp only [put_n];omega)
  ·rw [hsuc]
   by_cases h:x<i+1
   ·simp only [h,if_true]
    have hx8:=r8 x h
    have:rowNow (i+1) (i+1) E c x=rowOf (i+1+1) (moreE (i+1) E c.b c.gap) x:=by unfold rowNow;rw [if_pos h]
    rw [this] at hx8
    have b1:=bfo x h
    exact hx8.mono (old _ (bfn x h) b1.1 b1.2.1) (by simp only [put_n];omega)
   ·obtain rfl:x=i+1:=by omega
    simp only [h,if_false]
    refine ⟨gapRow_wide _,false,0,by rw [gapRow_len,rowOf_len],by simp only [put_n];omega,(old _ (by omega) (by omega) (by omega)).trans (rb.trans ?_),fun h=>by cases h⟩
    rw [rowOf_new,gapRow_snoc]
    unfold fillRows
    rw [gapRow_len,List.length_map,List.length_range,show i+1+1 - (i+1)=1 by omega]
    rfl
  ·have z1:=r9 x y
   by_cases h:x<i+1
   ·by_cases h':y<i+1
    ·simp only [h,h',if_true];exact z1 h h' hxy
    ·simp only [h,h',if_true,if_false];exact (bfo x h).2.2.2.2.2
   ·have h':y<i+1:=by omega
    simp only [h,h',if_true,if_false];exact fun e=>(bfo y h').2.2.2.2.2 e.symm
  ·by_cases h:x<i+1
   ·simp only [h,if_true]
    have b1:=bfo x h
    have b2:=bfn x h
    refine ⟨by omega,b1.2.1,b1.2.2.1,b1.2.2.2.1,b1.2.2.2.2.1,?_⟩
    rcases ra x h with e | e
    ·exact .inr ⟨x,h,e⟩
    ·exact .inl (by omega)
   ·simp only [h,if_false]
    exact ⟨by omega,by omega,by omega,by omega,by omega,.inl (by omega)⟩
  ·exact (old x (by omega) h4 h2).trans ((low x h1 h2 h4 h5).trans (u3g x h1 h3))
  ·simp only [put_n];omega
  ·simp only [put_n];omega
  ·simp only [St.put,minN_eq];omega
  ·have:u3.m=s2.m:=by rw [hu3,new_m]
   simp only [St.put,minN_eq];omega
 obtain ⟨L2,s3,ob',bf',vf',v',h4,t1,t2,t3,t4,t5,t6,t7,t8,t9,ta,tb,tc,td⟩:=hbody
 have h4':=h4
 rw [hs2] at h4'
 have hfin:=call_round (P:=Try.prog) (X:=X) (n:=N) (l:=l) (args:=[claimV c]) (r:=R) (r1:=R) (r2:={ R with state:=.busy }) (s:=s) (s1:=s1) (s2:=s3) (e:=.norm) jl (by rw [hR];rfl) (by rw [hR];exact code51a0) (by rw [hR];exact code51b0) (by rw [hR];exact h1) (by rw [s1g _ (by omega)];exact jl) (by rw [hR]) (by rw [hR];rw [hR] at h4';exact h4') t1
 have hRR:({ ({ R with state:=.busy }:ALoop) with state:=if goesOn .norm then .ready else .done,pending:=jumpOf .norm }:ALoop)=R:=by rw [hR];rfl
 rw [hRR] at hfin
 have ln3:l<s3.n:=by omega
 have ob3:=t4.lt
 refine ⟨_,fun x=>x=q∨x=l∨x=ob'∨∃ y,y<i+1+1∧x=bf' y,hfin,⟨get_put_eq _ _ _ _ rfl (by omega),?_,jq,by simp only [put_n];omega,ob',bf',vf',v',?_,t4.mono (get_put_ne' _ _ _ _ (by omega)) (Nat.le_refl _),fun x hx=>(t5 x hx).mono (get_put_ne' _ _ _ _ (t7 x hx).2.2.1) (Nat.le_refl _),t6,fun x hx=>⟨(t7 x hx).1,(t7 x hx).2.1,(t7 x hx).2.2.1,(t7 x hx).2.2.2.1,(t7 x hx).2.2.2.2.1⟩,⟨by omega,by omega,by omega,by omega⟩,fun x=>Iff.rfl⟩,fun x hx hO=>?_,fun x hx hO=>?_,?_,?_,?_,?_,?_⟩
 ·rw [get_put_ne' _ _ _ _ (by omega)];exact t2
 ·rw [get_put_ne' _ _ _ _ (by omega)];exact t3
 ·have hn:=fun h=>hO ((jO x).mpr h)
  rw [get_put_ne' _ _ _ _ (fun e=>hn (.inr (.inl e)))]
  exact t9 x hx (fun e=>hn (.inl e)) (fun e=>hn (.inr (.inl e))) (fun e=>hn (.inr (.inr (.inl e)))) (fun y hy e=>hn (.inr (.inr (.inr ⟨y,hy,e⟩))))
 ·refine (jO x).mpr ?_
  rcases hO with e | e | e | ⟨y,hy,e⟩
  ·exact .inl e
  ·exact .inr (.inl e)
  ·omega
  ·rcases (t7 y hy).2.2.2.2.2 with z | ⟨y',hy',z⟩
   ·omega
   ·exact .inr (.inr (.inr ⟨y',hy',by rw [e,z]⟩))
 ·simp only [put_n];omega
 ·simp only [put_n];omega
 ·simp only [St.put,minN_eq];omega
 ·simp only [St.put,minN_eq];omega
 ·simp only [St.put,minN_eq];omega
end Go.Proofs.Ytoolodjbfphkjaa.walk
set_option maxRecDepth 10000
namespace Go.Proofs.Ytoolodjbfphkjaa.walk
open Go.Abs Go.Proofs.Ytoolodjbfphkjaa.code
def tabOf (n:Nat) (E:Nat→Nat→Gap):List (List Gap):=(List.range n).map fun i=>rowOf n E i
theorem tabOf_square (n:Nat) (E:Nat→Nat→Gap):Square n (tabOf n E):=⟨by unfold tabOf;rw [List.length_map,List.length_range],fun r hr=>by
 unfold tabOf at hr
 obtain ⟨i,_,rfl⟩:=List.mem_map.mp hr
 exact rowOf_len n E i⟩
theorem tabOf_ent {n:Nat} (E:Nat→Nat→Gap) {i j:Nat} (hi:i<n) (hj:j<n):ent (tabOf n E) i j=E i j:=by
 simp [ent,tabOf,rowOf,List.getD,hi,hj]
theorem GTab.of_blk {h:Heap} {n m ob tg tg':Nat} {E:Nat→Nat→Gap} {bf:Nat→Nat} {vf:Nat→AV} {v:AV} (o:Blk h n ob 1 tg ((List.range m).map fun x=>[vf x]) v) (r:∀ x,x<m→Blk h n (bf x) 2 tg' (gapRow (rowOf m E x)) (vf x)):GTab h n (tabOf m E) v:=by
 have q1:=(tabOf_square m E).1
 refine ⟨o.okA,o.scal,fun s=>by rw [o.len s,List.length_map,List.length_range,q1],fun i hi=>?_⟩
 rw [q1] at hi
 have hli:i<((List.range m).map fun x=>[vf x]).length:=by rw [List.length_map,List.length_range];exact hi
 obtain ⟨sz,hg⟩:=o.get
 have e:(tabOf m E)[i]'(by rw [q1];exact hi)=rowOf m E i:=by simp [tabOf]
 rw [e]
 exact ⟨ob,i * 1,_,sz,vf i,o.lt,fun s=>o.ixs hli s,hg,cut1_nth ((o.cut hli).trans (by rw [List.getElem_map,List.getElem_range])),(r i hi).okA,(r i hi).at_⟩
theorem kFunc_def' (f:FuncId) (a b:List Arg) (L:Env) (s:St):kFunc f a b L s=.val (.func f (evs a L) (evs b L)) s:=Eq.trans (Eq.refl _) (Eq.refl _)
theorem givens_ok (N:Nat) (hN:1≤N) (l:List AV) (s:St) (hs:s.n+100≤far):call Try.prog X N (.fn 66) [.agg l] s=.val (.func 78 [] [.ptr s.n 0]) (s.new (.cells l (tag 28))):=by
 obtain ⟨n,rfl⟩:∃ n,N=n+1:=⟨N - 1,by omega⟩
 have hf:far=1000000000:=rfl
 obtain ⟨v,t,e,st,hv,hh⟩:=call_new (n:=n) (args:=[.agg l]) (s:=s) (k:=1) (Q:=fun v h n=>v=.func 78 [] [.ptr s.n 0]∧h=(s.new (.cells l (tag 28))).h∧n=s.n+1) Try.func66 rfl (fun u uh un um=>by
  rw [enter66]
  simp (disch:=first|omega|(with_unfolding_all exact rfl)|(simp only[new_n,put_n,new_m];omega)|(refine put_m_le ?_;simp only[new_m];omega)) only [res66,K66r0,K66r1,K66,Abs.W,reduceIte,Nat.reduceEqDiff,Nat.reduceAdd,decide_true,decide_false,kLoop_def,Nat.reduceSub,List.cons_append,List.nil_append,List.append_nil,List.length_cons,List.length_nil,kFunc_def',okA_func]
  refine ⟨_,_,rfl,(Beside.refl u (by omega) um).new _,rfl,by rw [un],?_,?_⟩
  ·show (u.new _).h=(s.new _).h
   unfold St.new
   simp only [uh,un]
  ·show u.n+1=_
   omega)
 rw [e,hv]
 congr 1
 obtain ⟨th,tn,tm⟩:=t
 have m1:tm=s.m:=st.m
 obtain ⟨h1,h2⟩:=hh
 simp only at h1 h2
 subst h1 h2 m1
 rfl
theorem results_ok (N:Nat) (hN:1≤N) (l:List AV) (s:St) (hs:s.n+100≤far):call Try.prog X N (.fn 52) [.agg l] s=.val (.func 69 [] [.ptr s.n 0]) (s.new (.cells l (tag 28))):=by
 obtain ⟨n,rfl⟩:∃ n,N=n+1:=⟨N - 1,by omega⟩
 have hf:far=1000000000:=rfl
 obtain ⟨v,t,e,st,hv,hh⟩:=call_new (n:=n) (args:=[.agg l]) (s:=s) (k:=1) (Q:=fun v h n=>v=.func 69 [] [.ptr s.n 0]∧h=(s.new (.cells l (tag 28))).h∧n=s.n+1) Try.func52 rfl (fun u uh un um=>by
  rw [enter52]
  simp (disch:=first|omega|(with_unfolding_all exact rfl)|(simp only[new_n,put_n,new_m];omega)|(refine put_m_le ?_;simp only[new_m];omega)) only [res52,K52r0,K52r1,K52,Abs.W,reduceIte,Nat.reduceEqDiff,Nat.reduceAdd,decide_true,decide_false,kLoop_def,Nat.reduceSub,List.cons_append,List.nil_append,List.append_nil,List.length_cons,List.length_nil,kFunc_def',okA_func]
  refine ⟨_,_,rfl,(Beside.refl u (by omega) um).new _,rfl,by rw [un],?_,?_⟩
  ·show (u.new _).h=(s.new _).h
   unfold St.new
   simp only [uh,un]
  ·show u.n+1=_
   omega)
 rw [e,hv]
 congr 1
 obtain ⟨th,tn,tm⟩:=t
 have m1:tm=s.m:=st.m
 obtain ⟨h1,h2⟩:=hh
 simp only at h1 h2
 subst h1 h2 m1
 rfl
theorem givAt_ok {b:Bench} (ok:b.Ok) {i:Nat} (hi:i<givMany b):(givAt b i).a=i+1∧(givAt b i).b<i+1 ∧ -10000≤(givAt b i).gap.1∧(givAt b i).gap.1≤(givAt b i).gap.2∧(givAt b i).gap.2≤10000:=by
 unfold givMany at hi
 unfold givAt
 by_cases h1:i<b.ms.length
 ·rw [if_pos h1]
  have:mAt b i=b.ms[i]:=by unfold mAt;simp [List.getD,h1]
  obtain ⟨_,_,o0,o1,o2⟩:=ok.mok _ (List.getElem_mem h1)
  rw [this]
  exact ⟨rfl,Nat.succ_pos i,o0,o1,o2⟩
 ·rw [if_neg h1]
  have h2:(i - b.ms.length) / (b.days+1)<b.ss.length:=Nat.div_lt_of_lt_mul (by rw [Nat.mul_comm];omega)
  have:sAt b ((i - b.ms.length) / (b.days+1))=b.ss[(i - b.ms.length) / (b.days+1)]:=by unfold sAt;simp [List.getD,h2]
  obtain ⟨f0,f1,f2,d0,d1,d2⟩:=ok.sok _ (List.getElem_mem h2)
  rw [this]
  by_cases h3:(i - b.ms.length) % (b.days+1)=0
  ·rw [if_pos h3];exact ⟨rfl,Nat.succ_pos i,by simp only;omega,by simp only;omega,by simp only;omega⟩
  ·rw [if_neg h3];exact ⟨rfl,Nat.lt_succ_self i,by simp only;omega,by simp only;omega,by simp only;omega⟩
theorem givMany_le {b:Bench} (ok:b.Ok):1≤givMany b∧givMany b≤32:=by
 have h0:=ok.m0
 have h1:=ok.m1
 have h2:b.ss.length * (b.days+1)≤3 * 9:=Nat.mul_le_mul ok.s1 (by have:=ok.d1;omega)
 unfold givMany
 omega
theorem givE_closed {b:Bench} (ok:b.Ok):∀ i,i≤givMany b→Closed (i+1) (givE b i)∧Bnd (i+1) (10000 * (i:Int)) (givE b i)
 | 0,_=>⟨⟨fun i hi=>rfl,fun i j _ _=>rfl,fun _ _ _ _ _ _=>by show (0:Int)≤0+0;omega⟩,fun _ _ _ _=>by show -(10000 * ((0:Nat):Int))≤0∧0≤10000 * ((0:Nat):Int);omega⟩
 | i+1,hi=>by
  obtain ⟨c,d⟩:=givE_closed ok i (by omega)
  obtain ⟨_,g1,g2,g3,g4⟩:=givAt_ok ok (i:=i) (by omega)
  rw [givE_succ]
  refine ⟨moreE_closed c g1 g3,?_⟩
  have:=moreE_bnd (g:=(givAt b i).gap) (k:=10000) d g1 ⟨by omega,g4⟩ ⟨by omega,by omega⟩
  rw [show 10000 * (((i+1:Nat)):Int)=10000 * (i:Int)+10000 by omega]
  exact this
theorem givE_small {b:Bench} (ok:b.Ok) {i:Nat} (hi:i≤givMany b) {x y:Nat} (hx:x<i+1) (hy:y<i+1) : -320000≤(givE b i x y).1∧(givE b i x y).1≤320000 ∧ -320000≤(givE b i x y).2∧(givE b i x y).2≤320000:=by
 obtain ⟨c,d⟩:=givE_closed ok i hi
 have h1:=d x y hx hy
 have h2:=c.some_ hx hy
 have h3:=(givMany_le ok).2
 omega
theorem given_ex {N:Nat} {b:Bench} {v1 v2 v3 v4:AV} {s:St} {r:ARes} (hr:call Try.prog X N (.fn 51) [.agg (benchV v1 v2 v3 v4 b.days)] s=r) (hN:6≤N) (ok:b.Ok) (hB:BenchAt s.h s.n b v1 v2 v3 v4) (hs:s.n+400000≤far) :
  ∃ v t,r=.val v t∧New s t 10000∧GTabF t.h (s.n+1) t.n (tabOf (givMany b+1) (givE b (givMany b))) v:=by
 obtain ⟨n,rfl⟩:∃ n,N=n+1:=⟨N - 1,by omega⟩
 have hf:far=1000000000:=rfl
 obtain ⟨v',t,e,st,hq⟩:=call_new (n:=n) (args:=[.agg (benchV v1 v2 v3 v4 b.days)]) (s:=s) (k:=10000) (Q:=fun v' h n=>GTabF h (s.n+1) n (tabOf (givMany b+1) (givE b (givMany b))) v') Try.func51 rfl (fun u uh un um=>by
  rw [← uh,← un] at hB
  unfold benchV
  rw [enter51]
  simp (disch:=first|omega|(with_unfolding_all exact rfl)|(simp only[new_n,put_n,new_m];omega)|(refine put_m_le ?_;simp only[new_m];omega)) only [res51,K51r0,K51r1,K51r2,K51r3,K51,K51a0r0,K51a0,K51b0r0,K51b0r1,K51b0r2,K51b0r3,K51b0r4,K51b0r5,K51b0r6,K51b0l0,K51b0r7,K51b0,Abs.W,reduceIte,Nat.reduceEqDiff,Nat.reduceAdd,decide_true,decide_false,kLoop_def,Nat.reduceSub,List.cons_append,List.nil_append,List.append_nil,List.length_cons,List.length_nil,efs,Nat.zero_add,givens_ok]
  simp only [put_n,new_n]
  generalize hL:Env.cons 0 _ _=L0
  have f3:L0.find 3=.ptr (u.n+3) 0:=by rw [← hL];simp only [find_cons,reduceIte,Nat.reduceEqDiff]
  have f12:L0.find 12=.func 78 [] [.ptr (u.n+4) 0]:=by rw [← hL];simp only [find_cons,reduceIte,Nat.reduceEqDiff]
  generalize hw:St.new (St.put _ _ _) _=w
  have wn:w.n=u.n+5:=by rw [← hw];rfl
  have wm:w.m=min far (u.n+3):=by rw [← hw];simp only [St.put,minN_eq,new_m,um]
  have wg:∀ c,c<u.n→w.h.get c=u.h.get c:=fun c hc=>by rw [← hw];simp (disch:=first|omega|(with_unfolding_all exact rfl)|(simp only[new_n,put_n,new_m];omega)|(refine put_m_le ?_;simp only[new_m];omega)) only [get_new_ne,get_put_ne']
  have w1:w.h.get (u.n+1)=some (.cells [.int .i64 0,.int .i64 0] 0):=by rw [← hw];simp (disch:=first|omega|(with_unfolding_all exact rfl)|(simp only[new_n,put_n,new_m];omega)|(refine put_m_le ?_;simp only[new_m];omega)) only [get_new_ne,get_put_ne'];exact get_new_eq _ _ _ rfl (by simp only [new_n];omega)
  have w2:w.h.get (u.n+2)=some (.cells [.slice (u.n+1) 0 1 1 false] 0):=by rw [← hw];simp (disch:=first|omega|(with_unfolding_all exact rfl)|(simp only[new_n,put_n,new_m];omega)|(refine put_m_le ?_;simp only[new_m];omega)) only [get_new_ne,get_put_ne'];exact get_new_eq _ _ _ rfl (by simp only [new_n];omega)
  have w3:w.h.get (u.n+3)=some (.cells [.slice (u.n+2) 0 1 1 false] (tag 81)):=by rw [← hw];simp (disch:=first|omega|(with_unfolding_all exact rfl)|(simp only[new_n,put_n,new_m];omega)|(refine put_m_le ?_;simp only[new_m];omega)) only [get_new_ne,get_put_ne',get_put_eq,get_new_eq]
  have w4:w.h.get (u.n+4)=some (.cells [v1,v2,v3,v4,.int .i64 b.days] (tag 28)):=by rw [← hw];exact get_new_eq _ _ _ rfl (by simp only [put_n,new_n];omega)
  obtain ⟨n2,rfl⟩:∃ n2,n=n2+2:=⟨n - 2,by omega⟩
  obtain ⟨R,hRdef⟩:∃ R:ALoop,R=⟨.ready,none,51,L0,[13],(rangeAt Try.f51 0).1,(rangeAt Try.f51 0).2,u.n+6 - 1,Try.f51.ntmps,X 51⟩:=⟨_,rfl⟩
  have hKl:=givMany_le ok
  have hG:Gives (n2+1) (u.n+6) 200 (u.n+1) (givMany b) (givAt b) (GivJ b R (u.n+3) (u.n+6) (u.n+1)):=⟨by omega,fun _ _ _ _ _ j hx=>j.below hx,fun _ _ _ _ _ _ hh hn j=>j.keep hh hn,fun i O s hi hJ hs hws hms=>by
   obtain ⟨g0,g1,g2,g3,g4⟩:=givAt_ok ok hi
   refine given_take n2 (by omega) hRdef f3 (by omega) g0 g1 ⟨by unfold Small;omega,by unfold Small;omega⟩ (fun x y hx hy=>?_) (fun x hx=>?_) (by omega) (by omega) hws hms hJ
   ·have:=givE_small ok (i:=i) (by omega) hx hy
    unfold Small;omega
   ·have:=givE_small ok (i:=i) (by omega) g1 hx
    rw [plus1,plus2]
    unfold Small;omega⟩
  obtain ⟨w6,hw6⟩:∃ w6:St,w6=(w.new .dfr).new (.loop R):=⟨_,rfl⟩
  have w6n:w6.n=u.n+7:=by rw [hw6];show w.n+1+1=_;omega
  have w6m:w6.m=min far (u.n+3):=by rw [hw6];exact wm
  have w6g:∀ c,c<u.n+5→w6.h.get c=w.h.get c:=fun c hc=>by rw [hw6,get_new_ne _ _ _ (by simp only [new_n];omega),get_new_ne _ _ _ (by omega)]
  have w6d:w6.h.get (u.n+5)=some .dfr:=by rw [hw6,get_new_ne _ _ _ (by simp only [new_n];omega)];exact get_new_eq _ _ _ wn.symm (by omega)
  have w6l:w6.h.get (u.n+6)=some (.loop R):=by rw [hw6];exact get_new_eq _ _ _ (by simp only [new_n];omega) (by simp only [new_n];omega)
  have w6u:∀ c,c<u.n→w6.h.get c=u.h.get c:=fun c hc=>(w6g c (by omega)).trans (wg c hc)
  have G0:GivJ b R (u.n+3) (u.n+6) (u.n+1) 0 (fun x=>x=u.n+3∨x=u.n+6∨x=u.n+2∨∃ y,y<0+1∧x=u.n+1) w6.h w6.n:=by
   refine ⟨w6l,w6d,by omega,by omega,u.n+2,fun _=>u.n+1,fun _=>.slice (u.n+1) 0 1 1 false,.slice (u.n+2) 0 1 1 false,(w6g _ (by omega)).trans w3,⟨?_,false,0,rfl,by omega,(w6g _ (by omega)).trans w2,fun h=>by cases h⟩,fun x hx=>⟨gapRow_wide _,false,0,rfl,by show u.n+1<w6.n;omega,(w6g (u.n+1) (by omega)).trans w1,fun h=>by cases h⟩,fun x y hx hy hxy=>by omega,fun x hx=>⟨by show u.n+1≠u.n+2;omega,by show u.n+1≠u.n+3;omega,by show u.n+1≠u.n+6;omega,by show u.n+1≠u.n+6 - 1;omega,by show u.n+1≤u.n+1;omega⟩,⟨by omega,by omega,by omega,by omega⟩,fun x=>Iff.rfl⟩
   intro r hr
   obtain ⟨x,_,rfl⟩:=List.mem_map.mp hr
   rfl
  generalize hc:call Try.prog X (n2+2) (.fn 78) [.yield (u.n+6),.ptr (u.n+4) 0] w6=r94
  obtain ⟨s2,O1,rfl,G,same,own,sn,sk,sm,smm⟩:=givens1_ex hc (by omega) hG ok u.n (hB.grow w6u (Nat.le_refl _)) (fun x hx=>⟨by omega,by rintro (h | h | h | ⟨_,_,h⟩)<;>omega⟩) ((w6g _ (by omega)).trans w4) ⟨by omega,by rintro (h | h | h | ⟨_,_,h⟩)<;>omega⟩ (by omega) (by omega) (by omega) G0
  have hk32:(200+1) * givMany b≤201 * 32:=Nat.mul_le_mul_left _ hKl.2
  obtain ⟨j1,j2,j3,j4,ob,bf,vf,v,j5,j6,j7,j8,j9,ja,jb⟩:=G
  have hcall:callV (call Try.prog X (n2+2)) [.yield (w.n+1)] ((w.new .dfr).new (.loop ⟨.ready,none,51,L0,[13],(rangeAt Try.f51 0).1,(rangeAt Try.f51 0).2,w.n,Try.f51.ntmps,X 51⟩)) ((Arg.tmp 12).ev L0)=.val (.tup []) s2:=by
   rw [ev_tmp,f12,callV_func,wn,show (⟨.ready,none,51,L0,[13],(rangeAt Try.f51 0).1,(rangeAt Try.f51 0).2,u.n+5,Try.f51.ntmps,X 51⟩:ALoop)=R from hRdef.symm,← hw6]
   exact hc
  have hrange:=range_to_end (ps:=[13]) (c:=⟨51,none,Try.f51.ntmps,X 51⟩) rfl hcall (by rw [wn];exact j1) (by rw [hRdef]) (by rw [hRdef])
  rw [wn] at hrange
  have g5':∀ o,((s2.put (u.n+6) o).h.get (u.n+3))=some (.cells [v] (tag 81)):=fun o=>by rw [get_put_ne' _ _ _ _ (by omega)];exact j5
  have gd':∀ o,(s2.put (u.n+6) o).h.get (u.n+5)=some .dfr:=fun o=>by rw [get_put_ne' _ _ _ _ (by omega)];exact j2
  have k6:=j6.okA
  have hE:∀ o,Beside u ((s2.put (u.n+6) o).kill (u.n+5)) 10000:=fun o=>⟨fun c hc=>by
    rw [get_kill_ne _ _ _ (by omega),get_put_ne' _ _ _ _ (by omega)]
    exact (same c (by omega) (by rintro (h | h | h | ⟨_,_,h⟩)<;>omega)).trans (w6u c hc),by show u.n≤s2.n;omega,by show s2.n≤u.n+10000;omega,by
    have:=sm (by omega)
    simp only [St.kill,St.put,minN_eq];omega,by
    simp only [St.kill,St.put,minN_eq];omega⟩
  simp (disch:=first|omega|(with_unfolding_all exact rfl)|(simp only[new_n,put_n,new_m];omega)|(refine put_m_le ?_;simp only[new_m];omega)) only [res51,K51r0,K51r1,K51r2,K51r3,K51,K51a0r0,K51a0,K51b0r0,K51b0r1,K51b0r2,K51b0r3,K51b0r4,K51b0r5,K51b0r6,K51b0l0,K51b0r7,K51b0,Abs.W,reduceIte,Nat.reduceEqDiff,Nat.reduceAdd,decide_true,decide_false,kLoop_def,Nat.reduceSub,List.cons_append,List.nil_append,List.append_nil,List.length_cons,List.length_nil,hrange,efs,f3,g5',k6]
  rw [leave_dfr _ _ _ _ _ (gd' _)]
  simp (disch:=first|omega|(with_unfolding_all exact rfl)|(simp only[new_n,put_n,new_m];omega)|(refine put_m_le ?_;simp only[new_m];omega)) only [res51,K51r0,K51r1,K51r2,K51r3,K51,K51a0r0,K51a0,K51b0r0,K51b0r1,K51b0r2,K51b0r3,K51b0r4,K51b0r5,K51b0r6,K51b0l0,K51b0r7,K51b0,Abs.W,reduceIte,Nat.reduceEqDiff,Nat.reduceAdd,decide_true,decide_false,kLoop_def,Nat.reduceSub,List.cons_append,List.nil_append,List.append_nil,List.length_cons,List.length_nil,efs]
  refine ⟨_,_,rfl,hE _,?_,?_⟩
  ·obtain ⟨e,sz,z,_⟩:=j6.is
   rw [z];rfl
  ·have gk:∀ o c,c≠u.n+5→c≠u.n+6→((s2.put (u.n+6) o).kill (u.n+5)).h.get c=s2.h.get c:=fun o c h1 h2=>by rw [get_kill_ne _ _ _ h1,get_put_ne' _ _ _ _ h2]
   have j6n:=j6.lt
   exact fun k hk=>GTab.of_blk (j6.mono ((hk _ (by omega) j6n).trans (gk _ _ (by omega) (by omega))) (Nat.le_refl _)) (fun x hx=>(j7 x hx).mono ((hk _ (by have:=j9 x hx;omega) (j7 x hx).lt).trans (gk _ _ (by have:=j9 x hx;omega) (by have:=j9 x hx;omega))) (Nat.le_refl _)))
 exact ⟨v',t,hr.symm.trans e,st,hq⟩
end Go.Proofs.Ytoolodjbfphkjaa.walk
set_option maxRecDepth 10000
namespace Go.Abs
theorem range_to_ret {f:Arg} {ps:List Tmp} {a b:Code} {cl:CallF} {c:Ctx} {L:Env} {s s2:St} {v:AV} {r:ALoop} (hc:c.rnd=none)
  (h:callV cl [.yield (s.n+1)] ((s.new .dfr).new (.loop ⟨.ready,none,c.fn,L,ps,a,b,s.n,c.nt,c.xs⟩)) (f.ev L)=.val v s2) (hr:s2.h.get (s.n+1)=some (.loop r)) (hb:r.state=.done) (hp:r.pending=some .ret) :
  kRange f ps a b cl c L [] s=.done .ret L [s.n] (s2.put (s.n+1) (.loop { r with state:=.exhausted })):=by
 rw [range_eq hc h hr (by rw [hb];simp),hp]
 rfl
theorem leave_cell_cell {P:Program} (a:Nat) (t:TypeId) (b:Nat) (t':TypeId) (L:Env) (s:St) {sh sh':Option Nat} (hs:shapeT P t=some sh) (hs':shapeT P t'=some sh') {v v':AV} (h:okA (loadA sh s (L.find a))=.val v s) (h':okA (loadA sh' s (L.find b))=.val v' s) :
  leaveA P [.cell a t,.cell b t'] L [] s=.val (.tup [v,v']) s:=by
 unfold leaveA
 simp only [takeDfs,resultsA,hs,hs',h,h']
 rfl
theorem cellsOf_one (v:AV) (h:v.scalar=true):cellsOf 1 v=some [v]:=by cases v<;>first | rfl | cases h
theorem cellsOf_bool (q:Bool):cellsOf 1 (.bool q)=some [.bool q]:=Eq.trans (Eq.refl _) (Eq.refl _)
end Go.Abs
namespace Go.Proofs.Ytoolodjbfphkjaa.walk
open Go.Abs Go.Proofs.Ytoolodjbfphkjaa.code
abbrev big (b:Bench):Nat:=givMany b+1
def refB (T:List (List Gap)) (c:Claim):Bool:=decide (((ent T c.a c.b).meet c.gap).2<((ent T c.a c.b).meet c.gap).1)
def knT (b:Bench):Nat→Option (List (List Gap))
 | 0=>some (tabOf (big b) (givE b (givMany b)))
 | k+1=>match knT b k with
  | none=>none
  | some T=>if refB T (resAt b k)=true then none else some (withT (big b) T (resAt b k))
theorem knT_none {b:Bench} {k:Nat} (h:knT b k=none):∀ m,knT b (k+m)=none
 | 0=>h
 | m+1=>by
  have:=knT_none h m
  show (match knT b (k+m) with | none=>none | some T=>if refB T (resAt b (k+m))=true then none else some (withT (big b) T (resAt b (k+m))))=none
  rw [this]
theorem Closed.congr {n:Nat} {E F:Nat→Nat→Gap} (c:Closed n E) (h:∀ i j,i<n→j<n→F i j=E i j):Closed n F :=
 ⟨fun i hi=>by rw [h i i hi hi];exact c.zero i hi,fun i j hi hj=>by rw [h j i hj hi,h i j hi hj];exact c.anti i j hi hj,fun i j k hi hj hk=>by rw [h i j hi hj,h i k hi hk,h k j hk hj];exact c.tri i j k hi hj hk⟩
theorem refB_iff {T:List (List Gap)} {c:Claim}:refB T c=false↔¬ refutesE (ent T) c:=by
 unfold refB refutesE
 rw [decide_eq_false_iff_not]
theorem resAt_ok {b:Bench} (ok:b.Ok) {k:Nat} (hk:k<resMany b):(resAt b k).a<big b∧(resAt b k).b<big b ∧ -3000000≤(resAt b k).gap.1∧(resAt b k).gap.1≤(resAt b k).gap.2∧(resAt b k).gap.2≤3000000:=by
 unfold resMany at hk
 unfold resAt
 have hg:big b=b.ms.length+b.ss.length * (b.days+1)+1:=rfl
 by_cases h:k<b.ws.length
 ·rw [if_pos h]
  have:wAt b k=b.ws[k]:=by unfold wAt;simp [List.getD,h]
  obtain ⟨a0,a1,b0,b1,_,d0,d1,d2⟩:=ok.wok _ (List.getElem_mem h)
  rw [this]
  unfold Weigh.claim
  simp only
  omega
 ·rw [if_neg h]
  have h2:k - b.ws.length<b.ts.length:=by omega
  have:tAt b (k - b.ws.length)=b.ts[k - b.ws.length]:=by unfold tAt;simp [List.getD,h2]
  obtain ⟨s0,s1,m0,m1,d0,d1,x0,x1⟩:=ok.tok _ (List.getElem_mem h2)
  rw [this]
  generalize b.ts[k - b.ws.length]=t at *
  unfold Trial.claim errAt
  simp only
  have hm:t.mass.toNat<b.ms.length:=by omega
  have hn:nomAt b t.mass.toNat=(b.ms[t.mass.toNat]).nom:=by unfold nomAt;simp [List.getD,hm]
  obtain ⟨n0,n1,_,_,_⟩:=ok.mok _ (List.getElem_mem hm)
  have:(t.scale.toNat+1) * (b.days+1)≤b.ss.length * (b.days+1):=Nat.mul_le_mul_right _ (by omega)
  rw [Nat.succ_mul] at this
  rw [hn]
  omega
structure KnOk (b:Bench) (T:List (List Gap)):Prop where
 sq:Square (big b) T
 cl:Closed (big b) (ent T)
 bd:Bnd (big b) 320000 (ent T)
theorem knT_ok {b:Bench} (ok:b.Ok):∀ k T,k≤resMany b→knT b k=some T→KnOk b T
 | 0,T,_,h=>by
  obtain ⟨c,d⟩:=givE_closed ok (givMany b) (Nat.le_refl _)
  injection h with h
  subst h
  have hk:=givMany_le ok
  refine ⟨tabOf_square _ _,c.congr fun i j hi hj=>tabOf_ent _ hi hj,fun i j hi hj=>?_⟩
  rw [tabOf_ent _ hi hj]
  have:=d i j hi hj
  omega
 | k+1,T,hk,h=>by
  have hu:knT b (k+1)=(match knT b k with | none=>none | some T=>if refB T (resAt b k)=true then none else some (withT (big b) T (resAt b k))):=rfl
  rw [hu] at h
  cases h0:knT b k with
  | none=>rw [h0] at h;cases h
  | some T0 =>
   rw [h0] at h
   simp only at h
   obtain ⟨q,c,d⟩:=knT_ok ok k T0 (by omega) h0
   obtain ⟨r1,r2,_,_,_⟩:=resAt_ok ok (k:=k) (by omega)
   cases hr:refB T0 (resAt b k) with
   | true=>rw [hr] at h;simp at h
   | false =>
    rw [hr] at h
    simp at h
    subst h
    have c2:=withE_closed c r1 r2 (refB_iff.mp hr)
    refine ⟨withT_square _ _ _,c2.congr fun i j hi hj=>withT_ent _ _ hi hj,fun i j hi hj=>?_⟩
    rw [withT_ent _ _ hi hj]
    exact (d.le (withE_le _ _ _)) i j hi hj
theorem KnOk.small {b:Bench} {T:List (List Gap)} (k:KnOk b T):SmallT (big b) T:=fun i j hi hj=>by
 have h1:=k.bd i j hi hj
 have h2:=k.cl.some_ hi hj
 omega
theorem KnOk.meet {b:Bench} {T:List (List Gap)} (k:KnOk b T) {c:Claim} (ha:c.a<big b) (hb:c.b<big b) (hr:refB T c=false):∀ x,x=((ent T c.a c.b).meet c.gap).1∨x=((ent T c.a c.b).meet c.gap).2 → -100000000≤x∧x≤100000000:=by
 have h1:=k.bd _ _ ha hb
 have h2:=refB_iff.mp hr
 unfold refutesE at h2
 rw [meet1,meet2] at *
 intro x hx
 rcases hx with rfl | rfl<;>omega
structure KnJ (b:Bench) (R:ALoop) (u1 q l k:Nat) (h:Heap) (n:Nat):Prop where
 loop:h.get l=some (.loop R)
 dfr:h.get (l - 1)=some .dfr
 ql:q+1<l
 uq:u1+3≤q
 ln:l<n
 c2:h.get (u1+1)=some (.cells [.nilslice] (tag 81))
 c3:h.get (u1+2)=some (.cells [.bool false] (tag 4))
 tab:∃ T v lo m,knT b k=some T∧h.get q=some (.cells [v] (tag 81))∧GTabF h lo m T v∧m≤n∧u1+3≤lo∧(m≤q∨l<lo)
structure KnS (b:Bench) (R:ALoop) (u1 l:Nat) (h:Heap) (n:Nat):Prop where
 loop:h.get l=some (.loop { R with state:=.done,pending:=some .ret })
 dfr:h.get (l - 1)=some .dfr
 ln:l<n
 c2:h.get (u1+1)=some (.cells [.nilslice] (tag 81))
 c3:h.get (u1+2)=some (.cells [.bool false] (tag 4))
 no:knT b (resMany b)=none
theorem KnJ.keep {b:Bench} {R:ALoop} {u1 q l k:Nat} {h h':Heap} {n n':Nat} (hh:∀ x,x<n→h'.get x=h.get x) (hn:n≤n') (j:KnJ b R u1 q l k h n):KnJ b R u1 q l k h' n':=by
 obtain ⟨j1,j2,j3,j4,j5,j6,j7,T,v,lo,m,t1,t2,t3,t4,t5,t6⟩:=j
 exact ⟨by rw [hh _ j5];exact j1,by rw [hh _ (by omega)];exact j2,j3,j4,by omega,by rw [hh _ (by omega)];exact j6,by rw [hh _ (by omega)];exact j7,T,v,lo,m,t1,by rw [hh _ (by omega)];exact t2,t3.mono (fun x h1 h2=>hh x (by omega)) (Nat.le_refl _),by omega,t5,t6⟩
theorem known_take (N:Nat) (hN:3≤N) {b:Bench} (ok:b.Ok) {R:ALoop} {u1 q l k:Nat} {L0:Env} {s:St} (hR:R=⟨.ready,none,28,L0,[10],(rangeAt Try.f28 0).1,(rangeAt Try.f28 0).2,l - 1,Try.f28.ntmps,X 28⟩)
  (h2:L0.find 2=.ptr (u1+1) 0) (h3:L0.find 3=.ptr (u1+2) 0) (h4:L0.find 4=.ptr q 0) (hk:k<resMany b) (hs:s.n+10000≤far) (hJ:KnJ b R u1 q l k s.h s.n) :
  ∃ s' p,call Try.prog X (N+1) (.yield l) [claimV (resAt b k)] s=.val (.bool p) s'∧(p=true→KnJ b R u1 q l (k+1) s'.h s'.n)∧(p=false→KnS b R u1 l s'.h s'.n)∧(∀ x,x<s.n→¬ (x=u1+1∨x=u1+2∨x=q∨x=l)→s'.h.get x=s.h.get x)∧s.n≤s'.n∧s'.n≤s.n+6000∧(u1+1≤s.m→u1+1≤s'.m)∧s'.m≤s.m∧s'.m≤l:=by
 have hf:far=1000000000:=rfl
 obtain ⟨jl,jd,jq,ju,jn,jc2,jc3,T,v,lo,m,t1,t2,t3,t4,t5,t6⟩:=hJ
 have kok:=knT_ok ok k T (by omega) t1
 obtain ⟨r1,r2,r3,r4,r5⟩:=resAt_ok ok hk
 have hnext:knT b (k+1)=if refB T (resAt b k)=true then none else some (withT (big b) T (resAt b k)):=by
  show (match knT b k with | none=>none | some T=>if refB T (resAt b k)=true then none else some (withT (big b) T (resAt b k)))=_
  rw [t1]
 have hbig:=givMany_le ok
 have hbg:big b=givMany b+1:=rfl
 generalize hc:resAt b k=c at *
 obtain ⟨s1,hs1⟩:∃ s1:St,s1=(s.new (.cells [.int .i64 0,.int .i64 0,.int .i64 0,.int .i64 0] (tag 120))).put s.n (.cells [.int .i64 c.a,.int .i64 c.b,.int .i64 c.gap.1,.int .i64 c.gap.2] (tag 120)):=⟨_,rfl⟩
 have s1n:s1.n=s.n+1:=by rw [hs1];rfl
 have s1g:∀ c,c≠s.n→s1.h.get c=s.h.get c:=fun c hc=>by rw [hs1,get_put_ne' _ _ _ _ hc,get_new_ne _ _ _ hc]
 have s1m:s1.m=min s.m s.n:=by rw [hs1];simp only [St.put,minN_eq,new_m]
 have s1w:s1.h.get s.n=some (.cells [.int .i64 c.a,.int .i64 c.b,.int .i64 c.gap.1,.int .i64 c.gap.2] (tag 120)):=by rw [hs1];exact get_put_eq _ _ _ _ rfl (by omega)
 have h1:K28a0 (call Try.prog X N) ⟨28,some l,Try.f28.ntmps,X 28⟩ (setParams L0 [10] [claimV c]) [] s=.done .norm ((L0.set 10 (claimV c)).set 5 (.ptr s.n 0)) [] s1:=by
  rw [hs1]
  simp (disch:=first|omega|(with_unfolding_all exact rfl)|(simp only[new_n,put_n,new_m];omega)|(refine put_m_le ?_;simp only[new_m];omega)) only [K28a0,K28a0r0,Abs.W,reduceIte,Nat.reduceEqDiff,Nat.reduceAdd,decide_true,decide_false,kLoop_def,Nat.reduceSub,List.cons_append,List.nil_append,List.append_nil,List.length_cons,List.length_nil,setParams1,efs,Nat.reduceEqDiff]
 obtain ⟨s2,hs2⟩:∃ s2:St,s2=s1.put l (.loop { R with state:=.busy }):=⟨_,rfl⟩
 have s2n:s2.n=s.n+1:=by rw [hs2];exact s1n
 have s2g:∀ c,c≠s.n→c≠l→s2.h.get c=s.h.get c:=fun c hc hc3=>by rw [hs2,get_put_ne' _ _ _ _ hc3];exact s1g c hc
 have s2l:s2.h.get l=some (.loop { R with state:=.busy }):=by rw [hs2];exact get_put_eq _ _ _ _ rfl (by omega)
 have s2w:s2.h.get s.n=some (.cells [.int .i64 c.a,.int .i64 c.b,.int .i64 c.gap.1,.int .i64 c.gap.2] (tag 120)):=by rw [hs2,get_put_ne' _ _ _ _ (by omega)];exact s1w
 have s2m:s2.m=min (min s.m s.n) l:=by rw [hs2];simp only [St.put,minN_eq,s1m]
 have jv2:=(s2g q (by omega) (by omega)).trans t2
 have g2':=(s2g (u1+1) (by omega) (by omega)).trans jc2
 have g3':=(s2g (u1+2) (by omega) (by omega)).trans jc3
 have hT2:GTabF s2.h lo s2.n T v:=t3.mono (fun x h1 h2=>s2g x (by omega) (by omega)) (by omega)
 have vok:=hT2.tab.ok
 have href:=refutes_ok N (by omega) T (big b) v c s2 hT2.tab kok.sq r1 r2 (by omega)
 have hrb:decide (((ent T c.a c.b).meet c.gap).2<((ent T c.a c.b).meet c.gap).1)=refB T c:=rfl
 rw [hrb] at href
 cases hr:refB T c with
 | true =>
  rw [hr] at href hnext
  have h4':K28b0 (call Try.prog X N) ⟨28,some l,Try.f28.ntmps,X 28⟩ ((L0.set 10 (claimV c)).set 5 (.ptr s.n 0)) [] s2=.done .ret (((L0.set 10 (claimV c)).set 5 (.ptr s.n 0)).set 13 (.bool true)) [] ((s2.put (u1+1) (.cells [.nilslice] (tag 81))).put (u1+2) (.cells [.bool false] (tag 4))):=by
   simp (disch:=first|omega|(with_unfolding_all exact rfl)|(simp only[new_n,put_n,new_m];omega)|(refine put_m_le ?_;simp only[new_m];omega)) only [K28b0,K28b0r0,K28b0r1,K28b0r2,Abs.W,reduceIte,Nat.reduceEqDiff,Nat.reduceAdd,decide_true,decide_false,kLoop_def,Nat.reduceSub,List.cons_append,List.nil_append,List.append_nil,List.length_cons,List.length_nil,efs,Nat.zero_add,h2,h3,h4,s2w,jv2,vok,href,g2',g3',cellsOf_bool]
  generalize hs3:(s2.put (u1+1) _).put (u1+2) _=s3 at h4'
  have s3n:s3.n=s.n+1:=by rw [← hs3];exact s2n
  have s3g:∀ x,x≠u1+1→x≠u1+2→s3.h.get x=s2.h.get x:=fun x h1 h2=>by rw [← hs3,get_put_ne' _ _ _ _ h2,get_put_ne' _ _ _ _ h1]
  have s32:s3.h.get (u1+1)=some (.cells [.nilslice] (tag 81)):=by rw [← hs3,get_put_ne' _ _ _ _ (by omega)];exact get_put_eq _ _ _ _ rfl (by omega)
  have s33:s3.h.get (u1+2)=some (.cells [.bool false] (tag 4)):=by rw [← hs3];exact get_put_eq _ _ _ _ rfl (by omega)
  have s3m:s3.m=min (min s2.m (u1+1)) (u1+2):=by rw [← hs3];simp only [St.put,minN_eq]
  have s3l:=(s3g l (by omega) (by omega)).trans s2l
  rw [hs2] at h4'
  have hfin:=call_round (P:=Try.prog) (X:=X) (n:=N) (l:=l) (args:=[claimV c]) (r:=R) (r1:=R) (r2:={ R with state:=.busy }) (s:=s) (s1:=s1) (s2:=s3) (e:=.ret) jl (by rw [hR];rfl) (by rw [hR];exact code28a0) (by rw [hR];exact code28b0) (by rw [hR];exact h1) (by rw [s1g _ (by omega)];exact jl) (by rw [hR]) (by rw [hR];rw [hR] at h4';exact h4') s3l
  refine ⟨_,false,hfin,(fun h=>(by cases h)),fun _=>⟨?_,?_,by simp only [put_n];omega,?_,?_,?_⟩,fun x hx ho=>?_,?_,?_,?_,?_,?_⟩
  ·rw [get_put_eq _ _ _ _ rfl (by omega)];rfl
  ·rw [get_put_ne' _ _ _ _ (by omega),s3g _ (by omega) (by omega),s2g _ (by omega) (by omega)];exact jd
  ·rw [get_put_ne' _ _ _ _ (by omega)];exact s32
  ·rw [get_put_ne' _ _ _ _ (by omega)];exact s33
  ·have:=knT_none (b:=b) (k:=k+1) (by rw [hnext];rfl) (resMany b - (k+1))
   rw [show k+1+(resMany b - (k+1))=resMany b by omega] at this
   exact this
  ·rw [get_put_ne' _ _ _ _ (by omega),s3g _ (by omega) (by omega),s2g _ (by omega) (by omega)]
  ·simp only [put_n];omega
  ·simp only [put_n];omega
  ·simp only [St.put,minN_eq];omega
  ·simp only [St.put,minN_eq];omega
  ·simp only [St.put,minN_eq];omega
 | false =>
  rw [hr] at href hnext
  generalize hcw:call Try.prog X N (.fn 54) [v,claimV c] s2=rw'
  obtain ⟨v',s3,rfl,st3,hT3⟩:=with_ex hcw (by omega) hT2.tab kok.sq (by omega) (by omega) r1 r2 kok.small (kok.meet r1 r2 hr) (by omega)
  have st3g:=st3.same
  have st3n:=st3.n
  have st3l:=st3.le
  have st3m:=st3.m
  have g3q:=(st3g q (by omega)).trans jv2
  have v'ok:=hT3.tab.ok
  have v'sc:=hT3.tab.sc
  have sc1:scalars [v']=true:=by
   show (match v'.scalar with | true=>scalars [] | false=>false)=true
   rw [v'sc];rfl
  have ce1:cellsOf 1 v'=some [v']:=cellsOf_one v' v'sc
  have h4':K28b0 (call Try.prog X N) ⟨28,some l,Try.f28.ntmps,X 28⟩ ((L0.set 10 (claimV c)).set 5 (.ptr s.n 0)) [] s2=.done .norm (((L0.set 10 (claimV c)).set 5 (.ptr s.n 0)).set 13 (.bool false)) [] (s3.put q (.cells [v'] (tag 81))):=by
   simp (disch:=first|omega|(with_unfolding_all exact rfl)|(simp only[new_n,put_n,new_m];omega)|(refine put_m_le ?_;simp only[new_m];omega)) only [K28b0,K28b0r0,K28b0r1,K28b0r2,Abs.W,reduceIte,Nat.reduceEqDiff,Nat.reduceAdd,decide_true,decide_false,kLoop_def,Nat.reduceSub,List.cons_append,List.nil_append,List.append_nil,List.length_cons,List.length_nil,efs,Nat.zero_add,h2,h3,h4,s2w,jv2,vok,href,hcw,g3q,ce1,sc1]
  rw [hs2] at h4'
  have s3l:(s3.put q (.cells [v'] (tag 81))).h.get l=some (.loop { R with state:=.busy }):=by rw [get_put_ne' _ _ _ _ (by omega)];exact (st3g l (by omega)).trans s2l
  have hfin:=call_round (P:=Try.prog) (X:=X) (n:=N) (l:=l) (args:=[claimV c]) (r:=R) (r1:=R) (r2:={ R with state:=.busy }) (s:=s) (s1:=s1) (s2:=s3.put q (.cells [v'] (tag 81))) (e:=.norm) jl (by rw [hR];rfl) (by rw [hR];exact code28a0) (by rw [hR];exact code28b0) (by rw [hR];exact h1) (by rw [s1g _ (by omega)];exact jl) (by rw [hR]) (by rw [hR];rw [hR] at h4';exact h4') s3l
  have hRR:({ ({ R with state:=.busy }:ALoop) with state:=if goesOn .norm then .ready else .done,pending:=jumpOf .norm }:ALoop)=R:=by rw [hR];rfl
  rw [hRR] at hfin
  refine ⟨_,true,hfin,fun _=>⟨get_put_eq _ _ _ _ rfl (by omega),?_,jq,ju,by simp only [put_n];omega,?_,?_,_,v',s2.n,s3.n,hnext,?_,hT3.mono (fun x h1 h2=>by rw [get_put_ne' _ _ _ _ (by omega),get_put_ne' _ _ _ _ (by omega)]) (Nat.le_refl _),by simp only [put_n];omega,by omega,.inr (by omega)⟩,(fun h=>(by cases h)),fun x hx ho=>?_,?_,?_,?_,?_,?_⟩
  ·rw [get_put_ne' _ _ _ _ (by omega),get_put_ne' _ _ _ _ (by omega),st3g _ (by omega),s2g _ (by omega) (by omega)];exact jd
  ·rw [get_put_ne' _ _ _ _ (by omega),get_put_ne' _ _ _ _ (by omega),st3g _ (by omega)];exact g2'
  ·rw [get_put_ne' _ _ _ _ (by omega),get_put_ne' _ _ _ _ (by omega),st3g _ (by omega)];exact g3'
  ·rw [get_put_ne' _ _ _ _ (by omega)];exact get_put_eq _ _ _ _ rfl (by omega)
  ·rw [get_put_ne' _ _ _ _ (by omega),get_put_ne' _ _ _ _ (by omega),st3g _ (by omega),s2g _ (by omega) (by omega)]
  ·simp only [put_n];omega
  ·simp only [put_n];omega
  ·simp only [St.put,minN_eq];omega
  ·simp only [St.put,minN_eq];omega
  ·simp only [St.put,minN_eq];omega
theorem known_ex {N:Nat} {b:Bench} {v1 v2 v3 v4:AV} {s:St} {r:ARes} (hr:call Try.prog X N (.fn 28) [.agg (benchV v1 v2 v3 v4 b.days)] s=r) (hN:7≤N) (ok:b.Ok) (hB:BenchAt s.h s.n b v1 v2 v3 v4) (hs:s.n+800000≤far) :
  ∃ v p t,r=.val (.tup [v,.bool p]) t∧New s t 100000∧((p=false∧v=.nilslice∧knT b (resMany b)=none)∨(p=true∧∃ T,knT b (resMany b)=some T∧GTabF t.h (s.n+3) t.n T v)):=by
 obtain ⟨n,rfl⟩:∃ n,N=n+1:=⟨N - 1,by omega⟩
 have hf:far=1000000000:=rfl
 obtain ⟨v',t,e,st,v,p,rfl,hq⟩:=call_new' (n:=n) (args:=[.agg (benchV v1 v2 v3 v4 b.days)]) (s:=s) (k:=100000) (Q:=fun v' h n=>∃ v p,v'=.tup [v,.bool p]∧((p=false∧v=.nilslice∧knT b (resMany b)=none)∨(p=true∧∃ T,knT b (resMany b)=some T∧GTabF h (s.n+3) n T v))) Try.func28 rfl (fun u uh un um=>by
  rw [← uh,← un] at hB
  unfold benchV
  rw [enter28]
  simp (disch:=first|omega|(with_unfolding_all exact rfl)|(simp only[new_n,put_n,new_m];omega)|(refine put_m_le ?_;simp only[new_m];omega)) only [res28,K28r0,K28r1,K28r2,K28r3,K28,K28a0r0,K28a0,K28b0r0,K28b0r1,K28b0r2,K28b0,Abs.W,reduceIte,Nat.reduceEqDiff,Nat.reduceAdd,decide_true,decide_false,kLoop_def,Nat.reduceSub,List.cons_append,List.nil_append,List.append_nil,List.length_cons,List.length_nil,efs,Nat.zero_add]
  obtain ⟨w0,hw0⟩:∃ w0:St,w0=((u.new (.cells [v1,v2,v3,v4,.int .i64 b.days] (tag 28))).new (.cells [.nilslice] (tag 81))).new (.cells [.bool false] (tag 4)):=⟨_,rfl⟩
  rw [← hw0]
  have w0n:w0.n=u.n+3:=by rw [hw0];rfl
  have w0m:w0.m=far:=by rw [hw0];exact um
  have w0g:∀ c,c<u.n→w0.h.get c=u.h.get c:=fun c hc=>by rw [hw0];simp (disch:=first|omega|(with_unfolding_all exact rfl)|(simp only[new_n,put_n,new_m];omega)|(refine put_m_le ?_;simp only[new_m];omega)) only [get_new_ne]
  have w00:w0.h.get u.n=some (.cells [v1,v2,v3,v4,.int .i64 b.days] (tag 28)):=by rw [hw0];simp (disch:=first|omega|(with_unfolding_all exact rfl)|(simp only[new_n,put_n,new_m];omega)|(refine put_m_le ?_;simp only[new_m];omega)) only [get_new_ne];exact get_new_eq _ _ _ rfl (by omega)
  have w01:w0.h.get (u.n+1)=some (.cells [.nilslice] (tag 81)):=by rw [hw0];simp (disch:=first|omega|(with_unfolding_all exact rfl)|(simp only[new_n,put_n,new_m];omega)|(refine put_m_le ?_;simp only[new_m];omega)) only [get_new_ne];exact get_new_eq _ _ _ rfl (by simp only [new_n];omega)
  have w02:w0.h.get (u.n+2)=some (.cells [.bool false] (tag 4)):=by rw [hw0];exact get_new_eq _ _ _ rfl (by simp only [new_n];omega)
  generalize hcg:call Try.prog X n (.fn 51) _ _=rg
  obtain ⟨vg,t0,rfl,stg,hTg⟩:=given_ex hcg (by omega) ok (hB.grow w0g (by omega)) (by omega)
  have stgg:=stg.same
  have stgn:=stg.n
  have stgl:=stg.le
  have stgm:=stg.m
  have vok:=hTg.tab.ok
  have vsc:=hTg.tab.sc
  have sc1:scalars [vg]=true:=by
   show (match vg.scalar with | true=>scalars [] | false=>false)=true
   rw [vsc];rfl
  have ce1:cellsOf 1 vg=some [vg]:=cellsOf_one vg vsc
  have t00:=(stgg u.n (by omega)).trans w00
  simp (disch:=first|omega|(with_unfolding_all exact rfl)|(simp only[new_n,put_n,new_m];omega)|(refine put_m_le ?_;simp only[new_m];omega)) only [Abs.W,reduceIte,Nat.reduceEqDiff,Nat.reduceAdd,decide_true,decide_false,kLoop_def,Nat.reduceSub,List.cons_append,List.nil_append,List.append_nil,List.length_cons,List.length_nil,efs,t00,ce1,sc1,vok,results_ok]
  simp only [put_n,new_n]
  generalize hL:Env.cons 0 _ _=L0
  have f2:L0.find 2=.ptr (u.n+1) 0:=by rw [← hL];simp only [find_cons,reduceIte,Nat.reduceEqDiff]
  have f3:L0.find 3=.ptr (u.n+2) 0:=by rw [← hL];simp only [find_cons,reduceIte,Nat.reduceEqDiff]
  have f4:L0.find 4=.ptr t0.n 0:=by rw [← hL];simp only [find_cons,reduceIte,Nat.reduceEqDiff]
  have f9:L0.find 9=.func 69 [] [.ptr (t0.n+1) 0]:=by rw [← hL];simp only [find_cons,reduceIte,Nat.reduceEqDiff]
  generalize hw:St.new (St.put _ _ _) _=w
  have wn:w.n=t0.n+2:=by rw [← hw];rfl
  have wm:w.m=min far t0.n:=by rw [← hw];simp only [St.put,minN_eq,new_m,stgm,w0m]
  have wg:∀ c,c<t0.n→w.h.get c=t0.h.get c:=fun c hc=>by rw [← hw];simp (disch:=first|omega|(with_unfolding_all exact rfl)|(simp only[new_n,put_n,new_m];omega)|(refine put_m_le ?_;simp only[new_m];omega)) only [get_new_ne,get_put_ne']
  have wq:w.h.get t0.n=some (.cells [vg] (tag 81)):=by rw [← hw];simp (disch:=first|omega|(with_unfolding_all exact rfl)|(simp only[new_n,put_n,new_m];omega)|(refine put_m_le ?_;simp only[new_m];omega)) only [get_new_ne];exact get_put_eq _ _ _ _ rfl (by omega)
  have wb:w.h.get (t0.n+1)=some (.cells [v1,v2,v3,v4,.int .i64 b.days] (tag 28)):=by rw [← hw];exact get_new_eq _ _ _ rfl (by simp only [put_n,new_n];omega)
  obtain ⟨n2,rfl⟩:∃ n2,n=n2+2:=⟨n - 2,by omega⟩
  obtain ⟨R,hRdef⟩:∃ R:ALoop,R=⟨.ready,none,28,L0,[10],(rangeAt Try.f28 0).1,(rangeAt Try.f28 0).2,t0.n+3 - 1,Try.f28.ntmps,X 28⟩:=⟨_,rfl⟩
  have hKl:resMany b≤12:=by unfold resMany;have:=ok.w1;have:=ok.t1;omega
  obtain ⟨w6,hw6⟩:∃ w6:St,w6=(w.new .dfr).new (.loop R):=⟨_,rfl⟩
  have w6n:w6.n=t0.n+4:=by rw [hw6];show w.n+1+1=_;omega
  have w6m:w6.m=min far t0.n:=by rw [hw6];exact wm
  have w6g:∀ c,c<t0.n+2→w6.h.get c=w.h.get c:=fun c hc=>by rw [hw6,get_new_ne _ _ _ (by simp only [new_n];omega),get_new_ne _ _ _ (by omega)]
  have w6d:w6.h.get (t0.n+2)=some .dfr:=by rw [hw6,get_new_ne _ _ _ (by simp only [new_n];omega)];exact get_new_eq _ _ _ wn.symm (by omega)
  have w6l:w6.h.get (t0.n+3)=some (.loop R):=by rw [hw6];exact get_new_eq _ _ _ (by simp only [new_n];omega) (by simp only [new_n];omega)
  have w6u:∀ c,c<u.n→w6.h.get c=u.h.get c:=fun c hc=>(w6g c (by omega)).trans ((wg c (by omega)).trans ((stgg c (by omega)).trans (w0g c hc)))
  have G0:KnJ b R u.n t0.n (t0.n+3) 0 w6.h w6.n:=⟨w6l,w6d,by omega,by omega,by omega,(w6g _ (by omega)).trans ((wg _ (by omega)).trans ((stgg _ (by omega)).trans w01)),(w6g _ (by omega)).trans ((wg _ (by omega)).trans ((stgg _ (by omega)).trans w02)),_,vg,w0.n+1,t0.n,rfl,(w6g _ (by omega)).trans wq,hTg.mono (fun x h1 h2=>(w6g x (by omega)).trans (wg x h2)) (Nat.le_refl _),by omega,by omega,.inl (Nat.le_refl _)⟩
  have hG:Yields (n2+1) (t0.n+3) (t0.n+4) 6000 (u.n+1) (fun x=>x=u.n+1∨x=u.n+2∨x=t0.n∨x=t0.n+3) (resMany b) (resAt b) (KnJ b R u.n t0.n (t0.n+3)) (KnS b R u.n (t0.n+3)):=⟨by omega,fun _ _ _ _ _ hh hn j=>j.keep hh hn,fun i s hi hJ h0 hs=>by
   obtain ⟨s',q,p1,p2,p3,p4,p5,p6,p7,p8,p9⟩:=known_take n2 (by omega) ok hRdef f2 f3 f4 hi (by omega) hJ
   exact ⟨s',q,p1,p2,p3,fun x hx ho=>p4 x (by omega) ho,p5,p6,p7,p8,p9⟩⟩
  generalize hc:call Try.prog X (n2+2) (.fn 69) [.yield (t0.n+3),.ptr (t0.n+1) 0] w6=r94
  obtain ⟨s2,rfl,G,same,sn,sk,sm,smm⟩:=results1_ex hc (by omega) hG ok u.n (hB.grow w6u (Nat.le_refl _)) (fun x hx=>⟨by omega,by omega⟩) ((w6g _ (by omega)).trans wb) ⟨by omega,by omega⟩ (by omega) (by omega) (by omega) (by omega) G0
  have hk32:(6000+1) * resMany b≤6001 * 12:=Nat.mul_le_mul_left _ hKl
  have hcall:callV (call Try.prog X (n2+2)) [.yield (w.n+1)] ((w.new .dfr).new (.loop ⟨.ready,none,28,L0,[10],(rangeAt Try.f28 0).1,(rangeAt Try.f28 0).2,w.n,Try.f28.ntmps,X 28⟩)) ((Arg.tmp 9).ev L0)=.val (.tup []) s2:=by
   rw [ev_tmp,f9,callV_func,wn,show (⟨.ready,none,28,L0,[10],(rangeAt Try.f28 0).1,(rangeAt Try.f28 0).2,t0.n+2,Try.f28.ntmps,X 28⟩:ALoop)=R from hRdef.symm,← hw6]
   exact hc
  have hE:∀ o,Beside u ((s2.put (t0.n+3) o).kill (t0.n+2)) 100000:=fun o=>⟨fun c hc=>by
    rw [get_kill_ne _ _ _ (by omega),get_put_ne' _ _ _ _ (by omega)]
    exact (same c (by omega) (by omega)).trans (w6u c hc),by show u.n≤s2.n;omega,by show s2.n≤u.n+100000;omega,by
    have:=sm (by omega)
    simp only [St.kill,St.put,minN_eq];omega,by
    simp only [St.kill,St.put,minN_eq];omega⟩
  have gk:∀ o c,c≠t0.n+2→c≠t0.n+3→((s2.put (t0.n+3) o).kill (t0.n+2)).h.get c=s2.h.get c:=fun o c h1 h2=>by rw [get_kill_ne _ _ _ h1,get_put_ne' _ _ _ _ h2]
  have sht:shapeT Try.prog 81=some none:=by kernel_rfl
  have shb:shapeT Try.prog 4=some none:=by kernel_rfl
  rcases G with G | G
  ·obtain ⟨g1,g2,g3,g4,g5,g6,g7,T,vT,lo,mm,k1,k2,k3,k4,k5,k6⟩:=G
   have hrange:=range_to_end (ps:=[10]) (c:=⟨28,none,Try.f28.ntmps,X 28⟩) rfl hcall (by rw [wn];exact g1) (by rw [hRdef]) (by rw [hRdef])
   rw [wn] at hrange
   have gq':∀ o,(s2.put (t0.n+2+1) o).h.get t0.n=some (.cells [vT] (tag 81)):=fun o=>by rw [get_put_ne' _ _ _ _ (by omega)];exact k2
   have g6':∀ o,(s2.put (t0.n+2+1) o).h.get (u.n+1)=some (.cells [.nilslice] (tag 81)):=fun o=>by rw [get_put_ne' _ _ _ _ (by omega)];exact g6
   have g7':∀ o,(s2.put (t0.n+2+1) o).h.get (u.n+2)=some (.cells [.bool false] (tag 4)):=fun o=>by rw [get_put_ne' _ _ _ _ (by omega)];exact g7
   have kok:=k3.tab.ok
   have ksc:=k3.tab.sc
   have sc2:scalars [vT]=true:=by
    show (match vT.scalar with | true=>scalars [] | false=>false)=true
    rw [ksc];rfl
   have ce2:cellsOf 1 vT=some [vT]:=cellsOf_one vT ksc
   simp (disch:=first|omega|(with_unfolding_all exact rfl)|(simp only[new_n,put_n,new_m];omega)|(refine put_m_le ?_;simp only[new_m];omega)) only [res28,K28r0,K28r1,K28r2,K28r3,K28,K28a0r0,K28a0,K28b0r0,K28b0r1,K28b0r2,K28b0,Abs.W,reduceIte,Nat.reduceEqDiff,Nat.reduceAdd,decide_true,decide_false,kLoop_def,Nat.reduceSub,List.cons_append,List.nil_append,List.append_nil,List.length_cons,List.length_nil,hrange,efs,f2,f3,f4,gq',g6',g7',kok,sc2,ce2,cellsOf_bool]
   generalize hs3:St.put (St.put (St.put s2 _ _) _ _) _ _=s3
   have s3n:s3.n=s2.n:=by rw [← hs3];rfl
   have s3g:∀ x,x≠u.n+1→x≠u.n+2→x≠t0.n+3→s3.h.get x=s2.h.get x:=fun x h1 h2 h3=>by rw [← hs3,get_put_ne' _ _ _ _ h2,get_put_ne' _ _ _ _ h1,get_put_ne' _ _ _ _ h3]
   have s31:s3.h.get (u.n+1)=some (.cells [vT] (tag 81)):=by rw [← hs3,get_put_ne' _ _ _ _ (by omega)];exact get_put_eq _ _ _ _ rfl (by omega)
   have s32:s3.h.get (u.n+2)=some (.cells [.bool true] (tag 4)):=by rw [← hs3];exact get_put_eq _ _ _ _ rfl (by omega)
   have s3m:s3.m=min (min (min s2.m (t0.n+3)) (u.n+1)) (u.n+2):=by rw [← hs3];simp only [St.put,minN_eq]
   have sm':=sm (by omega)
   rw [leave_dfr _ _ _ _ _ (show s3.h.get (t0.n+2)=some .dfr from (s3g _ (by omega) (by omega) (by omega)).trans g2)]
   have gk3:∀ x,x≠t0.n+2→(s3.kill (t0.n+2)).h.get x=s3.h.get x:=fun x h=>get_kill_ne _ _ _ h
   rw [leave_cell_cell (v:=vT) (v':=.bool true) 2 81 3 4 L0 _ sht shb (by rw [f2,load_ptr,gk3 _ (by omega),s31,loadO_cells,partS_one];exact kok _) (by rw [f3,load_ptr,gk3 _ (by omega),s32,loadO_cells,partS_one];rfl)]
   refine ⟨_,_,rfl,⟨fun c hc=>?_,by show u.n≤s3.n;omega,by show s3.n≤u.n+100000;omega,?_,?_⟩,⟨vT,true,rfl,.inr ⟨rfl,T,k1,k3.mono' (fun x h1 h2=>?_) (by omega) (by show mm≤s3.n;omega)⟩⟩,fun hp=>?_⟩
   ·rw [gk3 _ (by omega),s3g _ (by omega) (by omega) (by omega)]
    exact (same c (by omega) (by omega)).trans (w6u c hc)
   ·simp only [St.kill,minN_eq];omega
   ·simp only [St.kill,minN_eq];omega
   ·rw [gk3 _ (by omega),s3g _ (by omega) (by omega) (by omega)]
   ·exact absurd hp (by
     have hl:=k3.tab.len u
     rw [(knT_ok ok _ T (Nat.le_refl _) k1).sq.1] at hl
     have:plain vT=false:=by
      cases vT<;>first | rfl | (simp [lenSlA] at hl<;>omega)
     show ¬ ((match plain vT with | true=>plains [.bool true] | false=>false)=true)
     rw [this];simp)
  ·obtain ⟨g1,g2,g3,g4,g5,g6⟩:=G
   have hrange:=range_to_ret (ps:=[10]) (c:=⟨28,none,Try.f28.ntmps,X 28⟩) rfl hcall (by rw [wn];exact g1) rfl rfl
   rw [wn] at hrange
   simp (disch:=first|omega|(with_unfolding_all exact rfl)|(simp only[new_n,put_n,new_m];omega)|(refine put_m_le ?_;simp only[new_m];omega)) only [res28,K28r0,K28r1,K28r2,K28r3,K28,K28a0r0,K28a0,K28b0r0,K28b0r1,K28b0r2,K28b0,Abs.W,reduceIte,Nat.reduceEqDiff,Nat.reduceAdd,decide_true,decide_false,kLoop_def,Nat.reduceSub,List.cons_append,List.nil_append,List.append_nil,List.length_cons,List.length_nil,hrange,efs]
   rw [leave_dfr _ _ _ _ _ (by rw [get_put_ne' _ _ _ _ (by omega)];exact g2)]
   rw [leave_cell_cell (v:=.nilslice) (v':=.bool false) 2 81 3 4 L0 _ sht shb (by rw [f2,load_ptr,gk _ _ (by omega) (by omega),g4,loadO_cells,partS_one];rfl) (by rw [f3,load_ptr,gk _ _ (by omega) (by omega),g5,loadO_cells,partS_one];rfl)]
   exact ⟨_,_,rfl,hE _,⟨.nilslice,false,rfl,.inl ⟨rfl,rfl,g6⟩⟩,fun _=>⟨.nilslice,false,rfl,.inl ⟨rfl,rfl,g6⟩⟩⟩)
 exact ⟨v,p,t,hr.symm.trans e,st,hq⟩
end Go.Proofs.Ytoolodjbfphkjaa.walk
set_option maxRecDepth 10000
namespace Go.Abs
theorem ext0 (a b:AV) (s:St):extA 0 s (.tup [a,b])=.val a s:=Eq.trans (Eq.refl _) (Eq.refl _)
theorem ext1 (a b:AV) (s:St):extA 1 s (.tup [a,b])=.val b s:=Eq.trans (Eq.refl _) (Eq.refl _)
theorem okA_tup (l:List AV) (s:St):okA (.val (.tup l) s)=.val (.tup l) s:=Eq.trans (Eq.refl _) (Eq.refl _)
theorem leave_tt {P:Program} (a b:Nat) (L:Env) (s:St):leaveA P [.tmp a,.tmp b] L [] s=.val (.tup [L.find a,L.find b]) s:=rfl
end Go.Abs
namespace Go.Proofs.Ytoolodjbfphkjaa.walk
open Go.Abs Go.Proofs.Ytoolodjbfphkjaa.code
def offsOf (b:Bench) (T:List (List Gap)):List Gap:=(List.range b.ms.length).map fun i=>ent T (1+i) 0
structure Fills (w t:St) (R n i:Nat) (f:Nat→Gap):Prop where
 same:∀ x,x≠R→t.h.get x=w.h.get x
 tn:t.n=w.n
 m:R≤w.m→R≤t.m
 mle:t.m≤w.m
 row:t.h.get R=some (.cells (fillRows n zgap (gapRow ((List.range i).map f))).flatten 0)
theorem Fills.step {w t:St} {R n i:Nat} {f:Nat→Gap} (h:Fills w t R n i f) (hi:i<n) (hR:R<549755813888):over (i * 2) [.int .i64 (f i).1,.int .i64 (f i).2] (fillRows n zgap (gapRow ((List.range i).map f))).flatten=some (fillRows n zgap (gapRow ((List.range (i+1)).map f))).flatten∧Fills w (t.put R (.cells (fillRows n zgap (gapRow ((List.range (i+1)).map f))).flatten 0)) R n (i+1) f:=by
 have hlen:(gapRow ((List.range i).map f)).length=i:=by rw [gapRow_len,List.length_map,List.length_range]
 have hov:=fillRows_over (n:=n) (z:=zgap) (row:=[.int .i64 (f i).1,.int .i64 (f i).2]) (l:=gapRow ((List.range i).map f)) (w:=2) rfl (gapRow_wide _) rfl (by omega)
 rw [hlen,← gapRow_snoc,← range_snoc (f:=f)] at hov
 refine ⟨hov,fun x hx=>(get_put_ne' _ _ _ _ hx).trans (h.same x hx),h.tn,fun hm=>?_,?_,get_put_eq _ _ _ _ rfl hR⟩
 ·have:=h.m hm
  simp only [St.put,minN_eq];omega
 ·have:=h.mle
  simp only [St.put,minN_eq];omega
theorem Fills.done {w t:St} {R n:Nat} {f:Nat→Gap} (h:Fills w t R n n f) (hR:R<t.n):RowsAt t.h t.n 2 (gapRow ((List.range n).map f)) (.slice R 0 n n false):=by
 have hl:(gapRow ((List.range n).map f)).length=n:=by rw [gapRow_len,List.length_map,List.length_range]
 have hr:=h.row
 rw [fillRows_full hl] at hr
 exact ⟨fun s=>by rw [lenSl_slice,hl],fun j hj=>⟨R,j * 2,_,_,hR,fun s=>by rw [ixs_slice _ _ _ _ _ _ _ _ (by omega),Nat.zero_add],hr,flatten_cut (gapRow_wide _) hj⟩⟩
theorem Offs_ex {N:Nat} {b:Bench} {v1 v2 v3 v4:AV} {s:St} {r:ARes} (hr:call Try.prog X N (.fn 8) [.agg (benchV v1 v2 v3 v4 b.days)] s=r) (hN:8≤N) (ok:b.Ok) (hB:BenchAt s.h s.n b v1 v2 v3 v4) (hs:s.n+900000≤far) :
  ∃ v e t,r=.val (.tup [v,.int .i64 e]) t∧New s t 110000∧((knT b (resMany b)=none∧v=.nilslice∧e=9)∨(e=0∧∃ T,knT b (resMany b)=some T∧RowsAt t.h t.n 2 (gapRow (offsOf b T)) v)):=by
 obtain ⟨n,rfl⟩:∃ n,N=n+1:=⟨N - 1,by omega⟩
 have hf:far=1000000000:=rfl
 obtain ⟨v',t,e,st,v,ee,rfl,hq⟩:=call_new' (n:=n) (args:=[.agg (benchV v1 v2 v3 v4 b.days)]) (s:=s) (k:=110000) (Q:=fun v' h n=>∃ v e,v'=.tup [v,.int .i64 e]∧((knT b (resMany b)=none∧v=.nilslice∧e=9)∨(e=0∧∃ T,knT b (resMany b)=some T∧RowsAt h n 2 (gapRow (offsOf b T)) v))) Try.func8 rfl (fun u uh un um=>by
  rw [← uh,← un] at hB
  have hlm:=hB.m.len
  rw [List.length_map] at hlm
  have hmk:∀ t,okA (.val v1 t)=.val v1 t:=fun t=>okA_ne hB.m.ne
  rw [enter8]
  obtain ⟨w0,hw0⟩:∃ w0:St,w0=u.new (.cells (benchV v1 v2 v3 v4 b.days) (tag 28)):=⟨_,rfl⟩
  have w0n:w0.n=u.n+1:=by rw [hw0];rfl
  have w0g:∀ c,c<u.n→w0.h.get c=u.h.get c:=fun c hc=>by rw [hw0,get_new_ne _ _ _ (by omega)]
  have w00:w0.h.get u.n=some (.cells (benchV v1 v2 v3 v4 b.days) (tag 28)):=by rw [hw0];exact get_new_eq _ _ _ rfl (by omega)
  have w0E:Beside u w0 1:=by rw [hw0];exact (Beside.refl u (by omega) um).new _
  have hB0:=hB.grow w0g (by omega:u.n≤w0.n)
  have hck:=ckBench_ok n (by omega) b ok v1 v2 v3 v4 w0 hB0 (by omega)
  have z0:(!decide ((0:Int)=0))=false:=rfl
  unfold benchV at hw0 w00 hck ⊢
  simp (disch:=first|omega|(with_unfolding_all exact rfl)|(simp only[new_n,put_n,new_m];omega)|(refine put_m_le ?_;simp only[new_m];omega)) only [res8,K8r0,K8r1,K8r2,K8r3,K8r4,K8r5,K8r6,K8r7,K8r8,K8r9,K8r10,K8r11,K8r12,K8r13,K8,Abs.W,reduceIte,Nat.reduceEqDiff,Nat.reduceAdd,decide_true,decide_false,kLoop_def,Nat.reduceSub,List.cons_append,List.nil_append,List.append_nil,List.length_cons,List.length_nil,efs,Nat.zero_add]
  rw [← hw0]
  simp (disch:=first|omega|(with_unfolding_all exact rfl)|(simp only[new_n,put_n,new_m];omega)|(refine put_m_le ?_;simp only[new_m];omega)) only [Abs.W,reduceIte,Nat.reduceEqDiff,Nat.reduceAdd,decide_true,decide_false,kLoop_def,Nat.reduceSub,List.cons_append,List.nil_append,List.append_nil,List.length_cons,List.length_nil,w00,hck,efs,z0]
  generalize hc:call Try.prog X n (.fn 28) _ _=rk
  obtain ⟨vk,p,s1,rfl,st1,hk⟩:=known_ex hc (by omega) ok hB0 (by omega)
  have s1g:=st1.same
  have s1n:=st1.n
  have s1l:=st1.le
  have s10:=(s1g u.n (by omega)).trans w00
  rcases hk with ⟨rfl,rfl,hno⟩ | ⟨rfl,T,hT,hG⟩
  ·simp (disch:=first|omega|(with_unfolding_all exact rfl)|(simp only[new_n,put_n,new_m];omega)|(refine put_m_le ?_;simp only[new_m];omega)) only [res8,K8r0,K8r1,K8r2,K8r3,K8r4,K8r5,K8r6,K8r7,K8r8,K8r9,K8r10,K8r11,K8r12,K8r13,K8,Abs.W,reduceIte,Nat.reduceEqDiff,Nat.reduceAdd,decide_true,decide_false,kLoop_def,Nat.reduceSub,List.cons_append,List.nil_append,List.append_nil,List.length_cons,List.length_nil,efs,ext0,ext1,leave_tt]
   exact ⟨_,_,rfl,(w0E.after st1).mono (by omega),⟨.nilslice,9,rfl,.inl ⟨hno,rfl,rfl⟩⟩,fun _=>⟨.nilslice,9,rfl,.inl ⟨hno,rfl,rfl⟩⟩⟩
  ·have kOk:=knT_ok ok _ T (Nat.le_refl _) hT
   have gt:=hG.tab
   have vok:=gt.ok
   have m1:=ok.m1
   have m0:=ok.m0
   have hgm:b.ms.length≤givMany b:=by unfold givMany;omega
   have mk:∀ s:St,makeA [.int .i64 0,.int .i64 0] 16 s (.int .i64 (b.ms.length:Int)) (.int .i64 (b.ms.length:Int))=.val (.slice s.n 0 b.ms.length b.ms.length false) (s.new (.cells (List.replicate b.ms.length zgap).flatten 0)):=fun s=>make_rows zgap 16 b.ms.length s (by omega) (by omega)
   have okR:∀ x t,okA (.val (.slice x 0 b.ms.length b.ms.length false) t)=.val (.slice x 0 b.ms.length b.ms.length false) t:=fun _ _=>rfl
   simp (disch:=first|omega|(with_unfolding_all exact rfl)|(simp only[new_n,put_n,new_m];omega)|(refine put_m_le ?_;simp only[new_m];omega)) only [res8,K8r0,K8r1,K8r2,K8r3,K8r4,K8r5,K8r6,K8r7,K8r8,K8r9,K8r10,K8r11,K8r12,K8r13,K8,Abs.W,reduceIte,Nat.reduceEqDiff,Nat.reduceAdd,decide_true,decide_false,kLoop_def,Nat.reduceSub,List.cons_append,List.nil_append,List.append_nil,List.length_cons,List.length_nil,efs,ext0,ext1,okA_tup,vok,s10,hmk,hlm,kMake_def,mk,okR]
   generalize hl:loopN _ rounds _ _ _ _ _=r1
   obtain ⟨w,L0,hw,hL0,hl'⟩:=loop_state hl
   have wn:w.n=s1.n+1:=by rw [hw];rfl
   have wE:Beside u w 100002:=by rw [hw];exact ((w0E.after st1).new _).mono (by omega)
   have wg:∀ c,c<s1.n→w.h.get c=s1.h.get c:=fun c hc=>by rw [hw,get_new_ne _ _ _ (by omega)]
   have wR:w.h.get s1.n=some (.cells (List.replicate b.ms.length zgap).flatten 0):=by rw [hw];exact get_new_eq _ _ _ rfl (by omega)
   have wm:=wE.m
   have wf:=wE.far
   have wmf:w.m=far:=by rw [hw,new_m,st1.m,hw0,new_m,um]
   obtain ⟨e,L1,s2,rfl,rfl,f5,f7,hF⟩:=loop_of hl' (fun i L' t'=>L'.find 5=vk∧L'.find 7=.slice s1.n 0 b.ms.length b.ms.length false∧L'.find 26=.int .i64 b.ms.length∧L'.find 27=.int .i64 i∧Fills w t' s1.n b.ms.length i (fun i=>ent T (1+i) 0))
    (fun e L' t'=>e=.exit 0∧L'.find 5=vk∧L'.find 7=.slice s1.n 0 b.ms.length b.ms.length false∧Fills w t' s1.n b.ms.length b.ms.length (fun i=>ent T (1+i) 0)) b.ms.length (by unfold rounds;omega)
    ⟨by rw [hL0];simp only [efs,find_cons,reduceIte,Nat.reduceEqDiff],by rw [hL0];simp only [efs,find_cons,reduceIte,Nat.reduceEqDiff],by rw [hL0];simp only [efs,find_cons,reduceIte,Nat.reduceEqDiff],by rw [hL0];simp only [efs,find_cons,reduceIte,Nat.reduceEqDiff];rfl,fun _ _=>rfl,rfl,fun h=>h,Nat.le_refl _,by rw [wR,List.range_zero,List.map_nil];exact congrArg (fun x=>some (AObj.cells (List.flatten x) 0)) (fillRows_nil b.ms.length zgap).symm⟩
    (fun i L' t' hi ⟨q5,q7,q26,q27,hF⟩=>by
     by_cases hlt:i<b.ms.length
     ·have e0:decide ((i:Int)<(b.ms.length:Int))=true:=decide_eq_true (by omega)
      obtain ⟨b0,p0,c0,z0',vr,d1,d2,d3,d4,d5,dne,d6,d7⟩:=gt.row kOk.sq (i:=1+i) (by show 1+i<givMany b+1;omega)
      obtain ⟨x1,y1,k1,o1,f1,f2,f3,f4⟩:=d7 0 (Nat.succ_pos _)
      have g0:=(hF.same b0 (by omega)).trans ((wg b0 d1).trans d3)
      have g1:=(hF.same x1 (by omega)).trans ((wg x1 f1).trans f3)
      have f2':∀ s,ixsA 2 s vr (.int .i64 0)=.val (.ptr x1 y1) s:=f2
      have tn:=hF.tn
      have i2:∀ s,ixsA 2 s (.slice s1.n 0 b.ms.length b.ms.length false) (.int .i64 (i:Int))=.val (.ptr s1.n (i * 2)) s:=fun s=>by rw [ixs_slice _ _ _ _ _ _ _ _ hlt,Nat.zero_add]
      obtain ⟨hov,hF'⟩:=hF.step hlt (by omega)
      have hrow:=hF.row
      have ad:∀ s,aAdd s .i64 (i:Int) 1=.val (.int .i64 ((i:Int)+1)) s:=fun s=>aAdd_i64 s _ _ (by omega)
      refine .inl ⟨hlt,_,_,by
       simp (disch:=first|omega|(with_unfolding_all exact rfl)|(simp only[new_n,put_n,new_m];omega)|(refine put_m_le ?_;simp only[new_m];omega)) only [res8,K8r0,K8r1,K8r2,K8r3,K8r4,K8r5,K8r6,K8r7,K8r8,K8r9,K8r10,K8r11,K8r12,K8r13,K8,K8l0,Abs.W,reduceIte,Nat.reduceEqDiff,Nat.reduceAdd,decide_true,decide_false,kLoop_def,Nat.reduceSub,List.cons_append,List.nil_append,List.append_nil,List.length_cons,List.length_nil,efs,q5,q7,q26,q27,e0,massN_ok,d2,d4,d5,g0,f2',g1,f4,gapSpan_ok,i2,hrow,hov,ad,vok,okR]
       rfl,?_,?_,?_,?_,hF'⟩
      ·simp only [efs,q5,reduceIte,Nat.reduceEqDiff]
      ·simp only [efs,q7,reduceIte,Nat.reduceEqDiff]
      ·simp only [efs,q26,reduceIte,Nat.reduceEqDiff]
      ·simp only [efs,reduceIte,Nat.reduceEqDiff];rfl
     ·obtain rfl:i=b.ms.length:=by omega
      have e1:decide ((b.ms.length:Int)<(b.ms.length:Int))=false:=by simp
      refine .inr ⟨.exit 0,L'.set 28 (.bool false),t',by simp,?_,rfl,?_,?_,hF⟩
      ·simp (disch:=first|omega|(with_unfolding_all exact rfl)|(simp only[new_n,put_n,new_m];omega)|(refine put_m_le ?_;simp only[new_m];omega)) only [res8,K8r0,K8r1,K8r2,K8r3,K8r4,K8r5,K8r6,K8r7,K8r8,K8r9,K8r10,K8r11,K8r12,K8r13,K8,K8l0,Abs.W,reduceIte,Nat.reduceEqDiff,Nat.reduceAdd,decide_true,decide_false,kLoop_def,Nat.reduceSub,List.cons_append,List.nil_append,List.append_nil,List.length_cons,List.length_nil,efs,q26,q27,e1]
      ·simp only [efs,q5,reduceIte,Nat.reduceEqDiff]
      ·simp only [efs,q7,reduceIte,Nat.reduceEqDiff])
   simp (disch:=first|omega|(with_unfolding_all exact rfl)|(simp only[new_n,put_n,new_m];omega)|(refine put_m_le ?_;simp only[new_m];omega)) only [res8,K8r0,K8r1,K8r2,K8r3,K8r4,K8r5,K8r6,K8r7,K8r8,K8r9,K8r10,K8r11,K8r12,K8r13,K8,Abs.W,reduceIte,Nat.reduceEqDiff,Nat.reduceAdd,decide_true,decide_false,kLoop_def,Nat.reduceSub,List.cons_append,List.nil_append,List.append_nil,List.length_cons,List.length_nil,efs,f7,leave_tt,okR]
   have tn:=hF.tn
   have tmm:=hF.m
   have tml:=hF.mle
   refine ⟨_,_,rfl,⟨fun c hc=>(hF.same c (by omega)).trans (wE.same c hc),by have:=wE.n;omega,by have:=wE.le;omega,?_,by omega⟩,⟨_,0,rfl,.inr ⟨rfl,T,hT,hF.done (by omega)⟩⟩,fun hp=>?_⟩
   ·have:=tmm (by omega);omega
   ·exact absurd hp (by simp [plain,plains]))
 exact ⟨v,ee,t,hr.symm.trans e,st,hq⟩
end Go.Proofs.Ytoolodjbfphkjaa.walk
