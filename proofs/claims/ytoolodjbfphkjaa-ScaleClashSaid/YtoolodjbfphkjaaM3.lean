/- A table with a claim more. -/
import Derived.Test.YtoolodjbfphkjaaM2
import Derived.Test.YtoolodjbfphkjaaM1
import Derived.Test.YtoolodjbfphkjaaWalkAll
set_option linter.unusedSimpArgs false
set_option maxHeartbeats 16000000
set_option linter.unusedVariables false
set_option maxRecDepth 10000
namespace Go.Proofs.Ytoolodjbfphkjaa.walk
open Go.Abs Go.Proofs.Ytoolodjbfphkjaa.code
def withRow (n:Nat) (T:List (List Gap)) (c:Claim) (i:Nat):List Gap:=(List.range n).map fun j=>withE (ent T) c i j
def withT (n:Nat) (T:List (List Gap)) (c:Claim):List (List Gap):=(List.range n).map fun i=>withRow n T c i
theorem withRow_len (n:Nat) (T:List (List Gap)) (c:Claim) (i:Nat):(withRow n T c i).length=n:=by unfold withRow;rw [List.length_map,List.length_range]
theorem withT_square (n:Nat) (T:List (List Gap)) (c:Claim):Square n (withT n T c):=⟨by unfold withT;rw [List.length_map,List.length_range],fun r hr=>by
 unfold withT at hr
 obtain ⟨i,_,rfl⟩:=List.mem_map.mp hr
 exact withRow_len n T c i⟩
theorem withT_ent {n:Nat} (T:List (List Gap)) (c:Claim) {i j:Nat} (hi:i<n) (hj:j<n):ent (withT n T c) i j=withE (ent T) c i j:=by
 simp [ent,withT,withRow,List.getD,hi,hj]
def SmallT (n:Nat) (T:List (List Gap)):Prop:=∀ i j,i<n→j<n → -100000000≤(ent T i j).1∧(ent T i j).1≤100000000 ∧ -100000000≤(ent T i j).2∧(ent T i j).2≤100000000
abbrev zgap:List AV:=[.int .i64 0,.int .i64 0]
theorem gapRow_wide (l:List Gap):∀ r ∈ gapRow l,r.length=2:=by
 intro r hr
 unfold gapRow at hr
 obtain ⟨g,_,rfl⟩:=List.mem_map.mp hr
 rfl
theorem gapRow_snoc (l:List Gap) (g:Gap):gapRow (l++[g])=gapRow l++[[.int .i64 g.1,.int .i64 g.2]]:=by unfold gapRow;rw [List.map_append];rfl
theorem range_snoc {α:Type} (n:Nat) (f:Nat→α):(List.range (n+1)).map f=(List.range n).map f++[f n]:=by rw [List.range_succ,List.map_append];rfl
structure InRow (u w t:St) (R n0 j k:Nat) (T:List (List Gap)) (c:Claim) (i:Nat) (L:Env) (v vr:AV):Prop where
 l0:L.find 0=v
 l3:L.find 3=.ptr u.n 0
 l5:L.find 5=.ptr (u.n+1) 0
 l6:L.find 6=.slice (u.n+2) 0 n0 n0 false
 l7:L.find 7=.int .i64 i
 l9:L.find 9=.ptr (R+1) 0
 l10:L.find 10=.ptr (R+2) 0
 l28:L.find 28=v
 l29:L.find 29=.int .i64 n0
 l30:L.find 30=.int .i64 i
 l56:L.find 56=vr
 l57:L.find 57=.int .i64 n0
 l58:L.find 58=.int .i64 j
 same:∀ b,b<w.n→b≠R→t.h.get b=w.h.get b
 n:w.n≤t.n
 le:t.n≤w.n+k
 m:u.n≤t.m
 far:t.m≤Abs.far
 row:t.h.get R=some (.cells (fillRows n0 zgap (gapRow ((List.range j).map fun j=>withE (ent T) c i j))).flatten 0)
theorem with_cell (N:Nat) (hN:1≤N) (cx:Ctx) (T:List (List Gap)) (n0:Nat) (v vr:AV) (c:Claim) (u w t:St) (R i j:Nat) (L:Env) (hT:GTab u.h u.n T v) (q:Square n0 T) (hn0:n0≤60) (ha:c.a<n0) (hb:c.b<n0) (hB:SmallT n0 T)
  (hg:∀ x,x=((ent T c.a c.b).meet c.gap).1∨x=((ent T c.a c.b).meet c.gap).2 → -100000000≤x∧x≤100000000)
  (hi:i<n0) (hj:j<n0) (hw:∀ b,b<u.n→w.h.get b=u.h.get b) (hun:u.n+3≤R) (hRw:R+3≤w.n) (hs:w.n+1000≤far)
  (gc:w.h.get u.n=some (.cells [.int .i64 c.a,.int .i64 c.b,.int .i64 c.gap.1,.int .i64 c.gap.2] (tag 120)))
  (gn:∃ cs,w.h.get (u.n+2)=some (.cells cs 0)∧nth cs i=.slice R 0 n0 n0 false)
  (g1:w.h.get (R+1)=some (.cells [.int .i64 ((ent T i c.a).plus ((ent T c.a c.b).meet c.gap)).1,.int .i64 ((ent T i c.a).plus ((ent T c.a c.b).meet c.gap)).2] (tag 86)))
  (g2:w.h.get (R+2)=some (.cells [.int .i64 ((ent T i c.b).plus ((ent T c.a c.b).meet c.gap).turned).1,.int .i64 ((ent T i c.b).plus ((ent T c.a c.b).meet c.gap).turned).2] (tag 86)))
  (hvr:∀ j,j<n0→∃ b p c sz,b<u.n∧(∀ s,ixsA 2 s vr (.int .i64 j)=.val (.ptr b p) s)∧u.h.get b=some (.cells c sz)∧cut p 2 c=some [.int .i64 (ent T i j).1,.int .i64 (ent T i j).2])
  (h:InRow u w t R n0 j j T c i L v vr) :
  ∃ L1 t1,K54l0 (call Try.prog X N) cx L [] t=.done .norm L1 [] t1∧InRow u w t1 R n0 (j+1) (j+1) T c i L1 v vr:=by
 have hf:far=1000000000:=rfl
 obtain ⟨l0,l3,l5,l6,l7,l9,l10,l28,l29,l30,l56,l57,l58,same,tn,tk,tm,tf,row⟩:=h
 have e0:decide ((j:Int)<(n0:Int))=true:=decide_eq_true (by omega)
 obtain ⟨b0,p0,c0,z0,d1,d2,d3,d4⟩:=hvr j hj
 obtain ⟨ba,pa,ca,za,va,a1,a2,a3,a4,a5,_,_,a6⟩:=hT.row q ha
 obtain ⟨bb,pb,cb,zb,vb,b1,b2,b3,b4,b5,_,_,b6⟩:=hT.row q hb
 obtain ⟨x1,y1,m1,o1,f1,f2,f3,f4⟩:=a6 j hj
 obtain ⟨x2,y2,m2,o2,k1,k2,k3,k4⟩:=b6 j hj
 obtain ⟨cs,gn1,gn2⟩:=gn
 have hok:=hT.ok
 have old:∀ b,b<u.n→t.h.get b=u.h.get b:=fun b hb=>(same b (by omega) (by omega)).trans (hw b hb)
 have w0:=(old _ d1).trans d3
 have wa:=(old _ a1).trans a3
 have wb:=(old _ b1).trans b3
 have wf:=(old _ f1).trans f3
 have wk:=(old _ k1).trans k3
 have wc:=(same u.n (by omega) (by omega)).trans gc
 have wn:=(same (u.n+2) (by omega) (by omega)).trans gn1
 have w1:=(same (R+1) (by omega) (by omega)).trans g1
 have w2:=(same (R+2) (by omega) (by omega)).trans g2
 have B0:=hB i j hi hj
 have Ba:=hB c.a j ha hj
 have Bb:=hB c.b j hb hj
 have Bia:=hB i c.a hi ha
 have Bib:=hB i c.b hi hb
 have hg1:=hg _ (.inl rfl)
 have hg2:=hg _ (.inr rfl)
 rw [plus1,plus2] at w1
 rw [plus1,plus2,turned1,turned2] at w2
 have i1:∀ s,ixsA 1 s (.slice (u.n+2) 0 n0 n0 false) (.int .i64 (i:Int))=.val (.ptr (u.n+2) i) s:=fun s=>by rw [ixs_slice _ _ _ _ _ _ _ _ hi,Nat.mul_one,Nat.zero_add]
 have i2:∀ s,ixsA 2 s (.slice R 0 n0 n0 false) (.int .i64 (j:Int))=.val (.ptr R (j * 2)) s:=fun s=>by rw [ixs_slice _ _ _ _ _ _ _ _ hj,Nat.zero_add]
 have okR:∀ t,okA (.val (.slice R 0 n0 n0 false) t)=.val (.slice R 0 n0 n0 false) t:=fun _=>rfl
 have hlen:(gapRow ((List.range j).map fun j=>withE (ent T) c i j)).length=j:=by rw [gapRow_len,List.length_map,List.length_range]
 have hov:=fillRows_over (n:=n0) (z:=zgap) (row:=[.int .i64 (withE (ent T) c i j).1,.int .i64 (withE (ent T) c i j).2]) (l:=gapRow ((List.range j).map fun j=>withE (ent T) c i j)) (w:=2) rfl (gapRow_wide _) rfl (by omega)
 rw [hlen,← gapRow_snoc,← range_snoc (f:=fun j=>withE (ent T) c i j),withE_1,withE_2] at hov
 have ad:∀ s,aAdd s .i64 (j:Int) 1=.val (.int .i64 ((j:Int)+1)) s:=fun s=>aAdd_i64 s _ _ (by omega)
 rw [meet1] at hg1 w1 w2
 rw [meet2] at hg2 w1 w2
 refine ⟨_,_,by
  simp (disch:=first|omega|(with_unfolding_all exact rfl)|(simp only[new_n,put_n,new_m];omega)|(refine put_m_le ?_;simp only[new_m];omega)) only [res54,K54r0,K54r1,K54r2,K54r3,K54r4,K54r5,K54r6,K54r7,K54r8,K54r9,K54r10,K54r11,K54r12,K54l0,K54r13,K54l1,K54r14,K54,Abs.W,reduceIte,Nat.reduceEqDiff,Nat.reduceAdd,decide_true,decide_false,kLoop_def,Nat.reduceSub,List.cons_append,List.nil_append,List.append_nil,List.length_cons,List.length_nil,efs,Nat.zero_add,l0,l3,l5,l6,l7,l9,l10,l28,l29,l30,l56,l57,l58,e0,d2,d4,w0,wa,wb,wf,wk,wc,wn,w1,w2,gn2,hok,okR,a2,a4,a5,b2,b4,b5,f2,f4,k2,k4,i1,i2,row,hov,ad,plus_ok,meet_ok]
  rfl,?_⟩
 refine ⟨by simp only [efs,l0,l3,l5,l6,l7,l9,l10,l28,l29,l30,l56,l57,l58,reduceIte,Nat.reduceEqDiff],by simp only [efs,l0,l3,l5,l6,l7,l9,l10,l28,l29,l30,l56,l57,l58,reduceIte,Nat.reduceEqDiff],by simp only [efs,l0,l3,l5,l6,l7,l9,l10,l28,l29,l30,l56,l57,l58,reduceIte,Nat.reduceEqDiff],by simp only [efs,l0,l3,l5,l6,l7,l9,l10,l28,l29,l30,l56,l57,l58,reduceIte,Nat.reduceEqDiff],by simp only [efs,l0,l3,l5,l6,l7,l9,l10,l28,l29,l30,l56,l57,l58,reduceIte,Nat.reduceEqDiff],by simp only [efs,l0,l3,l5,l6,l7,l9,l10,l28,l29,l30,l56,l57,l58,reduceIte,Nat.reduceEqDiff],by simp only [efs,l0,l3,l5,l6,l7,l9,l10,l28,l29,l30,l56,l57,l58,reduceIte,Nat.reduceEqDiff],by simp only [efs,l0,l3,l5,l6,l7,l9,l10,l28,l29,l30,l56,l57,l58,reduceIte,Nat.reduceEqDiff],by simp only [efs,l0,l3,l5,l6,l7,l9,l10,l28,l29,l30,l56,l57,l58,reduceIte,Nat.reduceEqDiff],by simp only [efs,l0,l3,l5,l6,l7,l9,l10,l28,l29,l30,l56,l57,l58,reduceIte,Nat.reduceEqDiff],by simp only [efs,l0,l3,l5,l6,l7,l9,l10,l28,l29,l30,l56,l57,l58,reduceIte,Nat.reduceEqDiff],by simp only [efs,l0,l3,l5,l6,l7,l9,l10,l28,l29,l30,l56,l57,l58,reduceIte,Nat.reduceEqDiff],by simp only [efs,reduceIte,Nat.reduceEqDiff];rfl,fun b hb hbR=>?_,?_,?_,?_,?_,?_⟩
 ·rw [get_put_ne' _ _ _ _ hbR,get_put_ne' _ _ _ _ (by omega),get_new_ne _ _ _ (by omega)];exact same b hb hbR
 ·simp only [put_n,new_n];omega
 ·simp only [put_n,new_n];omega
 ·simp only [St.put,minN_eq,new_m];omega
 ·simp only [St.put,minN_eq,new_m];omega
 ·exact get_put_eq _ _ _ _ rfl (by omega)
theorem loop_state {b:K} {n:Nat} {cl:CallF} {cx:Ctx} {L:Env} {d:List Nat} {s:St} {r:R} (h:loopN b n cl cx L d s=r):∃ w L0,w=s∧L0=L∧loopN b n cl cx L0 d w=r:=⟨s,L,rfl,rfl,h⟩
structure InTab (u t:St) (n0 i k:Nat) (T:List (List Gap)) (c:Claim) (L:Env) (v:AV):Prop where
 l0:L.find 0=v
 l3:L.find 3=.ptr u.n 0
 l5:L.find 5=.ptr (u.n+1) 0
 l6:L.find 6=.slice (u.n+2) 0 n0 n0 false
 l28:L.find 28=v
 l29:L.find 29=.int .i64 n0
 l30:L.find 30=.int .i64 i
 beside:Beside u t k
 n:u.n+3≤t.n
 g0:t.h.get u.n=some (.cells [.int .i64 c.a,.int .i64 c.b,.int .i64 c.gap.1,.int .i64 c.gap.2] (tag 120))
 g1:t.h.get (u.n+1)=some (.cells [.int .i64 ((ent T c.a c.b).meet c.gap).1,.int .i64 ((ent T c.a c.b).meet c.gap).2] (tag 86))
 g2:∃ vs:List AV,vs.length=i∧t.h.get (u.n+2)=some (.cells (fillRows n0 [.nilslice] (vs.map fun v=>[v])).flatten 0)∧∀ j (h:j<vs.length),∃ b,u.n+3≤b∧b<t.n∧vs[j]=.slice b 0 n0 n0 false∧t.h.get b=some (.cells (gapRow (withRow n0 T c j)).flatten 0)
theorem ones_wide (vs:List AV):∀ r ∈ vs.map (fun v=>[v]),r.length=1:=by
 intro r hr
 obtain ⟨v,_,rfl⟩:=List.mem_map.mp hr
 rfl
theorem InRow.set59 {u w t:St} {R n0 j k:Nat} {T:List (List Gap)} {c:Claim} {i:Nat} {L:Env} {v vr:AV} (h:InRow u w t R n0 j k T c i L v vr) (x:AV):InRow u w t R n0 j k T c i (L.set 59 x) v vr:=⟨by rw [efs,if_neg (by omega)];exact h.l0,by rw [efs,if_neg (by omega)];exact h.l3,by rw [efs,if_neg (by omega)];exact h.l5,by rw [efs,if_neg (by omega)];exact h.l6,by rw [efs,if_neg (by omega)];exact h.l7,by rw [efs,if_neg (by omega)];exact h.l9,by rw [efs,if_neg (by omega)];exact h.l10,by rw [efs,if_neg (by omega)];exact h.l28,by rw [efs,if_neg (by omega)];exact h.l29,by rw [efs,if_neg (by omega)];exact h.l30,by rw [efs,if_neg (by omega)];exact h.l56,by rw [efs,if_neg (by omega)];exact h.l57,by rw [efs,if_neg (by omega)];exact h.l58,h.same,h.n,h.le,h.m,h.far,h.row⟩
theorem with_round (N:Nat) (hN:1≤N) (cx:Ctx) (T:List (List Gap)) (n0:Nat) (v:AV) (c:Claim) (u t:St) (i k:Nat) (L:Env) (hT:GTab u.h u.n T v) (q:Square n0 T) (hn0:n0≤60) (ha:c.a<n0) (hb:c.b<n0) (hB:SmallT n0 T)
  (hg:∀ x,x=((ent T c.a c.b).meet c.gap).1∨x=((ent T c.a c.b).meet c.gap).2 → -100000000≤x∧x≤100000000)
  (hi:i<n0) (hs:u.n+k+2000≤far) (h:InTab u t n0 i k T c L v) :
  ∃ L1 t1,K54l1 (call Try.prog X N) cx L [] t=.done .norm L1 [] t1∧InTab u t1 n0 (i+1) (k+70) T c L1 v:=by
 have hf:far=1000000000:=rfl
 obtain ⟨l0,l3,l5,l6,l28,l29,l30,hE,hn3,g0,g1,vs,vl,g2,vb⟩:=h
 have tn:=hE.n
 have tl:=hE.le
 have tm:=hE.m
 have tf:=hE.far
 have e0:decide ((i:Int)<(n0:Int))=true:=decide_eq_true (by omega)
 obtain ⟨b0,p0,c0,z0,vr,d1,d2,d3,d4,d5,dne,d6,d7⟩:=hT.row q hi
 have w0:=(hE.same _ d1).trans d3
 obtain ⟨x1,y1,m1,o1,f1,f2,f3,f4⟩:=d7 _ ha
 obtain ⟨x2,y2,m2,o2,k1,k2,k3,k4⟩:=d7 _ hb
 have wf:=(hE.same _ f1).trans f3
 have wk:=(hE.same _ k1).trans k3
 have hok:=hT.ok
 have Bia:=hB i c.a hi ha
 have Bib:=hB i c.b hi hb
 have hg1:=hg _ (.inl rfl)
 have hg2:=hg _ (.inr rfl)
 have mk:∀ s:St,makeA [.int .i64 0,.int .i64 0] 16 s (.int .i64 (n0:Int)) (.int .i64 (n0:Int))=.val (.slice s.n 0 n0 n0 false) (s.new (.cells (List.replicate n0 zgap).flatten 0)):=fun s=>make_rows zgap 16 n0 s (by omega) (by omega)
 have i1:∀ s,ixsA 1 s (.slice (u.n+2) 0 n0 n0 false) (.int .i64 (i:Int))=.val (.ptr (u.n+2) i) s:=fun s=>by rw [ixs_slice _ _ _ _ _ _ _ _ hi,Nat.mul_one,Nat.zero_add]
 have okR:∀ x t,okA (.val (.slice x 0 n0 n0 false) t)=.val (.slice x 0 n0 n0 false) t:=fun _ _=>rfl
 have hov:=fillRows_over (n:=n0) (z:=[.nilslice]) (row:=[.slice t.n 0 n0 n0 false]) (l:=vs.map fun v=>[v]) (w:=1) rfl (ones_wide vs) rfl (by rw [List.length_map,vl];exact hi)
 rw [List.length_map,vl,Nat.mul_one,show (vs.map fun v=>[v])++[[AV.slice t.n 0 n0 n0 false]]=(vs++[AV.slice t.n 0 n0 n0 false]).map fun v=>[v] by rw [List.map_append];rfl] at hov
 have ad:∀ s,aAdd s .i64 (i:Int) 1=.val (.int .i64 ((i:Int)+1)) s:=fun s=>aAdd_i64 s _ _ (by omega)
 simp (disch:=first|omega|(with_unfolding_all exact rfl)|(simp only[new_n,put_n,new_m];omega)|(refine put_m_le ?_;simp only[new_m];omega)) only [res54,K54r0,K54r1,K54r2,K54r3,K54r4,K54r5,K54r6,K54r7,K54r8,K54r9,K54r10,K54r11,K54r12,K54r13,K54r14,K54,K54l1,Abs.W,reduceIte,Nat.reduceEqDiff,Nat.reduceAdd,decide_true,decide_false,kLoop_def,Nat.reduceSub,List.cons_append,List.nil_append,List.append_nil,List.length_cons,List.length_nil,kMake_def,efs,Nat.zero_add,l0,l3,l5,l6,l28,l29,l30,e0,d2,d4,d5,d6,w0,wf,wk,g0,g1,g2,hok,okR,f2,f4,k2,k4,i1,mk,hov,plus_ok,turned_ok]
 simp only [put_n,new_n]
 generalize hl:loopN _ rounds _ _ _ _ _=r1
 obtain ⟨w,L0,hw,hL0,hl'⟩:=loop_state hl
 have wn:w.n=t.n+3:=by rw [hw];rfl
 have wm:w.m≤t.m∧u.n≤w.m:=by rw [hw];simp only [St.put,minN_eq,new_m];omega
 have wg:∀ b,b<t.n→b≠u.n+2→w.h.get b=t.h.get b:=fun b h1 h2=>by rw [hw];simp (disch:=first|omega|(with_unfolding_all exact rfl)|(simp only[new_n,put_n,new_m];omega)|(refine put_m_le ?_;simp only[new_m];omega)) only [get_put_ne',get_new_ne]
 have w2:w.h.get (u.n+2)=some (.cells (fillRows n0 [.nilslice] ((vs++[AV.slice t.n 0 n0 n0 false]).map fun v=>[v])).flatten 0):=by rw [hw];simp (disch:=first|omega|(with_unfolding_all exact rfl)|(simp only[new_n,put_n,new_m];omega)|(refine put_m_le ?_;simp only[new_m];omega)) only [get_put_ne',get_new_ne,get_put_eq]
 have wR:w.h.get t.n=some (.cells (List.replicate n0 zgap).flatten 0):=by rw [hw];simp (disch:=first|omega|(with_unfolding_all exact rfl)|(simp only[new_n,put_n,new_m];omega)|(refine put_m_le ?_;simp only[new_m];omega)) only [get_put_ne',get_new_ne,get_new_eq]
 have wR1:w.h.get (t.n+1)=some (.cells [.int .i64 ((ent T i c.a).plus ((ent T c.a c.b).meet c.gap)).1,.int .i64 ((ent T i c.a).plus ((ent T c.a c.b).meet c.gap)).2] (tag 86)):=by rw [hw];simp (disch:=first|omega|(with_unfolding_all exact rfl)|(simp only[new_n,put_n,new_m];omega)|(refine put_m_le ?_;simp only[new_m];omega)) only [get_put_ne',get_new_ne,get_new_eq,get_put_eq,plus1,plus2]
 have wR2:w.h.get (t.n+2)=some (.cells [.int .i64 ((ent T i c.b).plus ((ent T c.a c.b).meet c.gap).turned).1,.int .i64 ((ent T i c.b).plus ((ent T c.a c.b).meet c.gap).turned).2] (tag 86)):=by rw [hw];simp (disch:=first|omega|(with_unfolding_all exact rfl)|(simp only[new_n,put_n,new_m];omega)|(refine put_m_le ?_;simp only[new_m];omega)) only [get_put_ne',get_new_ne,get_new_eq,get_put_eq,plus1,plus2,turned1,turned2]
 have hnth:nth (fillRows n0 [.nilslice] ((vs++[AV.slice t.n 0 n0 n0 false]).map fun v=>[v])).flatten i=.slice t.n 0 n0 n0 false:=by
  have:=fillRows_cut (n:=n0) (z:=[AV.nilslice]) (w:=1) (l:=(vs++[AV.slice t.n 0 n0 n0 false]).map fun v=>[v]) rfl (ones_wide _) (i:=i) (by rw [List.length_map,List.length_append,vl];simp)
  rw [Nat.mul_one] at this
  refine cut1_nth (this.trans ?_)
  simp [vl]
 obtain ⟨e,L1,s1,rfl,rfl,hI⟩:=loop_of hl' (fun j L' t'=>InRow u w t' t.n n0 j j T c i L' v vr) (fun e L1 s1=>e=.exit 2∧InRow u w s1 t.n n0 n0 n0 T c i L1 v vr) n0 (by unfold rounds;omega)
  ⟨by rw [hL0];simp only [efs,l0,l3,l5,l6,l28,l29,l30,reduceIte,Nat.reduceEqDiff],by rw [hL0];simp only [efs,l0,l3,l5,l6,l28,l29,l30,reduceIte,Nat.reduceEqDiff],by rw [hL0];simp only [efs,l0,l3,l5,l6,l28,l29,l30,reduceIte,Nat.reduceEqDiff],by rw [hL0];simp only [efs,l0,l3,l5,l6,l28,l29,l30,reduceIte,Nat.reduceEqDiff],by rw [hL0];simp only [efs,l0,l3,l5,l6,l28,l29,l30,reduceIte,Nat.reduceEqDiff],by rw [hL0];simp only [efs,l0,l3,l5,l6,l28,l29,l30,reduceIte,Nat.reduceEqDiff],by rw [hL0];simp only [efs,l0,l3,l5,l6,l28,l29,l30,reduceIte,Nat.reduceEqDiff],by rw [hL0];simp only [efs,l0,l3,l5,l6,l28,l29,l30,reduceIte,Nat.reduceEqDiff],by rw [hL0];simp only [efs,l0,l3,l5,l6,l28,l29,l30,reduceIte,Nat.reduceEqDiff],by rw [hL0];simp only [efs,l0,l3,l5,l6,l28,l29,l30,reduceIte,Nat.reduceEqDiff],by rw [hL0];simp only [efs,l0,l3,l5,l6,l28,l29,l30,reduceIte,Nat.reduceEqDiff],by rw [hL0];simp only [efs,l0,l3,l5,l6,l28,l29,l30,reduceIte,Nat.reduceEqDiff],by rw [hL0];simp only [efs,reduceIte,Nat.reduceEqDiff];rfl,fun _ _ _=>rfl,Nat.le_refl _,Nat.le_refl _,wm.2,by omega,by rw [wR,List.range_zero,List.map_nil];exact congrArg (fun x=>some (AObj.cells (List.flatten x) 0)) (fillRows_nil n0 zgap).symm⟩
  (fun j L' t' hj hI=>by
   by_cases hlt:j<n0
   ·obtain ⟨L2,t2,p1,p2⟩:=with_cell N hN cx T n0 v vr c u w t' t.n i j L' hT q hn0 ha hb hB hg hi hlt (fun b hb=>(wg b (by omega) (by omega)).trans (hE.same b hb)) hn3 (by omega) (by omega) ((wg _ (by omega) (by omega)).trans g0) ⟨_,w2,hnth⟩ wR1 wR2 d7 hI
    exact .inl ⟨hlt,L2,t2,p1,p2⟩
   ·obtain rfl:j=n0:=by omega
    have e1:decide ((j:Int)<(j:Int))=false:=by simp
    have q57:=hI.l57
    have q58:=hI.l58
    refine .inr ⟨.exit 2,L'.set 59 (.bool false),t',by simp,?_,rfl,hI.set59 _⟩
    simp (disch:=first|omega|(with_unfolding_all exact rfl)|(simp only[new_n,put_n,new_m];omega)|(refine put_m_le ?_;simp only[new_m];omega)) only [res54,K54r0,K54r1,K54r2,K54r3,K54r4,K54r5,K54r6,K54r7,K54r8,K54r9,K54r10,K54r11,K54r12,K54r13,K54r14,K54,K54l0,Abs.W,reduceIte,Nat.reduceEqDiff,Nat.reduceAdd,decide_true,decide_false,kLoop_def,Nat.reduceSub,List.cons_append,List.nil_append,List.append_nil,List.length_cons,List.length_nil,efs,q57,q58,e1])
 have q30:=hI.l30
 simp (disch:=first|omega|(with_unfolding_all exact rfl)|(simp only[new_n,put_n,new_m];omega)|(refine put_m_le ?_;simp only[new_m];omega)) only [res54,K54r0,K54r1,K54r2,K54r3,K54r4,K54r5,K54r6,K54r7,K54r8,K54r9,K54r10,K54r11,K54r12,K54r13,K54r14,K54,Abs.W,reduceIte,Nat.reduceEqDiff,Nat.reduceAdd,decide_true,decide_false,kLoop_def,Nat.reduceSub,List.cons_append,List.nil_append,List.append_nil,List.length_cons,List.length_nil,efs,q30,ad]
 obtain ⟨r0,r3,r5,r6,_,_,_,r28,r29,_,_,_,_,same,sn,sk,sm,sf,row⟩:=hI
 refine ⟨_,_,rfl,?_,?_,?_,?_,?_,?_,?_,⟨fun b hb=>?_,?_,?_,?_,sf⟩,?_,?_,?_,vs++[AV.slice t.n 0 n0 n0 false],by rw [List.length_append,vl];rfl,(same _ (by omega) (by omega)).trans w2,fun j hj=>?_⟩
 ·simp only [efs,r0,reduceIte,Nat.reduceEqDiff]
 ·simp only [efs,r3,reduceIte,Nat.reduceEqDiff]
 ·simp only [efs,r5,reduceIte,Nat.reduceEqDiff]
 ·simp only [efs,r6,reduceIte,Nat.reduceEqDiff]
 ·simp only [efs,r28,reduceIte,Nat.reduceEqDiff]
 ·simp only [efs,r29,reduceIte,Nat.reduceEqDiff]
 ·simp only [efs,reduceIte,Nat.reduceEqDiff];rfl
 ·exact (same b (by omega) (by omega)).trans ((wg b (by omega) (by omega)).trans (hE.same b hb))
 ·omega
 ·omega
 ·exact sm
 ·omega
 ·exact (same _ (by omega) (by omega)).trans ((wg _ (by omega) (by omega)).trans g0)
 ·exact (same _ (by omega) (by omega)).trans ((wg _ (by omega) (by omega)).trans g1)
 ·by_cases hjv:j<vs.length
  ·rw [List.getElem_append_left hjv]
   obtain ⟨b,h1,h2,h3,h4⟩:=vb j hjv
   exact ⟨b,h1,by omega,h3,(same b (by omega) (by omega)).trans ((wg b h2 (by omega)).trans h4)⟩
  ·have:j=i:=by rw [List.length_append,List.length_singleton] at hj;omega
   subst this
   refine ⟨t.n,hn3,by omega,?_,row.trans ?_⟩
   ·rw [List.getElem_append_right (by omega)];simp only [vl,Nat.sub_self,List.getElem_singleton]
   ·rw [fillRows_full (by rw [gapRow_len,List.length_map,List.length_range])]
    rfl
theorem with_ex {N:Nat} {T:List (List Gap)} {n0:Nat} {v:AV} {c:Claim} {s:St} {r:ARes} (hr:call Try.prog X N (.fn 54) [v,claimV c] s=r) (hN:2≤N) (hT:GTab s.h s.n T v) (q:Square n0 T) (hn0:n0≤60) (hp:1≤n0) (ha:c.a<n0) (hb:c.b<n0) (hB:SmallT n0 T)
  (hg:∀ x,x=((ent T c.a c.b).meet c.gap).1∨x=((ent T c.a c.b).meet c.gap).2 → -100000000≤x∧x≤100000000) (hs:s.n+8000≤far) :
  ∃ v' t,r=.val v' t∧New s t 5000∧GTabF t.h s.n t.n (withT n0 T c) v':=by
 obtain ⟨n,rfl⟩:∃ n,N=n+1:=⟨N - 1,by omega⟩
 have hf:far=1000000000:=rfl
 obtain ⟨v',t,e,st,hq⟩:=call_new (n:=n) (args:=[v,claimV c]) (s:=s) (k:=5000) (Q:=fun v' h n=>GTabF h s.n n (withT n0 T c) v') Try.func54 rfl (fun u uh un um=>by
  rw [← uh,← un] at hT
  have hok:=hT.ok
  have hlen:=hT.len
  rw [q.1] at hlen
  obtain ⟨b1,p1,c1,z1,vr,d1,d2,d3,d4,d5,dne,_,d7⟩:=hT.row q ha
  obtain ⟨b2,p2,c2,z2,e1,e2,e3,e4⟩:=d7 _ hb
  have mk:∀ s:St,makeA [.nilslice] 24 s (.int .i64 (n0:Int)) (.int .i64 (n0:Int))=.val (.slice s.n 0 n0 n0 false) (s.new (.cells (List.replicate n0 [AV.nilslice]).flatten 0)):=fun s=>make_rows [.nilslice] 24 n0 s (by omega) (by omega)
  have okR:∀ x t,okA (.val (.slice x 0 n0 n0 false) t)=.val (.slice x 0 n0 n0 false) t:=fun _ _=>rfl
  rw [enter54]
  simp (disch:=first|omega|(with_unfolding_all exact rfl)|(simp only[new_n,put_n,new_m];omega)|(refine put_m_le ?_;simp only[new_m];omega)) only [res54,K54r0,K54r1,K54r2,K54r3,K54r4,K54r5,K54r6,K54r7,K54r8,K54r9,K54r10,K54r11,K54r12,K54r13,K54r14,K54,Abs.W,reduceIte,Nat.reduceEqDiff,Nat.reduceAdd,decide_true,decide_false,kLoop_def,Nat.reduceSub,List.cons_append,List.nil_append,List.append_nil,List.length_cons,List.length_nil,kMake_def,efs,Nat.zero_add,hok,okR,hlen,d2,d3,d4,d5,e2,e3,e4,meet_ok,mk]
  simp only [put_n,new_n]
  generalize hl:loopN _ rounds _ _ _ _ _=r1
  obtain ⟨w,L0,hw,hL0,hl'⟩:=loop_state hl
  have wE:Beside u w 3:=by rw [hw];exact ((((Beside.refl u (by omega) um).new _).new _).put _ (Nat.le_succ _)).new _
  have wn:w.n=u.n+3:=by rw [hw];rfl
  have w0:w.h.get u.n=some (.cells [.int .i64 c.a,.int .i64 c.b,.int .i64 c.gap.1,.int .i64 c.gap.2] (tag 120)):=by rw [hw];simp (disch:=first|omega|(with_unfolding_all exact rfl)|(simp only[new_n,put_n,new_m];omega)|(refine put_m_le ?_;simp only[new_m];omega)) only [get_put_ne',get_new_ne,get_new_eq]
  have w1:w.h.get (u.n+1)=some (.cells [.int .i64 ((ent T c.a c.b).meet c.gap).1,.int .i64 ((ent T c.a c.b).meet c.gap).2] (tag 86)):=by rw [hw];simp (disch:=first|omega|(with_unfolding_all exact rfl)|(simp only[new_n,put_n,new_m];omega)|(refine put_m_le ?_;simp only[new_m];omega)) only [get_put_ne',get_new_ne,get_put_eq,meet1,meet2]
  have w2:w.h.get (u.n+2)=some (.cells (List.replicate n0 [AV.nilslice]).flatten 0):=by rw [hw];exact get_new_eq _ _ _ rfl (by simp only [put_n,new_n];omega)
  obtain ⟨e,L1,s1,rfl,rfl,hI⟩:=loop_of hl' (fun i L' t'=>InTab u t' n0 i (3+70 * i) T c L' v) (fun e L1 s1=>e=.exit 0∧InTab u s1 n0 n0 (3+70 * n0) T c L1 v) n0 (by unfold rounds;omega)
   ⟨by rw [hL0];simp only [find_cons,reduceIte,Nat.reduceEqDiff],by rw [hL0];simp only [find_cons,reduceIte,Nat.reduceEqDiff],by rw [hL0];simp only [find_cons,reduceIte,Nat.reduceEqDiff],by rw [hL0];simp only [find_cons,reduceIte,Nat.reduceEqDiff],by rw [hL0];simp only [find_cons,reduceIte,Nat.reduceEqDiff],by rw [hL0];simp only [find_cons,reduceIte,Nat.reduceEqDiff],by rw [hL0];simp only [find_cons,reduceIte,Nat.reduceEqDiff];rfl,wE,by omega,w0,w1,[],rfl,by rw [w2,List.map_nil,fillRows_nil],fun j h=>by simp at h⟩
   (fun i L' t' hi hI=>by
    by_cases hlt:i<n0
    ·obtain ⟨L2,t2,p1,p2⟩:=with_round n (by omega) ⟨54,none,Try.f54.ntmps,X 54⟩ T n0 v c u t' i (3+70 * i) L' hT q hn0 ha hb hB hg hlt (by omega) hI
     exact .inl ⟨hlt,L2,t2,p1,by rw [show 3+70 * (i+1)=3+70 * i+70 by omega];exact p2⟩
    ·obtain rfl:i=n0:=by omega
     have e1:decide ((i:Int)<(i:Int))=false:=by simp
     have q29:=hI.l29
     have q30:=hI.l30
     refine .inr ⟨.exit 0,L'.set 31 (.bool false),t',by simp,?_,rfl,?_⟩
     ·simp (disch:=first|omega|(with_unfolding_all exact rfl)|(simp only[new_n,put_n,new_m];omega)|(refine put_m_le ?_;simp only[new_m];omega)) only [res54,K54r0,K54r1,K54r2,K54r3,K54r4,K54r5,K54r6,K54r7,K54r8,K54r9,K54r10,K54r11,K54r12,K54r13,K54r14,K54,K54l1,Abs.W,reduceIte,Nat.reduceEqDiff,Nat.reduceAdd,decide_true,decide_false,kLoop_def,Nat.reduceSub,List.cons_append,List.nil_append,List.append_nil,List.length_cons,List.length_nil,efs,q29,q30,e1]
     ·obtain ⟨r0,r3,r5,r6,r28,r29,r30,ra,rb,rc,rd,re⟩:=hI
      refine ⟨?_,?_,?_,?_,?_,?_,?_,ra,rb,rc,rd,re⟩<;>rw [efs,if_neg (by omega)]<;>assumption)
  obtain ⟨r0,r3,r5,r6,r28,r29,r30,hE,hn3,g0,g1,vs,vl,g2,vb⟩:=hI
  simp (disch:=first|omega|(with_unfolding_all exact rfl)|(simp only[new_n,put_n,new_m];omega)|(refine put_m_le ?_;simp only[new_m];omega)) only [res54,K54r0,K54r1,K54r2,K54r3,K54r4,K54r5,K54r6,K54r7,K54r8,K54r9,K54r10,K54r11,K54r12,K54r13,K54r14,K54,Abs.W,reduceIte,Nat.reduceEqDiff,Nat.reduceAdd,decide_true,decide_false,kLoop_def,Nat.reduceSub,List.cons_append,List.nil_append,List.append_nil,List.length_cons,List.length_nil,efs,r6]
  have tn:=hE.n
  have q1:=(withT_square n0 T c).1
  refine ⟨_,_,rfl,hE.mono (by omega),rfl,fun k hk=>⟨fun _=>rfl,rfl,fun s=>by rw [lenSl_slice,q1],fun i hi=>?_⟩⟩
  rw [q1] at hi
  obtain ⟨b,h1,h2,h3,h4⟩:=vb i (by omega)
  have hl2:(gapRow (withRow n0 T c i)).length=n0:=by rw [gapRow_len,withRow_len]
  have hwi:(withT n0 T c)[i]'(by rw [q1];exact hi)=withRow n0 T c i:=by unfold withT;rw [List.getElem_map,List.getElem_range]
  rw [hwi]
  refine ⟨u.n+2,i,_,_,.slice b 0 n0 n0 false,by omega,fun s=>by rw [ixs_slice _ _ _ _ _ _ _ _ hi,Nat.mul_one,Nat.zero_add],(hk _ (by omega) (by omega)).trans g2,?_,fun _=>rfl,fun s=>by rw [lenSl_slice,hl2],fun j hj=>⟨b,j * 2,_,_,h2,fun s=>by rw [ixs_slice _ _ _ _ _ _ _ _ (by omega),Nat.zero_add],(hk _ (by omega) (by omega)).trans h4,flatten_cut (gapRow_wide _) hj⟩⟩
  have:=fillRows_cut (n:=n0) (z:=[AV.nilslice]) (w:=1) (l:=vs.map fun v=>[v]) rfl (ones_wide _) (i:=i) (by rw [List.length_map,vl];exact hi)
  rw [Nat.mul_one] at this
  refine cut1_nth (this.trans ?_)
  rw [List.getElem_map,h3])
 exact ⟨v',t,hr.symm.trans e,st,hq⟩
end Go.Proofs.Ytoolodjbfphkjaa.walk
set_option maxRecDepth 10000
namespace Go.Proofs.Ytoolodjbfphkjaa.walk
open Go.Abs Go.Proofs.Ytoolodjbfphkjaa.code
structure Yields (N l n0 k0 w:Nat) (own:Nat→Prop) (K:Nat) (cl:Nat→Claim) (J:Nat→Heap→Nat→Prop) (S:Heap→Nat→Prop):Prop where
 few:k0≤20000
 keep:∀ i h h' n n',(∀ b,b<n→h'.get b=h.get b)→n≤n'→J i h n→J i h' n'
 take:∀ i (s:St),i<K→J i s.h s.n→n0≤s.n→s.n+20000≤far→∃ s' q,call Try.prog X N (.yield l) [claimV (cl i)] s=.val (.bool q) s'∧(q=true→J (i+1) s'.h s'.n)∧(q=false→S s'.h s'.n) ∧
  (∀ x,x<n0→¬ own x→s'.h.get x=s.h.get x)∧s.n≤s'.n∧s'.n≤s.n+k0∧(w≤s.m→w≤s'.m)∧s'.m≤s.m∧s'.m≤l
theorem nth_skip':∀ (a l:List AV) (k:Nat),nth (a++l) (a.length+k)=nth l k
 | [],l,k=>by rw [List.length_nil,Nat.zero_add,List.nil_append]
 | x::a,l,k=>by rw [List.length_cons,List.cons_append,show a.length+1+k=(a.length+k)+1 by omega,nth_cons,if_neg (by omega)];exact nth_skip' a l k
def errAt (b:Bench) (i d:Nat):Nat:=1+b.ms.length+i * (b.days+1)+d
def nomAt (b:Bench) (i:Nat):Int:=(b.ms.getD i ⟨0,0,0⟩).nom
def wAt (b:Bench) (i:Nat):Weigh:=b.ws.getD i ⟨0,0,0,0⟩
def tAt (b:Bench) (i:Nat):Trial:=b.ts.getD i ⟨0,0,0,0⟩
def Weigh.claim (w:Weigh):Claim:=⟨1+w.a.toNat,1+w.b.toNat,(w.lo,w.hi)⟩
def Trial.claim (b:Bench) (t:Trial):Claim:=⟨1+t.mass.toNat,errAt b t.scale.toNat t.day.toNat,(t.shown - nomAt b t.mass.toNat,t.shown - nomAt b t.mass.toNat)⟩
def resAt (b:Bench) (i:Nat):Claim:=if i<b.ws.length then (wAt b i).claim else (tAt b (i - b.ws.length)).claim b
def resMany (b:Bench):Nat:=b.ws.length+b.ts.length
theorem massN_ok (N:Nat) (hN:1≤N) (a:Nat) (s:St) (ha:a≤1000) (hs:s.n+100≤far):call Try.prog X N (.fn 30) [.int .i64 (a:Int)] s=.val (.int .i64 ((1+a:Nat):Int)) s:=by
 rw [massAt_ok N hN a s (by unfold Small;omega) hs]
 congr 2
structure Bed (u t:St) (n0 w kk:Nat) (own:Nat→Prop):Prop where
 same:∀ x,x<n0→¬ own x→t.h.get x=u.h.get x
 n:u.n≤t.n
 le:t.n≤u.n+kk
 m:w≤t.m
 mle:t.m≤far
theorem res_round0 (N:Nat) (hN:1≤N) (cx:Ctx) {l n0 k0 w p i kk:Nat} {own:Nat→Prop} {K:Nat} {J:Nat→Heap→Nat→Prop} {S:Heap→Nat→Prop} {b:Bench} {v1 v2 v3 v4:AV} {u t:St} {L:Env} (hY:Yields N l n0 k0 w own K (resAt b) J S) (ok:b.Ok) (hK:K=resMany b)
  (nb:Nat) (hB:BenchAt u.h nb b v1 v2 v3 v4) (hnb:∀ x,x<nb→x<n0∧¬ own x) (hn0:n0≤u.n) (hw:w≤n0) (hs:u.n+kk+30000≤far) (hi:i<b.ws.length)
  (q0:L.find 0=.yield l) (q1:L.find 1=.ptr p 0) (q9:L.find 9=v2) (q10:L.find 10=.int .i64 b.ws.length) (q11:L.find 11=.int .i64 i) (hD:Bed u t n0 w kk own) (hJ:J i t.h t.n) :
  ∃ e L1 t1,K69l0 (call Try.prog X N) cx L [] t=.done e L1 [] t1∧Bed u t1 n0 w (kk+k0+1) own∧t1.m≤l∧((e=.norm∧L1.find 0=.yield l∧L1.find 1=.ptr p 0∧L1.find 9=v2∧L1.find 10=.int .i64 b.ws.length∧L1.find 11=.int .i64 (i+1:Nat)∧J (i+1) t1.h t1.n)∨(e=.ret∧S t1.h t1.n)):=by
 have hf:far=1000000000:=rfl
 obtain ⟨same,tn,tk,tm,tf⟩:=hD
 have c1:=ok.w1
 have e0:decide ((i:Int)<(b.ws.length:Int))=true:=decide_eq_true (by omega)
 obtain ⟨x0,o0,cs,sz,r1,r2,r3,r4⟩:=hB.w.at_ i (by simpa using hi)
 rw [List.getElem_map] at r4
 have g0:=(same x0 (hnb _ r1).1 (hnb _ r1).2).trans r3
 have hwi:wAt b i=b.ws[i]:=by unfold wAt;simp [List.getD,hi]
 obtain ⟨a0,a1,b0,b1,ab,o0',o1,o2⟩:=ok.wok _ (List.getElem_mem hi)
 have hcl:resAt b i=(b.ws[i]).claim:=by unfold resAt;rw [if_pos hi,hwi]
 have m1:=ok.m1
 generalize b.ws[i]=M at *
 obtain ⟨Ma,Mb,Mlo,Mhi⟩:=M
 simp only at a0 a1 b0 b1 ab o0' o1 o2
 obtain ⟨na,rfl⟩:∃ n:Nat,Ma=n:=⟨Ma.toNat,by omega⟩
 obtain ⟨nb',rfl⟩:∃ n:Nat,Mb=n:=⟨Mb.toNat,by omega⟩
 unfold Weigh.cells at r4
 unfold Weigh.claim at hcl
 simp only [Int.toNat_natCast] at hcl r4
 have ad:∀ s,aAdd s .i64 (i:Int) 1=.val (.int .i64 ((i:Int)+1)) s:=fun s=>aAdd_i64 s _ _ (by omega)
 have xt:x0<t.n:=by have:=(hnb _ r1).1;omega
 simp (disch:=first|omega|(with_unfolding_all exact rfl)|(simp only[new_n,put_n,new_m];omega)|(refine put_m_le ?_;simp only[new_m];omega)) only [res69,K69r0,K69r1,K69r2,K69r3,K69r4,K69r5,K69r6,K69r7,K69r8,K69r9,K69r10,K69,K69l0,Abs.W,reduceIte,Nat.reduceEqDiff,Nat.reduceAdd,decide_true,decide_false,kLoop_def,Nat.reduceSub,List.cons_append,List.nil_append,List.append_nil,List.length_cons,List.length_nil,efs,Nat.zero_add,q0,q1,q9,q10,q11,e0,r2,r4,g0,massN_ok,gapOf_ok]
 generalize hs1:(t.new _).put t.n _=s1
 have s1n:s1.n=t.n+1:=by rw [← hs1];rfl
 have s1g:∀ x,x<t.n→s1.h.get x=t.h.get x:=fun x hx=>by rw [← hs1,get_put_ne' _ _ _ _ (by omega),get_new_ne _ _ _ (by omega)]
 have s1m:w≤s1.m∧s1.m≤far:=by rw [← hs1];simp only [St.put,minN_eq,new_m];omega
 obtain ⟨s2,q,e2,k1,k2,k3,k4,k5,k6,k7,k8⟩:=hY.take i s1 (by rw [hK];unfold resMany;omega) (hY.keep i t.h s1.h t.n s1.n s1g (by omega) hJ) (by omega) (by omega)
 rw [hcl] at e2
 have e2':call Try.prog X N (.yield l) [.agg [.int .i64 ((1+na:Nat):Int),.int .i64 ((1+nb':Nat):Int),.int .i64 Mlo,.int .i64 Mhi]] s1=.val (.bool q) s2:=e2
 have kf:=hY.few
 have hD2:Bed u s2 n0 w (kk+k0+1) own:=⟨fun x hx ho=>(k3 x hx ho).trans ((s1g x (by omega)).trans (same x hx ho)),by omega,by omega,k6 s1m.1,by omega⟩
 cases q
 ·simp (disch:=first|omega|(with_unfolding_all exact rfl)|(simp only[new_n,put_n,new_m];omega)|(refine put_m_le ?_;simp only[new_m];omega)) only [Abs.W,reduceIte,Nat.reduceEqDiff,Nat.reduceAdd,decide_true,decide_false,kLoop_def,Nat.reduceSub,List.cons_append,List.nil_append,List.append_nil,List.length_cons,List.length_nil,efs,e2',q11]
  exact ⟨_,_,_,rfl,hD2,k8,.inr ⟨rfl,k2 rfl⟩⟩
 ·simp (disch:=first|omega|(with_unfolding_all exact rfl)|(simp only[new_n,put_n,new_m];omega)|(refine put_m_le ?_;simp only[new_m];omega)) only [Abs.W,reduceIte,Nat.reduceEqDiff,Nat.reduceAdd,decide_true,decide_false,kLoop_def,Nat.reduceSub,List.cons_append,List.nil_append,List.append_nil,List.length_cons,List.length_nil,efs,e2',q11,ad]
  refine ⟨_,_,_,rfl,hD2,k8,.inl ⟨rfl,?_,?_,?_,?_,?_,k1 rfl⟩⟩
  ·simp only [efs,q0,reduceIte,Nat.reduceEqDiff]
  ·simp only [efs,q1,reduceIte,Nat.reduceEqDiff]
  ·simp only [efs,q9,reduceIte,Nat.reduceEqDiff]
  ·simp only [efs,q10,reduceIte,Nat.reduceEqDiff]
  ·simp only [efs,reduceIte,Nat.reduceEqDiff];rfl
theorem res_round1 (N:Nat) (hN:1≤N) (cx:Ctx) {l n0 k0 w p szp i kk:Nat} {own:Nat→Prop} {K:Nat} {J:Nat→Heap→Nat→Prop} {S:Heap→Nat→Prop} {b:Bench} {v1 v2 v3 v4:AV} {u t:St} {L:Env} (hY:Yields N l n0 k0 w own K (resAt b) J S) (ok:b.Ok) (hK:K=resMany b)
  (nb:Nat) (hB:BenchAt u.h nb b v1 v2 v3 v4) (hnb:∀ x,x<nb→x<n0∧¬ own x) (gp:u.h.get p=some (.cells (benchV v1 v2 v3 v4 b.days) szp)) (hp:p<n0∧¬ own p) (hn0:n0≤u.n) (hw:w≤n0) (hs:u.n+kk+30000≤far) (hi:i<b.ts.length)
  (q0:L.find 0=.yield l) (q1:L.find 1=.ptr p 0) (q30:L.find 30=v4) (q31:L.find 31=.int .i64 b.ts.length) (q32:L.find 32=.int .i64 i) (hD:Bed u t n0 w kk own) (hJ:J (b.ws.length+i) t.h t.n) :
  ∃ e L1 t1,K69l1 (call Try.prog X N) cx L [] t=.done e L1 [] t1∧Bed u t1 n0 w (kk+k0+1) own∧t1.m≤l∧((e=.norm∧L1.find 0=.yield l∧L1.find 1=.ptr p 0∧L1.find 30=v4∧L1.find 31=.int .i64 b.ts.length∧L1.find 32=.int .i64 (i+1:Nat)∧J (b.ws.length+(i+1)) t1.h t1.n)∨(e=.ret∧S t1.h t1.n)):=by
 have hf:far=1000000000:=rfl
 obtain ⟨same,tn,tk,tm,tf⟩:=hD
 have c1:=ok.w1
 have c2:=ok.t1
 have c3:=ok.s1
 have c4:=ok.d1
 have e0:decide ((i:Int)<(b.ts.length:Int))=true:=decide_eq_true (by omega)
 obtain ⟨x0,o0,cs,sz,r1,r2,r3,r4⟩:=hB.t.at_ i (by simpa using hi)
 rw [List.getElem_map] at r4
 have g0:=(same x0 (hnb _ r1).1 (hnb _ r1).2).trans r3
 have gp':=(same p hp.1 hp.2).trans gp
 have hwi:tAt b i=b.ts[i]:=by unfold tAt;simp [List.getD,hi]
 obtain ⟨s0,sk,m0,mk,d0,dk,h0,h1⟩:=ok.tok _ (List.getElem_mem hi)
 have hcl:resAt b (b.ws.length+i)=(b.ts[i]).claim b:=by unfold resAt;rw [if_neg (by omega),Nat.add_sub_cancel_left,hwi]
 have m1:=ok.m1
 generalize b.ts[i]=M at *
 obtain ⟨Ms,Md,Mm,Mx⟩:=M
 simp only at s0 sk m0 mk d0 dk h0 h1
 obtain ⟨ns,rfl⟩:∃ n:Nat,Ms=n:=⟨Ms.toNat,by omega⟩
 obtain ⟨nd,rfl⟩:∃ n:Nat,Md=n:=⟨Md.toNat,by omega⟩
 obtain ⟨nm,rfl⟩:∃ n:Nat,Mm=n:=⟨Mm.toNat,by omega⟩
 have hnm:nm<b.ms.length:=by omega
 obtain ⟨x1,o1,cs1,sz1,f1,f2,f3,f4⟩:=hB.m.at_ nm (by simpa using hnm)
 rw [List.getElem_map] at f4
 have g1:=(same x1 (hnb _ f1).1 (hnb _ f1).2).trans f3
 have hno:nomAt b nm=(b.ms[nm]).nom:=by unfold nomAt;simp [List.getD,hnm]
 obtain ⟨n0',n1',_,_,_⟩:=ok.mok _ (List.getElem_mem hnm)
 generalize b.ms[nm]=Q at *
 unfold Trial.cells at r4
 unfold Mass.cells at f4
 have f5:nth cs1 o1=.int .i64 Q.nom:=by
  obtain ⟨a,t,z1,z2,z3⟩:=cut_some f4
  rw [z1,← z2,List.append_assoc,← Nat.add_zero a.length,nth_skip']
  rfl
 unfold Trial.claim errAt at hcl
 simp only [Int.toNat_natCast] at hcl r4
 rw [hno] at hcl
 have ad:∀ s,aAdd s .i64 (i:Int) 1=.val (.int .i64 ((i:Int)+1)) s:=fun s=>aAdd_i64 s _ _ (by omega)
 have asb:∀ s,aSub s .i64 Mx Q.nom=.val (.int .i64 (Mx - Q.nom)) s:=fun s=>aSub_i64 s _ _ (by omega)
 have xt:x0<t.n:=by have:=(hnb _ r1).1;omega
 have xt1:x1<t.n:=by have:=(hnb _ f1).1;omega
 have l1:=hB.m.len
 rw [List.length_map] at l1
 have he:∀ s:St,s.n+100≤far→call Try.prog X N (.fn 59) [.agg [v1,v2,v3,v4,.int .i64 b.days],.int .i64 (ns:Int),.int .i64 (nd:Int)] s=.val (.int .i64 ((1+b.ms.length+ns * (b.days+1)+nd:Nat):Int)) s:=fun s hs=>errorAt_ok N hN b.ms.length b.days ns nd v1 v2 v3 v4 l1 hB.m.ne s (by omega) (by omega) (by omega) (by omega) hs
 have okm:∀ t,okA (.val v1 t)=.val v1 t:=fun t=>okA_ne hB.m.ne
 unfold benchV at gp'
 simp (disch:=first|omega|(with_unfolding_all exact rfl)|(simp only[new_n,put_n,new_m];omega)|(refine put_m_le ?_;simp only[new_m];omega)) only [res69,K69r0,K69r1,K69r2,K69r3,K69r4,K69r5,K69r6,K69r7,K69r8,K69r9,K69r10,K69,K69l1,Abs.W,reduceIte,Nat.reduceEqDiff,Nat.reduceAdd,decide_true,decide_false,kLoop_def,Nat.reduceSub,List.cons_append,List.nil_append,List.append_nil,List.length_cons,List.length_nil,efs,Nat.zero_add,Nat.add_zero,q0,q1,q30,q31,q32,e0,r2,r4,f2,f5,g0,g1,gp',massN_ok,he,asb,okm]
 generalize hs1:(t.new _).put t.n _=s1
 have s1n:s1.n=t.n+1:=by rw [← hs1];rfl
 have s1g:∀ x,x<t.n→s1.h.get x=t.h.get x:=fun x hx=>by rw [← hs1,get_put_ne' _ _ _ _ (by omega),get_new_ne _ _ _ (by omega)]
 have s1m:w≤s1.m∧s1.m≤far:=by rw [← hs1];simp only [St.put,minN_eq,new_m];omega
 obtain ⟨s2,q,e2,k1,k2,k3,k4,k5,k6,k7,k8⟩:=hY.take (b.ws.length+i) s1 (by rw [hK];unfold resMany;omega) (hY.keep _ t.h s1.h t.n s1.n s1g (by omega) hJ) (by omega) (by omega)
 rw [hcl] at e2
 have e2':call Try.prog X N (.yield l) [.agg [.int .i64 ((1+nm:Nat):Int),.int .i64 ((1+b.ms.length+ns * (b.days+1)+nd:Nat):Int),.int .i64 (Mx - Q.nom),.int .i64 (Mx - Q.nom)]] s1=.val (.bool q) s2:=e2
 have kf:=hY.few
 have hD2:Bed u s2 n0 w (kk+k0+1) own:=⟨fun x hx ho=>(k3 x hx ho).trans ((s1g x (by omega)).trans (same x hx ho)),by omega,by omega,k6 s1m.1,by omega⟩
 cases q
 ·simp (disch:=first|omega|(with_unfolding_all exact rfl)|(simp only[new_n,put_n,new_m];omega)|(refine put_m_le ?_;simp only[new_m];omega)) only [Abs.W,reduceIte,Nat.reduceEqDiff,Nat.reduceAdd,decide_true,decide_false,kLoop_def,Nat.reduceSub,List.cons_append,List.nil_append,List.append_nil,List.length_cons,List.length_nil,efs,e2',q32]
  exact ⟨_,_,_,rfl,hD2,k8,.inr ⟨rfl,k2 rfl⟩⟩
 ·simp (disch:=first|omega|(with_unfolding_all exact rfl)|(simp only[new_n,put_n,new_m];omega)|(refine put_m_le ?_;simp only[new_m];omega)) only [Abs.W,reduceIte,Nat.reduceEqDiff,Nat.reduceAdd,decide_true,decide_false,kLoop_def,Nat.reduceSub,List.cons_append,List.nil_append,List.append_nil,List.length_cons,List.length_nil,efs,e2',q32,ad]
  refine ⟨_,_,_,rfl,hD2,k8,.inl ⟨rfl,?_,?_,?_,?_,?_,k1 rfl⟩⟩
  ·simp only [efs,q0,reduceIte,Nat.reduceEqDiff]
  ·simp only [efs,q1,reduceIte,Nat.reduceEqDiff]
  ·simp only [efs,q30,reduceIte,Nat.reduceEqDiff]
  ·simp only [efs,q31,reduceIte,Nat.reduceEqDiff]
  ·simp only [efs,reduceIte,Nat.reduceEqDiff];rfl
theorem results1_ex {N l n0 k0 w p szp:Nat} {own:Nat→Prop} {J:Nat→Heap→Nat→Prop} {S:Heap→Nat→Prop} {b:Bench} {v1 v2 v3 v4:AV} {s:St} {r:ARes} (hr:call Try.prog X N (.fn 69) [.yield l,.ptr p 0] s=r) (hN:2≤N) (hY:Yields (N - 1) l n0 k0 w own (resMany b) (resAt b) J S) (ok:b.Ok)
  (nb:Nat) (hB:BenchAt s.h nb b v1 v2 v3 v4) (hnb:∀ x,x<nb→x<n0∧¬ own x) (gp:s.h.get p=some (.cells (benchV v1 v2 v3 v4 b.days) szp)) (hp:p<n0∧¬ own p) (hn0:n0≤s.n) (hw:w≤n0) (hs:s.n+300000≤far) (hls:l<s.n) (hJ:J 0 s.h s.n) :
  ∃ s',r=.val (.tup []) s'∧(J (resMany b) s'.h s'.n∨S s'.h s'.n)∧(∀ x,x<n0→¬ own x→s'.h.get x=s.h.get x)∧s.n≤s'.n∧s'.n≤s.n+(k0+1) * resMany b∧(w≤s.m→w≤s'.m)∧s'.m≤s.m:=by
 obtain ⟨n,rfl⟩:∃ n,N=n+1:=⟨N - 1,by omega⟩
 have hf:far=1000000000:=rfl
 rw [Nat.add_sub_cancel] at hY
 have c1:=ok.w1
 have c2:=ok.t1
 have kf:=hY.few
 have hkm:∀ i,i≤12→(k0+1) * i≤(k0+1) * 12:=fun i hi=>Nat.mul_le_mul_left _ hi
 obtain ⟨v',t,mm,e,⟨rfl,a1,a2,a3,a4,a5,a6⟩,hm'⟩:=call_any (n:=n) (args:=[.yield l,.ptr p 0]) (s:=s) (Q:=fun v h n m'=>v=.tup []∧(J (resMany b) h n∨S h n)∧(∀ x,x<n0→¬ own x→h.get x=s.h.get x)∧s.n≤n∧n≤s.n+(k0+1) * resMany b∧w≤m'∧m'≤far) Try.func69 rfl (fun u uh un um=>by
  rw [← uh] at gp hB
  have hJ':J 0 u.h u.n:=by rw [uh,un];exact hJ
  have gp':=gp
  unfold benchV at gp'
  have k2:∀ t,okA (.val v2 t)=.val v2 t:=fun t=>okA_ne hB.w.ne
  have k4:∀ t,okA (.val v4 t)=.val v4 t:=fun t=>okA_ne hB.t.ne
  have l2:=hB.w.len
  rw [List.length_map] at l2
  have l4:=hB.t.len
  rw [List.length_map] at l4
  rw [enter69]
  simp (disch:=first|omega|(with_unfolding_all exact rfl)|(simp only[new_n,put_n,new_m];omega)|(refine put_m_le ?_;simp only[new_m];omega)) only [res69,K69r0,K69r1,K69r2,K69r3,K69r4,K69r5,K69r6,K69r7,K69r8,K69r9,K69r10,K69,Abs.W,reduceIte,Nat.reduceEqDiff,Nat.reduceAdd,decide_true,decide_false,kLoop_def,Nat.reduceSub,List.cons_append,List.nil_append,List.append_nil,List.length_cons,List.length_nil,gp',k2,l2]
  generalize hl:loopN _ rounds _ _ _ _ _=r1
  have h0:Bed u u n0 w 0 own:=⟨fun _ _ _=>rfl,Nat.le_refl _,Nat.le_refl _,by omega,by omega⟩
  have hresM:resMany b=b.ws.length+b.ts.length:=rfl
  obtain ⟨e,L1,s1,rfl,hQ⟩:=loop_of hl (fun i L' t'=>L'.find 0=.yield l∧L'.find 1=.ptr p 0∧L'.find 9=v2∧L'.find 10=.int .i64 b.ws.length∧L'.find 11=.int .i64 i∧Bed u t' n0 w ((k0+1) * i) own∧J i t'.h t'.n∧(0<i→t'.m≤l))
   (fun e L1 t'=>(e=.exit 0∧L1.find 0=.yield l∧L1.find 1=.ptr p 0∧Bed u t' n0 w ((k0+1) * b.ws.length) own∧J b.ws.length t'.h t'.n∧(0<b.ws.length→t'.m≤l))∨(e=.ret∧Bed u t' n0 w ((k0+1) * resMany b) own∧S t'.h t'.n∧t'.m≤l)) b.ws.length (by unfold rounds;omega)
   ⟨by simp only [efs,find_cons,reduceIte,Nat.reduceEqDiff],by simp only [efs,find_cons,reduceIte,Nat.reduceEqDiff],by simp only [efs,find_cons,reduceIte,Nat.reduceEqDiff],by simp only [efs,find_cons,reduceIte,Nat.reduceEqDiff],by simp only [efs,find_cons,reduceIte,Nat.reduceEqDiff];rfl,h0,hJ',fun h=>absurd h (Nat.lt_irrefl _)⟩
   (fun i L' t' hi ⟨q0,q1,q9,q10,q11,hD,hJi,hl0⟩=>by
    have hki:=hkm i (by omega)
    by_cases hlt:i<b.ws.length
    ·obtain ⟨e,L2,t2,p1,p2,p3,p4⟩:=res_round0 n (by omega) ⟨69,none,Try.f69.ntmps,X 69⟩ hY ok rfl nb hB hnb (by omega) hw (by omega) hlt q0 q1 q9 q10 q11 hD hJi
     have p2':Bed u t2 n0 w ((k0+1) * (i+1)) own:=by rw [Nat.mul_succ];exact p2
     rcases p4 with ⟨rfl,z0,z1,z9,z10,z11,zJ⟩ | ⟨rfl,zS⟩
     ·exact .inl ⟨hlt,L2,t2,p1,z0,z1,z9,z10,z11,p2',zJ,fun _=>p3⟩
     ·refine .inr ⟨.ret,L2,t2,by simp,p1,.inr ⟨rfl,⟨p2'.same,p2'.n,Nat.le_trans p2'.le (Nat.add_le_add_left (Nat.mul_le_mul_left _ (by omega)) _),p2'.m,p2'.mle⟩,zS,p3⟩⟩
    ·obtain rfl:i=b.ws.length:=by omega
     have e1:decide ((b.ws.length:Int)<(b.ws.length:Int))=false:=by simp
     refine .inr ⟨.exit 0,L'.set 12 (.bool false),t',by simp,?_,.inl ⟨rfl,?_,?_,hD,hJi,hl0⟩⟩
     ·simp (disch:=first|omega|(with_unfolding_all exact rfl)|(simp only[new_n,put_n,new_m];omega)|(refine put_m_le ?_;simp only[new_m];omega)) only [res69,K69r0,K69r1,K69r2,K69r3,K69r4,K69r5,K69r6,K69r7,K69r8,K69r9,K69r10,K69,K69l0,Abs.W,reduceIte,Nat.reduceEqDiff,Nat.reduceAdd,decide_true,decide_false,kLoop_def,Nat.reduceSub,List.cons_append,List.nil_append,List.append_nil,List.length_cons,List.length_nil,efs,q10,q11,e1]
     ·simp only [efs,q0,reduceIte,Nat.reduceEqDiff]
     ·simp only [efs,q1,reduceIte,Nat.reduceEqDiff])
  have fin:∀ t':St,Bed u t' n0 w ((k0+1) * resMany b) own→(J (resMany b) t'.h t'.n∨S t'.h t'.n)→(resMany b=0∨t'.m≤l)→l<s.n →
    ((AV.tup []=AV.tup []∧(J (resMany b) t'.h t'.n∨S t'.h t'.n)∧(∀ x,x<n0→¬ own x→t'.h.get x=s.h.get x)∧s.n≤t'.n∧t'.n≤s.n+(k0+1) * resMany b∧w≤t'.m∧t'.m≤far)∧(plain (.tup [])=true→s.n≤t'.m→AV.tup []=AV.tup []∧(J (resMany b) s.h s.n∨S s.h s.n)∧(∀ x,x<n0→¬ own x→s.h.get x=s.h.get x)∧s.n≤s.n∧s.n≤s.n+(k0+1) * resMany b∧w≤t'.m∧t'.m≤far)):=fun t' hD hq hz hl=>by
   obtain ⟨d1,d2,d3,d4,d5⟩:=hD
   refine ⟨⟨rfl,hq,fun x hx ho=>by rw [d1 x hx ho,uh],by omega,by omega,d4,d5⟩,fun _ hle=>⟨rfl,.inl ?_,fun _ _ _=>rfl,Nat.le_refl _,Nat.le_add_right _ _,d4,d5⟩⟩
   rcases hz with hz | hz
   ·rw [hz];exact hJ
   ·omega
  rcases hQ with ⟨rfl,q0,q1,hD,hJ1,hl1⟩ | ⟨rfl,hD,hS,hl1⟩
  ·obtain ⟨d1,d2,d3,d4,d5⟩:=hD
   have gp1:=(d1 p hp.1 hp.2).trans gp'
   simp (disch:=first|omega|(with_unfolding_all exact rfl)|(simp only[new_n,put_n,new_m];omega)|(refine put_m_le ?_;simp only[new_m];omega)) only [res69,K69r0,K69r1,K69r2,K69r3,K69r4,K69r5,K69r6,K69r7,K69r8,K69r9,K69r10,K69,Abs.W,reduceIte,Nat.reduceEqDiff,Nat.reduceAdd,decide_true,decide_false,kLoop_def,Nat.reduceSub,List.cons_append,List.nil_append,List.append_nil,List.length_cons,List.length_nil,efs,q0,q1,gp1,k4,l4]
   generalize hl2:loopN _ rounds _ _ _ _ _=r2
   obtain ⟨e,L2,s2,rfl,hQ⟩:=loop_of hl2 (fun i L' t'=>L'.find 0=.yield l∧L'.find 1=.ptr p 0∧L'.find 30=v4∧L'.find 31=.int .i64 b.ts.length∧L'.find 32=.int .i64 i∧Bed u t' n0 w ((k0+1) * (b.ws.length+i)) own∧J (b.ws.length+i) t'.h t'.n∧(0<b.ws.length+i→t'.m≤l))
    (fun e L1 t'=>(e=.exit 2∧Bed u t' n0 w ((k0+1) * resMany b) own∧J (resMany b) t'.h t'.n∧(0<resMany b→t'.m≤l))∨(e=.ret∧Bed u t' n0 w ((k0+1) * resMany b) own∧S t'.h t'.n∧t'.m≤l)) b.ts.length (by unfold rounds;omega)
    ⟨by simp only [efs,q0,reduceIte,Nat.reduceEqDiff],by simp only [efs,q1,reduceIte,Nat.reduceEqDiff],by simp only [efs,reduceIte,Nat.reduceEqDiff],by simp only [efs,reduceIte,Nat.reduceEqDiff],by simp only [efs,reduceIte,Nat.reduceEqDiff];rfl,⟨d1,d2,d3,d4,d5⟩,hJ1,hl1⟩
    (fun i L' t' hi ⟨q0,q1,q30,q31,q32,hD,hJi,hl0⟩=>by
     have hki:=hkm (b.ws.length+i) (by omega)
     by_cases hlt:i<b.ts.length
     ·obtain ⟨e,L2,t2,p1,p2,p3,p4⟩:=res_round1 n (by omega) ⟨69,none,Try.f69.ntmps,X 69⟩ hY ok rfl nb hB hnb gp hp (by omega) hw (by omega) hlt q0 q1 q30 q31 q32 hD hJi
      have p2':Bed u t2 n0 w ((k0+1) * (b.ws.length+(i+1))) own:=by rw [← Nat.add_assoc,Nat.mul_succ];exact p2
      rcases p4 with ⟨rfl,z0,z1,z9,z10,z11,zJ⟩ | ⟨rfl,zS⟩
      ·exact .inl ⟨hlt,L2,t2,p1,z0,z1,z9,z10,z11,p2',zJ,fun _=>p3⟩
      ·refine .inr ⟨.ret,L2,t2,by simp,p1,.inr ⟨rfl,⟨p2'.same,p2'.n,Nat.le_trans p2'.le (Nat.add_le_add_left (Nat.mul_le_mul_left _ (by omega)) _),p2'.m,p2'.mle⟩,zS,p3⟩⟩
     ·obtain rfl:i=b.ts.length:=by omega
      have e1:decide ((b.ts.length:Int)<(b.ts.length:Int))=false:=by simp
      refine .inr ⟨.exit 2,L'.set 33 (.bool false),t',by simp,?_,.inl ⟨rfl,hD,hJi,hl0⟩⟩
      simp (disch:=first|omega|(with_unfolding_all exact rfl)|(simp only[new_n,put_n,new_m];omega)|(refine put_m_le ?_;simp only[new_m];omega)) only [res69,K69r0,K69r1,K69r2,K69r3,K69r4,K69r5,K69r6,K69r7,K69r8,K69r9,K69r10,K69,K69l1,Abs.W,reduceIte,Nat.reduceEqDiff,Nat.reduceAdd,decide_true,decide_false,kLoop_def,Nat.reduceSub,List.cons_append,List.nil_append,List.append_nil,List.length_cons,List.length_nil,efs,q31,q32,e1])
   rcases hQ with ⟨rfl,hD,hJ2,hl2⟩ | ⟨rfl,hD,hS,hl2⟩
   ·simp (disch:=first|omega|(with_unfolding_all exact rfl)|(simp only[new_n,put_n,new_m];omega)|(refine put_m_le ?_;simp only[new_m];omega)) only [res69,K69r0,K69r1,K69r2,K69r3,K69r4,K69r5,K69r6,K69r7,K69r8,K69r9,K69r10,K69,Abs.W,reduceIte,Nat.reduceEqDiff,Nat.reduceAdd,decide_true,decide_false,kLoop_def,Nat.reduceSub,List.cons_append,List.nil_append,List.append_nil,List.length_cons,List.length_nil,efs,leave_nil]
    have fn:=fin _ hD (.inl hJ2) (by rcases Nat.eq_zero_or_pos (resMany b) with h | h;exact .inl h;exact .inr (hl2 h)) hls
    exact ⟨_,_,rfl,fn.1,fun a b=>by obtain ⟨c1,c2,c3,c4⟩:=fn.2 a b;exact ⟨c1,c2,fun _ _ _=>trivial,c4⟩⟩
   ·simp (disch:=first|omega|(with_unfolding_all exact rfl)|(simp only[new_n,put_n,new_m];omega)|(refine put_m_le ?_;simp only[new_m];omega)) only [res69,K69r0,K69r1,K69r2,K69r3,K69r4,K69r5,K69r6,K69r7,K69r8,K69r9,K69r10,K69,Abs.W,reduceIte,Nat.reduceEqDiff,Nat.reduceAdd,decide_true,decide_false,kLoop_def,Nat.reduceSub,List.cons_append,List.nil_append,List.append_nil,List.length_cons,List.length_nil,efs,leave_nil]
    have fn:=fin _ hD (.inr hS) (.inr hl2) hls
    exact ⟨_,_,rfl,fn.1,fun a b=>by obtain ⟨c1,c2,c3,c4⟩:=fn.2 a b;exact ⟨c1,c2,fun _ _ _=>trivial,c4⟩⟩
  ·simp (disch:=first|omega|(with_unfolding_all exact rfl)|(simp only[new_n,put_n,new_m];omega)|(refine put_m_le ?_;simp only[new_m];omega)) only [res69,K69r0,K69r1,K69r2,K69r3,K69r4,K69r5,K69r6,K69r7,K69r8,K69r9,K69r10,K69,Abs.W,reduceIte,Nat.reduceEqDiff,Nat.reduceAdd,decide_true,decide_false,kLoop_def,Nat.reduceSub,List.cons_append,List.nil_append,List.append_nil,List.length_cons,List.length_nil,efs,leave_nil]
   have fn:=fin _ hD (.inr hS) (.inr hl1) hls
   exact ⟨_,_,rfl,fn.1,fun a b=>by obtain ⟨c1,c2,c3,c4⟩:=fn.2 a b;exact ⟨c1,c2,fun _ _ _=>trivial,c4⟩⟩)
 refine ⟨t,hr.symm.trans e,a1,a2,a3,a4,?_,?_⟩
 ·rcases hm' with ⟨_,hm'⟩ | ⟨_,hm'⟩<;>omega
 ·rcases hm' with ⟨_,hm'⟩ | ⟨_,hm'⟩<;>omega
end Go.Proofs.Ytoolodjbfphkjaa.walk
set_option maxRecDepth 10000
namespace Go.Proofs.Ytoolodjbfphkjaa.walk
open Go.Abs Go.Proofs.Ytoolodjbfphkjaa.code
structure FactOf (b:Bench) (offs:List Int) (errs:List (List Int)):Prop where
 ol:offs.length=b.ms.length
 off:∀ i (h:i<b.ms.length),b.ms[i].lo≤offs.getD i 0∧offs.getD i 0≤b.ms[i].hi ∧ -20≤offs.getD i 0∧offs.getD i 0≤20
 el:errs.length=b.ss.length
 err:∀ k (h:k<b.ss.length),RowOf b.ss[k] b.days (errs.getD k [])
def errIn (errs:List (List Int)) (k d:Nat):Int:=(errs.getD k []).getD d 0
def diffOf (offs:List Int) (w:Weigh):Int:=offs.getD w.a.toNat 0 - offs.getD w.b.toNat 0
def sumOf (b:Bench) (offs:List Int) (errs:List (List Int)) (t:Trial):Int:=nomAt b t.mass.toNat+offs.getD t.mass.toNat 0+errIn errs t.scale.toNat t.day.toNat
structure Tells (b:Bench) (offs:List Int) (errs:List (List Int)):Prop where
 w:∀ w ∈ b.ws,w.lo≤diffOf offs w∧diffOf offs w≤w.hi
 t:∀ t ∈ b.ts,t.shown=sumOf b offs errs t
structure FactAt (h:Heap) (n:Nat) (offs:List Int) (errs:List (List Int)) (v5 v6:AV):Prop where
 o:RowsAt h n 1 (intRows offs) v5
 ok:∀ t,okA (.val v6 t)=.val v6 t
 len:∀ s,lenSlA s v6=.val (.int .i64 errs.length) s
 e:∀ k (hk:k<errs.length),∃ b p c sz vr,b<n∧(∀ s,ixsA 1 s v6 (.int .i64 k)=.val (.ptr b p) s)∧h.get b=some (.cells c sz)∧nth c p=vr∧(∀ t,okA (.val vr t)=.val vr t)∧RowsAt h n 1 (intRows errs[k]) vr
theorem FactAt.grow {h h':Heap} {n n':Nat} {offs:List Int} {errs:List (List Int)} {v5 v6:AV} (r:FactAt h n offs errs v5 v6) (hh:∀ b,b<n→h'.get b=h.get b) (hn:n≤n'):FactAt h' n' offs errs v5 v6 :=
 ⟨r.o.grow hh hn,r.ok,r.len,fun k hk=>by
  obtain ⟨b,p,c,sz,vr,h1,h2,h3,h4,h5,h6⟩:=r.e k hk
  exact ⟨b,p,c,sz,vr,by omega,h2,by rw [hh b h1];exact h3,h4,h5,h6.grow hh hn⟩⟩
theorem FactAt.off {h:Heap} {n:Nat} {offs:List Int} {errs:List (List Int)} {v5 v6:AV} (r:FactAt h n offs errs v5 v6) {i:Nat} (hi:i<offs.length):∃ b p c sz,b<n∧(∀ s,ixsA 1 s v5 (.int .i64 i)=.val (.ptr b p) s)∧h.get b=some (.cells c sz)∧nth c p=.int .i64 (offs.getD i 0):=intRow_at r.o hi
theorem FactAt.err {h:Heap} {n:Nat} {offs:List Int} {errs:List (List Int)} {v5 v6:AV} (r:FactAt h n offs errs v5 v6) {k d:Nat} (hk:k<errs.length) (hd:d<(errs.getD k []).length) :
  ∃ b p c sz vr b2 p2 c2 sz2,b<n∧(∀ s,ixsA 1 s v6 (.int .i64 k)=.val (.ptr b p) s)∧h.get b=some (.cells c sz)∧nth c p=vr∧(∀ t,okA (.val vr t)=.val vr t)∧b2<n∧(∀ s,ixsA 1 s vr (.int .i64 d)=.val (.ptr b2 p2) s)∧h.get b2=some (.cells c2 sz2)∧nth c2 p2=.int .i64 (errIn errs k d):=by
 obtain ⟨b,p,c,sz,vr,h1,h2,h3,h4,h5,h6⟩:=r.e k hk
 have e:errs.getD k []=errs[k]:=by simp [List.getD,hk]
 rw [e] at hd
 obtain ⟨b2,p2,c2,sz2,k1,k2,k3,k4⟩:=intRow_at h6 hd
 exact ⟨b,p,c,sz,vr,b2,p2,c2,sz2,h1,h2,h3,h4,h5,k1,k2,k3,by unfold errIn;rw [e];exact k4⟩
theorem Made.bench {h:Heap} {n d p13 p14 lo:Nat} {b:Bench} {offs:List Int} {errs:List (List Int)} {rv:List AV} {xs:List Nat} {bs:Nat→Nat} {vs:Nat→AV} (m:Made h n d p13 p14 lo b offs errs rv xs bs vs):BenchAt h n b (vs 0) (vs 1) (vs 2) (vs 3) :=
 ⟨(m.ls.at_ 0).rows.at_,(m.ls.at_ 1).rows.at_,(m.ls.at_ 2).rows.at_,(m.ls.at_ 3).rows.at_⟩
theorem Made.fact {h:Heap} {n d p13 p14 lo:Nat} {b:Bench} {offs:List Int} {errs:List (List Int)} {rv:List AV} {xs:List Nat} {bs:Nat→Nat} {vs:Nat→AV} (m:Made h n d p13 p14 lo b offs errs rv xs bs vs):FactAt h n offs errs (vs 4) (vs 5):=by
 have e5:=(m.ls.at_ 5).rows.at_
 have hl:=e5.len
 rw [show (benchR b offs rv 5).length=errs.length from by show (rv.map fun v=>[v]).length=_;rw [List.length_map,m.el]] at hl
 refine ⟨(m.ls.at_ 4).rows.at_,(m.ls.at_ 5).okA,hl,fun k hk=>?_⟩
 have hk1:k<rv.length:=by rw [m.el];exact hk
 have hk2:k<xs.length:=by rw [m.xl];exact hk
 obtain ⟨b,p,c,sz,h1,h2,h3,h4⟩:=e5.at_ k (by show k<(rv.map fun v=>[v]).length;rw [List.length_map];exact hk1)
 have hb:=m.er k hk1 hk hk2
 exact ⟨b,p,c,sz,rv[k],h1,h2,h3,cut1_nth (h4.trans (by simp [benchR])),hb.okA,hb.at_⟩
theorem bring_ok (N:Nat) (hN:1≤N) (x n:Nat) (s:St) (hn:2≤n) (hn2:n≤1000) (hx:x≤100000) (hs:s.n+100≤far):call Try.prog X N (.fn 24) [.int .i64 (x:Int),.int .i64 (n:Int)] s=.val (.int .i64 ((x % n:Nat):Int)) s:=by
 obtain ⟨m,rfl⟩:∃ m,N=m+1:=⟨N - 1,by omega⟩
 refine call_plain' Try.func24 (fun u uh un um=>?_) rfl
 have hf:far=1000000000:=rfl
 have e0:decide ((n:Int)<2)=false:=decide_eq_false (by omega)
 have e1:∀ s,aRem s .i64 (x:Int) (n:Int)=.val (.int .i64 ((x % n:Nat):Int)) s:=fun s=>by
  rw [aRem_ne _ _ _ _ (by omega)]
  rfl
 have e2:decide (((x % n:Nat):Int)<0)=false:=decide_eq_false (by omega)
 rw [enter24]
 simp (disch:=first|omega|(with_unfolding_all exact rfl)|(simp only[new_n,put_n,new_m];omega)|(refine put_m_le ?_;simp only[new_m];omega)) only [res24,K24r0,K24r1,K24r2,K24r3,K24r4,K24r5,K24r6,K24,Abs.W,reduceIte,Nat.reduceEqDiff,Nat.reduceAdd,decide_true,decide_false,kLoop_def,Nat.reduceSub,List.cons_append,List.nil_append,List.append_nil,List.length_cons,List.length_nil,e0,e1,e2]
 exact ⟨_,rfl,by omega⟩
theorem holds_ok (N:Nat) (hN:1≤N) (a b x:Int) (s:St) (hs:s.n+100≤far):call Try.prog X N (.fn 44) [.agg [.int .i64 a,.int .i64 b],.int .i64 x] s=.val (.bool (decide (a≤x∧x≤b))) s:=by
 obtain ⟨m,rfl⟩:∃ m,N=m+1:=⟨N - 1,by omega⟩
 refine call_plain' Try.func44 (fun u uh un um=>?_) rfl
 have hf:far=1000000000:=rfl
 rw [enter44]
 by_cases h1:a≤x
 ·have d1:decide (a≤x)=true:=decide_eq_true h1
  have d2:decide (a≤x∧x≤b)=decide (x≤b):=by simp [h1]
  rw [d2]
  simp (disch:=first|omega|(with_unfolding_all exact rfl)|(simp only[new_n,put_n,new_m];omega)|(refine put_m_le ?_;simp only[new_m];omega)) only [res44,K44r0,K44r1s9,K44r1s8,K44r1s7,K44r1s6,K44r1,K44,Abs.W,reduceIte,Nat.reduceEqDiff,Nat.reduceAdd,decide_true,decide_false,kLoop_def,Nat.reduceSub,List.cons_append,List.nil_append,List.append_nil,List.length_cons,List.length_nil,d1,Nat.zero_add]
  exact ⟨_,rfl,by simp only [new_m];omega⟩
 ·have d1:decide (a≤x)=false:=decide_eq_false h1
  have d2:decide (a≤x∧x≤b)=false:=by simp [h1]
  rw [d2]
  simp (disch:=first|omega|(with_unfolding_all exact rfl)|(simp only[new_n,put_n,new_m];omega)|(refine put_m_le ?_;simp only[new_m];omega)) only [res44,K44r0,K44r1s9,K44r1s8,K44r1s7,K44r1s6,K44r1,K44,Abs.W,reduceIte,Nat.reduceEqDiff,Nat.reduceAdd,decide_true,decide_false,kLoop_def,Nat.reduceSub,List.cons_append,List.nil_append,List.append_nil,List.length_cons,List.length_nil,d1,Nat.zero_add]
  exact ⟨_,rfl,by simp only [new_m];omega⟩
theorem wAt_at {b:Bench} {i:Nat} (h:i<b.ws.length):b.ws[i]=wAt b i:=by unfold wAt;simp [List.getD,h]
theorem tAt_at {b:Bench} {i:Nat} (h:i<b.ts.length):b.ts[i]=tAt b i:=by unfold tAt;simp [List.getD,h]
theorem list_all {α:Type} {l:List α} {P:α→Prop} {d:α} (h:∀ i,i<l.length→P (l.getD i d)):∀ x ∈ l,P x:=by
 intro x hx
 obtain ⟨i,hi,rfl⟩:=List.getElem_of_mem hx
 have:=h i hi
 simpa [List.getD,hi] using this
structure Loose (b:Bench) (offs:List Int) (errs:List (List Int)):Prop where
 ol:offs.length=b.ms.length
 off:∀ i,i<b.ms.length → -20000≤offs.getD i 0∧offs.getD i 0≤20000
 el:errs.length=b.ss.length
 len:∀ k,k<b.ss.length→(errs.getD k []).length=b.days+1
 small:∀ k,k<b.ss.length→∀ d,d≤b.days → -200000≤errIn errs k d∧errIn errs k d≤200000
theorem FactOf.loose {b:Bench} {offs:List Int} {errs:List (List Int)} (h:FactOf b offs errs) (ok:b.Ok):Loose b offs errs :=
 ⟨h.ol,fun i hi=>by have:=h.off i hi;omega,h.el,fun k hk=>(h.err k hk).len,fun k hk d hd=>by
  have:=(h.err k hk).small d hd
  have:=ok.d1
  unfold errIn;omega⟩
theorem hold_round0 (N:Nat) (hN:2≤N) (cx:Ctx) {b:Bench} {offs:List Int} {errs:List (List Int)} {v1 v2 v3 v4 v5 v6:AV} {u t:St} {L:Env} {i k:Nat} (ok:b.Ok) (hF:Loose b offs errs) (hB:BenchAt u.h u.n b v1 v2 v3 v4) (hA:FactAt u.h u.n offs errs v5 v6) (hi:i<b.ws.length) (hs:u.n+k+1000≤far)
  (g0:t.h.get u.n=some (.cells [v1,v2,v3,v4,.int .i64 b.days] (tag 28))) (g1:t.h.get (u.n+1)=some (.cells [v5,v6] (tag 31))) (hE:Beside u t k) (h2:u.n+2≤t.n)
  (q2:L.find 2=.ptr u.n 0) (q3:L.find 3=.ptr (u.n+1) 0) (q5:L.find 5=.int .i64 i) :
  ∃ e L1 t1,K25l0 (call Try.prog X N) cx L [] t=.done e L1 [] t1∧Beside u t1 (k+1)∧u.n+2≤t1.n∧t1.h.get u.n=t.h.get u.n∧t1.h.get (u.n+1)=t.h.get (u.n+1) ∧
   ((e=.norm∧L1.find 2=.ptr u.n 0∧L1.find 3=.ptr (u.n+1) 0∧L1.find 5=.int .i64 (i+1:Nat)∧((wAt b i).lo≤diffOf offs (wAt b i)∧diffOf offs (wAt b i)≤(wAt b i).hi))∨(e=.ret∧L1.find 4=.bool false∧¬ ((wAt b i).lo≤diffOf offs (wAt b i)∧diffOf offs (wAt b i)≤(wAt b i).hi))):=by
 have hf:far=1000000000:=rfl
 have c1:=ok.w1
 have tn:=hE.n
 have tl:=hE.le
 have e0:decide ((i:Int)<(b.ws.length:Int))=true:=decide_eq_true (by omega)
 obtain ⟨x0,o0,cs,sz,r1,r2,r3,r4⟩:=hB.w.at_ i (by simpa using hi)
 rw [List.getElem_map,wAt_at hi] at r4
 have w0:=(hE.same _ r1).trans r3
 obtain ⟨a0,a1,b0,b1,ab,_,_,_⟩:=ok.wok _ (List.getElem_mem hi)
 rw [wAt_at hi] at a0 a1 b0 b1 ab
 have l2:=hB.w.len
 rw [List.length_map] at l2
 have k2:∀ t,okA (.val v2 t)=.val v2 t:=fun t=>okA_ne hB.w.ne
 have k5:∀ t,okA (.val v5 t)=.val v5 t:=fun t=>okA_ne hA.o.ne
 unfold diffOf
 generalize wAt b i=M at *
 obtain ⟨Ma,Mb,Mlo,Mhi⟩:=M
 simp only at a0 a1 b0 b1 ab
 obtain ⟨na,rfl⟩:∃ n:Nat,Ma=n:=⟨Ma.toNat,by omega⟩
 obtain ⟨nb,rfl⟩:∃ n:Nat,Mb=n:=⟨Mb.toNat,by omega⟩
 unfold Weigh.cells at r4
 simp only [Int.toNat_natCast] at r4 ⊢
 have hol:=hF.ol
 obtain ⟨xa,pa,ca,za,y1,y2,y3,y4⟩:=hA.off (i:=na) (by omega)
 obtain ⟨xb,pb,cb,zb,z1,z2,z3,z4⟩:=hA.off (i:=nb) (by omega)
 have wa:=(hE.same _ y1).trans y3
 have wb:=(hE.same _ z1).trans z3
 have fa:=hF.off na (by omega)
 have fb:=hF.off nb (by omega)
 have sb:∀ s,aSub s .i64 (offs.getD na 0) (offs.getD nb 0)=.val (.int .i64 (offs.getD na 0 - offs.getD nb 0)) s:=fun s=>aSub_i64 s _ _ (by omega)
 have ad:∀ s,aAdd s .i64 (i:Int) 1=.val (.int .i64 ((i:Int)+1)) s:=fun s=>aAdd_i64 s _ _ (by omega)
 simp (disch:=first|omega|(with_unfolding_all exact rfl)|(simp only[new_n,put_n,new_m];omega)|(refine put_m_le ?_;simp only[new_m];omega)) only [res25,K25r0,K25r1,K25r2,K25r3,K25r4,K25r5,K25r6,K25l0,K25r7,K25r8,K25r9,K25r10,K25r11,K25r12,K25l1,K25r13,K25,Abs.W,reduceIte,Nat.reduceEqDiff,Nat.reduceAdd,decide_true,decide_false,kLoop_def,Nat.reduceSub,List.cons_append,List.nil_append,List.append_nil,List.length_cons,List.length_nil,efs,Nat.zero_add,Nat.add_zero,q2,q3,q5,g0,g1,k2,l2,k5,e0,r2,r4,w0,y2,y4,z2,z4,wa,wb,sb,holds_ok]
 by_cases hh:Mlo≤offs.getD na 0 - offs.getD nb 0∧offs.getD na 0 - offs.getD nb 0≤Mhi
 ·have d1:decide (Mlo≤offs.getD na 0 - offs.getD nb 0∧offs.getD na 0 - offs.getD nb 0≤Mhi)=true:=decide_eq_true hh
  simp (disch:=first|omega|(with_unfolding_all exact rfl)|(simp only[new_n,put_n,new_m];omega)|(refine put_m_le ?_;simp only[new_m];omega)) only [res25,K25r0,K25r1,K25r2,K25r3,K25r4,K25r5,K25r6,K25l0,K25r7,K25r8,K25r9,K25r10,K25r11,K25r12,K25l1,K25r13,K25,Abs.W,reduceIte,Nat.reduceEqDiff,Nat.reduceAdd,decide_true,decide_false,kLoop_def,Nat.reduceSub,List.cons_append,List.nil_append,List.append_nil,List.length_cons,List.length_nil,efs,d1,q5,ad]
  refine ⟨_,_,_,rfl,(hE.new _).put _ tn,by simp only [put_n,new_n];omega,by rw [get_put_ne' _ _ _ _ (by omega),get_new_ne _ _ _ (by omega)];exact g0,by rw [get_put_ne' _ _ _ _ (by omega),get_new_ne _ _ _ (by omega)];exact g1,.inl ⟨rfl,?_,?_,?_,hh⟩⟩
  ·simp only [efs,q2,reduceIte,Nat.reduceEqDiff]
  ·simp only [efs,q3,reduceIte,Nat.reduceEqDiff]
  ·simp only [efs,reduceIte,Nat.reduceEqDiff];rfl
 ·have d1:decide (Mlo≤offs.getD na 0 - offs.getD nb 0∧offs.getD na 0 - offs.getD nb 0≤Mhi)=false:=decide_eq_false hh
  simp (disch:=first|omega|(with_unfolding_all exact rfl)|(simp only[new_n,put_n,new_m];omega)|(refine put_m_le ?_;simp only[new_m];omega)) only [res25,K25r0,K25r1,K25r2,K25r3,K25r4,K25r5,K25r6,K25l0,K25r7,K25r8,K25r9,K25r10,K25r11,K25r12,K25l1,K25r13,K25,Abs.W,reduceIte,Nat.reduceEqDiff,Nat.reduceAdd,decide_true,decide_false,kLoop_def,Nat.reduceSub,List.cons_append,List.nil_append,List.append_nil,List.length_cons,List.length_nil,efs,d1,q5]
  refine ⟨_,_,_,rfl,(hE.new _).put _ tn,by simp only [put_n,new_n];omega,by rw [get_put_ne' _ _ _ _ (by omega),get_new_ne _ _ _ (by omega)];exact g0,by rw [get_put_ne' _ _ _ _ (by omega),get_new_ne _ _ _ (by omega)];exact g1,.inr ⟨rfl,?_,hh⟩⟩
  simp only [efs,reduceIte,Nat.reduceEqDiff]
theorem hold_round1 (N:Nat) (hN:2≤N) (cx:Ctx) {b:Bench} {offs:List Int} {errs:List (List Int)} {v1 v2 v3 v4 v5 v6:AV} {u t:St} {L:Env} {i k:Nat} (ok:b.Ok) (hF:Loose b offs errs) (hB:BenchAt u.h u.n b v1 v2 v3 v4) (hA:FactAt u.h u.n offs errs v5 v6) (hi:i<b.ts.length) (hs:u.n+k+1000≤far)
  (g0:t.h.get u.n=some (.cells [v1,v2,v3,v4,.int .i64 b.days] (tag 28))) (g1:t.h.get (u.n+1)=some (.cells [v5,v6] (tag 31))) (hE:Beside u t k) (h2:u.n+2≤t.n)
  (q2:L.find 2=.ptr u.n 0) (q3:L.find 3=.ptr (u.n+1) 0) (q7:L.find 7=.int .i64 i) :
  ∃ e L1 t1,K25l1 (call Try.prog X N) cx L [] t=.done e L1 [] t1∧Beside u t1 (k+1)∧u.n+2≤t1.n∧t1.h.get u.n=t.h.get u.n∧t1.h.get (u.n+1)=t.h.get (u.n+1) ∧
   ((e=.norm∧L1.find 2=.ptr u.n 0∧L1.find 3=.ptr (u.n+1) 0∧L1.find 7=.int .i64 (i+1:Nat)∧(tAt b i).shown=sumOf b offs errs (tAt b i))∨(e=.ret∧L1.find 4=.bool false∧¬ ((tAt b i).shown=sumOf b offs errs (tAt b i)))):=by
 have hf:far=1000000000:=rfl
 have c1:=ok.t1
 have c2:=ok.d1
 have tn:=hE.n
 have tl:=hE.le
 have e0:decide ((i:Int)<(b.ts.length:Int))=true:=decide_eq_true (by omega)
 obtain ⟨x0,o0,cs,sz,r1,r2,r3,r4⟩:=hB.t.at_ i (by simpa using hi)
 rw [List.getElem_map,tAt_at hi] at r4
 have w0:=(hE.same _ r1).trans r3
 obtain ⟨s0,s1,m0,m1,d0,d1,z0,z1⟩:=ok.tok _ (List.getElem_mem hi)
 rw [tAt_at hi] at s0 s1 m0 m1 d0 d1 z0 z1
 have l4:=hB.t.len
 rw [List.length_map] at l4
 have k4:∀ t,okA (.val v4 t)=.val v4 t:=fun t=>okA_ne hB.t.ne
 have k1:∀ t,okA (.val v1 t)=.val v1 t:=fun t=>okA_ne hB.m.ne
 have k5:∀ t,okA (.val v5 t)=.val v5 t:=fun t=>okA_ne hA.o.ne
 have k6:=hA.ok
 unfold sumOf
 generalize tAt b i=M at *
 obtain ⟨Ms,Md,Mm,Mx⟩:=M
 simp only at s0 s1 m0 m1 d0 d1 z0 z1
 obtain ⟨ns,rfl⟩:∃ n:Nat,Ms=n:=⟨Ms.toNat,by omega⟩
 obtain ⟨nd,rfl⟩:∃ n:Nat,Md=n:=⟨Md.toNat,by omega⟩
 obtain ⟨nm,rfl⟩:∃ n:Nat,Mm=n:=⟨Mm.toNat,by omega⟩
 unfold Trial.cells at r4
 simp only [Int.toNat_natCast] at r4 ⊢
 have hol:=hF.ol
 have hel:=hF.el
 have hlen:=hF.len ns (by omega)
 obtain ⟨xa,pa,ca,za,y1,y2,y3,y4⟩:=hA.off (i:=nm) (by omega)
 obtain ⟨xe,pe,ce,ze,vr,xf,pf,cf,zf,e1,e2,e3,e4,e5,f1,f2,f3,f4⟩:=hA.err (k:=ns) (d:=nd) (by omega) (by rw [hlen];omega)
 obtain ⟨xm,pm,cm,zm,j1,j2,j3,j4⟩:=hB.m.at_ nm (by rw [List.length_map];omega)
 rw [List.getElem_map] at j4
 have hno:nomAt b nm=(b.ms[nm]'(by omega)).nom:=by unfold nomAt;simp [List.getD,(by omega:nm<b.ms.length)]
 obtain ⟨n0,n1,_,_,_⟩:=ok.mok _ (List.getElem_mem (by omega:nm<b.ms.length))
 rw [← hno] at n0 n1
 unfold Mass.cells at j4
 rw [← hno] at j4
 have j5:nth cm pm=.int .i64 (nomAt b nm):=by
  obtain ⟨a,t,q1,q2,q3⟩:=cut_some j4
  rw [q1,← q2,List.append_assoc,← Nat.add_zero a.length,nth_skip']
  rfl
 have wa:=(hE.same _ y1).trans y3
 have we:=(hE.same _ e1).trans e3
 have wf:=(hE.same _ f1).trans f3
 have wm:=(hE.same _ j1).trans j3
 have fa:=hF.off nm (by omega)
 have sm':=hF.small ns (by omega) nd (by omega)
 have a1:∀ s,aAdd s .i64 (nomAt b nm) (offs.getD nm 0)=.val (.int .i64 (nomAt b nm+offs.getD nm 0)) s:=fun s=>aAdd_i64 s _ _ (by omega)
 have a2:∀ s,aAdd s .i64 (nomAt b nm+offs.getD nm 0) (errIn errs ns nd)=.val (.int .i64 (nomAt b nm+offs.getD nm 0+errIn errs ns nd)) s:=fun s=>aAdd_i64 s _ _ (by omega)
 have ad:∀ s,aAdd s .i64 (i:Int) 1=.val (.int .i64 ((i:Int)+1)) s:=fun s=>aAdd_i64 s _ _ (by omega)
 simp (disch:=first|omega|(with_unfolding_all exact rfl)|(simp only[new_n,put_n,new_m];omega)|(refine put_m_le ?_;simp only[new_m];omega)) only [res25,K25r0,K25r1,K25r2,K25r3,K25r4,K25r5,K25r6,K25l0,K25r7,K25r8,K25r9,K25r10,K25r11,K25r12,K25l1,K25r13,K25,Abs.W,reduceIte,Nat.reduceEqDiff,Nat.reduceAdd,decide_true,decide_false,kLoop_def,Nat.reduceSub,List.cons_append,List.nil_append,List.append_nil,List.length_cons,List.length_nil,efs,Nat.zero_add,Nat.add_zero,q2,q3,q7,g0,g1,k1,k4,l4,k5,k6,e0,r2,r4,w0,y2,y4,e2,e4,e5,f2,f4,j2,j5,wa,we,wf,wm,a1,a2]
 by_cases hh:Mx=nomAt b nm+offs.getD nm 0+errIn errs ns nd
 ·have d1:decide (Mx=nomAt b nm+offs.getD nm 0+errIn errs ns nd)=true:=decide_eq_true hh
  simp (disch:=first|omega|(with_unfolding_all exact rfl)|(simp only[new_n,put_n,new_m];omega)|(refine put_m_le ?_;simp only[new_m];omega)) only [res25,K25r0,K25r1,K25r2,K25r3,K25r4,K25r5,K25r6,K25l0,K25r7,K25r8,K25r9,K25r10,K25r11,K25r12,K25l1,K25r13,K25,Abs.W,reduceIte,Nat.reduceEqDiff,Nat.reduceAdd,decide_true,decide_false,kLoop_def,Nat.reduceSub,List.cons_append,List.nil_append,List.append_nil,List.length_cons,List.length_nil,efs,d1,q7,ad]
  refine ⟨_,_,_,rfl,(hE.new _).put _ tn,by simp only [put_n,new_n];omega,by rw [get_put_ne' _ _ _ _ (by omega),get_new_ne _ _ _ (by omega)];exact g0,by rw [get_put_ne' _ _ _ _ (by omega),get_new_ne _ _ _ (by omega)];exact g1,.inl ⟨rfl,?_,?_,?_,hh⟩⟩
  ·simp only [efs,q2,reduceIte,Nat.reduceEqDiff]
  ·simp only [efs,q3,reduceIte,Nat.reduceEqDiff]
  ·simp only [efs,reduceIte,Nat.reduceEqDiff];rfl
 ·have d1:decide (Mx=nomAt b nm+offs.getD nm 0+errIn errs ns nd)=false:=decide_eq_false hh
  simp (disch:=first|omega|(with_unfolding_all exact rfl)|(simp only[new_n,put_n,new_m];omega)|(refine put_m_le ?_;simp only[new_m];omega)) only [res25,K25r0,K25r1,K25r2,K25r3,K25r4,K25r5,K25r6,K25l0,K25r7,K25r8,K25r9,K25r10,K25r11,K25r12,K25l1,K25r13,K25,Abs.W,reduceIte,Nat.reduceEqDiff,Nat.reduceAdd,decide_true,decide_false,kLoop_def,Nat.reduceSub,List.cons_append,List.nil_append,List.append_nil,List.length_cons,List.length_nil,efs,d1,q7]
  refine ⟨_,_,_,rfl,(hE.new _).put _ tn,by simp only [put_n,new_n];omega,by rw [get_put_ne' _ _ _ _ (by omega),get_new_ne _ _ _ (by omega)];exact g0,by rw [get_put_ne' _ _ _ _ (by omega),get_new_ne _ _ _ (by omega)];exact g1,.inr ⟨rfl,?_,hh⟩⟩
  simp only [efs,reduceIte,Nat.reduceEqDiff]
theorem Holding_exL {N:Nat} {b:Bench} {offs:List Int} {errs:List (List Int)} {v1 v2 v3 v4 v5 v6:AV} {s:St} {r:ARes} (hr:call Try.prog X N (.fn 25) [.agg [v1,v2,v3,v4,.int .i64 b.days],.agg [v5,v6]] s=r) (hN:4≤N) (ok:b.Ok) (hF:Loose b offs errs) (hB:BenchAt s.h s.n b v1 v2 v3 v4) (hA:FactAt s.h s.n offs errs v5 v6) (hs:s.n+3000≤far) :
  ∃ q,r=.val (.bool q) s∧(q=true↔Tells b offs errs):=by
 obtain ⟨n,rfl⟩:∃ n,N=n+1:=⟨N - 1,by omega⟩
 have hf:far=1000000000:=rfl
 have c1:=ok.w1
 have c2:=ok.t1
 obtain ⟨v,e,q,rfl,hq⟩:=call_some (n:=n) (args:=[.agg [v1,v2,v3,v4,.int .i64 b.days],.agg [v5,v6]]) (s:=s) (k:=100) (Q:=fun v=>∃ q,v=.bool q∧(q=true↔Tells b offs errs)) Try.func25 (fun u uh un um=>by
  rw [← uh,← un] at hB hA
  have l2:=hB.w.len
  rw [List.length_map] at l2
  have l4:=hB.t.len
  rw [List.length_map] at l4
  have k2:∀ t,okA (.val v2 t)=.val v2 t:=fun t=>okA_ne hB.w.ne
  have k4:∀ t,okA (.val v4 t)=.val v4 t:=fun t=>okA_ne hB.t.ne
  rw [enter25]
  simp (disch:=first|omega|(with_unfolding_all exact rfl)|(simp only[new_n,put_n,new_m];omega)|(refine put_m_le ?_;simp only[new_m];omega)) only [res25,K25r0,K25r1,K25r2,K25r3,K25r4,K25r5,K25r6,K25r7,K25r8,K25r9,K25r10,K25r11,K25r12,K25r13,K25,Abs.W,reduceIte,Nat.reduceEqDiff,Nat.reduceAdd,decide_true,decide_false,kLoop_def,Nat.reduceSub,List.cons_append,List.nil_append,List.append_nil,List.length_cons,List.length_nil,efs,Nat.zero_add]
  generalize hl:loopN _ rounds _ _ _ _ _=r1
  obtain ⟨w,L0,hw,hL0,hl'⟩:=loop_start hl
  have wn:w.n=u.n+2:=by rw [hw];rfl
  have wE:Beside u w 2:=by rw [hw];exact ((Beside.refl u (by omega) um).new _).new _
  have w0:w.h.get u.n=some (.cells [v1,v2,v3,v4,.int .i64 b.days] (tag 28)):=by rw [hw];simp (disch:=first|omega|(with_unfolding_all exact rfl)|(simp only[new_n,put_n,new_m];omega)|(refine put_m_le ?_;simp only[new_m];omega)) only [get_new_ne];exact get_new_eq _ _ _ rfl (by omega)
  have w1:w.h.get (u.n+1)=some (.cells [v5,v6] (tag 31)):=by rw [hw];exact get_new_eq _ _ _ rfl (by simp only [new_n];omega)
  obtain ⟨e,L1,s1,rfl,hQ⟩:=loop_of hl' (fun i L' t'=>L'.find 2=.ptr u.n 0∧L'.find 3=.ptr (u.n+1) 0∧L'.find 5=.int .i64 i∧Beside u t' (2+i)∧u.n+2≤t'.n∧t'.h.get u.n=some (.cells [v1,v2,v3,v4,.int .i64 b.days] (tag 28))∧t'.h.get (u.n+1)=some (.cells [v5,v6] (tag 31))∧∀ j,j<i→(wAt b j).lo≤diffOf offs (wAt b j)∧diffOf offs (wAt b j)≤(wAt b j).hi)
   (fun e L' t'=>(e=.exit 0∧L'.find 2=.ptr u.n 0∧L'.find 3=.ptr (u.n+1) 0∧Beside u t' (2+b.ws.length)∧u.n+2≤t'.n∧t'.h.get u.n=some (.cells [v1,v2,v3,v4,.int .i64 b.days] (tag 28))∧t'.h.get (u.n+1)=some (.cells [v5,v6] (tag 31))∧∀ j,j<b.ws.length→(wAt b j).lo≤diffOf offs (wAt b j)∧diffOf offs (wAt b j)≤(wAt b j).hi)∨(e=.ret∧L'.find 4=.bool false∧Beside u t' 100∧∃ j,j<b.ws.length∧¬ ((wAt b j).lo≤diffOf offs (wAt b j)∧diffOf offs (wAt b j)≤(wAt b j).hi))) b.ws.length (by unfold rounds;omega)
   ⟨by rw [hL0];simp only [find_cons,efs,reduceIte,Nat.reduceEqDiff],by rw [hL0];simp only [find_cons,efs,reduceIte,Nat.reduceEqDiff];rfl,by rw [hL0];simp only [find_cons,efs,reduceIte,Nat.reduceEqDiff];rfl,wE,by omega,w0,w1,fun j hj=>absurd hj (Nat.not_lt_zero j)⟩
   (fun i L' t' hi ⟨q2,q3,q5,hE,h2,g0,g1,hall⟩=>by
    by_cases hlt:i<b.ws.length
    ·obtain ⟨e,L2,t2,p1,p2,p3,p4,p5,p6⟩:=hold_round0 n (by omega) ⟨25,none,Try.f25.ntmps,X 25⟩ ok hF hB hA hlt (by omega) g0 g1 hE h2 q2 q3 q5
     rcases p6 with ⟨rfl,z2,z3,z5,z⟩ | ⟨rfl,z4,z⟩
     ·refine .inl ⟨hlt,L2,t2,p1,z2,z3,z5,p2,p3,p4.trans g0,p5.trans g1,fun j hj=>?_⟩
      by_cases h:j<i
      ·exact hall j h
      ·obtain rfl:j=i:=by omega
       exact z
     ·exact .inr ⟨.ret,L2,t2,by simp,p1,.inr ⟨rfl,z4,p2.mono (by omega),i,hlt,z⟩⟩
    ·obtain rfl:i=b.ws.length:=by omega
     have e1:decide ((b.ws.length:Int)<(b.ws.length:Int))=false:=by simp
     refine .inr ⟨.exit 0,L'.set 13 (.bool false),t',by simp,?_,.inl ⟨rfl,?_,?_,hE,h2,g0,g1,hall⟩⟩
     ·simp (disch:=first|omega|(with_unfolding_all exact rfl)|(simp only[new_n,put_n,new_m];omega)|(refine put_m_le ?_;simp only[new_m];omega)) only [res25,K25r0,K25r1,K25r2,K25r3,K25r4,K25r5,K25r6,K25r7,K25r8,K25r9,K25r10,K25r11,K25r12,K25r13,K25,K25l0,Abs.W,reduceIte,Nat.reduceEqDiff,Nat.reduceAdd,decide_true,decide_false,kLoop_def,Nat.reduceSub,List.cons_append,List.nil_append,List.append_nil,List.length_cons,List.length_nil,efs,q2,q5,g0,k2,l2,e1,Nat.zero_add]
     ·simp only [efs,q2,reduceIte,Nat.reduceEqDiff]
     ·simp only [efs,q3,reduceIte,Nat.reduceEqDiff])
  rcases hQ with ⟨rfl,q2,q3,hE,h2,g0,g1,hall⟩ | ⟨rfl,q4,hE,j,hj,hno⟩
  ·simp (disch:=first|omega|(with_unfolding_all exact rfl)|(simp only[new_n,put_n,new_m];omega)|(refine put_m_le ?_;simp only[new_m];omega)) only [res25,K25r0,K25r1,K25r2,K25r3,K25r4,K25r5,K25r6,K25r7,K25r8,K25r9,K25r10,K25r11,K25r12,K25r13,K25,Abs.W,reduceIte,Nat.reduceEqDiff,Nat.reduceAdd,decide_true,decide_false,kLoop_def,Nat.reduceSub,List.cons_append,List.nil_append,List.append_nil,List.length_cons,List.length_nil,efs]
   generalize hl2:loopN _ rounds _ _ _ _ _=r2
   obtain ⟨e,L2,s2,rfl,hQ⟩:=loop_of hl2 (fun i L' t'=>L'.find 2=.ptr u.n 0∧L'.find 3=.ptr (u.n+1) 0∧L'.find 7=.int .i64 i∧Beside u t' (2+b.ws.length+i)∧u.n+2≤t'.n∧t'.h.get u.n=some (.cells [v1,v2,v3,v4,.int .i64 b.days] (tag 28))∧t'.h.get (u.n+1)=some (.cells [v5,v6] (tag 31))∧∀ j,j<i→(tAt b j).shown=sumOf b offs errs (tAt b j))
    (fun e L' t'=>(e=.exit 2∧Beside u t' 100∧∀ j,j<b.ts.length→(tAt b j).shown=sumOf b offs errs (tAt b j))∨(e=.ret∧L'.find 4=.bool false∧Beside u t' 100∧∃ j,j<b.ts.length∧¬ ((tAt b j).shown=sumOf b offs errs (tAt b j)))) b.ts.length (by unfold rounds;omega)
    ⟨by simp only [efs,q2,reduceIte,Nat.reduceEqDiff],by simp only [efs,q3,reduceIte,Nat.reduceEqDiff],by simp only [efs,reduceIte,Nat.reduceEqDiff];rfl,hE,h2,g0,g1,fun j hj=>absurd hj (Nat.not_lt_zero j)⟩
    (fun i L' t' hi ⟨q2,q3,q7,hE,h2,g0,g1,hall⟩=>by
     by_cases hlt:i<b.ts.length
     ·obtain ⟨e,L2,t2,p1,p2,p3,p4,p5,p6⟩:=hold_round1 n (by omega) ⟨25,none,Try.f25.ntmps,X 25⟩ ok hF hB hA hlt (by omega) g0 g1 hE h2 q2 q3 q7
      rcases p6 with ⟨rfl,z2,z3,z5,z⟩ | ⟨rfl,z4,z⟩
      ·refine .inl ⟨hlt,L2,t2,p1,z2,z3,z5,p2,p3,p4.trans g0,p5.trans g1,fun j hj=>?_⟩
       by_cases h:j<i
       ·exact hall j h
       ·obtain rfl:j=i:=by omega
        exact z
      ·exact .inr ⟨.ret,L2,t2,by simp,p1,.inr ⟨rfl,z4,p2.mono (by omega),i,hlt,z⟩⟩
     ·obtain rfl:i=b.ts.length:=by omega
      have e1:decide ((b.ts.length:Int)<(b.ts.length:Int))=false:=by simp
      refine .inr ⟨.exit 2,L'.set 42 (.bool false),t',by simp,?_,.inl ⟨rfl,hE.mono (by omega),hall⟩⟩
      simp (disch:=first|omega|(with_unfolding_all exact rfl)|(simp only[new_n,put_n,new_m];omega)|(refine put_m_le ?_;simp only[new_m];omega)) only [res25,K25r0,K25r1,K25r2,K25r3,K25r4,K25r5,K25r6,K25r7,K25r8,K25r9,K25r10,K25r11,K25r12,K25r13,K25,K25l1,Abs.W,reduceIte,Nat.reduceEqDiff,Nat.reduceAdd,decide_true,decide_false,kLoop_def,Nat.reduceSub,List.cons_append,List.nil_append,List.append_nil,List.length_cons,List.length_nil,efs,q2,q7,g0,k4,l4,e1,Nat.zero_add])
   rcases hQ with ⟨rfl,hE,hall2⟩ | ⟨rfl,q4,hE,j,hj,hno⟩
   ·simp (disch:=first|omega|(with_unfolding_all exact rfl)|(simp only[new_n,put_n,new_m];omega)|(refine put_m_le ?_;simp only[new_m];omega)) only [res25,K25r0,K25r1,K25r2,K25r3,K25r4,K25r5,K25r6,K25r7,K25r8,K25r9,K25r10,K25r11,K25r12,K25r13,K25,Abs.W,reduceIte,Nat.reduceEqDiff,Nat.reduceAdd,decide_true,decide_false,kLoop_def,Nat.reduceSub,List.cons_append,List.nil_append,List.append_nil,List.length_cons,List.length_nil,efs]
    exact ⟨_,_,rfl,hE,rfl,true,rfl,⟨fun _=>⟨list_all (d:=⟨0,0,0,0⟩) hall,list_all (d:=⟨0,0,0,0⟩) hall2⟩,fun _=>rfl⟩⟩
   ·simp (disch:=first|omega|(with_unfolding_all exact rfl)|(simp only[new_n,put_n,new_m];omega)|(refine put_m_le ?_;simp only[new_m];omega)) only [res25,K25r0,K25r1,K25r2,K25r3,K25r4,K25r5,K25r6,K25r7,K25r8,K25r9,K25r10,K25r11,K25r12,K25r13,K25,Abs.W,reduceIte,Nat.reduceEqDiff,Nat.reduceAdd,decide_true,decide_false,kLoop_def,Nat.reduceSub,List.cons_append,List.nil_append,List.append_nil,List.length_cons,List.length_nil,efs,q4]
    exact ⟨_,_,rfl,hE,rfl,false,rfl,⟨fun h=>(by cases h),fun h=>absurd (h.t _ (by rw [← tAt_at hj];exact List.getElem_mem hj)) hno⟩⟩
  ·simp (disch:=first|omega|(with_unfolding_all exact rfl)|(simp only[new_n,put_n,new_m];omega)|(refine put_m_le ?_;simp only[new_m];omega)) only [res25,K25r0,K25r1,K25r2,K25r3,K25r4,K25r5,K25r6,K25r7,K25r8,K25r9,K25r10,K25r11,K25r12,K25r13,K25,Abs.W,reduceIte,Nat.reduceEqDiff,Nat.reduceAdd,decide_true,decide_false,kLoop_def,Nat.reduceSub,List.cons_append,List.nil_append,List.append_nil,List.length_cons,List.length_nil,efs,q4]
   exact ⟨_,_,rfl,hE,rfl,false,rfl,⟨fun h=>(by cases h),fun h=>absurd (h.w _ (by rw [← wAt_at hj];exact List.getElem_mem hj)) hno⟩⟩)
 exact ⟨q,hr.symm.trans e,hq⟩
theorem Holding_ex {N:Nat} {b:Bench} {offs:List Int} {errs:List (List Int)} {v1 v2 v3 v4 v5 v6:AV} {s:St} {r:ARes} (hr:call Try.prog X N (.fn 25) [.agg [v1,v2,v3,v4,.int .i64 b.days],.agg [v5,v6]] s=r) (hN:4≤N) (ok:b.Ok) (hF:FactOf b offs errs) (hB:BenchAt s.h s.n b v1 v2 v3 v4) (hA:FactAt s.h s.n offs errs v5 v6) (hs:s.n+3000≤far) :
  ∃ q,r=.val (.bool q) s∧(q=true↔Tells b offs errs):=Holding_exL hr hN ok (hF.loose ok) hB hA hs
end Go.Proofs.Ytoolodjbfphkjaa.walk
set_option maxRecDepth 10000
namespace Go.Proofs.Ytoolodjbfphkjaa.walk
open Go.Abs Go.Proofs.Ytoolodjbfphkjaa.code
theorem made_weigh (N:Nat) (hN:6≤N) (cx:Ctx) {d p13 p14 lo i:Nat} {b:Bench} {offs:List Int} {errs:List (List Int)} {rv:List AV} {xs:List Nat} {bs:Nat→Nat} {vs:Nat→AV} {L:Env} {s:St} (hi:0<i) (hi6:i≤10) (hs:s.n+3000≤far) (hF:FactOf b offs errs)
  (hM:Made s.h s.n d p13 p14 lo b offs errs rv xs bs vs) (hbl:b.ws.length≤10) (hm2:2≤b.ms.length) (hm5:b.ms.length≤5) (l0:L.find 0=.ptr d 0) (l13:L.find 13=.ptr p13 0) (l14:L.find 14=.ptr p14 0) (l21:L.find 21=.int .i64 i) :
  ∃ L1 s1 W bs1 vs1,K5l3 (call Try.prog X N) cx L [] s=.done .norm L1 [] s1∧(∀ t,t=0∨t=3∨t=10∨t=11∨t=12∨t=13∨t=14→L1.find t=L.find t)∧L1.find 21=.int .i64 ((i:Int) - 1)∧W.Ok b.ms.length ∧
   Made s1.h s1.n d p13 p14 lo { b with ws:=b.ws++[W] } offs errs rv xs bs1 vs1∧Goes s s1 d p13 p14 lo 30:=by
 have hf:far=1000000000:=rfl
 have e0:decide ((0:Int)<(i:Int))=true:=by simp;omega
 obtain ⟨pd,pp,plo,pn⟩:=hM.pl
 have hd:=hM.die
 have z13:=hM.g13
 have z14:=hM.g14
 have lz:=hM.ls
 have ok0:=(lz.at_ 0).okA
 have ok1:=(lz.at_ 1).okA
 have ok4:=(lz.at_ 4).okA
 have hlm:=hM.bench.m.len
 rw [List.length_map] at hlm
 have e1:decide ((1:Int)<(b.ms.length:Int))=true:=decide_eq_true (by omega)
 simp (disch:=first|omega|(with_unfolding_all exact rfl)|(simp only[new_n,put_n,new_m];omega)|(refine put_m_le ?_;simp only[new_m];omega)) only [res5,K5r0,K5r1,K5r2,K5r3,K5r4,K5r5,K5r6,K5r7,K5r8,K5r9,K5r10,K5r11,K5r12,K5r13,K5r14,K5r15,K5r16,K5r17,K5r18,K5r19,K5r20,K5r21s7,K5r21s6,K5r21s5,K5r21s4,K5r21,K5r22,K5r23,K5r24,K5r25,K5r26,K5r27,K5r28,K5r29,K5r30,K5r31,K5r32,K5r33,K5r34s7,K5r34s6,K5r34,K5r35,K5r36,K5r37,K5r38,K5,K5l3,Abs.W,reduceIte,Nat.reduceEqDiff,Nat.reduceAdd,decide_true,decide_false,kLoop_def,Nat.reduceSub,List.cons_append,List.nil_append,List.append_nil,List.length_cons,List.length_nil,efs,Nat.zero_add,l0,l13,l14,l21,e0,e1,z13,ok0,hlm]
 generalize hc1:call _ _ _ (.fn 18) _ _=r1
 obtain ⟨a,t1,rfl,st1,d1,a0,a1⟩:=cast_ex hc1 (by omega) hd (by omega) (by omega) (by omega)
 have n1:s.n≤t1.n:=st1.n
 have k1:t1.n≤s.n:=st1.le
 obtain ⟨na,rfl⟩:∃ n:Nat,a=n:=⟨a.toNat,by omega⟩
 have hna:na<b.ms.length:=by omega
 have g1:∀ c,c<s.n→c≠d→t1.h.get c=s.h.get c:=fun c hc hcd=>st1.same c hc hcd
 have x13:=(g1 p13 (by omega) (by omega)).trans z13
 have asub:∀ s,aSub s .i64 (b.ms.length:Int) 1=.val (.int .i64 ((b.ms.length:Int) - 1)) s:=fun s=>aSub_i64 s _ _ (by omega)
 simp (disch:=first|omega|(with_unfolding_all exact rfl)|(simp only[new_n,put_n,new_m];omega)|(refine put_m_le ?_;simp only[new_m];omega)) only [Abs.W,reduceIte,Nat.reduceEqDiff,Nat.reduceAdd,decide_true,decide_false,kLoop_def,Nat.reduceSub,List.cons_append,List.nil_append,List.append_nil,List.length_cons,List.length_nil,efs,Nat.zero_add,l0,l13,l14,x13,ok0,hlm,asub]
 generalize hc2:call _ _ _ (.fn 19) _ _=r2
 obtain ⟨f,t2,rfl,st2,d2,f0,f1⟩:=from_ex hc2 (by omega) d1 (by show d<t1.n;omega) (by show t1.n+200≤far;omega) (by omega) (by omega) (by omega) (by omega)
 have n2:t1.n≤t2.n:=st2.n
 have k2:t2.n≤t1.n:=st2.le
 obtain ⟨nf,rfl⟩:∃ n:Nat,f=n:=⟨f.toNat,by omega⟩
 have g2:∀ c,c<s.n→c≠d→t2.h.get c=s.h.get c:=fun c hc hcd=>(st2.same c (by show c<t1.n;omega) hcd).trans (g1 c hc hcd)
 have y13:=(g2 p13 (by omega) (by omega)).trans z13
 have y14:=(g2 p14 (by omega) (by omega)).trans z14
 have aadd:∀ s,aAdd s .i64 (na:Int) (nf:Int)=.val (.int .i64 ((na+nf:Nat):Int)) s:=fun s=>aAdd_i64 s _ _ (by omega)
 simp (disch:=first|omega|(with_unfolding_all exact rfl)|(simp only[new_n,put_n,new_m];omega)|(refine put_m_le ?_;simp only[new_m];omega)) only [Abs.W,reduceIte,Nat.reduceEqDiff,Nat.reduceAdd,decide_true,decide_false,kLoop_def,Nat.reduceSub,List.cons_append,List.nil_append,List.append_nil,List.length_cons,List.length_nil,thenT_turn,efs,Nat.zero_add,l0,l13,l14,y13,ok0,hlm,aadd,bring_ok]
 rw [endT_kept (l:=[155,156]) (s':=t2) (by
  simp only [keptAll_cons,keptAll_nil,find_cons,efs,keptV_ptr,x13,y13,sameO_cells,reduceIte,Nat.reduceEqDiff,Bool.and_true,Bool.true_and]
  exact (lz.at_ 0).keptV (fun h=>(g2 _ h (by have:=lz.lo 0;omega)).trans (g1 _ h (by have:=lz.lo 0;omega)).symm) (fun h=>g1 _ h (by have:=lz.lo 0;omega)))]
 obtain ⟨y2,hy2⟩:∃ y2:St,y2=⟨t2.h,t2.n,minN t1.m t2.m⟩:=⟨_,rfl⟩
 have y2n:y2.n=t2.n:=by rw [hy2]
 have y2h:y2.h=t2.h:=by rw [hy2]
 have y2m:y2.m=min t1.m t2.m:=by rw [hy2];exact minN_eq _ _
 simp (disch:=first|omega|(with_unfolding_all exact rfl)|(simp only[new_n,put_n,new_m];omega)|(refine put_m_le ?_;simp only[new_m];omega)) only [res5,K5r0,K5r1,K5r2,K5r3,K5r4,K5r5,K5r6,K5r7,K5r8,K5r9,K5r10,K5r11,K5r12,K5r13,K5r14,K5r15,K5r16,K5r17,K5r18,K5r19,K5r20,K5r21s7,K5r21s6,K5r21s5,K5r21s4,K5r21,K5r22,K5r23,K5r24,K5r25,K5r26,K5r27,K5r28,K5r29,K5r30,K5r31,K5r32,K5r33,K5r34s7,K5r34s6,K5r34,K5r35,K5r36,K5r37,K5r38,K5,Abs.W,reduceIte,Nat.reduceEqDiff,Nat.reduceAdd,decide_true,decide_false,kLoop_def,Nat.reduceSub,List.cons_append,List.nil_append,List.append_nil,List.length_cons,List.length_nil,efs,Nat.zero_add]
 rw [← hy2]
 have hMy:Made y2.h y2.n d p13 p14 lo b offs errs rv xs bs vs:=by rw [y2h];exact hM.keep d2 g2 (by omega)
 obtain ⟨no,hno⟩:∃ no,no=(na+nf) % b.ms.length:=⟨_,rfl⟩
 rw [← hno]
 have hnol:no<b.ms.length:=by rw [hno];exact Nat.mod_lt _ (by omega)
 have hne:na≠no:=by
  intro h
  by_cases hw:na+nf<b.ms.length
  ·rw [Nat.mod_eq_of_lt hw] at hno;omega
  ·have:(na+nf) % b.ms.length=na+nf - b.ms.length:=by rw [Nat.mod_eq_sub_mod (by omega),Nat.mod_eq_of_lt (by omega)]
   omega
 have hA:=hMy.fact
 have hol:=hF.ol
 obtain ⟨xa,pa,ca,za,u1,u2,u3,u4⟩:=hA.off (i:=na) (by omega)
 obtain ⟨xb,pb,cb,zb,w1,w2,w3,w4⟩:=hA.off (i:=no) (by omega)
 have oa:=hF.off na hna
 have ob:=hF.off no hnol
 have v13:=hMy.g13
 have v14:=hMy.g14
 have sb:∀ s,aSub s .i64 (offs.getD na 0) (offs.getD no 0)=.val (.int .i64 (offs.getD na 0 - offs.getD no 0)) s:=fun s=>aSub_i64 s _ _ (by omega)
 simp (disch:=first|omega|(with_unfolding_all exact rfl)|(simp only[new_n,put_n,new_m];omega)|(refine put_m_le ?_;simp only[new_m];omega)) only [res5,K5r0,K5r1,K5r2,K5r3,K5r4,K5r5,K5r6,K5r7,K5r8,K5r9,K5r10,K5r11,K5r12,K5r13,K5r14,K5r15,K5r16,K5r17,K5r18,K5r19,K5r20,K5r21s7,K5r21s6,K5r21s5,K5r21s4,K5r21,K5r22,K5r23,K5r24,K5r25,K5r26,K5r27,K5r28,K5r29,K5r30,K5r31,K5r32,K5r33,K5r34s7,K5r34s6,K5r34,K5r35,K5r36,K5r37,K5r38,K5,Abs.W,reduceIte,Nat.reduceEqDiff,Nat.reduceAdd,decide_true,decide_false,kLoop_def,Nat.reduceSub,List.cons_append,List.nil_append,List.append_nil,List.length_cons,List.length_nil,efs,Nat.zero_add,l0,l13,l14,v13,v14,ok1,ok4,u2,u3,u4,w2,w3,w4,sb]
 generalize hc3:call _ _ _ (.fn 18) _ _=r3
 obtain ⟨c,t3,rfl,st3,d3,c0,c1⟩:=cast_ex hc3 (by omega) hMy.die (by show d<y2.n;omega) (by show y2.n+100≤far;omega) (by omega)
 have n3:y2.n≤t3.n:=st3.n
 have k3:t3.n≤y2.n:=st3.le
 have g3:∀ c,c<y2.n→c≠d→t3.h.get c=y2.h.get c:=fun c hc hcd=>st3.same c (by show c<y2.n;omega) hcd
 have s3:∀ s,aSub s .i64 (offs.getD na 0 - offs.getD no 0) c=.val (.int .i64 (offs.getD na 0 - offs.getD no 0 - c)) s:=fun s=>aSub_i64 s _ _ (by omega)
 simp (disch:=first|omega|(with_unfolding_all exact rfl)|(simp only[new_n,put_n,new_m];omega)|(refine put_m_le ?_;simp only[new_m];omega)) only [Abs.W,reduceIte,Nat.reduceEqDiff,Nat.reduceAdd,decide_true,decide_false,kLoop_def,Nat.reduceSub,List.cons_append,List.nil_append,List.append_nil,List.length_cons,List.length_nil,thenT_turn,efs,Nat.zero_add,l0,l13,l14,s3]
 generalize hc4:call _ _ _ (.fn 18) _ _=r4
 obtain ⟨e,t4,rfl,st4,d4,e0',e1'⟩:=cast_ex hc4 (by omega) d3 (by show d<t3.n;omega) (by show t3.n+100≤far;omega) (by omega)
 have n4:t3.n≤t4.n:=st4.n
 have k4:t4.n≤t3.n:=st4.le
 have g4:∀ c,c<y2.n→c≠d→t4.h.get c=y2.h.get c:=fun c hc hcd=>(st4.same c (by show c<t3.n;omega) hcd).trans (g3 c hc hcd)
 have s4:∀ s,aAdd s .i64 (offs.getD na 0 - offs.getD no 0) e=.val (.int .i64 (offs.getD na 0 - offs.getD no 0+e)) s:=fun s=>aAdd_i64 s _ _ (by omega)
 obtain ⟨W,hW⟩:∃ W:Weigh,W=⟨na,no,offs.getD na 0 - offs.getD no 0 - c,offs.getD na 0 - offs.getD no 0+e⟩:=⟨_,rfl⟩
 have hWc:W.cells=[.int .i64 (na:Int),.int .i64 (no:Int),.int .i64 (offs.getD na 0 - offs.getD no 0 - c),.int .i64 (offs.getD na 0 - offs.getD no 0+e)]:=by rw [hW];rfl
 simp (disch:=first|omega|(with_unfolding_all exact rfl)|(simp only[new_n,put_n,new_m];omega)|(refine put_m_le ?_;simp only[new_m];omega)) only [Abs.W,reduceIte,Nat.reduceEqDiff,Nat.reduceAdd,decide_true,decide_false,kLoop_def,Nat.reduceSub,List.cons_append,List.nil_append,List.append_nil,List.length_cons,List.length_nil,thenT_turn,efs,Nat.zero_add,l0,l13,l14,s4]
 obtain ⟨y6,hy6⟩:∃ y6:St,y6=(⟨t4.h,t4.n,minN (minN y2.m t3.m) t4.m⟩:St).new (.cells [.int .i64 (na:Int),.int .i64 (no:Int),.int .i64 (offs.getD na 0 - offs.getD no 0 - c),.int .i64 (offs.getD na 0 - offs.getD no 0+e)] 0):=⟨_,rfl⟩
 rw [← hy6]
 have y6n:y6.n=t4.n+1:=by rw [hy6];rfl
 have y6m:y6.m=min (min y2.m t3.m) t4.m:=by rw [hy6];simp only [St.new,minN_eq]
 have y6g:∀ c,c<t4.n→y6.h.get c=t4.h.get c:=fun c hc=>by rw [hy6];exact get_new_ne _ _ _ (by show c≠t4.n;omega)
 have y6p:y6.h.get t4.n=some (.cells [.int .i64 (na:Int),.int .i64 (no:Int),.int .i64 (offs.getD na 0 - offs.getD no 0 - c),.int .i64 (offs.getD na 0 - offs.getD no 0+e)] 0):=by rw [hy6];exact get_new_eq _ _ _ rfl (by show t4.n<_;omega)
 have bsl:∀ j,lo≤bs j:=hM.ls.lo
 have l6:Lists y6.h y6.n lo benchW benchT (benchR b offs rv) bs vs:=hMy.ls.mono (fun j hj=>(y6g _ (by omega)).trans (g4 _ hj (by have:=bsl j;omega))) (by omega)
 obtain ⟨s7,v7,e7,l7,s7n,s7g,s7m,s7l⟩:=l6.push 1 (bytes:=32) y6p rfl rfl (by show ((b.ws.map Weigh.cells).length+1) * 32≤1000000;rw [List.length_map];omega) (by kernel_rfl) (by omega) (by omega)
 have e7':appendA false 4 32 (tag 70) y6 (vs 1) (.slice t4.n 0 1 1 false)=.val v7 s7:=e7
 have nb1:∀ c,c<lo→c≠bs 1:=fun c hc=>by have:=bsl 1;omega
 have g7:∀ c,c<y2.n→c≠d→c≠bs 1→s7.h.get c=y2.h.get c:=fun c h1 h2 h3=>(s7g c (by omega) h3).trans ((y6g c (by omega)).trans (g4 c h1 h2))
 have q13:=(g7 p13 (by omega) (by omega) (nb1 _ (by omega))).trans v13
 have q14:=(g7 p14 (by omega) (by omega) (nb1 _ (by omega))).trans v14
 have sc7:=(l7.at_ 1).scal
 rw [upd_at] at sc7
 obtain ⟨sc71,sc72⟩:=sc7
 have asb:∀ s,aSub s .i64 (i:Int) 1=.val (.int .i64 ((i:Int) - 1)) s:=fun s=>aSub_i64 s _ _ (by omega)
 simp (disch:=first|omega|(with_unfolding_all exact rfl)|(simp only[new_n,put_n,new_m];omega)|(refine put_m_le ?_;simp only[new_m];omega)) only [Abs.W,reduceIte,Nat.reduceEqDiff,Nat.reduceAdd,decide_true,decide_false,kLoop_def,Nat.reduceSub,List.cons_append,List.nil_append,List.append_nil,List.length_cons,List.length_nil,efs,e7',l13,q13,sc71,sc72,Nat.zero_add]
 have m3:t3.h.get p13=some (.cells [vs 0,vs 1,vs 2,vs 3,.int .i64 b.days] (tag 28)):=(g3 p13 (by omega) (by omega)).trans v13
 have m4:t4.h.get p13=some (.cells [vs 0,vs 1,vs 2,vs 3,.int .i64 b.days] (tag 28)):=(g4 p13 (by omega) (by omega)).trans v13
 rw [endT_kept (l:=[170]) (s':=t4) (by simp only [keptAll_cons,keptAll_nil,find_cons,efs,keptV_ptr,m3,m4,sameO_cells,reduceIte,Nat.reduceEqDiff,Bool.and_self])]
 rw [endT_kept (l:=[170]) (s':=t3) (by simp only [keptAll_cons,keptAll_nil,find_cons,efs,keptV_ptr,m3,v13,sameO_cells,reduceIte,Nat.reduceEqDiff,Bool.and_self])]
 simp (disch:=first|omega|(with_unfolding_all exact rfl)|(simp only[new_n,put_n,new_m];omega)|(refine put_m_le ?_;simp only[new_m];omega)) only [res5,K5r0,K5r1,K5r2,K5r3,K5r4,K5r5,K5r6,K5r7,K5r8,K5r9,K5r10,K5r11,K5r12,K5r13,K5r14,K5r15,K5r16,K5r17,K5r18,K5r19,K5r20,K5r21s7,K5r21s6,K5r21s5,K5r21s4,K5r21,K5r22,K5r23,K5r24,K5r25,K5r26,K5r27,K5r28,K5r29,K5r30,K5r31,K5r32,K5r33,K5r34s7,K5r34s6,K5r34,K5r35,K5r36,K5r37,K5r38,K5,Abs.W,reduceIte,Nat.reduceEqDiff,Nat.reduceAdd,decide_true,decide_false,kLoop_def,Nat.reduceSub,List.cons_append,List.nil_append,List.append_nil,List.length_cons,List.length_nil,efs,l21,asb]
 generalize hsf:St.put s7 _ _=sf
 have sfn:sf.n=s7.n:=by rw [← hsf];rfl
 have sfm:sf.m=min s7.m p13:=by rw [← hsf];simp only [St.put,minN_eq]
 have sfg:∀ c,c≠p13→sf.h.get c=s7.h.get c:=fun c h1=>by rw [← hsf,get_put_ne' _ _ _ _ h1]
 have sf13:sf.h.get p13=some (.cells [vs 0,v7,vs 2,vs 3,.int .i64 b.days] (tag 28)):=by rw [← hsf];exact get_put_eq _ _ _ _ rfl (by omega)
 have dsf:Die d sf.h:=d4.keep ((sfg d (by omega)).trans ((s7g d (by omega) (nb1 _ (by omega))).trans (y6g d (by omega))))
 have hfun:upd (benchR b offs rv) 1 (benchR b offs rv 1++[[.int .i64 (na:Int),.int .i64 (no:Int),.int .i64 (offs.getD na 0 - offs.getD no 0 - c),.int .i64 (offs.getD na 0 - offs.getD no 0+e)]])=benchR { b with ws:=b.ws++[W] } offs rv:=by
  funext j
  match j with
  | 0=>rfl
  | 1 =>
   show b.ws.map Weigh.cells++[_]=(b.ws++[W]).map Weigh.cells
   rw [List.map_append,List.map_cons,List.map_nil,hWc]
  | 2=>rfl
  | 3=>rfl
  | 4=>rfl
  | 5=>rfl
  | n+6=>rfl
 rw [hfun] at l7
 refine ⟨_,sf,W,_,_,rfl,fun t ht=>?_,?_,?_,⟨dsf,?_,?_,l7.mono (fun j hj=>sfg _ (by have:=l7.lo j;omega)) (by omega),hM.el,hM.xl,fun j h1 h2 h3=>?_,fun c hc=>⟨(hM.xo c hc).1,fun j=>?_⟩,⟨pd,pp,plo,by omega⟩⟩,⟨fun c h1 h2 h3 h4=>?_,by omega,by omega,fun h=>?_,?_⟩⟩
 ·rcases ht with rfl | rfl | rfl | rfl | rfl | rfl | rfl<;>simp only [efs,reduceIte,Nat.reduceEqDiff]
 ·simp only [efs,reduceIte,Nat.reduceEqDiff]
 ·rw [hW];exact ⟨by simp only;omega,by simp only;omega,by simp only;omega,by simp only;omega,by simp only;omega,by simp only;omega,by simp only;omega,by simp only;omega⟩
 ·rw [upd_ne _ _ _ (by omega),upd_at,upd_ne _ _ _ (by omega),upd_ne _ _ _ (by omega)];exact sf13
 ·rw [upd_ne _ _ _ (by omega),upd_ne _ _ _ (by omega),sfg _ (by omega)];exact q14
 ·have w1:=hMy.er j h1 h2 h3
  have w3:=hM.xo _ (List.getElem_mem h3)
  exact w1.mono ((sfg _ (by omega)).trans (g7 _ w1.lt (by omega) (fun e=>w3.2 1 e.symm))) (by omega)
 ·obtain ⟨k,hk,rfl⟩:=List.getElem_of_mem hc
  have:=(hMy.er k (by have:=hM.el;have:=hM.xl;omega) (by have:=hM.xl;omega) hk).lt
  unfold upd
  split
  ·omega
  ·exact (hM.xo _ hc).2 j
 ·rw [sfg c h3,g7 c (by omega) h2 (nb1 c h1),y2h,g2 c (by omega) h2]
 ·have a1:=st1.m h
  have a2:=st2.m (by show d≤far;omega)
  have a3:=st3.m (by show d≤far;omega)
  have a4:=st4.m (by show d≤far;omega)
  have a7:=s7m d (by omega) (by omega)
  omega
 ·have a1:=st1.mle
  omega
theorem made_trial (N:Nat) (hN:6≤N) (cx:Ctx) {d p13 p14 lo i:Nat} {b:Bench} {offs:List Int} {errs:List (List Int)} {rv:List AV} {xs:List Nat} {bs:Nat→Nat} {vs:Nat→AV} {L:Env} {s:St} (hi:0<i) (hi6:i≤10) (hs:s.n+3000≤far) (hF:FactOf b offs errs) (hmok:∀ m ∈ b.ms,m.Ok)
  (hM:Made s.h s.n d p13 p14 lo b offs errs rv xs bs vs) (hbl:b.ts.length≤10) (hm0:1≤b.ms.length) (hm5:b.ms.length≤5) (hs0:1≤b.ss.length) (hs3:b.ss.length≤3) (hdy:b.days≤8) (l0:L.find 0=.ptr d 0) (l13:L.find 13=.ptr p13 0) (l14:L.find 14=.ptr p14 0) (l25:L.find 25=.int .i64 i) :
  ∃ L1 s1 T bs1 vs1,K5l4 (call Try.prog X N) cx L [] s=.done .norm L1 [] s1∧(∀ t,t=0∨t=3∨t=10∨t=11∨t=12∨t=13∨t=14→L1.find t=L.find t)∧L1.find 25=.int .i64 ((i:Int) - 1)∧(T.Ok b.ss.length b.ms.length b.days∧T.shown≤1500000) ∧
   Made s1.h s1.n d p13 p14 lo { b with ts:=b.ts++[T] } offs errs rv xs bs1 vs1∧Goes s s1 d p13 p14 lo 30:=by
 have hf:far=1000000000:=rfl
 have e0:decide ((0:Int)<(i:Int))=true:=by simp;omega
 obtain ⟨pd,pp,plo,pn⟩:=hM.pl
 have hd:=hM.die
 have z13:=hM.g13
 have z14:=hM.g14
 have lz:=hM.ls
 have ok0:=(lz.at_ 0).okA
 have ok2:=(lz.at_ 2).okA
 have ok3:=(lz.at_ 3).okA
 have ok4:=(lz.at_ 4).okA
 have ok5:=(lz.at_ 5).okA
 have hlm:=hM.bench.m.len
 rw [List.length_map] at hlm
 have hls:=hM.bench.s.len
 rw [List.length_map] at hls
 simp (disch:=first|omega|(with_unfolding_all exact rfl)|(simp only[new_n,put_n,new_m];omega)|(refine put_m_le ?_;simp only[new_m];omega)) only [res5,K5r0,K5r1,K5r2,K5r3,K5r4,K5r5,K5r6,K5r7,K5r8,K5r9,K5r10,K5r11,K5r12,K5r13,K5r14,K5r15,K5r16,K5r17,K5r18,K5r19,K5r20,K5r21s7,K5r21s6,K5r21s5,K5r21s4,K5r21,K5r22,K5r23,K5r24,K5r25,K5r26,K5r27,K5r28,K5r29,K5r30,K5r31,K5r32,K5r33,K5r34s7,K5r34s6,K5r34,K5r35,K5r36,K5r37,K5r38,K5,K5l4,Abs.W,reduceIte,Nat.reduceEqDiff,Nat.reduceAdd,decide_true,decide_false,kLoop_def,Nat.reduceSub,List.cons_append,List.nil_append,List.append_nil,List.length_cons,List.length_nil,efs,Nat.zero_add,l0,l13,l14,l25,e0,z13,ok2,hls]
 generalize hc1:call _ _ _ (.fn 18) _ _=r1
 obtain ⟨a,t1,rfl,st1,d1,a0,a1⟩:=cast_ex hc1 (by omega) hd (by show d<s.n;omega) (by show s.n+100≤far;omega) (by omega)
 have n1:s.n≤t1.n:=st1.n
 have k1:t1.n≤s.n:=st1.le
 obtain ⟨ns,rfl⟩:∃ n:Nat,a=n:=⟨a.toNat,by omega⟩
 have hns:ns<b.ss.length:=by omega
 have g1:∀ c,c<s.n→c≠d→t1.h.get c=s.h.get c:=fun c hc hcd=>st1.same c hc hcd
 have x13:=(g1 p13 (by omega) (by omega)).trans z13
 have ad0:∀ s,aAdd s .i64 (b.days:Int) 1=.val (.int .i64 ((b.days:Int)+1)) s:=fun s=>aAdd_i64 s _ _ (by omega)
 simp (disch:=first|omega|(with_unfolding_all exact rfl)|(simp only[new_n,put_n,new_m];omega)|(refine put_m_le ?_;simp only[new_m];omega)) only [Abs.W,reduceIte,Nat.reduceEqDiff,Nat.reduceAdd,decide_true,decide_false,kLoop_def,Nat.reduceSub,List.cons_append,List.nil_append,List.append_nil,List.length_cons,List.length_nil,thenT_turn,efs,Nat.zero_add,l0,l13,l14,x13,ad0]
 generalize hc2:call _ _ _ (.fn 18) _ _=r2
 obtain ⟨f,t2,rfl,st2,d2,f0,f1⟩:=cast_ex hc2 (by omega) d1 (by show d<t1.n;omega) (by show t1.n+100≤far;omega) (by omega)
 have n2:t1.n≤t2.n:=st2.n
 have k2:t2.n≤t1.n:=st2.le
 obtain ⟨nd,rfl⟩:∃ n:Nat,f=n:=⟨f.toNat,by omega⟩
 have hnd:nd≤b.days:=by omega
 have g2:∀ c,c<s.n→c≠d→t2.h.get c=s.h.get c:=fun c hc hcd=>(st2.same c (by show c<t1.n;omega) hcd).trans (g1 c hc hcd)
 have y13:=(g2 p13 (by omega) (by omega)).trans z13
 simp (disch:=first|omega|(with_unfolding_all exact rfl)|(simp only[new_n,put_n,new_m];omega)|(refine put_m_le ?_;simp only[new_m];omega)) only [Abs.W,reduceIte,Nat.reduceEqDiff,Nat.reduceAdd,decide_true,decide_false,kLoop_def,Nat.reduceSub,List.cons_append,List.nil_append,List.append_nil,List.length_cons,List.length_nil,thenT_turn,efs,Nat.zero_add,l0,l13,l14,y13,ok0,hlm]
 generalize hc3:call _ _ _ (.fn 18) _ _=r3
 obtain ⟨g,t3,rfl,st3,d3,h0,h1⟩:=cast_ex hc3 (by omega) d2 (by show d<t2.n;omega) (by show t2.n+100≤far;omega) (by omega)
 have n3:t2.n≤t3.n:=st3.n
 have k3:t3.n≤t2.n:=st3.le
 obtain ⟨nm,rfl⟩:∃ n:Nat,g=n:=⟨g.toNat,by omega⟩
 have hnm:nm<b.ms.length:=by omega
 have g3:∀ c,c<s.n→c≠d→t3.h.get c=s.h.get c:=fun c hc hcd=>(st3.same c (by show c<t2.n;omega) hcd).trans (g2 c hc hcd)
 simp (disch:=first|omega|(with_unfolding_all exact rfl)|(simp only[new_n,put_n,new_m];omega)|(refine put_m_le ?_;simp only[new_m];omega)) only [Abs.W,reduceIte,Nat.reduceEqDiff,Nat.reduceAdd,decide_true,decide_false,kLoop_def,Nat.reduceSub,List.cons_append,List.nil_append,List.append_nil,List.length_cons,List.length_nil,efs,Nat.zero_add,Nat.reduceAdd]
 rw [endT_kept (l:=[206,207]) (s':=t2) (by
  simp only [keptAll_cons,keptAll_nil,find_cons,efs,keptV_ptr,x13,y13,sameO_cells,reduceIte,Nat.reduceEqDiff,Bool.and_true,Bool.true_and]
  exact (lz.at_ 0).keptV (fun h=>(g2 _ h (by have:=lz.lo 0;omega)).trans (g1 _ h (by have:=lz.lo 0;omega)).symm) (fun h=>g1 _ h (by have:=lz.lo 0;omega)))]
 rw [endT_kept (l:=[201,206,207]) (s':=t1) (by
  simp only [keptAll_cons,keptAll_nil,find_cons,efs,keptV_ptr,x13,z13,sameO_cells,reduceIte,Nat.reduceEqDiff,Bool.and_true,Bool.true_and]
  exact (lz.at_ 0).keptV (fun h=>g1 _ h (by have:=lz.lo 0;omega)) (fun h=>rfl))]
 simp (disch:=first|omega|(with_unfolding_all exact rfl)|(simp only[new_n,put_n,new_m];omega)|(refine put_m_le ?_;simp only[new_m];omega)) only [Abs.W,reduceIte,Nat.reduceEqDiff,Nat.reduceAdd,decide_true,decide_false,kLoop_def,Nat.reduceSub,List.cons_append,List.nil_append,List.append_nil,List.length_cons,List.length_nil,efs,Nat.zero_add]
 generalize hy2:St.put (St.new t3 _) t3.n _=y2
 have y2n:y2.n=t3.n+1:=by rw [← hy2];rfl
 have y2m:y2.m=min t3.m t3.n:=by rw [← hy2];simp only [St.put,minN_eq,new_m]
 have y2g:∀ c,c≠t3.n→y2.h.get c=t3.h.get c:=fun c hc=>by rw [← hy2,get_put_ne' _ _ _ _ hc,get_new_ne _ _ _ hc]
 have y2p:y2.h.get t3.n=some (.cells [.int .i64 (ns:Int),.int .i64 (nd:Int),.int .i64 (nm:Int),.int .i64 0] (tag 72)):=by rw [← hy2];exact get_put_eq _ _ _ _ rfl (by omega)
 have dy2:Die d y2.h:=d3.keep (y2g d (by omega))
 have hMy:Made y2.h y2.n d p13 p14 lo b offs errs rv xs bs vs:=hM.keep dy2 (fun c hc hcd=>(y2g c (by omega)).trans (g3 c hc hcd)) (by omega)
 have hA:=hMy.fact
 have hol:=hF.ol
 have hel:=hF.el
 have hro:=hF.err ns hns
 obtain ⟨xa,pa,ca,za,u1,u2,u3,u4⟩:=hA.off (i:=nm) (by omega)
 obtain ⟨xe,pe,ce,ze,vr,xf,pf,cf,zf,e1,e2,e3,e4,e5,f1',f2,f3,f4⟩:=hA.err (k:=ns) (d:=nd) (by omega) (by rw [hro.len];omega)
 obtain ⟨xm,pm,cm,zm,j1,j2,j3,j4⟩:=hMy.bench.m.at_ nm (by rw [List.length_map];omega)
 rw [List.getElem_map] at j4
 have hno:nomAt b nm=(b.ms[nm]'(by omega)).nom:=by unfold nomAt;simp [List.getD,hnm]
 obtain ⟨q0,q1,_,_,_⟩:=hmok _ (List.getElem_mem hnm)
 rw [← hno] at q0 q1
 unfold Mass.cells at j4
 rw [← hno] at j4
 have j5:nth cm pm=.int .i64 (nomAt b nm):=by
  obtain ⟨a,t,q1,q2,q3⟩:=cut_some j4
  rw [q1,← q2,List.append_assoc,← Nat.add_zero a.length,nth_skip']
  rfl
 have fa:=hF.off nm hnm
 have sm:=hro.small nd (by omega)
 have sm' : -100≤errIn errs ns nd∧errIn errs ns nd≤100:=by unfold errIn;omega
 have v13:=hMy.g13
 have v14:=hMy.g14
 have a1:∀ s,aAdd s .i64 (nomAt b nm) (offs.getD nm 0)=.val (.int .i64 (nomAt b nm+offs.getD nm 0)) s:=fun s=>aAdd_i64 s _ _ (by omega)
 have a2:∀ s,aAdd s .i64 (nomAt b nm+offs.getD nm 0) (errIn errs ns nd)=.val (.int .i64 (nomAt b nm+offs.getD nm 0+errIn errs ns nd)) s:=fun s=>aAdd_i64 s _ _ (by omega)
 obtain ⟨sh,hsh⟩:∃ sh,sh=max 0 (nomAt b nm+offs.getD nm 0+errIn errs ns nd):=⟨_,rfl⟩
 simp (disch:=first|omega|(with_unfolding_all exact rfl)|(simp only[new_n,put_n,new_m];omega)|(refine put_m_le ?_;simp only[new_m];omega)) only [res5,K5r0,K5r1,K5r2,K5r3,K5r4,K5r5,K5r6,K5r7,K5r8,K5r9,K5r10,K5r11,K5r12,K5r13,K5r14,K5r15,K5r16,K5r17,K5r18,K5r19,K5r20,K5r21s7,K5r21s6,K5r21s5,K5r21s4,K5r21,K5r22,K5r23,K5r24,K5r25,K5r26,K5r27,K5r28,K5r29,K5r30,K5r31,K5r32,K5r33,K5r34s7,K5r34s6,K5r34,K5r35,K5r36,K5r37,K5r38,K5,Abs.W,reduceIte,Nat.reduceEqDiff,Nat.reduceAdd,decide_true,decide_false,kLoop_def,Nat.reduceSub,List.cons_append,List.nil_append,List.append_nil,List.length_cons,List.length_nil,efs,Nat.zero_add,Nat.add_zero,l0,l13,l14,v13,v14,y2p,ok0,ok3,ok4,ok5,u2,u3,u4,e2,e3,e4,e5,f2,f3,f4,j2,j3,j5,a1,a2,kFold_def,foldA_nil,foldA_cons,maxA_i64]
 rw [← hsh]
 obtain ⟨T,hT⟩:∃ T:Trial,T=⟨ns,nd,nm,sh⟩:=⟨_,rfl⟩
 have hTc:T.cells=[.int .i64 (ns:Int),.int .i64 (nd:Int),.int .i64 (nm:Int),.int .i64 sh]:=by rw [hT];rfl
 simp only [put_n]
 obtain ⟨y6,hy6⟩:∃ y6:St,y6=(y2.put t3.n (.cells [.int .i64 (ns:Int),.int .i64 (nd:Int),.int .i64 (nm:Int),.int .i64 sh] (tag 72))).new (.cells [.int .i64 (ns:Int),.int .i64 (nd:Int),.int .i64 (nm:Int),.int .i64 sh] 0):=⟨_,rfl⟩
 rw [← hy6]
 have y6n:y6.n=y2.n+1:=by rw [hy6];rfl
 have y6m:y6.m=min y2.m t3.n:=by rw [hy6];simp only [St.put,minN_eq,new_m]
 have y6g:∀ c,c<y2.n→c≠t3.n→y6.h.get c=y2.h.get c:=fun c hc h3=>by rw [hy6,get_new_ne _ _ _ (by show c≠y2.n;omega),get_put_ne' _ _ _ _ h3]
 have y6p:y6.h.get y2.n=some (.cells [.int .i64 (ns:Int),.int .i64 (nd:Int),.int .i64 (nm:Int),.int .i64 sh] 0):=by rw [hy6];exact get_new_eq _ _ _ rfl (by show y2.n<_;omega)
 have bsf:∀ j,bs j<s.n∨far<bs j:=hM.ls.far
 have bsl:∀ j,lo≤bs j:=hM.ls.lo
 have l6:Lists y6.h y6.n lo benchW benchT (benchR b offs rv) bs vs:=hMy.ls.mono (fun j hj=>y6g _ hj (by have:=bsf j;omega)) (by omega)
 obtain ⟨s7,v7,e7,l7,s7n,s7g,s7m,s7l⟩:=l6.push 3 (bytes:=32) y6p rfl rfl (by show ((b.ts.map Trial.cells).length+1) * 32≤1000000;rw [List.length_map];omega) (by kernel_rfl) (by omega) (by omega)
 have e7':appendA false 4 32 (tag 72) y6 (vs 3) (.slice y2.n 0 1 1 false)=.val v7 s7:=e7
 have nb1:∀ c,c<lo→c≠bs 3:=fun c hc=>by have:=bsl 3;omega
 have g7:∀ c,c<t3.n→c≠bs 3→s7.h.get c=y2.h.get c:=fun c h1 h3=>(s7g c (by omega) h3).trans (y6g c (by omega) (by omega))
 have q13:=(g7 p13 (by omega) (nb1 _ (by omega))).trans v13
 have q14:=(g7 p14 (by omega) (nb1 _ (by omega))).trans v14
 have sc7:=(l7.at_ 3).scal
 rw [upd_at] at sc7
 obtain ⟨sc71,sc72⟩:=sc7
 have asb:∀ s,aSub s .i64 (i:Int) 1=.val (.int .i64 ((i:Int) - 1)) s:=fun s=>aSub_i64 s _ _ (by omega)
 simp (disch:=first|omega|(with_unfolding_all exact rfl)|(simp only[new_n,put_n,new_m];omega)|(refine put_m_le ?_;simp only[new_m];omega)) only [res5,K5r0,K5r1,K5r2,K5r3,K5r4,K5r5,K5r6,K5r7,K5r8,K5r9,K5r10,K5r11,K5r12,K5r13,K5r14,K5r15,K5r16,K5r17,K5r18,K5r19,K5r20,K5r21s7,K5r21s6,K5r21s5,K5r21s4,K5r21,K5r22,K5r23,K5r24,K5r25,K5r26,K5r27,K5r28,K5r29,K5r30,K5r31,K5r32,K5r33,K5r34s7,K5r34s6,K5r34,K5r35,K5r36,K5r37,K5r38,K5,Abs.W,reduceIte,Nat.reduceEqDiff,Nat.reduceAdd,decide_true,decide_false,kLoop_def,Nat.reduceSub,List.cons_append,List.nil_append,List.append_nil,List.length_cons,List.length_nil,efs,e7',l13,l25,q13,sc71,sc72,asb,Nat.zero_add]
 generalize hsf:St.put s7 _ _=sf
 have sfn:sf.n=s7.n:=by rw [← hsf];rfl
 have sfm:sf.m=min s7.m p13:=by rw [← hsf];simp only [St.put,minN_eq]
 have sfg:∀ c,c≠p13→sf.h.get c=s7.h.get c:=fun c h1=>by rw [← hsf,get_put_ne' _ _ _ _ h1]
 have sf13:sf.h.get p13=some (.cells [vs 0,vs 1,vs 2,v7,.int .i64 b.days] (tag 28)):=by rw [← hsf];exact get_put_eq _ _ _ _ rfl (by omega)
 have dsf:Die d sf.h:=dy2.keep ((sfg d (by omega)).trans (g7 d (by omega) (nb1 _ (by omega))))
 have hfun:upd (benchR b offs rv) 3 (benchR b offs rv 3++[[.int .i64 (ns:Int),.int .i64 (nd:Int),.int .i64 (nm:Int),.int .i64 sh]])=benchR { b with ts:=b.ts++[T] } offs rv:=by
  funext j
  match j with
  | 0=>rfl
  | 1=>rfl
  | 2=>rfl
  | 3 =>
   show b.ts.map Trial.cells++[_]=(b.ts++[T]).map Trial.cells
   rw [List.map_append,List.map_cons,List.map_nil,hTc]
  | 4=>rfl
  | 5=>rfl
  | n+6=>rfl
 rw [hfun] at l7
 refine ⟨_,sf,T,_,_,rfl,fun t ht=>?_,?_,?_,⟨dsf,?_,?_,l7.mono (fun j hj=>sfg _ (by have:=l7.lo j;omega)) (by omega),hM.el,hM.xl,fun j h1 h2 h3=>?_,fun c hc=>⟨(hM.xo c hc).1,fun j=>?_⟩,⟨pd,pp,plo,by omega⟩⟩,⟨fun c h1 h2 h3 h4=>?_,by omega,by omega,fun h=>?_,?_⟩⟩
 ·rcases ht with rfl | rfl | rfl | rfl | rfl | rfl | rfl<;>simp only [efs,reduceIte,Nat.reduceEqDiff]
 ·simp only [efs,reduceIte,Nat.reduceEqDiff]
 ·rw [hT];exact ⟨⟨by simp only;omega,by simp only;omega,by simp only;omega,by simp only;omega,by simp only;omega,by simp only;omega,by simp only;omega,by simp only;omega⟩,by simp only;omega⟩
 ·rw [upd_ne _ _ _ (by omega),upd_ne _ _ _ (by omega),upd_ne _ _ _ (by omega),upd_at];exact sf13
 ·rw [upd_ne _ _ _ (by omega),upd_ne _ _ _ (by omega),sfg _ (by omega)];exact q14
 ·have w1:=hM.er j h1 h2 h3
  have w2:=hMy.er j h1 h2 h3
  have w3:=hM.xo _ (List.getElem_mem h3)
  have w4:=w1.lt
  exact w2.mono ((sfg _ (by omega)).trans (g7 _ (by omega) (fun e=>w3.2 3 e.symm))) (by omega)
 ·obtain ⟨k,hk,rfl⟩:=List.getElem_of_mem hc
  have:=(hM.er k (by have:=hM.el;have:=hM.xl;omega) (by have:=hM.xl;omega) hk).lt
  unfold upd
  split
  ·omega
  ·exact (hM.xo _ hc).2 j
 ·rw [sfg c h3,g7 c (by omega) (nb1 c h1),y2g c (by omega),g3 c (by omega) h2]
 ·have a1:=st1.m (by show d≤far;omega)
  have a2:=st2.m (by show d≤far;omega)
  have a3:=st3.m (by simp only [minN_eq];omega)
  have a7:=s7m d (by omega) (by omega)
  omega
 ·have a3:=st3.mle
  simp only [minN_eq] at a3
  omega
end Go.Proofs.Ytoolodjbfphkjaa.walk
set_option maxRecDepth 10000
namespace Go.Proofs.Ytoolodjbfphkjaa.walk
open Go.Abs Go.Proofs.Ytoolodjbfphkjaa.code
def BenchF (h:Heap) (lo n:Nat) (b:Bench) (offs:List Int) (errs:List (List Int)) (v1 v2 v3 v4 v5 v6:AV):Prop:=∀ h':Heap,(∀ c,lo≤c→c<n→h'.get c=h.get c)→BenchAt h' n b v1 v2 v3 v4∧FactAt h' n offs errs v5 v6
theorem BenchF.mono {h h':Heap} {lo lo' n n':Nat} {b:Bench} {offs:List Int} {errs:List (List Int)} {v1 v2 v3 v4 v5 v6:AV} (g:BenchF h lo n b offs errs v1 v2 v3 v4 v5 v6) (hh:∀ x,lo≤x→x<n→h'.get x=h.get x) (hl:lo'≤lo) (hn:n≤n'):BenchF h' lo' n' b offs errs v1 v2 v3 v4 v5 v6:=fun k hk=>by
 obtain ⟨a,c⟩:=g k fun x h1 h2=>(hk x (by omega) (by omega)).trans (hh x h1 h2)
 exact ⟨a.grow (fun _ _=>rfl) hn,c.grow (fun _ _=>rfl) hn⟩
theorem Made.frozen {h:Heap} {n d p13 p14 lo:Nat} {b:Bench} {offs:List Int} {errs:List (List Int)} {rv:List AV} {xs:List Nat} {bs:Nat→Nat} {vs:Nat→AV} (m:Made h n d p13 p14 lo b offs errs rv xs bs vs):BenchF h lo n b offs errs (vs 0) (vs 1) (vs 2) (vs 3) (vs 4) (vs 5):=by
 intro h' hh
 have l:=m.ls.mono (h':=h') (n':=n) (fun i hi=>hh _ (m.ls.lo i) hi) (Nat.le_refl _)
 refine ⟨⟨(l.at_ 0).rows.at_,(l.at_ 1).rows.at_,(l.at_ 2).rows.at_,(l.at_ 3).rows.at_⟩,?_⟩
 have e5:=(l.at_ 5).rows.at_
 have hl:=e5.len
 rw [show (benchR b offs rv 5).length=errs.length from by show (rv.map fun v=>[v]).length=_;rw [List.length_map,m.el]] at hl
 refine ⟨(l.at_ 4).rows.at_,(l.at_ 5).okA,hl,fun k hk=>?_⟩
 have hk1:k<rv.length:=by rw [m.el];exact hk
 have hk2:k<xs.length:=by rw [m.xl];exact hk
 obtain ⟨b,p,c,sz,h1,h2,h3,h4⟩:=e5.at_ k (by show k<(rv.map fun v=>[v]).length;rw [List.length_map];exact hk1)
 have hb:=(m.er k hk1 hk hk2).mono (h':=h') (hh _ (m.xo _ (List.getElem_mem hk2)).1 (m.er k hk1 hk hk2).lt) (Nat.le_refl _)
 exact ⟨b,p,c,sz,rv[k],h1,h2,h3,cut1_nth (h4.trans (by simp [benchR])),hb.okA,hb.at_⟩
theorem Lists.nil {h:Heap} {n lo:Nat} {W T:Nat→Nat} {R:Nat→List (List AV)} (hR:∀ i,R i=[]) (hlo:lo≤Abs.far):Lists h n lo W T R (fun i=>Abs.far+1+i) (fun _=>.nilslice) :=
 ⟨fun i=>by rw [hR i];exact IsAt.nil _ _ _ _ _,fun i j hij=>by omega,fun i=>by show lo≤Abs.far+1+i;omega,fun i=>.inr (by show Abs.far<Abs.far+1+i;omega)⟩
theorem Made.setTrial {s:St} {d p13 p14 lo:Nat} {b:Bench} {offs:List Int} {errs:List (List Int)} {rv:List AV} {xs:List Nat} {bs:Nat→Nat} {vs:Nat→AV} (m:Made s.h s.n d p13 p14 lo b offs errs rv xs bs vs) {j:Nat} (hj:j<b.ts.length) (T:Trial) (hs:s.n≤far) (sz:Nat) (hsz:s.h.get (bs 3)=some (.cells (b.ts.map Trial.cells).flatten sz)) :
  Made (s.put (bs 3) (.cells ((b.ts.map Trial.cells).set j T.cells).flatten sz)).h s.n d p13 p14 lo { b with ts:=b.ts.set j T } offs errs rv xs bs vs:=by
 have hf:far=1000000000:=rfl
 obtain ⟨m1,m2,m3,m4,m5,m6,m7,m8,m9⟩:=m
 have bl:=m4.lo 3
 have hR:benchR { b with ts:=b.ts.set j T } offs rv=upd (benchR b offs rv) 3 ((b.ts.map Trial.cells).set j T.cells):=by
  funext k
  match k with
  | 0=>rfl
  | 1=>rfl
  | 2=>rfl
  | 3 =>
   show (b.ts.set j T).map Trial.cells=(b.ts.map Trial.cells).set j T.cells
   rw [List.map_set]
  | 4=>rfl
  | 5=>rfl
  | n+6=>rfl
 have hg:∀ c,c≠bs 3→(s.put (bs 3) (.cells ((b.ts.map Trial.cells).set j T.cells).flatten sz)).h.get c=s.h.get c:=fun c hc=>get_put_ne' _ _ _ _ hc
 have h3:=m4.at_ 3
 have hrw:benchR b offs rv 3=b.ts.map Trial.cells:=rfl
 have hne:b.ts.map Trial.cells≠[]:=fun h=>by
  have:=congrArg List.length h
  rw [List.length_map] at this
  simp at this
  subst_vars
  simp_all
 have hb3:bs 3<s.n∧sz=benchW 3+benchT 3∧vs 3=.slice (bs 3) 0 (b.ts.map Trial.cells).length (b.ts.map Trial.cells).length true:=by
  rcases h3.is with ⟨z,_⟩ | ⟨_,z1,z2,z3⟩
  ·exact absurd z hne
  ·refine ⟨z1,?_,z2⟩
   rw [hsz] at z3
   injection z3 with z3
   injection z3
 refine ⟨m1.keep (hg _ (by omega)),by rw [hg _ (by omega)];exact m2,by rw [hg _ (by omega)];exact m3,⟨fun i=>?_,m4.ne,m4.lo,m4.far⟩,m5,m6,fun k h1 h2 h3=>(m7 k h1 h2 h3).mono (hg _ (fun e=>(m8 _ (List.getElem_mem h3)).2 3 e.symm)) (Nat.le_refl _),m8,m9⟩
 rw [hR]
 by_cases h:i=3
 ·subst h
  rw [upd_at]
  have hl:((b.ts.map Trial.cells).set j T.cells).length=(b.ts.map Trial.cells).length:=List.length_set ..
  refine ⟨fun r hr=>?_,.inr ⟨fun h=>hne (List.length_eq_zero_iff.mp (by rw [← hl,h];rfl)),hb3.1,by rw [hl];exact hb3.2.2,?_⟩⟩
  ·rcases List.mem_or_eq_of_mem_set hr with hr | hr
   ·exact h3.wide r hr
   ·rw [hr];rfl
  ·rw [← hb3.2.1];exact get_put_eq _ _ _ _ rfl (by omega)
 ·rw [upd_ne _ _ _ h]
  exact (m4.at_ i).mono (fun _=>hg _ (m4.ne i 3 h)) (Nat.le_refl _)
theorem leave_cct {P:Program} (a:Nat) (t:TypeId) (b:Nat) (t':TypeId) (c:Nat) (L:Env) (s:St) {sh sh':Option Nat} (hs:shapeT P t=some sh) (hs':shapeT P t'=some sh') {v v':AV} (h:okA (loadA sh s (L.find a))=.val v s) (h':okA (loadA sh' s (L.find b))=.val v' s) :
  leaveA P [.cell a t,.cell b t',.tmp c] L [] s=.val (.tup [v,v',L.find c]) s:=by
 unfold leaveA
 simp only [takeDfs,resultsA,hs,hs',h,h']
 rfl
end Go.Proofs.Ytoolodjbfphkjaa.walk
