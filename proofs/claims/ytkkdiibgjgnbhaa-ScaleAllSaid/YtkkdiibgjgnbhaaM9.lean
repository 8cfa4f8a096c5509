/- Facts gathered: errors, day by day. -/
import Derived.Test.YtkkdiibgjgnbhaaM8
import Derived.Test.YtkkdiibgjgnbhaaWalkAll
set_option maxHeartbeats 16000000
set_option linter.unusedVariables false
set_option maxRecDepth 10000
namespace Go.Proofs.Ytkkdiibgjgnbhaa.walk
open Go.Abs Go.Proofs.Ytkkdiibgjgnbhaa.code
theorem part_small {b:Bench} (ok:b.Ok) {f:Fc} (hp:Part b f) {k:Nat} (hk:k<f.2.length):∀ d:Nat,d<(f.2.getD k []).length → -(10000+10000 * (d:Int))≤(f.2.getD k []).getD d 0∧(f.2.getD k []).getD d 0≤10000+10000 * (d:Int):=by
 have h2:=hp.l2
 have o:=ok.sok _ (sAt_in (show k<b.ss.length by omega))
 have f0:=o.f0
 have f2:=o.f2
 have d0:=o.d0
 have d2:=o.d2
 intro d
 induction d with
 | zero=>intro _;have:=hp.a k hk;omega
 | succ d ih =>
  intro hd
  have h1:=ih (by omega)
  have h2:=hp.d k hk d hd
  omega
theorem goOn_row {b:Bench} {f:Fc} {row:List Int} (h1:¬ f.1.length<b.ms.length) (hrow:f.2=[row]) (hlen:row.length≤b.days):goOn b f=some ((spanL (sAt b 0).dl (sAt b 0).dh).map fun n=>(f.1,[row++[lastL row+n]])):=by
 unfold goOn
 rw [if_neg h1,hrow]
 rw [if_pos ⟨by simp,by simpa using hlen⟩]
 rfl
theorem facts_round1 {M N:Nat} (ih:FactsOk M N) (hN:3≤N) (cx:Ctx) {u t:St} {bl n0:Nat} {b:Bench} {f:Fc} {row:List Int} {v1 v2 v3 v4 v5 v6 vr:AV} {L:List Fc} {vo:AV} {bi k:Nat} {E:Env} {x:Int} (J:FactsJ u t bl b v1 v2 v3 v4 v5 v6 L vo bi k) (ok:b.Ok) (fw:Few b) (hp:Part b f) (h1:¬ f.1.length<b.ms.length) (hrow:f.2=[row]) (hlen:row.length≤b.days)
  (hB:BenchAt u.h n0 b v1 v2 v3 v4) (h0:n0≤u.n) (hb:n0≤bl) (h2:bl<u.n∨bl=far) (hF:FactM u.h u.n bl f v5 v6) (hvr:RAt u.h u.n bl row vr) (hx:(sAt b 0).dl≤x∧x≤(sAt b 0).dh) (hl:left b f<M+1) (hL:L.length+5 ^ M≤20000) (hs:u.n+k+50+wide M+10000≤far)
  (q2:E.find 2=vo) (q3:E.find 3=.ptr u.n 0) (q4:E.find 4=.ptr (u.n+1) 0) (q9:E.find 9=.int .i64 0) (q10:E.find 10=vr) (q11:E.find 11=.int .i64 x) :
  ∃ E1 t1 vo1 bi1,K6l1 (call Try.prog X N) cx E [] t=.done .norm E1 [] t1∧E1.find 2=vo1∧E1.find 3=.ptr u.n 0∧E1.find 4=.ptr (u.n+1) 0∧E1.find 9=.int .i64 0∧E1.find 10=vr∧E1.find 11=.int .i64 (x+1)∧FactsJ u t1 bl b v1 v2 v3 v4 v5 v6 (L++factsL b M (f.1,[row++[lastL row+x]])) vo1 bi1 (k+50+wide M):=by
 have hf:far=1000000000:=rfl
 have J0:=J
 obtain ⟨g3,g4,hg,ha,hbp,hh,hn⟩:=J
 have tn:=hg.n
 have tl:=hg.le
 have wp:=wide_pos M
 have one:=fw.one
 have dd:=ok.d1
 have hBt:BenchAt t.h n0 b v1 v2 v3 v4:=hB.grow (fun c hc=>hg.same c (by omega) (by omega)) (Nat.le_refl _)
 obtain ⟨x0,o0,cs,sz,r1,r2,r3,r4⟩:=hBt.s.at_ 0 (by rw [List.length_map];omega)
 rw [List.getElem_map,sAt_get (by omega)] at r4
 have r2':∀ s,ixsA 4 s v3 (.int .i64 0)=.val (.ptr x0 o0) s:=r2
 have rh:nth cs (o0+2+1)=.int .i64 (sAt b 0).dh:=cut_nth (i:=3) r4 (by omega)
 have okS:=ok.sok _ (sAt_in (show 0<b.ss.length by omega))
 have k0:=okS.d0
 have k1:=okS.d2
 have kv3:∀ t,okA (.val v3 t)=.val v3 t:=fun t=>okA_ne hBt.s.ne
 have kv5:∀ t,okA (.val v5 t)=.val v5 t:=fun t=>okA_ne hF.o.rows.ne
 have kv6:∀ t,okA (.val v6 t)=.val v6 t:=hF.at_.ok
 have kvr:∀ t,okA (.val vr t)=.val vr t:=fun t=>okA_ne hvr.rows.ne
 have e0:decide (x≤(sAt b 0).dh)=true:=decide_eq_true hx.2
 have ad:∀ s,aAdd s .i64 x 1=.val (.int .i64 (x+1)) s:=fun s=>aAdd_i64 s _ _ (by omega)
 have hFt:FactM t.h t.n bi f v5 v6:=hF.move (fun c hc hd=>hg.same c hc hd) tn (by omega)
 have hvrt:RAt t.h t.n bi row vr:=hvr.move (fun c hc hd=>hg.same c hc hd) tn (by omega)
 have rpos:1≤row.length:=by have:=(hp.r1 0 (by rw [hrow];simp)).1;rw [hrow] at this;exact this
 have rne:row≠[]:=fun h=>by rw [h] at rpos;simp at rpos
 have hFe:(f.2=[]∧v6=.nilslice)∨∃ row w b,f.2=[row]∧row≠[]∧b≠bi∧IsAt t.h t.n b 1 (tag 22) [[w]] v6∧RAt t.h t.n bi row w:=hFt.e
 obtain ⟨xo,hxo,hIo⟩:=hFt.o
 have v5s:scalars [v5]=true:=hIo.scal.1
 have v5c:cellsOf 1 v5=some [v5]:=hIo.scal.2
 simp (disch:=first|omega|(with_unfolding_all exact rfl)|(simp only[new_n,put_n,new_m];omega)|(refine put_m_le ?_;simp only[new_m];omega)) only [K6r12,K6r13,K6r14,K6r15,K6r16,K6l1,Abs.W,reduceIte,Nat.reduceEqDiff,Nat.reduceSub,Env.find_set,Nat.zero_add,Nat.add_zero,q3,q4,q9,q11,g3,g4,kv3,kv5,kv6,r2',r3,rh,e0]
 generalize hc1:call _ _ _ (.fn 14) _ _=r1'
 obtain ⟨w,t1,rfl,st1,hT⟩:=CopyTable_ex (bl:=bi) (e:=f.2) hc1 (by omega) hFe (fun r hr=>by rw [hrow] at hr;rw [List.mem_singleton.mp hr];omega) (by show t.n+1000≤far;omega)
 rw [hrow] at hT
 rcases hT with ⟨h,_⟩ | ⟨row',w',b',m',hrr,_,hm1,hm2,hI,own⟩
 ·cases h
 obtain rfl:row=row':=by injection hrr
 have n1:t.n≤t1.n:=st1.n
 have k1':t1.n≤t.n+20:=st1.le
 have hm1:t.n≤m':=hm1
 have g1:∀ c,c<t.n→t1.h.get c=t.h.get c:=fun c hc=>st1.same c hc
 have m1':t1.m=far:=st1.m
 have g31:=(g1 u.n (by omega)).trans g3
 have g41:=(g1 (u.n+1) (by omega)).trans g4
 have wsc:scalars [w]=true:=hI.scal.1
 have wc:cellsOf 1 w=some [w]:=hI.scal.2
 have kw:∀ t,okA (.val w t)=.val w t:=hI.okA
 have v5w:scalars [v5,w]=true:=by rw [scals_cons v5s];exact wsc
 simp (disch:=first|omega|(with_unfolding_all exact rfl)|(simp only[new_n,put_n,new_m];omega)|(refine put_m_le ?_;simp only[new_m];omega)) only [thenT_turn,Abs.W,reduceIte,Nat.reduceEqDiff,Nat.reduceAdd,Nat.reduceSub,Env.find_set,v5c,wc,v5w,Nat.zero_add]
 rw [endT_kept (l:=[91]) (s':=t1) (by simp only [keptAll_cons,keptAll_nil,find_cons,Env.find_set,keptV_ptr,g4,g41,sameO_cells,reduceIte,Nat.reduceEqDiff,Bool.and_self])]
 rw [endO_ok _ (endOk_nil _)]
 obtain ⟨y8,hy8⟩:∃ y8:St,y8=⟨t1.h,t1.n,minN t.m t1.m⟩:=⟨_,rfl⟩
 have y8n:y8.n=t1.n:=by rw [hy8]
 have y8h:y8.h=t1.h:=by rw [hy8]
 have y8m:y8.m=min t.m t1.m:=by rw [hy8];simp only [minN_eq]
 rw [← hy8]
 obtain ⟨y,hy⟩:∃ y:St,y=(y8.new (.cells [.nilslice,.nilslice] (tag 36))).put t1.n (.cells [v5,w] (tag 36)):=⟨_,rfl⟩
 rw [← hy]
 have yn:y.n=t1.n+1:=by rw [hy];show y8.n+1=_;rw [y8n]
 have ym:y.m=min y8.m t1.n:=by rw [hy];simp only [St.put,minN_eq,new_m]
 have yg:∀ c,c<t1.n→y.h.get c=t1.h.get c:=fun c hc=>by rw [hy,get_put_ne' _ _ _ _ (by omega),get_new_ne _ _ _ (by omega),y8h]
 have yp:y.h.get t1.n=some (.cells [v5,w] (tag 36)):=by rw [hy];exact get_put_eq _ _ _ _ rfl (by omega)
 obtain ⟨hwe,hb1,hb2⟩:w=.slice b' 0 1 1 true∧b'<t1.n∧t1.h.get b'=some (.cells [w'] (1+tag 22)):=by
  rcases hI.is with ⟨z,_⟩ | ⟨_,z1,z2,z3⟩
  ·cases z
  ·exact ⟨z2,z1,z3⟩
 have iw:∀ s,ixsA 1 s w (.int .i64 0)=.val (.ptr b' 0) s:=fun s=>by rw [hwe];rfl
 have yb:=(yg b' hb1).trans hb2
 obtain ⟨p1,q1,z1⟩:=own.seq.scalar
 have gy:∀ c,c<t.n→y.h.get c=t.h.get c:=fun c hc=>(yg c (by omega)).trans (g1 c hc)
 have hvry:RAt y.h y.n bi row vr:=hvrt.move (fun c hc _=>gy c hc) (by omega) (.inl rfl)
 have lv:∀ s,lenSlA s vr=.val (.int .i64 (row.length:Int)) s:=fun s=>by have:=hvry.rows.len s;rw [intRows_len] at this;exact this
 have sb:∀ s,aSub s .i64 (row.length:Int) 1=.val (.int .i64 ((row.length - 1:Nat):Int)) s:=fun s=>by rw [aSub_i64 s _ _ (by omega)];congr 2;omega
 obtain ⟨xr,pr,cr,zr,u1,u2,u3,u4⟩:=intRow_at hvry.rows (i:=row.length - 1) (by omega)
 have sml:=part_small ok hp (k:=0) (by rw [hrow];simp) (row.length - 1) (by rw [hrow];show row.length - 1<row.length;omega)
 rw [hrow] at sml
 have sml' : -200000≤row.getD (row.length - 1) 0∧row.getD (row.length - 1) 0≤200000:=by
  have:([row]:List (List Int)).getD 0 []=row:=rfl
  rw [this] at sml
  omega
 have ada:∀ s,aAdd s .i64 (row.getD (row.length - 1) 0) x=.val (.int .i64 (lastL row+x)) s:=fun s=>aAdd_i64 s _ _ (by omega)
 obtain ⟨y1,hy1⟩:∃ y1:St,y1=y.new (.cells [.int .i64 (lastL row+x)] 0):=⟨_,rfl⟩
 have y1n:y1.n=y.n+1:=by rw [hy1];rfl
 have y1m:y1.m=y.m:=by rw [hy1];rfl
 have y1g:∀ c,c<y.n→y1.h.get c=y.h.get c:=fun c hc=>by rw [hy1,get_new_ne _ _ _ (by omega)]
 have y1p:y1.h.get y.n=some (.cells [.int .i64 (lastL row+x)] 0):=by rw [hy1];exact get_new_eq _ _ _ rfl (by omega)
 obtain ⟨s7,e7,l7,s7n,s7g,s7m,s7l⟩:=append_own (bytes:=8) (own.move (h':=y1.h) (n':=m') (fun c _ hc=>(y1g c (by omega)).trans (yg c (by omega))) (Nat.le_refl _) (Nat.le_refl _)) (by omega) y1p rfl rfl (by rw [intRows_len];omega) (by kernel_rfl) (by omega)
 rw [intRows_len] at e7 l7
 have s7b:=(s7g b' (by omega) (.inr hm2)).trans ((y1g b' (by omega)).trans yb)
 rw [hy1] at e7
 simp (disch:=first|omega|(with_unfolding_all exact rfl)|(simp only[new_n,put_n,new_m];omega)|(refine put_m_le ?_;simp only[new_m];omega)) only [Abs.W,reduceIte,Nat.reduceEqDiff,Nat.reduceSub,Env.find_set,q9,q10,q11,yp,kw,iw,yb,p1,lv,sb,u2,u3,u4,ada,e7,s7b,Nat.zero_add]
 rw [← hy1]
 rw [endO_ok _ (by
  rw [endOk_cons,endOk_nil]
  simp only [find_cons,Env.find_set,reduceIte,Nat.reduceEqDiff]
  exact own.apart2 (by omega))]
 obtain ⟨nv,hnv⟩:∃ nv,nv=AV.slice y1.n 0 (row.length+1) (row.length+1) true:=⟨_,rfl⟩
 rw [← hnv]
 obtain ⟨z,hz⟩:∃ z:St,z=s7.put b' (.cells [nv] (1+tag 22)):=⟨_,rfl⟩
 rw [← hz]
 have zn:z.n=s7.n:=by rw [hz];rfl
 have zm:z.m=min s7.m b':=by rw [hz];simp only [St.put,minN_eq]
 have zg:∀ c,c≠b'→z.h.get c=s7.h.get c:=fun c hc=>by rw [hz,get_put_ne' _ _ _ _ hc]
 have zb:z.h.get b'=some (.cells [nv] (1+tag 22)):=by rw [hz];exact get_put_eq _ _ _ _ rfl (by omega)
 have gz:∀ c,c<t.n→z.h.get c=t.h.get c:=fun c hc=>(zg c (by omega)).trans ((s7g c (by omega) (.inl hc)).trans ((y1g c (by omega)).trans (gy c hc)))
 have gz3:=(gz u.n (by omega)).trans g3
 have gz12:=(zg t1.n (by omega)).trans ((s7g t1.n (by omega) (.inr (by omega))).trans ((y1g t1.n (by omega)).trans yp))
 have kvo:∀ t,okA (.val vo t)=.val vo t:=ha.okA
 have scw:cellsOf 1 w=some [w]:=hI.scal.2
 simp (disch:=first|omega|(with_unfolding_all exact rfl)|(simp only[new_n,put_n,new_m];omega)|(refine put_m_le ?_;simp only[new_m];omega)) only [Abs.W,reduceIte,Nat.reduceEqDiff,Nat.reduceSub,Env.find_set,gz3,gz12,q2,q3]
 generalize hc2:call _ _ _ (.fn 6) _ _=r2'
 have hgn:=goOn_row h1 hrow hlen
 have hmem:((f.1,[row++[lastL row+x]]):Fc) ∈ (spanL (sAt b 0).dl (sAt b 0).dh).map fun n=>((f.1,[row++[lastL row+n]]):Fc):=List.mem_map.mpr ⟨x,mem_spanL.mpr hx,rfl⟩
 have tfar:=hg.mle
 have hgr:Grow far t z 30:=⟨fun c hc _=>gz c hc,by omega,by omega,fun q z1 z2 z3=>by
  have:=s7m q (by omega) (by omega) (by omega)
  omega,by omega⟩
 have J7:=J0.step hgr (by omega)
 have hFc:FactM z.h z.n bi (f.1,[row++[lastL row+x]]) v5 w:=⟨hFt.o.move (fun c hc _=>gz c hc) (by omega) (.inl rfl),.inr ⟨row++[lastL row+x],nv,b',rfl,by simp,by omega,⟨fun r hr=>by rw [List.mem_singleton.mp hr];rfl,.inr ⟨by simp,by omega,by rw [hwe];rfl,by rw [zb];rfl⟩⟩,⟨y1.n,by omega,by
  rw [intRows_snoc,hnv]
  exact isAt_blk (l7.mono (n':=z.n) (fun _=>zg _ (by omega)) (by omega)) (by simp)⟩⟩⟩
 obtain ⟨vo1,t2,bi1,rfl,J2⟩:=facts_next ih J7 hc2 ok fw (part_goes hp hgn _ hmem) (by have:=left_goes fw hp hgn _ hmem;omega) hB h0 hb h2 hFc hL (by omega)
 have k2:=J2.gr.le
 simp (disch:=first|omega|(with_unfolding_all exact rfl)|(simp only[new_n,put_n,new_m];omega)|(refine put_m_le ?_;simp only[new_m];omega)) only [Abs.W,reduceIte,Nat.reduceEqDiff,Env.find_set,q11,ad]
 refine ⟨_,t2,vo1,bi1,rfl,?_,?_,?_,?_,?_,?_,J2.mono (by omega)⟩
 ·simp only [Env.find_set,reduceIte,Nat.reduceEqDiff]
 ·simp only [Env.find_set,q3,reduceIte,Nat.reduceEqDiff]
 ·simp only [Env.find_set,q4,reduceIte,Nat.reduceEqDiff]
 ·simp only [Env.find_set,q9,reduceIte,Nat.reduceEqDiff]
 ·simp only [Env.find_set,q10,reduceIte,Nat.reduceEqDiff]
 ·simp only [Env.find_set,reduceIte,Nat.reduceEqDiff]
theorem facts_loop1 {M N:Nat} (ih:FactsOk M N) (hN:3≤N) {cx:Ctx} {u w:St} {bl n0:Nat} {b:Bench} {f:Fc} {row:List Int} {v1 v2 v3 v4 v5 v6 vr:AV} {L:List Fc} {vo:AV} {bi k:Nat} {E:Env} {r:R} (hr:loopN K6l1 rounds (call Try.prog X N) cx E [] w=r) (J:FactsJ u w bl b v1 v2 v3 v4 v5 v6 L vo bi k) (ok:b.Ok) (fw:Few b) (hp:Part b f) (h1:¬ f.1.length<b.ms.length) (hrow:f.2=[row]) (hlen:row.length≤b.days)
  (hB:BenchAt u.h n0 b v1 v2 v3 v4) (h0:n0≤u.n) (hb:n0≤bl) (h2:bl<u.n∨bl=far) (hF:FactM u.h u.n bl f v5 v6) (hvr:RAt u.h u.n bl row vr) (hl:left b f<M+1) (hL:L.length+5 ^ (M+1)≤20000) (hs:u.n+k+5 * (50+wide M)+10000≤far) {l:List Fc} (hg:goOn b f=some l)
  (q2:E.find 2=vo) (q3:E.find 3=.ptr u.n 0) (q4:E.find 4=.ptr (u.n+1) 0) (q9:E.find 9=.int .i64 0) (q10:E.find 10=vr) (q11:E.find 11=.int .i64 (sAt b 0).dl) :
  ∃ E1 t1 vo1 bi1,r=.done (.exit 2) E1 [] t1∧E1.find 2=vo1∧FactsJ u t1 bl b v1 v2 v3 v4 v5 v6 (L++l.flatMap fun c=>factsL b M c) vo1 bi1 (k+5 * (50+wide M)):=by
 have hf:far=1000000000:=rfl
 have wp:=wide_pos M
 have one:=fw.one
 have l5:=goOn_len fw hp hg
 have lE:l=(spanL (sAt b 0).dl (sAt b 0).dh).map fun n=>((f.1,[row++[lastL row+n]]):Fc):=by
  rw [goOn_row h1 hrow hlen] at hg;exact (Option.some.inj hg).symm
 have okS:=ok.sok _ (sAt_in (show 0<b.ss.length by omega))
 have o1:=okS.d1
 have ll:l.length=((sAt b 0).dh - (sAt b 0).dl+1).toNat:=by rw [lE,List.length_map,spanL_length]
 obtain ⟨e,E1,t1,rfl,rfl,vo1,bi1,f2,J1⟩:=loop_of hr (fun i E' t'=>E'.find 3=.ptr u.n 0∧E'.find 4=.ptr (u.n+1) 0∧E'.find 9=.int .i64 0∧E'.find 10=vr∧E'.find 11=.int .i64 ((sAt b 0).dl+(i:Int))∧∃ vo' bi',E'.find 2=vo'∧FactsJ u t' bl b v1 v2 v3 v4 v5 v6 (L++(l.take i).flatMap fun c=>factsL b M c) vo' bi' (k+i * (50+wide M)))
  (fun e E' t'=>e=.exit 2∧∃ vo' bi',E'.find 2=vo'∧FactsJ u t' bl b v1 v2 v3 v4 v5 v6 (L++l.flatMap fun c=>factsL b M c) vo' bi' (k+5 * (50+wide M))) l.length (by unfold rounds;omega)
  ⟨q3,q4,q9,q10,by rw [q11];congr 1;omega,vo,bi,q2,by rw [List.take_zero,List.flatMap_nil,List.append_nil];exact J.mono (by omega)⟩
  (fun i E' t' hi ⟨p3,p4,p9,p10,p11,vo',bi',p2,J'⟩=>by
   have hm5:i * (50+wide M)≤5 * (50+wide M):=Nat.mul_le_mul_right _ (by omega)
   by_cases hlt:i<l.length
   ·have hm6:(i+1) * (50+wide M)≤5 * (50+wide M):=Nat.mul_le_mul_right _ (by omega)
    rw [Nat.succ_mul] at hm6
    obtain ⟨E2,t2,vo2,bi2,z1,z2,z3,z4,z5,z5',z6,z7⟩:=facts_round1 ih hN cx J' ok fw hp h1 hrow hlen hB h0 hb h2 hF hvr (x:=(sAt b 0).dl+(i:Int)) (by omega) hl (kids_len fw hp hg L M i hlt hL) (by omega) p2 p3 p4 p9 p10 p11
    refine .inl ⟨hlt,E2,t2,z1,z3,z4,z5,z5',by rw [z6];congr 1;omega,vo2,bi2,z2,?_⟩
    have hli:l[i]=(f.1,[row++[lastL row+((sAt b 0).dl+(i:Int))]]):=by
     subst lE
     unfold spanL
     simp
    rw [take_flat hlt,← List.append_assoc,hli]
    exact z7.mono (by rw [Nat.succ_mul];omega)
   ·obtain rfl:i=l.length:=by omega
    rw [List.take_length] at J'
    obtain ⟨g3,g4,hgr,ha,hbp,hh,hn⟩:=J'
    have J':FactsJ u t' bl b v1 v2 v3 v4 v5 v6 (L++l.flatMap fun c=>factsL b M c) vo' bi' (k+l.length * (50+wide M)):=⟨g3,g4,hgr,ha,hbp,hh,hn⟩
    have hBt:BenchAt t'.h n0 b v1 v2 v3 v4:=hB.grow (fun c hc=>hgr.same c (by omega) (by omega)) (Nat.le_refl _)
    obtain ⟨x0,o0,cs,sz,r1,r2,r3,r4⟩:=hBt.s.at_ 0 (by rw [List.length_map];omega)
    rw [List.getElem_map,sAt_get (by omega)] at r4
    have r2':∀ s,ixsA 4 s v3 (.int .i64 0)=.val (.ptr x0 o0) s:=r2
    have rh:nth cs (o0+2+1)=.int .i64 (sAt b 0).dh:=cut_nth (i:=3) r4 (by omega)
    have kv3:∀ t,okA (.val v3 t)=.val v3 t:=fun t=>okA_ne hBt.s.ne
    have e0:decide ((sAt b 0).dl+(l.length:Int)≤(sAt b 0).dh)=false:=decide_eq_false (by omega)
    have tn:=hgr.n
    have tl:=hgr.le
    refine .inr ⟨.exit 2,E'.set 88 (.bool false),t',by simp,?_,rfl,vo',bi',?_,J'.mono (by omega)⟩
    ·simp (disch:=first|omega|(with_unfolding_all exact rfl)|(simp only[new_n,put_n,new_m];omega)|(refine put_m_le ?_;simp only[new_m];omega)) only [K6r12,K6r13,K6r14,K6r15,K6r16,K6l1,Abs.W,reduceIte,Nat.reduceEqDiff,Nat.reduceSub,Env.find_set,Nat.zero_add,p3,p9,p11,g3,kv3,r2',r3,rh,e0]
    ·simp only [Env.find_set,p2,reduceIte,Nat.reduceEqDiff])
 exact ⟨E1,t1,vo1,bi1,rfl,f2,J1⟩
end Go.Proofs.Ytkkdiibgjgnbhaa.walk
set_option maxRecDepth 10000
namespace Go.Proofs.Ytkkdiibgjgnbhaa.walk
open Go.Abs Go.Proofs.Ytkkdiibgjgnbhaa.code
theorem goOn_first {b:Bench} {f:Fc} (fw:Few b) (h1:¬ f.1.length<b.ms.length) (hrow:f.2=[]):goOn b f=some ((spanL (sAt b 0).fl (sAt b 0).fh).map fun n=>(f.1,[[n]])):=by
 have one:=fw.one
 unfold goOn
 rw [if_neg h1,hrow]
 rw [if_neg (by simp),if_pos (by simp [one])]
 rfl
theorem facts_round2 {M N:Nat} (ih:FactsOk M N) (hN:3≤N) (cx:Ctx) {u t:St} {bl n0:Nat} {b:Bench} {f:Fc} {v1 v2 v3 v4 v5 v6:AV} {L:List Fc} {vo:AV} {bi k:Nat} {E:Env} {x:Int} (J:FactsJ u t bl b v1 v2 v3 v4 v5 v6 L vo bi k) (ok:b.Ok) (fw:Few b) (hp:Part b f) (h1:¬ f.1.length<b.ms.length) (hrow:f.2=[])
  (hB:BenchAt u.h n0 b v1 v2 v3 v4) (h0:n0≤u.n) (hb:n0≤bl) (h2:bl<u.n∨bl=far) (hF:FactM u.h u.n bl f v5 v6) (hx:(sAt b 0).fl≤x∧x≤(sAt b 0).fh) (hl:left b f<M+1) (hL:L.length+5 ^ M≤20000) (hs:u.n+k+50+wide M+10000≤far)
  (q2:E.find 2=vo) (q3:E.find 3=.ptr u.n 0) (q4:E.find 4=.ptr (u.n+1) 0) (q9:E.find 9=.int .i64 (-1)) (q13:E.find 13=.int .i64 x) :
  ∃ E1 t1 vo1 bi1,K6l2 (call Try.prog X N) cx E [] t=.done .norm E1 [] t1∧E1.find 2=vo1∧E1.find 3=.ptr u.n 0∧E1.find 4=.ptr (u.n+1) 0∧E1.find 9=.int .i64 (-1)∧E1.find 13=.int .i64 (x+1)∧FactsJ u t1 bl b v1 v2 v3 v4 v5 v6 (L++factsL b M (f.1,[[x]])) vo1 bi1 (k+50+wide M):=by
 have hf:far=1000000000:=rfl
 have J0:=J
 obtain ⟨g3,g4,hg,ha,hbp,hh,hn⟩:=J
 have tn:=hg.n
 have tl:=hg.le
 have wp:=wide_pos M
 have one:=fw.one
 have hBt:BenchAt t.h n0 b v1 v2 v3 v4:=hB.grow (fun c hc=>hg.same c (by omega) (by omega)) (Nat.le_refl _)
 obtain ⟨x0,o0,cs,sz,r1,r2,r3,r4⟩:=hBt.s.at_ 0 (by rw [List.length_map];omega)
 rw [List.getElem_map,sAt_get (by omega)] at r4
 have r2':∀ s,ixsA 4 s v3 (.int .i64 0)=.val (.ptr x0 o0) s:=r2
 have rh:nth cs (o0+1)=.int .i64 (sAt b 0).fh:=cut_nth (i:=1) r4 (by omega)
 have okS:=ok.sok _ (sAt_in (show 0<b.ss.length by omega))
 have k0:=okS.f0
 have k1:=okS.f2
 have kv3:∀ t,okA (.val v3 t)=.val v3 t:=fun t=>okA_ne hBt.s.ne
 have kv5:∀ t,okA (.val v5 t)=.val v5 t:=fun t=>okA_ne hF.o.rows.ne
 have v6n:v6=.nilslice:=by
  rcases hF.e with ⟨_,h⟩ | ⟨_,_,_,h,_⟩
  ·exact h
  ·rw [hrow] at h;cases h
 subst v6n
 have e0:decide (x≤(sAt b 0).fh)=true:=decide_eq_true hx.2
 have ad:∀ s,aAdd s .i64 x 1=.val (.int .i64 (x+1)) s:=fun s=>aAdd_i64 s _ _ (by omega)
 have ad0:∀ s,aAdd s .i64 (-1) 1=.val (.int .i64 0) s:=fun s=>by rw [aAdd_i64 s _ _ (by omega)];rfl
 have hFt:FactM t.h t.n bi f v5 .nilslice:=hF.move (fun c hc hd=>hg.same c hc hd) tn (by omega)
 obtain ⟨xo,hxo,hIo⟩:=hFt.o
 have v5s:scalars [v5]=true:=hIo.scal.1
 have v5c:cellsOf 1 v5=some [v5]:=hIo.scal.2
 simp (disch:=first|omega|(with_unfolding_all exact rfl)|(simp only[new_n,put_n,new_m];omega)|(refine put_m_le ?_;simp only[new_m];omega)) only [K6r20,K6r21,K6r22,K6l2,Abs.W,reduceIte,Nat.reduceEqDiff,Nat.reduceSub,Env.find_set,Nat.zero_add,Nat.add_zero,q3,q4,q9,q13,g3,g4,kv3,kv5,ad0,r2',r3,rh,e0]
 generalize hc1:call _ _ _ (.fn 14) _ _=r1'
 obtain ⟨w,t1,rfl,st1,hT⟩:=CopyTable_ex (bl:=bi) (e:=[]) hc1 (by omega) (.inl ⟨rfl,rfl⟩) (fun r hr=>by cases hr) (by show t.n+1000≤far;omega)
 have wn:w=.nilslice:=by
  rcases hT with ⟨_,h⟩ | ⟨_,_,_,_,h,_⟩
  ·exact h
  ·cases h
 subst wn
 have n1:t.n≤t1.n:=st1.n
 have k1':t1.n≤t.n+20:=st1.le
 have g1:∀ c,c<t.n→t1.h.get c=t.h.get c:=fun c hc=>st1.same c hc
 have m1':t1.m=far:=st1.m
 have g31:=(g1 u.n (by omega)).trans g3
 have g41:=(g1 (u.n+1) (by omega)).trans g4
 obtain ⟨y8,hy8⟩:∃ y8:St,y8=⟨t1.h,t1.n,minN t.m t1.m⟩:=⟨_,rfl⟩
 have y8n:y8.n=t1.n:=by rw [hy8]
 have y8h:y8.h=t1.h:=by rw [hy8]
 have y8m:y8.m=min t.m t1.m:=by rw [hy8];simp only [minN_eq]
 obtain ⟨y1,hy1⟩:∃ y1:St,y1=y8.new (.cells [.int .i64 x] 0):=⟨_,rfl⟩
 have y1n:y1.n=t1.n+1:=by rw [hy1];show y8.n+1=_;rw [y8n]
 have y1m:y1.m=y8.m:=by rw [hy1];rfl
 have y1g:∀ c,c<t1.n→y1.h.get c=t1.h.get c:=fun c hc=>by rw [hy1,get_new_ne _ _ _ (by omega),y8h]
 have y1p:y1.h.get t1.n=some (.cells [.int .i64 x] 0):=by rw [hy1,← y8n];exact get_new_eq _ _ _ rfl (by omega)
 obtain ⟨y,hy⟩:∃ y:St,y=y1.new (.cells [.slice t1.n 0 1 1 false] 0):=⟨_,rfl⟩
 have yn:y.n=t1.n+2:=by rw [hy];show y1.n+1=_;rw [y1n]
 have ym:y.m=y1.m:=by rw [hy];rfl
 have yg:∀ c,c<y1.n→y.h.get c=y1.h.get c:=fun c hc=>by rw [hy,get_new_ne _ _ _ (by omega)]
 have yp:y.h.get y1.n=some (.cells [.slice t1.n 0 1 1 false] 0):=by rw [hy];exact get_new_eq _ _ _ rfl (by omega)
 obtain ⟨s7,e7,l7,s7n,s7g,s7m,s7l⟩:=append_at (bytes:=24) (IsAt.nil y.h y.n y.n 1 (tag 22)) yp rfl rfl (by simp) (by kernel_rfl) (by omega)
 have e7':appendA false 1 24 (tag 22) y .nilslice (.slice y1.n 0 1 1 false)=.val (.slice y.n 0 1 1 true) s7:=e7
 simp (disch:=first|omega|(with_unfolding_all exact rfl)|(simp only[new_n,put_n,new_m];omega)|(refine put_m_le ?_;simp only[new_m];omega)) only [thenT_turn,Abs.W,reduceIte,Nat.reduceEqDiff,Nat.reduceSub,Env.find_set,q13]
 rw [← hy8,← hy1,← hy]
 have kvo:∀ t,okA (.val vo t)=.val vo t:=ha.okA
 simp (disch:=first|omega|(with_unfolding_all exact rfl)|(simp only[new_n,put_n,new_m];omega)|(refine put_m_le ?_;simp only[new_m];omega)) only [Abs.W,reduceIte,Nat.reduceEqDiff,Nat.reduceSub,Env.find_set,e7',q2,v5c]
 generalize hc2:call _ _ _ (.fn 6) _ _=r2'
 have hgn:=goOn_first fw h1 hrow
 have hmem:((f.1,[[x]]):Fc) ∈ (spanL (sAt b 0).fl (sAt b 0).fh).map fun n=>((f.1,[[n]]):Fc):=List.mem_map.mpr ⟨x,mem_spanL.mpr hx,rfl⟩
 have tfar:=hg.mle
 have gz:∀ c,c<t1.n→s7.h.get c=t1.h.get c:=fun c hc=>(s7g c (by omega) (by omega)).trans ((yg c (by omega)).trans (y1g c hc))
 have gz':∀ c,c<t.n→s7.h.get c=t.h.get c:=fun c hc=>(gz c (by omega)).trans (g1 c hc)
 have gt1:s7.h.get t1.n=some (.cells [.int .i64 x] 0):=(s7g t1.n (by omega) (by omega)).trans ((yg t1.n (by omega)).trans y1p)
 have hgr:Grow far t s7 30:=⟨fun c hc _=>gz' c hc,by omega,by omega,fun q z1 z2 z3=>s7m q (by omega) (by omega) (by omega),by omega⟩
 have J7:=J0.step hgr (by omega)
 have hFc:FactM s7.h s7.n bi (f.1,[[x]]) v5 (.slice y.n 0 1 1 true):=⟨hFt.o.move (fun c hc _=>gz' c hc) (by omega) (.inl rfl),.inr ⟨[x],.slice t1.n 0 1 1 false,y.n,rfl,by simp,by omega,l7,⟨t1.n,by omega,fun r hr=>by rw [List.mem_singleton.mp hr];rfl,false,0,rfl,by omega,gt1,fun h=>by cases h⟩⟩⟩
 obtain ⟨vo1,t2,bi1,rfl,J2⟩:=facts_next ih J7 hc2 ok fw (part_goes hp hgn _ hmem) (by have:=left_goes fw hp hgn _ hmem;omega) hB h0 hb h2 hFc hL (by omega)
 have k2:=J2.gr.le
 simp (disch:=first|omega|(with_unfolding_all exact rfl)|(simp only[new_n,put_n,new_m];omega)|(refine put_m_le ?_;simp only[new_m];omega)) only [Abs.W,reduceIte,Nat.reduceEqDiff]
 rw [endT_kept (l:=[3,148]) (s':=t1) (by simp only [keptAll_cons,keptAll_nil,find_cons,Env.find_set,q3,keptV_ptr,g3,g31,g4,g41,sameO_cells,reduceIte,Nat.reduceEqDiff,Bool.and_self])]
 rw [endO_ok _ (by
  rw [endOk_cons,endOk_cons,endOk_nil]
  all_goals
   simp only [find_cons,Env.find_set,q3,reduceIte,Nat.reduceEqDiff]
   rfl)]
 simp (disch:=first|omega|(with_unfolding_all exact rfl)|(simp only[new_n,put_n,new_m];omega)|(refine put_m_le ?_;simp only[new_m];omega)) only [Abs.W,reduceIte,Nat.reduceEqDiff,Env.find_set,q13,ad]
 refine ⟨_,t2,vo1,bi1,rfl,?_,?_,?_,?_,?_,J2.mono (by omega)⟩
 ·simp only [Env.find_set,reduceIte,Nat.reduceEqDiff]
 ·simp only [Env.find_set,q3,reduceIte,Nat.reduceEqDiff]
 ·simp only [Env.find_set,q4,reduceIte,Nat.reduceEqDiff]
 ·simp only [Env.find_set,q9,reduceIte,Nat.reduceEqDiff]
 ·simp only [Env.find_set,reduceIte,Nat.reduceEqDiff]
theorem facts_loop2 {M N:Nat} (ih:FactsOk M N) (hN:3≤N) {cx:Ctx} {u w:St} {bl n0:Nat} {b:Bench} {f:Fc} {v1 v2 v3 v4 v5 v6:AV} {L:List Fc} {vo:AV} {bi k:Nat} {E:Env} {r:R} (hr:loopN K6l2 rounds (call Try.prog X N) cx E [] w=r) (J:FactsJ u w bl b v1 v2 v3 v4 v5 v6 L vo bi k) (ok:b.Ok) (fw:Few b) (hp:Part b f) (h1:¬ f.1.length<b.ms.length) (hrow:f.2=[])
  (hB:BenchAt u.h n0 b v1 v2 v3 v4) (h0:n0≤u.n) (hb:n0≤bl) (h2:bl<u.n∨bl=far) (hF:FactM u.h u.n bl f v5 v6) (hl:left b f<M+1) (hL:L.length+5 ^ (M+1)≤20000) (hs:u.n+k+5 * (50+wide M)+10000≤far) {l:List Fc} (hg:goOn b f=some l)
  (q2:E.find 2=vo) (q3:E.find 3=.ptr u.n 0) (q4:E.find 4=.ptr (u.n+1) 0) (q9:E.find 9=.int .i64 (-1)) (q13:E.find 13=.int .i64 (sAt b 0).fl) :
  ∃ E1 t1 vo1 bi1,r=.done (.exit 4) E1 [] t1∧E1.find 2=vo1∧FactsJ u t1 bl b v1 v2 v3 v4 v5 v6 (L++l.flatMap fun c=>factsL b M c) vo1 bi1 (k+5 * (50+wide M)):=by
 have hf:far=1000000000:=rfl
 have wp:=wide_pos M
 have one:=fw.one
 have l5:=goOn_len fw hp hg
 have lE:l=(spanL (sAt b 0).fl (sAt b 0).fh).map fun n=>((f.1,[[n]]):Fc):=by
  rw [goOn_first fw h1 hrow] at hg;exact (Option.some.inj hg).symm
 have okS:=ok.sok _ (sAt_in (show 0<b.ss.length by omega))
 have o1:=okS.f1
 have ll:l.length=((sAt b 0).fh - (sAt b 0).fl+1).toNat:=by rw [lE,List.length_map,spanL_length]
 obtain ⟨e,E1,t1,rfl,rfl,vo1,bi1,f2,J1⟩:=loop_of hr (fun i E' t'=>E'.find 3=.ptr u.n 0∧E'.find 4=.ptr (u.n+1) 0∧E'.find 9=.int .i64 (-1)∧E'.find 13=.int .i64 ((sAt b 0).fl+(i:Int))∧∃ vo' bi',E'.find 2=vo'∧FactsJ u t' bl b v1 v2 v3 v4 v5 v6 (L++(l.take i).flatMap fun c=>factsL b M c) vo' bi' (k+i * (50+wide M)))
  (fun e E' t'=>e=.exit 4∧∃ vo' bi',E'.find 2=vo'∧FactsJ u t' bl b v1 v2 v3 v4 v5 v6 (L++l.flatMap fun c=>factsL b M c) vo' bi' (k+5 * (50+wide M))) l.length (by unfold rounds;omega)
  ⟨q3,q4,q9,by rw [q13];congr 1;omega,vo,bi,q2,by rw [List.take_zero,List.flatMap_nil,List.append_nil];exact J.mono (by omega)⟩
  (fun i E' t' hi ⟨p3,p4,p9,p13,vo',bi',p2,J'⟩=>by
   have hm5:i * (50+wide M)≤5 * (50+wide M):=Nat.mul_le_mul_right _ (by omega)
   by_cases hlt:i<l.length
   ·have hm6:(i+1) * (50+wide M)≤5 * (50+wide M):=Nat.mul_le_mul_right _ (by omega)
    rw [Nat.succ_mul] at hm6
    obtain ⟨E2,t2,vo2,bi2,z1,z2,z3,z4,z5,z6,z7⟩:=facts_round2 ih hN cx J' ok fw hp h1 hrow hB h0 hb h2 hF (x:=(sAt b 0).fl+(i:Int)) (by omega) hl (kids_len fw hp hg L M i hlt hL) (by omega) p2 p3 p4 p9 p13
    refine .inl ⟨hlt,E2,t2,z1,z3,z4,z5,by rw [z6];congr 1;omega,vo2,bi2,z2,?_⟩
    have hli:l[i]=(f.1,[[(sAt b 0).fl+(i:Int)]]):=by
     subst lE
     unfold spanL
     simp
    rw [take_flat hlt,← List.append_assoc,hli]
    exact z7.mono (by rw [Nat.succ_mul];omega)
   ·obtain rfl:i=l.length:=by omega
    rw [List.take_length] at J'
    obtain ⟨g3,g4,hgr,ha,hbp,hh,hn⟩:=J'
    have J':FactsJ u t' bl b v1 v2 v3 v4 v5 v6 (L++l.flatMap fun c=>factsL b M c) vo' bi' (k+l.length * (50+wide M)):=⟨g3,g4,hgr,ha,hbp,hh,hn⟩
    have hBt:BenchAt t'.h n0 b v1 v2 v3 v4:=hB.grow (fun c hc=>hgr.same c (by omega) (by omega)) (Nat.le_refl _)
    obtain ⟨x0,o0,cs,sz,r1,r2,r3,r4⟩:=hBt.s.at_ 0 (by rw [List.length_map];omega)
    rw [List.getElem_map,sAt_get (by omega)] at r4
    have r2':∀ s,ixsA 4 s v3 (.int .i64 0)=.val (.ptr x0 o0) s:=r2
    have rh:nth cs (o0+1)=.int .i64 (sAt b 0).fh:=cut_nth (i:=1) r4 (by omega)
    have kv3:∀ t,okA (.val v3 t)=.val v3 t:=fun t=>okA_ne hBt.s.ne
    have e0:decide ((sAt b 0).fl+(l.length:Int)≤(sAt b 0).fh)=false:=decide_eq_false (by omega)
    have ad0:∀ s,aAdd s .i64 (-1) 1=.val (.int .i64 0) s:=fun s=>by rw [aAdd_i64 s _ _ (by omega)];rfl
    have tn:=hgr.n
    have tl:=hgr.le
    refine .inr ⟨.exit 4,E'.set 144 (.bool false),t',by simp,?_,rfl,vo',bi',?_,J'.mono (by omega)⟩
    ·simp (disch:=first|omega|(with_unfolding_all exact rfl)|(simp only[new_n,put_n,new_m];omega)|(refine put_m_le ?_;simp only[new_m];omega)) only [K6r20,K6r21,K6r22,K6l2,Abs.W,reduceIte,Nat.reduceEqDiff,Nat.reduceSub,Env.find_set,Nat.zero_add,Nat.add_zero,p3,p9,p13,g3,ad0,kv3,r2',r3,rh,e0]
    ·simp only [Env.find_set,p2,reduceIte,Nat.reduceEqDiff])
 exact ⟨E1,t1,vo1,bi1,rfl,f2,J1⟩
end Go.Proofs.Ytkkdiibgjgnbhaa.walk
set_option maxRecDepth 10000
namespace Go.Proofs.Ytkkdiibgjgnbhaa.walk
open Go.Abs Go.Proofs.Ytkkdiibgjgnbhaa.code
theorem goOn_cases {b:Bench} {f:Fc} (fw:Few b) (hp:Part b f):f.1.length<b.ms.length∨(¬ f.1.length<b.ms.length∧((f.2=[]∧f.1.length=b.ms.length)∨∃ row,f.2=[row]∧row≠[]∧row.length≤b.days+1)):=by
 have one:=fw.one
 have l2:=hp.l2
 have l1:=hp.l1
 by_cases h:f.1.length<b.ms.length
 ·exact .inl h
 ·refine .inr ⟨h,?_⟩
  match hf:f.2 with
  | []=>exact .inl ⟨rfl,by omega⟩
  | [row] =>
   have r1:=hp.r1 0 (by rw [hf];simp)
   rw [hf] at r1
   exact .inr ⟨row,rfl,fun h=>by rw [h] at r1;simp at r1,r1.2⟩
  | _::_::_=>rw [hf] at l2;simp at l2;omega
theorem factsL_some {b:Bench} {f:Fc} {l:List Fc} (hg:goOn b f=some l) (M:Nat):factsL b (M+1) f=l.flatMap fun c=>factsL b M c:=by
 show (match goOn b f with | some l=>l.flatMap fun c=>factsL b M c | none=>_)=_
 rw [hg]
open Classical in
theorem factsL_none {b:Bench} {f:Fc} (hg:goOn b f=none) (M:Nat):factsL b (M+1) f=if Tells b f.1 f.2 then [f] else []:=by
 show (match goOn b f with | some l=>l.flatMap fun c=>factsL b M c | none=>_)=_
 rw [hg]
theorem facts_ok:∀ (M N:Nat),M+6≤N→FactsOk M N
 | 0,N,_=>by
  intro bl n0 b f L v1 v2 v3 v4 v5 v6 vo s r hr ok fw hp hl
  exact absurd hl (Nat.not_lt_zero _)
 | M+1,N,hN=>by
  intro bl n0 b f L v1 v2 v3 v4 v5 v6 vo s r hr ok fw hp hl hB h0 hb hbl hF hL hlen hs
  obtain ⟨n,rfl⟩:∃ n,N=n+1:=⟨N - 1,by omega⟩
  have ih:FactsOk M n:=facts_ok M n (by omega)
  have hf:far=1000000000:=rfl
  have wp:=wide_pos M
  have ws:=wide_succ M
  have one:=fw.one
  have l1:=hp.l1
  obtain ⟨v,t,e,st,bl',hq1,hq2,hq3⟩:=call_grow (n:=n) (args:=[.agg (benchV v1 v2 v3 v4 b.days),.agg [v5,v6],vo]) (d:=bl) (s:=s) (k:=wide (M+1)) (Q:=fun v h m=>∃ bl',FactsM h m bl' (L++factsL b (M+1) f) v∧(bl'=bl∨s.n≤bl')∧(bl'<m∨bl'=far)) Try.func6 rfl (fun u uh un um=>by
   rw [← uh] at hB
   rw [← un] at hs hbl h0 ⊢
   rw [← uh,← un] at hF hL
   have scB:=scB_of (hB.grow (fun _ _=>rfl) h0) u
   have scF:=hF.scal
   have kvo:∀ t,okA (.val vo t)=.val vo t:=hL.okA
   have kv1:∀ t,okA (.val v1 t)=.val v1 t:=fun t=>okA_ne hB.m.ne
   have kv3:∀ t,okA (.val v3 t)=.val v3 t:=fun t=>okA_ne hB.s.ne
   have kv5:∀ t,okA (.val v5 t)=.val v5 t:=fun t=>okA_ne hF.o.rows.ne
   have kv6:∀ t,okA (.val v6 t)=.val v6 t:=hF.at_.ok
   have lv5:∀ s,lenSlA s v5=.val (.int .i64 (f.1.length:Int)) s:=fun s=>by have:=hF.o.rows.len s;rw [intRows_len] at this;exact this
   have lv1:∀ s,lenSlA s v1=.val (.int .i64 (b.ms.length:Int)) s:=fun s=>by have:=hB.m.len s;rw [List.length_map] at this;exact this
   have lv3:∀ s,lenSlA s v3=.val (.int .i64 1) s:=fun s=>by have:=hB.s.len s;rw [List.length_map,one] at this;exact this
   rw [enter6]
   obtain ⟨w0,hw0⟩:∃ w0:St,w0=(u.new (.cells (benchV v1 v2 v3 v4 b.days) (tag 28))).new (.cells [v5,v6] (tag 36)):=⟨_,rfl⟩
   have w0n:w0.n=u.n+2:=by rw [hw0];rfl
   have w0g:∀ c,c<u.n→w0.h.get c=u.h.get c:=fun c hc=>by rw [hw0,get_new_ne _ _ _ (by simp only [new_n];omega),get_new_ne _ _ _ (by omega)]
   have w03:w0.h.get u.n=some (.cells (benchV v1 v2 v3 v4 b.days) (tag 28)):=by rw [hw0,get_new_ne _ _ _ (by simp only [new_n];omega)];exact get_new_eq _ _ _ rfl (by omega)
   have w04:w0.h.get (u.n+1)=some (.cells [v5,v6] (tag 36)):=by rw [hw0];exact get_new_eq _ _ _ rfl (by simp only [new_n];omega)
   have J0:FactsJ u w0 bl b v1 v2 v3 v4 v5 v6 L vo bl 2:=⟨w03,w04,by rw [hw0];exact ((Grow.refl bl u).new _).new _,hL.move (fun c hc=>w0g c hc) (by omega),.inl rfl,by omega,by omega⟩
   rcases goOn_cases fw hp with h1 | ⟨h1,h2⟩
   ·have hg:goOn b f=some ((spanL (mAt b f.1.length).lo (mAt b f.1.length).hi).map fun n=>(f.1++[n],[])):=by unfold goOn;rw [if_pos h1]
    have e0:decide ((f.1.length:Int)<(b.ms.length:Int))=true:=decide_eq_true (by omega)
    obtain ⟨x0,o0,cs,sz,r1,r2,r3,r4⟩:=hB.m.at_ f.1.length (by rw [List.length_map];exact h1)
    rw [List.getElem_map,mAt_get h1] at r4
    have rl:nth cs (o0+1)=.int .i64 (mAt b f.1.length).lo:=cut_nth (i:=1) r4 (by omega)
    have r3':=(w0g x0 (by omega)).trans r3
    simp (disch:=first|omega|(with_unfolding_all exact rfl)|(simp only[new_n,put_n,new_m];omega)|(refine put_m_le ?_;simp only[new_m];omega)) only [K6r0,K6r1,K6r2,K6r3,K6r7,K6r8,K6r9s12,K6r9s11,K6r9s10,K6r9s9,K6r9s8,K6r9s7,K6r9s6,K6r9s5,K6r9s4,K6r9,K6r10,K6r11,K6r17,K6r18,K6r19,K6r23,K6r24,K6r25,K6r26,K6,Abs.W,reduceIte,Nat.reduceEqDiff,Nat.reduceAdd,Nat.reduceSub,Nat.zero_add,Nat.add_zero]
    rw [← hw0]
    simp (disch:=first|omega|(with_unfolding_all exact rfl)|(simp only[new_n,put_n,new_m];omega)|(refine put_m_le ?_;simp only[new_m];omega)) only [Abs.W,reduceIte,Nat.reduceEqDiff,kLoop_def,Nat.reduceSub,w03,kv1,kv5,lv1,lv5,e0,r2,r3',rl,Nat.add_zero]
    generalize hlp:loopN _ rounds _ _ _ _ _=rl
    obtain ⟨E1,t1,vo1,bi1,rfl,f2,J1⟩:=facts_loop0 ih (by omega) hlp J0 ok fw hp h1 hB h0 hb hbl hF hl hlen (by omega) hg (by simp only [find_cons,reduceIte,Nat.reduceEqDiff]) (by simp only [find_cons,reduceIte,Nat.reduceEqDiff]) (by simp only [find_cons,reduceIte,Nat.reduceEqDiff];rfl) (by simp only [find_cons,reduceIte,Nat.reduceEqDiff]) (by simp only [find_cons,reduceIte,Nat.reduceEqDiff])
    rw [← factsL_some hg M] at J1
    have k1:=J1.gr.le
    have kv1':∀ t,okA (.val vo1 t)=.val vo1 t:=J1.fa.okA
    simp (disch:=first|omega|(with_unfolding_all exact rfl)|(simp only[new_n,put_n,new_m];omega)|(refine put_m_le ?_;simp only[new_m];omega)) only [res6,Abs.W,reduceIte,Nat.reduceEqDiff,Env.find_set,f2]
    exact ⟨vo1,t1,rfl,J1.gr.mono (by omega),⟨bi1,J1.fa,by have:=J1.bp;omega,J1.hi⟩,fun hp=>⟨bl,J1.fa.none hp,.inl rfl,hbl⟩⟩
   ·have e0:decide ((f.1.length:Int)<(b.ms.length:Int))=false:=decide_eq_false (by omega)
    rcases h2 with ⟨hrow,hml⟩ | ⟨row,hrow,rne,rlen⟩
    ·have v6n:v6=.nilslice:=by
      rcases hF.e with ⟨_,h⟩ | ⟨_,_,_,h,_⟩
      ·exact h
      ·rw [hrow] at h;cases h
     subst v6n
     have hg:=goOn_first fw h1 hrow
     obtain ⟨x0,o0,cs,sz,r1,r2,r3,r4⟩:=hB.s.at_ 0 (by rw [List.length_map];omega)
     rw [List.getElem_map,sAt_get (by omega)] at r4
     have r2':∀ s,ixsA 4 s v3 (.int .i64 0)=.val (.ptr x0 o0) s:=r2
     have rl:nth cs o0=.int .i64 (sAt b 0).fl:=cut_nth (i:=0) r4 (by omega)
     have r3':=(w0g x0 (by omega)).trans r3
     have sb0:∀ s,aSub s .i64 0 1=.val (.int .i64 (-1)) s:=fun s=>by rw [aSub_i64 s _ _ (by omega)];rfl
     have ad0:∀ s,aAdd s .i64 (-1) 1=.val (.int .i64 0) s:=fun s=>by rw [aAdd_i64 s _ _ (by omega)];rfl
     have d1:decide ((-1:Int) ≥ 0)=false:=by decide
     have d2:decide ((0:Int) ≤ -1)=false:=by decide
     have d3:decide ((0:Int)<1)=true:=by decide
     simp (disch:=first|omega|(with_unfolding_all exact rfl)|(simp only[new_n,put_n,new_m];omega)|(refine put_m_le ?_;simp only[new_m];omega)) only [K6r0,K6r1,K6r2,K6r3,K6r7,K6r8,K6r9s12,K6r9s11,K6r9s10,K6r9s9,K6r9s8,K6r9s7,K6r9s6,K6r9s5,K6r9s4,K6r9,K6r10,K6r11,K6r17,K6r18,K6r19,K6r23,K6r24,K6r25,K6r26,K6,Abs.W,reduceIte,Nat.reduceEqDiff,Nat.reduceAdd,Nat.reduceSub,Nat.zero_add,Nat.add_zero]
     rw [← hw0]
     simp only [new_n]
     simp (disch:=first|omega|(with_unfolding_all exact rfl)|(simp only[new_n,put_n,new_m];omega)|(refine put_m_le ?_;simp only[new_m];omega)) only [Abs.W,reduceIte,Nat.reduceEqDiff,kLoop_def,Nat.reduceSub,w03,w04,kv1,kv3,kv5,lv1,lv3,lv5,e0,sb0,ad0,d1,d3,r2',r3',rl,Nat.zero_add,Nat.add_zero]
     generalize hlp:loopN _ rounds _ _ _ _ _=rl
     obtain ⟨E1,t1,vo1,bi1,rfl,f2,J1⟩:=facts_loop2 ih (by omega) hlp J0 ok fw hp h1 hrow hB h0 hb hbl hF hl hlen (by omega) hg (by simp only [find_cons,reduceIte,Nat.reduceEqDiff]) (by simp only [find_cons,reduceIte,Nat.reduceEqDiff]) (by simp only [find_cons,reduceIte,Nat.reduceEqDiff]) (by simp only [find_cons,reduceIte,Nat.reduceEqDiff]) (by simp only [find_cons,reduceIte,Nat.reduceEqDiff])
     rw [← factsL_some hg M] at J1
     have k1:=J1.gr.le
     have kv1':∀ t,okA (.val vo1 t)=.val vo1 t:=J1.fa.okA
     simp (disch:=first|omega|(with_unfolding_all exact rfl)|(simp only[new_n,put_n,new_m];omega)|(refine put_m_le ?_;simp only[new_m];omega)) only [res6,Abs.W,reduceIte,Nat.reduceEqDiff,Env.find_set,f2]
     exact ⟨vo1,t1,rfl,J1.gr.mono (by omega),⟨bi1,J1.fa,by have:=J1.bp;omega,J1.hi⟩,fun hp=>⟨bl,J1.fa.none hp,.inl rfl,hbl⟩⟩
    ·obtain ⟨w,b',hbn,hI,hw⟩:∃ w b',b'≠bl∧IsAt u.h u.n b' 1 (tag 22) [[w]] v6∧RAt u.h u.n bl row w:=by
      rcases hF.e with ⟨h,_⟩ | ⟨row',w,b',h,_,h3,h4,h5⟩
      ·rw [hrow] at h;cases h
      ·rw [hrow] at h
       injection h with h
       subst h
       exact ⟨w,b',h3,h4,h5⟩
     obtain ⟨x1,p1,cw,zw,z1,z2,z3,z4⟩:=hI.rows.at_.at_ 0 (by simp)
     have i6:∀ s,ixsA 1 s v6 (.int .i64 0)=.val (.ptr x1 p1) s:=z2
     have z3':=(w0g x1 z1).trans z3
     have z4':nth cw p1=w:=cut1_nth z4
     have kw:∀ t,okA (.val w t)=.val w t:=fun t=>okA_ne hw.rows.ne
     have lw:∀ s,lenSlA s w=.val (.int .i64 (row.length:Int)) s:=fun s=>by have:=hw.rows.len s;rw [intRows_len] at this;exact this
     have lv6:∀ s,lenSlA s v6=.val (.int .i64 1) s:=fun s=>hI.rows.at_.len s
     have sb1:∀ s,aSub s .i64 1 1=.val (.int .i64 0) s:=fun s=>by rw [aSub_i64 s _ _ (by omega)];rfl
     have d1:decide ((0:Int)≤0)=true:=by decide
     by_cases hlen2:row.length≤b.days
     ·have hg:=goOn_row h1 hrow hlen2
      have d2:decide ((row.length:Int)≤(b.days:Int))=true:=decide_eq_true (by omega)
      obtain ⟨x0,o0,cs,sz,r1,r2,r3,r4⟩:=hB.s.at_ 0 (by rw [List.length_map];omega)
      rw [List.getElem_map,sAt_get (by omega)] at r4
      have r2':∀ s,ixsA 4 s v3 (.int .i64 0)=.val (.ptr x0 o0) s:=r2
      have rl:nth cs (o0+2)=.int .i64 (sAt b 0).dl:=cut_nth (i:=2) r4 (by omega)
      have r3':=(w0g x0 (by omega)).trans r3
      simp (disch:=first|omega|(with_unfolding_all exact rfl)|(simp only[new_n,put_n,new_m];omega)|(refine put_m_le ?_;simp only[new_m];omega)) only [K6r0,K6r1,K6r2,K6r3,K6r7,K6r8,K6r9s12,K6r9s11,K6r9s10,K6r9s9,K6r9s8,K6r9s7,K6r9s6,K6r9s5,K6r9s4,K6r9,K6r10,K6r11,K6r17,K6r18,K6r19,K6r23,K6r24,K6r25,K6r26,K6,Abs.W,reduceIte,Nat.reduceEqDiff,Nat.reduceAdd,Nat.reduceSub,Nat.zero_add,Nat.add_zero]
      rw [← hw0]
      simp only [new_n]
      simp (disch:=first|omega|(with_unfolding_all exact rfl)|(simp only[new_n,put_n,new_m];omega)|(refine put_m_le ?_;simp only[new_m];omega)) only [Abs.W,reduceIte,Nat.reduceEqDiff,kLoop_def,Nat.reduceSub,w03,w04,kv1,kv3,kv5,kv6,lv1,lv5,lv6,e0,sb1,d1,d2,i6,z3',z4',kw,lw,r2',r3',rl,Nat.zero_add,Nat.add_zero]
      generalize hlp:loopN _ rounds _ _ _ _ _=rl'
      obtain ⟨E1,t1,vo1,bi1,rfl,f2,J1⟩:=facts_loop1 ih (by omega) hlp J0 ok fw hp h1 hrow hlen2 hB h0 hb hbl hF hw hl hlen (by omega) hg (by simp only [find_cons,reduceIte,Nat.reduceEqDiff]) (by simp only [find_cons,reduceIte,Nat.reduceEqDiff]) (by simp only [find_cons,reduceIte,Nat.reduceEqDiff]) (by simp only [find_cons,reduceIte,Nat.reduceEqDiff]) (by simp only [find_cons,reduceIte,Nat.reduceEqDiff]) (by simp only [find_cons,reduceIte,Nat.reduceEqDiff])
      rw [← factsL_some hg M] at J1
      have k1:=J1.gr.le
      have kv1':∀ t,okA (.val vo1 t)=.val vo1 t:=J1.fa.okA
      simp (disch:=first|omega|(with_unfolding_all exact rfl)|(simp only[new_n,put_n,new_m];omega)|(refine put_m_le ?_;simp only[new_m];omega)) only [res6,Abs.W,reduceIte,Nat.reduceEqDiff,Env.find_set,f2]
      exact ⟨vo1,t1,rfl,J1.gr.mono (by omega),⟨bi1,J1.fa,by have:=J1.bp;omega,J1.hi⟩,fun hp=>⟨bl,J1.fa.none hp,.inl rfl,hbl⟩⟩
     ·have hg:goOn b f=none:=by
       unfold goOn
       rw [if_neg h1,hrow]
       rw [if_neg (by simp;omega),if_neg (by simp [one])]
      have hfits:=part_whole hp hg
      have d2:decide ((row.length:Int)≤(b.days:Int))=false:=decide_eq_false (by omega)
      have ad1:∀ s,aAdd s .i64 0 1=.val (.int .i64 1) s:=fun s=>by rw [aAdd_i64 s _ _ (by omega)];rfl
      have d3:decide ((1:Int)<1)=false:=by decide
      simp (disch:=first|omega|(with_unfolding_all exact rfl)|(simp only[new_n,put_n,new_m];omega)|(refine put_m_le ?_;simp only[new_m];omega)) only [K6r0,K6r1,K6r2,K6r3,K6r7,K6r8,K6r9s12,K6r9s11,K6r9s10,K6r9s9,K6r9s8,K6r9s7,K6r9s6,K6r9s5,K6r9s4,K6r9,K6r10,K6r11,K6r17,K6r18,K6r19,K6r23,K6r24,K6r25,K6r26,K6,Abs.W,reduceIte,Nat.reduceEqDiff,Nat.reduceAdd,Nat.reduceSub,Nat.zero_add,Nat.add_zero]
      rw [← hw0]
      simp only [new_n]
      simp (disch:=first|omega|(with_unfolding_all exact rfl)|(simp only[new_n,put_n,new_m];omega)|(refine put_m_le ?_;simp only[new_m];omega)) only [Abs.W,reduceIte,Nat.reduceEqDiff,Nat.reduceSub,w03,w04,kv1,kv3,kv5,kv6,lv1,lv3,lv5,lv6,e0,sb1,ad1,d1,d2,d3,i6,z3',z4',kw,lw,Nat.zero_add,Nat.add_zero]
      generalize hc:call _ _ _ (.fn 15) _ _=rc
      have hFw:FactM w0.h w0.n bl f v5 v6:=hF.move (fun c hc _=>w0g c hc) (by omega) (.inl rfl)
      obtain ⟨q,rfl,hq⟩:=Holding_exL (offs:=f.1) (errs:=f.2) hc (by omega) ok (fits_loose ok hfits) (hB.grow (fun c hc=>w0g c (by omega)) (by omega)) hFw.at_ (by omega)
      rw [factsL_none hg M]
      cases q with
      | false =>
       rw [if_neg (fun h=>by have:=hq.mpr h;cases this),List.append_nil]
       simp (disch:=first|omega|(with_unfolding_all exact rfl)|(simp only[new_n,put_n,new_m];omega)|(refine put_m_le ?_;simp only[new_m];omega)) only [res6,Abs.W,reduceIte,Nat.reduceEqDiff]
       exact ⟨vo,w0,rfl,J0.gr.mono (by omega),⟨bl,J0.fa,.inl rfl,J0.hi⟩,fun hp=>⟨bl,J0.fa.none hp,.inl rfl,hbl⟩⟩
      | true =>
       rw [if_pos (hq.mp rfl)]
       obtain ⟨y,hy⟩:∃ y:St,y=w0.new (.cells [v5,v6] 0):=⟨_,rfl⟩
       have yn:y.n=w0.n+1:=by rw [hy];rfl
       have ym:y.m=w0.m:=by rw [hy];rfl
       have yg:∀ c,c<w0.n→y.h.get c=w0.h.get c:=fun c hc=>by rw [hy,get_new_ne _ _ _ (by omega)]
       have yp:y.h.get w0.n=some (.cells [v5,v6] 0):=by rw [hy];exact get_new_eq _ _ _ rfl (by omega)
       have p5:=pow5_pos (M+1)
       obtain ⟨v',s',e1,e2,e3,e4,e5,e6⟩:=(J0.fa.move (h':=y.h) (n':=y.n) (fun c hc=>yg c hc) (by omega)).push (hFw.move (fun c hc _=>yg c hc) (by omega) (.inl rfl)) yp (by omega) (by omega)
       have kv':∀ t,okA (.val v' t)=.val v' t:=e2.okA
       rw [hy] at e1
       simp (disch:=first|omega|(with_unfolding_all exact rfl)|(simp only[new_n,put_n,new_m];omega)|(refine put_m_le ?_;simp only[new_m];omega)) only [res6,Abs.W,reduceIte,Nat.reduceEqDiff,Nat.reduceAdd,Nat.reduceSub,w04,e1,Nat.zero_add]
       have jm:=J0.gr.mle
       refine ⟨v',s',rfl,⟨fun c hc hcd=>(e4 c (by omega) hcd).trans ((yg c (by omega)).trans (w0g c hc)),by omega,by omega,fun x h1 h2 h3=>e5 x h1 (by omega) (by rw [ym];exact J0.gr.m x h1 h2 h3),by omega⟩,⟨y.n,e2,.inr (by omega),.inl (by omega)⟩,fun hp=>⟨bl,e2.none hp,.inl rfl,hbl⟩⟩) (by omega)
  exact ⟨v,t,bl',hr.symm.trans e,st,hq1,hq2,hq3⟩
end Go.Proofs.Ytkkdiibgjgnbhaa.walk
set_option maxRecDepth 10000
namespace Go.Proofs.Ytkkdiibgjgnbhaa.walk
open Go.Abs Go.Proofs.Ytkkdiibgjgnbhaa.code
theorem kEql_def (c:Cmp) (neg:Bool) (x y:Arg) (L:Env) (s:St):kEql c neg x y L s=eqlA c neg s (x.ev L) (y.ev L):=Eq.trans (Eq.refl _) (Eq.refl _)
theorem neqSpan (a b:Int) (s:St):eqlA (.row [(0,none,.int),(1,none,.int)]) true s (.agg [.int .i64 a,.int .i64 b]) (.agg [.int .i64 a,.int .i64 b])=.val (.bool false) s:=by
 simp [eqlA,Cmp.eq,Cmp.eqs,partS_one,nth_cons,eqI_eq]
noncomputable abbrev awl (n:Nat):CallF:=knows 9 (call Try.prog X n)
theorem lspan_ok (N:Nat) (hN:1≤N) (x y:Int) (s:St) (hs:s.n+100≤far):call Try.prog X N (.fn 10) [.int .i64 x,.int .i64 y] s=.val (.agg [.int .i64 x,.int .i64 y]) s:=by
 obtain ⟨n,rfl⟩:∃ n,N=n+1:=⟨N - 1,by omega⟩
 refine call_plain' Try.func10 (fun u uh un um=>?_) rfl
 have hf:far=1000000000:=rfl
 have sh2:shapeT Try.prog 44=some (some 2):=by kernel_rfl
 rw [enter10]
 simp (disch:=first|omega|(with_unfolding_all exact rfl)|(simp only[new_n,put_n,new_m];omega)|(refine put_m_le ?_;simp only[new_m];omega)) only [res10,K10r0,K10r1,K10,Abs.W,reduceIte,Nat.reduceEqDiff,Nat.reduceAdd,Nat.reduceSub,Nat.zero_add]
 refine ⟨_,leave_cell _ _ _ _ sh2 ?_,?_⟩
 ·simp only [find_cons,reduceIte,Nat.reduceEqDiff]
  rw [load_ptr,get_put_eq _ _ _ _ rfl (by omega),loadO_cells,partS_some]
  rfl
 ·simp only [St.put,minN_eq,new_m];omega
structure SpanJ (w t:St) (px:Nat) (x:Gap) (k:Nat):Prop where
 cell:t.h.get px=some (.cells [.int .i64 x.1,.int .i64 x.2] (tag 44))
 same:∀ c,c≠px→t.h.get c=w.h.get c
 n:t.n=w.n
 px:px<w.n
theorem all_round0 (N:Nat) (hN:1≤N) (cx:Ctx) {w t:St} {px bl i k:Nat} {L:List Fc} {vo:AV} {x:Gap} {E:Env} (J:SpanJ w t px x k) (hF:FactsM w.h w.n bl L vo) (hpb:∀ c,c<w.n→c≠px→t.h.get c=w.h.get c) (hpx:∀ h':Heap,(∀ c,c<w.n→c≠px→h'.get c=w.h.get c)→FactsM h' w.n bl L vo) (hk:k<L.length) (hi:∀ F ∈ L,i<F.1.length) (hL:L.length≤20000) (hs:w.n+1000≤far)
  (q4:E.find 4=vo) (q9:E.find 9=.int .i64 (i:Int)) (q10:E.find 10=.ptr px 0) (q11:E.find 11=.int .i64 (k:Int)) :
  ∃ E1 t1,K3l0 (awl N) cx E [] t=.done .norm E1 [] t1∧SpanJ w t1 px (min x.1 (L[k].1.getD i 0),max x.2 (L[k].1.getD i 0)) (k+1)∧E1.find 11=.int .i64 (k+1:Nat)∧∀ c,c<11→E1.find c=E.find c:=by
 have hf:far=1000000000:=rfl
 obtain ⟨jc,js,jn,jp⟩:=J
 have hFt:FactsM t.h w.n bl L vo:=hpx t.h hpb
 obtain ⟨v5,v6,p,c,sz,f1,f2,f3,f4,f5⟩:=hFt.get hk
 have n5:nth c p=v5:=by have:=cut_nth (i:=0) f5 (by omega);exact this
 obtain ⟨b2,p2,c2,s2,z1,z2,z3,z4⟩:=intRow_at f1.o.rows (i:=i) (hi _ (List.getElem_mem hk))
 have kv5:∀ t,okA (.val v5 t)=.val v5 t:=fun t=>okA_ne f1.o.rows.ne
 have kvo:∀ t,okA (.val vo t)=.val vo t:=hFt.okA
 have lvo:=hFt.len
 have e0:decide ((k:Int)<(L.length:Int))=true:=decide_eq_true (by omega)
 have ad:∀ s,aAdd s .i64 (k:Int) 1=.val (.int .i64 ((k:Int)+1)) s:=fun s=>aAdd_i64 s _ _ (by omega)
 have knS:∀ args s,awl N (.fn 10) args s=call Try.prog X N (.fn 10) args s:=fun _ _=>rfl
 simp (disch:=first|omega|(with_unfolding_all exact rfl)|(simp only[new_n,put_n,new_m];omega)|(refine put_m_le ?_;simp only[new_m];omega)) only [K3r13,K3r14,K3r15,K3l0,Abs.W,reduceIte,Nat.reduceEqDiff,Nat.reduceAdd,Nat.reduceSub,Env.find_set,Nat.zero_add,Nat.add_zero,q4,q9,q10,q11,lvo,e0,f3,f4,n5,kv5,z2,z3,z4,jc,knS,lspan_ok,kFold_def,foldA_nil,foldA_cons,minA_i64,maxA_i64,ad]
 refine ⟨_,_,rfl,⟨get_put_eq _ _ _ _ rfl (by omega),fun d hd=>(get_put_ne' _ _ _ _ hd).trans (js d hd),jn,jp⟩,by simp only [Env.find_set,reduceIte,Nat.reduceEqDiff];rfl,fun d hd=>?_⟩
 simp only [Env.find_set]
 rw [if_neg (by omega),if_neg (by omega)]
theorem all_loop0 (N:Nat) (hN:1≤N) {cx:Ctx} {w t:St} {px bl i:Nat} {L:List Fc} {vo:AV} {x:Gap} {E:Env} {r:R} (hr:loopN K3l0 rounds (awl N) cx E [] t=r) (J:SpanJ w t px x 0) (hF:FactsM w.h w.n bl L vo) (hpx:∀ h':Heap,(∀ c,c<w.n→c≠px→h'.get c=w.h.get c)→FactsM h' w.n bl L vo) (hi:∀ F ∈ L,i<F.1.length) (hL:L.length≤20000) (hs:w.n+1000≤far) (hx:Sofar L (fun F=>F.1.getD i 0) 0 x)
  (q4:E.find 4=vo) (q9:E.find 9=.int .i64 (i:Int)) (q10:E.find 10=.ptr px 0) (q11:E.find 11=.int .i64 (0:Nat)) :
  ∃ E1 t1 x1,r=.done (.exit 2) E1 [] t1∧SpanJ w t1 px x1 L.length∧Sofar L (fun F=>F.1.getD i 0) L.length x1∧∀ c,c<11→E1.find c=E.find c:=by
 have hf:far=1000000000:=rfl
 obtain ⟨e,E1,t1,rfl,rfl,x1,J1,hS,g⟩:=loop_of hr (fun k E' t'=>E'.find 11=.int .i64 (k:Int)∧(∃ x,SpanJ w t' px x k∧Sofar L (fun F=>F.1.getD i 0) k x)∧∀ c,c<11→E'.find c=E.find c)
  (fun e E' t'=>e=.exit 2∧∃ x,SpanJ w t' px x L.length∧Sofar L (fun F=>F.1.getD i 0) L.length x∧∀ c,c<11→E'.find c=E.find c) L.length (by unfold rounds;omega)
  ⟨q11,⟨x,J,hx⟩,fun _ _=>rfl⟩
  (fun k E' t' hk ⟨p11,⟨x,J',hx'⟩,g⟩=>by
   by_cases hlt:k<L.length
   ·obtain ⟨E2,t2,z1,z2,z3,z4⟩:=all_round0 N hN cx J' hF (fun c _ hc=>J'.same c hc) hpx hlt hi hL hs ((g 4 (by omega)).trans q4) ((g 9 (by omega)).trans q9) ((g 10 (by omega)).trans q10) p11
    exact .inl ⟨hlt,E2,t2,z1,z3,⟨_,z2,hx'.step hlt⟩,fun c hc=>(z4 c hc).trans (g c hc)⟩
   ·obtain rfl:k=L.length:=by omega
    have hFt:=hpx t'.h (fun c _ hc=>J'.same c hc)
    have kvo:∀ t,okA (.val vo t)=.val vo t:=hFt.okA
    have lvo:=hFt.len
    have e0:decide ((L.length:Int)<(L.length:Int))=false:=by simp
    have p4:=(g 4 (by omega)).trans q4
    refine .inr ⟨.exit 2,E'.set 89 (.bool false),t',by simp,?_,rfl,x,J',hx',fun c hc=>?_⟩
    ·simp (disch:=first|omega|(with_unfolding_all exact rfl)|(simp only[new_n,put_n,new_m];omega)|(refine put_m_le ?_;simp only[new_m];omega)) only [K3r13,K3r14,K3r15,K3l0,Abs.W,reduceIte,Nat.reduceEqDiff,Env.find_set,p4,p11,lvo,e0]
    ·simp only [Env.find_set]
     rw [if_neg (by omega)]
     exact g c hc)
 exact ⟨E1,t1,x1,rfl,J1,hS,g⟩
theorem all_round1 (N:Nat) (hN:1≤N) (cx:Ctx) {w t:St} {bl i:Nat} {L:List Fc} {G:List Gap} {vo vg:AV} {E:Env} (hF:FactsM w.h w.n bl L vo) (hG:RowsAt w.h w.n 2 (gapRow G) vg) (hwt:∀ c,c<w.n→t.h.get c=w.h.get c) (tn:w.n≤t.n) (hiG:i<G.length) (hG100:G.length≤100) (h0:0<L.length) (hi:∀ F ∈ L,i<F.1.length) (hL:L.length≤20000) (hs:t.n+2000≤far) (he:Ends L (fun F=>F.1.getD i 0) G[i])
  (q4:E.find 4=vo) (q5:E.find 5=vg) (q9:E.find 9=.int .i64 (i:Int)) :
  ∃ E1 t1,K3l1 (awl N) cx E [] t=.done .norm E1 [] t1∧(∀ c,c<w.n→t1.h.get c=w.h.get c)∧w.n≤t1.n∧t1.n≤t.n+1∧E1.find 9=.int .i64 (i+1:Nat)∧∀ c,c<9→E1.find c=E.find c:=by
 have hf:far=1000000000:=rfl
 have hFt:FactsM t.h t.n bl L vo:=hF.move hwt tn
 have hGt:=hG.grow hwt tn
 have lvg:=hGt.len
 rw [gapRow_len] at lvg
 have kvg:∀ t,okA (.val vg t)=.val vg t:=fun t=>okA_ne hGt.ne
 obtain ⟨x0,o0,cs,zs,r1,r2,r3,r4⟩:=hG.at_ i (by rw [gapRow_len];exact hiG)
 rw [gapRow_at _ _ _ hiG] at r4
 obtain ⟨v5,v6,p,c,sz,f1,f2,f3,f4,f5⟩:=hFt.get h0
 have f3':∀ s,ixsA 2 s vo (.int .i64 0)=.val (.ptr bl p) s:=f3
 have n5:nth c p=v5:=by have:=cut_nth (i:=0) f5 (by omega);exact this
 obtain ⟨b2,p2,c2,s2,z1,z2,z3,z4⟩:=intRow_at f1.o.rows (i:=i) (hi _ (List.getElem_mem h0))
 have kv5:∀ t,okA (.val v5 t)=.val v5 t:=fun t=>okA_ne f1.o.rows.ne
 have kvo:∀ t,okA (.val vo t)=.val vo t:=hFt.okA
 have e0:decide ((i:Int)<(G.length:Int))=true:=decide_eq_true (by omega)
 have ad:∀ s,aAdd s .i64 (i:Int) 1=.val (.int .i64 ((i:Int)+1)) s:=fun s=>aAdd_i64 s _ _ (by omega)
 have knS:∀ args s,awl N (.fn 10) args s=call Try.prog X N (.fn 10) args s:=fun _ _=>rfl
 simp (disch:=first|omega|(with_unfolding_all exact rfl)|(simp only[new_n,put_n,new_m];omega)|(refine put_m_le ?_;simp only[new_m];omega)) only [K3r10,K3r11,K3r12,K3r16,K3r17,K3r18,K3l1,Abs.W,reduceIte,Nat.reduceEqDiff,Nat.reduceAdd,kLoop_def,Nat.reduceSub,Env.find_set,Nat.zero_add,Nat.add_zero,q4,q5,q9,lvg,e0,f3',f4,n5,kv5,z2,z3,z4,knS,lspan_ok]
 generalize hlp:loopN _ rounds _ _ _ _ _=rl
 obtain ⟨y,E0,hy,hE0,hlp'⟩:=loop_start hlp
 have yn:y.n=t.n+1:=by rw [hy];rfl
 have yg:∀ c,c<t.n→y.h.get c=t.h.get c:=fun c hc=>by rw [hy,get_put_ne' _ _ _ _ (by omega),get_new_ne _ _ _ (by omega)]
 have yp:y.h.get t.n=some (.cells [.int .i64 (L[0].1.getD i 0),.int .i64 (L[0].1.getD i 0)] (tag 44)):=by rw [hy];exact get_put_eq _ _ _ _ rfl (by omega)
 clear hy hlp
 have hFy:FactsM y.h y.n bl L vo:=hFt.move yg (by omega)
 obtain ⟨E1,t1,x1,rfl,J1,hS,g⟩:=all_loop0 N hN (w:=y) (px:=t.n) (i:=i) (x:=(L[0].1.getD i 0,L[0].1.getD i 0)) hlp' ⟨yp,fun _ _=>rfl,rfl,by omega⟩ hFy (fun h' hh=>hFt.move (fun c hc=>(hh c (by omega) (by omega)).trans (yg c hc)) (by omega)) hi hL (by omega) ⟨⟨L[0],List.getElem_mem h0,rfl⟩,⟨L[0],List.getElem_mem h0,rfl⟩,fun j _ hj=>absurd hj (Nat.not_lt_zero _)⟩
  (by rw [hE0];simp only [Env.find_set,q4,reduceIte,Nat.reduceEqDiff]) (by rw [hE0];simp only [Env.find_set,q9,reduceIte,Nat.reduceEqDiff]) (by rw [hE0];simp only [Env.find_set,reduceIte,Nat.reduceEqDiff]) (by rw [hE0];simp only [Env.find_set,reduceIte,Nat.reduceEqDiff];rfl)
 have hx1:=hS.ends he
 subst hx1
 obtain ⟨jc,js,jn,jp⟩:=J1
 have p5:E1.find 5=vg:=(g 5 (by omega)).trans (by rw [hE0];simp only [Env.find_set,q5,reduceIte,Nat.reduceEqDiff])
 have p9:E1.find 9=.int .i64 (i:Int):=(g 9 (by omega)).trans (by rw [hE0];simp only [Env.find_set,q9,reduceIte,Nat.reduceEqDiff])
 have p10:E1.find 10=.ptr t.n 0:=(g 10 (by omega)).trans (by rw [hE0];simp only [Env.find_set,reduceIte,Nat.reduceEqDiff])
 have gw:∀ c,c<w.n→t1.h.get c=w.h.get c:=fun c hc=>(js c (by omega)).trans ((yg c (by omega)).trans (hwt c hc))
 have r3':=(gw x0 r1).trans r3
 simp (disch:=first|omega|(with_unfolding_all exact rfl)|(simp only[new_n,put_n,new_m];omega)|(refine put_m_le ?_;simp only[new_m];omega)) only [Abs.W,reduceIte,Nat.reduceEqDiff,Nat.reduceSub,Env.find_set,p5,p9,p10,r2,r3',r4,jc,kEql_def,neqSpan,ad]
 refine ⟨_,t1,rfl,gw,by omega,by omega,by simp only [Env.find_set,reduceIte,Nat.reduceEqDiff];rfl,fun d hd=>?_⟩
 simp only [Env.find_set]
 rw [if_neg (by omega),if_neg (by omega),g d (by omega),hE0]
 simp only [Env.find_set]
 rw [if_neg (by omega),if_neg (by omega),if_neg (by omega)]
theorem all_loop1 (N:Nat) (hN:1≤N) {cx:Ctx} {w:St} {bl:Nat} {L:List Fc} {G:List Gap} {vo vg:AV} {E:Env} {r:R} (hr:loopN K3l1 rounds (awl N) cx E [] w=r) (hF:FactsM w.h w.n bl L vo) (hG:RowsAt w.h w.n 2 (gapRow G) vg) (hG100:G.length≤100) (h0:0<L.length) (hi:∀ F ∈ L,F.1.length=G.length) (hL:L.length≤20000) (hs:w.n+3000≤far) (he:∀ i (h:i<G.length),Ends L (fun F=>F.1.getD i 0) G[i])
  (q4:E.find 4=vo) (q5:E.find 5=vg) (q9:E.find 9=.int .i64 (0:Nat)) :
  ∃ E1 t1,r=.done (.exit 0) E1 [] t1∧(∀ c,c<w.n→t1.h.get c=w.h.get c)∧w.n≤t1.n∧t1.n≤w.n+100∧∀ c,c<9→E1.find c=E.find c:=by
 have hf:far=1000000000:=rfl
 have lvg:=hG.len
 rw [gapRow_len] at lvg
 have kvg:∀ t,okA (.val vg t)=.val vg t:=fun t=>okA_ne hG.ne
 obtain ⟨e,E1,t1,rfl,rfl,g1,g2,g3,g⟩:=loop_of hr (fun i E' t'=>E'.find 9=.int .i64 (i:Int)∧(∀ c,c<w.n→t'.h.get c=w.h.get c)∧w.n≤t'.n∧t'.n≤w.n+i∧∀ c,c<9→E'.find c=E.find c)
  (fun e E' t'=>e=.exit 0∧(∀ c,c<w.n→t'.h.get c=w.h.get c)∧w.n≤t'.n∧t'.n≤w.n+100∧∀ c,c<9→E'.find c=E.find c) G.length (by unfold rounds;omega)
  ⟨q9,fun _ _=>rfl,Nat.le_refl _,Nat.le_refl _,fun _ _=>rfl⟩
  (fun i E' t' hk ⟨p9,g1,g2,g3,g⟩=>by
   have p4:=(g 4 (by omega)).trans q4
   have p5:=(g 5 (by omega)).trans q5
   by_cases hlt:i<G.length
   ·obtain ⟨E2,t2,z1,z2,z3,z4,z5,z6⟩:=all_round1 N hN cx hF hG g1 g2 hlt hG100 h0 (fun F hF'=>by rw [hi F hF'];exact hlt) hL (by omega) (he i hlt) p4 p5 p9
    exact .inl ⟨hlt,E2,t2,z1,z5,z2,z3,by omega,fun c hc=>(z6 c hc).trans (g c hc)⟩
   ·obtain rfl:i=G.length:=by omega
    have e0:decide ((G.length:Int)<(G.length:Int))=false:=by simp
    refine .inr ⟨.exit 0,E'.set 68 (.bool false),t',by simp,?_,rfl,g1,g2,by omega,fun c hc=>?_⟩
    ·simp (disch:=first|omega|(with_unfolding_all exact rfl)|(simp only[new_n,put_n,new_m];omega)|(refine put_m_le ?_;simp only[new_m];omega)) only [K3r10,K3r11,K3r12,K3r16,K3r17,K3r18,K3l1,Abs.W,reduceIte,Nat.reduceEqDiff,Env.find_set,p5,p9,lvg,e0]
    ·simp only [Env.find_set]
     rw [if_neg (by omega)]
     exact g c hc)
 exact ⟨E1,t1,rfl,g1,g2,g3,g⟩
end Go.Proofs.Ytkkdiibgjgnbhaa.walk
set_option maxRecDepth 10000
namespace Go.Proofs.Ytkkdiibgjgnbhaa.walk
open Go.Abs Go.Proofs.Ytkkdiibgjgnbhaa.code
theorem all_round2 (N:Nat) (hN:1≤N) (cx:Ctx) {w t:St} {px bl i k:Nat} {L:List Fc} {vo:AV} {x:Gap} {E:Env} (J:SpanJ w t px x k) (hF:FactsM w.h w.n bl L vo) (hpb:∀ c,c<w.n→c≠px→t.h.get c=w.h.get c) (hpx:∀ h':Heap,(∀ c,c<w.n→c≠px→h'.get c=w.h.get c)→FactsM h' w.n bl L vo) (hk:k<L.length) (hi:∀ F ∈ L,0<F.2.length∧i<(F.2.getD 0 []).length) (hL:L.length≤20000) (hs:w.n+1000≤far)
  (q4:E.find 4=vo) (q9:E.find 12=.int .i64 (i:Int)) (q10:E.find 13=.ptr px 0) (q11:E.find 14=.int .i64 (k:Int)) :
  ∃ E1 t1,K3l2 (awl N) cx E [] t=.done .norm E1 [] t1∧SpanJ w t1 px (min x.1 (errIn L[k].2 0 i),max x.2 (errIn L[k].2 0 i)) (k+1)∧E1.find 14=.int .i64 (k+1:Nat)∧∀ c,c<14→E1.find c=E.find c:=by
 have hf:far=1000000000:=rfl
 obtain ⟨jc,js,jn,jp⟩:=J
 have hFt:FactsM t.h w.n bl L vo:=hpx t.h hpb
 obtain ⟨v5,v6,p,c,sz,f1,f2,f3,f4,f5⟩:=hFt.get hk
 have n5:nth c (p+1)=v6:=cut_nth (i:=1) f5 (by omega)
 obtain ⟨b1,p1,c1,s1,vr,b2,p2,c2,s2,u1,u2,u3,u4,u5,z1,z2,z3,z4⟩:=f1.at_.err (k:=0) (d:=i) (hi _ (List.getElem_mem hk)).1 (hi _ (List.getElem_mem hk)).2
 have u2':∀ s,ixsA 1 s v6 (.int .i64 0)=.val (.ptr b1 p1) s:=u2
 have kv6:∀ t,okA (.val v6 t)=.val v6 t:=f1.at_.ok
 have kvo:∀ t,okA (.val vo t)=.val vo t:=hFt.okA
 have lvo:=hFt.len
 have e0:decide ((k:Int)<(L.length:Int))=true:=decide_eq_true (by omega)
 have ad:∀ s,aAdd s .i64 (k:Int) 1=.val (.int .i64 ((k:Int)+1)) s:=fun s=>aAdd_i64 s _ _ (by omega)
 have knS:∀ args s,awl N (.fn 10) args s=call Try.prog X N (.fn 10) args s:=fun _ _=>rfl
 simp (disch:=first|omega|(with_unfolding_all exact rfl)|(simp only[new_n,put_n,new_m];omega)|(refine put_m_le ?_;simp only[new_m];omega)) only [K3r23,K3r24,K3r25,K3l2,Abs.W,reduceIte,Nat.reduceEqDiff,Nat.reduceAdd,Nat.reduceSub,Env.find_set,Nat.zero_add,Nat.add_zero,q4,q9,q10,q11,lvo,e0,f3,f4,n5,kv6,u2',u3,u4,u5,z2,z3,z4,jc,knS,lspan_ok,kFold_def,foldA_nil,foldA_cons,minA_i64,maxA_i64,ad]
 refine ⟨_,_,rfl,⟨get_put_eq _ _ _ _ rfl (by omega),fun d hd=>(get_put_ne' _ _ _ _ hd).trans (js d hd),jn,jp⟩,by simp only [Env.find_set,reduceIte,Nat.reduceEqDiff];rfl,fun d hd=>?_⟩
 simp only [Env.find_set]
 rw [if_neg (by omega),if_neg (by omega)]
theorem all_loop2 (N:Nat) (hN:1≤N) {cx:Ctx} {w t:St} {px bl i:Nat} {L:List Fc} {vo:AV} {x:Gap} {E:Env} {r:R} (hr:loopN K3l2 rounds (awl N) cx E [] t=r) (J:SpanJ w t px x 0) (hF:FactsM w.h w.n bl L vo) (hpx:∀ h':Heap,(∀ c,c<w.n→c≠px→h'.get c=w.h.get c)→FactsM h' w.n bl L vo) (hi:∀ F ∈ L,0<F.2.length∧i<(F.2.getD 0 []).length) (hL:L.length≤20000) (hs:w.n+1000≤far) (hx:Sofar L (fun F=>errIn F.2 0 i) 0 x)
  (q4:E.find 4=vo) (q9:E.find 12=.int .i64 (i:Int)) (q10:E.find 13=.ptr px 0) (q11:E.find 14=.int .i64 (0:Nat)) :
  ∃ E1 t1 x1,r=.done (.exit 6) E1 [] t1∧SpanJ w t1 px x1 L.length∧Sofar L (fun F=>errIn F.2 0 i) L.length x1∧∀ c,c<14→E1.find c=E.find c:=by
 have hf:far=1000000000:=rfl
 obtain ⟨e,E1,t1,rfl,rfl,x1,J1,hS,g⟩:=loop_of hr (fun k E' t'=>E'.find 14=.int .i64 (k:Int)∧(∃ x,SpanJ w t' px x k∧Sofar L (fun F=>errIn F.2 0 i) k x)∧∀ c,c<14→E'.find c=E.find c)
  (fun e E' t'=>e=.exit 6∧∃ x,SpanJ w t' px x L.length∧Sofar L (fun F=>errIn F.2 0 i) L.length x∧∀ c,c<14→E'.find c=E.find c) L.length (by unfold rounds;omega)
  ⟨q11,⟨x,J,hx⟩,fun _ _=>rfl⟩
  (fun k E' t' hk ⟨p11,⟨x,J',hx'⟩,g⟩=>by
   by_cases hlt:k<L.length
   ·obtain ⟨E2,t2,z1,z2,z3,z4⟩:=all_round2 N hN cx J' hF (fun c _ hc=>J'.same c hc) hpx hlt hi hL hs ((g 4 (by omega)).trans q4) ((g 12 (by omega)).trans q9) ((g 13 (by omega)).trans q10) p11
    exact .inl ⟨hlt,E2,t2,z1,z3,⟨_,z2,hx'.step hlt⟩,fun c hc=>(z4 c hc).trans (g c hc)⟩
   ·obtain rfl:k=L.length:=by omega
    have hFt:=hpx t'.h (fun c _ hc=>J'.same c hc)
    have kvo:∀ t,okA (.val vo t)=.val vo t:=hFt.okA
    have lvo:=hFt.len
    have e0:decide ((L.length:Int)<(L.length:Int))=false:=by simp
    have p4:=(g 4 (by omega)).trans q4
    refine .inr ⟨.exit 6,E'.set 149 (.bool false),t',by simp,?_,rfl,x,J',hx',fun c hc=>?_⟩
    ·simp (disch:=first|omega|(with_unfolding_all exact rfl)|(simp only[new_n,put_n,new_m];omega)|(refine put_m_le ?_;simp only[new_m];omega)) only [K3r23,K3r24,K3r25,K3l2,Abs.W,reduceIte,Nat.reduceEqDiff,Env.find_set,p4,p11,lvo,e0]
    ·simp only [Env.find_set]
     rw [if_neg (by omega)]
     exact g c hc)
 exact ⟨E1,t1,x1,rfl,J1,hS,g⟩
theorem all_round3 (N:Nat) (hN:1≤N) (cx:Ctx) {w t:St} {bl i:Nat} {L:List Fc} {G:List Gap} {vo vg:AV} {E:Env} (hF:FactsM w.h w.n bl L vo) (hG:RowsAt w.h w.n 2 (gapRow G) vg) (hwt:∀ c,c<w.n→t.h.get c=w.h.get c) (tn:w.n≤t.n) (hiG:i<G.length) (hG100:G.length≤100) (h0:0<L.length) (hi:∀ F ∈ L,0<F.2.length∧i<(F.2.getD 0 []).length) (hL:L.length≤20000) (hs:t.n+2000≤far) (he:Ends L (fun F=>errIn F.2 0 i) G[i])
  (q4:E.find 4=vo) (q5:E.find 7=vg) (q9:E.find 12=.int .i64 (i:Int)) :
  ∃ E1 t1,K3l3 (awl N) cx E [] t=.done .norm E1 [] t1∧(∀ c,c<w.n→t1.h.get c=w.h.get c)∧w.n≤t1.n∧t1.n≤t.n+1∧E1.find 12=.int .i64 (i+1:Nat)∧∀ c,c<12→E1.find c=E.find c:=by
 have hf:far=1000000000:=rfl
 have hFt:FactsM t.h t.n bl L vo:=hF.move hwt tn
 have hGt:=hG.grow hwt tn
 have lvg:=hGt.len
 rw [gapRow_len] at lvg
 have kvg:∀ t,okA (.val vg t)=.val vg t:=fun t=>okA_ne hGt.ne
 obtain ⟨x0,o0,cs,zs,r1,r2,r3,r4⟩:=hG.at_ i (by rw [gapRow_len];exact hiG)
 rw [gapRow_at _ _ _ hiG] at r4
 obtain ⟨v5,v6,p,c,sz,f1,f2,f3,f4,f5⟩:=hFt.get h0
 have f3':∀ s,ixsA 2 s vo (.int .i64 0)=.val (.ptr bl p) s:=f3
 have n5:nth c (p+1)=v6:=cut_nth (i:=1) f5 (by omega)
 obtain ⟨b1,p1,c1,s1,vr,b2,p2,c2,s2,u1,u2,u3,u4,u5,z1,z2,z3,z4⟩:=f1.at_.err (k:=0) (d:=i) (hi _ (List.getElem_mem h0)).1 (hi _ (List.getElem_mem h0)).2
 have u2':∀ s,ixsA 1 s v6 (.int .i64 0)=.val (.ptr b1 p1) s:=u2
 have kv6:∀ t,okA (.val v6 t)=.val v6 t:=f1.at_.ok
 have kvo:∀ t,okA (.val vo t)=.val vo t:=hFt.okA
 have e0:decide ((i:Int)<(G.length:Int))=true:=decide_eq_true (by omega)
 have ad:∀ s,aAdd s .i64 (i:Int) 1=.val (.int .i64 ((i:Int)+1)) s:=fun s=>aAdd_i64 s _ _ (by omega)
 have knS:∀ args s,awl N (.fn 10) args s=call Try.prog X N (.fn 10) args s:=fun _ _=>rfl
 simp (disch:=first|omega|(with_unfolding_all exact rfl)|(simp only[new_n,put_n,new_m];omega)|(refine put_m_le ?_;simp only[new_m];omega)) only [K3r20,K3r21,K3r22,K3r26,K3r27,K3r28,K3l3,Abs.W,reduceIte,Nat.reduceEqDiff,Nat.reduceAdd,kLoop_def,Nat.reduceSub,Env.find_set,Nat.zero_add,q4,q5,q9,lvg,e0,f3',f4,n5,kv6,u2',u3,u4,u5,z2,z3,z4,knS,lspan_ok]
 generalize hlp:loopN _ rounds _ _ _ _ _=rl
 obtain ⟨y,E0,hy,hE0,hlp'⟩:=loop_start hlp
 have yn:y.n=t.n+1:=by rw [hy];rfl
 have yg:∀ c,c<t.n→y.h.get c=t.h.get c:=fun c hc=>by rw [hy,get_put_ne' _ _ _ _ (by omega),get_new_ne _ _ _ (by omega)]
 have yp:y.h.get t.n=some (.cells [.int .i64 (errIn L[0].2 0 i),.int .i64 (errIn L[0].2 0 i)] (tag 44)):=by rw [hy];exact get_put_eq _ _ _ _ rfl (by omega)
 clear hy hlp
 have hFy:FactsM y.h y.n bl L vo:=hFt.move yg (by omega)
 obtain ⟨E1,t1,x1,rfl,J1,hS,g⟩:=all_loop2 N hN (w:=y) (px:=t.n) (i:=i) (x:=(errIn L[0].2 0 i,errIn L[0].2 0 i)) hlp' ⟨yp,fun _ _=>rfl,rfl,by omega⟩ hFy (fun h' hh=>hFt.move (fun c hc=>(hh c (by omega) (by omega)).trans (yg c hc)) (by omega)) hi hL (by omega) ⟨⟨L[0],List.getElem_mem h0,rfl⟩,⟨L[0],List.getElem_mem h0,rfl⟩,fun j _ hj=>absurd hj (Nat.not_lt_zero _)⟩
  (by rw [hE0];simp only [Env.find_set,q4,reduceIte,Nat.reduceEqDiff]) (by rw [hE0];simp only [Env.find_set,q9,reduceIte,Nat.reduceEqDiff]) (by rw [hE0];simp only [Env.find_set,reduceIte,Nat.reduceEqDiff]) (by rw [hE0];simp only [Env.find_set,reduceIte,Nat.reduceEqDiff];rfl)
 have hx1:=hS.ends he
 subst hx1
 obtain ⟨jc,js,jn,jp⟩:=J1
 have p5:E1.find 7=vg:=(g 7 (by omega)).trans (by rw [hE0];simp only [Env.find_set,q5,reduceIte,Nat.reduceEqDiff])
 have p9:E1.find 12=.int .i64 (i:Int):=(g 12 (by omega)).trans (by rw [hE0];simp only [Env.find_set,q9,reduceIte,Nat.reduceEqDiff])
 have p10:E1.find 13=.ptr t.n 0:=(g 13 (by omega)).trans (by rw [hE0];simp only [Env.find_set,reduceIte,Nat.reduceEqDiff])
 have gw:∀ c,c<w.n→t1.h.get c=w.h.get c:=fun c hc=>(js c (by omega)).trans ((yg c (by omega)).trans (hwt c hc))
 have r3':=(gw x0 r1).trans r3
 simp (disch:=first|omega|(with_unfolding_all exact rfl)|(simp only[new_n,put_n,new_m];omega)|(refine put_m_le ?_;simp only[new_m];omega)) only [Abs.W,reduceIte,Nat.reduceEqDiff,Nat.reduceSub,Env.find_set,p5,p9,p10,r2,r3',r4,jc,kEql_def,neqSpan,ad]
 refine ⟨_,t1,rfl,gw,by omega,by omega,by simp only [Env.find_set,reduceIte,Nat.reduceEqDiff];rfl,fun d hd=>?_⟩
 simp only [Env.find_set]
 rw [if_neg (by omega),if_neg (by omega),g d (by omega),hE0]
 simp only [Env.find_set]
 rw [if_neg (by omega),if_neg (by omega),if_neg (by omega)]
theorem all_loop3 (N:Nat) (hN:1≤N) {cx:Ctx} {w:St} {bl:Nat} {L:List Fc} {G:List Gap} {vo vg:AV} {E:Env} {r:R} (hr:loopN K3l3 rounds (awl N) cx E [] w=r) (hF:FactsM w.h w.n bl L vo) (hG:RowsAt w.h w.n 2 (gapRow G) vg) (hG100:G.length≤100) (h0:0<L.length) (hi:∀ F ∈ L,0<F.2.length∧(F.2.getD 0 []).length=G.length) (hL:L.length≤20000) (hs:w.n+3000≤far) (he:∀ i (h:i<G.length),Ends L (fun F=>errIn F.2 0 i) G[i])
  (q4:E.find 4=vo) (q5:E.find 7=vg) (q9:E.find 12=.int .i64 (0:Nat)) :
  ∃ E1 t1,r=.done (.exit 4) E1 [] t1∧(∀ c,c<w.n→t1.h.get c=w.h.get c)∧w.n≤t1.n∧t1.n≤w.n+100∧∀ c,c<12→E1.find c=E.find c:=by
 have hf:far=1000000000:=rfl
 have lvg:=hG.len
 rw [gapRow_len] at lvg
 have kvg:∀ t,okA (.val vg t)=.val vg t:=fun t=>okA_ne hG.ne
 obtain ⟨e,E1,t1,rfl,rfl,g1,g2,g3,g⟩:=loop_of hr (fun i E' t'=>E'.find 12=.int .i64 (i:Int)∧(∀ c,c<w.n→t'.h.get c=w.h.get c)∧w.n≤t'.n∧t'.n≤w.n+i∧∀ c,c<12→E'.find c=E.find c)
  (fun e E' t'=>e=.exit 4∧(∀ c,c<w.n→t'.h.get c=w.h.get c)∧w.n≤t'.n∧t'.n≤w.n+100∧∀ c,c<12→E'.find c=E.find c) G.length (by unfold rounds;omega)
  ⟨q9,fun _ _=>rfl,Nat.le_refl _,Nat.le_refl _,fun _ _=>rfl⟩
  (fun i E' t' hk ⟨p9,g1,g2,g3,g⟩=>by
   have p4:=(g 4 (by omega)).trans q4
   have p5:=(g 7 (by omega)).trans q5
   by_cases hlt:i<G.length
   ·obtain ⟨E2,t2,z1,z2,z3,z4,z5,z6⟩:=all_round3 N hN cx hF hG g1 g2 hlt hG100 h0 (fun F hF'=>by have:=hi F hF';omega) hL (by omega) (he i hlt) p4 p5 p9
    exact .inl ⟨hlt,E2,t2,z1,z5,z2,z3,by omega,fun c hc=>(z6 c hc).trans (g c hc)⟩
   ·obtain rfl:i=G.length:=by omega
    have e0:decide ((G.length:Int)<(G.length:Int))=false:=by simp
    refine .inr ⟨.exit 4,E'.set 124 (.bool false),t',by simp,?_,rfl,g1,g2,by omega,fun c hc=>?_⟩
    ·simp (disch:=first|omega|(with_unfolding_all exact rfl)|(simp only[new_n,put_n,new_m];omega)|(refine put_m_le ?_;simp only[new_m];omega)) only [K3r20,K3r21,K3r22,K3r26,K3r27,K3r28,K3l3,Abs.W,reduceIte,Nat.reduceEqDiff,Env.find_set,p5,p9,lvg,e0]
    ·simp only [Env.find_set]
     rw [if_neg (by omega)]
     exact g c hc)
 exact ⟨E1,t1,rfl,g1,g2,g3,g⟩
end Go.Proofs.Ytkkdiibgjgnbhaa.walk
