/- Lettings that are made of numbers: LettingOf, whole. -/
import Derived.Test.YtbcjojljiochfaaM3
import Derived.Test.YtbcjojljiochfaaCodes
import Derived.Test.YtbcjojljiochfaaWalkAll
set_option linter.unusedSimpArgs false
set_option maxHeartbeats 16000000
set_option linter.unusedVariables false
set_option maxRecDepth 10000
namespace Go.Proofs.Ytbcjojljiochfaa.walk
open Go.Abs Go.Proofs.Ytbcjojljiochfaa.code
theorem nat_wishes {f:List Nat} {m:Nat} (h:∀ x ∈ f,x<m):∀ x ∈ f.map Int.ofNat,(0:Int)≤x∧x<m:=fun x hx=>by
 obtain ⟨y,hy,rfl⟩:=List.mem_map.mp hx
 have:=h y hy
 simp only [Int.ofNat_eq_natCast]
 omega
theorem app_round (N:Nat) (hN:8≤N) (cx:Ctx) {d p7 bS bA kk i many:Nat} {l:Letting} {vS vA:AV} {u t:St} {L:Env} (J:LetK u t d p7 l vS vA bS bA kk) (hl:l.appls.length≤7) (hk:1≤l.stalls.length∧l.stalls.length≤8) (hss:∀ s ∈ l.stalls,0≤s.least∧s.least≤1000) (hs:u.n+kk+9000≤far) (hum:u.m≤far) (hdm:d≤u.m) (hi:i<many) (hmany:many≤1000)
  (q0:L.find 0=.ptr d 0) (q7:L.find 7=.ptr p7 0) (q8:L.find 8=.int .i64 many) (q11:L.find 11=.int .i64 i) :
  ∃ L1 t1 A v1 b1,K12l2 (call Try.prog X N) cx L [] t=.done .norm L1 [] t1∧LetK u t1 d p7 ⟨l.stalls,l.appls++[A]⟩ vS v1 bS b1 (kk+110)∧L1.find 11=.int .i64 (i+1:Nat)∧∀ c,c<11→L1.find c=L.find c:=by
 have hf:far=1000000000:=rfl
 have jn:=J.n
 have jle:=J.le
 have jdp:=J.dp
 have e0:decide ((i:Int)<(many:Int))=true:=decide_eq_true (by omega)
 have ad:∀ s,aAdd s .i64 (i:Int) 1=.val (.int .i64 ((i:Int)+1)) s:=fun s=>aAdd_i64 s _ _ (by omega)
 rw [app_eq]
 simp (disch:=first|omega|(with_unfolding_all exact rfl)|(simp only[new_n,put_n,new_m];omega)|(refine put_m_le ?_;simp only[new_m];omega)) only [K12r11,K12r12,Abs.W,reduceIte,Nat.reduceEqDiff,Nat.reduceAdd,decide_true,decide_false,kLoop_def,Nat.reduceSub,List.cons_append,List.nil_append,List.append_nil,List.length_cons,List.length_nil,Env.find_set,Nat.zero_add,q0,q8,q11,e0]
 generalize hc1:call _ _ _ (.fn 15) _ _=r1
 obtain ⟨x1,t1,rfl,st1,d1,x10,x11⟩:=cast_ex hc1 (by omega) J.die (by omega) (by omega) (by omega)
 have n1:=st1.n
 have k1:=st1.le
 simp (disch:=first|omega|(with_unfolding_all exact rfl)|(simp only[new_n,put_n,new_m];omega)|(refine put_m_le ?_;simp only[new_m];omega)) only [Abs.W,reduceIte,Nat.reduceEqDiff,Nat.reduceAdd,decide_true,decide_false,kLoop_def,Nat.reduceSub,List.cons_append,List.nil_append,List.append_nil,List.length_cons,List.length_nil,Env.find_set,q0]
 generalize hc2:call _ _ _ (.fn 15) _ _=r2
 obtain ⟨x2,t2,rfl,st2,d2,x20,x21⟩:=cast_ex hc2 (by omega) d1 (by omega) (by omega) (by omega)
 have n2:=st2.n
 have k2:=st2.le
 simp (disch:=first|omega|(with_unfolding_all exact rfl)|(simp only[new_n,put_n,new_m];omega)|(refine put_m_le ?_;simp only[new_m];omega)) only [Abs.W,reduceIte,Nat.reduceEqDiff,Nat.reduceAdd,decide_true,decide_false,kLoop_def,Nat.reduceSub,List.cons_append,List.nil_append,List.append_nil,List.length_cons,List.length_nil,Env.find_set,q0]
 generalize hc3:call _ _ _ (.fn 15) _ _=r3
 obtain ⟨x3,t3,rfl,st3,d3,x30,x31⟩:=cast_ex hc3 (by omega) d2 (by omega) (by omega) (by omega)
 have n3:=st3.n
 have k3:=st3.le
 simp (disch:=first|omega|(with_unfolding_all exact rfl)|(simp only[new_n,put_n,new_m];omega)|(refine put_m_le ?_;simp only[new_m];omega)) only [Abs.W,reduceIte,Nat.reduceEqDiff,Nat.reduceAdd,decide_true,decide_false,kLoop_def,Nat.reduceSub,List.cons_append,List.nil_append,List.append_nil,List.length_cons,List.length_nil,Env.find_set,q0]
 generalize hc4:call _ _ _ (.fn 33) _ _=r4
 obtain ⟨x4,t4,rfl,st4,d4,hx4⟩:=one_ex [x2,x3] (b:=t3.n) (sz:=0) hc4 (by omega) (d3.keep (get_new_ne _ _ _ (by omega))) (by simp only [new_n];omega) (by simp only [new_n];omega) (get_new_eq _ _ _ rfl (by omega)) (by simp only [new_n];omega) (by omega) rfl (by omega) (by omega)
 have n4:=st4.n
 have k4:=st4.le
 simp only [new_n] at n4 k4
 have hx4':0≤x4∧x4≤1000000000:=by simp at hx4;omega
 simp (disch:=first|omega|(with_unfolding_all exact rfl)|(simp only[new_n,put_n,new_m];omega)|(refine put_m_le ?_;simp only[new_m];omega)) only [Abs.W,reduceIte,Nat.reduceEqDiff,Nat.reduceAdd,decide_true,decide_false,kLoop_def,Nat.reduceSub,List.cons_append,List.nil_append,List.append_nil,List.length_cons,List.length_nil,Env.find_set,q0,Nat.zero_add]
 have S4:Stir d t t4 1:=(((st1.trans st2).trans st3).new _).trans st4
 obtain ⟨y,hy⟩:∃ y:St,y=(t4.new (.cells [.int .i64 0,.int .i64 0,.nilslice,.nilslice] (tag 37))).put t4.n (.cells [.int .i64 x1,.int .i64 x4,.nilslice,.nilslice] (tag 37)):=⟨_,rfl⟩
 have Sy:Stir d t y 2:=by rw [hy];exact (S4.new _).put (by omega) _ (.inr (by omega))
 have yn:y.n=t4.n+1:=by rw [hy];rfl
 have yp:y.h.get t4.n=some (.cells [.int .i64 x1,.int .i64 x4,.nilslice,.nilslice] (tag 37)):=by rw [hy];exact get_put_eq _ _ _ _ rfl (by omega)
 have dy:Die d y.h:=d4.keep (by rw [hy,get_put_ne' _ _ _ _ (by omega),get_new_ne _ _ _ (by omega)])
 rw [← hy]
 have Jy:=J.stir Sy dy
 have y7:=Jy.g7
 have kS:∀ t,okA (.val vS t)=.val vS t:=J.own.st.okA
 have lS:∀ s,lenSlA s vS=.val (.int .i64 l.stalls.length) s:=J.own.at_.lenS
 simp (disch:=first|omega|(with_unfolding_all exact rfl)|(simp only[new_n,put_n,new_m];omega)|(refine put_m_le ?_;simp only[new_m];omega)) only [K12r13,Abs.W,reduceIte,Nat.reduceEqDiff,Nat.reduceAdd,decide_true,decide_false,kLoop_def,Nat.reduceSub,List.cons_append,List.nil_append,List.append_nil,List.length_cons,List.length_nil,Env.find_set,q0,q7,y7,kS,lS,Nat.zero_add]
 generalize hc5:call _ _ _ (.fn 34) _ _=r5
 obtain ⟨wv,f,t5,rfl,st5,d5,hfl,hperm,hblk⟩:=Shuffle_ex hc5 (by omega) dy (by omega) (by omega) (by omega)
 have n5:=st5.n
 have k5:=st5.le
 have p5:=(st5.same t4.n (by omega) (by omega)).trans yp
 have kw:∀ t,okA (.val wv t)=.val wv t:=hblk.okA
 have cw:cellsOf 1 wv=some [wv]:=hblk.cells
 have sw:scalars [wv]=true:=hblk.scals []
 simp (disch:=first|omega|(with_unfolding_all exact rfl)|(simp only[new_n,put_n,new_m];omega)|(refine put_m_le ?_;simp only[new_m];omega)) only [Abs.W,reduceIte,Nat.reduceEqDiff,Nat.reduceAdd,decide_true,decide_false,kLoop_def,Nat.reduceSub,List.cons_append,List.nil_append,List.append_nil,List.length_cons,List.length_nil,Env.find_set,p5,kw,cw,sw,Nat.zero_add]
 obtain ⟨z,hz⟩:∃ z:St,z=t5.put t4.n (.cells [.int .i64 x1,.int .i64 x4,wv,.nilslice] (tag 37)):=⟨_,rfl⟩
 rw [← hz]
 have zn:z.n=t5.n:=by rw [hz];rfl
 have Sz:Stir d t z 3:=by rw [hz];exact (Sy.trans st5).put (by omega) _ (.inr (by omega))
 have zp:z.h.get t4.n=some (.cells [.int .i64 x1,.int .i64 x4,wv,.nilslice] (tag 37)):=by rw [hz];exact get_put_eq _ _ _ _ rfl (by omega)
 have dz:Die d z.h:=d5.keep (by rw [hz,get_put_ne' _ _ _ _ (by omega)])
 have hwz:Sl (fun x=>t4.n<x) z.h z.n 1 (intRows (f.map Int.ofNat)) wv:=by
  refine (Sl.of_blk (no:=fun x=>t4.n<x) hblk (by omega) (fun e=>?_)).move (fun b h1 h2=>⟨by rw [hz,get_put_ne' _ _ _ _ (by omega)],h2⟩) (by omega)
  have:=natRows_len f
  rw [e] at this
  simp at this
  omega
 simp (disch:=first|omega|(with_unfolding_all exact rfl)|(simp only[new_n,put_n,new_m];omega)|(refine put_m_le ?_;simp only[new_m];omega)) only [K12r14,Abs.W,reduceIte,Nat.reduceEqDiff,Nat.reduceAdd,decide_true,decide_false,kLoop_def,Nat.reduceSub,List.cons_append,List.nil_append,List.append_nil,List.length_cons,List.length_nil,Env.find_set,q0,Nat.zero_add]
 generalize hc6:call _ _ _ (.fn 27) _ _=r6
 obtain ⟨bb,t6,rfl,st6,d6⟩:=once_ex hc6 (by omega) dz (by omega) (by omega) (by omega)
 have n6:=st6.n
 have k6:=st6.le
 have S6:=Sz.trans st6
 have p6:=(st6.same t4.n (by omega) (by omega)).trans zp
 have w6:=hwz.move (h':=t6.h) (n':=t6.n) (no':=fun x=>t4.n<x) (fun b h1 h2=>⟨st6.same b h1 (by omega),h2⟩) n6
 have nd:=perm_nodup hfl hperm
 have lt:=perm_lt hfl hperm
 cases bb with
 | false =>
  simp (disch:=first|omega|(with_unfolding_all exact rfl)|(simp only[new_n,put_n,new_m];omega)|(refine put_m_le ?_;simp only[new_m];omega)) only [Abs.W,reduceIte,Nat.reduceEqDiff,Nat.reduceAdd,decide_true,decide_false,kLoop_def,Nat.reduceSub,List.cons_append,List.nil_append,List.append_nil,List.length_cons,List.length_nil,Env.find_set,Nat.zero_add]
  generalize hq:appTail _ _ _ _ _=q9
  obtain ⟨L1,z1,A,v1,b1,rfl,J1,g1⟩:=app_tail N (by omega) (k:=3) hq J (S6.mono (by omega)) d6 (by omega) p6 w6 (by omega) (by omega) (nat_wishes lt) (ofNat_nodup nd) (by rw [List.length_map];omega) hss hl (by omega) hum hdm
   (by simp only [Env.find_set,q0,reduceIte,Nat.reduceEqDiff]) (by simp only [Env.find_set,q7,reduceIte,Nat.reduceEqDiff]) (by simp only [Env.find_set,reduceIte,Nat.reduceEqDiff])
  have f11:L1.find 11=.int .i64 i:=(g1 11 (by omega)).trans (by simp only [Env.find_set,q11,reduceIte,Nat.reduceEqDiff])
  simp (disch:=first|omega|(with_unfolding_all exact rfl)|(simp only[new_n,put_n,new_m];omega)|(refine put_m_le ?_;simp only[new_m];omega)) only [K12r21,Abs.W,reduceIte,Nat.reduceEqDiff,Nat.reduceAdd,decide_true,decide_false,kLoop_def,Nat.reduceSub,List.cons_append,List.nil_append,List.append_nil,List.length_cons,List.length_nil,Env.find_set,f11,ad]
  obtain ⟨a1,a2,a3,a4,a5,a6,a7,a8,a9,a10,a11⟩:=J1
  refine ⟨_,z1,_,v1,b1,rfl,⟨a1,a2,a3,a4,a5,a6,by omega,a8,a9,a10,a11⟩,by simp only [Env.find_set,reduceIte,Nat.reduceEqDiff];rfl,fun c hc=>?_⟩
  simp only [Env.find_set]
  rw [if_neg (by omega),g1 c (by omega)]
  simp only [Env.find_set]
  repeat rw [if_neg (by omega)]
 | true =>
  have lw:=rowLen w6.at_
  rw [List.length_map,hfl] at lw
  have adw:∀ s,aAdd s .i64 (l.stalls.length:Int) 1=.val (.int .i64 ((l.stalls.length:Int)+1)) s:=fun s=>aAdd_i64 s _ _ (by omega)
  simp (disch:=first|omega|(with_unfolding_all exact rfl)|(simp only[new_n,put_n,new_m];omega)|(refine put_m_le ?_;simp only[new_m];omega)) only [K12r15,thenT_turn,Abs.W,reduceIte,Nat.reduceEqDiff,Nat.reduceAdd,decide_true,decide_false,kLoop_def,Nat.reduceSub,List.cons_append,List.nil_append,List.append_nil,List.length_cons,List.length_nil,Env.find_set,q0,p6,kw,lw,adw,Nat.zero_add]
  generalize hc7:call _ _ _ (.fn 15) _ _=r7
  obtain ⟨x7,t7,rfl,st7,d7,x70,x71⟩:=cast_ex hc7 (by omega) d6 (by show d<t6.n;omega) (by show t6.n+100≤far;omega) (by omega)
  obtain ⟨cut,rfl⟩:∃ n:Nat,x7=n:=⟨x7.toNat,by omega⟩
  have n7:t6.n≤t7.n:=st7.n
  have k7:t7.n≤t6.n:=st7.le
  have g7':∀ c,c<t6.n→c≠d→t7.h.get c=t6.h.get c:=fun c hc hcd=>st7.same c hc hcd
  have p7':=(g7' t4.n (by omega) (by omega)).trans p6
  obtain ⟨v',hv1,hv2⟩:=w6.to (i:=cut) (by rw [intRows_len,List.length_map];omega)
  rw [intRows_take] at hv2
  have kv':=hv2.okA
  have cv':=hv2.scal.2.1
  have sv':=hv2.scal.1
  simp (disch:=first|omega|(with_unfolding_all exact rfl)|(simp only[new_n,put_n,new_m];omega)|(refine put_m_le ?_;simp only[new_m];omega)) only [thenT_turn,Abs.W,reduceIte,Nat.reduceEqDiff,Nat.reduceAdd,decide_true,decide_false,kLoop_def,Nat.reduceSub,List.cons_append,List.nil_append,List.append_nil,List.length_cons,List.length_nil,Env.find_set,q0,p7',kSlice_def,optEv_some,optEv_none,hv1,kv',cv',sv',Nat.zero_add]
  rw [endT_kept (l:=[71]) (s':=t7) (by simp only [keptAll_cons,keptAll_nil,find_cons,Env.find_set,keptV_ptr,p6,p7',sameO_cells,reduceIte,Nat.reduceEqDiff,Bool.and_self])]
  rw [endO_ok _ (endOk_nil _)]
  have S7:Stir d t6 ⟨t7.h,t7.n,minN t6.m t7.m⟩ 0:=st7.draw (by omega)
  obtain ⟨z2,hz2⟩:∃ z2:St,z2=(⟨t7.h,t7.n,minN t6.m t7.m⟩:St).put t4.n (.cells [.int .i64 x1,.int .i64 x4,v',.nilslice] (tag 37)):=⟨_,rfl⟩
  have z2n:z2.n=t7.n:=by rw [hz2];rfl
  have Sz2:Stir d t z2 3:=by rw [hz2];exact ((S6.trans S7).mono (by omega)).put (by omega) _ (.inr (by omega))
  have z2p:z2.h.get t4.n=some (.cells [.int .i64 x1,.int .i64 x4,v',.nilslice] (tag 37)):=by rw [hz2];exact get_put_eq _ _ _ _ rfl (by show t4.n<_;omega)
  have dz2:Die d z2.h:=d7.keep (by rw [hz2,get_put_ne' _ _ _ _ (by omega)])
  have w7:=hv2.move (h':=z2.h) (n':=z2.n) (no':=fun x=>t4.n<x) (fun b h1 h2=>⟨by rw [hz2,get_put_ne' _ _ _ _ (by omega)];exact g7' b h1 (by omega),h2⟩) (by omega)
  rw [← hz2]
  simp (disch:=first|omega|(with_unfolding_all exact rfl)|(simp only[new_n,put_n,new_m];omega)|(refine put_m_le ?_;simp only[new_m];omega)) only [Abs.W,reduceIte,Nat.reduceEqDiff,Nat.reduceAdd,decide_true,decide_false,kLoop_def,Nat.reduceSub,List.cons_append,List.nil_append,List.append_nil,List.length_cons,List.length_nil,Env.find_set,Nat.zero_add]
  generalize hq:appTail _ _ _ _ _=q9
  obtain ⟨L1,z1,A,v1,b1,rfl,J1,g1⟩:=app_tail N (by omega) (k:=3) hq J Sz2 dz2 (by omega) z2p w7 (by omega) (by omega) (fun x hx=>nat_wishes lt x (List.mem_of_mem_take hx)) ((ofNat_nodup nd).sublist (List.take_sublist ..)) (by rw [List.length_take,List.length_map];omega) hss hl (by omega) hum hdm
   (by simp only [Env.find_set,q0,reduceIte,Nat.reduceEqDiff]) (by simp only [Env.find_set,q7,reduceIte,Nat.reduceEqDiff]) (by simp only [Env.find_set,reduceIte,Nat.reduceEqDiff])
  have f11:L1.find 11=.int .i64 i:=(g1 11 (by omega)).trans (by simp only [Env.find_set,q11,reduceIte,Nat.reduceEqDiff])
  simp (disch:=first|omega|(with_unfolding_all exact rfl)|(simp only[new_n,put_n,new_m];omega)|(refine put_m_le ?_;simp only[new_m];omega)) only [K12r21,Abs.W,reduceIte,Nat.reduceEqDiff,Nat.reduceAdd,decide_true,decide_false,kLoop_def,Nat.reduceSub,List.cons_append,List.nil_append,List.append_nil,List.length_cons,List.length_nil,Env.find_set,f11,ad]
  obtain ⟨a1,a2,a3,a4,a5,a6,a7,a8,a9,a10,a11⟩:=J1
  refine ⟨_,z1,_,v1,b1,rfl,⟨a1,a2,a3,a4,a5,a6,by omega,a8,a9,a10,a11⟩,by simp only [Env.find_set,reduceIte,Nat.reduceEqDiff];rfl,fun c hc=>?_⟩
  simp only [Env.find_set]
  rw [if_neg (by omega),g1 c (by omega)]
  simp only [Env.find_set]
  repeat rw [if_neg (by omega)]
theorem app_loop (N:Nat) (hN:8≤N) {cx:Ctx} {d p7 bS bA kk many:Nat} {ss:List StallR} {vS vA:AV} {u w:St} {L:Env} {r:R} (hr:loopN K12l2 rounds (call Try.prog X N) cx L [] w=r) (J:LetK u w d p7 ⟨ss,[]⟩ vS vA bS bA kk) (hk:1≤ss.length∧ss.length≤8) (hss:∀ s ∈ ss,0≤s.least∧s.least≤1000) (hs:u.n+kk+20000≤far) (hum:u.m≤far) (hdm:d≤u.m) (hmany:many≤8)
  (q0:L.find 0=.ptr d 0) (q7:L.find 7=.ptr p7 0) (q8:L.find 8=.int .i64 many) (q11:L.find 11=.int .i64 (0:Nat)) :
  ∃ L1 t1 aps v1 b1,r=.done (.exit 2) L1 [] t1∧LetK u t1 d p7 ⟨ss,aps⟩ vS v1 bS b1 (kk+880)∧aps.length=many∧∀ c,c<11→L1.find c=L.find c:=by
 have hf:far=1000000000:=rfl
 obtain ⟨e,L1,t1,rfl,rfl,aps,v1,b1,h1,h3,h5⟩:=loop_of hr (fun j L' t'=>∃ aps v1 b1,LetK u t' d p7 ⟨ss,aps⟩ vS v1 bS b1 (kk+110 * j)∧aps.length=j∧L'.find 11=.int .i64 (j:Nat)∧∀ c,c<11→L'.find c=L.find c)
  (fun e L' t'=>e=.exit 2∧∃ aps v1 b1,LetK u t' d p7 ⟨ss,aps⟩ vS v1 bS b1 (kk+880)∧aps.length=many∧∀ c,c<11→L'.find c=L.find c) many (by unfold rounds;omega)
  ⟨[],vA,bA,J,rfl,q11,fun _ _=>rfl⟩
  (fun j L' t' hj ⟨aps,v1,b1,hJ,hb3,p11,g⟩=>by
   have p8:=(g 8 (by omega)).trans q8
   by_cases hlt:j<many
   ·obtain ⟨L2,t2,A,v2,b2,z1,z2,z6,z7⟩:=app_round N hN cx (i:=j) hJ (by show aps.length≤7;omega) hk hss (by omega) hum hdm hlt (by omega) ((g 0 (by omega)).trans q0) ((g 7 (by omega)).trans q7) p8 p11
    exact .inl ⟨hlt,L2,t2,z1,aps++[A],v2,b2,z2,by simp [hb3],z6,fun c hc=>(z7 c hc).trans (g c hc)⟩
   ·obtain rfl:j=many:=by omega
    have e0:decide ((j:Int)<(j:Int))=false:=by simp
    refine .inr ⟨.exit 2,L'.set 50 (.bool false),t',by simp,?_,rfl,aps,v1,b1,?_,hb3,fun c hc=>?_⟩
    ·rw [app_eq]
     simp (disch:=first|omega|(with_unfolding_all exact rfl)|(simp only[new_n,put_n,new_m];omega)|(refine put_m_le ?_;simp only[new_m];omega)) only [K12r11,Abs.W,reduceIte,Nat.reduceEqDiff,Nat.reduceAdd,decide_true,decide_false,kLoop_def,Nat.reduceSub,List.cons_append,List.nil_append,List.append_nil,List.length_cons,List.length_nil,Env.find_set,p8,p11,e0]
    ·obtain ⟨a1,a2,a3,a4,a5,a6,a7,a8,a9,a10,a11⟩:=hJ
     exact ⟨a1,a2,a3,a4,a5,a6,by omega,a8,a9,a10,a11⟩
    ·simp only [Env.find_set]
     rw [if_neg (by omega)]
     exact g c hc)
 exact ⟨L1,t1,aps,v1,b1,rfl,h1,h3,h5⟩
theorem LettingOf_ex {N d k m:Nat} {s:St} {r:ARes} (hr:call Try.prog X N (.fn 12) [.ptr d 0,.int .i64 (k:Int),.int .i64 (m:Int)] s=r) (hN:9≤N) (hd:Die d s.h) (hlt:d<s.n) (hk:1≤k∧k≤8) (hm:m≤8) (hs:s.n+30000≤far) :
  ∃ (l:Letting) (vS vA:AV) (bS bA:Nat) (t:St),r=.val (.agg (letV vS vA)) t∧Stir d s t 1000∧Die d t.h∧l.Ok∧l.stalls.length≤k∧l.appls.length≤m∧LetOwn t.h t.n s.n bS bA l vS vA:=by
 obtain ⟨n,rfl⟩:∃ n,N=n+1:=⟨N - 1,by omega⟩
 have hf:far=1000000000:=rfl
 obtain ⟨v,t,e,st,l,vS,vA,bS,bA,rfl,hq1,hq2,hq3,hq4,hq5⟩:=call_stir (n:=n) (args:=[.ptr d 0,.int .i64 (k:Int),.int .i64 (m:Int)]) (d:=d) (s:=s) (k:=1000) (Q:=fun w h n=>∃ (l:Letting) (vS vA:AV) (bS bA:Nat),w=.agg (letV vS vA)∧Die d h∧l.Ok∧l.stalls.length≤k∧l.appls.length≤m∧LetOwn h n s.n bS bA l vS vA) Try.func12 rfl (fun u uh un um=>by
  rw [← uh] at hd
  rw [← un] at hlt ⊢
  have adm:∀ s,aAdd s .i64 (m:Int) 1=.val (.int .i64 ((m:Int)+1)) s:=fun s=>aAdd_i64 s _ _ (by omega)
  rw [enter12]
  obtain ⟨w0,hw0⟩:∃ w0:St,w0=(u.new (.cells [.nilslice,.nilslice] (tag 28))).new (.cells [.nilslice,.nilslice] (tag 28)):=⟨_,rfl⟩
  have w0n:w0.n=u.n+2:=by rw [hw0];rfl
  have w0m:w0.m=far:=by rw [hw0];exact um
  have w0g:∀ c,c<u.n→w0.h.get c=u.h.get c:=fun c hc=>by rw [hw0,get_new_ne _ _ _ (by simp only [new_n];omega),get_new_ne _ _ _ (by omega)]
  have w01:w0.h.get (u.n+1)=some (.cells [.nilslice,.nilslice] (tag 28)):=by rw [hw0];exact get_new_eq _ _ _ rfl (by simp only [new_n];omega)
  have w00:w0.h.get u.n=some (.cells [.nilslice,.nilslice] (tag 28)):=by rw [hw0,get_new_ne _ _ _ (by simp only [new_n];omega)];exact get_new_eq _ _ _ rfl (by omega)
  simp (disch:=first|omega|(with_unfolding_all exact rfl)|(simp only[new_n,put_n,new_m];omega)|(refine put_m_le ?_;simp only[new_m];omega)) only [K12,K12r0,K12r1,K12r2,Abs.W,reduceIte,Nat.reduceEqDiff,Nat.reduceAdd,decide_true,decide_false,kLoop_def,Nat.reduceSub,List.cons_append,List.nil_append,List.append_nil,List.length_cons,List.length_nil,Env.find_set,adm]
  rw [← hw0]
  simp only [new_n]
  generalize hc1:call _ _ _ (.fn 15) _ _=r1
  obtain ⟨x1,t1,rfl,st1,d1,x10,x11⟩:=cast_ex hc1 (by omega) (hd.keep (w0g d hlt)) (by omega) (by omega) (by omega)
  obtain ⟨many,rfl⟩:∃ n:Nat,x1=n:=⟨x1.toNat,by omega⟩
  have n1:=st1.n
  have k1:=st1.le
  simp (disch:=first|omega|(with_unfolding_all exact rfl)|(simp only[new_n,put_n,new_m];omega)|(refine put_m_le ?_;simp only[new_m];omega)) only [K12r3,Abs.W,reduceIte,Nat.reduceEqDiff,Nat.reduceAdd,decide_true,decide_false,kLoop_def,Nat.reduceSub,List.cons_append,List.nil_append,List.append_nil,List.length_cons,List.length_nil,Env.find_set]
  generalize hc2:call _ _ _ (.fn 26) _ _=r2
  obtain ⟨x2,t2,rfl,st2,d2,x20,x21⟩:=from_ex hc2 (by omega) d1 (by omega) (by omega) (by omega) (by omega) (by omega) (by omega)
  obtain ⟨i,rfl⟩:∃ n:Nat,x2=n:=⟨x2.toNat,by omega⟩
  have n2:=st2.n
  have k2:=st2.le
  have S2:=st1.trans st2
  have dm2:=S2.m (by omega)
  have g2:∀ c,c<w0.n→c≠d→t2.h.get c=w0.h.get c:=S2.same
  simp (disch:=first|omega|(with_unfolding_all exact rfl)|(simp only[new_n,put_n,new_m];omega)|(refine put_m_le ?_;simp only[new_m];omega)) only [Abs.W,reduceIte,Nat.reduceEqDiff,Nat.reduceAdd,decide_true,decide_false,kLoop_def,Nat.reduceSub,List.cons_append,List.nil_append,List.append_nil,List.length_cons,List.length_nil,Env.find_set]
  generalize hl1:loopN _ rounds _ _ _ _ _=rl1
  have J0:LetJ t2 t2 d (u.n+1) [] many .nilslice (far+1) 0:=⟨d2,(g2 _ (by omega) (by omega)).trans w01,IsAt.nil _ _ _ _ _,by omega,fun _ _ _=>rfl,by omega,by omega,fun h=>h,Nat.le_refl _,by omega,fun s hs=>by cases hs⟩
  obtain ⟨L1,t3,ss,vS,bS,rfl,J3,hsl,g3⟩:=let_loop n (by omega) hl1 J0 (i:=i) (by omega) (by omega) (by have:=S2.mle;omega) (by omega) (by simp only [find_cons,Env.find_set,reduceIte,Nat.reduceEqDiff]) (by simp only [find_cons,Env.find_set,reduceIte,Nat.reduceEqDiff]) (by simp only [find_cons,Env.find_set,reduceIte,Nat.reduceEqDiff]) (by simp only [find_cons,Env.find_set,reduceIte,Nat.reduceEqDiff])
  obtain ⟨jd,j7,ji,jlo,js,jn,jle,jm,jml,jdp,jok⟩:=J3
  have bSlt:bS<t3.n:=by
   rcases ji.is with ⟨z,_⟩ | ⟨_,z,_⟩
   ·rw [List.map_eq_nil_iff.mp z] at hsl;simp at hsl;omega
   ·exact z
  have S2m:=S2.mle
  have jm3:=jm dm2
  simp (disch:=first|omega|(with_unfolding_all exact rfl)|(simp only[new_n,put_n,new_m];omega)|(refine put_m_le ?_;simp only[new_m];omega)) only [K12r10,Abs.W,reduceIte,Nat.reduceEqDiff,Nat.reduceAdd,decide_true,decide_false,kLoop_def,Nat.reduceSub,List.cons_append,List.nil_append,List.append_nil,List.length_cons,List.length_nil,Env.find_set]
  generalize hl2:loopN _ rounds _ _ _ _ _=rl2
  have J1:LetK t3 t3 d (u.n+1) ⟨ss,[]⟩ vS .nilslice bS (far+1) 0:=⟨jd,j7,⟨ji,⟨[],rfl,IsAt.nil _ _ _ _ _,fun i h1 _=>by simp at h1⟩,by omega,by omega,by omega⟩,⟨.inl bSlt,.inr (by omega)⟩,fun _ _ _=>rfl,by omega,by omega,fun h=>h,Nat.le_refl _,by omega,fun a ha=>by cases ha⟩
  have f0:L1.find 0=.ptr d 0:=(g3 0 (by omega)).trans (by simp only [find_cons,Env.find_set,reduceIte,Nat.reduceEqDiff])
  have f6:L1.find 6=.ptr u.n 0:=(g3 6 (by omega)).trans (by simp only [find_cons,Env.find_set,reduceIte,Nat.reduceEqDiff])
  have f7:L1.find 7=.ptr (u.n+1) 0:=(g3 7 (by omega)).trans (by simp only [find_cons,Env.find_set,reduceIte,Nat.reduceEqDiff])
  have f8:L1.find 8=.int .i64 many:=(g3 8 (by omega)).trans (by simp only [find_cons,Env.find_set,reduceIte,Nat.reduceEqDiff])
  obtain ⟨L2,t4,aps,vA,bA,rfl,J4,hal,g4⟩:=app_loop n (by omega) hl2 J1 (by show 1≤ss.length∧ss.length≤8;omega) (fun s hs=>⟨(jok s hs).l0,(jok s hs).l1⟩) (by omega) (by omega) (by omega) (many:=many) (by omega) (by simp only [Env.find_set,f0,reduceIte,Nat.reduceEqDiff]) (by simp only [Env.find_set,f7,reduceIte,Nat.reduceEqDiff]) (by simp only [Env.find_set,f8,reduceIte,Nat.reduceEqDiff]) (by simp only [Env.find_set,reduceIte,Nat.reduceEqDiff];rfl)
  have p6:L2.find 6=.ptr u.n 0:=(g4 6 (by omega)).trans (by simp only [Env.find_set,f6,reduceIte,Nat.reduceEqDiff])
  have p7:L2.find 7=.ptr (u.n+1) 0:=(g4 7 (by omega)).trans (by simp only [Env.find_set,f7,reduceIte,Nat.reduceEqDiff])
  obtain ⟨kd,k7,ko,kb,ks,kn,kle,km,kml,kdp,kok⟩:=J4
  have c0:t4.h.get u.n=some (.cells [.nilslice,.nilslice] (tag 28)):=(ks u.n (by omega) (by omega)).trans ((js u.n (by omega) (by omega)).trans ((g2 u.n (by omega) (by omega)).trans w00))
  have sc:=ko.at_.scal
  have sh2:shapeT Try.prog 28=some (some 2):=by kernel_rfl
  simp (disch:=first|omega|(with_unfolding_all exact rfl)|(simp only[new_n,put_n,new_m];omega)|(refine put_m_le ?_;simp only[new_m];omega)) only [K12r22,res12,Abs.W,reduceIte,Nat.reduceEqDiff,Nat.reduceAdd,decide_true,decide_false,kLoop_def,Nat.reduceSub,List.cons_append,List.nil_append,List.append_nil,List.length_cons,List.length_nil,Env.find_set,p6,p7,k7,c0,sc,Nat.zero_add]
  have km4:=km jm3
  refine ⟨.agg (letV vS vA),_,leave_cell _ _ _ _ sh2 ?_,⟨fun c hc hcd=>?_,by simp only [put_n];omega,by simp only [put_n];omega,fun _=>?_,?_⟩,?_,⟨⟨ss,aps⟩,vS,vA,bS,bA,rfl,kd.keep (get_put_ne' _ _ _ _ (by omega)),⟨by show 1≤ss.length;omega,by show ss.length≤8;omega,by show aps.length≤8;omega,fun s hs=>by show s.Ok aps.length;rw [hal];exact jok s hs,kok⟩,by show ss.length≤k;omega,by show aps.length≤m;omega,?_⟩⟩
  ·simp only [Env.find_set,p6,reduceIte,Nat.reduceEqDiff]
   rw [load_ptr,get_put_eq _ _ _ _ rfl (by omega),loadO_cells,partS_some]
   rfl
  ·rw [get_put_ne' _ _ _ _ (by omega),ks c (by omega) hcd,js c (by omega) hcd,g2 c (by omega) hcd,w0g c hc]
  ·simp only [St.put,minN_eq];omega
  ·simp only [St.put,minN_eq];omega
  ·rcases ji.is with ⟨z,_⟩ | ⟨_,_,z,_⟩
   ·rw [List.map_eq_nil_iff.mp z] at hsl;simp at hsl;omega
   ·subst z;rfl
  ·have:=ko.grow (h':=(t4.put u.n (.cells [vS,vA] (tag 28))).h) (n':=(t4.put u.n (.cells [vS,vA] (tag 28))).n) (fun c h1 h2=>get_put_ne' _ _ _ _ (by omega)) (Nat.le_refl _)
   obtain ⟨o1,⟨ws,o2,o3,o4⟩,o5,o6,o7⟩:=this
   exact ⟨o1,⟨ws,o2,o3,fun i h1 h2=>⟨(o4 i h1 h2).1.move (fun b h3 h4=>⟨rfl,by omega,h4.2⟩) (Nat.le_refl _),(o4 i h1 h2).2.move (fun b h3 h4=>⟨rfl,by omega,h4.2⟩) (Nat.le_refl _)⟩⟩,by omega,by omega,o7⟩) (by omega)
 exact ⟨l,vS,vA,bS,bA,t,hr.symm.trans e,st,hq1,hq2,hq3,hq4,hq5⟩
end Go.Proofs.Ytbcjojljiochfaa.walk
set_option maxRecDepth 10000
namespace Go.Proofs.Ytbcjojljiochfaa.walk
open Go.Abs Go.Proofs.Ytbcjojljiochfaa.code
theorem Draw_ex {N:Nat} {no na:Nat→Prop} {l:Letting} {vS vA:AV} {s:St} {r:ARes} (hr:call Try.prog X N (.fn 13) [.agg (letV vS vA)] s=r) (hN:7≤N) (ok:l.Ok) (hL:LetAt no na s.h s.n l vS vA) (hs:s.n+3000≤far) :
  ∃ v t,r=.val (.tup [v,.int .i64 0]) t∧New s t 10∧Sl (fun x=>s.n≤x) t.h t.n 1 (natRows (drawL l)) v:=by
 obtain ⟨n,rfl⟩:∃ n,N=n+1:=⟨N - 1,by omega⟩
 have hf:far=1000000000:=rfl
 obtain ⟨v,t,e,st,v',rfl,hq⟩:=call_new (n:=n) (args:=[.agg (letV vS vA)]) (s:=s) (k:=10) (Q:=fun v h n=>∃ v',v=.tup [v',.int .i64 0]∧Sl (fun x=>s.n≤x) h n 1 (natRows (drawL l)) v') Try.func13 rfl (fun u uh un um=>by
  rw [← uh,← un] at hL
  rw [← un]
  have m1:=ok.m1
  have kA:=hL.okV
  have lA:=hL.lenA
  have z0:decide ((0:Int)=0)=true:=rfl
  obtain ⟨w,hw⟩:∃ w:St,w=u.new (.cells [vS,vA] (tag 28)):=⟨_,rfl⟩
  have wn:w.n=u.n+1:=by rw [hw];rfl
  have wm:w.m=far:=by rw [hw];exact um
  have wg:∀ c,c<u.n→w.h.get c=u.h.get c:=fun c hc=>by rw [hw,get_new_ne _ _ _ (by omega)]
  have w0:w.h.get u.n=some (.cells [vS,vA] (tag 28)):=by rw [hw];exact get_new_eq _ _ _ rfl (by omega)
  have hM:=hL.grow wg (by omega:u.n≤w.n)
  have c1:=check_ok n (by omega) l ok vS vA w hM (by omega)
  have c2:=draw_ok n (by omega) l ok vS vA w hM (by omega)
  have l8:(drawL l++List.replicate (8 - l.appls.length) 0).length=8:=by rw [List.length_append,List.length_replicate,drawL_len];omega
  obtain ⟨df,hdf⟩:∃ df,df=drawL l++List.replicate (8 - l.appls.length) 0:=⟨_,rfl⟩
  rw [← hdf] at c2 l8
  have ao:=arr_overAll (f:=List.replicate 8 0) (g:=df) rfl l8
  have asx:=arr_scal df
  have aln:=arr_len df
  have sl:=fun s=>sliceArr_to s w.n l.appls.length (by omega)
  have okr:∀ s,okA (.val (.agg (arr df)) s)=.val (.agg (arr df)) s:=fun _=>rfl
  rw [enter13]
  simp (disch:=first|omega|(with_unfolding_all exact rfl)|(simp only[new_n,put_n,new_m];omega)|(refine put_m_le ?_;simp only[new_m];omega)) only [K13,K13r0,Abs.W,reduceIte,Nat.reduceEqDiff,Nat.reduceAdd,decide_true,decide_false,kLoop_def,Nat.reduceSub,List.cons_append,List.nil_append,List.append_nil,List.length_cons,List.length_nil]
  rw [← hw]
  simp (disch:=first|omega|(with_unfolding_all exact rfl)|(simp only[new_n,put_n,new_m];omega)|(refine put_m_le ?_;simp only[new_m];omega)) only [res13,K13r0,K13r1,K13r2,K13r3,K13r4,K13r5,K13,Abs.W,reduceIte,Nat.reduceEqDiff,Nat.reduceAdd,decide_true,decide_false,kLoop_def,Nat.reduceSub,List.cons_append,List.nil_append,List.append_nil,List.length_cons,List.length_nil,Env.find_set,w0,c1,c2,z0,kA,lA,ao,asx,aln,l8,arr_zero,kSlice_def,optEv_some,optEv_none,sl,Nat.zero_add]
  refine ⟨_,_,rfl,⟨fun c hc=>?_,by simp only [put_n,new_n];omega,by simp only [put_n,new_n];omega,?_,?_⟩,rfl,_,rfl,⟨natRows_wide _,.inr ⟨w.n,0,8,false,arr df,_,by simp only [put_n,new_n];omega,by omega,⟨by rw [natRows_len,drawL_len];omega,fun h=>(by cases h)⟩,by rw [natRows_len,drawL_len];simp only [find_cons,reduceIte,Nat.reduceEqDiff],get_put_eq _ _ _ _ rfl (by omega),?_⟩⟩⟩
  ·rw [get_put_ne' _ _ _ _ (by omega),get_new_ne _ _ _ (by omega)];exact wg c hc
  ·simp only [St.put,minN_eq,new_m];omega
  ·simp only [St.put,minN_eq,new_m];omega
  ·rw [hdf,arr_app,cut_zero,← flatten_len (natRows_wide _)]
   exact cut1_app _ _)
 exact ⟨v',t,hr.symm.trans e,st,hq⟩
theorem has_ok (N:Nat) (hN:1≤N) (l:List Int) (x:Int) (v:AV) (s:St) (hR:RowsAt s.h s.n 1 (intRows l) v) (hl:l.length≤1000) (hs:s.n+10≤far) :
  call Try.prog X N (.fn 16) [v,.int .i64 x] s=.val (.bool (decide (x ∈ l))) s:=by
 obtain ⟨n,rfl⟩:∃ n,N=n+1:=⟨N - 1,by omega⟩
 refine call_plain' Try.func16 (fun u uh un um=>?_) rfl
 rw [← uh,← un] at hR
 have kv:∀ t,okA (.val v t)=.val v t:=fun t=>okA_ne hR.ne
 have lv:=rowLen hR
 have hf:far=1000000000:=rfl
 rw [enter16]
 simp (disch:=first|omega|(with_unfolding_all exact rfl)|(simp only[new_n,put_n,new_m];omega)|(refine put_m_le ?_;simp only[new_m];omega)) only [res16,K16r0,K16r1,K16r2,K16r3,K16r4,K16r5,K16r6,K16,Abs.W,reduceIte,Nat.reduceEqDiff,Nat.reduceAdd,decide_true,decide_false,kLoop_def,Nat.reduceSub,List.cons_append,List.nil_append,List.append_nil,List.length_cons,List.length_nil,Env.find_set,kv,lv]
 generalize hlp:loopN _ rounds _ _ _ _ _=q1
 obtain ⟨e,L1,s1,rfl,rfl,hQ⟩:=loop_of hlp (fun i L t=>t=u∧L.find 0=v∧L.find 1=.int .i64 x∧L.find 5=.int .i64 i∧x ∉ l.take i)
  (fun e L t=>t=u∧((e=.ret∧L.find 4=.bool true∧x ∈ l)∨(e=.exit 0∧x ∉ l))) l.length (by unfold rounds;omega)
  ⟨rfl,by simp only [find_cons,Env.find_set,reduceIte,Nat.reduceEqDiff],by simp only [find_cons,Env.find_set,reduceIte,Nat.reduceEqDiff],by simp only [find_cons,Env.find_set,reduceIte,Nat.reduceEqDiff];rfl,by simp⟩
  (fun i L t hi ⟨ht,q0,q1,q5,hx⟩=>by
   subst ht
   by_cases hlt:i<l.length
   ·have e0:decide ((i:Int)<(l.length:Int))=true:=decide_eq_true (by omega)
    obtain ⟨b,p,c,sz,r1,r2,r3,r4⟩:=rowInt hR hlt
    have ad:∀ s,aAdd s .i64 (i:Int) 1=.val (.int .i64 ((i:Int)+1)) s:=fun s=>aAdd_i64 s _ _ (by omega)
    by_cases he:l[i]=x
    ·have e1:decide (l[i]=x)=true:=decide_eq_true he
     refine .inr ⟨.ret,_,t,by simp,by
      simp (disch:=first|omega|(with_unfolding_all exact rfl)|(simp only[new_n,put_n,new_m];omega)|(refine put_m_le ?_;simp only[new_m];omega)) only [res16,K16r0,K16r1,K16r2,K16r3,K16r4,K16r5,K16r6,K16,K16l0,Abs.W,reduceIte,Nat.reduceEqDiff,Nat.reduceAdd,decide_true,decide_false,kLoop_def,Nat.reduceSub,List.cons_append,List.nil_append,List.append_nil,List.length_cons,List.length_nil,Env.find_set,q0,q1,q5,e0,kv,lv,r2,r3,r4,e1]
      rfl,rfl,.inl ⟨rfl,by simp only [Env.find_set,reduceIte,Nat.reduceEqDiff],by rw [← he];exact List.getElem_mem hlt⟩⟩
    ·have e1:decide (l[i]=x)=false:=decide_eq_false he
     refine .inl ⟨hlt,_,t,by
      simp (disch:=first|omega|(with_unfolding_all exact rfl)|(simp only[new_n,put_n,new_m];omega)|(refine put_m_le ?_;simp only[new_m];omega)) only [res16,K16r0,K16r1,K16r2,K16r3,K16r4,K16r5,K16r6,K16,K16l0,Abs.W,reduceIte,Nat.reduceEqDiff,Nat.reduceAdd,decide_true,decide_false,kLoop_def,Nat.reduceSub,List.cons_append,List.nil_append,List.append_nil,List.length_cons,List.length_nil,Env.find_set,q0,q1,q5,e0,kv,lv,r2,r3,r4,e1,ad]
      rfl,rfl,?_,?_,?_,?_⟩
     ·simp only [Env.find_set,q0,reduceIte,Nat.reduceEqDiff]
     ·simp only [Env.find_set,q1,reduceIte,Nat.reduceEqDiff]
     ·simp only [Env.find_set,reduceIte,Nat.reduceEqDiff];rfl
     ·rw [take_snoc hlt,List.mem_append,List.mem_singleton]
      exact fun h=>h.elim hx fun h=>he h.symm
   ·obtain rfl:i=l.length:=by omega
    have e0:decide ((l.length:Int)<(l.length:Int))=false:=by simp
    refine .inr ⟨.exit 0,L.set 9 (.bool false),t,by simp,?_,rfl,.inr ⟨rfl,by rwa [List.take_length] at hx⟩⟩
    simp (disch:=first|omega|(with_unfolding_all exact rfl)|(simp only[new_n,put_n,new_m];omega)|(refine put_m_le ?_;simp only[new_m];omega)) only [res16,K16r0,K16r1,K16r2,K16r3,K16r4,K16r5,K16r6,K16,K16l0,Abs.W,reduceIte,Nat.reduceEqDiff,Nat.reduceAdd,decide_true,decide_false,kLoop_def,Nat.reduceSub,List.cons_append,List.nil_append,List.append_nil,List.length_cons,List.length_nil,Env.find_set,q0,q5,kv,lv,e0])
 rcases hQ with ⟨rfl,h4,hx⟩ | ⟨rfl,hx⟩
 ·rw [decide_eq_true hx]
  simp (disch:=first|omega|(with_unfolding_all exact rfl)|(simp only[new_n,put_n,new_m];omega)|(refine put_m_le ?_;simp only[new_m];omega)) only [res16,K16r0,K16r1,K16r2,K16r3,K16r4,K16r5,K16r6,K16,Abs.W,reduceIte,Nat.reduceEqDiff,Nat.reduceAdd,decide_true,decide_false,kLoop_def,Nat.reduceSub,List.cons_append,List.nil_append,List.append_nil,List.length_cons,List.length_nil,Env.find_set,h4]
  exact ⟨_,rfl,by omega⟩
 ·rw [decide_eq_false hx]
  simp (disch:=first|omega|(with_unfolding_all exact rfl)|(simp only[new_n,put_n,new_m];omega)|(refine put_m_le ?_;simp only[new_m];omega)) only [res16,K16r0,K16r1,K16r2,K16r3,K16r4,K16r5,K16r6,K16,Abs.W,reduceIte,Nat.reduceEqDiff,Nat.reduceAdd,decide_true,decide_false,kLoop_def,Nat.reduceSub,List.cons_append,List.nil_append,List.append_nil,List.length_cons,List.length_nil,Env.find_set]
  exact ⟨_,rfl,by omega⟩
theorem same_ok (N:Nat) (hN:1≤N) (a b:List Int) (v w:AV) (s:St) (hR:RowsAt s.h s.n 1 (intRows a) v) (hQ:RowsAt s.h s.n 1 (intRows b) w) (hl:a.length≤1000) (hs:s.n+10≤far) :
  call Try.prog X N (.fn 17) [v,w] s=.val (.bool (decide (a=b))) s:=by
 obtain ⟨n,rfl⟩:∃ n,N=n+1:=⟨N - 1,by omega⟩
 refine call_plain' Try.func17 (fun u uh un um=>?_) rfl
 rw [← uh,← un] at hR hQ
 have kv:∀ t,okA (.val v t)=.val v t:=fun t=>okA_ne hR.ne
 have lv:=rowLen hR
 have kw:∀ t,okA (.val w t)=.val w t:=fun t=>okA_ne hQ.ne
 have lw:=rowLen hQ
 have hf:far=1000000000:=rfl
 rw [enter17]
 simp (disch:=first|omega|(with_unfolding_all exact rfl)|(simp only[new_n,put_n,new_m];omega)|(refine put_m_le ?_;simp only[new_m];omega)) only [res17,K17r0,K17r1,K17r2,K17r3s6,K17r3s5,K17r3s4,K17r3s3,K17r3,K17r4,K17r5,K17r6,K17,Abs.W,reduceIte,Nat.reduceEqDiff,Nat.reduceAdd,decide_true,decide_false,kLoop_def,Nat.reduceSub,List.cons_append,List.nil_append,List.append_nil,List.length_cons,List.length_nil,Env.find_set,kv,lv,kw,lw]
 generalize hlp:loopN _ rounds _ _ _ _ _=q1
 obtain ⟨e,L1,s1,rfl,rfl,rfl,h5⟩:=loop_of hlp (fun i L t=>t=u∧L.find 0=v∧L.find 1=w∧L.find 6=.int .i64 i∧∃ sm:Bool,L.find 5=.bool sm∧(sm=true→a.length=b.length∧a.take i=b.take i)∧(sm=false→a≠b))
  (fun e L t=>e=.exit 0∧t=u∧L.find 5=.bool (decide (a=b))) a.length (by unfold rounds;omega)
  ⟨rfl,by simp only [find_cons,Env.find_set,reduceIte,Nat.reduceEqDiff],by simp only [find_cons,Env.find_set,reduceIte,Nat.reduceEqDiff],by simp only [find_cons,Env.find_set,reduceIte,Nat.reduceEqDiff];rfl,decide ((a.length:Int)=(b.length:Int)),by simp only [find_cons,Env.find_set,reduceIte,Nat.reduceEqDiff],fun h=>⟨by have:=of_decide_eq_true h;omega,by simp⟩,fun h e=>by subst e;simp at h⟩
  (fun i L t hi ⟨ht,q0,q1,q6,sm,q5,h1,h2⟩=>by
   subst ht
   cases sm with
   | false =>
    have hne:=h2 rfl
    refine .inr ⟨.exit 0,L.set 18 (.bool false),t,by simp,?_,rfl,rfl,by simp only [Env.find_set,q5,reduceIte,Nat.reduceEqDiff];rw [decide_eq_false hne]⟩
    simp (disch:=first|omega|(with_unfolding_all exact rfl)|(simp only[new_n,put_n,new_m];omega)|(refine put_m_le ?_;simp only[new_m];omega)) only [res17,K17r0,K17r1,K17r2,K17r3s6,K17r3s5,K17r3s4,K17r3s3,K17r3,K17r4,K17r5,K17r6,K17,K17l0,Abs.W,reduceIte,Nat.reduceEqDiff,Nat.reduceAdd,decide_true,decide_false,kLoop_def,Nat.reduceSub,List.cons_append,List.nil_append,List.append_nil,List.length_cons,List.length_nil,Env.find_set,q0,q1,q5,q6]
   | true =>
    obtain ⟨hl2,ht2⟩:=h1 rfl
    by_cases hlt:i<a.length
    ·have e0:decide ((i:Int)<(a.length:Int))=true:=decide_eq_true (by omega)
     obtain ⟨b1,p1,c1,sz1,r1,r2,r3,r4⟩:=rowInt hR hlt
     obtain ⟨b2,p2,c2,sz2,s1,s2,s3,s4⟩:=rowInt hQ (show i<b.length by omega)
     have ad:∀ s,aAdd s .i64 (i:Int) 1=.val (.int .i64 ((i:Int)+1)) s:=fun s=>aAdd_i64 s _ _ (by omega)
     refine .inl ⟨hlt,_,t,by
      simp (disch:=first|omega|(with_unfolding_all exact rfl)|(simp only[new_n,put_n,new_m];omega)|(refine put_m_le ?_;simp only[new_m];omega)) only [res17,K17r0,K17r1,K17r2,K17r3s6,K17r3s5,K17r3s4,K17r3s3,K17r3,K17r4,K17r5,K17r6,K17,K17l0,Abs.W,reduceIte,Nat.reduceEqDiff,Nat.reduceAdd,decide_true,decide_false,kLoop_def,Nat.reduceSub,List.cons_append,List.nil_append,List.append_nil,List.length_cons,List.length_nil,Env.find_set,q0,q1,q5,q6,e0,kv,lv,kw,lw,r2,r3,r4,s2,s3,s4,ad]
      rfl,rfl,?_,?_,?_,decide (a[i]=b[i]),?_,fun h=>⟨hl2,?_⟩,fun h e=>?_⟩
     ·simp only [Env.find_set,q0,reduceIte,Nat.reduceEqDiff]
     ·simp only [Env.find_set,q1,reduceIte,Nat.reduceEqDiff]
     ·simp only [Env.find_set,reduceIte,Nat.reduceEqDiff];rfl
     ·simp only [Env.find_set,reduceIte,Nat.reduceEqDiff]
     ·rw [take_snoc hlt,take_snoc (show i<b.length by omega),ht2,of_decide_eq_true h]
     ·subst e;simp at h
    ·obtain rfl:i=a.length:=by omega
     have e0:decide ((a.length:Int)<(a.length:Int))=false:=by simp
     rw [List.take_length,hl2,List.take_length] at ht2
     refine .inr ⟨.exit 0,L.set 18 (.bool false),t,by simp,?_,rfl,rfl,by simp only [Env.find_set,q5,reduceIte,Nat.reduceEqDiff];rw [decide_eq_true ht2]⟩
     simp (disch:=first|omega|(with_unfolding_all exact rfl)|(simp only[new_n,put_n,new_m];omega)|(refine put_m_le ?_;simp only[new_m];omega)) only [res17,K17r0,K17r1,K17r2,K17r3s6,K17r3s5,K17r3s4,K17r3s3,K17r3,K17r4,K17r5,K17r6,K17,K17l0,Abs.W,reduceIte,Nat.reduceEqDiff,Nat.reduceAdd,decide_true,decide_false,kLoop_def,Nat.reduceSub,List.cons_append,List.nil_append,List.append_nil,List.length_cons,List.length_nil,Env.find_set,q0,q1,q5,q6,kv,lv,e0])
 simp (disch:=first|omega|(with_unfolding_all exact rfl)|(simp only[new_n,put_n,new_m];omega)|(refine put_m_le ?_;simp only[new_m];omega)) only [res17,K17r0,K17r1,K17r2,K17r3s6,K17r3s5,K17r3s4,K17r3s3,K17r3,K17r4,K17r5,K17r6,K17,Abs.W,reduceIte,Nat.reduceEqDiff,Nat.reduceAdd,decide_true,decide_false,kLoop_def,Nat.reduceSub,List.cons_append,List.nil_append,List.append_nil,List.length_cons,List.length_nil,Env.find_set,h5]
 exact ⟨_,rfl,by omega⟩
/-! ### Tokens that are changed -/
def Appl.withT (a:Appl) (x:Int):Appl:=⟨a.years,x,a.wishes,a.bids⟩
theorem rowsOf_get {l:List Appl} {ws:List (AV × AV)} {k:Nat} (h:k<(rowsOf l ws).length) (h1:k<l.length) (h2:k<ws.length):(rowsOf l ws)[k]=l[k].row ws[k]:=List.getElem_zipWith ..
theorem rowsOf_wide {l:List Appl} {ws:List (AV × AV)} (h:ws.length=l.length):∀ r ∈ rowsOf l ws,r.length=4:=fun r hr=>by
 obtain ⟨k,hk,rfl⟩:=List.getElem_of_mem hr
 have:=hk
 rw [rowsOf_len h] at this
 rw [rowsOf_get hk this (by omega)]
 rfl
theorem tok_set:∀ {l:List Appl} {i:Nat} (x:Int) (hi:i<l.length),tok (l.set i (l[i].withT x))+l[i].token.toNat=tok l+x.toNat
 | [],i,x,h=>by simp at h
 | a::l,0,x,_=>by show x.toNat+tok l+a.token.toNat=a.token.toNat+tok l+x.toNat;omega
 | a::l,i+1,x,h=>by
  have ih:=tok_set (l:=l) (i:=i) x (by simpa using h)
  show a.token.toNat+tok (l.set i _)+_=a.token.toNat+tok l+_
  simp only [List.getElem_cons_succ] at ih ⊢
  omega
def Letting.withTok (l:Letting) (i:Nat) (x:Int):Letting:=⟨l.stalls,if h:i<l.appls.length then l.appls.set i (l.appls[i].withT x) else l.appls⟩
theorem withTok_len (l:Letting) (i:Nat) (x:Int):(l.withTok i x).appls.length=l.appls.length:=by unfold Letting.withTok;split<;>simp
theorem withTok_ok {l:Letting} (ok:l.Ok) (i:Nat) {x:Int} (hx:0≤x∧x≤1000000000):(l.withTok i x).Ok:=by
 obtain ⟨k0,k1,m1,st,ap⟩:=ok
 refine ⟨k0,k1,by rw [withTok_len];exact m1,fun s hs=>by rw [withTok_len];exact st s hs,fun a ha=>?_⟩
 unfold Letting.withTok at ha
 split at ha
 ·rename_i h
  simp only at ha
  rcases List.mem_or_eq_of_mem_set ha with ha | rfl
  ·exact ap a ha
  ·obtain ⟨y0,y1,t0,t1,w,nd,wl,bl,b⟩:=ap _ (List.getElem_mem h)
   exact ⟨y0,y1,hx.1,hx.2,w,nd,wl,bl,b⟩
 ·exact ap a ha
theorem withTok_twice {l:Letting} (i:Nat) (x y:Int):(l.withTok i x).withTok i y=l.withTok i y:=by
 unfold Letting.withTok
 by_cases h:i<l.appls.length
 ·simp [h,Appl.withT]
 ·simp [h]
theorem withTok_tok {l:Letting} {i:Nat} (x:Int) (hi:i<l.appls.length):tok (l.withTok i x).appls+l.appls[i].token.toNat=tok l.appls+x.toNat:=by
 unfold Letting.withTok
 rw [dif_pos hi]
 exact tok_set x hi
theorem over_cell:∀ {c:List AV} {i:Nat} (x:AV),i<c.length→over i [x] c=some (c.set i x)
 | [],_,_,h=>by simp at h
 | a::r,0,x,_=>by cases r<;>rfl
 | a::r,i+1,x,h=>by
  have ih:=over_cell (c:=r) (i:=i) x (by simpa using h)
  rw [over_cons,if_neg (by omega),show i+1 - 1=i by omega,ih]
  rfl
theorem flat_setA (x:AV):∀ {rows:List (List AV)} {w i j:Nat},(∀ r ∈ rows,r.length=w)→(hi:i<rows.length)→j<w→rows.flatten.set (i * w+j) x=(rows.set i (rows[i].set j x)).flatten
 | [],_,_,_,_,hi,_=>by simp at hi
 | a::r,w,0,j,h,hi,hj=>by
  have ha:=h a (List.mem_cons_self ..)
  rw [List.flatten_cons,Nat.zero_mul,Nat.zero_add,List.set_append_left _ _ (by omega)]
  rfl
 | a::r,w,i+1,j,h,hi,hj=>by
  have ha:=h a (List.mem_cons_self ..)
  have hm:(i+1) * w=i * w+w:=Nat.succ_mul i w
  have ih:=flat_setA x (rows:=r) (w:=w) (i:=i) (j:=j) (fun r hr=>h r (List.mem_cons_of_mem _ hr)) (by simpa using hi) hj
  rw [List.flatten_cons,List.set_append_right _ _ (by omega),show (i+1) * w+j - a.length=i * w+j by omega,ih]
  rfl
theorem rowsOf_tok {l:List Appl} {ws:List (AV × AV)} {i:Nat} (x:Int) (h:ws.length=l.length) (hi:i<l.length):(rowsOf l ws).flatten.set (i * 4+1) (.int .i64 x)=(rowsOf (l.set i (l[i].withT x)) ws).flatten:=by
 rw [flat_setA _ (rowsOf_wide h) (by rw [rowsOf_len h];exact hi) (by omega)]
 congr 1
 have hs:ws.length=(l.set i (l[i].withT x)).length:=by rw [List.length_set];exact h
 apply List.ext_getElem
 ·rw [List.length_set,rowsOf_len h,rowsOf_len hs,List.length_set]
 ·intro k h1 h2
  have hk:k<l.length:=by rw [rowsOf_len hs,List.length_set] at h2;exact h2
  rw [List.getElem_set,rowsOf_get h2 (by rw [List.length_set];exact hk) (by omega),List.getElem_set]
  by_cases e:i=k
  ·subst e
   rw [if_pos rfl,if_pos rfl,rowsOf_get _ hi (by omega)]
   rfl
  ·rw [if_neg e,if_neg e,rowsOf_get _ hk (by omega)]
theorem LetOwn.token {t:St} {n lo bS bA who:Nat} {l:Letting} {vS vA:AV} (r:LetOwn t.h n lo bS bA l vS vA) (hw:who<l.appls.length) (x:Int) (hn:n≤far) :
  ∃ c c' sz,t.h.get bA=some (.cells c sz)∧(∀ s,ixsA 4 s vA (.int .i64 (who:Int))=.val (.ptr bA (who * 4)) s)∧over (who * 4+1) [.int .i64 x] c=some c'∧bA<n∧LetOwn (t.put bA (.cells c' sz)).h n lo bS bA (l.withTok who x) vS vA:=by
 have hf:far=1000000000:=rfl
 obtain ⟨s,⟨ws,q1,q2,q3⟩,l1,l2,l3⟩:=r
 have lr:=rowsOf_len q1
 rcases q2.is with ⟨z,_⟩ | ⟨_,z1,z2,z3⟩
 ·rw [z] at lr;simp at lr;omega
 ·have hlen:(rowsOf l.appls ws).flatten.length=l.appls.length * 4:=by rw [flatten_len q2.wide,lr]
  refine ⟨_,_,_,z3,fun s=>by rw [z2,ixs_slice _ _ _ _ _ _ _ _ (by rw [lr];exact hw),Nat.zero_add],over_cell _ (by rw [hlen];omega),z1,s.mono (fun _=>get_put_ne' _ _ _ _ l3) (Nat.le_refl _),⟨ws,by rw [withTok_len];exact q1,?_,fun i h1 h2=>?_⟩,l1,l2,l3⟩
  ·have ew:(l.withTok who x).appls=l.appls.set who (l.appls[who].withT x):=by unfold Letting.withTok;rw [dif_pos hw]
   rw [ew,rowsOf_tok x q1 hw]
   refine ⟨rowsOf_wide (by rw [List.length_set];exact q1),.inr ⟨fun e=>?_,z1,by rw [z2,lr,rowsOf_len (by rw [List.length_set];exact q1),List.length_set],get_put_eq _ _ _ _ rfl (by omega)⟩⟩
   ·have:=rowsOf_len (l:=l.appls.set who (l.appls[who].withT x)) (ws:=ws) (by rw [List.length_set];exact q1)
    rw [e] at this
    simp at this
    omega
  ·have h2':i<l.appls.length:=by rw [withTok_len] at h2;exact h2
   have e1:(l.withTok who x).appls[i].wishes=l.appls[i].wishes∧(l.withTok who x).appls[i].bids=l.appls[i].bids:=by
    unfold Letting.withTok
    simp only [hw,dite_true,List.getElem_set]
    by_cases e:who=i
    ·subst e;simp [Appl.withT]
    ·simp [e]
   rw [e1.1,e1.2]
   exact ⟨(q3 i h1 h2').1.move (fun b h3 h4=>⟨get_put_ne' _ _ _ _ h4.2,h4⟩) (Nat.le_refl _),(q3 i h1 h2').2.move (fun b h3 h4=>⟨get_put_ne' _ _ _ _ h4.2,h4⟩) (Nat.le_refl _)⟩
end Go.Proofs.Ytbcjojljiochfaa.walk
set_option maxRecDepth 10000
namespace Go.Proofs.Ytbcjojljiochfaa.walk
open Go.Abs Go.Proofs.Ytbcjojljiochfaa.code
noncomputable abbrev awd (n:Nat):CallF:=knows 14 (call Try.prog X n)
def MetS (h:Heap) (n bm lo:Nat) (M:List (List Nat)) (v:AV):Prop :=
 ∃ vs:List AV,vs.length=M.length∧IsAt h n bm 1 (tag 22) (vs.map fun v=>[v]) v∧∀ j (h1:j<vs.length) (h2:j<M.length),Sl (fun x=>lo≤x∧x≠bm) h n 1 (natRows M[j]) vs[j]
section
variable {h h':Heap} {n n' bm lo:Nat} {M:List (List Nat)} {v:AV}
theorem MetS.nil (h:Heap) (n bm lo:Nat):MetS h n bm lo [] .nilslice:=⟨[],rfl,IsAt.nil _ _ _ _ _,fun j h1 _=>by simp at h1⟩
theorem MetS.move (a:MetS h n bm lo M v) (hb:bm<n→lo≤bm) (hh:∀ c,c<n→lo≤c→h'.get c=h.get c) (hn:n≤n'):MetS h' n' bm lo M v:=by
 obtain ⟨vs,h1,h2,h3⟩:=a
 exact ⟨vs,h1,h2.mono (fun h=>hh _ h (hb h)) hn,fun j j1 j2=>(h3 j j1 j2).move (fun c hc hl=>⟨hh c hc hl.1,hl⟩) hn⟩
theorem MetS.okA (a:MetS h n bm lo M v) (t:St):Abs.okA (.val v t)=.val v t:=by obtain ⟨rows,h1,h2,h3⟩:=a;exact h2.okA t
theorem MetS.len (a:MetS h n bm lo M v) (s:St):lenSlA s v=.val (.int .i64 (M.length:Int)) s:=by
 obtain ⟨vs,h1,h2,h3⟩:=a
 have:=h2.rows.at_.len s
 rw [List.length_map,h1] at this
 exact this
theorem MetS.get (a:MetS h n bm lo M v) {j:Nat} (hj:j<M.length) :
  ∃ w p c sz,Sl (fun x=>lo≤x∧x≠bm) h n 1 (natRows M[j]) w∧(∀ s,ixsA 1 s v (.int .i64 (j:Int))=.val (.ptr bm p) s)∧h.get bm=some (.cells c sz)∧nth c p=w:=by
 obtain ⟨vs,h1,h2,h3⟩:=a
 have hr:j<vs.length:=by omega
 rcases h2.is with ⟨z,_⟩ | ⟨_,z1,z2,z3⟩
 ·rw [List.map_eq_nil_iff] at z
  subst z
  simp at hr
 ·refine ⟨vs[j],0+j * 1,_,_,h3 j hr hj,fun s=>by rw [z2];exact ixs_slice 1 s bm 0 _ _ true j (by rw [List.length_map];exact hr),z3,?_⟩
  rw [Nat.zero_add]
  have:=flatten_cut (rows:=vs.map fun v=>[v]) (w:=1) (i:=j) h2.wide (by rw [List.length_map];exact hr)
  exact cut1_nth (this.trans (by simp))
end
theorem MetS.push {s:St} {bm lo:Nat} {M:List (List Nat)} {v:AV} (a:MetS s.h s.n bm lo M v) {l:List Nat} {w:AV} (hw:Sl (fun x=>lo≤x∧x≠bm) s.h s.n 1 (natRows l) w) {p sz:Nat} (hp:s.h.get p=some (.cells [w] sz)) (hl:M.length+1≤1000) (hs:s.n+10≤far) :
  ∃ v' s',appendA false 1 24 (tag 22) s v (.slice p 0 1 1 false)=.val v' s'∧MetS s'.h s'.n s.n lo (M++[l]) v'∧s'.n=s.n+1∧(∀ c,c<s.n→c≠bm→s'.h.get c=s.h.get c):=by
 have hf:far=1000000000:=rfl
 obtain ⟨vs,h1,h2,h3⟩:=a
 obtain ⟨s',e1,e2,e3,e4,e5,e6⟩:=append_at (bytes:=24) h2 hp rfl hw.scal.1 (by rw [List.length_map];omega) (by kernel_rfl) (by omega)
 have mv:∀ {l:List Nat} {w:AV},Sl (fun x=>lo≤x∧x≠bm) s.h s.n 1 (natRows l) w→Sl (fun x=>lo≤x∧x≠s.n) s'.h s'.n 1 (natRows l) w:=fun q=>q.move (fun b b1 b2=>⟨e4 b b1 b2.2,b2.1,by omega⟩) (by omega)
 refine ⟨_,s',e1,⟨vs++[w],by simp [h1],?_,fun j j1 j2=>?_⟩,e3,e4⟩
 ·rw [List.map_append];exact e2
 ·by_cases e:j<vs.length
  ·rw [List.getElem_append_left e,List.getElem_append_left (by omega)]
   exact mv (h3 j e (by omega))
  ·have hj:j=vs.length:=by rw [List.length_append,List.length_singleton] at j1;omega
   subst hj
   rw [List.getElem_append_right (Nat.le_refl _),List.getElem_append_right (by omega)]
   simp only [h1,Nat.sub_self,List.getElem_singleton]
   exact mv hw
/-! ### The draw has each once -/
theorem look_loop (N:Nat) (hN:1≤N) {cx:Ctx} {w:St} {n:Nat} {vl:AV} {pl:List Nat} {E:Env} {r:R} (hr:loopN K3l1 rounds (awd N) cx E [] w=r) (hP:RowsAt w.h w.n 1 (natRows pl) vl) (hall:∀ k,k<n→k ∈ pl) (hl:pl.length≤8) (hn:n≤8)
  (q5:E.find 5=.int .i64 (n:Int)) (q14:E.find 14=vl) (q16:E.find 16=.int .i64 (0:Nat)) (hs:w.n+2000≤far) :
  ∃ E1,r=.done (.exit 4) E1 [] w∧∀ c,c<16→E1.find c=E.find c:=by
 have hf:far=1000000000:=rfl
 have knH:∀ args s,awd N (.fn 16) args s=call Try.prog X N (.fn 16) args s:=fun _ _=>rfl
 obtain ⟨e,E1,t,rfl,rfl,rfl,h2⟩:=loop_of hr (fun i E' t'=>t'=w∧E'.find 16=.int .i64 (i:Int)∧∀ c,c<16→E'.find c=E.find c) (fun e E' t'=>e=.exit 4∧t'=w∧∀ c,c<16→E'.find c=E.find c) n (by unfold rounds;omega)
  ⟨rfl,q16,fun _ _=>rfl⟩
  (fun i E' t' hi ⟨ht,p16,g'⟩=>by
   subst ht
   have p5:=(g' 5 (by omega)).trans q5
   have p14:=(g' 14 (by omega)).trans q14
   by_cases hlt:i<n
   ·have e0:decide ((i:Int)<(n:Int))=true:=decide_eq_true (by omega)
    have hh:=has_ok N hN (pl.map Int.ofNat) (i:Int) vl t' hP (by rw [List.length_map];omega) (by omega)
    have hm:(i:Int) ∈ pl.map Int.ofNat:=List.mem_map.mpr ⟨i,hall i hlt,rfl⟩
    rw [decide_eq_true hm] at hh
    have ad:∀ s,aAdd s .i64 (i:Int) 1=.val (.int .i64 ((i:Int)+1)) s:=fun s=>aAdd_i64 s _ _ (by omega)
    refine .inl ⟨hlt,_,_,by
     simp (disch:=first|omega|(with_unfolding_all exact rfl)|(simp only[new_n,put_n,new_m];omega)|(refine put_m_le ?_;simp only[new_m];omega)) only [res3,K3r0,K3r1,K3r2,K3r3,K3r4,K3r5,K3r6s9,K3r6s6,K3r6s5,K3r6s4,K3r6,K3r7,K3r8,K3r9,K3r10,K3r11,K3r12,K3r13,K3r14,K3r15,K3r16,K3r17,K3r18s7,K3r18s6,K3r18s5,K3r18s4,K3r18,K3r19,K3r20,K3r21,K3r22,K3r23,K3r24,K3r25,K3r26,K3r27,K3r28,K3r29,K3r30,K3r31,K3r32,K3,K3l1,Abs.W,reduceIte,Nat.reduceEqDiff,Nat.reduceAdd,decide_true,decide_false,kLoop_def,Nat.reduceSub,List.cons_append,List.nil_append,List.append_nil,List.length_cons,List.length_nil,Env.find_set,Nat.zero_add,Nat.add_zero,p5,p14,p16,e0,knH,hh,ad]
     rfl,rfl,?_,fun c hc=>?_⟩
    ·simp only [Env.find_set,reduceIte,Nat.reduceEqDiff];rfl
    ·simp only [Env.find_set]
     repeat rw [if_neg (by omega)]
     exact g' c hc
   ·obtain rfl:i=n:=by omega
    have e0:decide ((i:Int)<(i:Int))=false:=by simp
    refine .inr ⟨.exit 4,E'.set 85 (.bool false),_,by simp,?_,rfl,rfl,fun c hc=>?_⟩
    ·simp (disch:=first|omega|(with_unfolding_all exact rfl)|(simp only[new_n,put_n,new_m];omega)|(refine put_m_le ?_;simp only[new_m];omega)) only [res3,K3r0,K3r1,K3r2,K3r3,K3r4,K3r5,K3r6s9,K3r6s6,K3r6s5,K3r6s4,K3r6,K3r7,K3r8,K3r9,K3r10,K3r11,K3r12,K3r13,K3r14,K3r15,K3r16,K3r17,K3r18s7,K3r18s6,K3r18s5,K3r18s4,K3r18,K3r19,K3r20,K3r21,K3r22,K3r23,K3r24,K3r25,K3r26,K3r27,K3r28,K3r29,K3r30,K3r31,K3r32,K3,K3l1,Abs.W,reduceIte,Nat.reduceEqDiff,Nat.reduceAdd,decide_true,decide_false,kLoop_def,Nat.reduceSub,List.cons_append,List.nil_append,List.append_nil,List.length_cons,List.length_nil,Env.find_set,p5,p16,e0]
    ·simp only [Env.find_set]
     rw [if_neg (by omega)]
     exact g' c hc)
 exact ⟨E1,rfl,h2⟩
theorem met_loop (N:Nat) (hN:1≤N) {cx:Ctx} {w:St} {bm lo:Nat} {M:List (List Nat)} {vm vl:AV} {pl:List Nat} {E:Env} {r:R} (hr:loopN K3l2 rounds (awd N) cx E [] w=r) (hM:MetS w.h w.n bm lo M vm) (hP:RowsAt w.h w.n 1 (natRows pl) vl) (hl:pl.length≤8) (hM1:M.length≤1000) (hne:∀ m ∈ M,m.length=pl.length∧m≠pl)
  (q12:E.find 12=vm) (q14:E.find 14=vl) (q17:E.find 17=.int .i64 (0:Nat)) (hs:w.n+2000≤far) :
  ∃ E1,r=.done (.exit 6) E1 [] w∧∀ c,c<17→E1.find c=E.find c:=by
 have hf:far=1000000000:=rfl
 have kl:∀ t,okA (.val vl t)=.val vl t:=fun t=>okA_ne hP.ne
 have km:∀ t,okA (.val vm t)=.val vm t:=hM.okA
 have lm:=hM.len
 have knS:∀ args s,awd N (.fn 17) args s=call Try.prog X N (.fn 17) args s:=fun _ _=>rfl
 obtain ⟨e,E1,t,rfl,rfl,rfl,h2⟩:=loop_of hr (fun i E' t'=>t'=w∧E'.find 17=.int .i64 (i:Int)∧∀ c,c<17→E'.find c=E.find c) (fun e E' t'=>e=.exit 6∧t'=w∧∀ c,c<17→E'.find c=E.find c) M.length (by unfold rounds;omega)
  ⟨rfl,q17,fun _ _=>rfl⟩
  (fun i E' t' hi ⟨ht,p17,g'⟩=>by
   subst ht
   have p12:=(g' 12 (by omega)).trans q12
   have p14:=(g' 14 (by omega)).trans q14
   by_cases hlt:i<M.length
   ·have e0:decide ((i:Int)<(M.length:Int))=true:=decide_eq_true (by omega)
    obtain ⟨wm,p,c,sz,f1,f2,f3,f4⟩:=hM.get hlt
    have kw:=f1.okA
    obtain ⟨n1,n2⟩:=hne _ (List.getElem_mem hlt)
    have hh:=same_ok N hN (M[i].map Int.ofNat) (pl.map Int.ofNat) wm vl t' f1.at_ hP (by rw [List.length_map];omega) (by omega)
    rw [decide_eq_false (fun e=>n2 (List.map_inj_right (fun _ _ h=>Int.ofNat.inj h) |>.mp e))] at hh
    have ad:∀ s,aAdd s .i64 (i:Int) 1=.val (.int .i64 ((i:Int)+1)) s:=fun s=>aAdd_i64 s _ _ (by omega)
    refine .inl ⟨hlt,_,_,by
     simp (disch:=first|omega|(with_unfolding_all exact rfl)|(simp only[new_n,put_n,new_m];omega)|(refine put_m_le ?_;simp only[new_m];omega)) only [res3,K3r0,K3r1,K3r2,K3r3,K3r4,K3r5,K3r6s9,K3r6s6,K3r6s5,K3r6s4,K3r6,K3r7,K3r8,K3r9,K3r10,K3r11,K3r12,K3r13,K3r14,K3r15,K3r16,K3r17,K3r18s7,K3r18s6,K3r18s5,K3r18s4,K3r18,K3r19,K3r20,K3r21,K3r22,K3r23,K3r24,K3r25,K3r26,K3r27,K3r28,K3r29,K3r30,K3r31,K3r32,K3,K3l2,Abs.W,reduceIte,Nat.reduceEqDiff,Nat.reduceAdd,decide_true,decide_false,kLoop_def,Nat.reduceSub,List.cons_append,List.nil_append,List.append_nil,List.length_cons,List.length_nil,Env.find_set,Nat.zero_add,Nat.add_zero,p12,p14,p17,km,lm,kl,kw,e0,f2,f3,f4,knS,hh,ad]
     rfl,rfl,?_,fun c hc=>?_⟩
    ·simp only [Env.find_set,reduceIte,Nat.reduceEqDiff];rfl
    ·simp only [Env.find_set]
     repeat rw [if_neg (by omega)]
     exact g' c hc
   ·obtain rfl:i=M.length:=by omega
    have e0:decide ((M.length:Int)<(M.length:Int))=false:=by simp
    refine .inr ⟨.exit 6,E'.set 95 (.bool false),_,by simp,?_,rfl,rfl,fun c hc=>?_⟩
    ·simp (disch:=first|omega|(with_unfolding_all exact rfl)|(simp only[new_n,put_n,new_m];omega)|(refine put_m_le ?_;simp only[new_m];omega)) only [res3,K3r0,K3r1,K3r2,K3r3,K3r4,K3r5,K3r6s9,K3r6s6,K3r6s5,K3r6s4,K3r6,K3r7,K3r8,K3r9,K3r10,K3r11,K3r12,K3r13,K3r14,K3r15,K3r16,K3r17,K3r18s7,K3r18s6,K3r18s5,K3r18s4,K3r18,K3r19,K3r20,K3r21,K3r22,K3r23,K3r24,K3r25,K3r26,K3r27,K3r28,K3r29,K3r30,K3r31,K3r32,K3,K3l2,Abs.W,reduceIte,Nat.reduceEqDiff,Nat.reduceAdd,decide_true,decide_false,kLoop_def,Nat.reduceSub,List.cons_append,List.nil_append,List.append_nil,List.length_cons,List.length_nil,Env.find_set,p12,p17,km,lm,e0]
    ·simp only [Env.find_set]
     rw [if_neg (by omega)]
     exact g' c hc)
 exact ⟨E1,rfl,h2⟩
def draws (n base from_ j:Nat):List (List Nat):=(List.range j).map fun i=>pickL n (base+from_+i) (List.range n)
theorem draws_len (n base from_ j:Nat):(draws n base from_ j).length=j:=by unfold draws;rw [List.length_map,List.length_range]
theorem draws_succ (n base from_ j:Nat):draws n base from_ (j+1)=draws n base from_ j++[pickL n (base+from_+j) (List.range n)]:=by unfold draws;rw [List.range_succ,List.map_append];rfl
theorem perm_at:∀ {l:List Nat} {i:Nat} (h:i<l.length),List.Perm (l[i]::l.eraseIdx i) l
 | [],_,h=>by simp at h
 | a::l,0,_=>List.Perm.refl _
 | a::l,i+1,h=>by
  have hi:i<l.length:=by simpa using h
  have ih:=perm_at (l:=l) (i:=i) hi
  rw [List.getElem_cons_succ,List.eraseIdx_cons_succ]
  exact (List.Perm.swap a (l[i]'hi) _).trans (List.Perm.cons a ih)
theorem pick_perm:∀ (m T:Nat) (l:List Nat),l.length=m→List.Perm (pickL m T l) l
 | 0,_,l,h=>by rw [List.length_eq_zero_iff.mp h];exact List.Perm.nil
 | m+1,T,l,h=>by
  have hp:T % l.length<l.length:=Nat.mod_lt _ (by omega)
  unfold pickL
  have e:l.getD (T % l.length) 0=l[T % l.length]:=by simp [List.getD,hp]
  rw [e]
  exact (List.Perm.cons _ (pick_perm m _ _ (by rw [List.length_eraseIdx_of_lt hp];omega))).trans (perm_at hp)
theorem pick_all {n T k:Nat} (hk:k<n):k ∈ pickL n T (List.range n):=(pick_perm n T _ List.length_range).mem_iff.mpr (List.mem_range.mpr hk)
structure DrawnJ (w t:St) (p4 lo bS bA who bm n base from_ j kk:Nat) (l:Letting) (vS vA vm:AV):Prop where
 own:∃ x,0≤x∧x≤1000000000∧LetOwn t.h w.n lo bS bA (l.withTok who x) vS vA
 g4:t.h.get p4=some (.cells [vS,vA] (tag 28))
 met:MetS t.h t.n bm w.n (draws n base from_ j) vm
 bmc:(w.n≤bm∧bm<t.n)∨far<bm
 n:w.n≤t.n
 le:t.n≤w.n+kk
theorem drawn_round (N:Nat) (hN:8≤N) (cx:Ctx) {w t:St} {p4 lo bS bA who bm n base from_ j kk:Nat} {l:Letting} {vS vA vm:AV} {E:Env} (J:DrawnJ w t p4 lo bS bA who bm n base from_ j kk l vS vA vm) (ok:l.Ok) (hn:n=l.appls.length) (hn4:n≤4) (hwho:who<l.appls.length) (hbase:base+l.appls[who].token.toNat=tok l.appls) (hp4:p4<w.n∧p4≠bA) (hbA:bA<w.n) (hj:j<ways n n) (hw24:ways n n≤24) (hf':from_+ways n n≤1000000000) (hs:w.n+kk+9000≤far)
  (q4:E.find 4=.ptr p4 0) (q5:E.find 5=.int .i64 (n:Int)) (q8:E.find 8=.int .i64 ((ways n n:Nat):Int)) (q10:E.find 10=.int .i64 (who:Int)) (q11:E.find 11=.int .i64 (from_:Int)) (q12:E.find 12=vm) (q13:E.find 13=.int .i64 (j:Int)) :
  ∃ E1 t1 vm1 bm1,K3l3 (awd N) cx E [] t=.done .norm E1 [] t1∧DrawnJ w t1 p4 lo bS bA who bm1 n base from_ (j+1) (kk+20) l vS vA vm1∧E1.find 12=vm1∧E1.find 13=.int .i64 (j+1:Nat)∧∀ c,c<12→E1.find c=E.find c:=by
 have hf:far=1000000000:=rfl
 obtain ⟨⟨x,x0,x1,own⟩,j4,jmet,jb,jn,jle⟩:=J
 have e0:decide ((j:Int)<((ways n n:Nat):Int))=true:=decide_eq_true (by omega)
 have ad:∀ s,aAdd s .i64 (j:Int) 1=.val (.int .i64 ((j:Int)+1)) s:=fun s=>aAdd_i64 s _ _ (by omega)
 have adf:∀ s,aAdd s .i64 (from_:Int) (j:Int)=.val (.int .i64 ((from_+j:Nat):Int)) s:=fun s=>by rw [aAdd_i64 s _ _ (by omega)];rfl
 have kA:=own.at_.okV
 obtain ⟨c0,c1,sz,o1,o2,o3,o4,o5⟩:=own.token (who:=who) (by rw [withTok_len];exact hwho) ((from_+j:Nat):Int) (by omega)
 rw [withTok_twice] at o5
 obtain ⟨t1,ht1⟩:∃ t1:St,t1=t.put bA (.cells c1 sz):=⟨_,rfl⟩
 have t1n:t1.n=t.n:=by rw [ht1];rfl
 have t1g:∀ c,c≠bA→t1.h.get c=t.h.get c:=fun c hc=>by rw [ht1,get_put_ne' _ _ _ _ hc]
 have g41:=(t1g p4 hp4.2).trans j4
 rw [← ht1] at o5
 simp (disch:=first|omega|(with_unfolding_all exact rfl)|(simp only[new_n,put_n,new_m];omega)|(refine put_m_le ?_;simp only[new_m];omega)) only [K3l3,K3r15,K3r16,Abs.W,reduceIte,Nat.reduceEqDiff,Nat.reduceAdd,decide_true,decide_false,kLoop_def,Nat.reduceSub,List.cons_append,List.nil_append,List.append_nil,List.length_cons,List.length_nil,Env.find_set,Nat.zero_add,Nat.add_zero,q4,q8,q10,q11,q13,e0,j4,kA,adf,o1,o2,o3]
 rw [← ht1]
 have knD:∀ args s,awd N (.fn 13) args s=call Try.prog X N (.fn 13) args s:=fun _ _=>rfl
 have ex0:∀ (a b:AV) (s:St),extA 0 s (.tup [a,b])=.val a s:=fun _ _ _=>rfl
 have ex1:∀ (a b:AV) (s:St),extA 1 s (.tup [a,b])=.val b s:=fun _ _ _=>rfl
 have z0:decide ((0:Int)=0)=true:=rfl
 have en:decide ((n:Int)=(n:Int))=true:=by simp
 simp (disch:=first|omega|(with_unfolding_all exact rfl)|(simp only[new_n,put_n,new_m];omega)|(refine put_m_le ?_;simp only[new_m];omega)) only [K3r17,Abs.W,reduceIte,Nat.reduceEqDiff,Nat.reduceAdd,decide_true,decide_false,kLoop_def,Nat.reduceSub,List.cons_append,List.nil_append,List.append_nil,List.length_cons,List.length_nil,Env.find_set,Nat.zero_add,q4,g41,knD]
 generalize hc:call _ _ _ (.fn 13) _ _=rc
 obtain ⟨vl,t2,rfl,st,hI⟩:=Draw_ex hc (by omega) (withTok_ok ok who (by omega)) (o5.grow (n':=t1.n) (fun _ _ _=>rfl) (by omega)).at_ (by omega)
 have n2:=st.n
 have k2:=st.le
 have etok:tok (l.withTok who ((from_+j:Nat):Int)).appls=base+from_+j:=by
  have:=withTok_tok (l:=l) (i:=who) ((from_+j:Nat):Int) hwho
  omega
 have epl:drawL (l.withTok who ((from_+j:Nat):Int))=pickL n (base+from_+j) (List.range n):=by
  unfold drawL
  rw [etok,withTok_len,← hn]
 rw [epl] at hI
 obtain ⟨pl,hpl⟩:∃ pl,pl=pickL n (base+from_+j) (List.range n):=⟨_,rfl⟩
 rw [← hpl] at hI
 have pll:pl.length=n:=by rw [hpl,pickL_len]
 have kvl:=hI.okA
 have lvl:∀ s,lenSlA s vl=.val (.int .i64 (n:Int)) s:=fun s=>by have:=hI.len s;rw [natRows_len,pll] at this;exact this
 have g42:=(st.same p4 (by omega)).trans g41
 simp (disch:=first|omega|(with_unfolding_all exact rfl)|(simp only[new_n,put_n,new_m];omega)|(refine put_m_le ?_;simp only[new_m];omega)) only [K3r18,K3r18s4,K3r18s5,K3r18s6,K3r18s7,K3r20,Abs.W,reduceIte,Nat.reduceEqDiff,Nat.reduceAdd,decide_true,decide_false,kLoop_def,Nat.reduceSub,List.cons_append,List.nil_append,List.append_nil,List.length_cons,List.length_nil,Env.find_set,Nat.zero_add,Nat.add_zero,q5,ex0,ex1,kvl,lvl,z0,en]
 generalize hl1:loopN _ rounds _ _ _ _ _=rl1
 obtain ⟨E1,rfl,e1⟩:=look_loop N (by omega) (n:=n) hl1 hI.at_ (fun k hk=>by rw [hpl];exact pick_all hk) (by omega) (by omega) (by simp only [Env.find_set,q5,reduceIte,Nat.reduceEqDiff]) (by simp only [Env.find_set,reduceIte,Nat.reduceEqDiff]) (by simp only [Env.find_set,reduceIte,Nat.reduceEqDiff];rfl) (by omega)
 have f12:E1.find 12=vm:=(e1 12 (by omega)).trans (by simp only [Env.find_set,q12,reduceIte,Nat.reduceEqDiff])
 have f14:E1.find 14=vl:=(e1 14 (by omega)).trans (by simp only [Env.find_set,reduceIte,Nat.reduceEqDiff])
 simp (disch:=first|omega|(with_unfolding_all exact rfl)|(simp only[new_n,put_n,new_m];omega)|(refine put_m_le ?_;simp only[new_m];omega)) only [K3r25,Abs.W,reduceIte,Nat.reduceEqDiff,Nat.reduceAdd,decide_true,decide_false,kLoop_def,Nat.reduceSub,List.cons_append,List.nil_append,List.append_nil,List.length_cons,List.length_nil,Env.find_set,Nat.zero_add]
 generalize hl2:loopN _ rounds _ _ _ _ _=rl2
 have hM1:MetS t2.h t2.n bm w.n (draws n base from_ j) vm:=jmet.move (fun h=>by omega) (fun c h1 h2=>(st.same c (by omega)).trans (t1g c (by omega))) (by omega)
 obtain ⟨E2,rfl,e2⟩:=met_loop N (by omega) hl2 hM1 hI.at_ (by omega) (by rw [draws_len];omega) (fun m hm'=>by
  unfold draws at hm'
  obtain ⟨i,hi,rfl⟩:=List.mem_map.mp hm'
  have hi:=List.mem_range.mp hi
  refine ⟨by rw [pickL_len,pll],fun e=>?_⟩
  rw [hpl] at e
  have:=pick_other (Nat.le_refl n) (by omega) hj e
  omega) (by simp only [Env.find_set,f12,reduceIte,Nat.reduceEqDiff]) (by simp only [Env.find_set,f14,reduceIte,Nat.reduceEqDiff]) (by simp only [Env.find_set,reduceIte,Nat.reduceEqDiff];rfl) (by omega)
 have h12:E2.find 12=vm:=(e2 12 (by omega)).trans (by simp only [Env.find_set,f12,reduceIte,Nat.reduceEqDiff])
 have h14:E2.find 14=vl:=(e2 14 (by omega)).trans (by simp only [Env.find_set,f14,reduceIte,Nat.reduceEqDiff])
 have h13:E2.find 13=.int .i64 (j:Int):=(e2 13 (by omega)).trans (by
  simp only [Env.find_set,reduceIte,Nat.reduceEqDiff]
  exact (e1 13 (by omega)).trans (by simp only [Env.find_set,q13,reduceIte,Nat.reduceEqDiff]))
 have hc9:∀ c,c<12→E2.find c=E.find c:=fun c hc=>by
  rw [e2 c (by omega)]
  simp only [Env.find_set]
  rw [if_neg (by omega),e1 c (by omega)]
  simp only [Env.find_set]
  repeat rw [if_neg (by omega)]
 obtain ⟨y,hy⟩:∃ y:St,y=t2.new (.cells [vl] 0):=⟨_,rfl⟩
 have yn:y.n=t2.n+1:=by rw [hy];rfl
 have yg:∀ c,c<t2.n→y.h.get c=t2.h.get c:=fun c hc=>by rw [hy];exact get_new_ne _ _ _ (by omega)
 have yp:y.h.get t2.n=some (.cells [vl] 0):=by rw [hy];exact get_new_eq _ _ _ rfl (by omega)
 obtain ⟨vm1,s7,e7,hM7,s7n,s7g⟩:=(hM1.move (h':=y.h) (n':=y.n) (fun h=>by omega) (fun c h1 _=>yg c h1) (by omega)).push (hI.move (h':=y.h) (n':=y.n) (no':=fun x=>w.n≤x∧x≠bm) (fun b h1 h2=>⟨yg b h1,by omega,by omega⟩) (by omega)) yp (by rw [draws_len];omega) (by omega)
 have kvm:∀ t,okA (.val vm t)=.val vm t:=hM1.okA
 have cvl:cellsOf 1 vl=some [vl]:=hI.scal.2.1
 rw [hy] at e7
 simp (disch:=first|omega|(with_unfolding_all exact rfl)|(simp only[new_n,put_n,new_m];omega)|(refine put_m_le ?_;simp only[new_m];omega)) only [K3r30,K3r31,Abs.W,reduceIte,Nat.reduceEqDiff,Nat.reduceAdd,decide_true,decide_false,kLoop_def,Nat.reduceSub,List.cons_append,List.nil_append,List.append_nil,List.length_cons,List.length_nil,Env.find_set,h12,h14,cvl,e7,h13,ad,Nat.zero_add]
 rw [hpl,← draws_succ] at hM7
 have gg:∀ c,c<w.n→c≠bA→s7.h.get c=t.h.get c:=fun c h1 h2=>by rw [s7g c (by omega) (by omega),yg c (by omega),st.same c (by omega),t1g c h2]
 refine ⟨_,s7,vm1,y.n,rfl,⟨⟨_,by omega,by omega,o5.grow (fun c h1 h2=>?_) (Nat.le_refl _)⟩,(gg p4 hp4.1 hp4.2).trans j4,hM7,by omega,by omega,by omega⟩,by simp only [Env.find_set,reduceIte,Nat.reduceEqDiff],by simp only [Env.find_set,reduceIte,Nat.reduceEqDiff];rfl,fun c hc=>?_⟩
 ·rw [s7g c (by omega) (by omega),yg c (by omega),st.same c (by omega)]
 ·simp only [Env.find_set]
  repeat rw [if_neg (by omega)]
  exact hc9 c hc
end Go.Proofs.Ytbcjojljiochfaa.walk
set_option maxRecDepth 10000
namespace Go.Proofs.Ytbcjojljiochfaa.walk
open Go.Abs Go.Proofs.Ytbcjojljiochfaa.code
theorem withTok_self {l:Letting} {i:Nat} (h:i<l.appls.length):l.withTok i l.appls[i].token=l:=by
 obtain ⟨ss,aps⟩:=l
 have h':i<aps.length:=h
 unfold Letting.withTok
 rw [dif_pos h]
 show (⟨ss,aps.set i (aps[i].withT aps[i].token)⟩:Letting)=⟨ss,aps⟩
 have:aps[i].withT aps[i].token=aps[i]:=rfl
 rw [this,List.set_getElem_self]
theorem ways24 {n:Nat} (h:n≤4):ways n n≤24:=by
 have:n=0∨n=1∨n=2∨n=3∨n=4:=by omega
 rcases this with rfl | rfl | rfl | rfl | rfl<;>decide
theorem orders_loop (N:Nat) {cx:Ctx} {w:St} {n:Nat} {E:Env} {r:R} (hr:loopN K3l0 rounds (awd N) cx E [] w=r) (hn:1≤n∧n≤4)
  (q5:E.find 5=.int .i64 (n:Int)) (q8:E.find 8=.int .i64 ((1:Nat):Int)) (q9:E.find 9=.int .i64 ((2:Nat):Int)) :
  ∃ E1,r=.done (.exit 0) E1 [] w∧E1.find 8=.int .i64 ((ways n n:Nat):Int)∧∀ c,c<8→E1.find c=E.find c:=by
 obtain ⟨e,E1,t,rfl,rfl,rfl,h8,h2⟩:=loop_of hr (fun i E' t'=>t'=w∧E'.find 8=.int .i64 ((ways (i+1) (i+1):Nat):Int)∧E'.find 9=.int .i64 ((i+2:Nat):Int)∧∀ c,c<8→E'.find c=E.find c) (fun e E' t'=>e=.exit 0∧t'=w∧E'.find 8=.int .i64 ((ways n n:Nat):Int)∧∀ c,c<8→E'.find c=E.find c) (n - 1) (by unfold rounds;omega)
  ⟨rfl,q8,q9,fun _ _=>rfl⟩
  (fun i E' t' hi ⟨ht,p8,p9,g'⟩=>by
   subst ht
   have p5:=(g' 5 (by omega)).trans q5
   by_cases hlt:i<n - 1
   ·have e0:decide (((i+2:Nat):Int)≤(n:Int))=true:=decide_eq_true (by omega)
    have hw:=ways24 (n:=i+2) (by omega)
    have hw2:ways (i+2) (i+2)=(i+2) * ways (i+1) (i+1):=rfl
    have am:∀ s,aMul s .i64 ((ways (i+1) (i+1):Nat):Int) ((i+2:Nat):Int)=.val (.int .i64 ((ways (i+2) (i+2):Nat):Int)) s:=fun s=>by
     have e:Int.mul ((ways (i+1) (i+1):Nat):Int) ((i+2:Nat):Int)=((ways (i+2) (i+2):Nat):Int):=by
      rw [hw2,Nat.mul_comm];rfl
     rw [aMul_def,e,wrap_in _ (by omega)]
    have ad:∀ s,aAdd s .i64 ((i+2:Nat):Int) 1=.val (.int .i64 ((i+3:Nat):Int)) s:=fun s=>by rw [aAdd_i64 s _ _ (by omega)];rfl
    refine .inl ⟨hlt,_,_,by
     simp (disch:=first|omega|(with_unfolding_all exact rfl)|(simp only[new_n,put_n,new_m];omega)|(refine put_m_le ?_;simp only[new_m];omega)) only [K3l0,K3r9,K3r10,K3r11,Abs.W,reduceIte,Nat.reduceEqDiff,Nat.reduceAdd,decide_true,decide_false,kLoop_def,Nat.reduceSub,List.cons_append,List.nil_append,List.append_nil,List.length_cons,List.length_nil,Env.find_set,p5,p8,p9,e0,am,ad]
     rfl,rfl,?_,?_,fun c hc=>?_⟩
    ·simp only [Env.find_set,reduceIte,Nat.reduceEqDiff]
    ·simp only [Env.find_set,reduceIte,Nat.reduceEqDiff]
    ·simp only [Env.find_set]
     repeat rw [if_neg (by omega)]
     exact g' c hc
   ·have hin:i+1=n:=by omega
    have e0:decide (((i+2:Nat):Int)≤(n:Int))=false:=decide_eq_false (by omega)
    rw [hin] at p8
    refine .inr ⟨.exit 0,E'.set 44 (.bool false),_,by simp,?_,rfl,rfl,by simp only [Env.find_set,p8,reduceIte,Nat.reduceEqDiff],fun c hc=>?_⟩
    ·simp (disch:=first|omega|(with_unfolding_all exact rfl)|(simp only[new_n,put_n,new_m];omega)|(refine put_m_le ?_;simp only[new_m];omega)) only [K3l0,K3r9,Abs.W,reduceIte,Nat.reduceEqDiff,Nat.reduceAdd,decide_true,decide_false,kLoop_def,Nat.reduceSub,List.cons_append,List.nil_append,List.append_nil,List.length_cons,List.length_nil,Env.find_set,p5,p9,e0]
    ·simp only [Env.find_set]
     rw [if_neg (by omega)]
     exact g' c hc)
 exact ⟨E1,rfl,h8,h2⟩
theorem drawn_loop (N:Nat) (hN:8≤N) {cx:Ctx} {w:St} {p4 lo bS bA who n base from_:Nat} {l:Letting} {vS vA:AV} {E:Env} {r:R} (hr:loopN K3l3 rounds (awd N) cx E [] w=r) (own:LetOwn w.h w.n lo bS bA l vS vA) (g4:w.h.get p4=some (.cells [vS,vA] (tag 28))) (ok:l.Ok) (hn:n=l.appls.length) (hn4:n≤4) (hwho:who<l.appls.length) (hbase:base+l.appls[who].token.toNat=tok l.appls) (hp4:p4<w.n∧p4≠bA) (hbA:bA<w.n) (hf':from_+ways n n≤1000000000) (hs:w.n+20000≤far)
  (q4:E.find 4=.ptr p4 0) (q5:E.find 5=.int .i64 (n:Int)) (q8:E.find 8=.int .i64 ((ways n n:Nat):Int)) (q10:E.find 10=.int .i64 (who:Int)) (q11:E.find 11=.int .i64 (from_:Int)) (q12:E.find 12=.nilslice) (q13:E.find 13=.int .i64 (0:Nat)) :
  ∃ E1 t,r=.done (.exit 2) E1 [] t:=by
 have hf:far=1000000000:=rfl
 have h24:=ways24 hn4
 have a0:=ok.ap _ (List.getElem_mem hwho)
 obtain ⟨e,E1,t,rfl,rfl⟩:=loop_of hr (fun j E' t'=>∃ vm bm,DrawnJ w t' p4 lo bS bA who bm n base from_ j (20 * j) l vS vA vm∧E'.find 12=vm∧E'.find 13=.int .i64 (j:Int)∧∀ c,c<12→E'.find c=E.find c) (fun e E' t'=>e=.exit 2) (ways n n) (by unfold rounds;omega)
  ⟨.nilslice,far+1,⟨⟨l.appls[who].token,a0.t0,a0.t1,by rw [withTok_self hwho];exact own⟩,g4,MetS.nil _ _ _ _,.inr (by omega),Nat.le_refl _,Nat.le_refl _⟩,q12,q13,fun _ _=>rfl⟩
  (fun j E' t' hj ⟨vm,bm,hJ,p12,p13,g⟩=>by
   have p8:=(g 8 (by omega)).trans q8
   by_cases hlt:j<ways n n
   ·obtain ⟨E2,t2,vm2,bm2,z1,z2,z3,z4,z5⟩:=drawn_round N hN cx hJ ok hn hn4 hwho hbase hp4 hbA hlt h24 hf' (by omega) ((g 4 (by omega)).trans q4) ((g 5 (by omega)).trans q5) p8 ((g 10 (by omega)).trans q10) ((g 11 (by omega)).trans q11) p12 p13
    exact .inl ⟨hlt,E2,t2,z1,vm2,bm2,z2,z3,z4,fun c hc=>(z5 c hc).trans (g c hc)⟩
   ·obtain rfl:j=ways n n:=by omega
    have e0:decide (((ways n n:Nat):Int)<((ways n n:Nat):Int))=false:=by simp
    refine .inr ⟨.exit 2,E'.set 59 (.bool false),t',by simp,?_,rfl⟩
    simp (disch:=first|omega|(with_unfolding_all exact rfl)|(simp only[new_n,put_n,new_m];omega)|(refine put_m_le ?_;simp only[new_m];omega)) only [K3l3,K3r15,Abs.W,reduceIte,Nat.reduceEqDiff,Nat.reduceAdd,decide_true,decide_false,kLoop_def,Nat.reduceSub,List.cons_append,List.nil_append,List.append_nil,List.length_cons,List.length_nil,Env.find_set,p8,p13,e0])
 exact ⟨E1,t,rfl⟩
noncomputable def sdrRest:K:=(kSeq (kRegion K3r2 [4]) (kSeq (kRegion K3r3 [5]) (kSeq (kSeq (kRegion K3r4 [26]) (kCond (.tmp 26) (kSeq (kRegion K3r5 [6,7]) (kSeq (kRegion K3r6 [2]) kRet)) kSkip)) (kSeq (kRegion K3r7 [8]) (kSeq (kSeq (kRegion K3r8 [9]) (kBlock 0 (kLoop K3l0))) (kSeq (kRegion K3r12 [10,11]) (kSeq (kRegion K3r13 [12]) (kSeq (kSeq (kRegion K3r14 [13]) (kBlock 2 (kLoop K3l3))) (kSeq (kRegion K3r32 [2]) kRet)))))))))
theorem sdr_body (n:Nat) (hn:13≤n) (cx:Ctx) (s:St) (d:Nat) (hd:Die d s.h) (hdn:d<s.n) (hs:s.n+9000000≤far) (hm:s.m=far) :
  ∃ s',finA Try.prog Try.f3 (sdrRest (awd n) cx (.cons 3 (.ptr d 0) .nil) [] s)=.val (.bool true) s':=by
 have hf:far=1000000000:=rfl
 have knB:∀ args s,awd n (.fn 12) args s=call Try.prog X n (.fn 12) args s:=fun _ _=>rfl
 have knC:∀ args s,awd n (.fn 15) args s=call Try.prog X n (.fn 15) args s:=fun _ _=>rfl
 have knD:∀ args s,awd n (.fn 13) args s=call Try.prog X n (.fn 13) args s:=fun _ _=>rfl
 have knA:∀ s,awd n (.fn 14) [] s=.val (.bool true) s:=fun _=>rfl
 unfold sdrRest
 simp (disch:=first|omega|(with_unfolding_all exact rfl)|(simp only[new_n,put_n,new_m];omega)|(refine put_m_le ?_;simp only[new_m];omega)) only [K3r2,Abs.W,reduceIte,Nat.reduceEqDiff,Nat.reduceAdd,decide_true,decide_false,kLoop_def,Nat.reduceSub,List.cons_append,List.nil_append,List.append_nil,List.length_cons,List.length_nil,Env.find_set,knB]
 generalize hc1:call _ _ _ (.fn 12) _ _=r1
 obtain ⟨l,vS,vA,bS,bA,t1,rfl,st1,d1,ok,hk,hmm,own⟩:=LettingOf_ex (k:=3) (m:=4) hc1 (by omega) hd hdn (by omega) (by omega) (by omega)
 have n1:=st1.n
 have k1:=st1.le
 have scB:=own.at_.scal
 have kA:=own.at_.okV
 have lA:=own.at_.lenA
 simp (disch:=first|omega|(with_unfolding_all exact rfl)|(simp only[new_n,put_n,new_m];omega)|(refine put_m_le ?_;simp only[new_m];omega)) only [Abs.W,reduceIte,Nat.reduceEqDiff,Nat.reduceAdd,decide_true,decide_false,kLoop_def,Nat.reduceSub,List.cons_append,List.nil_append,List.append_nil,List.length_cons,List.length_nil,Env.find_set,scB,Nat.zero_add]
 obtain ⟨y,hy⟩:∃ y:St,y=(t1.new (.cells [.nilslice,.nilslice] (tag 28))).put t1.n (.cells [vS,vA] (tag 28)):=⟨_,rfl⟩
 have yn:y.n=t1.n+1:=by rw [hy];rfl
 have yg:∀ c,c<t1.n→y.h.get c=t1.h.get c:=fun c hc=>by rw [hy,get_put_ne' _ _ _ _ (by omega),get_new_ne _ _ _ (by omega)]
 have y4:y.h.get t1.n=some (.cells [vS,vA] (tag 28)):=by rw [hy];exact get_put_eq _ _ _ _ rfl (by omega)
 have dy:Die d y.h:=Die.keep d1 (yg d (by omega))
 have owny:=own.grow (h':=y.h) (n':=y.n) (fun c h1 _=>yg c h1) (by omega)
 rw [← hy]
 clear hy
 obtain ⟨m,hm'⟩:∃ m,m=l.appls.length:=⟨_,rfl⟩
 rw [← hm'] at lA
 simp (disch:=first|omega|(with_unfolding_all exact rfl)|(simp only[new_n,put_n,new_m];omega)|(refine put_m_le ?_;simp only[new_m];omega)) only [K3r3,K3r4,Abs.W,reduceIte,Nat.reduceEqDiff,Nat.reduceAdd,decide_true,decide_false,kLoop_def,Nat.reduceSub,List.cons_append,List.nil_append,List.append_nil,List.length_cons,List.length_nil,Env.find_set,y4,kA,lA,Nat.zero_add]
 by_cases h0:m=0
 ·subst h0
  have e0:decide (((0:Nat):Int)=0)=true:=rfl
  have z0:decide ((0:Int)=0)=true:=rfl
  have ex0:∀ (a b:AV) (s:St),extA 0 s (.tup [a,b])=.val a s:=fun _ _ _=>rfl
  have ex1:∀ (a b:AV) (s:St),extA 1 s (.tup [a,b])=.val b s:=fun _ _ _=>rfl
  simp (disch:=first|omega|(with_unfolding_all exact rfl)|(simp only[new_n,put_n,new_m];omega)|(refine put_m_le ?_;simp only[new_m];omega)) only [K3r5,Abs.W,reduceIte,Nat.reduceEqDiff,Nat.reduceAdd,decide_true,decide_false,kLoop_def,Nat.reduceSub,List.cons_append,List.nil_append,List.append_nil,List.length_cons,List.length_nil,Env.find_set,y4,e0,knD,Nat.zero_add]
  generalize hc2:call _ _ _ (.fn 13) _ _=r2
  obtain ⟨vl,t2,rfl,st2,hI⟩:=Draw_ex hc2 (by omega) ok owny.at_ (by omega)
  have kvl:=hI.okA
  have lvl:∀ s,lenSlA s vl=.val (.int .i64 0) s:=fun s=>by have:=hI.len s;rw [natRows_len,drawL_len,← hm'] at this;exact this
  simp (disch:=first|omega|(with_unfolding_all exact rfl)|(simp only[new_n,put_n,new_m];omega)|(refine put_m_le ?_;simp only[new_m];omega)) only [K3r6,K3r6s4,K3r6s5,K3r6s6,K3r6s9,res3,Abs.W,reduceIte,Nat.reduceEqDiff,Nat.reduceAdd,decide_true,decide_false,kLoop_def,Nat.reduceSub,List.cons_append,List.nil_append,List.append_nil,List.length_cons,List.length_nil,Env.find_set,ex0,ex1,kvl,lvl,z0,knA,Nat.zero_add]
  exact ⟨_,rfl⟩
 ·have e0:decide ((m:Int)=0)=false:=decide_eq_false (by omega)
  simp (disch:=first|omega|(with_unfolding_all exact rfl)|(simp only[new_n,put_n,new_m];omega)|(refine put_m_le ?_;simp only[new_m];omega)) only [K3r7,K3r8,Abs.W,reduceIte,Nat.reduceEqDiff,Nat.reduceAdd,decide_true,decide_false,kLoop_def,Nat.reduceSub,List.cons_append,List.nil_append,List.append_nil,List.length_cons,List.length_nil,Env.find_set,e0,Nat.zero_add]
  generalize hl1:loopN _ rounds _ _ _ _ _=rl1
  obtain ⟨E1,rfl,f8,g1⟩:=orders_loop n (n:=m) hl1 (by omega) (by simp only [find_cons,Env.find_set,reduceIte,Nat.reduceEqDiff]) (by simp only [find_cons,Env.find_set,reduceIte,Nat.reduceEqDiff];rfl) (by simp only [find_cons,Env.find_set,reduceIte,Nat.reduceEqDiff];rfl)
  have f3:E1.find 3=.ptr d 0:=(g1 3 (by omega)).trans (by simp only [find_cons,Env.find_set,reduceIte,Nat.reduceEqDiff])
  have f4:E1.find 4=.ptr t1.n 0:=(g1 4 (by omega)).trans (by simp only [find_cons,Env.find_set,reduceIte,Nat.reduceEqDiff])
  have f5:E1.find 5=.int .i64 (m:Int):=(g1 5 (by omega)).trans (by simp only [find_cons,Env.find_set,reduceIte,Nat.reduceEqDiff])
  have h24:=ways24 (n:=m) (by omega)
  have hw1:=ways_pos m m (Nat.le_refl m)
  have sbw:∀ s,aSub s .i64 1000000000 ((ways m m:Nat):Int)=.val (.int .i64 (1000000000 - ((ways m m:Nat):Int))) s:=fun s=>aSub_i64 s _ _ (by omega)
  simp (disch:=first|omega|(with_unfolding_all exact rfl)|(simp only[new_n,put_n,new_m];omega)|(refine put_m_le ?_;simp only[new_m];omega)) only [K3r12,Abs.W,reduceIte,Nat.reduceEqDiff,Nat.reduceAdd,decide_true,decide_false,kLoop_def,Nat.reduceSub,List.cons_append,List.nil_append,List.append_nil,List.length_cons,List.length_nil,Env.find_set,f3,f5,f8,knC,Nat.zero_add]
  generalize hc2:call _ _ _ (.fn 15) _ _=r2
  obtain ⟨x2,t2,rfl,st2,d2,x20,x21⟩:=cast_ex hc2 (by omega) dy (by omega) (by omega) (by omega)
  obtain ⟨who,rfl⟩:∃ n:Nat,x2=n:=⟨x2.toNat,by omega⟩
  have n2:=st2.n
  have k2:=st2.le
  simp (disch:=first|omega|(with_unfolding_all exact rfl)|(simp only[new_n,put_n,new_m];omega)|(refine put_m_le ?_;simp only[new_m];omega)) only [Abs.W,reduceIte,Nat.reduceEqDiff,Nat.reduceAdd,decide_true,decide_false,kLoop_def,Nat.reduceSub,List.cons_append,List.nil_append,List.append_nil,List.length_cons,List.length_nil,Env.find_set,f3,f8,sbw,knC,Nat.zero_add]
  generalize hc3:call _ _ _ (.fn 15) _ _=r3
  obtain ⟨x3,t3,rfl,st3,d3,x30,x31⟩:=cast_ex hc3 (by omega) d2 (by omega) (by omega) (by omega)
  obtain ⟨from_,rfl⟩:∃ n:Nat,x3=n:=⟨x3.toNat,by omega⟩
  have n3:=st3.n
  have k3:=st3.le
  have g3:∀ c,c<y.n→c≠d→t3.h.get c=y.h.get c:=fun c hc hcd=>(st3.same c (by omega) hcd).trans (st2.same c hc hcd)
  have hwho:who<l.appls.length:=by omega
  have w4:=(g3 t1.n (by omega) (by omega)).trans y4
  have own3:=owny.grow (h':=t3.h) (n':=t3.n) (fun c h1 h2=>g3 c h1 (by omega)) (by omega)
  have bAlt:bA<t1.n:=by
   obtain ⟨ws,q1,q2,q3⟩:=own.ap
   rcases q2.is with ⟨z,_⟩ | ⟨_,z,_⟩
   ·have:=rowsOf_len q1
    rw [z] at this
    simp at this
    omega
   ·exact z
  simp (disch:=first|omega|(with_unfolding_all exact rfl)|(simp only[new_n,put_n,new_m];omega)|(refine put_m_le ?_;simp only[new_m];omega)) only [K3r13,K3r14,Abs.W,reduceIte,Nat.reduceEqDiff,Nat.reduceAdd,decide_true,decide_false,kLoop_def,Nat.reduceSub,List.cons_append,List.nil_append,List.append_nil,List.length_cons,List.length_nil,Env.find_set,Nat.zero_add]
  generalize hl2:loopN _ rounds _ _ _ _ _=rl2
  have a0:=ok.ap _ (List.getElem_mem hwho)
  have htk:l.appls[who].token.toNat≤tok l.appls:=by
   have:=withTok_tok (l:=l) (i:=who) 0 hwho
   omega
  obtain ⟨E2,t4,rfl⟩:=drawn_loop n (by omega) (p4:=t1.n) (who:=who) (n:=m) (base:=tok l.appls - l.appls[who].token.toNat) (from_:=from_) hl2 own3 w4 ok hm' (by omega) hwho (by omega) (by omega) (by omega) (by omega) (by omega)
   (by simp only [Env.find_set,f4,reduceIte,Nat.reduceEqDiff]) (by simp only [Env.find_set,f5,reduceIte,Nat.reduceEqDiff]) (by simp only [Env.find_set,f8,reduceIte,Nat.reduceEqDiff]) (by simp only [Env.find_set,reduceIte,Nat.reduceEqDiff]) (by simp only [Env.find_set,reduceIte,Nat.reduceEqDiff]) (by simp only [Env.find_set,reduceIte,Nat.reduceEqDiff]) (by simp only [Env.find_set,reduceIte,Nat.reduceEqDiff];rfl)
  simp (disch:=first|omega|(with_unfolding_all exact rfl)|(simp only[new_n,put_n,new_m];omega)|(refine put_m_le ?_;simp only[new_m];omega)) only [K3r32,res3,Abs.W,reduceIte,Nat.reduceEqDiff,Nat.reduceAdd,decide_true,decide_false,kLoop_def,Nat.reduceSub,List.cons_append,List.nil_append,List.append_nil,List.length_cons,List.length_nil,Env.find_set,knA]
  exact ⟨_,rfl⟩
end Go.Proofs.Ytbcjojljiochfaa.walk
