/- Lettings that are made of numbers: LettingOf, whole. -/
import Derived.Test.YtbcjojljiochfaaM3
import Derived.Test.YtbcjojljiochfaaM1
import Derived.Test.YtbcjojljiochfaaM2
import Derived.Test.YtbcjojljiochfaaCodes
import Derived.Test.YtbcjojljiochfaaWalkAll
set_option linter.unusedSimpArgs false
set_option maxHeartbeats 16000000
set_option linter.unusedVariables false
set_option maxRecDepth 10000
namespace Go.Proofs.Ytbcjojljiochfaa.walk
open Go.Abs Go.Proofs.Ytbcjojljiochfaa.code
theorem nat_wishes {f:List Nat} {m:Nat} (h:∀ x ∈ f,x<m):∀ x ∈ f.map Int.ofNat,(0:Int)≤x∧x<m:=fun x hx=>by
 obtain ⟨y,hy,rfl⟩:=List.mem_map.mp hx
 have:=h y hy
 simp only [Int.ofNat_eq_natCast]
 omega
theorem app_round (N:Nat) (hN:8≤N) (cx:Ctx) {d p7 bS bA kk i many:Nat} {l:Letting} {vS vA:AV} {u t:St} {L:Env} (J:LetK u t d p7 l vS vA bS bA kk) (hl:l.appls.length≤7) (hk:1≤l.stalls.length∧l.stalls.length≤8) (hss:∀ s ∈ l.stalls,0≤s.least∧s.least≤1000) (hs:u.n+kk+9000≤far) (hum:u.m≤far) (hdm:d≤u.m) (hi:i<many) (hmany:many≤1000)
  (q0:L.find 0=.ptr d 0) (q7:L.find 7=.ptr p7 0) (q8:L.find 8=.int .i64 many) (q11:L.find 11=.int .i64 i) :
  ∃ L1 t1 A v1 b1,K12l2 (call Try.prog X N) cx L [] t=.done .norm L1 [] t1∧LetK u t1 d p7 ⟨l.stalls,l.appls++[A]⟩ vS v1 bS b1 (kk+110)∧L1.find 11=.int .i64 (i+1:Nat)∧∀ c,c<11→L1.find c=L.find c:=by
 have hf:far=1000000000:=rfl
 have jn:=J.n
 have jle:=J.le
 have jdp:=J.dp
 have e0:decide ((i:Int)<(many:Int))=true:=decide_eq_true (by omega)
 have ad:∀ s,aAdd s .i64 (i:Int) 1=.val (.int .i64 ((i:Int)+1)) s:=fun s=>aAdd_i64 s _ _ (by omega)
 rw [app_eq]
 simp (disch:=first|omega|(with_unfolding_all exact rfl)|(simp only[new_n,put_n,new_m];omega)|(refine put_m_le ?_;simp only[new_m];omega)) only [K12r11,K12r12,Abs.W,reduceIte,Nat.reduceEqDiff,Nat.reduceAdd,decide_true,decide_false,kLoop_def,Nat.reduceSub,List.cons_append,List.nil_append,List.append_nil,List.length_cons,List.length_nil,Env.find_set,Nat.zero_add,q0,q8,q11,e0]
 generalize hc1:call _ _ _ (.fn 15) _ _=r1
 obtain ⟨x1,t1,rfl,st1,d1,x10,x11⟩:=cast_ex hc1 (by omega) J.die (by omega) (by omega) (by omega)
 have n1:=st1.n
 have k1:=st1.le
 simp (disch:=first|omega|(with_unfolding_all exact rfl)|(simp only[new_n,put_n,new_m];omega)|(refine put_m_le ?_;simp only[new_m];omega)) only [Abs.W,reduceIte,Nat.reduceEqDiff,Nat.reduceAdd,decide_true,decide_false,kLoop_def,Nat.reduceSub,List.cons_append,List.nil_append,List.append_nil,List.length_cons,List.length_nil,Env.find_set,q0]
 generalize hc2:call _ _ _ (.fn 15) _ _=r2
 obtain ⟨x2,t2,rfl,st2,d2,x20,x21⟩:=cast_ex hc2 (by omega) d1 (by omega) (by omega) (by omega)
 have n2:=st2.n
 have k2:=st2.le
 simp (disch:=first|omega|(with_unfolding_all exact rfl)|(simp only[new_n,put_n,new_m];omega)|(refine put_m_le ?_;simp only[new_m];omega)) only [Abs.W,reduceIte,Nat.reduceEqDiff,Nat.reduceAdd,decide_true,decide_false,kLoop_def,Nat.reduceSub,List.cons_append,List.nil_append,List.append_nil,List.length_cons,List.length_nil,Env.find_set,q0]
 generalize hc3:call _ _ _ (.fn 15) _ _=r3
 obtain ⟨x3,t3,rfl,st3,d3,x30,x31⟩:=cast_ex hc3 (by omega) d2 (by omega) (by omega) (by omega)
 have n3:=st3.n
 have k3:=st3.le
 simp (disch:=first|omega|(with_unfolding_all exact rfl)|(simp only[new_n,put_n,new_m];omega)|(refine put_m_le ?_;simp only[new_m];omega)) only [Abs.W,reduceIte,Nat.reduceEqDiff,Nat.reduceAdd,decide_true,decide_false,kLoop_def,Nat.reduceSub,List.cons_append,List.nil_append,List.append_nil,List.length_cons,List.length_nil,Env.find_set,q0]
 generalize hc4:call _ _ _ (.fn 33) _ _=r4
 obtain ⟨x4,t4,rfl,st4,d4,hx4⟩:=one_ex [x2,x3] (b:=t3.n) (sz:=0) hc4 (by omega) (d3.keep (get_new_ne _ _ _ (by omega))) (by simp only [new_n];omega) (by simp only [new_n];omega) (get_new_eq _ _ _ rfl (by omega)) (by simp only [new_n];omega) (by omega) rfl (by omega) (by omega)
 have n4:=st4.n
 have k4:=st4.le
 simp only [new_n] at n4 k4
 have hx4':0≤x4∧x4≤1000000000:=by simp at hx4;omega
 simp (disch:=first|omega|(with_unfolding_all exact rfl)|(simp only[new_n,put_n,new_m];omega)|(refine put_m_le ?_;simp only[new_m];omega)) only [Abs.W,reduceIte,Nat.reduceEqDiff,Nat.reduceAdd,decide_true,decide_false,kLoop_def,Nat.reduceSub,List.cons_append,List.nil_append,List.append_nil,List.length_cons,List.length_nil,Env.find_set,q0,Nat.zero_add]
 have S4:Stir d t t4 1:=(((st1.trans st2).trans st3).new _).trans st4
 obtain ⟨y,hy⟩:∃ y:St,y=(t4.new (.cells [.int .i64 0,.int .i64 0,.nilslice,.nilslice] (tag 37))).put t4.n (.cells [.int .i64 x1,.int .i64 x4,.nilslice,.nilslice] (tag 37)):=⟨_,rfl⟩
 have Sy:Stir d t y 2:=by rw [hy];exact (S4.new _).put (by omega) _ (.inr (by omega))
 have yn:y.n=t4.n+1:=by rw [hy];rfl
 have yp:y.h.get t4.n=some (.cells [.int .i64 x1,.int .i64 x4,.nilslice,.nilslice] (tag 37)):=by rw [hy];exact get_put_eq _ _ _ _ rfl (by omega)
 have dy:Die d y.h:=d4.keep (by rw [hy,get_put_ne' _ _ _ _ (by omega),get_new_ne _ _ _ (by omega)])
 rw [← hy]
 have Jy:=J.stir Sy dy
 have y7:=Jy.g7
 have kS:∀ t,okA (.val vS t)=.val vS t:=J.own.st.okA
 have lS:∀ s,lenSlA s vS=.val (.int .i64 l.stalls.length) s:=J.own.at_.lenS
 simp (disch:=first|omega|(with_unfolding_all exact rfl)|(simp only[new_n,put_n,new_m];omega)|(refine put_m_le ?_;simp only[new_m];omega)) only [K12r13,Abs.W,reduceIte,Nat.reduceEqDiff,Nat.reduceAdd,decide_true,decide_false,kLoop_def,Nat.reduceSub,List.cons_append,List.nil_append,List.append_nil,List.length_cons,List.length_nil,Env.find_set,q0,q7,y7,kS,lS,Nat.zero_add]
 generalize hc5:call _ _ _ (.fn 34) _ _=r5
 obtain ⟨wv,f,t5,rfl,st5,d5,hfl,hperm,hblk⟩:=Shuffle_ex hc5 (by omega) dy (by omega) (by omega) (by omega)
 have n5:=st5.n
 have k5:=st5.le
 have p5:=(st5.same t4.n (by omega) (by omega)).trans yp
 have kw:∀ t,okA (.val wv t)=.val wv t:=hblk.okA
 have cw:cellsOf 1 wv=some [wv]:=hblk.cells
 have sw:scalars [wv]=true:=hblk.scals []
 simp (disch:=first|omega|(with_unfolding_all exact rfl)|(simp only[new_n,put_n,new_m];omega)|(refine put_m_le ?_;simp only[new_m];omega)) only [Abs.W,reduceIte,Nat.reduceEqDiff,Nat.reduceAdd,decide_true,decide_false,kLoop_def,Nat.reduceSub,List.cons_append,List.nil_append,List.append_nil,List.length_cons,List.length_nil,Env.find_set,p5,kw,cw,sw,Nat.zero_add]
 obtain ⟨z,hz⟩:∃ z:St,z=t5.put t4.n (.cells [.int .i64 x1,.int .i64 x4,wv,.nilslice] (tag 37)):=⟨_,rfl⟩
 rw [← hz]
 have zn:z.n=t5.n:=by rw [hz];rfl
 have Sz:Stir d t z 3:=by rw [hz];exact (Sy.trans st5).put (by omega) _ (.inr (by omega))
 have zp:z.h.get t4.n=some (.cells [.int .i64 x1,.int .i64 x4,wv,.nilslice] (tag 37)):=by rw [hz];exact get_put_eq _ _ _ _ rfl (by omega)
 have dz:Die d z.h:=d5.keep (by rw [hz,get_put_ne' _ _ _ _ (by omega)])
 have hwz:Sl (fun x=>t4.n<x) z.h z.n 1 (intRows (f.map Int.ofNat)) wv:=by
  refine (Sl.of_blk (no:=fun x=>t4.n<x) hblk (by omega) (fun e=>?_)).move (fun b h1 h2=>⟨by rw [hz,get_put_ne' _ _ _ _ (by omega)],h2⟩) (by omega)
  have:=natRows_len f
  rw [e] at this
  simp at this
  omega
 simp (disch:=first|omega|(with_unfolding_all exact rfl)|(simp only[new_n,put_n,new_m];omega)|(refine put_m_le ?_;simp only[new_m];omega)) only [K12r14,Abs.W,reduceIte,Nat.reduceEqDiff,Nat.reduceAdd,decide_true,decide_false,kLoop_def,Nat.reduceSub,List.cons_append,List.nil_append,List.append_nil,List.length_cons,List.length_nil,Env.find_set,q0,Nat.zero_add]
 generalize hc6:call _ _ _ (.fn 27) _ _=r6
 obtain ⟨bb,t6,rfl,st6,d6⟩:=once_ex hc6 (by omega) dz (by omega) (by omega) (by omega)
 have n6:=st6.n
 have k6:=st6.le
 have S6:=Sz.trans st6
 have p6:=(st6.same t4.n (by omega) (by omega)).trans zp
 have w6:=hwz.move (h':=t6.h) (n':=t6.n) (no':=fun x=>t4.n<x) (fun b h1 h2=>⟨st6.same b h1 (by omega),h2⟩) n6
 have nd:=perm_nodup hfl hperm
 have lt:=perm_lt hfl hperm
 cases bb with
 | false =>
  simp (disch:=first|omega|(with_unfolding_all exact rfl)|(simp only[new_n,put_n,new_m];omega)|(refine put_m_le ?_;simp only[new_m];omega)) only [Abs.W,reduceIte,Nat.reduceEqDiff,Nat.reduceAdd,decide_true,decide_false,kLoop_def,Nat.reduceSub,List.cons_append,List.nil_append,List.append_nil,List.length_cons,List.length_nil,Env.find_set,Nat.zero_add]
  generalize hq:appTail _ _ _ _ _=q9
  obtain ⟨L1,z1,A,v1,b1,rfl,J1,g1⟩:=app_tail N (by omega) (k:=3) hq J (S6.mono (by omega)) d6 (by omega) p6 w6 (by omega) (by omega) (nat_wishes lt) (ofNat_nodup nd) (by rw [List.length_map];omega) hss hl (by omega) hum hdm
   (by simp only [Env.find_set,q0,reduceIte,Nat.reduceEqDiff]) (by simp only [Env.find_set,q7,reduceIte,Nat.reduceEqDiff]) (by simp only [Env.find_set,reduceIte,Nat.reduceEqDiff])
  have f11:L1.find 11=.int .i64 i:=(g1 11 (by omega)).trans (by simp only [Env.find_set,q11,reduceIte,Nat.reduceEqDiff])
  simp (disch:=first|omega|(with_unfolding_all exact rfl)|(simp only[new_n,put_n,new_m];omega)|(refine put_m_le ?_;simp only[new_m];omega)) only [K12r21,Abs.W,reduceIte,Nat.reduceEqDiff,Nat.reduceAdd,decide_true,decide_false,kLoop_def,Nat.reduceSub,List.cons_append,List.nil_append,List.append_nil,List.length_cons,List.length_nil,Env.find_set,f11,ad]
  obtain ⟨a1,a2,a3,a4,a5,a6,a7,a8,a9,a10,a11⟩:=J1
  refine ⟨_,z1,_,v1,b1,rfl,⟨a1,a2,a3,a4,a5,a6,by omega,a8,a9,a10,a11⟩,by simp only [Env.find_set,reduceIte,Nat.reduceEqDiff];rfl,fun c hc=>?_⟩
  simp only [Env.find_set]
  rw [if_neg (by omega),g1 c (by omega)]
  simp only [Env.find_set]
  repeat rw [if_neg (by omega)]
 | true =>
  have lw:=rowLen w6.at_
  rw [List.length_map,hfl] at lw
  have adw:∀ s,aAdd s .i64 (l.stalls.length:Int) 1=.val (.int .i64 ((l.stalls.length:Int)+1)) s:=fun s=>aAdd_i64 s _ _ (by omega)
  simp (disch:=first|omega|(with_unfolding_all exact rfl)|(simp only[new_n,put_n,new_m];omega)|(refine put_m_le ?_;simp only[new_m];omega)) only [K12r15,thenT_turn,Abs.W,reduceIte,Nat.reduceEqDiff,Nat.reduceAdd,decide_true,decide_false,kLoop_def,Nat.reduceSub,List.cons_append,List.nil_append,List.append_nil,List.length_cons,List.length_nil,Env.find_set,q0,p6,kw,lw,adw,Nat.zero_add]
  generalize hc7:call _ _ _ (.fn 15) _ _=r7
  obtain ⟨x7,t7,rfl,st7,d7,x70,x71⟩:=cast_ex hc7 (by omega) d6 (by show d<t6.n;omega) (by show t6.n+100≤far;omega) (by omega)
  obtain ⟨cut,rfl⟩:∃ n:Nat,x7=n:=⟨x7.toNat,by omega⟩
  have n7:t6.n≤t7.n:=st7.n
  have k7:t7.n≤t6.n:=st7.le
  have g7':∀ c,c<t6.n→c≠d→t7.h.get c=t6.h.get c:=fun c hc hcd=>st7.same c hc hcd
  have p7':=(g7' t4.n (by omega) (by omega)).trans p6
  obtain ⟨v',hv1,hv2⟩:=w6.to (i:=cut) (by rw [intRows_len,List.length_map];omega)
  rw [intRows_take] at hv2
  have kv':=hv2.okA
  have cv':=hv2.scal.2.1
  have sv':=hv2.scal.1
  simp (disch:=first|omega|(with_unfolding_all exact rfl)|(simp only[new_n,put_n,new_m];omega)|(refine put_m_le ?_;simp only[new_m];omega)) only [thenT_turn,Abs.W,reduceIte,Nat.reduceEqDiff,Nat.reduceAdd,decide_true,decide_false,kLoop_def,Nat.reduceSub,List.cons_append,List.nil_append,List.append_nil,List.length_cons,List.length_nil,Env.find_set,q0,p7',kSlice_def,optEv_some,optEv_none,hv1,kv',cv',sv',Nat.zero_add]
  rw [endT_kept (l:=[71]) (s':=t7) (by simp only [keptAll_cons,keptAll_nil,find_cons,Env.find_set,keptV_ptr,p6,p7',sameO_cells,reduceIte,Nat.reduceEqDiff,Bool.and_self])]
  rw [endO_ok _ (endOk_nil _)]
  have S7:Stir d t6 ⟨t7.h,t7.n,minN t6.m t7.m⟩ 0:=st7.draw (by omega)
  obtain ⟨z2,hz2⟩:∃ z2:St,z2=(⟨t7.h,t7.n,minN t6.m t7.m⟩:St).put t4.n (.cells [.int .i64 x1,.int .i64 x4,v',.nilslice] (tag 37)):=⟨_,rfl⟩
  have z2n:z2.n=t7.n:=by rw [hz2];rfl
  have Sz2:Stir d t z2 3:=by rw [hz2];exact ((S6.trans S7).mono (by omega)).put (by omega) _ (.inr (by omega))
  have z2p:z2.h.get t4.n=some (.cells [.int .i64 x1,.int .i64 x4,v',.nilslice] (tag 37)):=by rw [hz2];exact get_put_eq _ _ _ _ rfl (by show t4.n<_;omega)
  have dz2:Die d z2.h:=d7.keep (by rw [hz2,get_put_ne' _ _ _ _ (by omega)])
  have w7:=hv2.move (h':=z2.h) (n':=z2.n) (no':=fun x=>t4.n<x) (fun b h1 h2=>⟨by rw [hz2,get_put_ne' _ _ _ _ (by omega)];exact g7' b h1 (by omega),h2⟩) (by omega)
  rw [← hz2]
  simp (disch:=first|omega|(with_unfolding_all exact rfl)|(simp only[new_n,put_n,new_m];omega)|(refine put_m_le ?_;simp only[new_m];omega)) only [Abs.W,reduceIte,Nat.reduceEqDiff,Nat.reduceAdd,decide_true,decide_false,kLoop_def,Nat.reduceSub,List.cons_append,List.nil_append,List.append_nil,List.length_cons,List.length_nil,Env.find_set,Nat.zero_add]
  generalize hq:appTail _ _ _ _ _=q9
  obtain ⟨L1,z1,A,v1,b1,rfl,J1,g1⟩:=app_tail N (by omega) (k:=3) hq J Sz2 dz2 (by omega) z2p w7 (by omega) (by omega) (fun x hx=>nat_wishes lt x (List.mem_of_mem_take hx)) ((ofNat_nodup nd).sublist (List.take_sublist ..)) (by rw [List.length_take,List.length_map];omega) hss hl (by omega) hum hdm
   (by simp only [Env.find_set,q0,reduceIte,Nat.reduceEqDiff]) (by simp only [Env.find_set,q7,reduceIte,Nat.reduceEqDiff]) (by simp only [Env.find_set,reduceIte,Nat.reduceEqDiff])
  have f11:L1.find 11=.int .i64 i:=(g1 11 (by omega)).trans (by simp only [Env.find_set,q11,reduceIte,Nat.reduceEqDiff])
  simp (disch:=first|omega|(with_unfolding_all exact rfl)|(simp only[new_n,put_n,new_m];omega)|(refine put_m_le ?_;simp only[new_m];omega)) only [K12r21,Abs.W,reduceIte,Nat.reduceEqDiff,Nat.reduceAdd,decide_true,decide_false,kLoop_def,Nat.reduceSub,List.cons_append,List.nil_append,List.append_nil,List.length_cons,List.length_nil,Env.find_set,f11,ad]
  obtain ⟨a1,a2,a3,a4,a5,a6,a7,a8,a9,a10,a11⟩:=J1
  refine ⟨_,z1,_,v1,b1,rfl,⟨a1,a2,a3,a4,a5,a6,by omega,a8,a9,a10,a11⟩,by simp only [Env.find_set,reduceIte,Nat.reduceEqDiff];rfl,fun c hc=>?_⟩
  simp only [Env.find_set]
  rw [if_neg (by omega),g1 c (by omega)]
  simp only [Env.find_set]
  repeat rw [if_neg (by omega)]
theorem app_loop (N:Nat) (hN:8≤N) {cx:Ctx} {d p7 bS bA kk many:Nat} {ss:List StallR} {vS vA:AV} {u w:St} {L:Env} {r:R} (hr:loopN K12l2 rounds (call Try.prog X N) cx L [] w=r) (J:LetK u w d p7 ⟨ss,[]⟩ vS vA bS bA kk) (hk:1≤ss.length∧ss.length≤8) (hss:∀ s ∈ ss,0≤s.least∧s.least≤1000) (hs:u.n+kk+20000≤far) (hum:u.m≤far) (hdm:d≤u.m) (hmany:many≤8)
  (q0:L.find 0=.ptr d 0) (q7:L.find 7=.ptr p7 0) (q8:L.find 8=.int .i64 many) (q11:L.find 11=.int .i64 (0:Nat)) :
  ∃ L1 t1 aps v1 b1,r=.done (.exit 2) L1 [] t1∧LetK u t1 d p7 ⟨ss,aps⟩ vS v1 bS b1 (kk+880)∧aps.length=many∧∀ c,c<11→L1.find c=L.find c:=by
 have hf:far=1000000000:=rfl
 obtain ⟨e,L1,t1,rfl,rfl,aps,v1,b1,h1,h3,h5⟩:=loop_of hr (fun j L' t'=>∃ aps v1 b1,LetK u t' d p7 ⟨ss,aps⟩ vS v1 bS b1 (kk+110 * j)∧aps.length=j∧L'.find 11=.int .i64 (j:Nat)∧∀ c,c<11→L'.find c=L.find c)
  (fun e L' t'=>e=.exit 2∧∃ aps v1 b1,LetK u t' d p7 ⟨ss,aps⟩ vS v1 bS b1 (kk+880)∧aps.length=many∧∀ c,c<11→L'.find c=L.find c) many (by unfold rounds;omega)
  ⟨[],vA,bA,J,rfl,q11,fun _ _=>rfl⟩
  (fun j L' t' hj ⟨aps,v1,b1,hJ,hb3,p11,g⟩=>by
   have p8:=(g 8 (by omega)).trans q8
   by_cases hlt:j<many
   ·obtain ⟨L2,t2,A,v2,b2,z1,z2,z6,z7⟩:=app_round N hN cx (i:=j) hJ (by show aps.length≤7;omega) hk hss (by omega) hum hdm hlt (by omega) ((g 0 (by omega)).trans q0) ((g 7 (by omega)).trans q7) p8 p11
    exact .inl ⟨hlt,L2,t2,z1,aps++[A],v2,b2,z2,by simp [hb3],z6,fun c hc=>(z7 c hc).trans (g c hc)⟩
   ·obtain rfl:j=many:=by omega
    have e0:decide ((j:Int)<(j:Int))=false:=by simp
    refine .inr ⟨.exit 2,L'.set 50 (.bool false),t',by simp,?_,rfl,aps,v1,b1,?_,hb3,fun c hc=>?_⟩
    ·rw [app_eq]
     simp (disch:=first|omega|(with_unfolding_all exact rfl)|(simp only[new_n,put_n,new_m];omega)|(refine put_m_le ?_;simp only[new_m];omega)) only [K12r11,Abs.W,reduceIte,Nat.reduceEqDiff,Nat.reduceAdd,decide_true,decide_false,kLoop_def,Nat.reduceSub,List.cons_append,List.nil_append,List.append_nil,List.length_cons,List.length_nil,Env.find_set,p8,p11,e0]
    ·obtain ⟨a1,a2,a3,a4,a5,a6,a7,a8,a9,a10,a11⟩:=hJ
     exact ⟨a1,a2,a3,a4,a5,a6,by omega,a8,a9,a10,a11⟩
    ·simp only [Env.find_set]
     rw [if_neg (by omega)]
     exact g c hc)
 exact ⟨L1,t1,aps,v1,b1,rfl,h1,h3,h5⟩
theorem LettingOf_ex {N d k m:Nat} {s:St} {r:ARes} (hr:call Try.prog X N (.fn 12) [.ptr d 0,.int .i64 (k:Int),.int .i64 (m:Int)] s=r) (hN:9≤N) (hd:Die d s.h) (hlt:d<s.n) (hk:1≤k∧k≤8) (hm:m≤8) (hs:s.n+30000≤far) :
  ∃ (l:Letting) (vS vA:AV) (bS bA:Nat) (t:St),r=.val (.agg (letV vS vA)) t∧Stir d s t 1000∧Die d t.h∧l.Ok∧l.stalls.length≤k∧l.appls.length≤m∧LetOwn t.h t.n s.n bS bA l vS vA:=by
 obtain ⟨n,rfl⟩:∃ n,N=n+1:=⟨N - 1,by omega⟩
 have hf:far=1000000000:=rfl
 obtain ⟨v,t,e,st,l,vS,vA,bS,bA,rfl,hq1,hq2,hq3,hq4,hq5⟩:=call_stir (n:=n) (args:=[.ptr d 0,.int .i64 (k:Int),.int .i64 (m:Int)]) (d:=d) (s:=s) (k:=1000) (Q:=fun w h n=>∃ (l:Letting) (vS vA:AV) (bS bA:Nat),w=.agg (letV vS vA)∧Die d h∧l.Ok∧l.stalls.length≤k∧l.appls.length≤m∧LetOwn h n s.n bS bA l vS vA) Try.func12 rfl (fun u uh un um=>by
  rw [← uh] at hd
  rw [← un] at hlt ⊢
  have adm:∀ s,aAdd s .i64 (m:Int) 1=.val (.int .i64 ((m:Int)+1)) s:=fun s=>aAdd_i64 s _ _ (by omega)
  rw [enter12]
  obtain ⟨w0,hw0⟩:∃ w0:St,w0=(u.new (.cells [.nilslice,.nilslice] (tag 28))).new (.cells [.nilslice,.nilslice] (tag 28)):=⟨_,rfl⟩
  have w0n:w0.n=u.n+2:=by rw [hw0];rfl
  have w0m:w0.m=far:=by rw [hw0];exact um
  have w0g:∀ c,c<u.n→w0.h.get c=u.h.get c:=fun c hc=>by rw [hw0,get_new_ne _ _ _ (by simp only [new_n];omega),get_new_ne _ _ _ (by omega)]
  have w01:w0.h.get (u.n+1)=some (.cells [.nilslice,.nilslice] (tag 28)):=by rw [hw0];exact get_new_eq _ _ _ rfl (by simp only [new_n];omega)
  have w00:w0.h.get u.n=some (.cells [.nilslice,.nilslice] (tag 28)):=by rw [hw0,get_new_ne _ _ _ (by simp only [new_n];omega)];exact get_new_eq _ _ _ rfl (by omega)
  simp (disch:=first|omega|(with_unfolding_all exact rfl)|(simp only[new_n,put_n,new_m];omega)|(refine put_m_le ?_;simp only[new_m];omega)) only [K12,K12r0,K12r1,K12r2,Abs.W,reduceIte,Nat.reduceEqDiff,Nat.reduceAdd,decide_true,decide_false,kLoop_def,Nat.reduceSub,List.cons_append,List.nil_append,List.append_nil,List.length_cons,List.length_nil,Env.find_set,adm]
  rw [← hw0]
  simp only [new_n]
  generalize hc1:call _ _ _ (.fn 15) _ _=r1
  obtain ⟨x1,t1,rfl,st1,d1,x10,x11⟩:=cast_ex hc1 (by omega) (hd.keep (w0g d hlt)) (by omega) (by omega) (by omega)
  obtain ⟨many,rfl⟩:∃ n:Nat,x1=n:=⟨x1.toNat,by omega⟩
  have n1:=st1.n
  have k1:=st1.le
  simp (disch:=first|omega|(with_unfolding_all exact rfl)|(simp only[new_n,put_n,new_m];omega)|(refine put_m_le ?_;simp only[new_m];omega)) only [K12r3,Abs.W,reduceIte,Nat.reduceEqDiff,Nat.reduceAdd,decide_true,decide_false,kLoop_def,Nat.reduceSub,List.cons_append,List.nil_append,List.append_nil,List.length_cons,List.length_nil,Env.find_set]
  generalize hc2:call _ _ _ (.fn 26) _ _=r2
  obtain ⟨x2,t2,rfl,st2,d2,x20,x21⟩:=from_ex hc2 (by omega) d1 (by omega) (by omega) (by omega) (by omega) (by omega) (by omega)
  obtain ⟨i,rfl⟩:∃ n:Nat,x2=n:=⟨x2.toNat,by omega⟩
  have n2:=st2.n
  have k2:=st2.le
  have S2:=st1.trans st2
  have dm2:=S2.m (by omega)
  have g2:∀ c,c<w0.n→c≠d→t2.h.get c=w0.h.get c:=S2.same
  simp (disch:=first|omega|(with_unfolding_all exact rfl)|(simp only[new_n,put_n,new_m];omega)|(refine put_m_le ?_;simp only[new_m];omega)) only [Abs.W,reduceIte,Nat.reduceEqDiff,Nat.reduceAdd,decide_true,decide_false,kLoop_def,Nat.reduceSub,List.cons_append,List.nil_append,List.append_nil,List.length_cons,List.length_nil,Env.find_set]
  generalize hl1:loopN _ rounds _ _ _ _ _=rl1
  have J0:LetJ t2 t2 d (u.n+1) [] many .nilslice (far+1) 0:=⟨d2,(g2 _ (by omega) (by omega)).trans w01,IsAt.nil _ _ _ _ _,by omega,fun _ _ _=>rfl,by omega,by omega,fun h=>h,Nat.le_refl _,by omega,fun s hs=>by cases hs⟩
  obtain ⟨L1,t3,ss,vS,bS,rfl,J3,hsl,g3⟩:=let_loop n (by omega) hl1 J0 (i:=i) (by omega) (by omega) (by have:=S2.mle;omega) (by omega) (by simp only [find_cons,Env.find_set,reduceIte,Nat.reduceEqDiff]) (by simp only [find_cons,Env.find_set,reduceIte,Nat.reduceEqDiff]) (by simp only [find_cons,Env.find_set,reduceIte,Nat.reduceEqDiff]) (by simp only [find_cons,Env.find_set,reduceIte,Nat.reduceEqDiff])
  obtain ⟨jd,j7,ji,jlo,js,jn,jle,jm,jml,jdp,jok⟩:=J3
  have bSlt:bS<t3.n:=by
   rcases ji.is with ⟨z,_⟩ | ⟨_,z,_⟩
   ·rw [List.map_eq_nil_iff.mp z] at hsl;simp at hsl;omega
   ·exact z
  have S2m:=S2.mle
  have jm3:=jm dm2
  simp (disch:=first|omega|(with_unfolding_all exact rfl)|(simp only[new_n,put_n,new_m];omega)|(refine put_m_le ?_;simp only[new_m];omega)) only [K12r10,Abs.W,reduceIte,Nat.reduceEqDiff,Nat.reduceAdd,decide_true,decide_false,kLoop_def,Nat.reduceSub,List.cons_append,List.nil_append,List.append_nil,List.length_cons,List.length_nil,Env.find_set]
  generalize hl2:loopN _ rounds _ _ _ _ _=rl2
  have J1:LetK t3 t3 d (u.n+1) ⟨ss,[]⟩ vS .nilslice bS (far+1) 0:=⟨jd,j7,⟨ji,⟨[],rfl,IsAt.nil _ _ _ _ _,fun i h1 _=>by simp at h1⟩,by omega,by omega,by omega⟩,⟨.inl bSlt,.inr (by omega)⟩,fun _ _ _=>rfl,by omega,by omega,fun h=>h,Nat.le_refl _,by omega,fun a ha=>by cases ha⟩
  have f0:L1.find 0=.ptr d 0:=(g3 0 (by omega)).trans (by simp only [find_cons,Env.find_set,reduceIte,Nat.reduceEqDiff])
  have f6:L1.find 6=.ptr u.n 0:=(g3 6 (by omega)).trans (by simp only [find_cons,Env.find_set,reduceIte,Nat.reduceEqDiff])
  have f7:L1.find 7=.ptr (u.n+1) 0:=(g3 7 (by omega)).trans (by simp only [find_cons,Env.find_set,reduceIte,Nat.reduceEqDiff])
  have f8:L1.find 8=.int .i64 many:=(g3 8 (by omega)).trans (by simp only [find_cons,Env.find_set,reduceIte,Nat.reduceEqDiff])
  obtain ⟨L2,t4,aps,vA,bA,rfl,J4,hal,g4⟩:=app_loop n (by omega) hl2 J1 (by show 1≤ss.length∧ss.length≤8;omega) (fun s hs=>⟨(jok s hs).l0,(jok s hs).l1⟩) (by omega) (by omega) (by omega) (many:=many) (by omega) (by simp only [Env.find_set,f0,reduceIte,Nat.reduceEqDiff]) (by simp only [Env.find_set,f7,reduceIte,Nat.reduceEqDiff]) (by simp only [Env.find_set,f8,reduceIte,Nat.reduceEqDiff]) (by simp only [Env.find_set,reduceIte,Nat.reduceEqDiff];rfl)
  have p6:L2.find 6=.ptr u.n 0:=(g4 6 (by omega)).trans (by simp only [Env.find_set,f6,reduceIte,Nat.reduceEqDiff])
  have p7:L2.find 7=.ptr (u.n+1) 0:=(g4 7 (by omega)).trans (by simp only [Env.find_set,f7,reduceIte,Nat.reduceEqDiff])
  obtain ⟨kd,k7,ko,kb,ks,kn,kle,km,kml,kdp,kok⟩:=J4
  have c0:t4.h.get u.n=some (.cells [.nilslice,.nilslice] (tag 28)):=(ks u.n (by omega) (by omega)).trans ((js u.n (by omega) (by omega)).trans ((g2 u.n (by omega) (by omega)).trans w00))
  have sc:=ko.at_.scal
  have sh2:shapeT Try.prog 28=some (some 2):=by kernel_rfl
  simp (disch:=first|omega|(with_unfolding_all exact rfl)|(simp only[new_n,put_n,new_m];omega)|(refine put_m_le ?_;simp only[new_m];omega)) only [K12r22,res12,Abs.W,reduceIte,Nat.reduceEqDiff,Nat.reduceAdd,decide_true,decide_false,kLoop_def,Nat.reduceSub,List.cons_append,List.nil_append,List.append_nil,List.length_cons,List.length_nil,Env.find_set,p6,p7,k7,c0,sc,Nat.zero_add]
  have km4:=km jm3
  refine ⟨.agg (letV vS vA),_,leave_cell _ _ _ _ sh2 ?_,⟨fun c hc hcd=>?_,by simp only [put_n];omega,by simp only [put_n];omega,fun _=>?_,?_⟩,?_,⟨⟨ss,aps⟩,vS,vA,bS,bA,rfl,kd.keep (get_put_ne' _ _ _ _ (by omega)),⟨by show 1≤ss.length;omega,by show ss.length≤8;omega,by show aps.length≤8;omega,fun s hs=>by show s.Ok aps.length;rw [hal];exact jok s hs,kok⟩,by show ss.length≤k;omega,by show aps.length≤m;omega,?_⟩⟩
  ·simp only [Env.find_set,p6,reduceIte,Nat.reduceEqDiff]
   rw [load_ptr,get_put_eq _ _ _ _ rfl (by omega),loadO_cells,partS_some]
   rfl
  ·rw [get_put_ne' _ _ _ _ (by omega),ks c (by omega) hcd,js c (by omega) hcd,g2 c (by omega) hcd,w0g c hc]
  ·simp only [St.put,minN_eq];omega
  ·simp only [St.put,minN_eq];omega
  ·rcases ji.is with ⟨z,_⟩ | ⟨_,_,z,_⟩
   ·rw [List.map_eq_nil_iff.mp z] at hsl;simp at hsl;omega
   ·subst z;rfl
  ·have:=ko.grow (h':=(t4.put u.n (.cells [vS,vA] (tag 28))).h) (n':=(t4.put u.n (.cells [vS,vA] (tag 28))).n) (fun c h1 h2=>get_put_ne' _ _ _ _ (by omega)) (Nat.le_refl _)
   obtain ⟨o1,⟨ws,o2,o3,o4⟩,o5,o6,o7⟩:=this
   exact ⟨o1,⟨ws,o2,o3,fun i h1 h2=>⟨(o4 i h1 h2).1.move (fun b h3 h4=>⟨rfl,by omega,h4.2⟩) (Nat.le_refl _),(o4 i h1 h2).2.move (fun b h3 h4=>⟨rfl,by omega,h4.2⟩) (Nat.le_refl _)⟩⟩,by omega,by omega,o7⟩) (by omega)
 exact ⟨l,vS,vA,bS,bA,t,hr.symm.trans e,st,hq1,hq2,hq3,hq4,hq5⟩
end Go.Proofs.Ytbcjojljiochfaa.walk
set_option maxRecDepth 10000
namespace Go.Abs
structure Takes {α:Type} (P:Program) (X:FuncId→List Nat) (N l k0 w rm:Nat) (own:Nat→Prop) (ev:α→List AV) (T:List α) (μ:List α→Nat→Prop) (J:List α→Heap→Nat→Prop) (D:List α→α→Nat→Heap→Nat→Prop):Prop where
 mono:∀ p m m',m'≤m→μ p m→μ p m'
 nil:∀ m,μ [] m
 keep:∀ p h h' n n',(∀ b,b≤l→h'.get b=h.get b)→n≤n'→J p h n→J p h' n'
 keepD:∀ p x k h h' n n',(∀ b,b≤l∨k≤b→h'.get b=h.get b)→n≤n'→D p x k h n→D p x k h' n'
 take:∀ p x rest (s:St),p++x::rest=T→J p s.h s.n→l<s.n→s.n+rm≤far→w≤s.m→s.m≤far→μ p s.m→∃ c s',Abs.call P X N (.yield l) (ev x) s=.val (.bool c) s'∧(c=true→J (p++[x]) s'.h s'.n)∧(c=false→D p x s.n s'.h s'.n) ∧
  (∀ y,y<s.n→y≠l→¬ own y→s'.h.get y=s.h.get y)∧s.n≤s'.n∧s'.n≤s.n+k0∧w≤s'.m∧s'.m≤s.m∧s'.m≤l∧μ (p++[x]) s'.m
def Ended {α:Type} (T:List α) (μ:List α→Nat→Prop) (J:List α→Heap→Nat→Prop) (D:List α→α→Nat→Heap→Nat→Prop) (h:Heap) (n m:Nat):Prop:=(J T h n∧μ T m)∨∃ p x rest k,p++x::rest=T∧D p x k h n∧μ (p++[x]) m
def Hands {α:Type} (P:Program) (X:FuncId→List Nat) (N Z cb:Nat) (H:Heap) (rd:Nat→Prop) (g:FuncId) (cap:List AV) (ev:α→List AV) (T:List α):Prop :=
 ∀ (l k0 w rm:Nat) (own:Nat→Prop) (μ:List α→Nat→Prop) (J:List α→Heap→Nat→Prop) (D:List α→α→Nat→Heap→Nat→Prop) (s:St),Takes P X N l k0 w rm own ev T μ J D→(∀ y,own y→¬ rd y∧y≤l)→¬ rd l→(∀ y,rd y→y<s.n∧s.h.get y=H.get y)→l<s.n→w≤l→s.n+10 * (k0+cb)+rm+1000≤far→J [] s.h s.n→w≤s.m→s.m≤far →
  ∃ s',Abs.call P X Z (.fn g) (.yield l::cap) s=.val (.tup []) s'∧Ended T μ J D s'.h s'.n s'.m∧(∀ y,y<s.n→y≠l→¬ own y→s'.h.get y=s.h.get y)∧s.n≤s'.n∧s'.n≤s.n+10 * (k0+cb)∧w≤s'.m∧s'.m≤s.m∧(T=[]∨s'.m≤l)
def loopO (c:Ctx) (L:Env) (ps:List Tmp) (a b:Code) (s:St):ALoop:=⟨.ready,none,c.fn,L,ps,a,b,s.n,c.nt,c.xs⟩
theorem jump_norm:jumpOf .norm=none:=rfl
theorem goes_norm:goesOn .norm=true:=rfl
theorem goes_other {e:Ex} (h:e≠.norm):goesOn e=false:=by cases e<;>first | rfl | exact absurd rfl h
theorem jumpA_other {L:Env} {d:List Nat} {s:St} {e:Ex} (h:e≠.norm):jumpA L d s (jumpOf e)=.done e L d s:=by cases e<;>first | rfl | exact absurd rfl h
theorem range_any {P:Program} {f:Arg} {ps:List Tmp} {a b:Code} {cl:CallF} {c:Ctx} {L:Env} {d:List Nat} {s s2:St} {v:AV} {r:ALoop} {e:Ex} (hc:c.rnd=none)
  (h:callV cl [.yield (s.n+1)] ((s.new .dfr).new (.loop ⟨.ready,none,c.fn,L,ps,a,b,s.n,c.nt,c.xs⟩)) (f.ev L)=.val v s2) (hr:s2.h.get (s.n+1)=some (.loop r)) (hb:r.state≠.busy) (hp:r.pending=jumpOf e) :
  kRange f ps a b cl c L d s=.done e L (s.n::d) (s2.put (s.n+1) (.loop { r with state:=.exhausted })):=by
 rw [range_eq hc h hr hb,hp]
 by_cases he:e=.norm
 ·subst he;rfl
 ·exact jumpA_other he
theorem hands_range {α:Type} {P:Program} {X:FuncId→List Nat} {M Z cb:Nat} {H:Heap} {rd:Nat→Prop} {g:FuncId} {cap:List AV} {ev:α→List AV} {T:List α} (hh:Hands P X (M+1) Z cb H rd g cap ev T) {f:Arg} {ps:List Tmp} {a b:Code} {ka kb:K} {c:Ctx} {L:Env} {d:List Nat} {s:St} (hc:c.rnd=none) (hf:f.ev L=.func g [] cap) (hps:∀ x,(ev x).length=ps.length) (ha:codeK P c.xs c.nt a=some ka) (hb:codeK P c.xs c.nt b=some kb)
  (k0 w rm:Nat) (own:Nat→Prop) (μ:List α→Nat→Prop) (μm:∀ p m m',m'≤m→μ p m→μ p m') (μ0:∀ m,μ [] m) (I:List α→Heap→Nat→Prop) (Q:Ex→List α→α→Nat→Heap→Nat→Prop) (hH:∀ y,rd y→y<s.n∧s.h.get y=H.get y) (ho:∀ y,own y→¬ rd y∧y<s.n) (hw:w≤s.n) (hwm:w≤s.m) (hm:s.m≤far) (hs:s.n+10 * (k0+cb)+rm+10000≤far)
  (hI0:I [] s.h s.n) (keep:∀ p h h' n n',(∀ y,y<s.n→h'.get y=h.get y)→n≤n'→I p h n→I p h' n') (keepQ:∀ e p x k h h' n n',(∀ y,y<s.n∨k≤y→h'.get y=h.get y)→n≤n'→Q e p x k h n→Q e p x k h' n')
  (round:∀ p x rest (t:St),p++x::rest=T→I p t.h t.n→(∀ y,y<s.n→¬ own y→t.h.get y=s.h.get y)→s.n+2≤t.n→t.n+rm≤far→w≤t.m→t.m≤far→μ p t.m→∃ L1 t1 e L2 t2,ka (Abs.call P X M) ⟨c.fn,some (s.n+1),c.nt,c.xs⟩ (setParams L ps (ev x)) [] t=.done .norm L1 [] t1∧t1.h.get (s.n+1)=t.h.get (s.n+1)∧kb (Abs.call P X M) ⟨c.fn,some (s.n+1),c.nt,c.xs⟩ L1 [] (t1.put (s.n+1) (.loop { loopO c L ps a b s with state:=.busy }))=.done e L2 [] t2∧(e=.norm→I (p++[x]) t2.h t2.n)∧(e≠.norm→Q e p x t.n t2.h t2.n)∧t2.h.get (s.n+1)=some (.loop { loopO c L ps a b s with state:=.busy })∧(∀ y,y<t.n→y≠s.n+1→¬ own y→t2.h.get y=t.h.get y)∧t.n≤t2.n∧t2.n≤t.n+k0∧w≤t2.m∧t2.m≤t.m∧μ (p++[x]) t2.m) :
  ∃ e s',kRange f ps a b (Abs.call P X Z) c L d s=.done e L (s.n::d) s'∧((e=.norm∧I T s'.h s'.n∧μ T s'.m)∨(e≠.norm∧∃ p x rest k,p++x::rest=T∧s.n+2≤k∧Q e p x k s'.h s'.n∧μ (p++[x]) s'.m))∧(∀ y,y<s.n→¬ own y→s'.h.get y=s.h.get y)∧s'.h.get s.n=some .dfr∧s.n+2≤s'.n∧s'.n≤s.n+2+10 * (k0+cb)∧w≤s'.m∧s'.m≤s.m:=by
 have hff:far=1000000000:=rfl
 obtain ⟨S0,hS0⟩:∃ S0:St,S0=(s.new .dfr).new (.loop (loopO c L ps a b s)):=⟨_,rfl⟩
 have n0:S0.n=s.n+2:=by rw [hS0];rfl
 have m0:S0.m=s.m:=by rw [hS0];rfl
 have g0:∀ y,y<s.n→S0.h.get y=s.h.get y:=fun y hy=>by rw [hS0,get_new_ne _ _ _ (by rw [new_n];omega),get_new_ne _ _ _ (by omega)]
 have gd:S0.h.get s.n=some .dfr:=by rw [hS0,get_new_ne _ _ _ (by rw [new_n];omega)];exact get_new_eq _ _ _ rfl (by omega)
 have gl:S0.h.get (s.n+1)=some (.loop (loopO c L ps a b s)):=by rw [hS0];exact get_new_eq _ _ _ rfl (by rw [new_n];omega)
 obtain ⟨s2,e2,hE,k2,k3,k4,k5,k6,_⟩:=hh (s.n+1) k0 w rm own μ (fun p h n=>h.get (s.n+1)=some (.loop (loopO c L ps a b s))∧I p h n∧(∀ y,y<s.n→¬ own y→h.get y=s.h.get y)∧h.get s.n=some .dfr∧s.n+1<n)
  (fun p x k h n=>s.n+2≤k∧∃ e,e≠.norm∧h.get (s.n+1)=some (.loop { loopO c L ps a b s with state:=.done,pending:=jumpOf e })∧Q e p x k h n∧(∀ y,y<s.n→¬ own y→h.get y=s.h.get y)∧h.get s.n=some .dfr∧s.n+1<n) S0
  ⟨μm,μ0,fun p h h' n n' hb hn ⟨j1,j2,j3,j4,j5⟩=>⟨(hb _ (Nat.le_refl _)).trans j1,keep p h h' n n' (fun y hy=>hb y (by omega)) hn j2,fun y hy ho'=>(hb y (by omega)).trans (j3 y hy ho'),(hb _ (by omega)).trans j4,by omega⟩,
  fun p x k h h' n n' hb hn ⟨hk,e,he,j1,j2,j3,j4,j5⟩=>⟨hk,e,he,(hb _ (.inl (Nat.le_refl _))).trans j1,keepQ e p x k h h' n n' (fun y hy=>hb y (by omega)) hn j2,fun y hy ho'=>(hb y (by omega)).trans (j3 y hy ho'),(hb _ (by omega)).trans j4,by omega⟩,
  fun p x rest t ht ⟨j1,j2,j3,j4,j5⟩ hl hfar hwt hmt hμ=>by
   obtain ⟨L1,t1,e,L2,t2,r1,r2,r3,r4,rQ,r5,r6,r7,r8,r9,r10,r11⟩:=round p x rest t ht j2 j3 (by omega) (by omega) hwt hmt hμ
   have hcr:=call_round (P:=P) (X:=X) (n:=M) (l:=s.n+1) (args:=ev x) (r:=loopO c L ps a b s) (r1:=loopO c L ps a b s) j1 (hps x) ha hb r1 (r2.trans j1) rfl r3 r5
   by_cases he:e=.norm
   ·subst he
    rw [goes_norm,jump_norm] at hcr
    refine ⟨true,_,hcr,fun _=>⟨get_put_eq _ _ _ _ rfl (by omega),keep _ _ _ _ _ (fun y hy=>get_put_ne' _ _ _ _ (by omega)) (Nat.le_refl _) (r4 rfl),fun y hy ho'=>?_,?_,by rw [put_n];omega⟩,fun h=>(by cases h),fun y hy hyl hyo=>?_,by rw [put_n];omega,by rw [put_n];omega,?_,?_,?_,μm _ _ _ (by simp only [St.put,minN_eq];omega) r11⟩
    ·rw [get_put_ne' _ _ _ _ (by omega),r6 y (by omega) (by omega) ho'];exact j3 y hy ho'
    ·rw [get_put_ne' _ _ _ _ (by omega),r6 s.n (by omega) (by omega) (fun h=>by have:=(ho _ h).2;omega)];exact j4
    ·rw [get_put_ne' _ _ _ _ hyl];exact r6 y hy hyl hyo
    ·simp only [St.put,minN_eq];omega
    ·simp only [St.put,minN_eq];omega
    ·simp only [St.put,minN_eq];omega
   ·rw [goes_other he] at hcr
    refine ⟨false,_,hcr,fun h=>(by cases h),fun _=>⟨by omega,e,he,get_put_eq _ _ _ _ rfl (by omega),keepQ _ _ _ _ _ _ _ _ (fun y hy=>get_put_ne' _ _ _ _ (by omega)) (Nat.le_refl _) (rQ he),fun y hy ho'=>?_,?_,by rw [put_n];omega⟩,fun y hy hyl hyo=>?_,by rw [put_n];omega,by rw [put_n];omega,?_,?_,?_,μm _ _ _ (by simp only [St.put,minN_eq];omega) r11⟩
    ·rw [get_put_ne' _ _ _ _ (by omega),r6 y (by omega) (by omega) ho'];exact j3 y hy ho'
    ·rw [get_put_ne' _ _ _ _ (by omega),r6 s.n (by omega) (by omega) (fun h=>by have:=(ho _ h).2;omega)];exact j4
    ·rw [get_put_ne' _ _ _ _ hyl];exact r6 y hy hyl hyo
    ·simp only [St.put,minN_eq];omega
    ·simp only [St.put,minN_eq];omega
    ·simp only [St.put,minN_eq];omega⟩
  (fun y hy=>⟨(ho y hy).1,by have:=(ho y hy).2;omega⟩) (fun h=>by have:=(hH _ h).1;omega) (fun y hy=>⟨by have:=(hH y hy).1;omega,(g0 y (hH y hy).1).trans (hH y hy).2⟩) (by omega) (by omega) (by omega) ⟨gl,keep [] s.h S0.h s.n S0.n g0 (by omega) hI0,fun y hy _=>g0 y hy,gd,by omega⟩ (by omega) (by omega)
 have hcall:callV (Abs.call P X Z) [.yield (s.n+1)] ((s.new .dfr).new (.loop ⟨.ready,none,c.fn,L,ps,a,b,s.n,c.nt,c.xs⟩)) (f.ev L)=.val (.tup []) s2:=by rw [hf,callV_func];rw [hS0] at e2;exact e2
 rcases hE with ⟨⟨j1,j2,j3,j4,j5⟩,j6⟩ | ⟨p,x,rest,k,hT,⟨hk,e,he,j1,j2,j3,j4,j5⟩,j6⟩
 ·have hr:=range_any (P:=P) (d:=d) (e:=.norm) hc hcall j1 (by show LoopState.ready≠LoopState.busy;simp) rfl
  refine ⟨.norm,_,hr,.inl ⟨rfl,keep _ _ _ _ _ (fun y hy=>get_put_ne' _ _ _ _ (by omega)) (Nat.le_refl _) j2,μm _ _ _ (by simp only [St.put,minN_eq];omega) j6⟩,fun y hy ho'=>?_,?_,by rw [put_n];omega,by rw [put_n];omega,?_,?_⟩
  ·rw [get_put_ne' _ _ _ _ (by omega)];exact j3 y hy ho'
  ·rw [get_put_ne' _ _ _ _ (by omega)];exact j4
  ·simp only [St.put,minN_eq];omega
  ·simp only [St.put,minN_eq];omega
 ·have hr:=range_any (P:=P) (d:=d) (e:=e) hc hcall j1 (by show LoopState.done≠LoopState.busy;simp) rfl
  refine ⟨e,_,hr,.inr ⟨he,p,x,rest,k,hT,hk,keepQ _ _ _ _ _ _ _ _ (fun y hy=>get_put_ne' _ _ _ _ (by omega)) (Nat.le_refl _) j2,μm _ _ _ (by simp only [St.put,minN_eq];omega) j6⟩,fun y hy ho'=>?_,?_,by rw [put_n];omega,by rw [put_n];omega,?_,?_⟩
  ·rw [get_put_ne' _ _ _ _ (by omega)];exact j3 y hy ho'
  ·rw [get_put_ne' _ _ _ _ (by omega)];exact j4
  ·simp only [St.put,minN_eq];omega
  ·simp only [St.put,minN_eq];omega
end Go.Abs
set_option maxRecDepth 10000
namespace Go.Proofs.Ytbcjojljiochfaa.walk
open Go.Abs Go.Proofs.Ytbcjojljiochfaa.code
structure Bedd (u t:St) (l w kk:Nat) (own:Nat→Prop):Prop where
 same:∀ y,y<u.n→y≠l→¬ own y→t.h.get y=u.h.get y
 n:u.n≤t.n
 le:t.n≤u.n+kk
 m:w≤t.m
 mle:t.m≤far
def ev2 (x:Int × Int):List AV:=[.int .i64 x.1,.int .i64 x.2]
theorem take_split {α:Type} {l:List α} {i:Nat} (h:i<l.length):l.take i++l[i]::l.drop (i+1)=l:=by rw [← List.drop_eq_getElem_cons h,List.take_append_drop]
theorem wish_round (N:Nat) (cx:Ctx) {l k0 w rm p i kk nb:Nat} {own rd:Nat→Prop} {μ:List (Int × Int)→Nat→Prop} {J:List (Int × Int)→Heap→Nat→Prop} {D:List (Int × Int)→Int × Int→Nat→Heap→Nat→Prop} {wl bl:List Int} {y1 y2 wv bv:AV} {u t:St} {L:Env} (hT:Takes Try.prog X N l k0 w rm own ev2 (wl.zip bl) μ J D) (hl:wl.length≤8) (hbl:bl.length=wl.length)
  (hW:Sl rd u.h nb 1 (intRows wl) wv) (hB:Sl rd u.h nb 1 (intRows bl) bv) (gp:u.h.get p=some (.cells [y1,y2,wv,bv] (tag 37))) (hp:rd p) (ho:∀ y,own y→¬ rd y∧y≤l) (hrl:¬ rd l) (hru:∀ y,rd y→y<u.n) (hlu:l<u.n) (hs:u.n+kk+rm+500≤far) (hi:i<wl.length)
  (q0:L.find 0=.yield l) (q1:L.find 1=.ptr p 0) (q6:L.find 6=wv) (q7:L.find 7=.int .i64 wl.length) (q8:L.find 8=.int .i64 i) (hD:Bedd u t l w kk own) (hz:(i=0∨t.m≤l)∧μ ((wl.zip bl).take i) t.m) (hJ:J ((wl.zip bl).take i) t.h t.n) :
  ∃ e L1 t1,K71l0 (call Try.prog X N) cx L [] t=.done e L1 [] t1∧Bedd u t1 l w (kk+k0) own∧t1.m≤l∧((e=.norm∧(J ((wl.zip bl).take (i+1)) t1.h t1.n∧μ ((wl.zip bl).take (i+1)) t1.m)∧L1.find 0=.yield l∧L1.find 1=.ptr p 0∧L1.find 6=wv∧L1.find 7=.int .i64 wl.length∧L1.find 8=.int .i64 (i+1:Nat))∨(e=.ret∧∃ x rest k,(wl.zip bl).take i++x::rest=wl.zip bl∧D ((wl.zip bl).take i) x k t1.h t1.n∧μ ((wl.zip bl).take i++[x]) t1.m)):=by
 have hf:far=1000000000:=rfl
 obtain ⟨same,tn,tk,tm,tf⟩:=hD
 have e0:decide ((i:Int)<(wl.length:Int))=true:=decide_eq_true (by omega)
 have tg:∀ y,rd y→t.h.get y=u.h.get y:=fun y hy=>same y (hru y hy) (fun e=>hrl (e▸hy)) (fun h=>(ho y h).1 hy)
 have hWt:=hW.move (h':=t.h) (n':=nb) (fun b _ h=>⟨tg b h,h⟩) (Nat.le_refl _)
 have hBt:=hB.move (h':=t.h) (n':=nb) (fun b _ h=>⟨tg b h,h⟩) (Nat.le_refl _)
 obtain ⟨b1,p1,c1,sz1,r1,r2,r3,r4⟩:=rowInt hWt.at_ hi
 obtain ⟨b2,p2,c2,sz2,s1,s2,s3,s4⟩:=rowInt hBt.at_ (show i<bl.length by omega)
 have gt:=(tg p hp).trans gp
 have kb:∀ t,okA (.val bv t)=.val bv t:=hB.okA
 have hz2:i<(wl.zip bl).length:=by rw [List.length_zip];omega
 have hx:(wl.zip bl)[i]=(wl[i],bl[i]):=List.getElem_zip
 have hsp:=take_split hz2
 rw [hx] at hsp
 have ad:∀ s,aAdd s .i64 (i:Int) 1=.val (.int .i64 ((i:Int)+1)) s:=fun s=>aAdd_i64 s _ _ (by omega)
 obtain ⟨c,s2',e2,f1,f2,f3,f4,f5,f6,f7,f8,f9⟩:=hT.take _ _ _ t hsp hJ (by omega) (by omega) tm tf hz.2
 have e2':call Try.prog X N (.yield l) [.int .i64 wl[i],.int .i64 bl[i]] t=.val (.bool c) s2':=e2
 have tks:(wl.zip bl).take (i+1)=(wl.zip bl).take i++[(wl[i],bl[i])]:=by rw [take_snoc hz2,hx]
 cases c with
 | true =>
  refine ⟨.norm,_,s2',by
   simp (disch:=first|omega|(with_unfolding_all exact rfl)|(simp only[new_n,put_n,new_m];omega)|(refine put_m_le ?_;simp only[new_m];omega)) only [K71l0,K71r1,K71r2,K71r3,K71r4,Abs.W,reduceIte,Nat.reduceEqDiff,Nat.reduceAdd,decide_true,decide_false,kLoop_def,Nat.reduceSub,List.cons_append,List.nil_append,List.append_nil,List.length_cons,List.length_nil,Env.find_set,Nat.zero_add,q0,q1,q6,q7,q8,e0,r2,r3,r4,s2,s3,s4,gt,kb,e2',ad]
   rfl,⟨fun y hy h1 h2=>(f3 y (by omega) h1 h2).trans (same y hy h1 h2),by omega,by omega,f6,by omega⟩,f8,.inl ⟨rfl,by rw [tks];exact ⟨f1 rfl,f9⟩,?_,?_,?_,?_,?_⟩⟩
  ·simp only [Env.find_set,q0,reduceIte,Nat.reduceEqDiff]
  ·simp only [Env.find_set,q1,reduceIte,Nat.reduceEqDiff]
  ·simp only [Env.find_set,q6,reduceIte,Nat.reduceEqDiff]
  ·simp only [Env.find_set,q7,reduceIte,Nat.reduceEqDiff]
  ·simp only [Env.find_set,reduceIte,Nat.reduceEqDiff];rfl
 | false =>
  exact ⟨.ret,_,s2',by
   simp (disch:=first|omega|(with_unfolding_all exact rfl)|(simp only[new_n,put_n,new_m];omega)|(refine put_m_le ?_;simp only[new_m];omega)) only [K71l0,K71r1,K71r2,K71r3,K71r4,Abs.W,reduceIte,Nat.reduceEqDiff,Nat.reduceAdd,decide_true,decide_false,kLoop_def,Nat.reduceSub,List.cons_append,List.nil_append,List.append_nil,List.length_cons,List.length_nil,Env.find_set,Nat.zero_add,q0,q1,q6,q7,q8,e0,r2,r3,r4,s2,s3,s4,gt,kb,e2',ad]
   rfl,⟨fun y hy h1 h2=>(f3 y (by omega) h1 h2).trans (same y hy h1 h2),by omega,by omega,f6,by omega⟩,f8,.inr ⟨rfl,_,_,_,hsp,f2 rfl,f9⟩⟩
theorem wishes1_hands {N p nb:Nat} {wl bl:List Int} {y1 y2 wv bv:AV} {H:Heap} {rd:Nat→Prop} (hl:wl.length≤8) (hbl:bl.length=wl.length) (hW:Sl rd H nb 1 (intRows wl) wv) (hB:Sl rd H nb 1 (intRows bl) bv) (gp:H.get p=some (.cells [y1,y2,wv,bv] (tag 37))) (hp:rd p) :
  Hands Try.prog X N (N+1) 1 H rd 71 [.ptr p 0] ev2 (wl.zip bl):=by
 intro l k0 w rm own μ J D s hT ho hrl hH hl' hw hs hJ hwm hm
 have hf:far=1000000000:=rfl
 have hkm:∀ i,i≤8→k0 * i≤k0 * 8:=fun i hi=>Nat.mul_le_mul_left _ hi
 have zl:(wl.zip bl).length=wl.length:=by rw [List.length_zip];omega
 obtain ⟨v',t,mm,e,⟨rfl,a1,a2,a3,a4,a5,a6,a7⟩,hm'⟩:=call_any (n:=N) (args:=[.yield l,.ptr p 0]) (s:=s) (Q:=fun v h n m'=>v=.tup []∧Ended (wl.zip bl) μ J D h n m'∧(∀ y,y<s.n→y≠l→¬ own y→h.get y=s.h.get y)∧s.n≤n∧n≤s.n+k0 * 8∧w≤m'∧m'≤far∧(wl.zip bl=[]∨m'≤l)) Try.func71 rfl (fun u uh un um=>by
  have hWu:=hW.move (h':=u.h) (n':=nb) (no':=rd) (fun y _ hy=>⟨by rw [uh];exact (hH y hy).2,hy⟩) (Nat.le_refl _)
  have hBu:=hB.move (h':=u.h) (n':=nb) (no':=rd) (fun y _ hy=>⟨by rw [uh];exact (hH y hy).2,hy⟩) (Nat.le_refl _)
  have gpu:u.h.get p=some (.cells [y1,y2,wv,bv] (tag 37)):=by rw [uh,(hH p hp).2];exact gp
  have kv:=hWu.okA
  have lv:=rowLen hWu.at_
  rw [enter71]
  simp (disch:=first|omega|(with_unfolding_all exact rfl)|(simp only[new_n,put_n,new_m];omega)|(refine put_m_le ?_;simp only[new_m];omega)) only [res71,K71r0,K71r1,K71r2,K71r3,K71r4,K71,Abs.W,reduceIte,Nat.reduceEqDiff,Nat.reduceAdd,decide_true,decide_false,kLoop_def,Nat.reduceSub,List.cons_append,List.nil_append,List.append_nil,List.length_cons,List.length_nil,gpu,kv,lv,Nat.zero_add]
  generalize hlp:loopN _ rounds _ _ _ _ _=rl
  have h0:Bedd u u l w (k0 * 0) own:=⟨fun _ _ _ _=>rfl,Nat.le_refl _,by omega,by omega,by omega⟩
  have hJ0:J ((wl.zip bl).take 0) u.h u.n:=by rw [uh,un];exact hJ
  obtain ⟨e,L1,s1,rfl,hex,⟨d1,d2,d3,d4,d5⟩,hE,hz⟩:=loop_of hlp (fun i L' t'=>L'.find 0=.yield l∧L'.find 1=.ptr p 0∧L'.find 6=wv∧L'.find 7=.int .i64 wl.length∧L'.find 8=.int .i64 i∧Bedd u t' l w (k0 * i) own∧J ((wl.zip bl).take i) t'.h t'.n∧((i=0∨t'.m≤l)∧μ ((wl.zip bl).take i) t'.m))
   (fun e L1 t'=>(e=.exit 0∨e=.ret)∧Bedd u t' l w (k0 * 8) own∧Ended (wl.zip bl) μ J D t'.h t'.n t'.m∧(wl.zip bl=[]∨t'.m≤l)) wl.length (by unfold rounds;omega)
   ⟨by simp only [Env.find_set,find_cons,reduceIte,Nat.reduceEqDiff],by simp only [Env.find_set,find_cons,reduceIte,Nat.reduceEqDiff],by simp only [Env.find_set,find_cons,reduceIte,Nat.reduceEqDiff],by simp only [Env.find_set,find_cons,reduceIte,Nat.reduceEqDiff],by simp only [Env.find_set,find_cons,reduceIte,Nat.reduceEqDiff];rfl,h0,hJ0,.inl rfl,hT.nil _⟩
   (fun i L' t' hi ⟨q0,q1,q6,q7,q8,hD,hJi,hz⟩=>by
    have hki:=hkm i (by omega)
    by_cases hlt:i<wl.length
    ·obtain ⟨e,L2,t2,p1,p2,p3,hcase⟩:=wish_round N ⟨71,none,Try.f71.ntmps,X 71⟩ hT hl hbl hWu hBu gpu hp ho hrl (fun y hy=>by have:=(hH y hy).1;omega) (by omega) (by omega) hlt q0 q1 q6 q7 q8 hD hz hJi
     have hki2:=hkm (i+1) (by omega)
     have p2':Bedd u t2 l w (k0 * (i+1)) own:=by rw [Nat.mul_succ];exact p2
     rcases hcase with ⟨rfl,z1,z2,z3,z4,z5,z6⟩ | ⟨rfl,x,rest,k,z1,z2,z3⟩
     ·exact .inl ⟨hlt,L2,t2,p1,z2,z3,z4,z5,z6,p2',z1.1,.inr p3,z1.2⟩
     ·exact .inr ⟨.ret,L2,t2,by simp,p1,.inr rfl,⟨p2'.same,p2'.n,by have:=p2'.le;omega,p2'.m,p2'.mle⟩,.inr ⟨_,x,rest,k,z1,z2,z3⟩,.inr p3⟩
    ·obtain rfl:i=wl.length:=by omega
     have e1:decide ((wl.length:Int)<(wl.length:Int))=false:=by simp
     have hJi':J (wl.zip bl) t'.h t'.n:=by rw [List.take_of_length_le (by omega)] at hJi;exact hJi
     obtain ⟨hz,hμ⟩:=hz
     rw [List.take_of_length_le (by omega)] at hμ
     refine .inr ⟨.exit 0,L'.set 9 (.bool false),t',by simp,?_,.inl rfl,⟨hD.same,hD.n,by have:=hD.le;omega,hD.m,hD.mle⟩,.inl ⟨hJi',hμ⟩,?_⟩
     ·simp (disch:=first|omega|(with_unfolding_all exact rfl)|(simp only[new_n,put_n,new_m];omega)|(refine put_m_le ?_;simp only[new_m];omega)) only [res71,K71r0,K71r1,K71r2,K71r3,K71r4,K71,K71l0,Abs.W,reduceIte,Nat.reduceEqDiff,Nat.reduceAdd,decide_true,decide_false,kLoop_def,Nat.reduceSub,List.cons_append,List.nil_append,List.append_nil,List.length_cons,List.length_nil,Env.find_set,q7,q8,e1]
     ·rcases hz with hz | hz
      ·exact .inl (List.length_eq_zero_iff.mp (by omega))
      ·exact .inr hz)
  have hfin:∀ e:Ex,(e=.exit 0∨e=.ret)→finA Try.prog Try.f71 (blkR 0 (.done e L1 [] s1))=.val (.tup []) s1:=by
   intro e he
   rcases he with rfl | rfl
   ·simp (disch:=first|omega|(with_unfolding_all exact rfl)|(simp only[new_n,put_n,new_m];omega)|(refine put_m_le ?_;simp only[new_m];omega)) only [res71,K71r0,K71r1,K71r2,K71r3,K71r4,K71,Abs.W,reduceIte,Nat.reduceEqDiff,Nat.reduceAdd,decide_true,decide_false,kLoop_def,Nat.reduceSub,List.cons_append,List.nil_append,List.append_nil,List.length_cons,List.length_nil,leave_nil]
   ·simp (disch:=first|omega|(with_unfolding_all exact rfl)|(simp only[new_n,put_n,new_m];omega)|(refine put_m_le ?_;simp only[new_m];omega)) only [res71,K71r0,K71r1,K71r2,K71r3,K71r4,K71,Abs.W,reduceIte,Nat.reduceEqDiff,Nat.reduceAdd,decide_true,decide_false,kLoop_def,Nat.reduceSub,List.cons_append,List.nil_append,List.append_nil,List.length_cons,List.length_nil,leave_nil]
  rw [hfin e hex]
  refine ⟨_,_,rfl,⟨rfl,hE,fun y hy h1 h2=>by rw [d1 y (by omega) h1 h2,uh],by omega,by omega,d4,d5,hz⟩,fun _ hle=>⟨rfl,?_,fun _ _ _ _=>trivial,Nat.le_refl _,by omega,d4,d5,hz⟩⟩
  rcases hz with hz | hz
  ·rw [hz];exact .inl ⟨hJ,hT.nil _⟩
  ·omega)
 have hkk:=hkm 8 (Nat.le_refl _)
 have htm:t.m≤mm∨wl.zip bl=[]:=by
  rcases a7 with h | h
  ·exact .inr h
  ·rcases hm' with ⟨h1,hm'⟩ | ⟨h1,hm'⟩
   ·omega
   ·exact .inl (by omega)
 have a1':Ended (wl.zip bl) μ J D t.h t.n t.m:=by
  rcases a1 with ⟨b1,b2⟩ | ⟨p,x,rest,k,b1,b2,b3⟩
  ·rcases htm with h | h
   ·exact .inl ⟨b1,hT.mono _ _ _ h b2⟩
   ·exact .inl ⟨b1,by rw [h];exact hT.nil _⟩
  ·rcases htm with h | h
   ·exact .inr ⟨p,x,rest,k,b1,b2,hT.mono _ _ _ h b3⟩
   ·rw [h] at b1;simp at b1
 refine ⟨t,e,a1',a2,a3,by omega,?_,?_,?_⟩
 ·rcases hm' with ⟨_,hm'⟩ | ⟨_,hm'⟩<;>omega
 ·rcases hm' with ⟨_,hm'⟩ | ⟨_,hm'⟩<;>omega
 ·rcases a7 with h | h
  ·exact .inl h
  ·rcases hm' with ⟨h1,hm'⟩ | ⟨h1,hm'⟩
   ·omega
   ·exact .inr (by omega)
end Go.Proofs.Ytbcjojljiochfaa.walk
set_option maxRecDepth 10000
namespace Go.Abs
theorem boxIntE (sz:Nat) (s:St) (k:IntKind) (n:Int):boxA sz s (.int k n)=.val (.ptr s.n 0) (s.new (.cells [.int k n] sz)):=Eq.trans (Eq.refl _) (Eq.refl _)
theorem boxYE (sz:Nat) (s:St) (l:Nat):boxA sz s (.yield l)=.val (.ptr s.n 0) (s.new (.cells [.yield l] sz)):=Eq.trans (Eq.refl _) (Eq.refl _)
theorem kFuncE (f:FuncId) (a b:List Arg) (L:Env) (s:St):kFunc f a b L s=.val (.func f (evs a L) (evs b L)) s:=Eq.trans (Eq.refl _) (Eq.refl _)
theorem okA_yield (l:Nat) (s:St):okA (.val (.yield l) s)=.val (.yield l) s:=Eq.trans (Eq.refl _) (Eq.refl _)
end Go.Abs
namespace Go.Proofs.Ytbcjojljiochfaa.walk
open Go.Abs Go.Proofs.Ytbcjojljiochfaa.code
theorem St.ext3 {s t:St} (h:s.h=t.h) (n:s.n=t.n) (m:s.m=t.m):s=t:=by
 obtain ⟨a,b,c⟩:=s
 obtain ⟨a',b',c'⟩:=t
 simp only at h n m
 subst h n m
 rfl
theorem wishes_ok' (N:Nat) (hN:1≤N) (r:List AV) (s:St) (hs:s.n+100≤far):call Try.prog X N (.fn 57) [.agg r] s=.val (.func 71 [] [.ptr s.n 0]) (s.new (.cells r (tag 37))):=by
 obtain ⟨n,rfl⟩:∃ n,N=n+1:=⟨N - 1,by omega⟩
 have hf:far=1000000000:=rfl
 obtain ⟨v,t,e,st,hv,hh⟩:=call_new (n:=n) (args:=[.agg r]) (s:=s) (k:=1) (Q:=fun v h n=>v=.func 71 [] [.ptr s.n 0]∧h=(s.new (.cells r (tag 37))).h∧n=s.n+1) Try.func57 rfl (fun u uh un um=>by
  rw [enter57]
  simp (disch:=first|omega|(with_unfolding_all exact rfl)|(simp only[new_n,put_n,new_m];omega)|(refine put_m_le ?_;simp only[new_m];omega)) only [res57,K57r0,K57r1,K57,Abs.W,reduceIte,Nat.reduceEqDiff,Nat.reduceAdd,decide_true,decide_false,kLoop_def,Nat.reduceSub,List.cons_append,List.nil_append,List.append_nil,List.length_cons,List.length_nil,kFuncE,okA_func]
  refine ⟨_,_,rfl,((Beside.refl u (by omega) um).new _),rfl,by rw [un],?_,?_⟩
  ·show (u.new _).h=(s.new _).h
   unfold St.new
   simp only [uh,un]
  ·show u.n+1=_
   omega)
 rw [e,hv]
 congr 1
 exact St.ext3 hh.1 hh.2 st.m
theorem reach_ok (N:Nat) (hN:1≤N) (r:List AV) (a:Int) (s:St) (hs:s.n+100≤far):call Try.prog X N (.fn 42) [.agg r,.int .i64 a] s=.val (.func 56 [] [.ptr s.n 0,.ptr (s.n+1) 0]) ((s.new (.cells r (tag 28))).new (.cells [.int .i64 a] (tag 3))):=by
 obtain ⟨n,rfl⟩:∃ n,N=n+1:=⟨N - 1,by omega⟩
 have hf:far=1000000000:=rfl
 obtain ⟨v,t,e,st,hv,hh⟩:=call_new (n:=n) (args:=[.agg r,.int .i64 a]) (s:=s) (k:=2) (Q:=fun v h n=>v=.func 56 [] [.ptr s.n 0,.ptr (s.n+1) 0]∧h=((s.new (.cells r (tag 28))).new (.cells [.int .i64 a] (tag 3))).h∧n=s.n+2) Try.func42 rfl (fun u uh un um=>by
  rw [enter42]
  simp (disch:=first|omega|(with_unfolding_all exact rfl)|(simp only[new_n,put_n,new_m];omega)|(refine put_m_le ?_;simp only[new_m];omega)) only [res42,K42r0,K42r1,K42,Abs.W,reduceIte,Nat.reduceEqDiff,Nat.reduceAdd,decide_true,decide_false,kLoop_def,Nat.reduceSub,List.cons_append,List.nil_append,List.append_nil,List.length_cons,List.length_nil,kFuncE,boxIntE,okA_func]
  refine ⟨_,_,rfl,((Beside.refl u (by omega) um).new _).new _,rfl,by simp only [new_n];rw [un],?_,?_⟩
  ·show ((u.new _).new _).h=((s.new _).new _).h
   unfold St.new
   simp only [uh,un]
  ·show u.n+1+1=_
   omega)
 rw [e,hv]
 congr 1
 exact St.ext3 hh.1 hh.2 st.m
def stallAt (ss:List StallR) (i:Int):StallR:=ss.getD i.toNat ⟨0,0,0⟩
def can (ss:List StallR) (x:Int × Int):Bool:=!(decide ((stallAt ss x.1).rule=3) && decide (x.2<(stallAt ss x.1).least))
def reachOf (ss:List StallR) (a:Appl):List (Int × Int):=(a.wishes.zip a.bids).filter (can ss)
theorem filter_snoc {α:Type} (f:α→Bool) (p:List α) (x:α):(p++[x]).filter f=p.filter f++(if f x then [x] else []):=by
 rw [List.filter_append]
 congr 1
 rw [List.filter_cons]
 rfl
theorem filter_split {α:Type} {f:α→Bool} {p:List α} {x:α} {r:List α} (h:f x=true):(p++x::r).filter f=p.filter f++x::r.filter f:=by
 rw [List.filter_append,List.filter_cons,if_pos h]
theorem zip_mem {a b:List Int} {x:Int × Int} (h:x ∈ a.zip b):x.1 ∈ a∧x.2 ∈ b:=⟨(List.of_mem_zip h).1,(List.of_mem_zip h).2⟩
theorem reach1_hands {N p1 p2 nb a:Nat} {no na:Nat→Prop} {l:Letting} {vS vA:AV} {H:Heap} {rd:Nat→Prop} (ok:l.Ok) (hL:LetAt no na H nb l vS vA) (ha:a<l.appls.length) (gp1:H.get p1=some (.cells [vS,vA] (tag 28))) (gp2:H.get p2=some (.cells [.int .i64 (a:Int)] (tag 3))) (h1:rd p1) (h2:rd p2) (hno:∀ y,no y→rd y) (hna:∀ y,na y→rd y) :
  Hands Try.prog X N (N+3) 2000 H rd 56 [.ptr p1 0,.ptr p2 0] ev2 (reachOf l.stalls l.appls[a]):=by
 intro l0 k0 w rm own μ J D s hT ho hrl hH hl' hw hs hJ hwm hm
 have hf:far=1000000000:=rfl
 obtain ⟨y0,y1,t0,t1,wk,nd,wl8,bl8,bb⟩:=ok.ap _ (List.getElem_mem ha)
 obtain ⟨v',t,mm,e,⟨rfl,a1,a2,a3,a4,a5,a6,a7⟩,hm'⟩:=call_any (X:=X) (n:=N+2) (args:=[.yield l0,.ptr p1 0,.ptr p2 0]) (s:=s) (Q:=fun v h n m'=>v=.tup []∧Ended (reachOf l.stalls l.appls[a]) μ J D h n m'∧(∀ y,y<s.n→y≠l0→¬ own y→h.get y=s.h.get y)∧s.n≤n∧n≤s.n+4+10 * (k0+10)∧w≤m'∧m'≤far∧(reachOf l.stalls l.appls[a]=[]∨m'≤l0)) Try.func56 rfl (fun u uh un um=>by
  have tg:∀ y,rd y→u.h.get y=H.get y:=fun y hy=>by rw [uh];exact (hH y hy).2
  have hLu:LetAt no na u.h nb l vS vA:=hL.move (fun b _ h=>⟨tg b (hno b h),h⟩) (fun b _ h=>⟨tg b (hna b h),h⟩) (Nat.le_refl _)
  have gu1:=(tg p1 h1).trans gp1
  have gu2:=(tg p2 h2).trans gp2
  have rlt:∀ y,rd y→y<u.n:=fun y hy=>by have:=(hH y hy).1;omega
  have p1l:=rlt p1 h1
  have p2l:=rlt p2 h2
  have kS:=hLu.okS
  have kA:=hLu.okV
  obtain ⟨ww,pa,oa,ca,za,r1,r2,r3,r4,r5,r6⟩:=hLu.getA2 ha
  obtain ⟨w1,w2⟩:=ww
  simp only at r4 r5 r6
  have pal:=rlt pa (hna pa r1.2)
  generalize l.appls[a]=M at *
  obtain ⟨s0,hs0⟩:∃ s0:St,s0=(u.new (.cells [.yield l0] (tag 95))).new (.cells [.int .i64 M.years,.int .i64 M.token,w1,w2] (tag 37)):=⟨_,rfl⟩
  have s0n:s0.n=u.n+2:=by rw [hs0];rfl
  have s0m:s0.m=far:=by rw [hs0];exact um
  have s0g:∀ c,c<u.n→s0.h.get c=u.h.get c:=fun c hc=>by rw [hs0,get_new_ne _ _ _ (by rw [new_n];omega),get_new_ne _ _ _ (by omega)]
  have s00:s0.h.get u.n=some (.cells [.yield l0] (tag 95)):=by rw [hs0,get_new_ne _ _ _ (by rw [new_n];omega)];exact get_new_eq _ _ _ rfl (by omega)
  have s01:s0.h.get (u.n+1)=some (.cells [.int .i64 M.years,.int .i64 M.token,w1,w2] (tag 37)):=by rw [hs0];exact get_new_eq _ _ _ rfl (by rw [new_n];omega)
  have wo:=wishes_ok' (N+2) (by omega) [.int .i64 M.years,.int .i64 M.token,w1,w2] (u.new (.cells [.yield l0] (tag 95))) (by rw [new_n];omega)
  rw [← hs0,new_n] at wo
  rw [enter56]
  simp (disch:=first|omega|(with_unfolding_all exact rfl)|(simp only[new_n,put_n,new_m];omega)|(refine put_m_le ?_;simp only[new_m];omega)) only [K56,K56r0,K56r1,Abs.W,reduceIte,Nat.reduceEqDiff,Nat.reduceAdd,decide_true,decide_false,kLoop_def,Nat.reduceSub,List.cons_append,List.nil_append,List.append_nil,List.length_cons,List.length_nil,Env.find_set,boxYE,gu1,gu2,kA,r2,r3,r4,wo,Nat.zero_add]
  clear wo hs0
  generalize hL0:Env.cons 0 _ _=L0
  have f1:L0.find 1=.ptr p1 0:=by rw [← hL0];simp only [find_cons,reduceIte,Nat.reduceEqDiff]
  have f3:L0.find 3=.ptr u.n 0:=by rw [← hL0];simp only [find_cons,reduceIte,Nat.reduceEqDiff]
  have f12:L0.find 12=.func 71 [] [.ptr (u.n+1) 0]:=by rw [← hL0];simp only [find_cons,reduceIte,Nat.reduceEqDiff]
  clear hL0
  have hh:=wishes1_hands (N:=N+1) (p:=u.n+1) (nb:=nb) (wl:=M.wishes) (bl:=M.bids) (y1:=.int .i64 M.years) (y2:=.int .i64 M.token) (wv:=w1) (bv:=w2) (H:=s0.h) (rd:=fun y=>y=u.n+1∨rd y) wl8 bl8
   (r5.move (fun b hb h=>⟨s0g b (rlt b (hno b h)),.inr (hno b h)⟩) (Nat.le_refl _)) (r6.move (fun b hb h=>⟨s0g b (rlt b (hno b h)),.inr (hno b h)⟩) (Nat.le_refl _)) s01 (.inl rfl)
  obtain ⟨e,s',e1,hE,e3,e4,e5,e6,e7,e8⟩:=hands_range (P:=Try.prog) (X:=X) (M:=N) (Z:=N+2) hh (f:=.tmp 12) (ps:=[13,14]) (c:=⟨56,none,Try.f56.ntmps,X 56⟩) (L:=L0) (d:=[]) (s:=s0) rfl (by rw [ev_tmp,f12]) (fun _=>rfl) code56a0 code56b0 (k0+1) w (rm+10) (fun y=>own y∨y=l0) (fun p m=>(p.filter (can l.stalls)=[]∨m≤l0)∧μ (p.filter (can l.stalls)) m)
   (fun p m m' hm ⟨h1,h2⟩=>⟨h1.imp id (fun h=>Nat.le_trans hm h),hT.mono _ _ _ hm h2⟩) (fun m=>⟨.inl rfl,hT.nil m⟩)
   (fun p h n=>J (p.filter (can l.stalls)) h n) (fun e p x k h n=>e=.ret∧can l.stalls x=true∧s0.n+2≤k∧∃ k',k≤k'∧D (p.filter (can l.stalls)) x k' h n)
   (fun y hy=>⟨hy.elim (fun h=>by omega) (fun h=>by have:=rlt y h;omega),rfl⟩) (fun y hy=>by
    rcases hy with hy | rfl
    ·have:=(ho y hy).2
     exact ⟨fun h=>h.elim (fun h=>by omega) (fun h=>(ho y hy).1 h),by omega⟩
    ·exact ⟨fun h=>h.elim (fun h=>by omega) (fun h=>hrl h),by omega⟩)
   (by omega) (by omega) (by omega) (by omega) (by
    show J [] s0.h s0.n
    exact hT.keep _ _ _ _ _ (fun y hy=>by rw [s0g y (by omega),uh]) (by omega) hJ)
   (fun p h h' n n' hb hn hp=>hT.keep _ _ _ _ _ (fun y hy=>hb y (by omega)) hn hp)
   (fun e p x k h h' n n' hb hn ⟨he,hc,hk,k',hkk,hp⟩=>⟨he,hc,hk,k',hkk,hT.keepD _ _ _ _ _ _ _ (fun y hy=>hb y (by omega)) hn hp⟩)
   (fun p x rest t ht hp hfr htn htf htm htm' hμ=>by
    have hmem:x ∈ M.wishes.zip M.bids:=by rw [← ht];simp
    obtain ⟨hm1,hm2⟩:=zip_mem hmem
    obtain ⟨x0,x1⟩:=wk _ hm1
    obtain ⟨xs,xb⟩:=x
    simp only at hm1 hm2 x0 x1
    obtain ⟨k,rfl⟩:∃ k:Nat,xs=k:=⟨xs.toNat,by omega⟩
    have hk:k<l.stalls.length:=by omega
    have nown:∀ y,rd y→¬ (own y∨y=l0):=fun y hy h=>h.elim (fun h=>(ho y h).1 hy) (fun h=>hrl (h▸hy))
    have tgg:∀ y,rd y→t.h.get y=u.h.get y:=fun y hy=>(hfr y (by have:=rlt y hy;omega) (nown y hy)).trans (s0g y (rlt y hy))
    obtain ⟨z0,hz0⟩:∃ z0:St,z0=t.put (s0.n+1) (.loop { loopO ⟨56,none,Try.f56.ntmps,X 56⟩ L0 [13,14] (rangeAt Try.f56 0).1 (rangeAt Try.f56 0).2 s0 with state:=.busy }):=⟨_,rfl⟩
    have zn:z0.n=t.n:=by rw [hz0];rfl
    have zm:z0.m=min t.m (s0.n+1):=by rw [hz0];simp only [St.put,minN_eq]
    have zg:∀ c,c≠s0.n+1→z0.h.get c=t.h.get c:=fun c hc=>by rw [hz0,get_put_ne' _ _ _ _ hc]
    have zl:z0.h.get (s0.n+1)=some (.loop { loopO ⟨56,none,Try.f56.ntmps,X 56⟩ L0 [13,14] (rangeAt Try.f56 0).1 (rangeAt Try.f56 0).2 s0 with state:=.busy }):=by rw [hz0];exact get_put_eq _ _ _ _ rfl (by omega)
    have zr:∀ y,rd y→z0.h.get y=u.h.get y:=fun y hy=>(zg y (by have:=rlt y hy;omega)).trans (tgg y hy)
    have hLz:LetAt no na z0.h nb l vS vA:=hLu.move (fun b _ h=>⟨zr b (hno b h),h⟩) (fun b _ h=>⟨zr b (hna b h),h⟩) (Nat.le_refl _)
    obtain ⟨ps,os,cs,zs,⟨_,q1⟩,q2,q3,q4⟩:=hLz.getS2 hk
    have psl:=rlt ps (hno ps q1)
    have z1:=(zr p1 h1).trans gu1
    have zy:=(zg u.n (by omega)).trans ((hfr u.n (by omega) (fun h=>h.elim (fun h=>by have:=(ho _ h).2;omega) (fun h=>by omega))).trans s00)
    have hst:stallAt l.stalls ((k:Int),xb).1=l.stalls[k]:=by unfold stallAt;simp [List.getD,hk]
    have hcan:can l.stalls ((k:Int),xb)=!(decide (l.stalls[k].rule=3) && decide (xb<l.stalls[k].least)):=by unfold can;rw [hst]
    have hsn:=filter_snoc (can l.stalls) p ((k:Int),xb)
    generalize l.stalls[k]=SR at *
    obtain ⟨y,hy⟩:∃ y:St,y=(z0.new (.cells [.int .i64 0,.int .i64 0,.int .i64 0] (tag 53))).put z0.n (.cells [.int .i64 SR.rule,.int .i64 SR.least,.int .i64 SR.heir] (tag 53)):=⟨_,rfl⟩
    have yn:y.n=z0.n+1:=by rw [hy];rfl
    have yg:∀ c,c<z0.n→y.h.get c=z0.h.get c:=fun c hc=>by rw [hy,get_put_ne' _ _ _ _ (by omega),get_new_ne _ _ _ (by omega)]
    have yp:y.h.get z0.n=some (.cells [.int .i64 SR.rule,.int .i64 SR.least,.int .i64 SR.heir] (tag 53)):=by rw [hy];exact get_put_eq _ _ _ _ rfl (by omega)
    have ym:y.m=min z0.m z0.n:=by rw [hy];simp only [St.put,minN_eq,new_m]
    have yy:=(yg u.n (by omega)).trans zy
    have hJy:J (p.filter (can l.stalls)) y.h y.n:=hT.keep _ _ _ _ _ (fun c hc=>(yg c (by omega)).trans (zg c (by omega))) (by omega) hp
    have hμy:=hT.mono _ _ y.m (by omega) hμ.2
    have hass:K56a0 (call Try.prog X N) ⟨56,some (s0.n+1),Try.f56.ntmps,X 56⟩ (setParams L0 [13,14] (ev2 ((k:Int),xb))) [] t=.done .norm ((((L0.set 13 (.int .i64 (k:Int))).set 14 (.int .i64 xb)).set 4 (.int .i64 (k:Int))).set 5 (.int .i64 xb)) [] t:=by
     simp (disch:=first|omega|(with_unfolding_all exact rfl)|(simp only[new_n,put_n,new_m];omega)|(refine put_m_le ?_;simp only[new_m];omega)) only [K56a0,K56a0r0,K56a0r1,ev2,setParams2,Abs.W,reduceIte,Nat.reduceEqDiff,Nat.reduceAdd,decide_true,decide_false,kLoop_def,Nat.reduceSub,List.cons_append,List.nil_append,List.append_nil,List.length_cons,List.length_nil,Env.find_set,Nat.reduceEqDiff]
    obtain ⟨L1,hL1⟩:∃ L1,L1=((((L0.set 13 (.int .i64 (k:Int))).set 14 (.int .i64 xb)).set 4 (.int .i64 (k:Int))).set 5 (.int .i64 xb)):=⟨_,rfl⟩
    rw [← hL1] at hass
    have l1:L1.find 1=.ptr p1 0:=by rw [hL1];simp only [Env.find_set,f1,reduceIte,Nat.reduceEqDiff]
    have l3:L1.find 3=.ptr u.n 0:=by rw [hL1];simp only [Env.find_set,f3,reduceIte,Nat.reduceEqDiff]
    have l4:L1.find 4=.int .i64 (k:Int):=by rw [hL1];simp only [Env.find_set,reduceIte,Nat.reduceEqDiff]
    have l5:L1.find 5=.int .i64 xb:=by rw [hL1];simp only [Env.find_set,reduceIte,Nat.reduceEqDiff]
    clear hL1
    have base:∀ {c:Nat},c<t.n→c≠s0.n+1→y.h.get c=t.h.get c:=fun h1 h2=>(yg _ (by omega)).trans (zg _ h2)
    refine ⟨L1,t,?_⟩
    rw [hass,← hz0]
    have u1:=fun cl L s=>congrFun (congrFun (congrFun K56b0r1s5.eq_1 cl) L) s
    have u2:=fun cl L s=>congrFun (congrFun (congrFun K56b0r1s6.eq_1 cl) L) s
    have u3:=fun cl L s=>congrFun (congrFun (congrFun K56b0r1s7.eq_1 cl) L) s
    have u4:=fun cl L s=>congrFun (congrFun (congrFun K56b0r1s8.eq_1 cl) L) s
    simp (disch:=first|omega|(with_unfolding_all exact rfl)|(simp only[new_n,put_n,new_m];omega)|(refine put_m_le ?_;simp only[new_m];omega)) only [K56b0,K56b0r0,Abs.W,reduceIte,Nat.reduceEqDiff,Nat.reduceAdd,decide_true,decide_false,kLoop_def,Nat.reduceSub,List.cons_append,List.nil_append,List.append_nil,List.length_cons,List.length_nil,Env.find_set,l1,l4,z1,kS,q2,q3,q4,Nat.zero_add]
    rw [← hy]
    obtain ⟨r3,hr3⟩:∃ b,decide (SR.rule=3)=b:=⟨_,rfl⟩
    obtain ⟨lb,hlb⟩:∃ b,decide (xb<SR.least)=b:=⟨_,rfl⟩
    rw [hr3,hlb] at hcan
    by_cases hboth:r3=true∧lb=true
    ·obtain ⟨rfl,rfl⟩:=hboth
     have hcf:can l.stalls ((k:Int),xb)=false:=hcan
     rw [hcf] at hsn
     have hsn':(p++[((k:Int),xb)]).filter (can l.stalls)=p.filter (can l.stalls):=by simpa using hsn
     simp (disch:=first|omega|(with_unfolding_all exact rfl)|(simp only[new_n,put_n,new_m];omega)|(refine put_m_le ?_;simp only[new_m];omega)) only [K56b0r1,u1,u2,u3,u4,Abs.W,reduceIte,Nat.reduceEqDiff,Nat.reduceAdd,decide_true,decide_false,kLoop_def,Nat.reduceSub,List.cons_append,List.nil_append,List.append_nil,List.length_cons,List.length_nil,Env.find_set,l5,yp,hr3,hlb,Nat.zero_add]
     refine ⟨.norm,_,y,trivial,trivial,rfl,fun _=>by rw [hsn'];exact hJy,fun h=>absurd rfl h,(yg _ (by omega)).trans zl,fun c h1 h2 _=>base h1 h2,by omega,by omega,by omega,by omega,by rw [hsn'];exact ⟨hμ.1.imp id (fun h=>by omega),hμy⟩⟩
    ·have hct:can l.stalls ((k:Int),xb)=true:=by rw [hcan];cases r3<;>cases lb<;>first | rfl | exact absurd ⟨rfl,rfl⟩ hboth
     rw [hct] at hsn
     have hsn':(p++[((k:Int),xb)]).filter (can l.stalls)=p.filter (can l.stalls)++[((k:Int),xb)]:=by simpa using hsn
     have hsp:p.filter (can l.stalls)++((k:Int),xb)::rest.filter (can l.stalls)=reachOf l.stalls M:=by
      unfold reachOf
      rw [← ht,filter_split hct]
     obtain ⟨c,s2,e2,g1,g2,g3,g4,g5,g6,g7,g8,g9⟩:=hT.take _ _ _ y hsp hJy (by omega) (by omega) (by omega) (by omega) hμy
     have e2':call Try.prog X N (.yield l0) [.int .i64 (k:Int),.int .i64 xb] y=.val (.bool c) s2:=e2
     have fin:∃ e L2 t2,kCond (.tmp 33) kRet kSkip (call Try.prog X N) ⟨56,some (s0.n+1),Try.f56.ntmps,X 56⟩ (.cons 33 (.bool !c) .nil) [] s2=.done e L2 [] t2∧t2=s2∧(c=true→e=.norm)∧(c=false→e=.ret):=by
      cases c
      ·exact ⟨.ret,_,s2,rfl,rfl,fun h=>(by cases h),fun _=>rfl⟩
      ·exact ⟨.norm,_,s2,rfl,rfl,fun _=>rfl,fun h=>(by cases h)⟩
     clear fin
     have done:∀ e:Ex,((c=true∧e=.norm)∨(c=false∧e=.ret))→∀ L2,∃ e' L2' t2,(R.done e L2 [] s2=R.done e' L2' [] t2)∧(e'=.norm→J ((p++[((k:Int),xb)]).filter (can l.stalls)) t2.h t2.n)∧(e'≠.norm→e'=.ret∧can l.stalls ((k:Int),xb)=true∧s0.n+2≤t.n∧∃ k',t.n≤k'∧D (p.filter (can l.stalls)) ((k:Int),xb) k' t2.h t2.n)∧t2.h.get (s0.n+1)=some (.loop { loopO ⟨56,none,Try.f56.ntmps,X 56⟩ L0 [13,14] (rangeAt Try.f56 0).1 (rangeAt Try.f56 0).2 s0 with state:=.busy })∧(∀ y,y<t.n→y≠s0.n+1→¬ (own y∨y=l0)→t2.h.get y=t.h.get y)∧t.n≤t2.n∧t2.n≤t.n+(k0+1)∧w≤t2.m∧t2.m≤t.m∧(((p++[((k:Int),xb)]).filter (can l.stalls)=[]∨t2.m≤l0)∧μ ((p++[((k:Int),xb)]).filter (can l.stalls)) t2.m):=by
      intro e he L2
      refine ⟨e,L2,s2,rfl,fun h=>?_,fun h=>?_,?_,fun c h1 h2 h3=>?_,by omega,by omega,g6,by omega,.inr g8,by rw [hsn'];exact g9⟩
      ·rcases he with ⟨h1,_⟩ | ⟨_,h1⟩
       ·rw [hsn'];exact g1 h1
       ·rw [h1] at h;cases h
      ·rcases he with ⟨_,h1⟩ | ⟨h1,h2⟩
       ·exact absurd h1 h
       ·exact ⟨h2,hct,htn,y.n,by omega,g2 h1⟩
      ·rw [g3 _ (by omega) (by omega) (fun h=>by have:=(ho _ h).2;omega)];exact (yg _ (by omega)).trans zl
      ·rw [g3 c (by omega) (fun h=>h3 (.inr h)) (fun h=>h3 (.inl h))];exact base h1 h2
     have n1:∀ s,notA s (.bool c)=.val (.bool !c) s:=fun _=>rfl
     cases r3 with
     | false =>
      cases c with
      | true =>
       simp (disch:=first|omega|(with_unfolding_all exact rfl)|(simp only[new_n,put_n,new_m];omega)|(refine put_m_le ?_;simp only[new_m];omega)) only [K56b0r1,K56b0r2,u1,u2,u3,u4,Abs.W,reduceIte,Nat.reduceEqDiff,Nat.reduceAdd,decide_true,decide_false,kLoop_def,Nat.reduceSub,List.cons_append,List.nil_append,List.append_nil,List.length_cons,List.length_nil,Env.find_set,l3,l4,l5,yp,yy,okA_yield,e2',hr3,hlb,Nat.zero_add]
       obtain ⟨e,L2,t2,z1,z2⟩:=done .norm (.inl ⟨rfl,rfl⟩) _
       exact ⟨e,L2,t2,trivial,trivial,z1,z2⟩
      | false =>
       simp (disch:=first|omega|(with_unfolding_all exact rfl)|(simp only[new_n,put_n,new_m];omega)|(refine put_m_le ?_;simp only[new_m];omega)) only [K56b0r1,K56b0r2,u1,u2,u3,u4,Abs.W,reduceIte,Nat.reduceEqDiff,Nat.reduceAdd,decide_true,decide_false,kLoop_def,Nat.reduceSub,List.cons_append,List.nil_append,List.append_nil,List.length_cons,List.length_nil,Env.find_set,l3,l4,l5,yp,yy,okA_yield,e2',hr3,hlb,Nat.zero_add]
       obtain ⟨e,L2,t2,z1,z2⟩:=done .ret (.inr ⟨rfl,rfl⟩) _
       exact ⟨e,L2,t2,trivial,trivial,z1,z2⟩
     | true =>
      cases lb with
      | true=>exact absurd ⟨rfl,rfl⟩ hboth
      | false =>
       cases c with
       | true =>
        simp (disch:=first|omega|(with_unfolding_all exact rfl)|(simp only[new_n,put_n,new_m];omega)|(refine put_m_le ?_;simp only[new_m];omega)) only [K56b0r1,K56b0r2,u1,u2,u3,u4,Abs.W,reduceIte,Nat.reduceEqDiff,Nat.reduceAdd,decide_true,decide_false,kLoop_def,Nat.reduceSub,List.cons_append,List.nil_append,List.append_nil,List.length_cons,List.length_nil,Env.find_set,l3,l4,l5,yp,yy,okA_yield,e2',hr3,hlb,Nat.zero_add]
        obtain ⟨e,L2,t2,z1,z2⟩:=done .norm (.inl ⟨rfl,rfl⟩) _
        exact ⟨e,L2,t2,trivial,trivial,z1,z2⟩
       | false =>
        simp (disch:=first|omega|(with_unfolding_all exact rfl)|(simp only[new_n,put_n,new_m];omega)|(refine put_m_le ?_;simp only[new_m];omega)) only [K56b0r1,K56b0r2,u1,u2,u3,u4,Abs.W,reduceIte,Nat.reduceEqDiff,Nat.reduceAdd,decide_true,decide_false,kLoop_def,Nat.reduceSub,List.cons_append,List.nil_append,List.append_nil,List.length_cons,List.length_nil,Env.find_set,l3,l4,l5,yp,yy,okA_yield,e2',hr3,hlb,Nat.zero_add]
        obtain ⟨e,L2,t2,z1,z2⟩:=done .ret (.inr ⟨rfl,rfl⟩) _
        exact ⟨e,L2,t2,trivial,trivial,z1,z2⟩)
  rw [e1]
  have hE':(e=.norm∨e=.ret)∧Ended (reachOf l.stalls M) μ J (fun p x k h n=>s0.n+2≤k∧D p x k h n) s'.h s'.n s'.m∧(reachOf l.stalls M=[]∨s'.m≤l0):=by
   rcases hE with ⟨rfl,h2,h3,h4⟩ | ⟨he,p,x,rest,k,hT',hk,⟨h1,h2,_,k',hkk,h3⟩,h4,h5⟩
   ·exact ⟨.inl rfl,.inl ⟨h2,h4⟩,h3⟩
   ·have hsn':(p++[x]).filter (can l.stalls)=p.filter (can l.stalls)++[x]:=by rw [filter_snoc,if_pos h2]
    rw [hsn'] at h4 h5
    refine ⟨.inr h1,.inr ⟨_,x,rest.filter (can l.stalls),k',?_,⟨by omega,h3⟩,h5⟩,h4.imp (fun h=>by simp at h) id⟩
    unfold reachOf
    rw [← hT',filter_split h2]
  have ed:s'.h.get s0.n=some .dfr:=e4
  have hfin:∀ e:Ex,(e=.norm∨e=.ret)→finA Try.prog Try.f56 (blkR 0 (.done e L0 [s0.n] s'))=.val (.tup []) (s'.kill s0.n):=by
   intro e he
   rcases he with rfl | rfl
   ·simp (disch:=first|omega|(with_unfolding_all exact rfl)|(simp only[new_n,put_n,new_m];omega)|(refine put_m_le ?_;simp only[new_m];omega)) only [Abs.W,reduceIte,Nat.reduceEqDiff,Nat.reduceAdd,decide_true,decide_false,kLoop_def,Nat.reduceSub,List.cons_append,List.nil_append,List.append_nil,List.length_cons,List.length_nil]
    rw [leave_dfr _ _ _ _ _ ed]
    simp (disch:=first|omega|(with_unfolding_all exact rfl)|(simp only[new_n,put_n,new_m];omega)|(refine put_m_le ?_;simp only[new_m];omega)) only [res56,Abs.W,reduceIte,Nat.reduceEqDiff,Nat.reduceAdd,decide_true,decide_false,kLoop_def,Nat.reduceSub,List.cons_append,List.nil_append,List.append_nil,List.length_cons,List.length_nil,leave_nil]
   ·simp (disch:=first|omega|(with_unfolding_all exact rfl)|(simp only[new_n,put_n,new_m];omega)|(refine put_m_le ?_;simp only[new_m];omega)) only [Abs.W,reduceIte,Nat.reduceEqDiff,Nat.reduceAdd,decide_true,decide_false,kLoop_def,Nat.reduceSub,List.cons_append,List.nil_append,List.append_nil,List.length_cons,List.length_nil]
    rw [leave_dfr _ _ _ _ _ ed]
    simp (disch:=first|omega|(with_unfolding_all exact rfl)|(simp only[new_n,put_n,new_m];omega)|(refine put_m_le ?_;simp only[new_m];omega)) only [res56,Abs.W,reduceIte,Nat.reduceEqDiff,Nat.reduceAdd,decide_true,decide_false,kLoop_def,Nat.reduceSub,List.cons_append,List.nil_append,List.append_nil,List.length_cons,List.length_nil,leave_nil]
  rw [hfin e hE'.1]
  have km:(s'.kill s0.n).m=min s'.m s0.n:=by simp only [St.kill,minN_eq]
  have kn:(s'.kill s0.n).n=s'.n:=rfl
  have hEk:Ended (reachOf l.stalls M) μ J D (s'.kill s0.n).h (s'.kill s0.n).n (s'.kill s0.n).m:=by
   rcases hE'.2.1 with ⟨h1,h2⟩ | ⟨p,x,rest,k,h1,⟨hk,h2⟩,h3⟩
   ·exact .inl ⟨hT.keep _ _ _ _ _ (fun y hy=>get_kill_ne _ _ _ (by omega)) (Nat.le_refl _) h1,hT.mono _ _ _ (by omega) h2⟩
   ·exact .inr ⟨p,x,rest,k,h1,hT.keepD _ _ _ _ _ _ _ (fun y hy=>get_kill_ne _ _ _ (by omega)) (Nat.le_refl _) h2,hT.mono _ _ _ (by omega) h3⟩
  refine ⟨_,_,rfl,⟨rfl,hEk,fun y hy h1 h2=>?_,by omega,by omega,by omega,by omega,hE'.2.2.imp id (fun h=>by omega)⟩,fun _ hle=>⟨rfl,?_,fun _ _ _ _=>trivial,Nat.le_refl _,by omega,by omega,by omega,hE'.2.2.imp id (fun h=>by omega)⟩⟩
  ·rw [get_kill_ne _ _ _ (by omega),e3 y (by omega) (fun h=>h.elim h2 h1),s0g y (by omega),uh]
  ·rcases hE'.2.2 with hz | hz
   ·rw [hz];exact .inl ⟨hJ,hT.nil _⟩
   ·omega)
 have htm:t.m≤mm∨reachOf l.stalls l.appls[a]=[]:=by
  rcases a7 with h | h
  ·exact .inr h
  ·rcases hm' with ⟨h1,hm'⟩ | ⟨h1,hm'⟩
   ·omega
   ·exact .inl (by omega)
 have a1':Ended (reachOf l.stalls l.appls[a]) μ J D t.h t.n t.m:=by
  rcases a1 with ⟨b1,b2⟩ | ⟨p,x,rest,k,b1,b2,b3⟩
  ·rcases htm with h | h
   ·exact .inl ⟨b1,hT.mono _ _ _ h b2⟩
   ·exact .inl ⟨b1,by rw [h];exact hT.nil _⟩
  ·rcases htm with h | h
   ·exact .inr ⟨p,x,rest,k,b1,b2,hT.mono _ _ _ h b3⟩
   ·rw [h] at b1;simp at b1
 refine ⟨t,e,a1',a2,a3,by omega,?_,?_,?_⟩
 ·rcases hm' with ⟨_,hm'⟩ | ⟨_,hm'⟩<;>omega
 ·rcases hm' with ⟨_,hm'⟩ | ⟨_,hm'⟩<;>omega
 ·rcases a7 with h | h
  ·exact .inl h
  ·rcases hm' with ⟨h1,hm'⟩ | ⟨h1,hm'⟩
   ·omega
   ·exact .inr (by omega)
end Go.Proofs.Ytbcjojljiochfaa.walk
