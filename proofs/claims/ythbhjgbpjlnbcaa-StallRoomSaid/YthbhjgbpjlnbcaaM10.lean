/- A copy of a letting. -/
import Derived.Test.YthbhjgbpjlnbcaaM8
import Derived.Test.YthbhjgbpjlnbcaaM9
import Derived.Test.YthbhjgbpjlnbcaaM4
import Derived.Test.YthbhjgbpjlnbcaaM6
import Derived.Test.YthbhjgbpjlnbcaaCodes
import Derived.Test.YthbhjgbpjlnbcaaM1
import Derived.Test.YthbhjgbpjlnbcaaWalkAll
set_option linter.unusedSimpArgs false
set_option maxHeartbeats 16000000
set_option linter.unusedVariables false
set_option maxRecDepth 10000
namespace Go.Proofs.Ythbhjgbpjlnbcaa.walk
open Go.Abs Go.Proofs.Ythbhjgbpjlnbcaa.code
structure ApOwn (h:Heap) (n lo bA:Nat) (aps:List Appl) (vA:AV):Prop where
 ap:∃ ws:List (AV × AV),ws.length=aps.length∧IsAt h n bA 4 (tag 37) (rowsOf aps ws) vA∧∀ i (h1:i<ws.length) (h2:i<aps.length),Sl (fun x=>lo≤x∧x≠bA) h n 1 (intRows aps[i].wishes) ws[i].1∧Sl (fun x=>lo≤x∧x≠bA) h n 1 (intRows aps[i].bids) ws[i].2
 lo:lo≤bA
 hb:bA<n∨far<bA
theorem ApOwn.okA {h:Heap} {n lo bA:Nat} {aps:List Appl} {vA:AV} (r:ApOwn h n lo bA aps vA) (t:St):Abs.okA (.val vA t)=.val vA t:=by obtain ⟨⟨ws,q1,q2,q3⟩,_⟩:=r;exact q2.okA t
theorem ApOwn.scal {h:Heap} {n lo bA:Nat} {aps:List Appl} {vA:AV} (r:ApOwn h n lo bA aps vA):scalars [vA]=true∧cellsOf 1 vA=some [vA]:=by
 obtain ⟨⟨ws,q1,q2,q3⟩,_⟩:=r
 rcases q2.is with ⟨_,rfl⟩ | ⟨_,_,rfl,_⟩<;>exact ⟨rfl,rfl⟩
theorem ApOwn.grow {h h':Heap} {n n' lo bA:Nat} {aps:List Appl} {vA:AV} (r:ApOwn h n lo bA aps vA) (hh:∀ c,c<n→lo≤c→h'.get c=h.get c) (hn:n≤n'):ApOwn h' n' lo bA aps vA:=by
 obtain ⟨⟨ws,q1,q2,q3⟩,l1,l2⟩:=r
 exact ⟨⟨ws,q1,q2.mono (fun h=>hh _ h l1) hn,fun i h1 h2=>⟨(q3 i h1 h2).1.move (fun b hb hn=>⟨hh b hb hn.1,hn⟩) hn,(q3 i h1 h2).2.move (fun b hb hn=>⟨hh b hb hn.1,hn⟩) hn⟩⟩,l1,by omega⟩
theorem ApOwn.low {h:Heap} {n lo lo' bA:Nat} {aps:List Appl} {vA:AV} (r:ApOwn h n lo bA aps vA) (hl:lo'≤lo):ApOwn h n lo' bA aps vA:=by
 obtain ⟨⟨ws,q1,q2,q3⟩,l1,l2⟩:=r
 exact ⟨⟨ws,q1,q2,fun i h1 h2=>⟨(q3 i h1 h2).1.move (fun b _ hn=>⟨rfl,by omega,hn.2⟩) (Nat.le_refl _),(q3 i h1 h2).2.move (fun b _ hn=>⟨rfl,by omega,hn.2⟩) (Nat.le_refl _)⟩⟩,by omega,l2⟩
theorem ApOwn.push {s:St} {lo bA:Nat} {aps:List Appl} {vA wv bv:AV} {A:Appl} (r:ApOwn s.h s.n lo bA aps vA) {p sz:Nat} (hp:s.h.get p=some (.cells (A.row (wv,bv)) sz)) (hw:Sl (fun x=>lo≤x∧x≠bA) s.h s.n 1 (intRows A.wishes) wv) (hbv:Sl (fun x=>lo≤x∧x≠bA) s.h s.n 1 (intRows A.bids) bv) (hl:aps.length≤8) (hlo:lo≤s.n) (hs:s.n+100≤far) :
  ∃ v' s',appendA false 4 64 (tag 37) s vA (.slice p 0 1 1 false)=.val v' s'∧ApOwn s'.h s'.n lo s.n (aps++[A]) v'∧s'.n=s.n+1∧(∀ c,c<s.n→c≠bA→s'.h.get c=s.h.get c)∧(∀ k,k≤bA→k≤s.n→k≤s.m→k≤s'.m)∧s'.m≤s.m:=by
 have hf:far=1000000000:=rfl
 obtain ⟨⟨ws,w1,w2,w3⟩,l1,l2⟩:=r
 have lr:=rowsOf_len w1
 have scr:scalars (A.row (wv,bv))=true:=by unfold Appl.row;rw [scal_int,scal_int,hw.scal.2.2];exact hbv.scal.1
 obtain ⟨s7,e7,l7,s7n,s7g,s7m,s7l⟩:=append_at (bytes:=64) w2 hp rfl scr (by rw [lr];omega) (by kernel_rfl) (by omega)
 have hcells:rowsOf aps ws++[A.row (wv,bv)]=rowsOf (aps++[A]) (ws++[(wv,bv)]):=by unfold rowsOf;rw [List.zipWith_append (by omega)];rfl
 rw [hcells] at l7
 have mv:∀ {rows:List (List AV)} {v:AV},Sl (fun x=>lo≤x∧x≠bA) s.h s.n 1 rows v→Sl (fun x=>lo≤x∧x≠s.n) s7.h s7.n 1 rows v:=fun q=>q.move (fun b h1 h2=>⟨s7g b h1 h2.2,h2.1,by omega⟩) (by omega)
 refine ⟨_,s7,e7,⟨⟨ws++[(wv,bv)],by simp [w1],l7,fun i h1 h2=>?_⟩,hlo,.inl (by omega)⟩,s7n,s7g,s7m,s7l⟩
 by_cases e:i<ws.length
 ·rw [List.getElem_append_left e,List.getElem_append_left (by omega)]
  exact ⟨mv (w3 i e (by omega)).1,mv (w3 i e (by omega)).2⟩
 ·have hi:i=ws.length:=by rw [List.length_append,List.length_singleton] at h1;omega
  subst hi
  rw [List.getElem_append_right (Nat.le_refl _),List.getElem_append_right (by omega)]
  simp only [w1,Nat.sub_self,List.getElem_singleton]
  exact ⟨mv hw,mv hbv⟩
structure CopyJ (w t:St) (pl bS:Nat) (l:Letting) (vS1:AV) (i kk:Nat):Prop where
 g:∃ vA bA,t.h.get pl=some (.cells [vS1,vA] (tag 28))∧ApOwn t.h t.n (pl+1) bA (l.appls.take i) vA
 same:∀ c,c<w.n→c≠pl→t.h.get c=w.h.get c
 n:w.n≤t.n
 le:t.n≤w.n+kk
 m:min w.m pl≤t.m
 ml:t.m≤w.m
theorem copy_round (N:Nat) (hN:1≤N) (cx:Ctx) {no na:Nat→Prop} {w t:St} {u0 pl bS i kk:Nat} {l:Letting} {vS vA vS1:AV} {L:Env} (J:CopyJ w t pl bS l vS1 i kk) (ok:l.Ok) (hL:LetAt no na w.h u0 l vS vA) (g1:w.h.get u0=some (.cells [vS,vA] (tag 28))) (hpl:u0<pl∧pl+1=w.n) (hi:i<l.appls.length) (hs:w.n+kk+1000≤far) (hm:w.m≤far)
  (q1:L.find 1=.ptr u0 0) (q3:L.find 3=.ptr pl 0) (q4:L.find 4=.int .i64 (i:Nat)) :
  ∃ L1 t1,K25l0 (call Try.prog X N) cx L [] t=.done .norm L1 [] t1∧CopyJ w t1 pl bS l vS1 (i+1) (kk+10)∧L1.find 1=.ptr u0 0∧L1.find 3=.ptr pl 0∧L1.find 4=.int .i64 (i+1:Nat)∧L1.find 2=L.find 2:=by
 have hf:far=1000000000:=rfl
 obtain ⟨⟨vA1,bA,gp,hO⟩,same,jn,jle,jm,jml⟩:=J
 have m1:=ok.m1
 have t0:t.h.get u0=some (.cells [vS,vA] (tag 28)):=by rw [same u0 (by omega) (by omega)];exact g1
 have hLt:=hL.bound.move (h':=t.h) (n':=u0) (no':=fun y=>no y∧y<u0) (na':=fun y=>na y∧y<u0) (fun b h1 h2=>⟨same b (by omega) (by omega),h2⟩) (fun b h1 h2=>⟨same b (by omega) (by omega),h2⟩) (Nat.le_refl _)
 have kA:=hLt.okV
 have lA:=hLt.lenA
 have kA1:=hO.okA
 obtain ⟨ww,pa,oa,ca,za,r1,r2,r3,r4,r5,r6⟩:=hLt.getA2 hi
 obtain ⟨w1,w2⟩:=ww
 simp only at r4 r5 r6
 have e0:decide ((i:Int)<(l.appls.length:Int))=true:=decide_eq_true (by omega)
 have etk:l.appls.take (i+1)=l.appls.take i++[l.appls[i]]:=take_snoc hi
 have ad:∀ s,aAdd s .i64 (i:Int) 1=.val (.int .i64 ((i:Int)+1)) s:=fun s=>aAdd_i64 s _ _ (by omega)
 have hA:=ok.ap _ (List.getElem_mem hi)
 generalize l.appls[i]=A at *
 have sw1:=r5.scal
 have sw2:=r6.scal
 have kw1:=r5.okA
 have kw2:=r6.okA
 obtain ⟨y1,hy1⟩:∃ y1:St,y1=(t.new (.cells [.int .i64 0,.int .i64 0,.nilslice,.nilslice] (tag 37))).put t.n (.cells [.int .i64 A.years,.int .i64 A.token,w1,w2] (tag 37)):=⟨_,rfl⟩
 have y1n:y1.n=t.n+1:=by rw [hy1];rfl
 have y1m:y1.m=min t.m t.n:=by rw [hy1];simp only [St.put,minN_eq,new_m]
 have y1g:∀ c,c<t.n→y1.h.get c=t.h.get c:=fun c hc=>by rw [hy1,get_put_ne' _ _ _ _ (by omega),get_new_ne _ _ _ (by omega)]
 have y1p:y1.h.get t.n=some (.cells [.int .i64 A.years,.int .i64 A.token,w1,w2] (tag 37)):=by rw [hy1];exact get_put_eq _ _ _ _ rfl (by omega)
 simp (disch:=first|omega|(with_unfolding_all exact rfl)|(simp only[new_n,put_n,new_m];omega)|(refine put_m_le ?_;simp only[new_m];omega)) only [K25l0,K25r3,K25r4,Abs.W,reduceIte,Nat.reduceEqDiff,Nat.reduceAdd,decide_true,decide_false,kLoop_def,Nat.reduceSub,List.cons_append,List.nil_append,List.append_nil,List.length_cons,List.length_nil,Env.find_set,q1,q4,t0,kA,lA,e0,r2,r3,r4,sw1.1,sw1.2.1,sw1.2.2,sw2.1,sw2.2.1,sw2.2.2,Nat.zero_add]
 rw [← hy1]
 simp (disch:=first|omega|(with_unfolding_all exact rfl)|(simp only[new_n,put_n,new_m];omega)|(refine put_m_le ?_;simp only[new_m];omega)) only [K25r5,Abs.W,reduceIte,Nat.reduceEqDiff,Nat.reduceAdd,decide_true,decide_false,kLoop_def,Nat.reduceSub,List.cons_append,List.nil_append,List.append_nil,List.length_cons,List.length_nil,Env.find_set,y1p,kw1,kw2,Nat.zero_add]
 generalize hc:call _ _ _ (.fn 28) _ _=rc
 have S1:Sl no y1.h y1.n 1 (intRows A.wishes) w1:=r5.move (fun b h1 h2=>⟨y1g b (by omega),h2.1⟩) (by omega)
 obtain ⟨v1,t2,rfl,s2,S2,_,_⟩:=copyInts_ex hc hN S1 (by have:=hA.wl;omega) (by show y1.n+100≤far;omega)
 have s2n:y1.n≤t2.n:=s2.n
 have s2l:t2.n≤y1.n+2:=s2.le
 have s2m:t2.m=far:=s2.m
 have t2g:∀ c,c<y1.n→t2.h.get c=y1.h.get c:=s2.same
 have t2p:=(t2g t.n (by omega)).trans y1p
 simp (disch:=first|omega|(with_unfolding_all exact rfl)|(simp only[new_n,put_n,new_m];omega)|(refine put_m_le ?_;simp only[new_m];omega)) only [thenT_val,Abs.W,reduceIte,Nat.reduceEqDiff,Nat.reduceAdd,decide_true,decide_false,kLoop_def,Nat.reduceSub,List.cons_append,List.nil_append,List.append_nil,List.length_cons,List.length_nil,Env.find_set,t2p,kw1,kw2,Nat.zero_add]
 have mm:minN y1.m t2.m=y1.m:=by rw [minN_min];omega
 rw [mm]
 generalize hc2:call _ _ _ (.fn 28) _ _=rc
 have S3:Sl no t2.h t2.n 1 (intRows A.bids) w2:=r6.move (fun b h1 h2=>⟨(t2g b (by omega)).trans (y1g b (by omega)),h2.1⟩) (by omega)
 obtain ⟨v2,t3,rfl,s3,S4,_,_⟩:=copyInts_ex (s:=⟨t2.h,t2.n,y1.m⟩) hc2 hN S3 (by have:=hA.wl;have:=hA.bl;omega) (by show t2.n+100≤far;omega)
 have s3n:t2.n≤t3.n:=s3.n
 have s3l:t3.n≤t2.n+2:=s3.le
 have s3m:t3.m=y1.m:=s3.m
 have t3g:∀ c,c<t2.n→t3.h.get c=t2.h.get c:=s3.same
 have t3p:=(t3g t.n (by omega)).trans t2p
 have k1:=S2.scal
 have k2:=S4.scal
 have kv1:=S2.okA
 have kv2:=S4.okA
 obtain ⟨z4,hz4⟩:∃ z4:St,z4=(t3.put t.n (.cells [.int .i64 A.years,.int .i64 A.token,v1,w2] (tag 37))).put t.n (.cells [.int .i64 A.years,.int .i64 A.token,v1,v2] (tag 37)):=⟨_,rfl⟩
 have z4n:z4.n=t3.n:=by rw [hz4];rfl
 have z4m:z4.m=min t3.m t.n:=by rw [hz4];simp only [St.put,minN_eq];omega
 have z4g:∀ c,c≠t.n→z4.h.get c=t3.h.get c:=fun c hc=>by rw [hz4,get_put_ne' _ _ _ _ hc,get_put_ne' _ _ _ _ hc]
 have z4p:z4.h.get t.n=some (.cells [.int .i64 A.years,.int .i64 A.token,v1,v2] (tag 37)):=by rw [hz4];exact get_put_eq _ _ _ _ rfl (by omega)
 have z4t:∀ c,c<t.n→z4.h.get c=t.h.get c:=fun c hc=>(z4g c (by omega)).trans ((t3g c (by omega)).trans ((t2g c (by omega)).trans (y1g c hc)))
 have z4pl:=(z4t pl (by omega)).trans gp
 simp (disch:=first|omega|(with_unfolding_all exact rfl)|(simp only[new_n,put_n,new_m];omega)|(refine put_m_le ?_;simp only[new_m];omega)) only [Abs.W,reduceIte,Nat.reduceEqDiff,Nat.reduceAdd,decide_true,decide_false,kLoop_def,Nat.reduceSub,List.cons_append,List.nil_append,List.append_nil,List.length_cons,List.length_nil,Env.find_set,t3p,kw1,kw2,kv1,kv2,k1.1,k1.2.1,k1.2.2,k2.1,k2.2.1,k2.2.2,sw1.1,sw1.2.1,sw1.2.2,sw2.1,sw2.2.1,sw2.2.2,Nat.zero_add]
 rw [← hz4]
 obtain ⟨x,hx⟩:∃ x:St,x=z4.new (.cells (A.row (v1,v2)) 0):=⟨_,rfl⟩
 have xn:x.n=z4.n+1:=by rw [hx];rfl
 have xm:x.m=z4.m:=by rw [hx];rfl
 have xg:∀ c,c<z4.n→x.h.get c=z4.h.get c:=fun c hc=>by rw [hx,get_new_ne _ _ _ (by omega)]
 have xp:x.h.get z4.n=some (.cells (A.row (v1,v2)) 0):=by rw [hx];exact get_new_eq _ _ _ rfl (by omega)
 have hbA:=hO.hb
 have Sa:Sl (fun y=>pl+1≤y∧y≠bA) x.h x.n 1 (intRows A.wishes) v1:=S2.move (fun b h1 h2=>by
  have h2':y1.n≤b:=h2
  exact ⟨(xg b (by omega)).trans ((z4g b (by omega)).trans (t3g b h1)),by omega,by omega⟩) (by omega)
 have Sb:Sl (fun y=>pl+1≤y∧y≠bA) x.h x.n 1 (intRows A.bids) v2:=S4.move (fun b h1 h2=>⟨(xg b (by omega)).trans (z4g b (by have:t2.n≤b:=h2;omega)),by have:t2.n≤b:=h2;omega,by have:t2.n≤b:=h2;omega⟩) (by omega)
 have hOx:=hO.grow (h':=x.h) (n':=x.n) (fun c h1 _=>(xg c (by omega)).trans (z4t c h1)) (by omega)
 have tkl:(l.appls.take i).length≤8:=by rw [List.length_take];omega
 obtain ⟨v',s7,e7,hO7,n7,g7,m7,m7'⟩:=hOx.push xp Sa Sb tkl (by omega) (by omega)
 rw [hx] at e7
 unfold Appl.row at hx e7
 simp only at hx e7
 have sc7:=hO7.scal
 have x7:=(g7 pl (by omega) (by have:=hO.lo;omega)).trans ((xg pl (by omega)).trans z4pl)
 simp (disch:=first|omega|(with_unfolding_all exact rfl)|(simp only[new_n,put_n,new_m];omega)|(refine put_m_le ?_;simp only[new_m];omega)) only [K25r6,K25r7,Abs.W,reduceIte,Nat.reduceEqDiff,Nat.reduceAdd,decide_true,decide_false,kLoop_def,Nat.reduceSub,List.cons_append,List.nil_append,List.append_nil,List.length_cons,List.length_nil,Env.find_set,q3,q4,z4pl,z4p,kA1,kv1,kv2,k1.1,k1.2.1,k1.2.2,k2.1,k2.2.1,k2.2.2,e7,x7,sc7.1,sc7.2,ad,Nat.zero_add]
 have hO7':=hO.lo
 refine ⟨_,_,rfl,⟨⟨v',x.n,get_put_eq _ _ _ _ rfl (by omega),?_⟩,fun c h1 h2=>?_,by rw [put_n];omega,by rw [put_n];omega,?_,?_⟩,?_,?_,?_,?_⟩
 ·rw [etk]
  exact hO7.grow (fun c _ h2=>get_put_ne' _ _ _ _ (by omega)) (Nat.le_refl _)
 ·rw [get_put_ne' _ _ _ _ h2,g7 c (by omega) (by omega),xg c (by omega),z4t c (by omega)]
  exact same c h1 h2
 ·have:=m7 (min w.m pl) (by omega) (by omega) (by omega)
  simp only [St.put,minN_eq];omega
 ·simp only [St.put,minN_eq];omega
 ·simp only [Env.find_set,q1,reduceIte,Nat.reduceEqDiff]
 ·simp only [Env.find_set,q3,reduceIte,Nat.reduceEqDiff]
 ·simp only [Env.find_set,reduceIte,Nat.reduceEqDiff];rfl
 ·simp only [Env.find_set,reduceIte,Nat.reduceEqDiff]
theorem copyLetting_ex2 {N:Nat} {no na:Nat→Prop} {l:Letting} {vS vA:AV} {s:St} {r:ARes} (hr:call Try.prog X N (.fn 25) [.agg (letV vS vA)] s=r) (hN:2≤N) (ok:l.Ok) (hL:LetAt no na s.h s.n l vS vA) (hs:s.n+2000≤far) :
  ∃ v1 v2 bS bA t,r=.val (.agg (letV v1 v2)) t∧New s t 100∧LetOwn t.h t.n s.n bS bA l v1 v2∧ApOwn t.h t.n (bS+1) bA l.appls v2:=by
 obtain ⟨n,rfl⟩:∃ n,N=n+1:=⟨N - 1,by omega⟩
 have hf:far=1000000000:=rfl
 obtain ⟨v,t,e,st,v1,v2,bS,bA,rfl,hq⟩:=call_new (n:=n) (args:=[.agg (letV vS vA)]) (s:=s) (k:=100) (Q:=fun v h n=>∃ v1 v2 bS bA,v=.agg (letV v1 v2)∧LetOwn h n s.n bS bA l v1 v2∧ApOwn h n (bS+1) bA l.appls v2) Try.func25 rfl (fun u uh un um=>by
  rw [← uh,← un] at hL
  rw [← un]
  have k0:=ok.k0
  have k1:=ok.k1
  have m1:=ok.m1
  have kS:=hL.okS
  obtain ⟨w0,hw0⟩:∃ w:St,w=(u.new (.cells [vS,vA] (tag 28))).new (.cells [.nilslice,.nilslice] (tag 28)):=⟨_,rfl⟩
  have w0n:w0.n=u.n+2:=by rw [hw0];rfl
  have w0m:w0.m=far:=by rw [hw0];exact um
  have w0g:∀ c,c<u.n→w0.h.get c=u.h.get c:=fun c hc=>by rw [hw0,get_new_ne _ _ _ (by rw [new_n];omega),get_new_ne _ _ _ (by omega)]
  have w00:w0.h.get u.n=some (.cells [vS,vA] (tag 28)):=by rw [hw0,get_new_ne _ _ _ (by rw [new_n];omega)];exact get_new_eq _ _ _ rfl (by omega)
  have w01:w0.h.get (u.n+1)=some (.cells [.nilslice,.nilslice] (tag 28)):=by rw [hw0];exact get_new_eq _ _ _ rfl (by rw [new_n];omega)
  rw [enter25]
  simp (disch:=first|omega|(with_unfolding_all exact rfl)|(simp only[new_n,put_n,new_m];omega)|(refine put_m_le ?_;simp only[new_m];omega)) only [K25,K25r0,Abs.W,reduceIte,Nat.reduceEqDiff,Nat.reduceAdd,decide_true,decide_false,kLoop_def,Nat.reduceSub,List.cons_append,List.nil_append,List.append_nil,List.length_cons,List.length_nil,new_n]
  rw [← hw0]
  obtain ⟨y,hy⟩:∃ y:St,y=w0.new (.cells [] 0):=⟨_,rfl⟩
  have yn:y.n=w0.n+1:=by rw [hy];rfl
  have ym:y.m=far:=by rw [hy];exact w0m
  have yg:∀ c,c<w0.n→y.h.get c=w0.h.get c:=fun c hc=>by rw [hy,get_new_ne _ _ _ (by omega)]
  have yp:y.h.get w0.n=some (.cells [] 0):=by rw [hy];exact get_new_eq _ _ _ rfl (by omega)
  have hLy:=hL.grow (h':=y.h) (n':=y.n) (fun c hc=>(yg c (by omega)).trans (w0g c hc)) (by omega)
  have scS:scalars (l.stalls.map StallR.cells).flatten=true:=scalars_flatten fun r hr=>by
   obtain ⟨x,_,rfl⟩:=List.mem_map.mp hr
   rfl
  have hne:l.stalls.map StallR.cells≠[]:=fun e=>by rw [List.map_eq_nil_iff] at e;rw [e] at k0;simp at k0
  obtain ⟨vS1,s1,e1,_,hI,n1,n2,hg,m2,m3,_,_⟩:=app_all (tg:=tag 53) (bytes:=24) hLy.st yp (by omega) scS (by rw [List.length_map];omega) (by kernel_rfl) (by omega)
  have hI1:=hI hne
  rw [hy] at e1
  simp (disch:=first|omega|(with_unfolding_all exact rfl)|(simp only[new_n,put_n,new_m];omega)|(refine put_m_le ?_;simp only[new_m];omega)) only [K25r1,Abs.W,reduceIte,Nat.reduceEqDiff,Nat.reduceAdd,decide_true,decide_false,kLoop_def,Nat.reduceSub,List.cons_append,List.nil_append,List.append_nil,List.length_cons,List.length_nil,Env.find_set,w00,kS,e1,Nat.zero_add]
  have hvS:vS1=.slice y.n 0 (l.stalls.map StallR.cells).length (l.stalls.map StallR.cells).length true∧y.n<s1.n:=by
   rcases hI1.is with ⟨z,_⟩ | ⟨_,z1,z2,_⟩
   ·exact absurd z hne
   ·exact ⟨z2,z1⟩
  obtain ⟨hvS,hyn⟩:=hvS
  have kS1:∀ t,okA (.val vS1 t)=.val vS1 t:=hI1.okA
  have cS1:cellsOf 1 vS1=some [vS1]:=by rw [hvS];rfl
  have sS1:∀ l,scalars (vS1::l)=scalars l:=by rw [hvS];exact fun _=>rfl
  obtain ⟨w,hw⟩:∃ w:St,w=(s1.new (.cells [.nilslice,.nilslice] (tag 28))).put s1.n (.cells [vS1,.nilslice] (tag 28)):=⟨_,rfl⟩
  have wn:w.n=s1.n+1:=by rw [hw];rfl
  have wm:w.m=min s1.m s1.n:=by rw [hw];simp only [St.put,minN_eq,new_m]
  have wg:∀ c,c<s1.n→w.h.get c=s1.h.get c:=fun c hc=>by rw [hw,get_put_ne' _ _ _ _ (by omega),get_new_ne _ _ _ (by omega)]
  have wp:w.h.get s1.n=some (.cells [vS1,.nilslice] (tag 28)):=by rw [hw];exact get_put_eq _ _ _ _ rfl (by omega)
  have wu:∀ c,c<w0.n→w.h.get c=w0.h.get c:=fun c hc=>(wg c (by omega)).trans ((hg c (by omega)).trans (yg c hc))
  simp (disch:=first|omega|(with_unfolding_all exact rfl)|(simp only[new_n,put_n,new_m];omega)|(refine put_m_le ?_;simp only[new_m];omega)) only [Abs.W,reduceIte,Nat.reduceEqDiff,Nat.reduceAdd,decide_true,decide_false,kLoop_def,Nat.reduceSub,List.cons_append,List.nil_append,List.append_nil,List.length_cons,List.length_nil,Env.find_set,cS1,sS1,kS1,Nat.zero_add]
  rw [← hw]
  simp (disch:=first|omega|(with_unfolding_all exact rfl)|(simp only[new_n,put_n,new_m];omega)|(refine put_m_le ?_;simp only[new_m];omega)) only [K25r2,Abs.W,reduceIte,Nat.reduceEqDiff,Nat.reduceAdd,decide_true,decide_false,kLoop_def,Nat.reduceSub,List.cons_append,List.nil_append,List.append_nil,List.length_cons,List.length_nil,Env.find_set,Nat.zero_add]
  generalize hlp:loopN _ rounds _ _ _ _ _=q1
  have hLw:LetAt (fun y=>no y∧y<u.n) (fun y=>na y∧y<u.n) w.h u.n l vS vA:=hL.bound.move (fun b h1 h2=>⟨(wu b (by omega)).trans (w0g b h1),h2⟩) (fun b h1 h2=>⟨(wu b (by omega)).trans (w0g b h1),h2⟩) (Nat.le_refl _)
  obtain ⟨e,L1,t1,rfl,rfl,J,f2,f3⟩:=loop_of hlp (fun i L t=>CopyJ w t s1.n y.n l vS1 i (10 * i)∧L.find 1=.ptr u.n 0∧L.find 3=.ptr s1.n 0∧L.find 4=.int .i64 (i:Nat)∧L.find 2=.ptr (u.n+1) 0)
   (fun e L t=>e=.exit 0∧CopyJ w t s1.n y.n l vS1 l.appls.length 80∧L.find 2=.ptr (u.n+1) 0∧L.find 3=.ptr s1.n 0) l.appls.length (by unfold rounds;omega)
   ⟨⟨⟨.nilslice,far+1,wp,⟨⟨[],by simp,by simp only [List.take_zero];exact IsAt.nil _ _ _ _ _,fun i h1 _=>by simp at h1⟩,by omega,.inr (by omega)⟩⟩,fun _ _ _=>rfl,Nat.le_refl _,by omega,by omega,Nat.le_refl _⟩,by simp only [find_cons,Env.find_set,reduceIte,Nat.reduceEqDiff],by simp only [find_cons,Env.find_set,reduceIte,Nat.reduceEqDiff],by simp only [find_cons,Env.find_set,reduceIte,Nat.reduceEqDiff];rfl,by simp only [find_cons,Env.find_set,reduceIte,Nat.reduceEqDiff]⟩
   (fun i L t hi ⟨J,q1,q3,q4,q2⟩=>by
    by_cases hlt:i<l.appls.length
    ·obtain ⟨L1,t1,a1,a2,a3,a4,a5,a6⟩:=copy_round n (by omega) ⟨25,none,Try.f25.ntmps,X 25⟩ J ok hLw ((wu u.n (by omega)).trans w00) ⟨by omega,by omega⟩ hlt (by omega) (by omega) q1 q3 q4
     exact .inl ⟨hlt,L1,t1,a1,by rw [Nat.mul_succ];exact a2,a3,a4,a5,a6.trans q2⟩
    ·obtain rfl:i=l.appls.length:=by omega
     have e0:decide ((l.appls.length:Int)<(l.appls.length:Int))=false:=by simp
     obtain ⟨jg,same,jn,jle,jm,jml⟩:=J
     have t0:t.h.get u.n=some (.cells [vS,vA] (tag 28)):=by rw [same u.n (by omega) (by omega),wu u.n (by omega)];exact w00
     have kA:=hL.okV
     have lA:=hL.lenA
     refine .inr ⟨.exit 0,L.set 15 (.bool false),t,by simp,?_,rfl,⟨jg,same,jn,by omega,jm,jml⟩,?_,?_⟩
     ·simp (disch:=first|omega|(with_unfolding_all exact rfl)|(simp only[new_n,put_n,new_m];omega)|(refine put_m_le ?_;simp only[new_m];omega)) only [K25l0,K25r3,Abs.W,reduceIte,Nat.reduceEqDiff,Nat.reduceAdd,decide_true,decide_false,kLoop_def,Nat.reduceSub,List.cons_append,List.nil_append,List.append_nil,List.length_cons,List.length_nil,Env.find_set,q1,q4,t0,kA,lA,e0,Nat.zero_add]
     ·simp only [Env.find_set,q2,reduceIte,Nat.reduceEqDiff]
     ·simp only [Env.find_set,q3,reduceIte,Nat.reduceEqDiff])
  obtain ⟨⟨vA1,bA,gp,hO⟩,same,jn,jle,jm,jml⟩:=J
  have kA1:=hO.okA
  have sA1:=hO.scal
  have g2:t1.h.get (u.n+1)=some (.cells [.nilslice,.nilslice] (tag 28)):=by rw [same (u.n+1) (by omega) (by omega),wu (u.n+1) (by omega)];exact w01
  rw [List.take_length] at hO
  simp (disch:=first|omega|(with_unfolding_all exact rfl)|(simp only[new_n,put_n,new_m];omega)|(refine put_m_le ?_;simp only[new_m];omega)) only [K25r8,res25,Abs.W,reduceIte,Nat.reduceEqDiff,Nat.reduceAdd,decide_true,decide_false,kLoop_def,Nat.reduceSub,List.cons_append,List.nil_append,List.append_nil,List.length_cons,List.length_nil,Env.find_set,f2,f3,gp,g2,kS1,kA1,sS1,sA1.1,sA1.2,Nat.zero_add]
  have sh2:shapeT Try.prog 28=some (some 2):=by kernel_rfl
  refine ⟨.agg (letV vS1 vA1),_,leave_cell _ _ _ _ sh2 ?_,⟨fun c hc=>?_,by rw [put_n];omega,by rw [put_n];omega,by simp only [St.put,minN_eq];omega,by simp only [St.put,minN_eq];omega⟩,?_,vS1,vA1,y.n,bA,rfl,⟨?_,?_,by omega,by have:=hO.lo;omega,by have:=hO.lo;omega⟩,(hO.low (by omega)).grow (fun c _ h2=>get_put_ne' _ _ _ _ (by omega)) (Nat.le_refl _)⟩
  ·simp only [Env.find_set,f2,reduceIte,Nat.reduceEqDiff]
   rw [load_ptr,get_put_eq _ _ _ _ rfl (by omega),loadO_cells,partS_some]
   rfl
  ·rw [get_put_ne' _ _ _ _ (by omega),same c (by omega) (by omega),wu c (by omega)]
   exact w0g c hc
  ·rw [hvS];rfl
  ·exact hI1.mono (fun _=>by rw [get_put_ne' _ _ _ _ (by omega),same y.n (by omega) (by omega),wg y.n hyn]) (by rw [put_n];omega)
  ·obtain ⟨⟨ws,a1,a2,a3⟩,a4,a5⟩:=hO.grow (h':=(t1.put (u.n+1) (.cells [vS1,vA1] (tag 28))).h) (n':=t1.n) (fun c _ h2=>get_put_ne' _ _ _ _ (by omega)) (Nat.le_refl _)
   exact ⟨ws,a1,a2,fun i h1 h2=>⟨(a3 i h1 h2).1.move (fun b _ h4=>⟨rfl,by omega,h4.2⟩) (Nat.le_refl _),(a3 i h1 h2).2.move (fun b _ h4=>⟨rfl,by omega,h4.2⟩) (Nat.le_refl _)⟩⟩)
 exact ⟨v1,v2,bS,bA,t,hr.symm.trans e,st,hq⟩
theorem copyLetting_ex {N:Nat} {no na:Nat→Prop} {l:Letting} {vS vA:AV} {s:St} {r:ARes} (hr:call Try.prog X N (.fn 25) [.agg (letV vS vA)] s=r) (hN:2≤N) (ok:l.Ok) (hL:LetAt no na s.h s.n l vS vA) (hs:s.n+2000≤far) :
  ∃ v1 v2 bS bA t,r=.val (.agg (letV v1 v2)) t∧New s t 100∧LetOwn t.h t.n s.n bS bA l v1 v2:=by
 obtain ⟨v1,v2,bS,bA,t,h1,h2,h3,_⟩:=copyLetting_ex2 hr hN ok hL hs
 exact ⟨v1,v2,bS,bA,t,h1,h2,h3⟩
end Go.Proofs.Ythbhjgbpjlnbcaa.walk
set_option maxRecDepth 10000
namespace Go.Proofs.Ythbhjgbpjlnbcaa.walk
open Go.Abs Go.Proofs.Ythbhjgbpjlnbcaa.code
/-! ### Tokens that are changed -/
def Appl.withT (a:Appl) (x:Int):Appl:=⟨a.years,x,a.wishes,a.bids⟩
theorem rowsOf_get {l:List Appl} {ws:List (AV × AV)} {k:Nat} (h:k<(rowsOf l ws).length) (h1:k<l.length) (h2:k<ws.length):(rowsOf l ws)[k]=l[k].row ws[k]:=List.getElem_zipWith ..
theorem rowsOf_wide {l:List Appl} {ws:List (AV × AV)} (h:ws.length=l.length):∀ r ∈ rowsOf l ws,r.length=4:=fun r hr=>by
 obtain ⟨k,hk,rfl⟩:=List.getElem_of_mem hr
 have:=hk
 rw [rowsOf_len h] at this
 rw [rowsOf_get hk this (by omega)]
 rfl
def Letting.withTok (l:Letting) (i:Nat) (x:Int):Letting:=⟨l.stalls,if h:i<l.appls.length then l.appls.set i (l.appls[i].withT x) else l.appls⟩
theorem withTok_len (l:Letting) (i:Nat) (x:Int):(l.withTok i x).appls.length=l.appls.length:=by unfold Letting.withTok;split<;>simp
theorem over_cell:∀ {c:List AV} {i:Nat} (x:AV),i<c.length→over i [x] c=some (c.set i x)
 | [],_,_,h=>by simp at h
 | a::r,0,x,_=>by cases r<;>rfl
 | a::r,i+1,x,h=>by
  have ih:=over_cell (c:=r) (i:=i) x (by simpa using h)
  rw [over_cons,if_neg (by omega),show i+1 - 1=i by omega,ih]
  rfl
theorem flat_setA (x:AV):∀ {rows:List (List AV)} {w i j:Nat},(∀ r ∈ rows,r.length=w)→(hi:i<rows.length)→j<w→rows.flatten.set (i * w+j) x=(rows.set i (rows[i].set j x)).flatten
 | [],_,_,_,_,hi,_=>by simp at hi
 | a::r,w,0,j,h,hi,hj=>by
  have ha:=h a (List.mem_cons_self ..)
  rw [List.flatten_cons,Nat.zero_mul,Nat.zero_add,List.set_append_left _ _ (by omega)]
  rfl
 | a::r,w,i+1,j,h,hi,hj=>by
  have ha:=h a (List.mem_cons_self ..)
  have hm:(i+1) * w=i * w+w:=Nat.succ_mul i w
  have ih:=flat_setA x (rows:=r) (w:=w) (i:=i) (j:=j) (fun r hr=>h r (List.mem_cons_of_mem _ hr)) (by simpa using hi) hj
  rw [List.flatten_cons,List.set_append_right _ _ (by omega),show (i+1) * w+j - a.length=i * w+j by omega,ih]
  rfl
theorem rowsOf_tok {l:List Appl} {ws:List (AV × AV)} {i:Nat} (x:Int) (h:ws.length=l.length) (hi:i<l.length):(rowsOf l ws).flatten.set (i * 4+1) (.int .i64 x)=(rowsOf (l.set i (l[i].withT x)) ws).flatten:=by
 rw [flat_setA _ (rowsOf_wide h) (by rw [rowsOf_len h];exact hi) (by omega)]
 congr 1
 have hs:ws.length=(l.set i (l[i].withT x)).length:=by rw [List.length_set];exact h
 apply List.ext_getElem
 ·rw [List.length_set,rowsOf_len h,rowsOf_len hs,List.length_set]
 ·intro k h1 h2
  have hk:k<l.length:=by rw [rowsOf_len hs,List.length_set] at h2;exact h2
  rw [List.getElem_set,rowsOf_get h2 (by rw [List.length_set];exact hk) (by omega),List.getElem_set]
  by_cases e:i=k
  ·subst e
   rw [if_pos rfl,if_pos rfl,rowsOf_get _ hi (by omega)]
   rfl
  ·rw [if_neg e,if_neg e,rowsOf_get _ hk (by omega)]
theorem LetOwn.token {t:St} {n lo bS bA who:Nat} {l:Letting} {vS vA:AV} (r:LetOwn t.h n lo bS bA l vS vA) (hw:who<l.appls.length) (x:Int) (hn:n≤far) :
  ∃ c c' sz,t.h.get bA=some (.cells c sz)∧(∀ s,ixsA 4 s vA (.int .i64 (who:Int))=.val (.ptr bA (who * 4)) s)∧over (who * 4+1) [.int .i64 x] c=some c'∧bA<n∧LetOwn (t.put bA (.cells c' sz)).h n lo bS bA (l.withTok who x) vS vA:=by
 have hf:far=1000000000:=rfl
 obtain ⟨s,⟨ws,q1,q2,q3⟩,l1,l2,l3⟩:=r
 have lr:=rowsOf_len q1
 rcases q2.is with ⟨z,_⟩ | ⟨_,z1,z2,z3⟩
 ·rw [z] at lr;simp at lr;omega
 ·have hlen:(rowsOf l.appls ws).flatten.length=l.appls.length * 4:=by rw [flatten_len q2.wide,lr]
  refine ⟨_,_,_,z3,fun s=>by rw [z2,ixs_slice _ _ _ _ _ _ _ _ (by rw [lr];exact hw),Nat.zero_add],over_cell _ (by rw [hlen];omega),z1,s.mono (fun _=>get_put_ne' _ _ _ _ l3) (Nat.le_refl _),⟨ws,by rw [withTok_len];exact q1,?_,fun i h1 h2=>?_⟩,l1,l2,l3⟩
  ·have ew:(l.withTok who x).appls=l.appls.set who (l.appls[who].withT x):=by unfold Letting.withTok;rw [dif_pos hw]
   rw [ew,rowsOf_tok x q1 hw]
   refine ⟨rowsOf_wide (by rw [List.length_set];exact q1),.inr ⟨fun e=>?_,z1,by rw [z2,lr,rowsOf_len (by rw [List.length_set];exact q1),List.length_set],get_put_eq _ _ _ _ rfl (by omega)⟩⟩
   ·have:=rowsOf_len (l:=l.appls.set who (l.appls[who].withT x)) (ws:=ws) (by rw [List.length_set];exact q1)
    rw [e] at this
    simp at this
    omega
  ·have h2':i<l.appls.length:=by rw [withTok_len] at h2;exact h2
   have e1:(l.withTok who x).appls[i].wishes=l.appls[i].wishes∧(l.withTok who x).appls[i].bids=l.appls[i].bids:=by
    unfold Letting.withTok
    simp only [hw,dite_true,List.getElem_set]
    by_cases e:who=i
    ·subst e;simp [Appl.withT]
    ·simp [e]
   rw [e1.1,e1.2]
   exact ⟨(q3 i h1 h2').1.move (fun b h3 h4=>⟨get_put_ne' _ _ _ _ h4.2,h4⟩) (Nat.le_refl _),(q3 i h1 h2').2.move (fun b h3 h4=>⟨get_put_ne' _ _ _ _ h4.2,h4⟩) (Nat.le_refl _)⟩
end Go.Proofs.Ythbhjgbpjlnbcaa.walk
set_option maxRecDepth 10000
namespace Go.Proofs.Ythbhjgbpjlnbcaa.walk
open Go.Abs Go.Proofs.Ythbhjgbpjlnbcaa.code
def TabS (h:Heap) (n b:Nat) (no:Nat→Prop) (M:List (List Nat)) (v:AV):Prop :=
 ∃ (vs:List AV) (e:Bool) (sz:Nat),vs.length=M.length∧0<M.length∧b<n∧v=.slice b 0 vs.length vs.length e∧h.get b=some (.cells vs sz)∧(e=true→szOf sz=1)∧scalars vs=true∧∀ j (h1:j<vs.length) (h2:j<M.length),Sl (fun x=>x≠b∧no x) h n 1 (natRows M[j]) vs[j]
section
variable {h h':Heap} {n n' b:Nat} {no no':Nat→Prop} {M:List (List Nat)} {v:AV}
theorem TabS.move (a:TabS h n b no M v) (hb:h'.get b=h.get b) (hh:∀ c,c<n→no c→h'.get c=h.get c∧no' c) (hn:n≤n'):TabS h' n' b no' M v:=by
 obtain ⟨vs,e,sz,h1,h2,h3,h4,h5,h6,h7,h8⟩:=a
 exact ⟨vs,e,sz,h1,h2,by omega,h4,hb.trans h5,h6,h7,fun j j1 j2=>(h8 j j1 j2).move (fun c hc hl=>⟨(hh c hc hl.2).1,hl.1,(hh c hc hl.2).2⟩) hn⟩
theorem TabS.okA (a:TabS h n b no M v) (t:St):Abs.okA (.val v t)=.val v t:=by obtain ⟨vs,e,sz,h1,h2,h3,rfl,_⟩:=a;rfl
theorem TabS.plain (a:TabS h n b no M v):Abs.plain v=false:=by obtain ⟨vs,e,sz,h1,h2,h3,rfl,_⟩:=a;rfl
theorem TabS.len (a:TabS h n b no M v) (s:St):lenSlA s v=.val (.int .i64 (M.length:Int)) s:=by obtain ⟨vs,e,sz,h1,h2,h3,rfl,_⟩:=a;rw [← h1];rfl
theorem nth_get:∀ {l:List AV} {i:Nat} (h:i<l.length),nth l i=l[i]
 | x::l,0,_=>rfl
 | x::l,i+1,h=>nth_get (l:=l) (i:=i) (by simpa using h)
theorem TabS.get (a:TabS h n b no M v) {j:Nat} (hj:j<M.length):∃ w p c sz,Sl (fun x=>x≠b∧no x) h n 1 (natRows M[j]) w∧(∀ s,ixsA 1 s v (.int .i64 (j:Int))=.val (.ptr b p) s)∧h.get b=some (.cells c sz)∧nth c p=w:=by
 obtain ⟨vs,e,sz,h1,h2,h3,rfl,h5,h6,h7,h8⟩:=a
 have hr:j<vs.length:=by omega
 exact ⟨vs[j],0+j * 1,vs,sz,h8 j hr hj,fun s=>ixs_slice 1 s b 0 _ _ e j hr,h5,by rw [Nat.zero_add,Nat.mul_one];exact nth_get hr⟩
end
theorem QAt.sl {h:Heap} {n b:Nat} {q:List Nat} {v:AV} (a:QAt h n b q v) (h0:q≠[]):Sl (fun x=>x=b) h n 1 (natRows q) v:=by
 obtain ⟨h1,o,c,sz,h2,h3⟩:=a
 have hl:0<q.length:=List.length_pos_iff.mpr h0
 rcases h3 with ⟨rfl,h4⟩ | ⟨_,rfl,h4,h5,h6⟩ | ⟨h4,_⟩
 ·exact ⟨natRows_wide q,.inr ⟨b,o,q.length,false,c,sz,h1,rfl,⟨by rw [natRows_len];omega,fun h=>(by cases h)⟩,by rw [natRows_len],h2,by rw [natRows_len,Nat.mul_one];exact h4⟩⟩
 ·refine ⟨natRows_wide q,.inr ⟨b,o,q.length,true,c,sz,h1,rfl,⟨by rw [natRows_len];omega,fun _=>hl⟩,by rw [natRows_len],h2,?_⟩⟩
  rw [natRows_len,Nat.mul_one]
  have e1:=cut_skip (c.take o) (c.drop o) 0 q.length
  rw [Nat.add_zero,List.length_take,Nat.min_eq_left (by omega),List.take_append_drop] at e1
  have e2:=cut1_all (arr q)
  rw [arr_len] at e2
  rw [e1,h5,cut_zero]
  exact e2
 ·exact absurd h4 h0
end Go.Proofs.Ythbhjgbpjlnbcaa.walk
set_option maxRecDepth 10000
namespace Go.Proofs.Ythbhjgbpjlnbcaa.walk
open Go.Abs Go.Proofs.Ythbhjgbpjlnbcaa.code
end Go.Proofs.Ythbhjgbpjlnbcaa.walk
set_option maxRecDepth 10000
namespace Go.Proofs.Ythbhjgbpjlnbcaa.walk
open Go.Abs Go.Proofs.Ythbhjgbpjlnbcaa.code
theorem nth_set_ne {l:List AV} {i j:Nat} (x:AV) (h:j≠i) (hi:i<l.length):nth (l.set j x) i=nth l i:=by
 rw [nth_get (by rw [List.length_set];exact hi),List.getElem_set_ne h,nth_get hi]
structure TellJ (w t:St) (bA wo:Nat) (F:List AV) (sz:Nat) (wl bl:List Int) (g:List Nat) (k kk u0:Nat):Prop where
 q:∃ vw vb bw bb,t.h.get bA=some (.cells ((F.set (wo+2) vw).set (wo+3) vb) sz)∧IsAt t.h t.n bw 1 (tag 3) (intRows (picks wl (g.take k))) vw∧IsAt t.h t.n bb 1 (tag 3) (intRows (picks bl (g.take k))) vb∧w.n≤bw∧w.n≤bb∧bw≠bb∧(bw<t.n∨far<bw)∧(bb<t.n∨far<bb)
 same:∀ c,c<w.n→c≠bA→t.h.get c=w.h.get c
 n:w.n≤t.n
 le:t.n≤w.n+kk
 m:u0≤t.m
 ml:t.m≤far
end Go.Proofs.Ythbhjgbpjlnbcaa.walk
