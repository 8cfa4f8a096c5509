/- Lettings that are made of numbers: LettingOf. -/
import Derived.Test.YthbhjgbpjlnbcaaM6
import Derived.Test.YthbhjgbpjlnbcaaM4
import Derived.Test.YthbhjgbpjlnbcaaCodes
import Derived.Test.YthbhjgbpjlnbcaaM5
import Derived.Test.YthbhjgbpjlnbcaaWalkAll
set_option maxHeartbeats 16000000
set_option linter.unusedVariables false
set_option maxRecDepth 10000
namespace Go.Proofs.Ythbhjgbpjlnbcaa.walk
open Go.Abs Go.Proofs.Ythbhjgbpjlnbcaa.code
theorem bid_loop (N:Nat) (hN:5≤N) {cx:Ctx} {d p7 p12:Nat} {a1 a2 wv vS vA:AV} {wl:List Int} {ss:List StallR} {z0:St} {L:Env} {noW noS:Nat→Prop} {r:R} (hr:loopN K12l1 rounds (call Try.prog X N) cx L [] z0=r) (D:Die d z0.h) (g12:z0.h.get p12=some (.cells [a1,a2,wv,.nilslice] (tag 37)))
  (g7:z0.h.get p7=some (.cells [vS,vA] (tag 28))) (hS:Sl noS z0.h z0.n 3 (ss.map StallR.cells) vS) (hW:Sl noW z0.h z0.n 1 (intRows wl) wv) (hnS:∀ b,noS b→b≠d∧b≠p12) (hnW:∀ b,noW b→b≠d∧b≠p12)
  (h7:p7<z0.n∧p7≠d∧p7≠p12) (h12:d<p12∧p12<z0.n) (hs1:scalars [a1,a2]=true) (hwl:wl.length≤8) (hx:∀ x ∈ wl,0≤x∧x<ss.length) (hss:∀ s ∈ ss,0≤s.least∧s.least≤1000) (hs:z0.n+3000≤far) (hum:z0.m≤far) (hdm:d≤z0.m)
  (q0:L.find 0=.ptr d 0) (q7:L.find 7=.ptr p7 0) (q12:L.find 12=.ptr p12 0) (q13:L.find 13=.int .i64 (0:Nat)) :
  ∃ L1 t1 bs bv bB,r=.done (.exit 4) L1 [] t1∧BidJ z0 t1 d p12 a1 a2 wv bs bv bB 80∧bs.length=wl.length∧∀ c,c<13→L1.find c=L.find c:=by
 have hf:far=1000000000:=rfl
 have kw:=hW.okA
 have lw:=rowLen hW.at_
 obtain ⟨e,L1,t1,rfl,rfl,bs,bv,bB,h1,h3,h5⟩:=loop_of hr (fun j L' t'=>∃ bs bv bB,BidJ z0 t' d p12 a1 a2 wv bs bv bB (10 * j)∧bs.length=j∧L'.find 13=.int .i64 (j:Nat)∧∀ c,c<13→L'.find c=L.find c)
  (fun e L' t'=>e=.exit 4∧∃ bs bv bB,BidJ z0 t' d p12 a1 a2 wv bs bv bB 80∧bs.length=wl.length∧∀ c,c<13→L'.find c=L.find c) wl.length (by unfold rounds;omega)
  ⟨[],.nilslice,z0.n,⟨D,g12,IsAt.nil _ _ _ _ _,Nat.le_refl _,fun _ _ _ _=>rfl,Nat.le_refl _,Nat.le_refl _,fun h=>h,Nat.le_refl _,fun _ h=>by cases h⟩,rfl,q13,fun _ _=>rfl⟩
  (fun j L' t' hj ⟨bs,bv,bB,hJ,hb3,p13,g⟩=>by
   by_cases hlt:j<wl.length
   ·obtain ⟨L2,t2,x,v2,b2,z1,z2,z6,z7⟩:=bid_round N hN cx (k:=j) hJ g7 hS hW hnS hnW h7 h12 hs1 hlt hwl hb3 hx hss (by omega) hum hdm ((g 0 (by omega)).trans q0) ((g 7 (by omega)).trans q7) ((g 12 (by omega)).trans q12) p13
    exact .inl ⟨hlt,L2,t2,z1,bs++[x],v2,b2,z2,by simp [hb3],z6,fun c hc=>(z7 c hc).trans (g c hc)⟩
   ·obtain rfl:j=wl.length:=by omega
    have e0:decide ((wl.length:Int)<(wl.length:Int))=false:=by simp
    have p12':=(g 12 (by omega)).trans q12
    obtain ⟨a1',a2',a3,a4,a5,a6,a7,a8,a9,a10⟩:=hJ
    refine .inr ⟨.exit 4,L'.set 85 (.bool false),t',by simp,?_,rfl,bs,bv,bB,⟨a1',a2',a3,a4,a5,a6,by omega,a8,a9,a10⟩,hb3,fun c hc=>?_⟩
    ·simp (disch:=first|omega|(with_unfolding_all exact rfl)|(simp only[new_n,put_n,new_m];omega)|(refine put_m_le ?_;simp only[new_m];omega)) only [K12r17,K12l1,Abs.W,reduceIte,Nat.reduceEqDiff,Nat.reduceSub,efs,p12',p13,a2',kw,lw,e0,Nat.zero_add]
    ·simp only [efs]
     rw [if_neg (by omega)]
     exact g c hc)
 exact ⟨L1,t1,bs,bv,bB,rfl,h1,h3,h5⟩
structure LetOwn (h:Heap) (n lo bS bA:Nat) (l:Letting) (vS vA:AV):Prop where
 st:IsAt h n bS 3 (tag 53) (l.stalls.map StallR.cells) vS
 ap:∃ ws:List (AV × AV),ws.length=l.appls.length∧IsAt h n bA 4 (tag 37) (rowsOf l.appls ws) vA∧∀ i (h1:i<ws.length) (h2:i<l.appls.length),Sl (fun x=>lo≤x∧x≠bA) h n 1 (intRows l.appls[i].wishes) ws[i].1∧Sl (fun x=>lo≤x∧x≠bA) h n 1 (intRows l.appls[i].bids) ws[i].2
 lo:lo≤bS∧lo≤bA∧bS≠bA
theorem LetOwn.at_ {h:Heap} {n lo bS bA:Nat} {l:Letting} {vS vA:AV} (r:LetOwn h n lo bS bA l vS vA):LetAt (fun x=>lo≤x∧x≠bA) (fun x=>x=bA) h n l vS vA:=by
 obtain ⟨s,⟨ws,q1,q2,q3⟩,l1,l2,l3⟩:=r
 exact ⟨Sl.of_at s fun _=>⟨l1,l3⟩,ws,q1,Sl.of_at q2 fun _=>rfl,q3⟩
theorem LetOwn.grow {h h':Heap} {n n' lo bS bA:Nat} {l:Letting} {vS vA:AV} (r:LetOwn h n lo bS bA l vS vA) (hh:∀ c,c<n→lo≤c→h'.get c=h.get c) (hn:n≤n'):LetOwn h' n' lo bS bA l vS vA:=by
 obtain ⟨s,⟨ws,q1,q2,q3⟩,l1,l2,l3⟩:=r
 exact ⟨s.mono (fun h=>hh _ h l1) hn,⟨ws,q1,q2.mono (fun h=>hh _ h l2) hn,fun i h1 h2=>⟨(q3 i h1 h2).1.move (fun b hb hn=>⟨hh b hb hn.1,hn⟩) hn,(q3 i h1 h2).2.move (fun b hb hn=>⟨hh b hb hn.1,hn⟩) hn⟩⟩,l1,l2,l3⟩
structure LetK (u t:St) (d p7:Nat) (l:Letting) (vS vA:AV) (bS bA kk:Nat):Prop where
 die:Die d t.h
 g7:t.h.get p7=some (.cells [vS,vA] (tag 28))
 own:LetOwn t.h t.n (p7+1) bS bA l vS vA
 hb:(bS<t.n∨far<bS)∧(bA<t.n∨far<bA)
 same:∀ c,c<p7→c≠d→t.h.get c=u.h.get c
 n:p7<t.n
 le:t.n≤u.n+kk
 m:d≤u.m→d≤t.m
 mle:t.m≤u.m
 dp:d<p7
 ok:∀ a ∈ l.appls,a.Ok l.stalls.length
theorem LetK.stir {u t z:St} {d p7 bS bA kk k:Nat} {l:Letting} {vS vA:AV} (J:LetK u t d p7 l vS vA bS bA kk) (S:Stir d t z k) (D:Die d z.h):LetK u z d p7 l vS vA bS bA (kk+k):=by
 obtain ⟨jd,j7,jo,jb,js,jn,jle,jm,jml,jdp,jok⟩:=J
 have:=S.n
 have:=S.le
 exact ⟨D,(S.same p7 jn (by omega)).trans j7,jo.grow (fun c h1 h2=>S.same c h1 (by omega)) (by omega),by omega,fun c hc hcd=>(S.same c (by omega) hcd).trans (js c hc hcd),by omega,by omega,fun h=>S.m (jm h),Nat.le_trans S.mle jml,jdp,jok⟩
theorem app_push {cl:CallF} {L:Env} {u z:St} {r:ORes} {d p7 bS bA kk p:Nat} {l:Letting} {vS vA wv bv:AV} {A:Appl} (hr:K12r20 cl L z=r) (J:LetK u z d p7 l vS vA bS bA kk) (hA:A.Ok l.stalls.length) (hp:z.h.get p=some (.cells (A.row (wv,bv)) (tag 37)))
  (hw:Sl (fun x=>p7+1≤x∧x≠bA) z.h z.n 1 (intRows A.wishes) wv) (hbv:Sl (fun x=>p7+1≤x∧x≠bA) z.h z.n 1 (intRows A.bids) bv) (hl:l.appls.length≤7) (hs:u.n+kk+100≤far)
  (q7:L.find 7=.ptr p7 0) (q12:L.find 12=.ptr p 0):∃ M z1 v1 b1,r=.ok M z1∧LetK u z1 d p7 ⟨l.stalls,l.appls++[A]⟩ vS v1 bS b1 (kk+2):=by
 subst hr
 have hf:far=1000000000:=rfl
 obtain ⟨jd,j7,jo,jb,js,jn,jle,jm,jml,jdp,jok⟩:=J
 obtain ⟨s,⟨ws,w1,w2,w3⟩,l1,l2,l3⟩:=jo
 have kv:∀ t,okA (.val vA t)=.val vA t:=w2.okA
 have lr:=rowsOf_len w1
 obtain ⟨y,hy⟩:∃ y:St,y=z.new (.cells (A.row (wv,bv)) 0):=⟨_,rfl⟩
 have yn:y.n=z.n+1:=by rw [hy];rfl
 have ym:y.m=z.m:=by rw [hy];rfl
 have yg:∀ c,c<z.n→y.h.get c=z.h.get c:=fun c hc=>by rw [hy,get_new_ne _ _ _ (by omega)]
 have yp:y.h.get z.n=some (.cells (A.row (wv,bv)) 0):=by rw [hy];exact get_new_eq _ _ _ rfl (by omega)
 have scr:scalars (A.row (wv,bv))=true:=by unfold Appl.row;rw [scal_int,scal_int,hw.scal.2.2];exact hbv.scal.1
 obtain ⟨s7,e7,l7,s7n,s7g,s7m,s7l⟩:=append_at (bytes:=64) (w2.mono (h':=y.h) (n':=y.n) (fun h=>yg bA h) (by omega)) yp rfl scr (by rw [lr];omega) (by kernel_rfl) (by omega)
 rw [lr] at e7 l7
 obtain ⟨v7,hv7⟩:∃ v7,v7=AV.slice y.n 0 (l.appls.length+1) (l.appls.length+1) true:=⟨_,rfl⟩
 rw [← hv7] at e7 l7
 have sc7:scalars [v7]=true:=by rw [hv7];rfl
 have cc7:cellsOf 1 v7=some [v7]:=by rw [hv7];rfl
 have s9:=(s7g p7 (by omega) (by omega)).trans ((yg p7 (by omega)).trans j7)
 unfold Appl.row at hp hy
 simp only at hp hy
 have kww:=hw.scal.2.1
 have kbb:=hbv.scal.2.1
 simp (disch:=first|omega|(with_unfolding_all exact rfl)|(simp only[new_n,put_n,new_m];omega)|(refine put_m_le ?_;simp only[new_m];omega)) only [K12r20,Abs.W,reduceIte,Nat.reduceEqDiff,Nat.reduceAdd,Nat.reduceSub,q7,q12,j7,hp,kv,Nat.zero_add]
 rw [← hy]
 simp (disch:=first|omega|(with_unfolding_all exact rfl)|(simp only[new_n,put_n,new_m];omega)|(refine put_m_le ?_;simp only[new_m];omega)) only [Abs.W,reduceIte,Nat.reduceEqDiff,Nat.reduceSub,e7,q7,s9,sc7,cc7,Nat.zero_add]
 have hcells:rowsOf l.appls ws++[A.row (wv,bv)]=rowsOf (l.appls++[A]) (ws++[(wv,bv)]):=by unfold rowsOf;rw [List.zipWith_append (by omega)];rfl
 have mv:∀ {rows:List (List AV)} {v:AV},Sl (fun x=>p7+1≤x∧x≠bA) z.h z.n 1 rows v→Sl (fun x=>p7+1≤x∧x≠y.n) (s7.put p7 (.cells [vS,v7] (tag 28))).h (s7.put p7 (.cells [vS,v7] (tag 28))).n 1 rows v:=fun q=>q.move (fun b h1 h2=>⟨by rw [get_put_ne' _ _ _ _ (by omega),s7g b (by omega) (by omega),yg b h1],by omega,by omega⟩) (by simp only [put_n];omega)
 refine ⟨_,_,v7,y.n,rfl,⟨jd.keep ?_,get_put_eq _ _ _ _ rfl (by omega),⟨?_,⟨ws++[(wv,bv)],by simp [w1],?_,fun i h1 h2=>?_⟩,l1,by omega,?_⟩,⟨by have:=jb.1;simp only [put_n];omega,.inl (by simp only [put_n];omega)⟩,fun c hc hcd=>?_,by simp only [put_n];omega,by simp only [put_n];omega,fun hm=>?_,?_,jdp,fun x hx=>?_⟩⟩
 ·rw [get_put_ne' _ _ _ _ (by omega),s7g d (by omega) (by omega),yg d (by omega)]
 ·exact s.mono (fun h=>by rw [get_put_ne' _ _ _ _ (by omega),s7g bS (by omega) l3,yg bS h]) (by simp only [put_n];omega)
 ·show IsAt _ _ _ _ _ (rowsOf (l.appls++[A]) (ws++[(wv,bv)])) _
  rw [← hcells]
  exact l7.mono (fun _=>get_put_ne' _ _ _ _ (by omega)) (by simp only [put_n];omega)
 ·by_cases e:i<ws.length
  ·rw [List.getElem_append_left e]
   show Sl _ _ _ _ (intRows (l.appls++[A])[i].wishes) _∧Sl _ _ _ _ (intRows (l.appls++[A])[i].bids) _
   rw [List.getElem_append_left (by omega)]
   exact ⟨mv (w3 i e (by omega)).1,mv (w3 i e (by omega)).2⟩
  ·have hi:i=ws.length:=by rw [List.length_append,List.length_singleton] at h1;omega
   subst hi
   rw [List.getElem_append_right (Nat.le_refl _)]
   show Sl _ _ _ _ (intRows (l.appls++[A])[ws.length].wishes) _∧Sl _ _ _ _ (intRows (l.appls++[A])[ws.length].bids) _
   rw [List.getElem_append_right (by omega)]
   simp only [w1,Nat.sub_self,List.getElem_singleton]
   exact ⟨mv hw,mv hbv⟩
 ·have:=jb.1
  omega
 ·rw [get_put_ne' _ _ _ _ (by omega),s7g c (by omega) (by omega),yg c (by omega)]
  exact js c hc hcd
 ·have:=jm hm
  have:=s7m d (by omega) (by omega) (by omega)
  simp only [St.put,minN_eq];omega
 ·simp only [St.put,minN_eq];omega
 ·rcases List.mem_append.mp hx with hx | hx
  ·exact jok x hx
  ·rw [List.mem_singleton.mp hx];exact hA
noncomputable def appTail:K:=(kSeq (kSeq (kRegion K12r16 [13]) (kBlock 4 (kLoop K12l1))) (kRegion K12r20 []))
theorem app_eq:K12l2=(kSeq (kSeq (kRegion K12r11 [50]) (kCond (.tmp 50) kSkip (kExit 2))) (kSeq (kBlock 3 (kSeq (kRegion K12r12 [12]) (kSeq (kRegion K12r13 []) (kSeq (kSeq (kRegion K12r14 [70]) (kCond (.tmp 70) (kRegionD K12r15 []) kSkip)) appTail)))) (kRegion K12r21 [11]))):=rfl
theorem app_tail (N:Nat) (hN:5≤N) {cx:Ctx} {L:Env} {u t z:St} {r:R} {d p7 bS bA kk k p:Nat} {l:Letting} {vS vA wv:AV} {yr tk:Int} {wl:List Int} (hr:appTail (call Try.prog X N) cx L [] z=r) (J:LetK u t d p7 l vS vA bS bA kk) (S:Stir d t z k) (D:Die d z.h) (hp0:t.n≤p∧p<z.n)
  (hp:z.h.get p=some (.cells [.int .i64 yr,.int .i64 tk,wv,.nilslice] (tag 37))) (hw:Sl (fun x=>p<x) z.h z.n 1 (intRows wl) wv) (hyr:0≤yr∧yr≤60) (htk:0≤tk∧tk≤1000000000) (hx:∀ x ∈ wl,0≤x∧x<l.stalls.length) (hnd:wl.Nodup) (hwl:wl.length≤8)
  (hss:∀ s ∈ l.stalls,0≤s.least∧s.least≤1000) (hl:l.appls.length≤7) (hs:u.n+kk+k+4000≤far) (hum:u.m≤far) (hdm:d≤u.m)
  (q0:L.find 0=.ptr d 0) (q7:L.find 7=.ptr p7 0) (q12:L.find 12=.ptr p 0) :
  ∃ L1 z1 A v1 b1,r=.done .norm L1 [] z1∧LetK u z1 d p7 ⟨l.stalls,l.appls++[A]⟩ vS v1 bS b1 (kk+k+90)∧∀ c,c<13→L1.find c=L.find c:=by
 subst hr
 have hf:far=1000000000:=rfl
 have Jz:=J.stir S D
 have jn:=J.n
 have jle:=J.le
 have jdp:=J.dp
 have sn:=S.n
 have sl:=S.le
 have jm:=Jz.m hdm
 have jml:=Jz.mle
 have jz7:=Jz.g7
 have lo:=J.own.lo
 have hb:=J.hb
 unfold appTail
 simp (disch:=first|omega|(with_unfolding_all exact rfl)|(simp only[new_n,put_n,new_m];omega)|(refine put_m_le ?_;simp only[new_m];omega)) only [K12r16,Abs.W,reduceIte,kLoop_def]
 generalize hlp:loopN _ rounds _ _ _ _ _=rl
 obtain ⟨L1,t1,bs,bv,bB,rfl,B1,hbl,g1⟩:=bid_loop N hN (d:=d) (p7:=p7) (p12:=p) (ss:=l.stalls) (noS:=fun b=>b=bS∧b<t.n) hlp D hp jz7 (Sl.of_at (J.own.st.mono (h':=z.h) (n':=z.n) (fun h=>S.same bS h (by omega)) sn) (fun h=>⟨rfl,by rcases J.own.st.is with ⟨z1,_⟩ | ⟨_,z1,_⟩<;>omega⟩)) hw (fun b hb=>by omega) (fun b hb=>by omega) (by omega) (by omega) rfl hwl hx hss (by omega) (by omega) jm
  (by simp only [efs,q0,reduceIte,Nat.reduceEqDiff]) (by simp only [efs,q7,reduceIte,Nat.reduceEqDiff]) (by simp only [efs,q12,reduceIte,Nat.reduceEqDiff]) (by simp only [efs,reduceIte];rfl)
 obtain ⟨bd,b12,bi,blo,bsame,bn,ble,bm,bml,bb⟩:=B1
 have S1:Stir d t t1 (k+80):=⟨fun c h1 h2=>(bsame c (by omega) h2 (by omega)).trans (S.same c h1 h2),by omega,by omega,fun h=>bm (S.m h),Nat.le_trans bml S.mle⟩
 have J1:=J.stir S1 bd
 simp (disch:=first|omega|(with_unfolding_all exact rfl)|(simp only[new_n,put_n,new_m];omega)|(refine put_m_le ?_;simp only[new_m];omega)) only [Abs.W]
 generalize hq:K12r20 _ _ _=q8
 have f7:L1.find 7=.ptr p7 0:=(g1 7 (by omega)).trans (by simp only [efs,q7,reduceIte,Nat.reduceEqDiff])
 have f12:L1.find 12=.ptr p 0:=(g1 12 (by omega)).trans (by simp only [efs,q12,reduceIte,Nat.reduceEqDiff])
 have tA:t.n≤far:=by omega
 obtain ⟨M,z1,v1,b1,rfl,J2⟩:=app_push (A:=⟨yr,tk,wl,bs⟩) hq J1 ⟨by simp only;omega,by simp only;omega,by simp only;omega,by simp only;omega,hx,hnd,hwl,hbl,bb⟩ b12 (hw.move (fun b h1 h2=>⟨bsame b h1 (by omega) (by omega),by omega,by omega⟩) bn) (Sl.of_at bi (fun h=>by omega)) hl (by omega) f7 f12
 simp (disch:=first|omega|(with_unfolding_all exact rfl)|(simp only[new_n,put_n,new_m];omega)|(refine put_m_le ?_;simp only[new_m];omega)) only [Abs.W]
 obtain ⟨a1,a2,a3,a4,a5,a6,a7,a8,a9,a10,a11⟩:=J2
 refine ⟨_,z1,_,v1,b1,rfl,⟨a1,a2,a3,a4,a5,a6,by omega,a8,a9,a10,a11⟩,fun c hc=>?_⟩
 rw [g1 c hc]
 simp only [efs]
 repeat rw [if_neg (by omega)]
end Go.Proofs.Ythbhjgbpjlnbcaa.walk
set_option maxRecDepth 10000
namespace Go.Proofs.Ythbhjgbpjlnbcaa.walk
open Go.Abs Go.Proofs.Ythbhjgbpjlnbcaa.code
theorem nat_wishes {f:List Nat} {m:Nat} (h:∀ x ∈ f,x<m):∀ x ∈ f.map Int.ofNat,(0:Int)≤x∧x<m:=fun x hx=>by
 obtain ⟨y,hy,rfl⟩:=List.mem_map.mp hx
 have:=h y hy
 simp only [Int.ofNat_eq_natCast]
 omega
theorem app_round (N:Nat) (hN:8≤N) (cx:Ctx) {d p7 bS bA kk i many:Nat} {l:Letting} {vS vA:AV} {u t:St} {L:Env} (J:LetK u t d p7 l vS vA bS bA kk) (hl:l.appls.length≤7) (hk:1≤l.stalls.length∧l.stalls.length≤8) (hss:∀ s ∈ l.stalls,0≤s.least∧s.least≤1000) (hs:u.n+kk+9000≤far) (hum:u.m≤far) (hdm:d≤u.m) (hi:i<many) (hmany:many≤1000)
  (q0:L.find 0=.ptr d 0) (q7:L.find 7=.ptr p7 0) (q8:L.find 8=.int .i64 many) (q11:L.find 11=.int .i64 i) :
  ∃ L1 t1 A v1 b1,K12l2 (call Try.prog X N) cx L [] t=.done .norm L1 [] t1∧LetK u t1 d p7 ⟨l.stalls,l.appls++[A]⟩ vS v1 bS b1 (kk+110)∧L1.find 11=.int .i64 (i+1:Nat)∧∀ c,c<11→L1.find c=L.find c:=by
 have hf:far=1000000000:=rfl
 have jn:=J.n
 have jle:=J.le
 have jdp:=J.dp
 have e0:decide ((i:Int)<(many:Int))=true:=decide_eq_true (by omega)
 have ad:∀ s,aAdd s .i64 (i:Int) 1=.val (.int .i64 ((i:Int)+1)) s:=fun s=>aAdd_i64 s _ _ (by omega)
 rw [app_eq]
 simp (disch:=first|omega|(with_unfolding_all exact rfl)|(simp only[new_n,put_n,new_m];omega)|(refine put_m_le ?_;simp only[new_m];omega)) only [K12r11,K12r12,Abs.W,reduceIte,Nat.reduceEqDiff,efs,q0,q8,q11,e0]
 generalize hc1:call _ _ _ (.fn 15) _ _=r1
 obtain ⟨x1,t1,rfl,st1,d1,x10,x11⟩:=cast_ex hc1 (by omega) J.die (by omega) (by omega) (by omega)
 have n1:=st1.n
 have k1:=st1.le
 simp (disch:=first|omega|(with_unfolding_all exact rfl)|(simp only[new_n,put_n,new_m];omega)|(refine put_m_le ?_;simp only[new_m];omega)) only [Abs.W,reduceIte,Nat.reduceEqDiff,efs,q0]
 generalize hc2:call _ _ _ (.fn 15) _ _=r2
 obtain ⟨x2,t2,rfl,st2,d2,x20,x21⟩:=cast_ex hc2 (by omega) d1 (by omega) (by omega) (by omega)
 have n2:=st2.n
 have k2:=st2.le
 simp (disch:=first|omega|(with_unfolding_all exact rfl)|(simp only[new_n,put_n,new_m];omega)|(refine put_m_le ?_;simp only[new_m];omega)) only [Abs.W,reduceIte,Nat.reduceEqDiff,efs,q0]
 generalize hc3:call _ _ _ (.fn 15) _ _=r3
 obtain ⟨x3,t3,rfl,st3,d3,x30,x31⟩:=cast_ex hc3 (by omega) d2 (by omega) (by omega) (by omega)
 have n3:=st3.n
 have k3:=st3.le
 simp (disch:=first|omega|(with_unfolding_all exact rfl)|(simp only[new_n,put_n,new_m];omega)|(refine put_m_le ?_;simp only[new_m];omega)) only [Abs.W,reduceIte,Nat.reduceEqDiff,Nat.reduceSub,efs]
 generalize hc4:call _ _ _ (.fn 33) _ _=r4
 obtain ⟨x4,t4,rfl,st4,d4,hx4⟩:=one_ex [x2,x3] (b:=t3.n) (sz:=0) hc4 (by omega) (d3.keep (get_new_ne _ _ _ (by omega))) (by simp only [new_n];omega) (by simp only [new_n];omega) (get_new_eq _ _ _ rfl (by omega)) (by simp only [new_n];omega) (by omega) rfl (by omega) (by omega)
 have n4:=st4.n
 have k4:=st4.le
 simp only [new_n] at n4 k4
 have hx4':0≤x4∧x4≤1000000000:=by simp at hx4;omega
 simp (disch:=first|omega|(with_unfolding_all exact rfl)|(simp only[new_n,put_n,new_m];omega)|(refine put_m_le ?_;simp only[new_m];omega)) only [Abs.W,reduceIte,Nat.reduceEqDiff,Nat.reduceAdd,Nat.reduceSub,efs,Nat.zero_add]
 have S4:Stir d t t4 1:=(((st1.trans st2).trans st3).new _).trans st4
 obtain ⟨y,hy⟩:∃ y:St,y=(t4.new (.cells [.int .i64 0,.int .i64 0,.nilslice,.nilslice] (tag 37))).put t4.n (.cells [.int .i64 x1,.int .i64 x4,.nilslice,.nilslice] (tag 37)):=⟨_,rfl⟩
 have Sy:Stir d t y 2:=by rw [hy];exact (S4.new _).put (by omega) _ (.inr (by omega))
 have yn:y.n=t4.n+1:=by rw [hy];rfl
 have yp:y.h.get t4.n=some (.cells [.int .i64 x1,.int .i64 x4,.nilslice,.nilslice] (tag 37)):=by rw [hy];exact get_put_eq _ _ _ _ rfl (by omega)
 have dy:Die d y.h:=d4.keep (by rw [hy,get_put_ne' _ _ _ _ (by omega),get_new_ne _ _ _ (by omega)])
 rw [← hy]
 have Jy:=J.stir Sy dy
 have y7:=Jy.g7
 have kS:∀ t,okA (.val vS t)=.val vS t:=J.own.st.okA
 have lS:∀ s,lenSlA s vS=.val (.int .i64 l.stalls.length) s:=J.own.at_.lenS
 simp (disch:=first|omega|(with_unfolding_all exact rfl)|(simp only[new_n,put_n,new_m];omega)|(refine put_m_le ?_;simp only[new_m];omega)) only [K12r13,Abs.W,reduceIte,Nat.reduceEqDiff,Nat.reduceSub,efs,q0,q7,y7,kS,lS,Nat.zero_add]
 generalize hc5:call _ _ _ (.fn 34) _ _=r5
 obtain ⟨wv,f,t5,rfl,st5,d5,hfl,hperm,hblk⟩:=Shuffle_ex hc5 (by omega) dy (by omega) (by omega) (by omega)
 have n5:=st5.n
 have k5:=st5.le
 have p5:=(st5.same t4.n (by omega) (by omega)).trans yp
 have kw:∀ t,okA (.val wv t)=.val wv t:=hblk.okA
 have cw:cellsOf 1 wv=some [wv]:=hblk.cells
 have sw:scalars [wv]=true:=hblk.scals []
 simp (disch:=first|omega|(with_unfolding_all exact rfl)|(simp only[new_n,put_n,new_m];omega)|(refine put_m_le ?_;simp only[new_m];omega)) only [Abs.W,reduceIte,Nat.reduceEqDiff,Nat.reduceSub,efs,p5,cw,sw,Nat.zero_add]
 obtain ⟨z,hz⟩:∃ z:St,z=t5.put t4.n (.cells [.int .i64 x1,.int .i64 x4,wv,.nilslice] (tag 37)):=⟨_,rfl⟩
 rw [← hz]
 have zn:z.n=t5.n:=by rw [hz];rfl
 have Sz:Stir d t z 3:=by rw [hz];exact (Sy.trans st5).put (by omega) _ (.inr (by omega))
 have zp:z.h.get t4.n=some (.cells [.int .i64 x1,.int .i64 x4,wv,.nilslice] (tag 37)):=by rw [hz];exact get_put_eq _ _ _ _ rfl (by omega)
 have dz:Die d z.h:=d5.keep (by rw [hz,get_put_ne' _ _ _ _ (by omega)])
 have hwz:Sl (fun x=>t4.n<x) z.h z.n 1 (intRows (f.map Int.ofNat)) wv:=by
  refine (Sl.of_blk (no:=fun x=>t4.n<x) hblk (by omega) (fun e=>?_)).move (fun b h1 h2=>⟨by rw [hz,get_put_ne' _ _ _ _ (by omega)],h2⟩) (by omega)
  have:=natRows_len f
  rw [e] at this
  simp at this
  omega
 simp (disch:=first|omega|(with_unfolding_all exact rfl)|(simp only[new_n,put_n,new_m];omega)|(refine put_m_le ?_;simp only[new_m];omega)) only [K12r14,Abs.W,reduceIte,Nat.reduceEqDiff,efs,q0]
 generalize hc6:call _ _ _ (.fn 27) _ _=r6
 obtain ⟨bb,t6,rfl,st6,d6⟩:=once_ex hc6 (by omega) dz (by omega) (by omega) (by omega)
 have n6:=st6.n
 have k6:=st6.le
 have S6:=Sz.trans st6
 have p6:=(st6.same t4.n (by omega) (by omega)).trans zp
 have w6:=hwz.move (h':=t6.h) (n':=t6.n) (no':=fun x=>t4.n<x) (fun b h1 h2=>⟨st6.same b h1 (by omega),h2⟩) n6
 have nd:=perm_nodup hfl hperm
 have lt:=perm_lt hfl hperm
 cases bb with
 | false =>
  simp (disch:=first|omega|(with_unfolding_all exact rfl)|(simp only[new_n,put_n,new_m];omega)|(refine put_m_le ?_;simp only[new_m];omega)) only [Abs.W,reduceIte,Nat.reduceEqDiff,efs]
  generalize hq:appTail _ _ _ _ _=q9
  obtain ⟨L1,z1,A,v1,b1,rfl,J1,g1⟩:=app_tail N (by omega) (k:=3) hq J (S6.mono (by omega)) d6 (by omega) p6 w6 (by omega) (by omega) (nat_wishes lt) (ofNat_nodup nd) (by rw [List.length_map];omega) hss hl (by omega) hum hdm
   (by simp only [efs,q0,reduceIte,Nat.reduceEqDiff]) (by simp only [efs,q7,reduceIte,Nat.reduceEqDiff]) (by simp only [efs,reduceIte,Nat.reduceEqDiff])
  have f11:L1.find 11=.int .i64 i:=(g1 11 (by omega)).trans (by simp only [efs,q11,reduceIte,Nat.reduceEqDiff])
  simp (disch:=first|omega|(with_unfolding_all exact rfl)|(simp only[new_n,put_n,new_m];omega)|(refine put_m_le ?_;simp only[new_m];omega)) only [K12r21,Abs.W,reduceIte,Nat.reduceEqDiff,f11,ad]
  obtain ⟨a1,a2,a3,a4,a5,a6,a7,a8,a9,a10,a11⟩:=J1
  refine ⟨_,z1,_,v1,b1,rfl,⟨a1,a2,a3,a4,a5,a6,by omega,a8,a9,a10,a11⟩,by simp only [efs,reduceIte];rfl,fun c hc=>?_⟩
  simp only [efs]
  rw [if_neg (by omega),g1 c (by omega)]
  simp only [efs]
  repeat rw [if_neg (by omega)]
 | true =>
  have lw:=rowLen w6.at_
  rw [List.length_map,hfl] at lw
  have adw:∀ s,aAdd s .i64 (l.stalls.length:Int) 1=.val (.int .i64 ((l.stalls.length:Int)+1)) s:=fun s=>aAdd_i64 s _ _ (by omega)
  simp (disch:=first|omega|(with_unfolding_all exact rfl)|(simp only[new_n,put_n,new_m];omega)|(refine put_m_le ?_;simp only[new_m];omega)) only [K12r15,Abs.W,reduceIte,Nat.reduceEqDiff,Nat.reduceSub,efs,q0,p6,kw,lw,adw,Nat.zero_add]
  generalize hc7:call _ _ _ (.fn 15) _ _=r7
  obtain ⟨x7,t7,rfl,st7,d7,x70,x71⟩:=cast_ex hc7 (by omega) d6 (by show d<t6.n;omega) (by show t6.n+100≤far;omega) (by omega)
  obtain ⟨cut,rfl⟩:∃ n:Nat,x7=n:=⟨x7.toNat,by omega⟩
  have n7:t6.n≤t7.n:=st7.n
  have k7:t7.n≤t6.n:=st7.le
  have g7':∀ c,c<t6.n→c≠d→t7.h.get c=t6.h.get c:=fun c hc hcd=>st7.same c hc hcd
  have p7':=(g7' t4.n (by omega) (by omega)).trans p6
  obtain ⟨v',hv1,hv2⟩:=w6.to (i:=cut) (by rw [intRows_len,List.length_map];omega)
  rw [intRows_take] at hv2
  have kv':=hv2.okA
  have cv':=hv2.scal.2.1
  have sv':=hv2.scal.1
  simp (disch:=first|omega|(with_unfolding_all exact rfl)|(simp only[new_n,put_n,new_m];omega)|(refine put_m_le ?_;simp only[new_m];omega)) only [thenT_turn,Abs.W,reduceIte,Nat.reduceEqDiff,Nat.reduceSub,efs,p7',kSlice_def,optEv_some,optEv_none,hv1,cv',sv',Nat.zero_add]
  rw [endT_kept (l:=[71]) (s':=t7) (by simp only [keptAll_cons,keptAll_nil,find_cons,efs,keptV_ptr,p6,p7',sameO_cells,reduceIte,Nat.reduceEqDiff,Bool.and_self])]
  rw [endO_ok _ (endOk_nil _)]
  have S7:Stir d t6 ⟨t7.h,t7.n,minN t6.m t7.m⟩ 0:=st7.draw (by omega)
  obtain ⟨z2,hz2⟩:∃ z2:St,z2=(⟨t7.h,t7.n,minN t6.m t7.m⟩:St).put t4.n (.cells [.int .i64 x1,.int .i64 x4,v',.nilslice] (tag 37)):=⟨_,rfl⟩
  have z2n:z2.n=t7.n:=by rw [hz2];rfl
  have Sz2:Stir d t z2 3:=by rw [hz2];exact ((S6.trans S7).mono (by omega)).put (by omega) _ (.inr (by omega))
  have z2p:z2.h.get t4.n=some (.cells [.int .i64 x1,.int .i64 x4,v',.nilslice] (tag 37)):=by rw [hz2];exact get_put_eq _ _ _ _ rfl (by show t4.n<_;omega)
  have dz2:Die d z2.h:=d7.keep (by rw [hz2,get_put_ne' _ _ _ _ (by omega)])
  have w7:=hv2.move (h':=z2.h) (n':=z2.n) (no':=fun x=>t4.n<x) (fun b h1 h2=>⟨by rw [hz2,get_put_ne' _ _ _ _ (by omega)];exact g7' b h1 (by omega),h2⟩) (by omega)
  rw [← hz2]
  simp (disch:=first|omega|(with_unfolding_all exact rfl)|(simp only[new_n,put_n,new_m];omega)|(refine put_m_le ?_;simp only[new_m];omega)) only [Abs.W]
  generalize hq:appTail _ _ _ _ _=q9
  obtain ⟨L1,z1,A,v1,b1,rfl,J1,g1⟩:=app_tail N (by omega) (k:=3) hq J Sz2 dz2 (by omega) z2p w7 (by omega) (by omega) (fun x hx=>nat_wishes lt x (List.mem_of_mem_take hx)) ((ofNat_nodup nd).sublist (List.take_sublist ..)) (by rw [List.length_take,List.length_map];omega) hss hl (by omega) hum hdm
   (by simp only [efs,q0,reduceIte,Nat.reduceEqDiff]) (by simp only [efs,q7,reduceIte,Nat.reduceEqDiff]) (by simp only [efs,reduceIte,Nat.reduceEqDiff])
  have f11:L1.find 11=.int .i64 i:=(g1 11 (by omega)).trans (by simp only [efs,q11,reduceIte,Nat.reduceEqDiff])
  simp (disch:=first|omega|(with_unfolding_all exact rfl)|(simp only[new_n,put_n,new_m];omega)|(refine put_m_le ?_;simp only[new_m];omega)) only [K12r21,Abs.W,reduceIte,Nat.reduceEqDiff,f11,ad]
  obtain ⟨a1,a2,a3,a4,a5,a6,a7,a8,a9,a10,a11⟩:=J1
  refine ⟨_,z1,_,v1,b1,rfl,⟨a1,a2,a3,a4,a5,a6,by omega,a8,a9,a10,a11⟩,by simp only [efs,reduceIte];rfl,fun c hc=>?_⟩
  simp only [efs]
  rw [if_neg (by omega),g1 c (by omega)]
  simp only [efs]
  repeat rw [if_neg (by omega)]
theorem app_loop (N:Nat) (hN:8≤N) {cx:Ctx} {d p7 bS bA kk many:Nat} {ss:List StallR} {vS vA:AV} {u w:St} {L:Env} {r:R} (hr:loopN K12l2 rounds (call Try.prog X N) cx L [] w=r) (J:LetK u w d p7 ⟨ss,[]⟩ vS vA bS bA kk) (hk:1≤ss.length∧ss.length≤8) (hss:∀ s ∈ ss,0≤s.least∧s.least≤1000) (hs:u.n+kk+20000≤far) (hum:u.m≤far) (hdm:d≤u.m) (hmany:many≤8)
  (q0:L.find 0=.ptr d 0) (q7:L.find 7=.ptr p7 0) (q8:L.find 8=.int .i64 many) (q11:L.find 11=.int .i64 (0:Nat)) :
  ∃ L1 t1 aps v1 b1,r=.done (.exit 2) L1 [] t1∧LetK u t1 d p7 ⟨ss,aps⟩ vS v1 bS b1 (kk+880)∧aps.length=many∧∀ c,c<11→L1.find c=L.find c:=by
 have hf:far=1000000000:=rfl
 obtain ⟨e,L1,t1,rfl,rfl,aps,v1,b1,h1,h3,h5⟩:=loop_of hr (fun j L' t'=>∃ aps v1 b1,LetK u t' d p7 ⟨ss,aps⟩ vS v1 bS b1 (kk+110 * j)∧aps.length=j∧L'.find 11=.int .i64 (j:Nat)∧∀ c,c<11→L'.find c=L.find c)
  (fun e L' t'=>e=.exit 2∧∃ aps v1 b1,LetK u t' d p7 ⟨ss,aps⟩ vS v1 bS b1 (kk+880)∧aps.length=many∧∀ c,c<11→L'.find c=L.find c) many (by unfold rounds;omega)
  ⟨[],vA,bA,J,rfl,q11,fun _ _=>rfl⟩
  (fun j L' t' hj ⟨aps,v1,b1,hJ,hb3,p11,g⟩=>by
   have p8:=(g 8 (by omega)).trans q8
   by_cases hlt:j<many
   ·obtain ⟨L2,t2,A,v2,b2,z1,z2,z6,z7⟩:=app_round N hN cx (i:=j) hJ (by show aps.length≤7;omega) hk hss (by omega) hum hdm hlt (by omega) ((g 0 (by omega)).trans q0) ((g 7 (by omega)).trans q7) p8 p11
    exact .inl ⟨hlt,L2,t2,z1,aps++[A],v2,b2,z2,by simp [hb3],z6,fun c hc=>(z7 c hc).trans (g c hc)⟩
   ·obtain rfl:j=many:=by omega
    have e0:decide ((j:Int)<(j:Int))=false:=by simp
    refine .inr ⟨.exit 2,L'.set 50 (.bool false),t',by simp,?_,rfl,aps,v1,b1,?_,hb3,fun c hc=>?_⟩
    ·rw [app_eq]
     simp (disch:=first|omega|(with_unfolding_all exact rfl)|(simp only[new_n,put_n,new_m];omega)|(refine put_m_le ?_;simp only[new_m];omega)) only [K12r11,Abs.W,reduceIte,Nat.reduceEqDiff,efs,p8,p11,e0]
    ·obtain ⟨a1,a2,a3,a4,a5,a6,a7,a8,a9,a10,a11⟩:=hJ
     exact ⟨a1,a2,a3,a4,a5,a6,by omega,a8,a9,a10,a11⟩
    ·simp only [efs]
     rw [if_neg (by omega)]
     exact g c hc)
 exact ⟨L1,t1,aps,v1,b1,rfl,h1,h3,h5⟩
theorem LettingOf_ex {N d k m:Nat} {s:St} {r:ARes} (hr:call Try.prog X N (.fn 12) [.ptr d 0,.int .i64 (k:Int),.int .i64 (m:Int)] s=r) (hN:9≤N) (hd:Die d s.h) (hlt:d<s.n) (hk:1≤k∧k≤8) (hm:m≤8) (hs:s.n+30000≤far) :
  ∃ (l:Letting) (vS vA:AV) (bS bA:Nat) (t:St),r=.val (.agg (letV vS vA)) t∧Stir d s t 1000∧Die d t.h∧l.Ok∧l.stalls.length≤k∧l.appls.length≤m∧LetOwn t.h t.n s.n bS bA l vS vA:=by
 obtain ⟨n,rfl⟩:∃ n,N=n+1:=⟨N - 1,by omega⟩
 have hf:far=1000000000:=rfl
 obtain ⟨v,t,e,st,l,vS,vA,bS,bA,rfl,hq1,hq2,hq3,hq4,hq5⟩:=call_stir (n:=n) (args:=[.ptr d 0,.int .i64 (k:Int),.int .i64 (m:Int)]) (d:=d) (s:=s) (k:=1000) (Q:=fun w h n=>∃ (l:Letting) (vS vA:AV) (bS bA:Nat),w=.agg (letV vS vA)∧Die d h∧l.Ok∧l.stalls.length≤k∧l.appls.length≤m∧LetOwn h n s.n bS bA l vS vA) Try.func12 rfl (fun u uh un um=>by
  rw [← uh] at hd
  rw [← un] at hlt ⊢
  have adm:∀ s,aAdd s .i64 (m:Int) 1=.val (.int .i64 ((m:Int)+1)) s:=fun s=>aAdd_i64 s _ _ (by omega)
  rw [enter12]
  obtain ⟨w0,hw0⟩:∃ w0:St,w0=(u.new (.cells [.nilslice,.nilslice] (tag 28))).new (.cells [.nilslice,.nilslice] (tag 28)):=⟨_,rfl⟩
  have w0n:w0.n=u.n+2:=by rw [hw0];rfl
  have w0m:w0.m=far:=by rw [hw0];exact um
  have w0g:∀ c,c<u.n→w0.h.get c=u.h.get c:=fun c hc=>by rw [hw0,get_new_ne _ _ _ (by simp only [new_n];omega),get_new_ne _ _ _ (by omega)]
  have w01:w0.h.get (u.n+1)=some (.cells [.nilslice,.nilslice] (tag 28)):=by rw [hw0];exact get_new_eq _ _ _ rfl (by simp only [new_n];omega)
  have w00:w0.h.get u.n=some (.cells [.nilslice,.nilslice] (tag 28)):=by rw [hw0,get_new_ne _ _ _ (by simp only [new_n];omega)];exact get_new_eq _ _ _ rfl (by omega)
  simp (disch:=first|omega|(with_unfolding_all exact rfl)|(simp only[new_n,put_n,new_m];omega)|(refine put_m_le ?_;simp only[new_m];omega)) only [K12,K12r0,K12r1,K12r2,Abs.W,reduceIte,Nat.reduceEqDiff,Nat.reduceAdd,adm]
  rw [← hw0]
  simp only [new_n]
  generalize hc1:call _ _ _ (.fn 15) _ _=r1
  obtain ⟨x1,t1,rfl,st1,d1,x10,x11⟩:=cast_ex hc1 (by omega) (hd.keep (w0g d hlt)) (by omega) (by omega) (by omega)
  obtain ⟨many,rfl⟩:∃ n:Nat,x1=n:=⟨x1.toNat,by omega⟩
  have n1:=st1.n
  have k1:=st1.le
  simp (disch:=first|omega|(with_unfolding_all exact rfl)|(simp only[new_n,put_n,new_m];omega)|(refine put_m_le ?_;simp only[new_m];omega)) only [K12r3,Abs.W,reduceIte,Nat.reduceEqDiff]
  generalize hc2:call _ _ _ (.fn 26) _ _=r2
  obtain ⟨x2,t2,rfl,st2,d2,x20,x21⟩:=from_ex hc2 (by omega) d1 (by omega) (by omega) (by omega) (by omega) (by omega) (by omega)
  obtain ⟨i,rfl⟩:∃ n:Nat,x2=n:=⟨x2.toNat,by omega⟩
  have n2:=st2.n
  have k2:=st2.le
  have S2:=st1.trans st2
  have dm2:=S2.m (by omega)
  have g2:∀ c,c<w0.n→c≠d→t2.h.get c=w0.h.get c:=S2.same
  simp (disch:=first|omega|(with_unfolding_all exact rfl)|(simp only[new_n,put_n,new_m];omega)|(refine put_m_le ?_;simp only[new_m];omega)) only [Abs.W,reduceIte,Nat.reduceEqDiff,kLoop_def]
  generalize hl1:loopN _ rounds _ _ _ _ _=rl1
  have J0:LetJ t2 t2 d (u.n+1) [] many .nilslice (far+1) 0:=⟨d2,(g2 _ (by omega) (by omega)).trans w01,IsAt.nil _ _ _ _ _,by omega,fun _ _ _=>rfl,by omega,by omega,fun h=>h,Nat.le_refl _,by omega,fun s hs=>by cases hs⟩
  obtain ⟨L1,t3,ss,vS,bS,rfl,J3,hsl,g3⟩:=let_loop n (by omega) hl1 J0 (i:=i) (by omega) (by omega) (by have:=S2.mle;omega) (by omega) (by simp only [find_cons,reduceIte,Nat.reduceEqDiff]) (by simp only [find_cons,reduceIte,Nat.reduceEqDiff]) (by simp only [find_cons,reduceIte,Nat.reduceEqDiff]) (by simp only [find_cons,reduceIte,Nat.reduceEqDiff])
  obtain ⟨jd,j7,ji,jlo,js,jn,jle,jm,jml,jdp,jok⟩:=J3
  have bSlt:bS<t3.n:=by
   rcases ji.is with ⟨z,_⟩ | ⟨_,z,_⟩
   ·rw [List.map_eq_nil_iff.mp z] at hsl;simp at hsl;omega
   ·exact z
  have S2m:=S2.mle
  have jm3:=jm dm2
  simp (disch:=first|omega|(with_unfolding_all exact rfl)|(simp only[new_n,put_n,new_m];omega)|(refine put_m_le ?_;simp only[new_m];omega)) only [K12r10,Abs.W,reduceIte,kLoop_def]
  generalize hl2:loopN _ rounds _ _ _ _ _=rl2
  have J1:LetK t3 t3 d (u.n+1) ⟨ss,[]⟩ vS .nilslice bS (far+1) 0:=⟨jd,j7,⟨ji,⟨[],rfl,IsAt.nil _ _ _ _ _,fun i h1 _=>by simp at h1⟩,by omega,by omega,by omega⟩,⟨.inl bSlt,.inr (by omega)⟩,fun _ _ _=>rfl,by omega,by omega,fun h=>h,Nat.le_refl _,by omega,fun a ha=>by cases ha⟩
  have f0:L1.find 0=.ptr d 0:=(g3 0 (by omega)).trans (by simp only [find_cons,reduceIte,Nat.reduceEqDiff])
  have f6:L1.find 6=.ptr u.n 0:=(g3 6 (by omega)).trans (by simp only [find_cons,reduceIte,Nat.reduceEqDiff])
  have f7:L1.find 7=.ptr (u.n+1) 0:=(g3 7 (by omega)).trans (by simp only [find_cons,reduceIte,Nat.reduceEqDiff])
  have f8:L1.find 8=.int .i64 many:=(g3 8 (by omega)).trans (by simp only [find_cons,reduceIte,Nat.reduceEqDiff])
  obtain ⟨L2,t4,aps,vA,bA,rfl,J4,hal,g4⟩:=app_loop n (by omega) hl2 J1 (by show 1≤ss.length∧ss.length≤8;omega) (fun s hs=>⟨(jok s hs).l0,(jok s hs).l1⟩) (by omega) (by omega) (by omega) (many:=many) (by omega) (by simp only [efs,f0,reduceIte,Nat.reduceEqDiff]) (by simp only [efs,f7,reduceIte,Nat.reduceEqDiff]) (by simp only [efs,f8,reduceIte,Nat.reduceEqDiff]) (by simp only [efs,reduceIte];rfl)
  have p6:L2.find 6=.ptr u.n 0:=(g4 6 (by omega)).trans (by simp only [efs,f6,reduceIte,Nat.reduceEqDiff])
  have p7:L2.find 7=.ptr (u.n+1) 0:=(g4 7 (by omega)).trans (by simp only [efs,f7,reduceIte,Nat.reduceEqDiff])
  obtain ⟨kd,k7,ko,kb,ks,kn,kle,km,kml,kdp,kok⟩:=J4
  have c0:t4.h.get u.n=some (.cells [.nilslice,.nilslice] (tag 28)):=(ks u.n (by omega) (by omega)).trans ((js u.n (by omega) (by omega)).trans ((g2 u.n (by omega) (by omega)).trans w00))
  have sc:=ko.at_.scal
  have sh2:shapeT Try.prog 28=some (some 2):=by kernel_rfl
  simp (disch:=first|omega|(with_unfolding_all exact rfl)|(simp only[new_n,put_n,new_m];omega)|(refine put_m_le ?_;simp only[new_m];omega)) only [K12r22,res12,Abs.W,reduceIte,Nat.reduceEqDiff,Nat.reduceAdd,Nat.reduceSub,p6,p7,k7,c0,sc,Nat.zero_add]
  have km4:=km jm3
  refine ⟨.agg (letV vS vA),_,leave_cell _ _ _ _ sh2 ?_,⟨fun c hc hcd=>?_,by simp only [put_n];omega,by simp only [put_n];omega,fun _=>?_,?_⟩,?_,⟨⟨ss,aps⟩,vS,vA,bS,bA,rfl,kd.keep (get_put_ne' _ _ _ _ (by omega)),⟨by show 1≤ss.length;omega,by show ss.length≤8;omega,by show aps.length≤8;omega,fun s hs=>by show s.Ok aps.length;rw [hal];exact jok s hs,kok⟩,by show ss.length≤k;omega,by show aps.length≤m;omega,?_⟩⟩
  ·simp only [p6]
   rw [load_ptr,get_put_eq _ _ _ _ rfl (by omega),loadO_cells,partS_some]
   rfl
  ·rw [get_put_ne' _ _ _ _ (by omega),ks c (by omega) hcd,js c (by omega) hcd,g2 c (by omega) hcd,w0g c hc]
  ·simp only [St.put,minN_eq];omega
  ·simp only [St.put,minN_eq];omega
  ·rcases ji.is with ⟨z,_⟩ | ⟨_,_,z,_⟩
   ·rw [List.map_eq_nil_iff.mp z] at hsl;simp at hsl;omega
   ·subst z;rfl
  ·have:=ko.grow (h':=(t4.put u.n (.cells [vS,vA] (tag 28))).h) (n':=(t4.put u.n (.cells [vS,vA] (tag 28))).n) (fun c h1 h2=>get_put_ne' _ _ _ _ (by omega)) (Nat.le_refl _)
   obtain ⟨o1,⟨ws,o2,o3,o4⟩,o5,o6,o7⟩:=this
   exact ⟨o1,⟨ws,o2,o3,fun i h1 h2=>⟨(o4 i h1 h2).1.move (fun b h3 h4=>⟨rfl,by omega,h4.2⟩) (Nat.le_refl _),(o4 i h1 h2).2.move (fun b h3 h4=>⟨rfl,by omega,h4.2⟩) (Nat.le_refl _)⟩⟩,by omega,by omega,o7⟩) (by omega)
 exact ⟨l,vS,vA,bS,bA,t,hr.symm.trans e,st,hq1,hq2,hq3,hq4,hq5⟩
end Go.Proofs.Ythbhjgbpjlnbcaa.walk
set_option maxRecDepth 10000
namespace Go.Proofs.Ythbhjgbpjlnbcaa.walk
open Go.Abs Go.Proofs.Ythbhjgbpjlnbcaa.code
/-! ### Tokens that are changed -/
def Appl.withT (a:Appl) (x:Int):Appl:=⟨a.years,x,a.wishes,a.bids⟩
theorem rowsOf_get {l:List Appl} {ws:List (AV × AV)} {k:Nat} (h:k<(rowsOf l ws).length) (h1:k<l.length) (h2:k<ws.length):(rowsOf l ws)[k]=l[k].row ws[k]:=List.getElem_zipWith ..
theorem rowsOf_wide {l:List Appl} {ws:List (AV × AV)} (h:ws.length=l.length):∀ r ∈ rowsOf l ws,r.length=4:=fun r hr=>by
 obtain ⟨k,hk,rfl⟩:=List.getElem_of_mem hr
 have:=hk
 rw [rowsOf_len h] at this
 rw [rowsOf_get hk this (by omega)]
 rfl
def Letting.withTok (l:Letting) (i:Nat) (x:Int):Letting:=⟨l.stalls,if h:i<l.appls.length then l.appls.set i (l.appls[i].withT x) else l.appls⟩
theorem withTok_len (l:Letting) (i:Nat) (x:Int):(l.withTok i x).appls.length=l.appls.length:=by unfold Letting.withTok;split<;>simp
theorem over_cell:∀ {c:List AV} {i:Nat} (x:AV),i<c.length→over i [x] c=some (c.set i x)
 | [],_,_,h=>by simp at h
 | a::r,0,x,_=>by cases r<;>rfl
 | a::r,i+1,x,h=>by
  have ih:=over_cell (c:=r) (i:=i) x (by simpa using h)
  rw [over_cons,if_neg (by omega),show i+1 - 1=i by omega,ih]
  rfl
theorem flat_setA (x:AV):∀ {rows:List (List AV)} {w i j:Nat},(∀ r ∈ rows,r.length=w)→(hi:i<rows.length)→j<w→rows.flatten.set (i * w+j) x=(rows.set i (rows[i].set j x)).flatten
 | [],_,_,_,_,hi,_=>by simp at hi
 | a::r,w,0,j,h,hi,hj=>by
  have ha:=h a (List.mem_cons_self ..)
  rw [List.flatten_cons,Nat.zero_mul,Nat.zero_add,List.set_append_left _ _ (by omega)]
  rfl
 | a::r,w,i+1,j,h,hi,hj=>by
  have ha:=h a (List.mem_cons_self ..)
  have hm:(i+1) * w=i * w+w:=Nat.succ_mul i w
  have ih:=flat_setA x (rows:=r) (w:=w) (i:=i) (j:=j) (fun r hr=>h r (List.mem_cons_of_mem _ hr)) (by simpa using hi) hj
  rw [List.flatten_cons,List.set_append_right _ _ (by omega),show (i+1) * w+j - a.length=i * w+j by omega,ih]
  rfl
theorem rowsOf_tok {l:List Appl} {ws:List (AV × AV)} {i:Nat} (x:Int) (h:ws.length=l.length) (hi:i<l.length):(rowsOf l ws).flatten.set (i * 4+1) (.int .i64 x)=(rowsOf (l.set i (l[i].withT x)) ws).flatten:=by
 rw [flat_setA _ (rowsOf_wide h) (by rw [rowsOf_len h];exact hi) (by omega)]
 congr 1
 have hs:ws.length=(l.set i (l[i].withT x)).length:=by rw [List.length_set];exact h
 apply List.ext_getElem
 ·rw [List.length_set,rowsOf_len h,rowsOf_len hs,List.length_set]
 ·intro k h1 h2
  have hk:k<l.length:=by rw [rowsOf_len hs,List.length_set] at h2;exact h2
  rw [List.getElem_set,rowsOf_get h2 (by rw [List.length_set];exact hk) (by omega),List.getElem_set]
  by_cases e:i=k
  ·subst e
   rw [if_pos rfl,if_pos rfl,rowsOf_get _ hi (by omega)]
   rfl
  ·rw [if_neg e,if_neg e,rowsOf_get _ hk (by omega)]
theorem LetOwn.token {t:St} {n lo bS bA who:Nat} {l:Letting} {vS vA:AV} (r:LetOwn t.h n lo bS bA l vS vA) (hw:who<l.appls.length) (x:Int) (hn:n≤far) :
  ∃ c c' sz,t.h.get bA=some (.cells c sz)∧(∀ s,ixsA 4 s vA (.int .i64 (who:Int))=.val (.ptr bA (who * 4)) s)∧over (who * 4+1) [.int .i64 x] c=some c'∧bA<n∧LetOwn (t.put bA (.cells c' sz)).h n lo bS bA (l.withTok who x) vS vA:=by
 have hf:far=1000000000:=rfl
 obtain ⟨s,⟨ws,q1,q2,q3⟩,l1,l2,l3⟩:=r
 have lr:=rowsOf_len q1
 rcases q2.is with ⟨z,_⟩ | ⟨_,z1,z2,z3⟩
 ·rw [z] at lr;simp at lr;omega
 ·have hlen:(rowsOf l.appls ws).flatten.length=l.appls.length * 4:=by rw [flatten_len q2.wide,lr]
  refine ⟨_,_,_,z3,fun s=>by rw [z2,ixs_slice _ _ _ _ _ _ _ _ (by rw [lr];exact hw),Nat.zero_add],over_cell _ (by rw [hlen];omega),z1,s.mono (fun _=>get_put_ne' _ _ _ _ l3) (Nat.le_refl _),⟨ws,by rw [withTok_len];exact q1,?_,fun i h1 h2=>?_⟩,l1,l2,l3⟩
  ·have ew:(l.withTok who x).appls=l.appls.set who (l.appls[who].withT x):=by unfold Letting.withTok;rw [dif_pos hw]
   rw [ew,rowsOf_tok x q1 hw]
   refine ⟨rowsOf_wide (by rw [List.length_set];exact q1),.inr ⟨fun e=>?_,z1,by rw [z2,lr,rowsOf_len (by rw [List.length_set];exact q1),List.length_set],get_put_eq _ _ _ _ rfl (by omega)⟩⟩
   ·have:=rowsOf_len (l:=l.appls.set who (l.appls[who].withT x)) (ws:=ws) (by rw [List.length_set];exact q1)
    rw [e] at this
    simp at this
    omega
  ·have h2':i<l.appls.length:=by rw [withTok_len] at h2;exact h2
   have e1:(l.withTok who x).appls[i].wishes=l.appls[i].wishes∧(l.withTok who x).appls[i].bids=l.appls[i].bids:=by
    unfold Letting.withTok
    simp only [hw,dite_true,List.getElem_set]
    by_cases e:who=i
    ·subst e;simp [Appl.withT]
    ·simp [e]
   rw [e1.1,e1.2]
   exact ⟨(q3 i h1 h2').1.move (fun b h3 h4=>⟨get_put_ne' _ _ _ _ h4.2,h4⟩) (Nat.le_refl _),(q3 i h1 h2').2.move (fun b h3 h4=>⟨get_put_ne' _ _ _ _ h4.2,h4⟩) (Nat.le_refl _)⟩
end Go.Proofs.Ythbhjgbpjlnbcaa.walk
set_option maxRecDepth 10000
namespace Go.Proofs.Ythbhjgbpjlnbcaa.walk
open Go.Abs Go.Proofs.Ythbhjgbpjlnbcaa.code
def TabS (h:Heap) (n b:Nat) (no:Nat→Prop) (M:List (List Nat)) (v:AV):Prop :=
 ∃ (vs:List AV) (e:Bool) (sz:Nat),vs.length=M.length∧0<M.length∧b<n∧v=.slice b 0 vs.length vs.length e∧h.get b=some (.cells vs sz)∧(e=true→szOf sz=1)∧scalars vs=true∧∀ j (h1:j<vs.length) (h2:j<M.length),Sl (fun x=>x≠b∧no x) h n 1 (natRows M[j]) vs[j]
section
variable {h h':Heap} {n n' b:Nat} {no no':Nat→Prop} {M:List (List Nat)} {v:AV}
theorem TabS.move (a:TabS h n b no M v) (hb:h'.get b=h.get b) (hh:∀ c,c<n→no c→h'.get c=h.get c∧no' c) (hn:n≤n'):TabS h' n' b no' M v:=by
 obtain ⟨vs,e,sz,h1,h2,h3,h4,h5,h6,h7,h8⟩:=a
 exact ⟨vs,e,sz,h1,h2,by omega,h4,hb.trans h5,h6,h7,fun j j1 j2=>(h8 j j1 j2).move (fun c hc hl=>⟨(hh c hc hl.2).1,hl.1,(hh c hc hl.2).2⟩) hn⟩
theorem TabS.okA (a:TabS h n b no M v) (t:St):Abs.okA (.val v t)=.val v t:=by obtain ⟨vs,e,sz,h1,h2,h3,rfl,_⟩:=a;rfl
theorem TabS.plain (a:TabS h n b no M v):Abs.plain v=false:=by obtain ⟨vs,e,sz,h1,h2,h3,rfl,_⟩:=a;rfl
theorem TabS.len (a:TabS h n b no M v) (s:St):lenSlA s v=.val (.int .i64 (M.length:Int)) s:=by obtain ⟨vs,e,sz,h1,h2,h3,rfl,_⟩:=a;rw [← h1];rfl
theorem nth_get:∀ {l:List AV} {i:Nat} (h:i<l.length),nth l i=l[i]
 | x::l,0,_=>rfl
 | x::l,i+1,h=>nth_get (l:=l) (i:=i) (by simpa using h)
theorem TabS.get (a:TabS h n b no M v) {j:Nat} (hj:j<M.length):∃ w p c sz,Sl (fun x=>x≠b∧no x) h n 1 (natRows M[j]) w∧(∀ s,ixsA 1 s v (.int .i64 (j:Int))=.val (.ptr b p) s)∧h.get b=some (.cells c sz)∧nth c p=w:=by
 obtain ⟨vs,e,sz,h1,h2,h3,rfl,h5,h6,h7,h8⟩:=a
 have hr:j<vs.length:=by omega
 exact ⟨vs[j],0+j * 1,vs,sz,h8 j hr hj,fun s=>ixs_slice 1 s b 0 _ _ e j hr,h5,by rw [Nat.zero_add,Nat.mul_one];exact nth_get hr⟩
end
theorem scalars_app:∀ {a b:List AV},scalars a=true→scalars b=true→scalars (a++b)=true
 | [],_,_,h=>h
 | x::a,b,h1,h2=>by
  have e:∀ (x:AV) (l:List AV),scalars (x::l)=(match x.scalar with | true=>scalars l | false=>false):=fun _ _=>rfl
  rw [List.cons_append,e]
  rw [e] at h1
  cases hx:x.scalar with
  | true=>rw [hx] at h1;exact scalars_app h1 h2
  | false=>rw [hx] at h1;cases h1
theorem TabS.app {s:St} {b b':Nat} {no no':Nat→Prop} {M M':List (List Nat)} {v v':AV} (a:TabS s.h s.n b no M v) (a':TabS s.h s.n b' no' M' v') (hno:∀ x,no' x→x≠b'→x≠b∧no x) (hl:M.length+M'.length≤1000) (hs:s.n+10≤far) :
  ∃ w s',appendA false 1 24 (tag 22) s v v'=.val w s'∧TabS s'.h s'.n s.n no (M++M') w∧s'.n=s.n+1∧(∀ c,c<s.n→c≠b→s'.h.get c=s.h.get c)∧min s.m b≤s'.m∧s'.m≤s.m:=by
 have hf:far=1000000000:=rfl
 obtain ⟨vs,e,sz,h1,h2,h3,rfl,h5,h6,h7,h8⟩:=a
 obtain ⟨ws,e',sz',k1,k2,k3,rfl,k5,k6,k7,k8⟩:=a'
 have e1:firstA 1 ws.length s (.slice b' 0 ws.length ws.length e')=some ws:=by
  show (match s.h.get b' with | some (.cells c _)=>Abs.cut 0 (ws.length * 1) c | some (.fam c _ q _)=>Abs.cut 0 (ws.length * 1) (c.take q) | _=>none)=_
  rw [k5]
  simp only [Nat.mul_one]
  rw [cut_zero,cut1_all]
 have hA:∀ x,appendA false 1 24 (tag 22) s x (.slice b' 0 ws.length ws.length e')=growA 1 24 (tag 22) ws.length ws s x:=fun x=>by
  unfold appendA
  simp only [lenA,e1,Nat.mul_one,Nat.beq_refl,k7]
 have e2:Nat.ble (vs.length+ws.length) vs.length=false:=by
  cases h:Nat.ble (vs.length+ws.length) vs.length with
  | false=>rfl
  | true=>have:=Nat.le_of_ble_eq_true h;omega
 have e3:Nat.ble ((vs.length+ws.length) * 24) limit=true:=Nat.ble_eq_true_of_le (by unfold limit;omega)
 have fin:∀ s':St,s'.n=s.n+1→(∀ c,c<s.n→c≠b→s'.h.get c=s.h.get c)→(∃ z,s'.h.get s.n=some (.cells (vs++ws) z)∧szOf z=1)→TabS s'.h s'.n s.n no (M++M') (.slice s.n 0 (vs.length+ws.length) (vs.length+ws.length) true):=fun s' q1 q2 ⟨z,q3,q4⟩=>by
  refine ⟨vs++ws,true,z,by simp [h1,k1],by simp;omega,by omega,by rw [List.length_append],q3,fun _=>q4,scalars_app h7 k7,fun j j1 j2=>?_⟩
  by_cases ej:j<vs.length
  ·rw [List.getElem_append_left ej,List.getElem_append_left (by omega)]
   exact (h8 j ej (by omega)).move (fun c hc hl=>⟨q2 c hc hl.1,by omega,hl.2⟩) (by omega)
  ·rw [List.getElem_append_right (by omega),List.getElem_append_right (by omega)]
   have:=k8 (j - vs.length) (by rw [List.length_append] at j1;omega) (by rw [List.length_append] at j2;omega)
   simp only [h1] at this ⊢
   exact this.move (fun c hc hl=>⟨q2 c hc (hno c hl.2 hl.1).1,by omega,(hno c hl.2 hl.1).2⟩) (by omega)
 rw [hA]
 cases e with
 | false =>
  refine ⟨.slice s.n 0 (vs.length+ws.length) (vs.length+ws.length) true,s.new (.cells (vs++ws) (1+tag 22)),?_,fin _ rfl (fun c hc _=>get_new_ne _ _ _ (by omega)) ⟨_,get_new_eq _ _ _ rfl (by omega),by kernel_rfl⟩,rfl,fun c hc _=>get_new_ne _ _ _ (by omega),by rw [new_m];omega,by rw [new_m];omega⟩
  unfold growA
  simp only [h5,e2,e3,Nat.mul_one]
  rw [cut_zero,cut1_all]
 | true =>
  refine ⟨.slice s.n 0 (vs.length+ws.length) (vs.length+ws.length) true,(s.kill b).new (.cells (vs++ws) (if 0=0∧sz=1+tag 22 then sz else 1)),?_,fin _ rfl (fun c hc hb=>?_) ⟨_,get_new_eq _ _ _ rfl (by show s.n<_;omega),?_⟩,rfl,fun c hc hb=>?_,?_,?_⟩
  ·unfold growA
   simp only [h5,e2,e3,Nat.mul_one,h6 rfl,Nat.zero_add,true_and,and_self,if_true,List.drop_zero]
  ·rw [get_new_ne _ _ _ (by show c≠s.n;omega),get_kill_ne _ _ _ hb]
  ·split
   ·exact h6 rfl
   ·kernel_rfl
  ·rw [get_new_ne _ _ _ (by show c≠s.n;omega),get_kill_ne _ _ _ hb]
  ·rw [new_m];simp only [St.kill,minN_eq];omega
  ·rw [new_m];simp only [St.kill,minN_eq];omega
theorem QAt.sl {h:Heap} {n b:Nat} {q:List Nat} {v:AV} (a:QAt h n b q v) (h0:q≠[]):Sl (fun x=>x=b) h n 1 (natRows q) v:=by
 obtain ⟨h1,o,c,sz,h2,h3⟩:=a
 have hl:0<q.length:=List.length_pos_iff.mpr h0
 rcases h3 with ⟨rfl,h4⟩ | ⟨_,rfl,h4,h5,h6⟩ | ⟨h4,_⟩
 ·exact ⟨natRows_wide q,.inr ⟨b,o,q.length,false,c,sz,h1,rfl,⟨by rw [natRows_len];omega,fun h=>(by cases h)⟩,by rw [natRows_len],h2,by rw [natRows_len,Nat.mul_one];exact h4⟩⟩
 ·refine ⟨natRows_wide q,.inr ⟨b,o,q.length,true,c,sz,h1,rfl,⟨by rw [natRows_len];omega,fun _=>hl⟩,by rw [natRows_len],h2,?_⟩⟩
  rw [natRows_len,Nat.mul_one]
  have e1:=cut_skip (c.take o) (c.drop o) 0 q.length
  rw [Nat.add_zero,List.length_take,Nat.min_eq_left (by omega),List.take_append_drop] at e1
  have e2:=cut1_all (arr q)
  rw [arr_len] at e2
  rw [e1,h5,cut_zero]
  exact e2
 ·exact absurd h4 h0
end Go.Proofs.Ythbhjgbpjlnbcaa.walk
set_option maxRecDepth 10000
namespace Go.Proofs.Ythbhjgbpjlnbcaa.walk
open Go.Abs Go.Proofs.Ythbhjgbpjlnbcaa.code
def TabI (h:Heap) (n b:Nat) (no:Nat→Prop) (M:List (List Int)) (v:AV):Prop :=
 ∃ (vs:List AV) (e:Bool) (sz:Nat),vs.length=M.length∧0<M.length∧b<n∧v=.slice b 0 vs.length vs.length e∧h.get b=some (.cells vs sz)∧(e=true→szOf sz=1)∧scalars vs=true∧∀ j (h1:j<vs.length) (h2:j<M.length),Sl (fun x=>x≠b∧no x) h n 1 (intRows M[j]) vs[j]
section
variable {h h':Heap} {n n' b:Nat} {no no':Nat→Prop} {M:List (List Int)} {v:AV}
theorem TabI.move (a:TabI h n b no M v) (hb:h'.get b=h.get b) (hh:∀ c,c<n→no c→h'.get c=h.get c∧no' c) (hn:n≤n'):TabI h' n' b no' M v:=by
 obtain ⟨vs,e,sz,h1,h2,h3,h4,h5,h6,h7,h8⟩:=a
 exact ⟨vs,e,sz,h1,h2,by omega,h4,hb.trans h5,h6,h7,fun j j1 j2=>(h8 j j1 j2).move (fun c hc hl=>⟨(hh c hc hl.2).1,hl.1,(hh c hc hl.2).2⟩) hn⟩
theorem TabI.okA (a:TabI h n b no M v) (t:St):Abs.okA (.val v t)=.val v t:=by obtain ⟨vs,e,sz,h1,h2,h3,rfl,_⟩:=a;rfl
theorem TabI.plain (a:TabI h n b no M v):Abs.plain v=false:=by obtain ⟨vs,e,sz,h1,h2,h3,rfl,_⟩:=a;rfl
theorem TabI.len (a:TabI h n b no M v) (s:St):lenSlA s v=.val (.int .i64 (M.length:Int)) s:=by obtain ⟨vs,e,sz,h1,h2,h3,rfl,_⟩:=a;rw [← h1];rfl
theorem TabI.get (a:TabI h n b no M v) {j:Nat} (hj:j<M.length):∃ w p c sz,Sl (fun x=>x≠b∧no x) h n 1 (intRows M[j]) w∧(∀ s,ixsA 1 s v (.int .i64 (j:Int))=.val (.ptr b p) s)∧h.get b=some (.cells c sz)∧nth c p=w:=by
 obtain ⟨vs,e,sz,h1,h2,h3,rfl,h5,h6,h7,h8⟩:=a
 have hr:j<vs.length:=by omega
 exact ⟨vs[j],0+j * 1,vs,sz,h8 j hr hj,fun s=>ixs_slice 1 s b 0 _ _ e j hr,h5,by rw [Nat.zero_add,Nat.mul_one];exact nth_get hr⟩
end
theorem TabI.app {s:St} {b b':Nat} {no no':Nat→Prop} {M M':List (List Int)} {v v':AV} (a:TabI s.h s.n b no M v) (a':TabI s.h s.n b' no' M' v') (hno:∀ x,no' x→x≠b'→x≠b∧no x) (hl:M.length+M'.length≤1000) (hs:s.n+10≤far) :
  ∃ w s',appendA false 1 24 (tag 22) s v v'=.val w s'∧TabI s'.h s'.n s.n no (M++M') w∧s'.n=s.n+1∧(∀ c,c<s.n→c≠b→s'.h.get c=s.h.get c)∧min s.m b≤s'.m∧s'.m≤s.m:=by
 have hf:far=1000000000:=rfl
 obtain ⟨vs,e,sz,h1,h2,h3,rfl,h5,h6,h7,h8⟩:=a
 obtain ⟨ws,e',sz',k1,k2,k3,rfl,k5,k6,k7,k8⟩:=a'
 have e1:firstA 1 ws.length s (.slice b' 0 ws.length ws.length e')=some ws:=by
  show (match s.h.get b' with | some (.cells c _)=>Abs.cut 0 (ws.length * 1) c | some (.fam c _ q _)=>Abs.cut 0 (ws.length * 1) (c.take q) | _=>none)=_
  rw [k5]
  simp only [Nat.mul_one]
  rw [cut_zero,cut1_all]
 have hA:∀ x,appendA false 1 24 (tag 22) s x (.slice b' 0 ws.length ws.length e')=growA 1 24 (tag 22) ws.length ws s x:=fun x=>by
  unfold appendA
  simp only [lenA,e1,Nat.mul_one,Nat.beq_refl,k7]
 have e2:Nat.ble (vs.length+ws.length) vs.length=false:=by
  cases h:Nat.ble (vs.length+ws.length) vs.length with
  | false=>rfl
  | true=>have:=Nat.le_of_ble_eq_true h;omega
 have e3:Nat.ble ((vs.length+ws.length) * 24) limit=true:=Nat.ble_eq_true_of_le (by unfold limit;omega)
 have fin:∀ s':St,s'.n=s.n+1→(∀ c,c<s.n→c≠b→s'.h.get c=s.h.get c)→(∃ z,s'.h.get s.n=some (.cells (vs++ws) z)∧szOf z=1)→TabI s'.h s'.n s.n no (M++M') (.slice s.n 0 (vs.length+ws.length) (vs.length+ws.length) true):=fun s' q1 q2 ⟨z,q3,q4⟩=>by
  refine ⟨vs++ws,true,z,by simp [h1,k1],by simp;omega,by omega,by rw [List.length_append],q3,fun _=>q4,scalars_app h7 k7,fun j j1 j2=>?_⟩
  by_cases ej:j<vs.length
  ·rw [List.getElem_append_left ej,List.getElem_append_left (by omega)]
   exact (h8 j ej (by omega)).move (fun c hc hl=>⟨q2 c hc hl.1,by omega,hl.2⟩) (by omega)
  ·rw [List.getElem_append_right (by omega),List.getElem_append_right (by omega)]
   have:=k8 (j - vs.length) (by rw [List.length_append] at j1;omega) (by rw [List.length_append] at j2;omega)
   simp only [h1] at this ⊢
   exact this.move (fun c hc hl=>⟨q2 c hc (hno c hl.2 hl.1).1,by omega,(hno c hl.2 hl.1).2⟩) (by omega)
 rw [hA]
 cases e with
 | false =>
  refine ⟨.slice s.n 0 (vs.length+ws.length) (vs.length+ws.length) true,s.new (.cells (vs++ws) (1+tag 22)),?_,fin _ rfl (fun c hc _=>get_new_ne _ _ _ (by omega)) ⟨_,get_new_eq _ _ _ rfl (by omega),by kernel_rfl⟩,rfl,fun c hc _=>get_new_ne _ _ _ (by omega),by rw [new_m];omega,by rw [new_m];omega⟩
  unfold growA
  simp only [h5,e2,e3,Nat.mul_one]
  rw [cut_zero,cut1_all]
 | true =>
  refine ⟨.slice s.n 0 (vs.length+ws.length) (vs.length+ws.length) true,(s.kill b).new (.cells (vs++ws) (if 0=0∧sz=1+tag 22 then sz else 1)),?_,fin _ rfl (fun c hc hb=>?_) ⟨_,get_new_eq _ _ _ rfl (by show s.n<_;omega),?_⟩,rfl,fun c hc hb=>?_,?_,?_⟩
  ·unfold growA
   simp only [h5,e2,e3,Nat.mul_one,h6 rfl,Nat.zero_add,true_and,and_self,if_true,List.drop_zero]
  ·rw [get_new_ne _ _ _ (by show c≠s.n;omega),get_kill_ne _ _ _ hb]
  ·split
   ·exact h6 rfl
   ·kernel_rfl
  ·rw [get_new_ne _ _ _ (by show c≠s.n;omega),get_kill_ne _ _ _ hb]
  ·rw [new_m];simp only [St.kill,minN_eq];omega
  ·rw [new_m];simp only [St.kill,minN_eq];omega
def AccI (h:Heap) (n b:Nat) (no:Nat→Prop) (M:List (List Int)) (v:AV):Prop:=(M=[]∧v=.nilslice)∨TabI h n b no M v
theorem AccI.okA {h:Heap} {n b:Nat} {no:Nat→Prop} {M:List (List Int)} {v:AV} (a:AccI h n b no M v) (t:St):Abs.okA (.val v t)=.val v t:=by
 rcases a with ⟨_,rfl⟩ | a
 ·rfl
 ·exact a.okA t
theorem AccI.app {s:St} {b b':Nat} {no no':Nat→Prop} {M M':List (List Int)} {v v':AV} (a:AccI s.h s.n b no M v) (a':TabI s.h s.n b' no' M' v') (hno:∀ x,no' x→x≠b'→(b<s.n→x≠b)∧no x) (hl:M.length+M'.length≤1000) (hs:s.n+10≤far) :
  ∃ w s',appendA false 1 24 (tag 22) s v v'=.val w s'∧TabI s'.h s'.n s.n no (M++M') w∧s'.n=s.n+1∧(∀ c,c<s.n→c≠b→s'.h.get c=s.h.get c)∧min s.m b≤s'.m∧s'.m≤s.m:=by
 have hf:far=1000000000:=rfl
 rcases a with ⟨rfl,rfl⟩ | a
 ·obtain ⟨ws,e',sz',k1,k2,k3,rfl,k5,k6,k7,k8⟩:=a'
  have e1:firstA 1 ws.length s (.slice b' 0 ws.length ws.length e')=some ws:=by
   show (match s.h.get b' with | some (.cells c _)=>Abs.cut 0 (ws.length * 1) c | some (.fam c _ q _)=>Abs.cut 0 (ws.length * 1) (c.take q) | _=>none)=_
   rw [k5]
   simp only [Nat.mul_one]
   rw [cut_zero,cut1_all]
  have e2:Nat.beq ws.length 0=false:=nbeq_f (by omega)
  have e3:Nat.ble (ws.length * 24) limit=true:=Nat.ble_eq_true_of_le (by unfold limit;simp at hl;omega)
  refine ⟨.slice s.n 0 ws.length ws.length true,s.new (.cells ws (1+tag 22)),?_,?_,rfl,fun c hc _=>get_new_ne _ _ _ (by omega),by rw [new_m];omega,by rw [new_m];omega⟩
  ·unfold appendA
   simp only [lenA,e1,Nat.mul_one,Nat.beq_refl,k7]
   unfold growA
   simp only [e2,e3]
  ·rw [List.nil_append]
   refine ⟨ws,true,1+tag 22,k1,k2,by rw [new_n];omega,rfl,get_new_eq _ _ _ rfl (by omega),fun _=>by kernel_rfl,k7,fun j j1 j2=>?_⟩
   exact (k8 j j1 j2).move (fun c hc hl=>⟨get_new_ne _ _ _ (by omega),by omega,(hno c hl.2 hl.1).2⟩) (by rw [new_n];omega)
 ·have hb:b<s.n:=by obtain ⟨_,_,_,_,_,h3,_⟩:=a;exact h3
  exact a.app a' (fun x h1 h2=>⟨(hno x h1 h2).1 hb,(hno x h1 h2).2⟩) hl hs
end Go.Proofs.Ythbhjgbpjlnbcaa.walk
set_option maxRecDepth 10000
namespace Go.Proofs.Ythbhjgbpjlnbcaa.walk
open Go.Abs Go.Proofs.Ythbhjgbpjlnbcaa.code
theorem has2_ok (N:Nat) (hN:1≤N) (l:List Int) (x:Int) (v:AV) (s:St) (hR:RowsAt s.h s.n 1 (intRows l) v) (hl:l.length≤1000) (hs:s.n+10≤far) :
  call Try.prog X N (.fn 46) [v,.int .i64 x] s=.val (.bool (decide (x ∈ l))) s:=by
 obtain ⟨n,rfl⟩:∃ n,N=n+1:=⟨N - 1,by omega⟩
 refine call_plain' Try.func46 (fun u uh un um=>?_) rfl
 rw [← uh,← un] at hR
 have kv:∀ t,okA (.val v t)=.val v t:=fun t=>okA_ne hR.ne
 have lv:=rowLen hR
 have hf:far=1000000000:=rfl
 rw [enter46]
 simp (disch:=first|omega|(with_unfolding_all exact rfl)|(simp only[new_n,put_n,new_m];omega)|(refine put_m_le ?_;simp only[new_m];omega)) only [K46r0,K46r1,K46r6,K46,Abs.W,reduceIte,Nat.reduceEqDiff,Nat.reduceAdd,kLoop_def]
 generalize hlp:loopN _ rounds _ _ _ _ _=q1
 obtain ⟨e,L1,s1,rfl,rfl,hQ⟩:=loop_of hlp (fun i L t=>t=u∧L.find 0=v∧L.find 1=.int .i64 x∧L.find 5=.int .i64 i∧x ∉ l.take i)
  (fun e L t=>t=u∧((e=.ret∧L.find 4=.bool true∧x ∈ l)∨(e=.exit 0∧x ∉ l))) l.length (by unfold rounds;omega)
  ⟨rfl,by simp only [find_cons,reduceIte,Nat.reduceEqDiff],by simp only [find_cons,reduceIte,Nat.reduceEqDiff],by simp only [find_cons,reduceIte,Nat.reduceEqDiff];rfl,by simp⟩
  (fun i L t hi ⟨ht,q0,q1,q5,hx⟩=>by
   subst ht
   by_cases hlt:i<l.length
   ·have e0:decide ((i:Int)<(l.length:Int))=true:=decide_eq_true (by omega)
    obtain ⟨b,p,c,sz,r1,r2,r3,r4⟩:=rowInt hR hlt
    have ad:∀ s,aAdd s .i64 (i:Int) 1=.val (.int .i64 ((i:Int)+1)) s:=fun s=>aAdd_i64 s _ _ (by omega)
    by_cases he:l[i]=x
    ·have e1:decide (l[i]=x)=true:=decide_eq_true he
     refine .inr ⟨.ret,_,t,by simp,by
      simp (disch:=first|omega|(with_unfolding_all exact rfl)|(simp only[new_n,put_n,new_m];omega)|(refine put_m_le ?_;simp only[new_m];omega)) only [K46r2,K46r3,K46r4,K46r5,K46l0,Abs.W,reduceIte,Nat.reduceEqDiff,efs,q0,q1,q5,e0,lv,r2,r3,r4,e1]
      rfl,rfl,.inl ⟨rfl,by simp only [efs,reduceIte,Nat.reduceEqDiff],by rw [← he];exact List.getElem_mem hlt⟩⟩
    ·have e1:decide (l[i]=x)=false:=decide_eq_false he
     refine .inl ⟨hlt,_,t,by
      simp (disch:=first|omega|(with_unfolding_all exact rfl)|(simp only[new_n,put_n,new_m];omega)|(refine put_m_le ?_;simp only[new_m];omega)) only [K46r2,K46r3,K46r4,K46r5,K46l0,Abs.W,reduceIte,Nat.reduceEqDiff,efs,q0,q1,q5,e0,lv,r2,r3,r4,e1,ad]
      rfl,rfl,?_,?_,?_,?_⟩
     ·simp only [efs,q0,reduceIte,Nat.reduceEqDiff]
     ·simp only [efs,q1,reduceIte,Nat.reduceEqDiff]
     ·simp only [efs,reduceIte,Nat.reduceEqDiff];rfl
     ·rw [take_snoc hlt,List.mem_append,List.mem_singleton]
      exact fun h=>h.elim hx fun h=>he h.symm
   ·obtain rfl:i=l.length:=by omega
    have e0:decide ((l.length:Int)<(l.length:Int))=false:=by simp
    refine .inr ⟨.exit 0,L.set 9 (.bool false),t,by simp,?_,rfl,.inr ⟨rfl,by rwa [List.take_length] at hx⟩⟩
    simp (disch:=first|omega|(with_unfolding_all exact rfl)|(simp only[new_n,put_n,new_m];omega)|(refine put_m_le ?_;simp only[new_m];omega)) only [K46r2,K46r3,K46r4,K46r5,K46l0,Abs.W,reduceIte,Nat.reduceEqDiff,efs,q0,q5,lv,e0])
 rcases hQ with ⟨rfl,h4,hx⟩ | ⟨rfl,hx⟩
 ·rw [decide_eq_true hx]
  simp (disch:=first|omega|(with_unfolding_all exact rfl)|(simp only[new_n,put_n,new_m];omega)|(refine put_m_le ?_;simp only[new_m];omega)) only [res46,Abs.W,h4]
  exact ⟨_,rfl,by omega⟩
 ·rw [decide_eq_false hx]
  simp (disch:=first|omega|(with_unfolding_all exact rfl)|(simp only[new_n,put_n,new_m];omega)|(refine put_m_le ?_;simp only[new_m];omega)) only [res46,Abs.W,reduceIte,efs]
  exact ⟨_,rfl,by omega⟩
theorem can_eq {l:Letting} (ok:l.Ok) {a st:Nat} (ha:a<l.appls.length) (hst:st<l.stalls.length):canI l st a=(decide (l.appls[a].wishes.idxOf (st:Int)<l.appls[a].wishes.length) && (!decide (l.stalls[st].rule=3) || decide (l.stalls[st].least≤l.appls[a].bids.getD (l.appls[a].wishes.idxOf (st:Int)) 0))):=by
 have A:=ok.ap _ (List.getElem_mem ha)
 cases hc:canI l st a with
 | true =>
  obtain ⟨k,h1,h2,hidx,hbid⟩:=can_idx ok ha hst hc
  rw [hidx]
  have gd:l.appls[a].bids.getD k 0=l.appls[a].bids[k]:=by simp [List.getD,h2]
  rw [gd,decide_eq_true h1]
  by_cases hr:l.stalls[st].rule=3
  ·rw [decide_eq_true (hbid hr),Bool.or_true];rfl
  ·rw [decide_eq_false hr];rfl
 | false =>
  symm
  rw [Bool.eq_false_iff]
  intro hT
  rw [Bool.and_eq_true,decide_eq_true_eq] at hT
  obtain ⟨h1,h2⟩:=hT
  have hk:=List.getElem_idxOf h1
  generalize l.appls[a].wishes.idxOf (st:Int)=k at h1 h2 hk
  have hb:k<l.appls[a].bids.length:=by rw [A.bl];exact h1
  have gd:l.appls[a].bids.getD k 0=l.appls[a].bids[k]:=by simp [List.getD,hb]
  rw [gd] at h2
  have hz:k<(l.appls[a].wishes.zip l.appls[a].bids).length:=by rw [List.length_zip];omega
  have ez:(l.appls[a].wishes.zip l.appls[a].bids)[k]=(l.appls[a].wishes[k],l.appls[a].bids[k]):=List.getElem_zip
  have hm:(l.appls[a].wishes[k],l.appls[a].bids[k]) ∈ l.appls[a].wishes.zip l.appls[a].bids:=by rw [← ez];exact List.getElem_mem hz
  have hcan:can l.stalls (l.appls[a].wishes[k],l.appls[a].bids[k])=true:=by
   unfold can
   have e3:stallAt l.stalls l.appls[a].wishes[k]=l.stalls[st]:=by rw [hk];unfold stallAt;simp [List.getD,hst]
   simp only [e3]
   rcases Bool.or_eq_true _ _▸h2 with h | h
   ·have:decide (l.stalls[st].rule=3)=false:=by simpa using h
    rw [this];rfl
   ·have:=of_decide_eq_true h
    rw [decide_eq_false (show ¬ l.appls[a].bids[k]<l.stalls[st].least by omega),Bool.and_false];rfl
  have:canI l st a=true:=by
   show (bidOf (st:Int) (reachOf l.stalls (applAt l a))).2=true
   rw [bidOf_iff,applAt_of ha]
   exact ⟨_,List.mem_filter.mpr ⟨hm,hcan⟩,hk⟩
  rw [hc] at this
  cases this
theorem can_val (N:Nat) (hN:2≤N) {no na:Nat→Prop} {l:Letting} {vS vA:AV} {a st:Nat} {s:St} (ok:l.Ok) (ha:a<l.appls.length) (hst:st<l.stalls.length) (hL:LetAt no na s.h s.n l vS vA) (hs:s.n+300≤far) :
  call Try.prog X N (.fn 19) [.agg (letV vS vA),.int .i64 (a:Int),.int .i64 (st:Int)] s=.val (.bool (canI l st a)) s:=by
 obtain ⟨n,rfl⟩:∃ n,N=n+1:=⟨N - 1,by omega⟩
 refine call_plain' Try.func19 (fun u uh un um=>?_) rfl
 have hf:far=1000000000:=rfl
 rw [← uh,← un] at hL
 have hcv:=can_eq ok ha hst
 have hbl:=(ok.ap _ (List.getElem_mem ha)).bl
 obtain ⟨k,hidx⟩:∃ k,l.appls[a].wishes.idxOf (st:Int)=k:=⟨_,rfl⟩
 have hkl:k≤l.appls[a].wishes.length:=by rw [← hidx];exact List.idxOf_le_length
 rw [hidx] at hcv
 rw [hcv]
 obtain ⟨w,hw⟩:∃ w:St,w=u.new (.cells [vS,vA] (tag 28)):=⟨_,rfl⟩
 have wn:w.n=u.n+1:=by rw [hw];rfl
 have wm:w.m=far:=by rw [hw];exact um
 have wg:∀ c,c<u.n→w.h.get c=u.h.get c:=fun c hc=>by rw [hw,get_new_ne _ _ _ (by omega)]
 have w0:w.h.get u.n=some (.cells [vS,vA] (tag 28)):=by rw [hw];exact get_new_eq _ _ _ rfl (by omega)
 have hLw:=hL.grow wg (by omega:u.n≤w.n)
 have kA:=hLw.okV
 have kS:=hLw.okS
 obtain ⟨ww,pa,oa,ca,za,r1,r2,r3,r4,r5,r6⟩:=hLw.getA2 ha
 obtain ⟨w1,w2⟩:=ww
 simp only at r4 r5 r6
 have wl8:=(ok.ap _ (List.getElem_mem ha)).wl
 obtain ⟨ps,os,cs,zs,⟨p0,_⟩,p1,p2,p3⟩:=hLw.getS2 hst
 have c0:=cut_nth p3 (show 0<3 by omega)
 have c1:=cut_nth p3 (show 1<3 by omega)
 rw [Nat.add_zero] at c0
 have m0:nth [AV.int .i64 l.stalls[st].rule,.int .i64 l.stalls[st].least,.int .i64 l.stalls[st].heir] 0=.int .i64 l.stalls[st].rule:=rfl
 have m1:nth [AV.int .i64 l.stalls[st].rule,.int .i64 l.stalls[st].least,.int .i64 l.stalls[st].heir] 1=.int .i64 l.stalls[st].least:=rfl
 rw [m0] at c0
 rw [m1] at c1
 generalize l.appls[a]=A at *
 generalize l.stalls[st]=SR at *
 have sw1:=r5.scal
 have sw2:=r6.scal
 have k5:=r5.okA
 have k6:=r6.okA
 obtain ⟨y,hy⟩:∃ y:St,y=(w.new (.cells [.int .i64 0,.int .i64 0,.nilslice,.nilslice] (tag 37))).put w.n (.cells [.int .i64 A.years,.int .i64 A.token,w1,w2] (tag 37)):=⟨_,rfl⟩
 have yn:y.n=w.n+1:=by rw [hy];rfl
 have ym:u.n≤y.m:=by rw [hy];simp only [St.put,minN_eq,new_m];omega
 have yg:∀ c,c<w.n→y.h.get c=w.h.get c:=fun c hc=>by rw [hy,get_put_ne' _ _ _ _ (by omega),get_new_ne _ _ _ (by omega)]
 have yp:y.h.get w.n=some (.cells [.int .i64 A.years,.int .i64 A.token,w1,w2] (tag 37)):=by rw [hy];exact get_put_eq _ _ _ _ rfl (by omega)
 have y0:=(yg u.n (by omega)).trans w0
 have hWy:=r5.grow yg (by omega:w.n≤y.n)
 have hBy:=r6.grow yg (by omega:w.n≤y.n)
 have lw:=rowLen hWy.at_
 have ys:=(yg ps p0).trans p2
 have wo:=wish_ok n (by omega) (a:=.int .i64 A.years) (b:=.int .i64 A.token) (bv:=w2) (st:=(st:Int)) hWy wl8 (by omega)
 rw [hidx] at wo
 have u7:=eq3 K19r3s7.eq_1
 have u8:=eq3 K19r3s8.eq_1
 have u9:=eq3 K19r3s9.eq_1
 have u10:=eq3 K19r3s10.eq_1
 have u11:=eq3 K19r3s11.eq_1
 have u12:=eq3 K19r3s12.eq_1
 have u13:=eq3 K19r3s13.eq_1
 have u14:=eq3 K19r3s14.eq_1
 have u15:=eq3 K19r3s15.eq_1
 have u16:=eq3 K19r3s16.eq_1
 have u17:=eq3 K19r3s17.eq_1
 have u18:=eq3 K19r3s18.eq_1
 have u19:=eq3 K19r3s19.eq_1
 have u20:=eq3 K19r3s20.eq_1
 have u21:=eq3 K19r3s21.eq_1
 have u22:=eq3 K19r3s22.eq_1
 have u23:=eq3 K19r3s23.eq_1
 have u24:=eq3 K19r3s24.eq_1
 have u25:=eq3 K19r3s25.eq_1
 have u26:=eq3 K19r3s26.eq_1
 have u27:=eq3 K19r3s27.eq_1
 rw [enter19]
 simp (disch:=first|omega|(with_unfolding_all exact rfl)|(simp only[new_n,put_n,new_m];omega)|(refine put_m_le ?_;simp only[new_m];omega)) only [K19,K19r0,Abs.W,reduceIte,Nat.reduceEqDiff,Nat.reduceAdd]
 rw [← hw]
 simp (disch:=first|omega|(with_unfolding_all exact rfl)|(simp only[new_n,put_n,new_m];omega)|(refine put_m_le ?_;simp only[new_m];omega)) only [K19r1,Abs.W,reduceIte,Nat.reduceEqDiff,Nat.reduceAdd,Nat.reduceSub,w0,kA,r2,r3,r4,sw1.2.2,sw2.1,Nat.zero_add]
 rw [← hy]
 by_cases hk:k<A.wishes.length
 ·have h2:k<A.bids.length:=by omega
  obtain ⟨bb,pb,cb,zb,x1,x2,x3,x4⟩:=rowInt hBy.at_ h2
  have gd:A.bids.getD k 0=A.bids[k]:=by simp [List.getD,h2]
  rw [gd]
  have e0:decide ((k:Int)<(A.wishes.length:Int))=true:=decide_eq_true (by omega)
  have e0':decide (k<A.wishes.length)=true:=decide_eq_true hk
  by_cases hr:SR.rule=3
  ·have e1:decide (SR.rule=3)=true:=decide_eq_true hr
   by_cases hb:SR.least≤A.bids[k]
   ·have e2:decide (SR.least≤A.bids[k])=true:=decide_eq_true hb
    rw [e0',e1,e2]
    simp (config:={ maxSteps:=2000000 }) (disch:=first|omega|(with_unfolding_all exact rfl)|(simp only[new_n,put_n,new_m];omega)|(refine put_m_le ?_;simp only[new_m];omega)) only [K19r2,K19r3,u7,u8,u9,u10,u11,u12,u13,u14,u15,u16,u17,u18,u19,u20,u21,u22,u23,u24,u25,u26,u27,res19,Abs.W,reduceIte,Nat.reduceEqDiff,Nat.reduceSub,y0,yp,k5,k6,kS,lw,wo,e0,p1,ys,c0,c1,e1,x2,x3,x4,e2,Nat.zero_add,Nat.add_zero]
    exact ⟨_,rfl,ym⟩
   ·have e2:decide (SR.least≤A.bids[k])=false:=decide_eq_false hb
    rw [e0',e1,e2]
    simp (config:={ maxSteps:=2000000 }) (disch:=first|omega|(with_unfolding_all exact rfl)|(simp only[new_n,put_n,new_m];omega)|(refine put_m_le ?_;simp only[new_m];omega)) only [K19r2,K19r3,u7,u8,u9,u10,u11,u12,u13,u14,u15,u16,u17,u18,u19,u20,u21,u22,u23,u24,u25,u26,u27,res19,Abs.W,reduceIte,Nat.reduceEqDiff,Nat.reduceSub,y0,yp,k5,k6,kS,lw,wo,e0,p1,ys,c0,c1,e1,x2,x3,x4,e2,Nat.zero_add,Nat.add_zero]
    exact ⟨_,rfl,ym⟩
  ·have e1:decide (SR.rule=3)=false:=decide_eq_false hr
   rw [e0',e1]
   simp (config:={ maxSteps:=2000000 }) (disch:=first|omega|(with_unfolding_all exact rfl)|(simp only[new_n,put_n,new_m];omega)|(refine put_m_le ?_;simp only[new_m];omega)) only [K19r2,K19r3,u7,u8,u9,u10,u11,u12,u13,u14,u15,u16,u17,u18,u19,u20,u21,u22,u23,u24,u25,u26,u27,res19,Abs.W,reduceIte,Nat.reduceEqDiff,Nat.reduceSub,y0,yp,k5,kS,lw,wo,e0,p1,ys,c0,e1,Nat.zero_add,Nat.add_zero]
   exact ⟨_,rfl,ym⟩
 ·have e0:decide ((k:Int)<(A.wishes.length:Int))=false:=decide_eq_false (by omega)
  have e0':decide (k<A.wishes.length)=false:=decide_eq_false hk
  rw [e0']
  simp (config:={ maxSteps:=2000000 }) (disch:=first|omega|(with_unfolding_all exact rfl)|(simp only[new_n,put_n,new_m];omega)|(refine put_m_le ?_;simp only[new_m];omega)) only [K19r2,K19r3,u7,u8,u9,u10,u11,u12,u13,u14,u15,u16,u17,u18,u19,u20,u21,u22,u23,u24,u25,u26,u27,res19,Abs.W,reduceIte,Nat.reduceEqDiff,Nat.reduceSub,yp,k5,lw,wo,e0,Nat.zero_add]
  exact ⟨_,rfl,ym⟩
end Go.Proofs.Ythbhjgbpjlnbcaa.walk
set_option maxRecDepth 10000
namespace Go.Proofs.Ythbhjgbpjlnbcaa.walk
open Go.Abs Go.Proofs.Ythbhjgbpjlnbcaa.code
def Letting.told (l:Letting) (who:Nat) (ws bs:List Int):Letting:=⟨l.stalls,l.appls.set who ⟨(applAt l who).years,(applAt l who).token,ws,bs⟩⟩
theorem idx_ne {α:Type} [BEq α] [LawfulBEq α] {a b:α} {l:List α} (h:a≠b):(a::l).idxOf b=l.idxOf b+1:=by
 have e:(a == b)=false:=by
  cases hb:(a == b) with
  | false=>rfl
  | true=>exact absurd (eq_of_beq hb) h
 rw [List.idxOf_cons,e]
 rfl
theorem sub_mono {l' l:List Nat} (h:l'.Sublist l):l.Nodup→∀ {s t:Nat},s ∈ l'→t ∈ l'→l'.idxOf s≤l'.idxOf t→l.idxOf s≤l.idxOf t:=by
 induction h with
 | slnil=>intro _ s t hs;cases hs
 | @cons l₁ l₂ a hsub ih =>
  intro hd s t hs ht he
  obtain ⟨h1,h2⟩:=List.nodup_cons.mp hd
  have es:a≠s:=fun e=>h1 (by rw [e];exact hsub.subset hs)
  have et:a≠t:=fun e=>h1 (by rw [e];exact hsub.subset ht)
  rw [idx_ne es,idx_ne et]
  have:=ih h2 hs ht he
  omega
 | @cons_cons l₁ l₂ a hsub ih =>
  intro hd s t hs ht he
  obtain ⟨h1,h2⟩:=List.nodup_cons.mp hd
  by_cases es:a=s
  ·subst es;rw [List.idxOf_cons_self];exact Nat.zero_le _
  ·by_cases et:a=t
   ·subst et
    rw [List.idxOf_cons_self,idx_ne es] at he
    omega
   ·rw [idx_ne es,idx_ne et] at he ⊢
    have:=ih h2 ((List.mem_cons.mp hs).resolve_left (Ne.symm es)) ((List.mem_cons.mp ht).resolve_left (Ne.symm et)) (by omega)
    omega
theorem idx_nat:∀ {l:List Int},(∀ x ∈ l,0≤x)→∀ s:Nat,(l.map Int.toNat).idxOf s=l.idxOf (s:Int)
 | [],_,_=>rfl
 | x::l,h,s=>by
  have hx:=h x (List.mem_cons_self ..)
  rw [List.map_cons]
  by_cases e:x=(s:Int)
  ·rw [e,Int.toNat_natCast,List.idxOf_cons_self,List.idxOf_cons_self]
  ·rw [idx_ne (show x.toNat≠s by omega),idx_ne e,idx_nat (fun y hy=>h y (List.mem_cons_of_mem _ hy)) s]
theorem placeI_none {l:Letting} {hs:List Int} {a:Nat} (h:¬ ∃ s,holdF hs s=a):placeI l hs a=(applAt l a).wishes.length:=by
 unfold placeI
 refine if_neg fun hlt=>h ⟨hs.idxOf (a:Int),?_⟩
 unfold holdF
 have:=List.getElem_idxOf hlt
 simp [List.getD,hlt,this]
theorem placeI_some {l:Letting} {hs:List Int} {a s:Nat} (inj:∀ t,holdF hs t=a→t=s) (h:holdF hs s=a):placeI l hs a=(applAt l a).wishes.idxOf (s:Int):=by
 have hsl:s<hs.length:=by
  rcases Nat.lt_or_ge s hs.length with h2 | h2
  ·exact h2
  ·unfold holdF at h
   simp [List.getD,h2] at h
 have hm:(a:Int) ∈ hs:=by
  unfold holdF at h
  simp [List.getD,hsl] at h
  rw [← h]
  exact List.getElem_mem hsl
 have hlt:=List.idxOf_lt_length_of_mem hm
 have e:hs.idxOf (a:Int)=s:=inj _ (by
  unfold holdF
  have:=List.getElem_idxOf hlt
  simp [List.getD,hlt,this])
 unfold placeI
 rw [if_pos hlt,e]
end Go.Proofs.Ythbhjgbpjlnbcaa.walk
