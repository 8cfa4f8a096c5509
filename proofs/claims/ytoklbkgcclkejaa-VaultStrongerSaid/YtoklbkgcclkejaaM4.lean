/- Whether vaults bear a layout; vault.Loads and vault.Bears. -/
import Derived.Test.YtoklbkgcclkejaaM3
import Derived.Test.YtoklbkgcclkejaaCodes
import Derived.Test.YtoklbkgcclkejaaM1
import Derived.Test.YtoklbkgcclkejaaWalkAll
set_option linter.unusedSimpArgs false
set_option linter.unusedVariables false
set_option maxHeartbeats 16000000
set_option linter.unusedVariables false
set_option maxRecDepth 10000
namespace Go.Abs
theorem leave_two (P:Program) (a b:Nat) (L:Env) (s:St):yL P [.tmp a,.tmp b] L [] s=.val (.tup [L.find a,L.find b]) s:=rfl
end Go.Abs
namespace Go.Proofs.Ytoklbkgcclkejaa.walk
open Go.Abs Go.Proofs.Ytoklbkgcclkejaa.code
theorem may_in {H:HallR} {l:List PutR} (hv:H.Valid l):∀ q ∈ l,H.In q.c:=fun q hq=>(hv.m q hq).i
end Go.Proofs.Ytoklbkgcclkejaa.walk
set_option maxRecDepth 10000
namespace Go.Proofs.Ytoklbkgcclkejaa.walk
open Go.Abs Go.Proofs.Ytoklbkgcclkejaa.code
theorem bayOf_ok (N:Nat) (hN:1≤N) (H:HallR) (sz:H.Size) (vW vS vB vK:AV) {x y:Nat} (hx:x<H.wide) (hy:y<H.deep) (s:St) (hs:s.n+10≤far) :
  call Try.prog X N (.fn 47) [.agg (zY H vW vS vB vK),.agg [.int .i64 (x:Int),.int .i64 (y:Int)]] s=.val (.int .i64 (H.bayAt x y:Int)) s:=by
 obtain ⟨n,rfl⟩:∃ n,N=n+1:=⟨N - 1,by omega⟩
 refine zr Try.func47 (fun u uh un um=>?_) rfl
 have hf:far=1000000000:=rfl
 have hb24:=ZG sz
 have hbay:=bay_lt sz hx hy
 obtain ⟨w0,w1,d0,d1,x0,x1,z0,z1⟩:=sz
 have hbd:H.bayAt x y=y / H.bz * H.cols+x / H.bx:=rfl
 have hm24:y / H.bz * H.cols≤24:=Nat.le_trans (Nat.le_add_right _ (x / H.bx)) (by rw [← hbd];omega)
 have a1:∀ s,jK s .i64 (H.wide:Int) (H.bx:Int)=.val (.int .i64 ((H.wide:Int)+H.bx)) s:=fun s=>zd s _ _ (by omega)
 have a2:∀ s,wF s .i64 ((H.wide:Int)+H.bx) 1=.val (.int .i64 ((H.wide+H.bx - 1:Nat):Int)) s:=fun s=>by rw [yv s _ _ (by omega),show (H.wide:Int)+H.bx - 1=((H.wide+H.bx - 1:Nat):Int) by omega]
 have a3:∀ s,YZ s .i64 ((H.wide+H.bx - 1:Nat):Int) (H.bx:Int)=.val (.int .i64 (H.cols:Int)) s:=fun s=>Zy s _ _ (by omega) (by omega)
 have b1:∀ s,YZ s .i64 (y:Int) (H.bz:Int)=.val (.int .i64 ((y / H.bz:Nat):Int)) s:=fun s=>Zy s _ _ (by omega) (by omega)
 have b2:∀ s,aMul s .i64 ((y / H.bz:Nat):Int) (H.cols:Int)=.val (.int .i64 ((y / H.bz * H.cols:Nat):Int)) s:=fun s=>aMul_nat s _ _ (by omega)
 have b3:∀ s,YZ s .i64 (x:Int) (H.bx:Int)=.val (.int .i64 ((x / H.bx:Nat):Int)) s:=fun s=>Zy s _ _ (by omega) (by omega)
 have b4:∀ s,jK s .i64 ((y / H.bz * H.cols:Nat):Int) ((x / H.bx:Nat):Int)=.val (.int .i64 (H.bayAt x y:Int)) s:=fun s=>by rw [zd s _ _ (by omega),hbd];rfl
 rw [enter47]
 simp (disch:=first|omega|(with_unfolding_all exact rfl)|(simp only[zT,zW,zN];omega)|(refine zU ?_;simp only[zN];omega)) only [res47,K47r0,K47r1,K47r2,K47,Abs.W,reduceIte,Nat.reduceEqDiff,Nat.reduceAdd,Nat.reduceSub,a1,a2,a3,b1,b2,b3,b4]
 exact ⟨_,rfl,by simp only [zT,zN];omega⟩
theorem refBays_ok (N:Nat) (hN:2≤N) (H:HallR) (sz:H.Size) (vW vS vB vK:AV) (s:St) (hs:s.n+20≤far) :
  call Try.prog X N (.fn 36) [.agg (zY H vW vS vB vK)] s=.val (.int .i64 (H.bays:Int)) s:=by
 obtain ⟨n,rfl⟩:∃ n,N=n+1:=⟨N - 1,by omega⟩
 refine zr Try.func36 (fun u uh un um=>?_) rfl
 have hf:far=1000000000:=rfl
 have hb24:=ZG sz
 have hb:=bays_ref sz
 obtain ⟨w0,w1,d0,d1,x0,x1,z0,z1⟩:=id sz
 have eb:∀ s:St,s.n+10≤far→call Try.prog X n (.fn 47) [.agg (zY H vW vS vB vK),.agg [.int .i64 ((H.wide - 1:Nat):Int),.int .i64 ((H.deep - 1:Nat):Int)]] s=.val (.int .i64 (H.bayAt (H.wide - 1) (H.deep - 1):Int)) s:=fun s hs=>bayOf_ok n (by omega) H sz vW vS vB vK (by omega) (by omega) s hs
 have a1:∀ s,wF s .i64 (H.wide:Int) 1=.val (.int .i64 ((H.wide - 1:Nat):Int)) s:=fun s=>by rw [yv s _ _ (by omega),show (H.wide:Int) - 1=((H.wide - 1:Nat):Int) by omega]
 have a2:∀ s,wF s .i64 (H.deep:Int) 1=.val (.int .i64 ((H.deep - 1:Nat):Int)) s:=fun s=>by rw [yv s _ _ (by omega),show (H.deep:Int) - 1=((H.deep - 1:Nat):Int) by omega]
 have a3:∀ s,jK s .i64 (H.bayAt (H.wide - 1) (H.deep - 1):Int) 1=.val (.int .i64 (H.bays:Int)) s:=fun s=>by rw [zd s _ _ (by omega),← hb];rfl
 rw [enter36]
 simp (disch:=first|omega|(with_unfolding_all exact rfl)|(simp only[zT,zW,zN];omega)|(refine zU ?_;simp only[zN];omega)) only [res36,K36r0,K36r1,K36,Abs.W,reduceIte,Nat.reduceEqDiff,Nat.reduceAdd,Nat.reduceSub,eb,a1,a2,a3]
 exact ⟨_,rfl,by simp only [zT,zN];omega⟩
end Go.Proofs.Ytoklbkgcclkejaa.walk
set_option maxRecDepth 10000
namespace Go.Proofs.Ytoklbkgcclkejaa.walk
open Go.Abs Go.Proofs.Ytoklbkgcclkejaa.code
end Go.Proofs.Ytoklbkgcclkejaa.walk
set_option maxRecDepth 10000
namespace Go.Proofs.Ytoklbkgcclkejaa.walk
open Go.Abs Go.Proofs.Ytoklbkgcclkejaa.code
theorem KindsAt.cells {no:Nat→Prop} {h:Heap} {n:Nat} {H:HallR} {v:AV} (r:KindsAt no h n H.kinds v) {k:Nat} (hk:k<H.kinds.length):∃ (w:AV) (b p:Nat) (c:List AV) (sz:Nat),(b<n∧no b)∧(∀ s,yJ 6 s v (.int .i64 (k:Int))=.val (.ptr b p) s)∧h.get b=some (.cells c sz)∧nth c (p+2)=.bool (H.kind k).water∧nth c (p+3)=w∧nth c (p+5)=.int .i64 (H.kind k).most∧Sl no h n 1 (zo (H.kind k).away) w∧cut p 6 c=some ((H.kind k).row w):=by
 obtain ⟨w,b,p,c,sz,z1,z2,z3,z4,z5⟩:=r.get hk
 have hki:=kind_get (H:=H) hk
 rw [← hki] at z4 z5
 exact ⟨w,b,p,c,sz,z1,z2,z3,(cut_nth z4 (by omega)).trans rfl,(cut_nth z4 (by omega)).trans rfl,(cut_nth z4 (by omega)).trans rfl,z5,z4⟩
end Go.Proofs.Ytoklbkgcclkejaa.walk
set_option maxRecDepth 10000
namespace Go.Proofs.Ytoklbkgcclkejaa.walk
open Go.Abs Go.Proofs.Ytoklbkgcclkejaa.code
end Go.Proofs.Ytoklbkgcclkejaa.walk
set_option maxRecDepth 10000
namespace Go.Proofs.Ytoklbkgcclkejaa.walk
open Go.Abs Go.Proofs.Ytoklbkgcclkejaa.code
def Die (d:Nat) (h:Heap):Prop:=∃ f,h.get d=some (.cells [.int .u64 f] (tag 74))
theorem roll_ex {N d:Nat} {s:St} {r:ARes} (hr:call Try.prog X N (.fn 39) [.ptr d 0] s=r) (hN:1≤N) (hd:Die d s.h) (hlt:d<s.n) (hs:s.n+10≤far) :
  ∃ x t,r=.val (.int .u64 x) t∧Stir d s t 0∧Die d t.h∧0≤x∧x≤18446744073709551615:=by
 obtain ⟨n,rfl⟩:∃ n,N=n+1:=⟨N - 1,by omega⟩
 have hf:far=1000000000:=rfl
 obtain ⟨f,hg⟩:=hd
 obtain ⟨v,t,e,st,⟨x,rfl,x0,x1⟩,hd'⟩:=yq (n:=n) (args:=[.ptr d 0]) (d:=d) (k:=0) (Q:=fun v=>∃ x,v=.int .u64 x∧0≤x∧x≤18446744073709551615) (R:=Die d) Try.func39 ⟨f,hg⟩ (fun u uh un um=>by
  rw [← uh] at hg
  rw [enter39]
  simp (disch:=first|omega|with_unfolding_all exact rfl) only [res39,K39r0,K39r1,K39r2,K39r3,K39r4,K39r5,K39,Abs.W,reduceIte,Nat.reduceEqDiff,Nat.reduceAdd,Nat.reduceSub,hg,Nat.zero_add,ints_u64,kShr_def,shrA_u64,aAdd_def,aMul_def,aXor_def]
  refine ⟨_,_,rfl,(Stir.refl d u).put (by omega) _ (.inl rfl),rfl,⟨_,rfl,?_⟩,⟨_,zO _ _ _ _ rfl (by omega)⟩⟩
  exact xorI_range _ _) (by omega)
 exact ⟨x,t,hr.symm.trans e,st,hd',x0,x1⟩
theorem wR {N d:Nat} {n:Int} {s:St} {r:ARes} (hr:call Try.prog X N (.fn 25) [.ptr d 0,.int .i64 n] s=r) (hN:2≤N) (hd:Die d s.h) (hlt:d<s.n) (hs:s.n+100≤far) (hn:n≤4000000000) :
  ∃ x t,r=.val (.int .i64 x) t∧Stir d s t 0∧Die d t.h∧0≤x∧(x<n∨x=0):=by
 obtain ⟨m,rfl⟩:∃ m,N=m+1:=⟨N - 1,by omega⟩
 have hf:far=1000000000:=rfl
 obtain ⟨v,t,e,st,⟨x,rfl,x0,x1⟩,hd'⟩:=yq (n:=m) (args:=[.ptr d 0,.int .i64 n]) (d:=d) (k:=0) (Q:=fun v=>∃ x,v=.int .i64 x∧0≤x∧(x<n∨x=0)) (R:=Die d) Try.func25 hd (fun u uh un um=>by
  rw [← uh] at hd
  rw [enter25]
  by_cases hlow:n<2
  ·have e0:decide (n<2)=true:=by simpa using hlow
   simp (disch:=first|omega|with_unfolding_all exact rfl) only [res25,K25r0,K25r1,K25r2,K25r3,K25,Abs.W,reduceIte,Nat.reduceEqDiff,Nat.reduceAdd,Nat.reduceSub,e0]
   exact ⟨_,_,rfl,Stir.refl d u,rfl,⟨0,rfl,by omega,.inr rfl⟩,hd⟩
  ·have e0:decide (n<2)=false:=by simpa using hlow
   simp (disch:=first|omega|with_unfolding_all exact rfl) only [res25,K25r0,K25r1,K25r2,K25r3,K25,Abs.W,reduceIte,Nat.reduceEqDiff,Nat.reduceAdd,Nat.reduceSub,e0]
   generalize hc:call _ _ _ (.fn 39) _ _=r1
   obtain ⟨y,w,rfl,sw,dw,y0,y1⟩:=roll_ex hc (by omega) hd (by omega) (by omega)
   have q0:0≤shrI y 2:=shrI_nonneg _ _ y0
   have q2:0≤(shrI y 2).tmod n:=Int.tmod_nonneg _ q0
   have q3:(shrI y 2).tmod n<n:=Int.tmod_lt_of_pos _ (by omega)
   have w1:gG .u64 n=n:=wrap_u64 n (by omega)
   have w2:gG .i64 ((shrI y 2).tmod n)=(shrI y 2).tmod n:=wrap_in _ (by omega)
   have w3:∀ s,aRem s .u64 (shrI y 2) n=.val (.int .u64 ((shrI y 2).tmod n)) s:=fun s=>aRem_ne s _ _ _ (by omega)
   simp (disch:=first|omega|with_unfolding_all exact rfl) only [res25,K25r0,K25r1,K25r2,K25r3,K25,Abs.W,reduceIte,Nat.reduceEqDiff,Nat.reduceAdd,Nat.reduceSub,ints_u64,kShr_def,shrA_u64,cviA_int,w1,w2,w3]
   exact ⟨_,_,rfl,sw,rfl,⟨_,rfl,q2,.inl q3⟩,dw⟩) (by omega)
 exact ⟨x,t,hr.symm.trans e,st,hd',x0,x1⟩
theorem gC {N d:Nat} {lo hi:Int} {s:St} {r:ARes} (hr:call Try.prog X N (.fn 35) [.ptr d 0,.int .i64 lo,.int .i64 hi] s=r) (hN:3≤N) (hd:Die d s.h) (hlt:d<s.n) (hs:s.n+200≤far)
  (h0 : -100000000≤lo) (h1:lo≤100000000) (h2 : -100000000≤hi) (h3:hi≤100000000) :
  ∃ x t,r=.val (.int .i64 x) t∧Stir d s t 0∧Die d t.h∧lo≤x∧(x≤hi∨x=lo):=by
 obtain ⟨m,rfl⟩:∃ m,N=m+1:=⟨N - 1,by omega⟩
 have hf:far=1000000000:=rfl
 obtain ⟨v,t,e,st,⟨x,rfl,x0,x1⟩,hd'⟩:=yq (n:=m) (args:=[.ptr d 0,.int .i64 lo,.int .i64 hi]) (d:=d) (k:=0) (Q:=fun v=>∃ x,v=.int .i64 x∧lo≤x∧(x≤hi∨x=lo)) (R:=Die d) Try.func35 hd (fun u uh un um=>by
  rw [← uh] at hd
  have a1:∀ s,wF s .i64 hi lo=.val (.int .i64 (hi - lo)) s:=fun s=>yv s _ _ (by omega)
  have a2:∀ s,jK s .i64 (hi - lo) 1=.val (.int .i64 (hi - lo+1)) s:=fun s=>zd s _ _ (by omega)
  rw [enter35]
  simp (disch:=first|omega|with_unfolding_all exact rfl) only [res35,K35r0,K35r1,K35,Abs.W,reduceIte,Nat.reduceEqDiff,Nat.reduceAdd,Nat.reduceSub,a1,a2]
  generalize hc:call _ _ _ (.fn 25) _ _=r1
  obtain ⟨y,w,rfl,sw,dw,y0,y1⟩:=wR hc (by omega) hd (by omega) (by omega) (by omega)
  have a3:∀ s,jK s .i64 lo y=.val (.int .i64 (lo+y)) s:=fun s=>zd s _ _ (by omega)
  simp (disch:=first|omega|with_unfolding_all exact rfl) only [res35,K35r0,K35r1,K35,Abs.W,reduceIte,Nat.reduceEqDiff,Nat.reduceAdd,Nat.reduceSub,a3]
  exact ⟨_,_,rfl,sw,rfl,⟨_,rfl,by omega,by omega⟩,dw⟩) (by omega)
 exact ⟨x,t,hr.symm.trans e,st,hd',x0,x1⟩
theorem nth_ints:∀ {l:List Int} {i:Nat},i<l.length→∃ x ∈ l,nth (l.map fun x=>AV.int .i64 x) i=.int .i64 x
 | [],i,h=>by simp at h
 | a::l,0,_=>⟨a,List.mem_cons_self ..,rfl⟩
 | a::l,i+1,h=>by
  obtain ⟨x,hx,e⟩:=nth_ints (l:=l) (i:=i) (by simpa using h)
  exact ⟨x,List.mem_cons_of_mem _ hx,e⟩
theorem one_ex {N d b:Nat} {k sz:Nat} (l:List Int) {s:St} {r:ARes} (hr:call Try.prog X N (.fn 34) [.ptr d 0,.slice b 0 k k false] s=r) (hN:3≤N) (hd:Die d s.h) (hlt:d<s.n) (hs:s.n+200≤far)
  (hb:s.h.get b=some (.cells (l.map fun x=>AV.int .i64 x) sz)) (hbn:b<s.n) (hbd:b≠d) (hl:l.length=k) (h0:0<k) (hk:k≤1000) :
  ∃ x t,r=.val (.int .i64 x) t∧Stir d s t 0∧Die d t.h∧x ∈ l:=by
 obtain ⟨m,rfl⟩:∃ m,N=m+1:=⟨N - 1,by omega⟩
 have hf:far=1000000000:=rfl
 obtain ⟨v,t,e,st,⟨x,rfl,hx⟩,hd'⟩:=yq (n:=m) (args:=[.ptr d 0,.slice b 0 k k false]) (d:=d) (k:=0) (Q:=fun v=>∃ x,v=.int .i64 x∧x ∈ l) (R:=Die d) Try.func34 hd (fun u uh un um=>by
  rw [← uh] at hd hb
  have e0:decide ((k:Int)=0)=false:=by simp;omega
  rw [enter34]
  simp (disch:=first|omega|with_unfolding_all exact rfl) only [res34,K34r0,K34r1,K34r2,K34r3,K34,Abs.W,reduceIte,Nat.reduceEqDiff,Nat.reduceAdd,Nat.reduceSub,e0]
  generalize hc:call _ _ _ (.fn 25) _ _=r1
  obtain ⟨y,w,rfl,sw,dw,y0,y1⟩:=wR hc (by omega) hd (by omega) (by omega) (by omega)
  obtain ⟨i,rfl⟩:∃ i:Nat,y=i:=⟨y.toNat,by omega⟩
  have hi:i<k:=by omega
  obtain ⟨x,hx,hn⟩:=nth_ints (l:=l) (i:=i) (by omega)
  have hg:w.h.get b=some (.cells (l.map fun x=>AV.int .i64 x) sz):=by rw [sw.same b (by omega) hbd];exact hb
  simp (disch:=first|omega|with_unfolding_all exact rfl) only [res34,K34r0,K34r1,K34r2,K34r3,K34,Abs.W,reduceIte,Nat.reduceEqDiff,Nat.reduceAdd,Nat.reduceSub,yI _ _ _ _ _ _ _ _ hi,Nat.mul_one,Nat.zero_add,hg,hn]
  exact ⟨_,_,rfl,sw,rfl,⟨x,rfl,hx⟩,dw⟩) (by omega)
 exact ⟨x,t,hr.symm.trans e,st,hd',hx⟩
theorem span_ex {N d:Nat} {lo hi:Int} {s:St} {r:ARes} (hr:call Try.prog X N (.fn 41) [.ptr d 0,.int .i64 lo,.int .i64 hi] s=r) (hN:4≤N) (hd:Die d s.h) (hlt:d<s.n) (hs:s.n+300≤far)
  (h0 : -1000000≤lo) (h1:lo≤hi) (h2:hi≤1000000) :
  ∃ a b t,r=.val (.agg [.int .i64 a,.int .i64 b]) t∧Stir d s t 2∧Die d t.h∧lo≤a∧a≤b∧b≤hi:=by
 obtain ⟨m,rfl⟩:∃ m,N=m+1:=⟨N - 1,by omega⟩
 have hf:far=1000000000:=rfl
 obtain ⟨v,t,e,st,⟨a,b,rfl,x0,x1,x2⟩,hd'⟩:=yq (n:=m) (args:=[.ptr d 0,.int .i64 lo,.int .i64 hi]) (d:=d) (k:=2) (Q:=fun v=>∃ a b,v=.agg [.int .i64 a,.int .i64 b]∧lo≤a∧a≤b∧b≤hi) (R:=Die d) Try.func41 hd (fun u uh un um=>by
  rw [← uh] at hd
  have sh:yG Try.prog 44=some (some 2):=by kernel_rfl
  rw [enter41]
  simp (disch:=first|omega|with_unfolding_all exact rfl) only [res41,K41r0,K41r1,K41r2,K41r3,K41,Abs.W,reduceIte,Nat.reduceEqDiff,Nat.reduceAdd,Nat.reduceSub]
  generalize hc:call _ _ _ (.fn 35) _ _=r1
  obtain ⟨x,w,rfl,sw,dw,y0,y1⟩:=gC hc (by omega) (by obtain ⟨f,hg⟩:=hd;exact ⟨f,by rw [zG _ _ _ (by omega)];exact hg⟩) (by simp only [zT];omega) (by simp only [zT];omega) (by omega) (by omega) (by omega) (by omega)
  have wn:=sw.n
  have wl:=sw.le
  simp only [zT] at wn wl
  have a1:∀ s,jK s .i64 x 4=.val (.int .i64 (x+4)) s:=fun s=>zd s _ _ (by omega)
  simp (disch:=first|omega|with_unfolding_all exact rfl) only [res41,K41r0,K41r1,K41r2,K41r3,K41,Abs.W,reduceIte,Nat.reduceEqDiff,Nat.reduceAdd,Nat.reduceSub,a1,kFold_def,foldA_nil,YP,minA_i64]
  generalize hc2:call _ _ _ (.fn 34) _ _=r2
  obtain ⟨y,w2,rfl,sw2,dw2,ym⟩:=one_ex [x,min hi (x+4),hi] hc2 (by omega) (by obtain ⟨f,hg⟩:=dw;exact ⟨f,by rw [zG _ _ _ (by omega)];exact hg⟩) (by simp only [zT];omega) (by simp only [zT];omega) (zM _ _ _ rfl (by omega)) (by simp only [zT];omega) (by omega) rfl (by omega) (by omega)
  have wn2:=sw2.n
  have wl2:=sw2.le
  simp only [zT] at wn2 wl2
  have ym':x≤y∧y≤hi:=by
   simp only [List.mem_cons,List.not_mem_nil,or_false] at ym
   omega
  simp (disch:=first|omega|with_unfolding_all exact rfl) only [res41,K41r0,K41r1,K41r2,K41r3,K41,Abs.W,reduceIte,Nat.reduceEqDiff,Nat.reduceAdd,Nat.reduceSub]
  generalize hc3:call _ _ _ (.fn 35) _ _=r3
  obtain ⟨z,w3,rfl,sw3,dw3,z0,z1⟩:=gC hc3 (by omega) dw2 (by omega) (by omega) (by omega) (by omega) (by omega) (by omega)
  have wn3:=sw3.n
  have wl3:=sw3.le
  have g:w3.h.get u.n=some (.cells [.int .i64 0,.int .i64 0] (tag 44)):=by
   rw [sw3.same _ (by omega) (by omega),sw2.same _ (by simp only [zT];omega) (by omega),zG _ _ _ (by omega),sw.same _ (by simp only [zT];omega) (by omega)]
   exact zM _ _ _ rfl (by omega)
  simp (disch:=first|omega|with_unfolding_all exact rfl) only [res41,K41r0,K41r1,K41r2,K41r3,K41,Abs.W,reduceIte,Nat.reduceEqDiff,Nat.reduceAdd,Nat.reduceSub,g]
  have S1:Stir d u w3 2:=((((((Stir.refl d u).new _).trans sw).new _).trans sw2).trans sw3)
  refine ⟨_,_,leave_cell _ _ _ _ sh ?_,S1.put (by omega) _ (.inr (Nat.le_refl _)),rfl,⟨x,z,rfl,by omega,by omega,by omega⟩,?_⟩
  ·simp (disch:=first|omega|with_unfolding_all exact rfl) only [Abs.W,reduceIte,Nat.reduceEqDiff,Nat.reduceAdd,Nat.reduceSub]
  ·obtain ⟨f,hg⟩:=dw3
   exact ⟨f,by rw [zI _ _ _ _ (by omega)];exact hg⟩) (by omega)
 exact ⟨a,b,t,hr.symm.trans e,st,hd',x0,x1,x2⟩
end Go.Proofs.Ytoklbkgcclkejaa.walk
