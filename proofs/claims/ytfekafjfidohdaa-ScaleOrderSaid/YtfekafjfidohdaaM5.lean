/- Several lists that grow, each in a block of its own. -/
import Derived.Test.YtfekafjfidohdaaM3
import Derived.Test.YtfekafjfidohdaaM2
import Derived.Test.YtfekafjfidohdaaM1
import Derived.Test.YtfekafjfidohdaaCodes
import Derived.Test.YtfekafjfidohdaaWalkAll
set_option linter.unusedSimpArgs false
set_option maxHeartbeats 16000000
set_option linter.unusedVariables false
set_option maxRecDepth 10000
namespace Go.Abs
structure IsAt (h:Heap) (n b w tg:Nat) (rows:List (List AV)) (v:AV):Prop where
 wide:∀ r ∈ rows,r.length=w
 is:(rows=[]∧v=.nilslice)∨(rows≠[]∧b<n∧v=.slice b 0 rows.length rows.length true∧h.get b=some (.cells rows.flatten (w+tg)))
theorem IsAt.nil (h:Heap) (n b w tg:Nat):IsAt h n b w tg [] .nilslice:=⟨fun _ hr=>(by cases hr),.inl ⟨rfl,rfl⟩⟩
theorem IsAt.mono {h h':Heap} {n n' b w tg:Nat} {rows:List (List AV)} {v:AV} (r:IsAt h n b w tg rows v) (hh:b<n→h'.get b=h.get b) (hn:n≤n'):IsAt h' n' b w tg rows v :=
 ⟨r.wide,r.is.imp id fun ⟨h1,h2,h3,h4⟩=>⟨h1,by omega,h3,by rw [hh h2];exact h4⟩⟩
theorem IsAt.rows {h:Heap} {n b w tg:Nat} {rows:List (List AV)} {v:AV} (r:IsAt h n b w tg rows v):Rows h 0 n w tg rows v :=
 ⟨r.wide,r.is.imp id fun ⟨_,h2,h3,h4⟩=>⟨b,Nat.zero_le _,h2,h3,h4⟩⟩
theorem IsAt.okA {h:Heap} {n b w tg:Nat} {rows:List (List AV)} {v:AV} (r:IsAt h n b w tg rows v) (t:St):Abs.okA (.val v t)=.val v t:=okA_ne r.rows.at_.ne
theorem IsAt.scal {h:Heap} {n b w tg:Nat} {rows:List (List AV)} {v:AV} (r:IsAt h n b w tg rows v):scalars [v]=true∧cellsOf 1 v=some [v]:=by
 rcases r.is with ⟨_,h2⟩ | ⟨_,_,h3,_⟩
 ·subst h2;exact ⟨rfl,rfl⟩
 ·subst h3;exact ⟨rfl,rfl⟩
theorem IsAt.apart {h:Heap} {n b w tg c o:Nat} {rows:List (List AV)} {v:AV} (r:IsAt h n b w tg rows v) (hc:b≠c):apartA v (.ptr c o)=true:=by
 rcases r.is with ⟨_,h2⟩ | ⟨_,_,h3,_⟩
 ·subst h2;rfl
 ·subst h3;exact apart_slice hc
theorem IsAt.keptV {h h' h'':Heap} {n b w tg:Nat} {rows:List (List AV)} {v:AV} (r:IsAt h n b w tg rows v) (hh:b<n→h''.get b=h'.get b) (h1:b<n→h'.get b=h.get b):Abs.keptV h' h'' v=true:=by
 rcases r.is with ⟨_,h2⟩ | ⟨_,h2,h3,h4⟩
 ·subst h2;exact keptV_nils _ _
 ·subst h3;rw [keptV_slice,hh h2,h1 h2,h4,sameO_cells]
theorem apart_ptr {b c o p:Nat} (h:b≠c):apartA (.ptr b o) (.ptr c p)=true:=by
 unfold apartA
 simp [blockOf,nbeq_f h]
theorem append_at {s:St} {b w bytes tg:Nat} {rows:List (List AV)} {v:AV} (r:IsAt s.h s.n b w tg rows v) {p sz:Nat} {row:List AV} (hp:s.h.get p=some (.cells row sz)) (hw:row.length=w) (hsc:scalars row=true)
  (hb:(rows.length+1) * bytes≤1000000) (htg:szOf (w+tg)=w) (hs:s.n<549755813888) :
  ∃ s',appendA false w bytes tg s v (.slice p 0 1 1 false)=.val (.slice s.n 0 (rows.length+1) (rows.length+1) true) s'∧IsAt s'.h s'.n s.n w tg (rows++[row]) (.slice s.n 0 (rows.length+1) (rows.length+1) true)∧s'.n=s.n+1∧(∀ c,c<s.n→c≠b→s'.h.get c=s.h.get c)∧(∀ k,k≤b→k≤s.n→k≤s.m→k≤s'.m)∧s'.m≤s.m:=by
 rcases r.is with ⟨h1,h2⟩ | ⟨h1,h2,h3,h4⟩
 ·obtain ⟨v',s',e1,e2,e3,e4,e5,e6,e7,e8⟩:=append_row (lo:=s.n) (bytes:=bytes) (⟨r.wide,.inl ⟨h1,h2⟩⟩:Rows s.h s.n s.n w tg rows v) hp hw hsc hb htg hs (Nat.le_refl _)
  subst e8
  refine ⟨s',e1,⟨e2.wide,.inr ⟨by simp,by omega,by simp,?_⟩⟩,e3,fun c hc _=>e4 c hc,fun k _ hk hm=>e6 k hk hm,e7⟩
  rcases e2.is with ⟨z,_⟩ | ⟨b',_,_,z2,z3⟩
  ·simp at z
  ·injection z2 with z2
   rw [z2];exact z3
 ·obtain ⟨v',s',e1,e2,e3,e4,e5,e6,e7,e8⟩:=append_row (lo:=b) (bytes:=bytes) (⟨r.wide,.inr ⟨b,Nat.le_refl _,h2,h3,h4⟩⟩:Rows s.h b s.n w tg rows v) hp hw hsc hb htg hs (by omega)
  subst e8
  refine ⟨s',e1,⟨e2.wide,.inr ⟨by simp,by omega,by simp,?_⟩⟩,e3,fun c hc hcb=>e5 c hc (by rw [h3];intro z;injection z with z;exact hcb z.symm),fun k hk _ hm=>e6 k hk hm,e7⟩
  rcases e2.is with ⟨z,_⟩ | ⟨b',_,_,z2,z3⟩
  ·simp at z
  ·injection z2 with z2
   rw [z2];exact z3
def upd {α:Type} (f:Nat→α) (i:Nat) (x:α) (j:Nat):α:=if j=i then x else f j
theorem upd_at {α:Type} (f:Nat→α) (i:Nat) (x:α):upd f i x i=x:=if_pos rfl
theorem upd_ne {α:Type} (f:Nat→α) (i:Nat) (x:α) {j:Nat} (h:j≠i):upd f i x j=f j:=if_neg h
structure Lists (h:Heap) (n lo:Nat) (W T:Nat→Nat) (R:Nat→List (List AV)) (bs:Nat→Nat) (vs:Nat→AV):Prop where
 at_:∀ i,IsAt h n (bs i) (W i) (T i) (R i) (vs i)
 ne:∀ i j,i≠j→bs i≠bs j
 lo:∀ i,lo≤bs i
 far:∀ i,bs i<n∨Abs.far<bs i
theorem Lists.mono {h h':Heap} {n n' lo:Nat} {W T:Nat→Nat} {R:Nat→List (List AV)} {bs:Nat→Nat} {vs:Nat→AV} (l:Lists h n lo W T R bs vs) (hh:∀ i,bs i<n→h'.get (bs i)=h.get (bs i)) (hn:n≤n'):Lists h' n' lo W T R bs vs :=
 ⟨fun i=>(l.at_ i).mono (hh i) hn,l.ne,l.lo,fun i=>(l.far i).imp (fun h=>by omega) id⟩
theorem Lists.push {s:St} {lo:Nat} {W T:Nat→Nat} {R:Nat→List (List AV)} {bs:Nat→Nat} {vs:Nat→AV} (l:Lists s.h s.n lo W T R bs vs) (i:Nat) {p sz bytes:Nat} {row:List AV} (hp:s.h.get p=some (.cells row sz)) (hw:row.length=W i) (hsc:scalars row=true)
  (hb:((R i).length+1) * bytes≤1000000) (htg:szOf (W i+T i)=W i) (hs:s.n+10≤Abs.far) (hlo:lo≤s.n) :
  ∃ s' v',appendA false (W i) bytes (T i) s (vs i) (.slice p 0 1 1 false)=.val v' s'∧Lists s'.h s'.n lo W T (upd R i (R i++[row])) (upd bs i s.n) (upd vs i v')∧s'.n=s.n+1∧(∀ c,c<s.n→c≠bs i→s'.h.get c=s.h.get c)∧(∀ k,k≤lo→k≤s.m→k≤s'.m)∧s'.m≤s.m:=by
 have hf:Abs.far=1000000000:=rfl
 obtain ⟨s',e1,e2,e3,e4,e5,e6⟩:=append_at (bytes:=bytes) (l.at_ i) hp hw hsc hb htg (by omega)
 have hln:=l.lo i
 refine ⟨s',_,e1,⟨fun j=>?_,fun j k hjk=>?_,fun j=>?_,fun j=>?_⟩,e3,e4,fun k hk hm=>e5 k (by omega) (by omega) hm,e6⟩
 ·by_cases h:j=i
  ·subst h;simp only [upd_at];exact e2
  ·simp only [upd_ne _ _ _ h]
   exact (l.at_ j).mono (fun hj=>e4 _ hj (l.ne j i h)) (by omega)
 ·have hn:∀ j,bs j≠s.n:=fun j=>by rcases l.far j with h | h<;>omega
  by_cases h:j=i
  ·have h':k≠i:=fun e=>hjk (h.trans e.symm)
   subst h
   rw [upd_at,upd_ne _ _ _ h']
   exact fun e=>hn k e.symm
  ·by_cases h':k=i
   ·subst h'
    rw [upd_at,upd_ne _ _ _ h]
    exact hn j
   ·rw [upd_ne _ _ _ h,upd_ne _ _ _ h']
    exact l.ne j k hjk
 ·by_cases h:j=i
  ·subst h;rw [upd_at];exact hlo
  ·rw [upd_ne _ _ _ h];exact l.lo j
 ·by_cases h:j=i
  ·subst h;rw [upd_at];exact .inl (by omega)
  ·rw [upd_ne _ _ _ h];exact (l.far j).imp (fun h=>by omega) id
end Go.Abs
namespace Go.Proofs.Ytfekafjfidohdaa.walk
open Go.Abs Go.Proofs.Ytfekafjfidohdaa.code
theorem Die.new {d:Nat} {s:St} (h:Die d s.h) (hd:d<s.n) (o:AObj):Die d (s.new o).h:=by obtain ⟨f,hf⟩:=h;exact ⟨f,by rw [get_new_ne _ _ _ (by omega)];exact hf⟩
theorem Die.put {d b:Nat} {s:St} (h:Die d s.h) (hd:d≠b) (o:AObj):Die d (s.put b o).h:=by obtain ⟨f,hf⟩:=h;exact ⟨f,by rw [get_put_ne' _ _ _ _ hd];exact hf⟩
theorem Die.keep {d:Nat} {h h':Heap} (D:Die d h) (e:h'.get d=h.get d):Die d h':=by obtain ⟨f,hf⟩:=D;exact ⟨f,by rw [e];exact hf⟩
def intRows (l:List Int):List (List AV):=l.map fun x=>[.int .i64 x]
theorem intRows_len (l:List Int):(intRows l).length=l.length:=List.length_map ..
theorem intRows_snoc (l:List Int) (x:Int):intRows (l++[x])=intRows l++[[.int .i64 x]]:=by unfold intRows;rw [List.map_append];rfl
def benchW:Nat→Nat
 | 0=>3
 | 1=>4
 | 2=>4
 | 3=>4
 | _=>1
def benchT:Nat→Nat
 | 0=>tag 52
 | 1=>tag 56
 | 2=>tag 71
 | 3=>tag 58
 | 4=>tag 3
 | _=>tag 22
def benchR (b:Bench) (offs:List Int) (rv:List AV):Nat→List (List AV)
 | 0=>b.ms.map Mass.cells
 | 1=>b.ws.map Weigh.cells
 | 2=>b.ss.map Scl.cells
 | 3=>b.ts.map Trial.cells
 | 4=>intRows offs
 | 5=>rv.map fun v=>[v]
 | _=>[]
structure Made (h:Heap) (n d p13 p14 lo:Nat) (b:Bench) (offs:List Int) (errs:List (List Int)) (rv:List AV) (xs:List Nat) (bs:Nat→Nat) (vs:Nat→AV):Prop where
 die:Die d h
 g13:h.get p13=some (.cells [vs 0,vs 1,vs 2,vs 3,.int .i64 b.days] (tag 30))
 g14:h.get p14=some (.cells [vs 4,vs 5] (tag 33))
 ls:Lists h n lo benchW benchT (benchR b offs rv) bs vs
 el:rv.length=errs.length
 xl:xs.length=errs.length
 er:∀ j (h1:j<rv.length) (h2:j<errs.length) (h3:j<xs.length),Blk h n xs[j] 1 (tag 3) (intRows errs[j]) rv[j]
 xo:∀ x ∈ xs,lo≤x∧∀ i,bs i≠x
 pl:d<p13∧p13<p14∧p14<lo∧lo≤n
structure Goes (u t:St) (d p13 p14 lo k:Nat):Prop where
 same:∀ c,c<lo→c≠d→c≠p13→c≠p14→t.h.get c=u.h.get c
 n:u.n≤t.n
 le:t.n≤u.n+k
 m:d≤u.m→d≤t.m
 mle:t.m≤u.m
theorem Goes.refl (u:St) (d p13 p14 lo:Nat):Goes u u d p13 p14 lo 0:=⟨fun _ _ _ _ _=>rfl,Nat.le_refl _,Nat.le_refl _,fun h=>h,Nat.le_refl _⟩
theorem Goes.trans {u s t:St} {d p13 p14 lo j k:Nat} (a:Goes u s d p13 p14 lo j) (b:Goes s t d p13 p14 lo k):Goes u t d p13 p14 lo (j+k) :=
 ⟨fun c h1 h2 h3 h4=>(b.same c h1 h2 h3 h4).trans (a.same c h1 h2 h3 h4),Nat.le_trans a.n b.n,by have:=a.le;have:=b.le;omega,fun h=>b.m (a.m h),Nat.le_trans b.mle a.mle⟩
theorem Goes.mono {u t:St} {d p13 p14 lo j k:Nat} (a:Goes u t d p13 p14 lo j) (h:j≤k):Goes u t d p13 p14 lo k:=⟨a.same,a.n,by have:=a.le;omega,a.m,a.mle⟩
end Go.Proofs.Ytfekafjfidohdaa.walk
set_option maxRecDepth 10000
namespace Go.Proofs.Ytfekafjfidohdaa.walk
open Go.Abs Go.Proofs.Ytfekafjfidohdaa.code
theorem Made.keep {h h':Heap} {n n' d p13 p14 lo:Nat} {b:Bench} {offs:List Int} {errs:List (List Int)} {rv:List AV} {xs:List Nat} {bs:Nat→Nat} {vs:Nat→AV} (m:Made h n d p13 p14 lo b offs errs rv xs bs vs) (D:Die d h') (hh:∀ c,c<n→c≠d→h'.get c=h.get c) (hn:n≤n'):Made h' n' d p13 p14 lo b offs errs rv xs bs vs:=by
 obtain ⟨m1,m2,m3,m4,m5,m6,m7,m8,m9⟩:=m
 have hd:∀ c,lo≤c→c≠d:=fun c hc=>by omega
 refine ⟨D,by rw [hh _ (by omega) (by omega)];exact m2,by rw [hh _ (by omega) (by omega)];exact m3,m4.mono (fun i hi=>hh _ hi (hd _ (m4.lo i))) hn,m5,m6,fun j h1 h2 h3=>?_,m8,by omega⟩
 have k1:=m7 j h1 h2 h3
 exact k1.mono (hh _ k1.lt (hd _ (m8 _ (List.getElem_mem h3)).1)) hn
theorem Made.keep' {h h':Heap} {n n' d p13 p14 lo q:Nat} {b:Bench} {offs:List Int} {errs:List (List Int)} {rv:List AV} {xs:List Nat} {bs:Nat→Nat} {vs:Nat→AV} (m:Made h n d p13 p14 lo b offs errs rv xs bs vs) (D:Die d h') (hh:∀ c,c<n→c≠d→c≠q→h'.get c=h.get c) (hn:n≤n') (hq:lo≤q∧(∀ i,bs i≠q)∧∀ x ∈ xs,x≠q):Made h' n' d p13 p14 lo b offs errs rv xs bs vs:=by
 obtain ⟨m1,m2,m3,m4,m5,m6,m7,m8,m9⟩:=m
 have hd:∀ c,lo≤c→c≠d:=fun c hc=>by omega
 refine ⟨D,by rw [hh _ (by omega) (by omega) (by omega)];exact m2,by rw [hh _ (by omega) (by omega) (by omega)];exact m3,m4.mono (fun i hi=>hh _ hi (hd _ (m4.lo i)) (hq.2.1 i)) hn,m5,m6,fun j h1 h2 h3=>?_,m8,by omega⟩
 have k1:=m7 j h1 h2 h3
 exact k1.mono (hh _ k1.lt (hd _ (m8 _ (List.getElem_mem h3)).1) (hq.2.2 _ (List.getElem_mem h3))) hn
theorem made_mass (N:Nat) (hN:6≤N) (cx:Ctx) {d p13 p14 lo i:Nat} {b:Bench} {offs:List Int} {errs:List (List Int)} {rv:List AV} {xs:List Nat} {bs:Nat→Nat} {vs:Nat→AV} {L:Env} {s:St} (hi:0<i) (hi6:i≤10) (hs:s.n+2000≤far)
  (hM:Made s.h s.n d p13 p14 lo b offs errs rv xs bs vs) (hbl:b.ms.length≤10) (hol:offs.length≤10) (l0:L.find 0=.ptr d 0) (l13:L.find 13=.ptr p13 0) (l14:L.find 14=.ptr p14 0) (l15:L.find 15=.int .i64 i) :
  ∃ L1 s1 M x bs1 vs1,K7l0 (call Try.prog X N) cx L [] s=.done .norm L1 [] s1∧(∀ t,t=0∨t=2∨t=3∨t=10∨t=11∨t=12∨t=13∨t=14→L1.find t=L.find t)∧L1.find 15=.int .i64 ((i:Int) - 1)∧M.Ok∧(M.lo≤x∧x≤M.hi ∧ -20≤x∧x≤20) ∧
   Made s1.h s1.n d p13 p14 lo { b with ms:=b.ms++[M] } (offs++[x]) errs rv xs bs1 vs1∧Goes s s1 d p13 p14 lo 30:=by
 have hf:far=1000000000:=rfl
 have e0:decide ((0:Int)<(i:Int))=true:=by simp;omega
 obtain ⟨pd,pp,plo,pn⟩:=hM.pl
 have hd:=hM.die
 simp (disch:=first|omega|(with_unfolding_all exact rfl)|(simp only[new_n,put_n,new_m];omega)|(refine put_m_le ?_;simp only[new_m];omega)) only [res7,K7r0,K7r1,K7r2,K7r3,K7r4,K7r5,K7r6,K7r7,K7r8,K7r9,K7l0,K7r10,K7r11,K7r12,K7r13,K7r14,K7r15,K7r16,K7r17,K7l1,K7r18,K7r19,K7l2,K7r20,K7r21s7,K7r21s6,K7r21s5,K7r21s4,K7r21,K7r22,K7r23,K7r24,K7r25,K7r26,K7l3,K7r27,K7r28,K7r29,K7r30,K7r31,K7r32,K7l4,K7r33,K7r34s7,K7r34s6,K7r34,K7r35,K7r36,K7r37,K7r38,K7,Abs.W,reduceIte,Nat.reduceEqDiff,Nat.reduceAdd,decide_true,decide_false,kLoop_def,Nat.reduceSub,List.cons_append,List.nil_append,List.append_nil,List.length_cons,List.length_nil,Env.find_set,l0,l13,l14,l15,e0]
 generalize hc1:call _ _ _ (.fn 22) _ _=r1
 obtain ⟨x1,t1,rfl,st1,d1,m1⟩:=one_ex [3,20] hc1 (by omega) (hd.new (by omega) _) (by simp only [new_n];omega) (by simp only [new_n];omega) (get_new_eq _ _ _ rfl (by omega)) (by simp only [new_n];omega) (by omega) rfl (by omega) (by omega)
 have x1r:x1=3∨x1=20:=by simpa using m1
 have n1:s.n+1≤t1.n:=st1.n
 have k1:t1.n≤s.n+1:=st1.le
 have ng:∀ s,negA s (.int .i64 x1)=.val (.int .i64 (-x1)) s:=fun s=>neg_i64 s _ (by omega)
 simp (disch:=first|omega|(with_unfolding_all exact rfl)|(simp only[new_n,put_n,new_m];omega)|(refine put_m_le ?_;simp only[new_m];omega)) only [res7,K7r0,K7r1,K7r2,K7r3,K7r4,K7r5,K7r6,K7r7,K7r8,K7r9,K7l0,K7r10,K7r11,K7r12,K7r13,K7r14,K7r15,K7r16,K7r17,K7l1,K7r18,K7r19,K7l2,K7r20,K7r21s7,K7r21s6,K7r21s5,K7r21s4,K7r21,K7r22,K7r23,K7r24,K7r25,K7r26,K7l3,K7r27,K7r28,K7r29,K7r30,K7r31,K7r32,K7l4,K7r33,K7r34s7,K7r34s6,K7r34,K7r35,K7r36,K7r37,K7r38,K7,Abs.W,reduceIte,Nat.reduceEqDiff,Nat.reduceAdd,decide_true,decide_false,kLoop_def,Nat.reduceSub,List.cons_append,List.nil_append,List.append_nil,List.length_cons,List.length_nil,Env.find_set,l0,l13,l14,l15,ng]
 generalize hc2:call _ _ _ (.fn 22) _ _=r2
 obtain ⟨x2,t2,rfl,st2,d2,m2⟩:=one_ex [3,20] hc2 (by omega) (d1.new (by omega) _) (by simp only [new_n];omega) (by simp only [new_n];omega) (get_new_eq _ _ _ rfl (by omega)) (by simp only [new_n];omega) (by omega) rfl (by omega) (by omega)
 have x2r:x2=3∨x2=20:=by simpa using m2
 have n2:t1.n+1≤t2.n:=st2.n
 have k2:t2.n≤t1.n+1:=st2.le
 simp (disch:=first|omega|(with_unfolding_all exact rfl)|(simp only[new_n,put_n,new_m];omega)|(refine put_m_le ?_;simp only[new_m];omega)) only [res7,K7r0,K7r1,K7r2,K7r3,K7r4,K7r5,K7r6,K7r7,K7r8,K7r9,K7l0,K7r10,K7r11,K7r12,K7r13,K7r14,K7r15,K7r16,K7r17,K7l1,K7r18,K7r19,K7l2,K7r20,K7r21s7,K7r21s6,K7r21s5,K7r21s4,K7r21,K7r22,K7r23,K7r24,K7r25,K7r26,K7l3,K7r27,K7r28,K7r29,K7r30,K7r31,K7r32,K7l4,K7r33,K7r34s7,K7r34s6,K7r34,K7r35,K7r36,K7r37,K7r38,K7,Abs.W,reduceIte,Nat.reduceEqDiff,Nat.reduceAdd,decide_true,decide_false,kLoop_def,Nat.reduceSub,List.cons_append,List.nil_append,List.append_nil,List.length_cons,List.length_nil,Env.find_set,l0,l13,l14,l15]
 generalize hc3:call _ _ _ (.fn 21) _ _=r3
 obtain ⟨a,c,t3,rfl,st3,d3,a0,a1,a2⟩:=span_ex hc3 (by omega) d2 (by omega) (by omega) (by omega) (by omega) (by omega)
 have n3:t2.n≤t3.n:=st3.n
 have k3:t3.n≤t2.n+2:=st3.le
 simp (disch:=first|omega|(with_unfolding_all exact rfl)|(simp only[new_n,put_n,new_m];omega)|(refine put_m_le ?_;simp only[new_m];omega)) only [res7,K7r0,K7r1,K7r2,K7r3,K7r4,K7r5,K7r6,K7r7,K7r8,K7r9,K7l0,K7r10,K7r11,K7r12,K7r13,K7r14,K7r15,K7r16,K7r17,K7l1,K7r18,K7r19,K7l2,K7r20,K7r21s7,K7r21s6,K7r21s5,K7r21s4,K7r21,K7r22,K7r23,K7r24,K7r25,K7r26,K7l3,K7r27,K7r28,K7r29,K7r30,K7r31,K7r32,K7l4,K7r33,K7r34s7,K7r34s6,K7r34,K7r35,K7r36,K7r37,K7r38,K7,Abs.W,reduceIte,Nat.reduceEqDiff,Nat.reduceAdd,decide_true,decide_false,kLoop_def,Nat.reduceSub,List.cons_append,List.nil_append,List.append_nil,List.length_cons,List.length_nil,Env.find_set,l0,l13,l14,l15,Nat.zero_add]
 obtain ⟨y,hy⟩:∃ y:St,y=(t3.new (.cells [.int .i64 0,.int .i64 0] (tag 43))).put t3.n (.cells [.int .i64 a,.int .i64 c] (tag 43)):=⟨_,rfl⟩
 rw [← hy]
 have yn:y.n=t3.n+1:=by rw [hy];rfl
 have ym:y.m=min t3.m t3.n:=by rw [hy];simp only [St.put,minN_eq,new_m]
 have yg:∀ c,c≠t3.n→y.h.get c=t3.h.get c:=fun c hc=>by rw [hy,get_put_ne' _ _ _ _ hc,get_new_ne _ _ _ hc]
 have yp:y.h.get t3.n=some (.cells [.int .i64 a,.int .i64 c] (tag 43)):=by rw [hy];exact get_put_eq _ _ _ _ rfl (by omega)
 have dy:Die d y.h:=d3.keep (yg _ (by omega))
 generalize hc4:call _ _ _ (.fn 23) _ _=r4
 obtain ⟨q,t4,rfl,st4,d4⟩:=once_ex hc4 (by omega) dy (by omega) (by omega) (by omega)
 have n4:y.n≤t4.n:=st4.n
 have k4:t4.n≤y.n:=st4.le
 -- behind the choice
 have hch:∃ (z:St) (oa ob:Int),condK (.bool q) (kRegion K7r7 []) kSkip (call Try.prog X N) cx (((L.set 38 (.bool true)).set 16 (.ptr t3.n 0)).set 51 (.bool q)) [] t4=.done .norm (((L.set 38 (.bool true)).set 16 (.ptr t3.n 0)).set 51 (.bool q)) [] z∧z.n=t4.n∧(∀ c,c≠t3.n→z.h.get c=t4.h.get c)∧z.h.get t3.n=some (.cells [.int .i64 oa,.int .i64 ob] (tag 43)) ∧ -20≤oa∧oa≤ob∧ob≤20∧(d≤t4.m→d≤z.m)∧z.m≤t4.m:=by
  have p4:=(st4.same t3.n (by omega) (by omega)).trans yp
  cases q with
  | true =>
   refine ⟨t4.put t3.n (.cells [.int .i64 0,.int .i64 0] (tag 43)),0,0,?_,rfl,fun c hc=>get_put_ne' _ _ _ _ hc,get_put_eq _ _ _ _ rfl (by omega),by omega,by omega,by omega,fun h=>?_,?_⟩
   ·simp (disch:=first|omega|(with_unfolding_all exact rfl)|(simp only[new_n,put_n,new_m];omega)|(refine put_m_le ?_;simp only[new_m];omega)) only [K7r7,Abs.W,reduceIte,Nat.reduceEqDiff,Nat.reduceAdd,decide_true,decide_false,kLoop_def,Nat.reduceSub,List.cons_append,List.nil_append,List.append_nil,List.length_cons,List.length_nil,Env.find_set,p4]
   ·simp only [St.put,minN_eq];omega
   ·simp only [St.put,minN_eq];omega
  | false =>
   refine ⟨t4,a,c,?_,rfl,fun _ _=>rfl,p4,by omega,by omega,by omega,fun h=>h,Nat.le_refl _⟩
   simp (disch:=first|omega|(with_unfolding_all exact rfl)|(simp only[new_n,put_n,new_m];omega)|(refine put_m_le ?_;simp only[new_m];omega)) only [K7r7,Abs.W,reduceIte,Nat.reduceEqDiff,Nat.reduceAdd,decide_true,decide_false,kLoop_def,Nat.reduceSub,List.cons_append,List.nil_append,List.append_nil,List.length_cons,List.length_nil,Env.find_set]
 obtain ⟨z,oa,ob,hch,zn,zg,zp,o0,o1,o2,zm,zml⟩:=hch
 simp only [K7r7] at hch
 simp (disch:=first|omega|(with_unfolding_all exact rfl)|(simp only[new_n,put_n,new_m];omega)|(refine put_m_le ?_;simp only[new_m];omega)) only [Abs.W,reduceIte,Nat.reduceEqDiff,Nat.reduceAdd,decide_true,decide_false,kLoop_def,Nat.reduceSub,List.cons_append,List.nil_append,List.append_nil,List.length_cons,List.length_nil,Env.find_set]
 rw [hch]
 have hMz:Made z.h z.n d p13 p14 lo b offs errs rv xs bs vs:=by
  refine hM.keep ?_ (fun c hc hcd=>?_) (by omega)
  ·exact d4.keep (zg _ (by omega))
  ·rw [zg c (by omega),st4.same c (by omega) hcd,yg c (by omega),st3.same c (by omega) hcd,st2.same c (by simp only [new_n];omega) hcd,get_new_ne _ _ _ (by omega),st1.same c (by simp only [new_n];omega) hcd,get_new_ne _ _ _ (by omega)]
 obtain ⟨dz,z13,z14,lz,el,xl,er,xo,_⟩:=hMz
 have okm:=(lz.at_ 0).okA
 have oko:=(lz.at_ 4).okA
 simp (disch:=first|omega|(with_unfolding_all exact rfl)|(simp only[new_n,put_n,new_m];omega)|(refine put_m_le ?_;simp only[new_m];omega)) only [res7,K7r0,K7r1,K7r2,K7r3,K7r4,K7r5,K7r6,K7r7,K7r8,K7r9,K7l0,K7r10,K7r11,K7r12,K7r13,K7r14,K7r15,K7r16,K7r17,K7l1,K7r18,K7r19,K7l2,K7r20,K7r21s7,K7r21s6,K7r21s5,K7r21s4,K7r21,K7r22,K7r23,K7r24,K7r25,K7r26,K7l3,K7r27,K7r28,K7r29,K7r30,K7r31,K7r32,K7l4,K7r33,K7r34s7,K7r34s6,K7r34,K7r35,K7r36,K7r37,K7r38,K7,Abs.W,reduceIte,Nat.reduceEqDiff,Nat.reduceAdd,decide_true,decide_false,kLoop_def,Nat.reduceSub,List.cons_append,List.nil_append,List.append_nil,List.length_cons,List.length_nil,Env.find_set,l0,l13,l14,l15,z13,z14,zp,okm,oko,Nat.zero_add]
 have bsf:∀ j,bs j<s.n∨far<bs j:=hM.ls.far
 have bsl:∀ j,lo≤bs j:=hM.ls.lo
 obtain ⟨y2,hy2⟩:∃ y2:St,y2=z.new (.cells [.int .i64 5,.int .i64 500,.int .i64 1000] 0):=⟨_,rfl⟩
 rw [← hy2]
 have y2n:y2.n=z.n+1:=by rw [hy2];rfl
 have y2m:y2.m=z.m:=by rw [hy2];rfl
 have y2g:∀ c,c<z.n→y2.h.get c=z.h.get c:=fun c hc=>by rw [hy2,get_new_ne _ _ _ (by omega)]
 have y2p:y2.h.get z.n=some (.cells ([5,500,1000].map fun x=>AV.int .i64 x) 0):=by rw [hy2];exact get_new_eq _ _ _ rfl (by omega)
 generalize hc5:call _ _ _ (.fn 22) _ _=r5
 obtain ⟨nom,t5,rfl,st5,d5,m5⟩:=one_ex [5,500,1000] hc5 (by omega) (dz.keep (y2g d (by omega))) (by show d<y2.n;omega) (by show y2.n+200≤far;omega) y2p (by show z.n<y2.n;omega) (by omega) rfl (by omega) (by omega)
 have nomr:nom=5∨nom=500∨nom=1000:=by simpa using m5
 have n5:y2.n≤t5.n:=st5.n
 have k5:t5.n≤y2.n:=st5.le
 have g5:∀ c,c<z.n→c≠d→t5.h.get c=z.h.get c:=fun c hc hcd=>(st5.same c (by show c<y2.n;omega) hcd).trans (y2g c hc)
 have p5:=(g5 t3.n (by omega) (by omega)).trans zp
 simp (disch:=first|omega|(with_unfolding_all exact rfl)|(simp only[new_n,put_n,new_m];omega)|(refine put_m_le ?_;simp only[new_m];omega)) only [thenT_turn,Abs.W,reduceIte,Nat.reduceEqDiff,Nat.reduceAdd,decide_true,decide_false,kLoop_def,Nat.reduceSub,List.cons_append,List.nil_append,List.append_nil,List.length_cons,List.length_nil,Env.find_set,p5,Nat.zero_add]
 obtain ⟨y6,hy6⟩:∃ y6:St,y6=(⟨t5.h,t5.n,minN y2.m t5.m⟩:St).new (.cells [.int .i64 nom,.int .i64 oa,.int .i64 ob] 0):=⟨_,rfl⟩
 rw [← hy6]
 have y6n:y6.n=t5.n+1:=by rw [hy6];rfl
 have y6m:y6.m=min y2.m t5.m:=by rw [hy6];simp only [St.new,minN_eq]
 have y6g:∀ c,c<t5.n→y6.h.get c=t5.h.get c:=fun c hc=>by rw [hy6];exact get_new_ne _ _ _ (by show c≠t5.n;omega)
 have y6p:y6.h.get t5.n=some (.cells [.int .i64 nom,.int .i64 oa,.int .i64 ob] 0):=by rw [hy6];exact get_new_eq _ _ _ rfl (by show t5.n<_;omega)
 have l6:Lists y6.h y6.n lo benchW benchT (benchR b offs rv) bs vs:=lz.mono (fun j hj=>(y6g _ (by omega)).trans (g5 _ hj (by have:=bsl j;omega))) (by omega)
 obtain ⟨s7,v7,e7,l7,s7n,s7g,s7m,s7l⟩:=l6.push 0 (bytes:=24) y6p rfl rfl (by show ((b.ms.map Mass.cells).length+1) * 24≤1000000;rw [List.length_map];omega) (by kernel_rfl) (by omega) (by omega)
 have e7':appendA false 3 24 (tag 52) y6 (vs 0) (.slice t5.n 0 1 1 false)=.val v7 s7:=e7
 have n0:∀ c,c<lo→c≠bs 0:=fun c hc=>by have:=bsl 0;omega
 have g7:∀ c,c<z.n→c≠d→c≠bs 0→s7.h.get c=z.h.get c:=fun c h1 h2 h3=>(s7g c (by omega) h3).trans ((y6g c (by omega)).trans (g5 c h1 h2))
 have g714:=(g7 p14 (by omega) (by omega) (n0 _ (by omega))).trans z14
 have t3b:t3.n≠bs 0:=by have:=bsf 0;omega
 have g716:=(g7 t3.n (by omega) (by omega) t3b).trans zp
 simp (disch:=first|omega|(with_unfolding_all exact rfl)|(simp only[new_n,put_n,new_m];omega)|(refine put_m_le ?_;simp only[new_m];omega)) only [Abs.W,reduceIte,Nat.reduceEqDiff,Nat.reduceAdd,decide_true,decide_false,kLoop_def,Nat.reduceSub,List.cons_append,List.nil_append,List.append_nil,List.length_cons,List.length_nil,Env.find_set,e7',l14,g714,oko,l0,g716,Nat.zero_add]
 generalize hc8:call _ _ _ (.fn 24) _ _=r8
 have d7:Die d s7.h:=d5.keep ((s7g d (by omega) (n0 _ (by omega))).trans (y6g d (by omega)))
 obtain ⟨x,t8,rfl,st8,d8,x0,x1'⟩:=true_ex hc8 (by omega) d7 (by show d<s7.n;omega) (by show s7.n+600≤far;omega) (by omega) (by omega) (by omega)
 have n8:s7.n≤t8.n:=st8.n
 have k8:t8.n≤s7.n+3:=st8.le
 have g8:∀ c,c<s7.n→c≠d→t8.h.get c=s7.h.get c:=fun c hc hcd=>st8.same c hc hcd
 simp (disch:=first|omega|(with_unfolding_all exact rfl)|(simp only[new_n,put_n,new_m];omega)|(refine put_m_le ?_;simp only[new_m];omega)) only [thenT_turn,Abs.W,reduceIte,Nat.reduceEqDiff,Nat.reduceAdd,decide_true,decide_false,kLoop_def,Nat.reduceSub,List.cons_append,List.nil_append,List.append_nil,List.length_cons,List.length_nil,Env.find_set,Nat.zero_add]
 obtain ⟨y9,hy9⟩:∃ y9:St,y9=(⟨t8.h,t8.n,minN s7.m t8.m⟩:St).new (.cells [.int .i64 x] 0):=⟨_,rfl⟩
 rw [← hy9]
 have y9n:y9.n=t8.n+1:=by rw [hy9];rfl
 have y9m:y9.m=min s7.m t8.m:=by rw [hy9];simp only [St.new,minN_eq]
 have y9g:∀ c,c<t8.n→y9.h.get c=t8.h.get c:=fun c hc=>by rw [hy9];exact get_new_ne _ _ _ (by show c≠t8.n;omega)
 have y9p:y9.h.get t8.n=some (.cells [.int .i64 x] 0):=by rw [hy9];exact get_new_eq _ _ _ rfl (by show t8.n<_;omega)
 have l9:=l7.mono (h':=y9.h) (n':=y9.n) (fun j hj=>(y9g _ (by omega)).trans (g8 _ hj (by have:=l7.lo j;omega))) (by omega)
 obtain ⟨s10,v10,e10,l10,s10n,s10g,s10m,s10l⟩:=l9.push 4 (bytes:=8) y9p rfl rfl (by rw [upd_ne _ _ _ (by omega)];show ((intRows offs).length+1) * 8≤1000000;rw [intRows_len];omega) (by kernel_rfl) (by omega) (by omega)
 rw [upd_ne _ _ _ (by omega)] at e10
 have e10':appendA false 1 8 (tag 3) y9 (vs 4) (.slice t8.n 0 1 1 false)=.val v10 s10:=e10
 have hb4:upd bs 0 y6.n 4=bs 4:=upd_ne _ _ _ (by omega)
 rw [hb4] at s10g
 have n4':∀ c,c<lo→c≠bs 4:=fun c hc=>by have:=bsl 4;omega
 have g10:∀ c,c<z.n→c≠d→c≠bs 0→c≠bs 4→s10.h.get c=z.h.get c:=fun c h1 h2 h3 h4=>(s10g c (by omega) h4).trans ((y9g c (by omega)).trans ((g8 c (by omega) h2).trans (g7 c h1 h2 h3)))
 have q13:=(g10 p13 (by omega) (by omega) (n0 _ (by omega)) (n4' _ (by omega))).trans z13
 have q14:=(g10 p14 (by omega) (by omega) (n0 _ (by omega)) (n4' _ (by omega))).trans z14
 have sc7:=(l10.at_ 0).scal
 rw [upd_ne _ _ _ (by omega),upd_at] at sc7
 have sc10:=(l10.at_ 4).scal
 rw [upd_at] at sc10
 obtain ⟨sc71,sc72⟩:=sc7
 obtain ⟨sc101,sc102⟩:=sc10
 have asb:∀ s,aSub s .i64 (i:Int) 1=.val (.int .i64 ((i:Int) - 1)) s:=fun s=>aSub_i64 s _ _ (by omega)
 simp (disch:=first|omega|(with_unfolding_all exact rfl)|(simp only[new_n,put_n,new_m];omega)|(refine put_m_le ?_;simp only[new_m];omega)) only [Abs.W,reduceIte,Nat.reduceEqDiff,Nat.reduceAdd,decide_true,decide_false,kLoop_def,Nat.reduceSub,List.cons_append,List.nil_append,List.append_nil,List.length_cons,List.length_nil,Env.find_set,e10',l13,l14,q13,q14,sc71,sc72,sc101,sc102,Nat.zero_add]
 rw [endT_kept (l:=[62]) (s':=t8) (by simp only [keptAll_cons,keptAll_nil,find_cons,keptV_ptr,g714,g8 p14 (by omega) (by omega),sameO_cells,reduceIte,Nat.reduceEqDiff,Bool.and_self])]
 rw [endT_kept (l:=[53,16,62,16]) (s':=t5) (by simp only [keptAll_cons,keptAll_nil,find_cons,Env.find_set,keptV_ptr,y2g p13 (by omega),y2g p14 (by omega),y2g t3.n (by omega),g5 p13 (by omega) (by omega),g5 p14 (by omega) (by omega),g5 t3.n (by omega) (by omega),z13,z14,zp,sameO_cells,reduceIte,Nat.reduceEqDiff,Bool.and_self])]
 rw [endO_ok _ (by
  rw [endOk_cons,endOk_cons,endOk_nil]
  all_goals
   simp only [find_cons,Env.find_set,reduceIte,Nat.reduceEqDiff]
   first
    | exact (lz.at_ 0).apart (fun e=>n0 p14 (by omega) e.symm)
    | exact (lz.at_ 0).apart (fun e=>t3b e.symm))]
 simp (disch:=first|omega|(with_unfolding_all exact rfl)|(simp only[new_n,put_n,new_m];omega)|(refine put_m_le ?_;simp only[new_m];omega)) only [res7,K7r0,K7r1,K7r2,K7r3,K7r4,K7r5,K7r6,K7r7,K7r8,K7r9,K7l0,K7r10,K7r11,K7r12,K7r13,K7r14,K7r15,K7r16,K7r17,K7l1,K7r18,K7r19,K7l2,K7r20,K7r21s7,K7r21s6,K7r21s5,K7r21s4,K7r21,K7r22,K7r23,K7r24,K7r25,K7r26,K7l3,K7r27,K7r28,K7r29,K7r30,K7r31,K7r32,K7l4,K7r33,K7r34s7,K7r34s6,K7r34,K7r35,K7r36,K7r37,K7r38,K7,Abs.W,reduceIte,Nat.reduceEqDiff,Nat.reduceAdd,decide_true,decide_false,kLoop_def,Nat.reduceSub,List.cons_append,List.nil_append,List.append_nil,List.length_cons,List.length_nil,Env.find_set,l15,asb]
 generalize hsf:St.put (St.put s10 _ _) _ _=sf
 have sfn:sf.n=s10.n:=by rw [← hsf];rfl
 have sfm:sf.m=min (min s10.m p13) p14:=by rw [← hsf];simp only [St.put,minN_eq]
 have sfg:∀ c,c≠p13→c≠p14→sf.h.get c=s10.h.get c:=fun c h1 h2=>by rw [← hsf,get_put_ne' _ _ _ _ h2,get_put_ne' _ _ _ _ h1]
 have sf13:sf.h.get p13=some (.cells [v7,vs 1,vs 2,vs 3,.int .i64 b.days] (tag 30)):=by rw [← hsf,get_put_ne' _ _ _ _ (by omega)];exact get_put_eq _ _ _ _ rfl (by omega)
 have sf14:sf.h.get p14=some (.cells [v10,vs 5] (tag 33)):=by rw [← hsf];exact get_put_eq _ _ _ _ rfl (by omega)
 have dsf:Die d sf.h:=d8.keep ((sfg d (by omega) (by omega)).trans ((s10g d (by omega) (n4' _ (by omega))).trans (y9g d (by omega))))
 have xlt:∀ j (h:j<xs.length),xs[j]<z.n:=fun j h=>(er j (by omega) (by omega) h).lt
 obtain ⟨M,hMd⟩:∃ M:Mass,M=⟨nom,oa,ob⟩:=⟨_,rfl⟩
 have hMc:M.cells=[.int .i64 nom,.int .i64 oa,.int .i64 ob]:=by rw [hMd];rfl
 have hfun:upd (upd (benchR b offs rv) 0 (benchR b offs rv 0++[[.int .i64 nom,.int .i64 oa,.int .i64 ob]])) 4 (upd (benchR b offs rv) 0 (benchR b offs rv 0++[[.int .i64 nom,.int .i64 oa,.int .i64 ob]]) 4++[[.int .i64 x]])=benchR { b with ms:=b.ms++[M] } (offs++[x]) rv:=by
  funext j
  match j with
  | 0 =>
   show b.ms.map Mass.cells++[_]=(b.ms++[M]).map Mass.cells
   rw [List.map_append,List.map_cons,List.map_nil,hMc]
  | 1=>rfl
  | 2=>rfl
  | 3=>rfl
  | 4 =>
   show intRows offs++[_]=intRows (offs++[x])
   rw [intRows_snoc]
  | 5=>rfl
  | n+6=>rfl
 rw [hfun] at l10
 refine ⟨_,sf,M,x,_,_,rfl,fun t ht=>?_,?_,?_,?_,⟨dsf,?_,?_,l10.mono (fun j hj=>sfg _ (by have:=l10.lo j;omega) (by have:=l10.lo j;omega)) (by omega),el,xl,fun j h1 h2 h3=>?_,fun c hc=>⟨(xo c hc).1,fun j=>?_⟩,⟨pd,pp,plo,by omega⟩⟩,⟨fun c h1 h2 h3 h4=>?_,by omega,by omega,fun h=>?_,?_⟩⟩
 ·rcases ht with rfl | rfl | rfl | rfl | rfl | rfl | rfl | rfl<;>simp only [Env.find_set,reduceIte,Nat.reduceEqDiff]
 ·simp only [Env.find_set,reduceIte,Nat.reduceEqDiff]
 ·rw [hMd];exact ⟨by simp only;omega,by simp only;omega,by simp only;omega,o1,by simp only;omega⟩
 ·rw [hMd];exact ⟨x0,x1',by omega,by omega⟩
 ·rw [upd_ne _ _ _ (by omega),upd_at,upd_ne _ _ _ (by omega),upd_ne _ _ _ (by omega),upd_ne _ _ _ (by omega),upd_ne _ _ _ (by omega),upd_ne _ _ _ (by omega),upd_ne _ _ _ (by omega)];exact sf13
 ·rw [upd_at,upd_ne _ _ _ (by omega),upd_ne _ _ _ (by omega)];exact sf14
 ·have w1:=er j h1 h2 h3
  have w3:=xo _ (List.getElem_mem h3)
  exact w1.mono ((sfg _ (by omega) (by omega)).trans (g10 _ w1.lt (by omega) (fun e=>w3.2 0 e.symm) (fun e=>w3.2 4 e.symm))) (by omega)
 ·obtain ⟨k,hk,rfl⟩:=List.getElem_of_mem hc
  have:=xlt k hk
  unfold upd
  split
  ·omega
  ·split
   ·omega
   ·exact (xo _ hc).2 j
 ·have b0:=n0 c h1
  have b4:=n4' c h1
  rw [sfg c h3 h4,g10 c (by omega) h2 b0 b4,zg c (by omega),st4.same c (by omega) h2,yg c (by omega),st3.same c (by omega) h2,st2.same c (by simp only [new_n];omega) h2,get_new_ne _ _ _ (by omega),st1.same c (by simp only [new_n];omega) h2,get_new_ne _ _ _ (by omega)]
 ·have a1:=st1.m (by rw [new_m];exact h)
  have a2:=st2.m (by rw [new_m];exact a1)
  have a3:=st3.m a2
  have a4:=st4.m (by omega)
  have a5:=zm a4
  have a6:=st5.m (by show d≤far;omega)
  have a7:=s7m d (by omega) (by omega)
  have a8:=st8.m (by show d≤far;omega)
  have a9:=s10m d (by omega) (by omega)
  omega
 ·have a1:t1.m≤s.m:=st1.mle
  have a2:t2.m≤t1.m:=st2.mle
  have a3:=st3.mle
  have a4:=st4.mle
  omega
end Go.Proofs.Ytfekafjfidohdaa.walk
set_option maxRecDepth 10000
namespace Go.Abs
theorem loop_start {b:K} {n:Nat} {cl:CallF} {cx:Ctx} {L:Env} {d:List Nat} {s:St} {r:R} (h:loopN b n cl cx L d s=r):∃ w L0,w=s∧L0=L∧loopN b n cl cx L0 d w=r:=⟨s,L,rfl,rfl,h⟩
end Go.Abs
namespace Go.Proofs.Ytfekafjfidohdaa.walk
open Go.Abs Go.Proofs.Ytfekafjfidohdaa.code
structure RowOf (S:Scl) (k:Nat) (l:List Int):Prop where
 len:l.length=k+1
 first:S.fl≤l.getD 0 0∧l.getD 0 0≤S.fh
 drift:∀ j,j<k→S.dl≤l.getD (j+1) 0 - l.getD j 0∧l.getD (j+1) 0 - l.getD j 0≤S.dh
 small:∀ j,j≤k → -(10+3 * (j:Int))≤l.getD j 0∧l.getD j 0≤10+3 * (j:Int)
theorem getD_front {l:List Int} {x:Int} {j:Nat} (h:j<l.length):(l++[x]).getD j 0=l.getD j 0:=by simp [List.getD,List.getElem?_append_left h]
theorem getD_back {l:List Int} {x:Int}:(l++[x]).getD l.length 0=x:=by simp [List.getD]
theorem RowOf.step {S:Scl} {k:Nat} {l:List Int} (r:RowOf S k l) {x:Int} (h:S.dl≤x∧x≤S.dh) (hd : -3≤S.dl∧S.dh≤3):RowOf S (k+1) (l++[l.getD k 0+x]):=by
 obtain ⟨r1,r2,r3,r4⟩:=r
 have e:(l++[l.getD k 0+x]).getD (k+1) 0=l.getD k 0+x:=by
  have:=getD_back (l:=l) (x:=l.getD k 0+x)
  rw [r1] at this;exact this
 refine ⟨by rw [List.length_append,r1];rfl,by rw [getD_front (by omega)];exact r2,fun j hj=>?_,fun j hj=>?_⟩
 ·by_cases hjk:j<k
  ·rw [getD_front (by omega),getD_front (by omega)];exact r3 j hjk
  ·obtain rfl:j=k:=by omega
   rw [e,getD_front (by omega)]
   omega
 ·by_cases hjk:j≤k
  ·rw [getD_front (by omega)];exact r4 j hjk
  ·obtain rfl:j=k+1:=by omega
   have:=r4 k (Nat.le_refl _)
   rw [e]
   omega
theorem made_day (N:Nat) (hN:6≤N) (cx:Ctx) {d p13 p14 lo px bl k:Nat} {b:Bench} {offs:List Int} {errs:List (List Int)} {rv:List AV} {xs:List Nat} {bs:Nat→Nat} {vs:Nat→AV} {L:Env} {s:St} {S:Scl} {l:List Int} {v:AV} (hk:k<b.days) (hdy:b.days≤8) (hs:s.n+2000≤far)
  (hM:Made s.h s.n d p13 p14 lo b offs errs rv xs bs vs) (hl:Blk s.h s.n bl 1 (tag 3) (intRows l) v) (hr:RowOf S k l) (hS : -3≤S.dl∧S.dl≤S.dh∧S.dh≤3) (hb:lo≤bl∧(∀ i,bs i≠bl)∧∀ x ∈ xs,x≠bl) (gx:s.h.get px=some (.cells S.cells (tag 71))) (hx:lo≤px∧px<s.n∧px≠bl)
  (l0:L.find 0=.ptr d 0) (l13:L.find 13=.ptr p13 0) (l18:L.find 18=.ptr px 0) (l19:L.find 19=v) (l20:L.find 20=.int .i64 k) :
  ∃ L1 s1 x bl1 v1,K7l1 (call Try.prog X N) cx L [] s=.done .norm L1 [] s1∧(∀ t,t=0∨t=2∨t=3∨t=10∨t=11∨t=12∨t=13∨t=14∨t=17∨t=18→L1.find t=L.find t)∧L1.find 19=v1∧L1.find 20=.int .i64 ((k+1:Nat):Int)∧RowOf S (k+1) (l++[x]) ∧
   Blk s1.h s1.n bl1 1 (tag 3) (intRows (l++[x])) v1∧s.n≤bl1∧Made s1.h s1.n d p13 p14 lo b offs errs rv xs bs vs∧Goes s s1 d p13 p14 lo 10∧s1.h.get px=some (.cells S.cells (tag 71)):=by
 have hf:far=1000000000:=rfl
 obtain ⟨pd,pp,plo,pn⟩:=hM.pl
 have dd:=hM.die
 have g13:=hM.g13
 have e0:decide ((k:Int)<(b.days:Int))=true:=decide_eq_true (by omega)
 have lln:(intRows l).length=k+1:=by rw [intRows_len,hr.len]
 have hi:=fun s=>hl.ixs (i:=k) (by omega) s
 obtain ⟨sz,hg⟩:=hl.get
 have hc:=hl.cut (i:=k) (by omega)
 have hlk:(intRows l)[k]'(by omega)=[.int .i64 (l.getD k 0)]:=by
  have:k<l.length:=by rw [hr.len];omega
  simp [intRows,List.getD,this]
 rw [hlk] at hc
 have hn:=cut1_nth hc
 have hvo:=hl.okA
 have hbn:=hl.lt
 have gx':=gx
 unfold Scl.cells at gx'
 simp (disch:=first|omega|(with_unfolding_all exact rfl)|(simp only[new_n,put_n,new_m];omega)|(refine put_m_le ?_;simp only[new_m];omega)) only [res7,K7r0,K7r1,K7r2,K7r3,K7r4,K7r5,K7r6,K7r7,K7r8,K7r9,K7l0,K7r10,K7r11,K7r12,K7r13,K7r14,K7r15,K7r16,K7r17,K7l1,K7r18,K7r19,K7l2,K7r20,K7r21s7,K7r21s6,K7r21s5,K7r21s4,K7r21,K7r22,K7r23,K7r24,K7r25,K7r26,K7l3,K7r27,K7r28,K7r29,K7r30,K7r31,K7r32,K7l4,K7r33,K7r34s7,K7r34s6,K7r34,K7r35,K7r36,K7r37,K7r38,K7,Abs.W,reduceIte,Nat.reduceEqDiff,Nat.reduceAdd,decide_true,decide_false,kLoop_def,Nat.reduceSub,List.cons_append,List.nil_append,List.append_nil,List.length_cons,List.length_nil,Env.find_set,l0,l13,l18,l19,l20,g13,e0,hi,hg,hn,hvo,gx',Nat.zero_add]
 generalize hc1:call _ _ _ (.fn 24) _ _=r1
 obtain ⟨x,t1,rfl,st1,d1,x0,x1⟩:=true_ex hc1 (by omega) dd (by show d<s.n;omega) (by show s.n+600≤far;omega) (by omega) (by omega) (by omega)
 have n1:s.n≤t1.n:=st1.n
 have k1:t1.n≤s.n+3:=st1.le
 have g1:∀ c,c<s.n→c≠d→t1.h.get c=s.h.get c:=fun c hc hcd=>st1.same c hc hcd
 have hsm:=hr.small k (Nat.le_refl _)
 have ad:∀ s,aAdd s .i64 (l.getD k 0) x=.val (.int .i64 (l.getD k 0+x)) s:=fun s=>aAdd_i64 s _ _ (by omega)
 have ad1:∀ s,aAdd s .i64 (k:Int) 1=.val (.int .i64 ((k:Int)+1)) s:=fun s=>aAdd_i64 s _ _ (by omega)
 simp (disch:=first|omega|(with_unfolding_all exact rfl)|(simp only[new_n,put_n,new_m];omega)|(refine put_m_le ?_;simp only[new_m];omega)) only [thenT_turn,Abs.W,reduceIte,Nat.reduceEqDiff,Nat.reduceAdd,decide_true,decide_false,kLoop_def,Nat.reduceSub,List.cons_append,List.nil_append,List.append_nil,List.length_cons,List.length_nil,Env.find_set,l0,l13,l18,l19,l20,ad,Nat.zero_add]
 obtain ⟨y,hy⟩:∃ y:St,y=(⟨t1.h,t1.n,minN s.m t1.m⟩:St).new (.cells [.int .i64 (l.getD k 0+x)] 0):=⟨_,rfl⟩
 rw [← hy]
 have yn:y.n=t1.n+1:=by rw [hy];rfl
 have ym:y.m=min s.m t1.m:=by rw [hy];simp only [St.new,minN_eq]
 have yg:∀ c,c<t1.n→y.h.get c=t1.h.get c:=fun c hc=>by rw [hy];exact get_new_ne _ _ _ (by show c≠t1.n;omega)
 have yp:y.h.get t1.n=some (.cells [.int .i64 (l.getD k 0+x)] 0):=by rw [hy];exact get_new_eq _ _ _ rfl (by show t1.n<_;omega)
 have hly:Blk y.h y.n bl 1 (tag 3) (intRows l) v:=hl.mono ((yg _ (by omega)).trans (g1 _ hbn (by omega))) (by omega)
 obtain ⟨s2,e2,B2,s2n,s2g,s2m,s2l⟩:=append_blk (bytes:=8) hly yp rfl rfl (by rw [lln];omega) (by kernel_rfl) (by omega)
 rw [lln] at e2 B2
 have e2':appendA false 1 8 (tag 3) y v (.slice t1.n 0 1 1 false)=.val (.slice y.n 0 (k+1+1) (k+1+1) true) s2:=e2
 simp (disch:=first|omega|(with_unfolding_all exact rfl)|(simp only[new_n,put_n,new_m];omega)|(refine put_m_le ?_;simp only[new_m];omega)) only [Abs.W,reduceIte,Nat.reduceEqDiff,Nat.reduceAdd,decide_true,decide_false,kLoop_def,Nat.reduceSub,List.cons_append,List.nil_append,List.append_nil,List.length_cons,List.length_nil,Env.find_set,e2',Nat.zero_add]
 rw [endT_kept (l:=[107]) (s':=t1) (by simp only [keptAll_cons,keptAll_nil,find_cons,Env.find_set,keptV_ptr,hg,g1 bl hbn (by omega),sameO_cells,reduceIte,Nat.reduceEqDiff,Bool.and_self])]
 simp (disch:=first|omega|(with_unfolding_all exact rfl)|(simp only[new_n,put_n,new_m];omega)|(refine put_m_le ?_;simp only[new_m];omega)) only [res7,K7r0,K7r1,K7r2,K7r3,K7r4,K7r5,K7r6,K7r7,K7r8,K7r9,K7l0,K7r10,K7r11,K7r12,K7r13,K7r14,K7r15,K7r16,K7r17,K7l1,K7r18,K7r19,K7l2,K7r20,K7r21s7,K7r21s6,K7r21s5,K7r21s4,K7r21,K7r22,K7r23,K7r24,K7r25,K7r26,K7l3,K7r27,K7r28,K7r29,K7r30,K7r31,K7r32,K7l4,K7r33,K7r34s7,K7r34s6,K7r34,K7r35,K7r36,K7r37,K7r38,K7,Abs.W,reduceIte,Nat.reduceEqDiff,Nat.reduceAdd,decide_true,decide_false,kLoop_def,Nat.reduceSub,List.cons_append,List.nil_append,List.append_nil,List.length_cons,List.length_nil,Env.find_set,l20,ad1]
 have fr:∀ c,c<s.n→c≠d→c≠bl→s2.h.get c=s.h.get c:=fun c h1 h2 h3=>(s2g c (by omega) h3).trans ((yg c (by omega)).trans (g1 c h1 h2))
 refine ⟨_,s2,l.getD k 0+x,y.n,.slice y.n 0 (k+1+1) (k+1+1) true,rfl,fun t ht=>?_,?_,?_,hr.step ⟨x0,x1⟩ ⟨hS.1,hS.2.2⟩,?_,by omega,hM.keep' ?_ fr (by omega) hb,⟨fun c h1 h2 h3 h4=>?_,by omega,by omega,fun h=>?_,?_⟩,?_⟩
 ·rcases ht with rfl | rfl | rfl | rfl | rfl | rfl | rfl | rfl | rfl | rfl<;>simp only [Env.find_set,reduceIte,Nat.reduceEqDiff]
 ·simp only [Env.find_set,reduceIte,Nat.reduceEqDiff]
 ·simp only [Env.find_set,reduceIte,Nat.reduceEqDiff];rfl
 ·rw [intRows_snoc];exact B2
 ·exact d1.keep ((s2g d (by omega) (by omega)).trans (yg d (by omega)))
 ·exact fr c (by omega) h2 (by omega)
 ·have a1:=st1.m (by show d≤far;omega)
  have a2:=s2m d (by omega) (by omega)
  omega
 ·omega
 ·exact (fr px hx.2.1 (by omega) hx.2.2).trans gx
theorem made_scale (N:Nat) (hN:6≤N) (cx:Ctx) {d p13 p14 lo i:Nat} {b:Bench} {offs:List Int} {errs:List (List Int)} {rv:List AV} {xs:List Nat} {bs:Nat→Nat} {vs:Nat→AV} {L:Env} {s:St} (hi:0<i) (hi6:i≤10) (hs:s.n+5000≤far) (hdy:b.days≤8)
  (hM:Made s.h s.n d p13 p14 lo b offs errs rv xs bs vs) (hbl:b.ss.length≤10) (hel:errs.length≤10) (l0:L.find 0=.ptr d 0) (l13:L.find 13=.ptr p13 0) (l14:L.find 14=.ptr p14 0) (l17:L.find 17=.int .i64 i) :
  ∃ L1 s1 S l rv1 xs1 bs1 vs1,K7l2 (call Try.prog X N) cx L [] s=.done .norm L1 [] s1∧(∀ t,t=0∨t=3∨t=10∨t=11∨t=12∨t=13∨t=14→L1.find t=L.find t)∧L1.find 17=.int .i64 ((i:Int) - 1)∧S.Ok∧RowOf S b.days l ∧
   Made s1.h s1.n d p13 p14 lo { b with ss:=b.ss++[S] } offs (errs++[l]) rv1 xs1 bs1 vs1∧Goes s s1 d p13 p14 lo 120:=by
 have hf:far=1000000000:=rfl
 have e0:decide ((0:Int)<(i:Int))=true:=by simp;omega
 obtain ⟨pd,pp,plo,pn⟩:=hM.pl
 have hd:=hM.die
 simp (disch:=first|omega|(with_unfolding_all exact rfl)|(simp only[new_n,put_n,new_m];omega)|(refine put_m_le ?_;simp only[new_m];omega)) only [res7,K7r0,K7r1,K7r2,K7r3,K7r4,K7r5,K7r6,K7r7,K7r8,K7r9,K7r10,K7r11,K7r12,K7r13,K7r14,K7r15,K7r16,K7r17,K7r18,K7r19,K7r20,K7r21s7,K7r21s6,K7r21s5,K7r21s4,K7r21,K7r22,K7r23,K7r24,K7r25,K7r26,K7r27,K7r28,K7r29,K7r30,K7r31,K7r32,K7r33,K7r34s7,K7r34s6,K7r34,K7r35,K7r36,K7r37,K7r38,K7,K7l2,Abs.W,reduceIte,Nat.reduceEqDiff,Nat.reduceAdd,decide_true,decide_false,kLoop_def,Nat.reduceSub,List.cons_append,List.nil_append,List.append_nil,List.length_cons,List.length_nil,Env.find_set,l0,l13,l14,l17,e0]
 generalize hc1:call _ _ _ (.fn 22) _ _=r1
 obtain ⟨x1,t1,rfl,st1,d1,m1⟩:=one_ex [2,9] hc1 (by omega) (hd.new (by omega) _) (by simp only [new_n];omega) (by simp only [new_n];omega) (get_new_eq _ _ _ rfl (by omega)) (by simp only [new_n];omega) (by omega) rfl (by omega) (by omega)
 have x1r:x1=2∨x1=9:=by simpa using m1
 have n1:s.n+1≤t1.n:=st1.n
 have k1:t1.n≤s.n+1:=st1.le
 have ng:∀ s,negA s (.int .i64 x1)=.val (.int .i64 (-x1)) s:=fun s=>neg_i64 s _ (by omega)
 simp (disch:=first|omega|(with_unfolding_all exact rfl)|(simp only[new_n,put_n,new_m];omega)|(refine put_m_le ?_;simp only[new_m];omega)) only [res7,K7r0,K7r1,K7r2,K7r3,K7r4,K7r5,K7r6,K7r7,K7r8,K7r9,K7r10,K7r11,K7r12,K7r13,K7r14,K7r15,K7r16,K7r17,K7r18,K7r19,K7r20,K7r21s7,K7r21s6,K7r21s5,K7r21s4,K7r21,K7r22,K7r23,K7r24,K7r25,K7r26,K7r27,K7r28,K7r29,K7r30,K7r31,K7r32,K7r33,K7r34s7,K7r34s6,K7r34,K7r35,K7r36,K7r37,K7r38,K7,Abs.W,reduceIte,Nat.reduceEqDiff,Nat.reduceAdd,decide_true,decide_false,kLoop_def,Nat.reduceSub,List.cons_append,List.nil_append,List.append_nil,List.length_cons,List.length_nil,Env.find_set,l0,l13,l14,l17,ng]
 generalize hc2:call _ _ _ (.fn 22) _ _=r2
 obtain ⟨x2,t2,rfl,st2,d2,m2⟩:=one_ex [2,9] hc2 (by omega) (d1.new (by omega) _) (by simp only [new_n];omega) (by simp only [new_n];omega) (get_new_eq _ _ _ rfl (by omega)) (by simp only [new_n];omega) (by omega) rfl (by omega) (by omega)
 have x2r:x2=2∨x2=9:=by simpa using m2
 have n2:t1.n+1≤t2.n:=st2.n
 have k2:t2.n≤t1.n+1:=st2.le
 simp (disch:=first|omega|(with_unfolding_all exact rfl)|(simp only[new_n,put_n,new_m];omega)|(refine put_m_le ?_;simp only[new_m];omega)) only [res7,K7r0,K7r1,K7r2,K7r3,K7r4,K7r5,K7r6,K7r7,K7r8,K7r9,K7r10,K7r11,K7r12,K7r13,K7r14,K7r15,K7r16,K7r17,K7r18,K7r19,K7r20,K7r21s7,K7r21s6,K7r21s5,K7r21s4,K7r21,K7r22,K7r23,K7r24,K7r25,K7r26,K7r27,K7r28,K7r29,K7r30,K7r31,K7r32,K7r33,K7r34s7,K7r34s6,K7r34,K7r35,K7r36,K7r37,K7r38,K7,Abs.W,reduceIte,Nat.reduceEqDiff,Nat.reduceAdd,decide_true,decide_false,kLoop_def,Nat.reduceSub,List.cons_append,List.nil_append,List.append_nil,List.length_cons,List.length_nil,Env.find_set,l0,l13,l14,l17]
 generalize hc3:call _ _ _ (.fn 21) _ _=r3
 obtain ⟨fa,fb,t3,rfl,st3,d3,a0,a1,a2⟩:=span_ex hc3 (by omega) d2 (by omega) (by omega) (by omega) (by omega) (by omega)
 have n3:t2.n≤t3.n:=st3.n
 have k3:t3.n≤t2.n+2:=st3.le
 simp (disch:=first|omega|(with_unfolding_all exact rfl)|(simp only[new_n,put_n,new_m];omega)|(refine put_m_le ?_;simp only[new_m];omega)) only [res7,K7r0,K7r1,K7r2,K7r3,K7r4,K7r5,K7r6,K7r7,K7r8,K7r9,K7r10,K7r11,K7r12,K7r13,K7r14,K7r15,K7r16,K7r17,K7r18,K7r19,K7r20,K7r21s7,K7r21s6,K7r21s5,K7r21s4,K7r21,K7r22,K7r23,K7r24,K7r25,K7r26,K7r27,K7r28,K7r29,K7r30,K7r31,K7r32,K7r33,K7r34s7,K7r34s6,K7r34,K7r35,K7r36,K7r37,K7r38,K7,Abs.W,reduceIte,Nat.reduceEqDiff,Nat.reduceAdd,decide_true,decide_false,kLoop_def,Nat.reduceSub,List.cons_append,List.nil_append,List.append_nil,List.length_cons,List.length_nil,Env.find_set,l0,l13,l14,l17]
 generalize hc4:call _ _ _ (.fn 22) _ _=r4
 obtain ⟨x4,t4,rfl,st4,d4,m4⟩:=one_ex [0,3] hc4 (by omega) (d3.new (by omega) _) (by simp only [new_n];omega) (by simp only [new_n];omega) (get_new_eq _ _ _ rfl (by omega)) (by simp only [new_n];omega) (by omega) rfl (by omega) (by omega)
 have x4r:x4=0∨x4=3:=by simpa using m4
 have n4:t3.n+1≤t4.n:=st4.n
 have k4:t4.n≤t3.n+1:=st4.le
 simp (disch:=first|omega|(with_unfolding_all exact rfl)|(simp only[new_n,put_n,new_m];omega)|(refine put_m_le ?_;simp only[new_m];omega)) only [res7,K7r0,K7r1,K7r2,K7r3,K7r4,K7r5,K7r6,K7r7,K7r8,K7r9,K7r10,K7r11,K7r12,K7r13,K7r14,K7r15,K7r16,K7r17,K7r18,K7r19,K7r20,K7r21s7,K7r21s6,K7r21s5,K7r21s4,K7r21,K7r22,K7r23,K7r24,K7r25,K7r26,K7r27,K7r28,K7r29,K7r30,K7r31,K7r32,K7r33,K7r34s7,K7r34s6,K7r34,K7r35,K7r36,K7r37,K7r38,K7,Abs.W,reduceIte,Nat.reduceEqDiff,Nat.reduceAdd,decide_true,decide_false,kLoop_def,Nat.reduceSub,List.cons_append,List.nil_append,List.append_nil,List.length_cons,List.length_nil,Env.find_set,l0,l13,l14,l17]
 generalize hc5:call _ _ _ (.fn 21) _ _=r5
 obtain ⟨da,db,t5,rfl,st5,d5,c0,c1,c2⟩:=span_ex hc5 (by omega) d4 (by omega) (by omega) (by omega) (by omega) (by omega)
 have n5:t4.n≤t5.n:=st5.n
 have k5:t5.n≤t4.n+2:=st5.le
 simp (disch:=first|omega|(with_unfolding_all exact rfl)|(simp only[new_n,put_n,new_m];omega)|(refine put_m_le ?_;simp only[new_m];omega)) only [res7,K7r0,K7r1,K7r2,K7r3,K7r4,K7r5,K7r6,K7r7,K7r8,K7r9,K7r10,K7r11,K7r12,K7r13,K7r14,K7r15,K7r16,K7r17,K7r18,K7r19,K7r20,K7r21s7,K7r21s6,K7r21s5,K7r21s4,K7r21,K7r22,K7r23,K7r24,K7r25,K7r26,K7r27,K7r28,K7r29,K7r30,K7r31,K7r32,K7r33,K7r34s7,K7r34s6,K7r34,K7r35,K7r36,K7r37,K7r38,K7,Abs.W,reduceIte,Nat.reduceEqDiff,Nat.reduceAdd,decide_true,decide_false,kLoop_def,Nat.reduceSub,List.cons_append,List.nil_append,List.append_nil,List.length_cons,List.length_nil,Env.find_set,l0,l13,l14,l17,Nat.zero_add]
 obtain ⟨S,hSd⟩:∃ S:Scl,S=⟨fa,fb,da,db⟩:=⟨_,rfl⟩
 have hSc:S.cells=[.int .i64 fa,.int .i64 fb,.int .i64 da,.int .i64 db]:=by rw [hSd];rfl
 obtain ⟨y,hy⟩:∃ y:St,y=(t5.new (.cells [.int .i64 0,.int .i64 0,.int .i64 0,.int .i64 0] (tag 71))).put t5.n (.cells [.int .i64 fa,.int .i64 fb,.int .i64 da,.int .i64 db] (tag 71)):=⟨_,rfl⟩
 rw [← hy]
 have yn:y.n=t5.n+1:=by rw [hy];rfl
 have ym:y.m=min t5.m t5.n:=by rw [hy];simp only [St.put,minN_eq,new_m]
 have yg:∀ c,c≠t5.n→y.h.get c=t5.h.get c:=fun c hc=>by rw [hy,get_put_ne' _ _ _ _ hc,get_new_ne _ _ _ hc]
 have yp:y.h.get t5.n=some (.cells [.int .i64 fa,.int .i64 fb,.int .i64 da,.int .i64 db] (tag 71)):=by rw [hy];exact get_put_eq _ _ _ _ rfl (by omega)
 have dy:Die d y.h:=d5.keep (yg _ (by omega))
 generalize hc6:call _ _ _ (.fn 24) _ _=r6
 obtain ⟨x0,t6,rfl,st6,d6,x00,x01⟩:=true_ex hc6 (by omega) dy (by omega) (by omega) (by omega) (by omega) (by omega)
 have n6:y.n≤t6.n:=st6.n
 have k6:t6.n≤y.n+3:=st6.le
 simp (disch:=first|omega|(with_unfolding_all exact rfl)|(simp only[new_n,put_n,new_m];omega)|(refine put_m_le ?_;simp only[new_m];omega)) only [res7,K7r0,K7r1,K7r2,K7r3,K7r4,K7r5,K7r6,K7r7,K7r8,K7r9,K7r10,K7r11,K7r12,K7r13,K7r14,K7r15,K7r16,K7r17,K7r18,K7r19,K7r20,K7r21s7,K7r21s6,K7r21s5,K7r21s4,K7r21,K7r22,K7r23,K7r24,K7r25,K7r26,K7r27,K7r28,K7r29,K7r30,K7r31,K7r32,K7r33,K7r34s7,K7r34s6,K7r34,K7r35,K7r36,K7r37,K7r38,K7,Abs.W,reduceIte,Nat.reduceEqDiff,Nat.reduceAdd,decide_true,decide_false,kLoop_def,Nat.reduceSub,List.cons_append,List.nil_append,List.append_nil,List.length_cons,List.length_nil,Env.find_set,l0,Nat.zero_add]
 generalize hl:loopN _ rounds _ _ _ _ _=rl
 obtain ⟨w,L0,hw,hL0,hl'⟩:=loop_start hl
 have wn:w.n=t6.n+1:=by rw [hw];rfl
 have wm:w.m=t6.m:=by rw [hw];rfl
 have wg:∀ c,c<t6.n→w.h.get c=t6.h.get c:=fun c hc=>by rw [hw,get_new_ne _ _ _ (by omega)]
 have wp:w.h.get t6.n=some (.cells [.int .i64 x0] 0):=by rw [hw];exact get_new_eq _ _ _ rfl (by omega)
 have back:∀ c,c<s.n→c≠d→w.h.get c=s.h.get c:=fun c hc h2=>by
  rw [wg c (by omega),st6.same c (by omega) h2,yg c (by omega),st5.same c (by omega) h2,st4.same c (by simp only [new_n];omega) h2,get_new_ne _ _ _ (by omega),st3.same c (by omega) h2,st2.same c (by simp only [new_n];omega) h2,get_new_ne _ _ _ (by omega),st1.same c (by simp only [new_n];omega) h2,get_new_ne _ _ _ (by omega)]
 have hMw:Made w.h w.n d p13 p14 lo b offs errs rv xs bs vs:=hM.keep (d6.keep (wg d (by omega))) back (by omega)
 have bsf:∀ j,bs j<s.n∨far<bs j:=hM.ls.far
 have bsl:∀ j,lo≤bs j:=hM.ls.lo
 have xlt:∀ j (h:j<xs.length),xs[j]<s.n:=fun j h=>(hM.er j (by have:=hM.el;have:=hM.xl;omega) (by have:=hM.xl;omega) h).lt
 have xlt':∀ x ∈ xs,x<s.n:=fun x hx=>by obtain ⟨j,hj,rfl⟩:=List.getElem_of_mem hx;exact xlt j hj
 have gxw:w.h.get t5.n=some (.cells S.cells (tag 71)):=by rw [hSc,wg _ (by omega),st6.same _ (by omega) (by omega)];exact yp
 have hS3 : -3≤S.dl∧S.dl≤S.dh∧S.dh≤3:=by rw [hSd];exact ⟨by simp only;omega,c1,by simp only;omega⟩
 have hr0:RowOf S 0 [x0]:=by
  refine ⟨rfl,by rw [hSd];exact ⟨x00,x01⟩,fun j hj=>absurd hj (Nat.not_lt_zero j),fun j hj=>?_⟩
  obtain rfl:j=0:=by omega
  show -(10+3 * ((0:Nat):Int))≤x0∧x0≤10+3 * ((0:Nat):Int)
  omega
 have hB0:Blk w.h w.n t6.n 1 (tag 3) (intRows [x0]) (.slice t6.n 0 1 1 false):=⟨fun r hr=>by simp [intRows] at hr;rw [hr];rfl,false,0,rfl,by omega,wp,fun h=>by cases h⟩
 obtain ⟨e,L1,s1,rfl,rfl,l,v,bl,q0,q13,q14,q17,q18,qf,q19,hr,hB,hbl1,hM1,hG1,gx1⟩:=loop_of hl' (fun k L' t'=>∃ l v bl,L'.find 0=.ptr d 0∧L'.find 13=.ptr p13 0∧L'.find 14=.ptr p14 0∧L'.find 17=.int .i64 i∧L'.find 18=.ptr t5.n 0∧(∀ t,t=3∨t=10∨t=11∨t=12→L'.find t=L.find t)∧L'.find 19=v∧L'.find 20=.int .i64 k∧RowOf S k l∧Blk t'.h t'.n bl 1 (tag 3) (intRows l) v∧(s.n≤bl∧bl≠t5.n)∧Made t'.h t'.n d p13 p14 lo b offs errs rv xs bs vs∧Goes w t' d p13 p14 lo (10 * k)∧t'.h.get t5.n=some (.cells S.cells (tag 71)))
  (fun e L' t'=>e=.exit 4∧∃ l v bl,L'.find 0=.ptr d 0∧L'.find 13=.ptr p13 0∧L'.find 14=.ptr p14 0∧L'.find 17=.int .i64 i∧L'.find 18=.ptr t5.n 0∧(∀ t,t=3∨t=10∨t=11∨t=12→L'.find t=L.find t)∧L'.find 19=v∧RowOf S b.days l∧Blk t'.h t'.n bl 1 (tag 3) (intRows l) v∧(s.n≤bl∧bl≠t5.n)∧Made t'.h t'.n d p13 p14 lo b offs errs rv xs bs vs∧Goes w t' d p13 p14 lo (10 * b.days)∧t'.h.get t5.n=some (.cells S.cells (tag 71))) b.days (by unfold rounds;omega)
  ⟨[x0],.slice t6.n 0 1 1 false,t6.n,by rw [hL0];simp only [Env.find_set,l0,reduceIte,Nat.reduceEqDiff],by rw [hL0];simp only [Env.find_set,l13,reduceIte,Nat.reduceEqDiff],by rw [hL0];simp only [Env.find_set,l14,reduceIte,Nat.reduceEqDiff],by rw [hL0];simp only [Env.find_set,l17,reduceIte,Nat.reduceEqDiff],by rw [hL0];simp only [Env.find_set,l0,reduceIte,Nat.reduceEqDiff],fun t ht=>by rw [hL0];rcases ht with rfl | rfl | rfl | rfl<;>simp only [Env.find_set,reduceIte,Nat.reduceEqDiff],by rw [hL0];simp only [Env.find_set,l0,reduceIte,Nat.reduceEqDiff],by rw [hL0];simp only [Env.find_set,l0,reduceIte,Nat.reduceEqDiff];rfl,hr0,hB0,⟨by omega,by omega⟩,hMw,Goes.refl _ _ _ _ _,gxw⟩
  (fun k L' t' hk ⟨l,v,bl,q0,q13,q14,q17,q18,qf,q19,q20,hr,hB,hbl1,hM1,hG1,gx1⟩=>by
   have:=hG1.le
   have:=hG1.n
   by_cases hlt:k<b.days
   ·obtain ⟨L2,t2',x,bl2,v2,p1,p2,p3,p4,p5,p6,p7,p8,p9,pa⟩:=made_day N hN cx hlt hdy (by omega) hM1 hB hr hS3 ⟨by omega,fun j=>(by have:=bsf j;have:=hB.lt;omega),fun x hx=>(by have:=xlt' x hx;omega)⟩ gx1 ⟨by omega,by omega,fun e=>hbl1.2 e.symm⟩ q0 q13 q18 q19 q20
    refine .inl ⟨hlt,L2,t2',p1,l++[x],v2,bl2,?_,?_,?_,?_,?_,fun t ht=>?_,p3,p4,p5,p6,⟨by omega,by omega⟩,p8,(hG1.trans p9).mono (by omega),pa⟩
    ·rw [p2 0 (by omega)];exact q0
    ·rw [p2 13 (by omega)];exact q13
    ·rw [p2 14 (by omega)];exact q14
    ·rw [p2 17 (by omega)];exact q17
    ·rw [p2 18 (by omega)];exact q18
    ·rw [p2 t (by omega)];exact qf t ht
   ·obtain rfl:k=b.days:=by omega
    have e1:decide ((b.days:Int)<(b.days:Int))=false:=by simp
    have g13:=hM1.g13
    refine .inr ⟨.exit 4,L'.set 101 (.bool false),t',by simp,?_,rfl,l,v,bl,?_,?_,?_,?_,?_,fun t ht=>?_,?_,hr,hB,hbl1,hM1,hG1,gx1⟩
    ·simp (disch:=first|omega|(with_unfolding_all exact rfl)|(simp only[new_n,put_n,new_m];omega)|(refine put_m_le ?_;simp only[new_m];omega)) only [res7,K7r0,K7r1,K7r2,K7r3,K7r4,K7r5,K7r6,K7r7,K7r8,K7r9,K7r10,K7r11,K7r12,K7r13,K7r14,K7r15,K7r16,K7r17,K7r18,K7r19,K7r20,K7r21s7,K7r21s6,K7r21s5,K7r21s4,K7r21,K7r22,K7r23,K7r24,K7r25,K7r26,K7r27,K7r28,K7r29,K7r30,K7r31,K7r32,K7r33,K7r34s7,K7r34s6,K7r34,K7r35,K7r36,K7r37,K7r38,K7,K7l1,Abs.W,reduceIte,Nat.reduceEqDiff,Nat.reduceAdd,decide_true,decide_false,kLoop_def,Nat.reduceSub,List.cons_append,List.nil_append,List.append_nil,List.length_cons,List.length_nil,Env.find_set,q13,q20,g13,e1,Nat.zero_add]
    ·simp only [Env.find_set,q0,reduceIte,Nat.reduceEqDiff]
    ·simp only [Env.find_set,q13,reduceIte,Nat.reduceEqDiff]
    ·simp only [Env.find_set,q14,reduceIte,Nat.reduceEqDiff]
    ·simp only [Env.find_set,q17,reduceIte,Nat.reduceEqDiff]
    ·simp only [Env.find_set,q18,reduceIte,Nat.reduceEqDiff]
    ·rw [Env.find_set,if_neg (by omega)];exact qf t ht
    ·simp only [Env.find_set,q19,reduceIte,Nat.reduceEqDiff])
 obtain ⟨dz,z13,z14,lz,el,xl,er,xo,_⟩:=hM1
 have G1n:=hG1.n
 have G1l:=hG1.le
 have okm:=(lz.at_ 2).okA
 have oko:=(lz.at_ 5).okA
 have vok:=hB.okA
 have gx2:=gx1
 rw [hSc] at gx2
 simp (disch:=first|omega|(with_unfolding_all exact rfl)|(simp only[new_n,put_n,new_m];omega)|(refine put_m_le ?_;simp only[new_m];omega)) only [res7,K7r0,K7r1,K7r2,K7r3,K7r4,K7r5,K7r6,K7r7,K7r8,K7r9,K7r10,K7r11,K7r12,K7r13,K7r14,K7r15,K7r16,K7r17,K7r18,K7r19,K7r20,K7r21s7,K7r21s6,K7r21s5,K7r21s4,K7r21,K7r22,K7r23,K7r24,K7r25,K7r26,K7r27,K7r28,K7r29,K7r30,K7r31,K7r32,K7r33,K7r34s7,K7r34s6,K7r34,K7r35,K7r36,K7r37,K7r38,K7,Abs.W,reduceIte,Nat.reduceEqDiff,Nat.reduceAdd,decide_true,decide_false,kLoop_def,Nat.reduceSub,List.cons_append,List.nil_append,List.append_nil,List.length_cons,List.length_nil,Env.find_set,q13,q14,q18,q19,z13,z14,gx2,okm,Nat.zero_add]
 obtain ⟨y2,hy2⟩:∃ y2:St,y2=s1.new (.cells [.int .i64 fa,.int .i64 fb,.int .i64 da,.int .i64 db] 0):=⟨_,rfl⟩
 rw [← hy2]
 have y2n:y2.n=s1.n+1:=by rw [hy2];rfl
 have y2m:y2.m=s1.m:=by rw [hy2];rfl
 have y2g:∀ c,c<s1.n→y2.h.get c=s1.h.get c:=fun c hc=>by rw [hy2,get_new_ne _ _ _ (by omega)]
 have y2p:y2.h.get s1.n=some (.cells [.int .i64 fa,.int .i64 fb,.int .i64 da,.int .i64 db] 0):=by rw [hy2];exact get_new_eq _ _ _ rfl (by omega)
 have l2:Lists y2.h y2.n lo benchW benchT (benchR b offs rv) bs vs:=lz.mono (fun j hj=>y2g _ hj) (by omega)
 obtain ⟨s7,v7,e7,l7,s7n,s7g,s7m,s7l⟩:=l2.push 2 (bytes:=32) y2p rfl rfl (by show ((b.ss.map Scl.cells).length+1) * 32≤1000000;rw [List.length_map];omega) (by kernel_rfl) (by omega) (by omega)
 have e7':appendA false 4 32 (tag 71) y2 (vs 2) (.slice s1.n 0 1 1 false)=.val v7 s7:=e7
 have n2':∀ c,c<lo→c≠bs 2:=fun c hc=>by have:=bsl 2;omega
 have n5':∀ c,c<lo→c≠bs 5:=fun c hc=>by have:=bsl 5;omega
 have g7:∀ c,c<s1.n→c≠bs 2→s7.h.get c=s1.h.get c:=fun c h1 h3=>(s7g c (by omega) h3).trans (y2g c h1)
 have g714:=(g7 p14 (by omega) (n2' _ (by omega))).trans z14
 have scv:scalars [v]=true:=by
  show (match v.scalar with | true=>scalars [] | false=>false)=true
  rw [hB.scal];rfl
 have scc:=hB.cells
 have cn:cellsOf 1 (AV.nilslice)=some [AV.nilslice]:=rfl
 simp (disch:=first|omega|(with_unfolding_all exact rfl)|(simp only[new_n,put_n,new_m];omega)|(refine put_m_le ?_;simp only[new_m];omega)) only [Abs.W,reduceIte,Nat.reduceEqDiff,Nat.reduceAdd,decide_true,decide_false,kLoop_def,Nat.reduceSub,List.cons_append,List.nil_append,List.append_nil,List.length_cons,List.length_nil,Env.find_set,e7',q14,q19,g714,oko,vok,scc,Nat.zero_add,Nat.add_zero]
 obtain ⟨y9,hy9⟩:∃ y9:St,y9=s7.new (.cells [v] 0):=⟨_,rfl⟩
 rw [← hy9]
 have y9n:y9.n=s7.n+1:=by rw [hy9];rfl
 have y9m:y9.m=s7.m:=by rw [hy9];rfl
 have y9g:∀ c,c<s7.n→y9.h.get c=s7.h.get c:=fun c hc=>by rw [hy9,get_new_ne _ _ _ (by omega)]
 have y9p:y9.h.get s7.n=some (.cells [v] 0):=by rw [hy9];exact get_new_eq _ _ _ rfl (by omega)
 have l9:=l7.mono (h':=y9.h) (n':=y9.n) (fun j hj=>y9g _ hj) (by omega)
 obtain ⟨s10,v10,e10,l10,s10n,s10g,s10m,s10l⟩:=l9.push 5 (bytes:=24) y9p rfl scv (by rw [upd_ne _ _ _ (by omega)];show ((rv.map fun v=>[v]).length+1) * 24≤1000000;rw [List.length_map,el];omega) (by kernel_rfl) (by omega) (by omega)
 rw [upd_ne _ _ _ (by omega)] at e10
 have e10':appendA false 1 24 (tag 22) y9 (vs 5) (.slice s7.n 0 1 1 false)=.val v10 s10:=e10
 have hb5:upd bs 2 y2.n 5=bs 5:=upd_ne _ _ _ (by omega)
 rw [hb5] at s10g
 have g10:∀ c,c<s1.n→c≠bs 2→c≠bs 5→s10.h.get c=s1.h.get c:=fun c h1 h3 h4=>(s10g c (by omega) h4).trans ((y9g c (by omega)).trans (g7 c h1 h3))
 have r13:=(g10 p13 (by omega) (n2' _ (by omega)) (n5' _ (by omega))).trans z13
 have r14:=(g10 p14 (by omega) (n2' _ (by omega)) (n5' _ (by omega))).trans z14
 have sc7:=(l10.at_ 2).scal
 rw [upd_ne _ _ _ (by omega),upd_at] at sc7
 have sc10:=(l10.at_ 5).scal
 rw [upd_at] at sc10
 obtain ⟨sc71,sc72⟩:=sc7
 obtain ⟨sc101,sc102⟩:=sc10
 have asb:∀ s,aSub s .i64 (i:Int) 1=.val (.int .i64 ((i:Int) - 1)) s:=fun s=>aSub_i64 s _ _ (by omega)
 simp (disch:=first|omega|(with_unfolding_all exact rfl)|(simp only[new_n,put_n,new_m];omega)|(refine put_m_le ?_;simp only[new_m];omega)) only [Abs.W,reduceIte,Nat.reduceEqDiff,Nat.reduceAdd,decide_true,decide_false,kLoop_def,Nat.reduceSub,List.cons_append,List.nil_append,List.append_nil,List.length_cons,List.length_nil,Env.find_set,e10',q13,q14,r13,r14,sc71,sc72,sc101,sc102,Nat.zero_add]
 rw [endO_ok _ (by
  rw [endOk_cons,endOk_nil]
  simp only [find_cons,Env.find_set,reduceIte,Nat.reduceEqDiff]
  exact (lz.at_ 2).apart (fun e=>n2' p14 (by omega) e.symm))]
 simp (disch:=first|omega|(with_unfolding_all exact rfl)|(simp only[new_n,put_n,new_m];omega)|(refine put_m_le ?_;simp only[new_m];omega)) only [res7,K7r0,K7r1,K7r2,K7r3,K7r4,K7r5,K7r6,K7r7,K7r8,K7r9,K7r10,K7r11,K7r12,K7r13,K7r14,K7r15,K7r16,K7r17,K7r18,K7r19,K7r20,K7r21s7,K7r21s6,K7r21s5,K7r21s4,K7r21,K7r22,K7r23,K7r24,K7r25,K7r26,K7r27,K7r28,K7r29,K7r30,K7r31,K7r32,K7r33,K7r34s7,K7r34s6,K7r34,K7r35,K7r36,K7r37,K7r38,K7,Abs.W,reduceIte,Nat.reduceEqDiff,Nat.reduceAdd,decide_true,decide_false,kLoop_def,Nat.reduceSub,List.cons_append,List.nil_append,List.append_nil,List.length_cons,List.length_nil,Env.find_set,q17,asb]
 generalize hsf:St.put (St.put s10 _ _) _ _=sf
 have sfn:sf.n=s10.n:=by rw [← hsf];rfl
 have sfm:sf.m=min (min s10.m p13) p14:=by rw [← hsf];simp only [St.put,minN_eq]
 have sfg:∀ c,c≠p13→c≠p14→sf.h.get c=s10.h.get c:=fun c h1 h2=>by rw [← hsf,get_put_ne' _ _ _ _ h2,get_put_ne' _ _ _ _ h1]
 have sf13:sf.h.get p13=some (.cells [vs 0,vs 1,v7,vs 3,.int .i64 b.days] (tag 30)):=by rw [← hsf,get_put_ne' _ _ _ _ (by omega)];exact get_put_eq _ _ _ _ rfl (by omega)
 have sf14:sf.h.get p14=some (.cells [vs 4,v10] (tag 33)):=by rw [← hsf];exact get_put_eq _ _ _ _ rfl (by omega)
 have dsf:Die d sf.h:=dz.keep ((sfg d (by omega) (by omega)).trans (g10 d (by omega) (n2' _ (by omega)) (n5' _ (by omega))))
 have hfun:upd (upd (benchR b offs rv) 2 (benchR b offs rv 2++[[.int .i64 fa,.int .i64 fb,.int .i64 da,.int .i64 db]])) 5 (upd (benchR b offs rv) 2 (benchR b offs rv 2++[[.int .i64 fa,.int .i64 fb,.int .i64 da,.int .i64 db]]) 5++[[v]])=benchR { b with ss:=b.ss++[S] } offs (rv++[v]):=by
  funext j
  match j with
  | 0=>rfl
  | 1=>rfl
  | 2 =>
   show b.ss.map Scl.cells++[_]=(b.ss++[S]).map Scl.cells
   rw [List.map_append,List.map_cons,List.map_nil,hSc]
  | 3=>rfl
  | 4=>rfl
  | 5 =>
   show (rv.map fun v=>[v])++[[v]]=(rv++[v]).map fun v=>[v]
   rw [List.map_append];rfl
  | n+6=>rfl
 rw [hfun] at l10
 have bl2:∀ j,bl≠bs j:=fun j=>by have:=bsf j;have:=hB.lt;omega
 have hbl2:=hB.lt
 refine ⟨_,sf,S,l,rv++[v],xs++[bl],_,_,rfl,fun t ht=>?_,?_,?_,hr,⟨dsf,?_,?_,l10.mono (fun j hj=>sfg _ (by have:=l10.lo j;omega) (by have:=l10.lo j;omega)) (by omega),by rw [List.length_append,List.length_append,el];rfl,by rw [List.length_append,List.length_append,xl];rfl,fun j h1 h2 h3=>?_,fun c hc=>?_,⟨pd,pp,plo,by omega⟩⟩,⟨fun c h1 h2 h3 h4=>?_,by omega,by omega,fun h=>?_,?_⟩⟩
 ·rcases ht with rfl | rfl | rfl | rfl | rfl | rfl | rfl
  ·simp only [Env.find_set,q0,l0,reduceIte,Nat.reduceEqDiff]
  ·rw [Env.find_set,if_neg (by omega)];exact qf 3 (by omega)
  ·rw [Env.find_set,if_neg (by omega)];exact qf 10 (by omega)
  ·rw [Env.find_set,if_neg (by omega)];exact qf 11 (by omega)
  ·rw [Env.find_set,if_neg (by omega)];exact qf 12 (by omega)
  ·simp only [Env.find_set,q13,l13,reduceIte,Nat.reduceEqDiff]
  ·simp only [Env.find_set,q14,l14,reduceIte,Nat.reduceEqDiff]
 ·simp only [Env.find_set,reduceIte,Nat.reduceEqDiff]
 ·rw [hSd];exact ⟨by simp only;omega,by simp only;omega,by simp only;omega,by simp only;omega,by simp only;omega,by simp only;omega⟩
 ·rw [upd_ne _ _ _ (by omega),upd_ne _ _ _ (by omega),upd_ne _ _ _ (by omega),upd_ne _ _ _ (by omega),upd_ne _ _ _ (by omega),upd_at,upd_ne _ _ _ (by omega),upd_ne _ _ _ (by omega)];exact sf13
 ·rw [upd_ne _ _ _ (by omega),upd_ne _ _ _ (by omega),upd_at];exact sf14
 ·by_cases hj:j<rv.length
  ·rw [List.getElem_append_left (by omega),List.getElem_append_left (by omega),List.getElem_append_left hj]
   have w1:=er j hj (by omega) (by omega)
   have w3:=xo _ (List.getElem_mem (by omega:j<xs.length))
   exact w1.mono ((sfg _ (by omega) (by omega)).trans (g10 _ w1.lt (fun e=>w3.2 2 e.symm) (fun e=>w3.2 5 e.symm))) (by omega)
  ·have hje:j=rv.length:=by rw [List.length_append,List.length_singleton] at h1;omega
   subst hje
   rw [List.getElem_append_right (by omega),List.getElem_append_right (by omega),List.getElem_append_right (by omega)]
   simp only [el,xl,Nat.sub_self,List.getElem_singleton]
   exact hB.mono ((sfg _ (by omega) (by omega)).trans (g10 _ hbl2 (bl2 2) (bl2 5))) (by omega)
 ·rcases List.mem_append.mp hc with hc | hc
  ·have:=xlt' c hc
   refine ⟨(xo c hc).1,fun j=>?_⟩
   unfold upd
   split
   ·omega
   ·split
    ·omega
    ·exact (xo _ hc).2 j
  ·simp at hc
   subst hc
   refine ⟨by omega,fun j=>?_⟩
   unfold upd
   split
   ·omega
   ·split
    ·omega
    ·exact fun e=>bl2 j e.symm
 ·have b2:=n2' c h1
  have b5:=n5' c h1
  rw [sfg c h3 h4,g10 c (by omega) b2 b5,hG1.same c h1 h2 h3 h4,back c (by omega) h2]
 ·have a1:=st1.m (by rw [new_m];exact h)
  have a2:=st2.m (by rw [new_m];exact a1)
  have a3:=st3.m a2
  have a4:=st4.m (by rw [new_m];exact a3)
  have a5:=st5.m a4
  have a6:=st6.m (by omega)
  have a7:=hG1.m (by omega)
  have a8:=s7m d (by omega) (by omega)
  have a9:=s10m d (by omega) (by omega)
  omega
 ·have a1:t1.m≤s.m:=st1.mle
  have a2:t2.m≤t1.m:=st2.mle
  have a3:=st3.mle
  have a4:t4.m≤t3.m:=st4.mle
  have a5:=st5.mle
  have a6:=st6.mle
  have a7:=hG1.mle
  omega
end Go.Proofs.Ytfekafjfidohdaa.walk
