/- Facts in memory, in a list that grows. -/
import Derived.Test.YtkkdiibgjgnbhaaM7
import Derived.Test.YtkkdiibgjgnbhaaCodes
import Derived.Test.YtkkdiibgjgnbhaaWalkAll
set_option maxHeartbeats 16000000
set_option linter.unusedVariables false
set_option maxRecDepth 10000
namespace Go.Abs
variable {P:Program}
structure Grow (d:Nat) (u s:St) (k:Nat):Prop where
 same:∀ b,b<u.n→b≠d→s.h.get b=u.h.get b
 n:u.n≤s.n
 le:s.n≤u.n+k
 m:∀ x,x≤d→x≤u.n→x≤u.m→x≤s.m
 mle:s.m≤u.m
theorem Grow.refl (d:Nat) (u:St):Grow d u u 0:=⟨fun _ _ _=>rfl,Nat.le_refl _,Nat.le_refl _,fun _ _ _ h=>h,Nat.le_refl _⟩
theorem Grow.mono {d:Nat} {u s:St} {j k:Nat} (a:Grow d u s j) (h:j≤k):Grow d u s k:=⟨a.same,a.n,by have:=a.le;omega,a.m,a.mle⟩
theorem Grow.new {d:Nat} {u s:St} {k:Nat} (h:Grow d u s k) (o:AObj):Grow d u (s.new o) (k+1) :=
 ⟨fun b hb hd=>by rw [get_new_ne _ _ _ (by have:=h.n;omega)];exact h.same b hb hd,Nat.le_trans h.n (Nat.le_succ _),by have:=h.le;show s.n+1≤_;omega,h.m,h.mle⟩
theorem Grow.put {d:Nat} {u s:St} {k b:Nat} (h:Grow d u s k) (o:AObj) (hb:u.n≤b):Grow d u (s.put b o) k :=
 ⟨fun c hc hcd=>by rw [get_put_ne' _ _ _ _ (by omega)];exact h.same c hc hcd,h.n,h.le,fun x h1 h2 h3=>by
  show x≤minN s.m b
  rw [minN_min]
  have:=h.m x h1 h2 h3
  omega,Nat.le_trans (minN_le_left _ _) h.mle⟩
theorem Grow.after {d:Nat} {u s t:St} {j k:Nat} (a:Grow d u s j) (b:New s t k):Grow d u t (j+k) :=
 ⟨fun c hc hd=>(b.same c (by have:=a.n;omega)).trans (a.same c hc hd),Nat.le_trans a.n b.n,by have:=a.le;have:=b.le;omega,fun x h1 h2 h3=>by rw [b.m];exact a.m x h1 h2 h3,by rw [b.m];exact a.mle⟩
theorem Grow.trans {d e:Nat} {u s t:St} {j k:Nat} (a:Grow d u s j) (b:Grow e s t k) (he:e=d∨u.n≤e):Grow d u t (j+k) :=
 ⟨fun c hc hd=>(b.same c (by have:=a.n;omega) (by omega)).trans (a.same c hc hd),Nat.le_trans a.n b.n,by have:=a.le;have:=b.le;omega,fun x h1 h2 h3=>b.m x (by omega) (by have:=a.n;omega) (a.m x h1 h2 h3),Nat.le_trans b.mle a.mle⟩
theorem call_grow {X:FuncId→List Nat} {n:Nat} {f:FuncId} {args:List AV} {s:St} {fn:Func} {d k:Nat} {Q:AV→Heap→Nat→Prop} (hf:P.funcs[f]? = some fn) (hk:keepAll=true)
  (h:∀ u:St,u.h=s.h→u.n=s.n→u.m=far→∃ v s',enterA P X (call P X n) f args u fn=.val v s'∧Grow d u s' k∧Q v s'.h s'.n∧(plain v=true→Q v s.h s.n)) (hs:s.n≤far) :
  ∃ v t,call P X (n+1) (.fn f) args s=.val v t∧Grow d s t k∧Q v t.h t.n:=by
 obtain ⟨v,s',h1,h2,h3,h4⟩:=h ⟨s.h,s.n,far⟩ rfl rfl rfl
 cases hb:Nat.ble s.n s'.m with
 | true =>
  cases hp:plain v with
  | true =>
   refine ⟨v,s,?_,(Grow.refl d s).mono (Nat.zero_le _),h4 hp⟩
   show callStep P X (call P X n) (.fn f) args s=_
   unfold callStep
   simp only [hf,h1]
   unfold Abs.settle
   simp only [hb,hp]
   rfl
  | false =>
   refine ⟨v,⟨s'.h,s'.n,s.m⟩,?_,⟨h2.same,h2.n,h2.le,fun x _ _ h=>h,Nat.le_refl _⟩,h3⟩
   show callStep P X (call P X n) (.fn f) args s=_
   unfold callStep
   simp only [hf,h1]
   unfold Abs.settle
   simp only [hb,hp,hk]
   rfl
 | false =>
  refine ⟨v,⟨s'.h,s'.n,minN s.m s'.m⟩,?_,⟨h2.same,h2.n,h2.le,fun x h1 h5 h6=>?_,minN_le_left _ _⟩,h3⟩
  ·show callStep P X (call P X n) (.fn f) args s=_
   unfold callStep
   simp only [hf,h1]
   unfold Abs.settle
   simp only [hb]
   rfl
  ·show x≤minN s.m s'.m
   rw [minN_min]
   have:=h2.m x h1 h5 (show x≤far by omega)
   omega
theorem Own.move {h h':Heap} {lo lo' n n' w tg:Nat} {rows:List (List AV)} {v:AV} (r:Own h lo n w tg rows v) (hh:∀ b,lo≤b→b<n→h'.get b=h.get b) (hl:lo'≤lo) (hn:n≤n'):Own h' lo' n' w tg rows v:=by
 refine ⟨r.wide,?_⟩
 rcases r.is with ⟨h1,h2 | ⟨b,h0,h3,h4,h5⟩⟩ | ⟨h1,b,h0,h3,h4,h5⟩
 ·exact .inl ⟨h1,.inl h2⟩
 ·exact .inl ⟨h1,.inr ⟨b,by omega,by omega,h4,by rw [hh b h0 h3];exact h5⟩⟩
 ·exact .inr ⟨h1,b,by omega,by omega,h4,by rw [hh b h0 h3];exact h5⟩
theorem Own.none {h h':Heap} {lo lo' n n' w tg:Nat} {rows:List (List AV)} {v:AV} (r:Own h lo n w tg rows v) (hp:plain v=true):Own h' lo' n' w tg rows v:=by
 rcases r.is with ⟨h1,h2 | ⟨b,_,_,h4,_⟩⟩ | ⟨_,b,_,_,h4,_⟩
 ·subst h1;subst h2;exact ⟨fun x hx=>(by cases hx),.inl ⟨rfl,.inl rfl⟩⟩
 ·subst h4;cases hp
 ·subst h4;cases hp
theorem Own.apart {h:Heap} {lo n w tg c o:Nat} {rows:List (List AV)} {v:AV} (r:Own h lo n w tg rows v) (hc:c<lo):apartA v (.ptr c o)=true:=by
 rcases r.is with ⟨_,h2 | ⟨b,h0,_,h4,_⟩⟩ | ⟨_,b,h0,_,h4,_⟩
 ·subst h2;rfl
 ·subst h4;exact apart_slice (by omega)
 ·subst h4;exact apart_slice (by omega)
theorem Own.apart2 {h:Heap} {lo n w tg c o:Nat} {rows:List (List AV)} {v:AV} (r:Own h lo n w tg rows v) (hc:n≤c):apartA v (.ptr c o)=true:=by
 rcases r.is with ⟨_,h2 | ⟨b,_,h0,h4,_⟩⟩ | ⟨_,b,_,h0,h4,_⟩
 ·subst h2;rfl
 ·subst h4;exact apart_slice (by omega)
 ·subst h4;exact apart_slice (by omega)
theorem append_own {s:St} {lo n0 w bytes tg:Nat} {rows:List (List AV)} {v:AV} (r:Own s.h lo n0 w tg rows v) (hn:n0≤s.n) {p sz:Nat} {row:List AV} (hp:s.h.get p=some (.cells row sz)) (hw:row.length=w) (hsc:scalars row=true)
  (hb:(rows.length+1) * bytes≤1000000) (htg:szOf (w+tg)=w) (hs:s.n<549755813888) :
  ∃ s',appendA false w bytes tg s v (.slice p 0 1 1 false)=.val (.slice s.n 0 (rows.length+1) (rows.length+1) true) s'∧IsAt s'.h s'.n s.n w tg (rows++[row]) (.slice s.n 0 (rows.length+1) (rows.length+1) true)∧s'.n=s.n+1∧(∀ c,c<s.n→(c<lo∨n0≤c)→s'.h.get c=s.h.get c)∧(∀ k,k≤lo→k≤s.n→k≤s.m→k≤s'.m)∧s'.m≤s.m:=by
 rcases r.is with ⟨h1,h2 | ⟨b,h0,h3,h4,h5⟩⟩ | ⟨h1,b,h0,h3,h4,h5⟩
 ·obtain ⟨s',e1,e2,e3,e4,e5,e6⟩:=append_at (bytes:=bytes) (⟨r.wide,.inl ⟨h1,h2⟩⟩:IsAt s.h s.n s.n w tg rows v) hp hw hsc hb htg hs
  exact ⟨s',e1,e2,e3,fun c hc _=>e4 c hc (by omega),fun k _ hk hm=>e5 k hk hk hm,e6⟩
 ·have bl:Blk s.h s.n b w tg rows v:=⟨r.wide,false,0,by rw [h4,h1];rfl,by omega,by rw [h5,h1];rfl,fun h=>by cases h⟩
  obtain ⟨s',e1,e2,e3,e4,e5,e6⟩:=append_blk (bytes:=bytes) bl hp hw hsc hb htg hs
  refine ⟨s',e1,⟨e2.wide,.inr ⟨by simp,by omega,by simp,?_⟩⟩,e3,fun c hc hl=>e4 c hc (by omega),fun k hk _ hm=>e5 k (by omega) hm,e6⟩
  obtain ⟨e,sz',z1,z2,z3,z4⟩:=e2.is
  injection z1 with _ _ _ _ z5
  rw [z3,z4 z5.symm]
 ·have bl:Blk s.h s.n b w tg rows v:=⟨r.wide,true,_,h4,by omega,h5,fun _=>rfl⟩
  obtain ⟨s',e1,e2,e3,e4,e5,e6⟩:=append_blk (bytes:=bytes) bl hp hw hsc hb htg hs
  refine ⟨s',e1,⟨e2.wide,.inr ⟨by simp,by omega,by simp,?_⟩⟩,e3,fun c hc hl=>e4 c hc (by omega),fun k hk _ hm=>e5 k (by omega) hm,e6⟩
  obtain ⟨e,sz',z1,z2,z3,z4⟩:=e2.is
  injection z1 with _ _ _ _ z5
  rw [z3,z4 z5.symm]
theorem IsAt.seq {h:Heap} {n b w tg:Nat} {rows:List (List AV)} {v:AV} (r:IsAt h n b w tg rows v):Seq h n w rows v:=r.rows.seq
end Go.Abs
namespace Go.Proofs.Ytkkdiibgjgnbhaa.walk
open Go.Abs Go.Proofs.Ytkkdiibgjgnbhaa.code
def LAt (h:Heap) (n bl:Nat) (l:List Int) (v:AV):Prop:=∃ x,x≠bl∧IsAt h n x 1 (tag 3) (intRows l) v
theorem LAt.nil (h:Heap) (n bl:Nat):LAt h n bl [] .nilslice:=⟨bl+1,by omega,IsAt.nil _ _ _ _ _⟩
theorem LAt.move {h h':Heap} {n n' bl bl':Nat} {l:List Int} {v:AV} (a:LAt h n bl l v) (hh:∀ c,c<n→c≠bl→h'.get c=h.get c) (hn:n≤n') (hb:bl'=bl∨n≤bl'):LAt h' n' bl' l v:=by
 obtain ⟨x,h1,h2⟩:=a
 rcases h2.is with ⟨h3,h4⟩ | ⟨_,h3,_⟩
 ·exact ⟨bl'+1,by omega,h2.wide,.inl ⟨h3,h4⟩⟩
 ·exact ⟨x,by omega,h2.mono (fun _=>hh x h3 h1) hn⟩
theorem LAt.rows {h:Heap} {n bl:Nat} {l:List Int} {v:AV} (a:LAt h n bl l v):RowsAt h n 1 (intRows l) v:=by obtain ⟨x,_,h⟩:=a;exact h.rows.at_
theorem LAt.seq {h:Heap} {n bl:Nat} {l:List Int} {v:AV} (a:LAt h n bl l v):Seq h n 1 (intRows l) v:=by obtain ⟨x,_,h⟩:=a;exact h.seq
theorem isAt_blk {h:Heap} {n b w tg:Nat} {rows:List (List AV)} {v:AV} (r:IsAt h n b w tg rows v) (hne:rows≠[]):Blk h n b w tg rows v:=by
 rcases r.is with ⟨z,_⟩ | ⟨_,z1,z2,z3⟩
 ·exact absurd z hne
 ·exact ⟨r.wide,true,_,z2,z1,z3,fun _=>rfl⟩
def RAt (h:Heap) (n bl:Nat) (l:List Int) (v:AV):Prop:=∃ x,x≠bl∧Blk h n x 1 (tag 3) (intRows l) v
theorem RAt.move {h h':Heap} {n n' bl bl':Nat} {l:List Int} {v:AV} (a:RAt h n bl l v) (hh:∀ c,c<n→c≠bl→h'.get c=h.get c) (hn:n≤n') (hb:bl'=bl∨n≤bl'):RAt h' n' bl' l v:=by
 obtain ⟨x,h1,h2⟩:=a
 have:=h2.lt
 exact ⟨x,by omega,h2.mono (hh x this h1) hn⟩
theorem RAt.rows {h:Heap} {n bl:Nat} {l:List Int} {v:AV} (a:RAt h n bl l v):RowsAt h n 1 (intRows l) v:=by obtain ⟨x,_,h⟩:=a;exact h.at_
theorem RAt.seq {h:Heap} {n bl:Nat} {l:List Int} {v:AV} (a:RAt h n bl l v):Seq h n 1 (intRows l) v:=by
 obtain ⟨x,_,h⟩:=a
 obtain ⟨e,sz,h1,h2,h3,_⟩:=h.is
 exact ⟨h.wide,.inr ⟨x,0,_,e,_,sz,h2,h1,h3,by rw [cut_zero,← flatten_len h.wide,cut1_all]⟩⟩
structure FactM (h:Heap) (n bl:Nat) (F:Fc) (v5 v6:AV):Prop where
 o:LAt h n bl F.1 v5
 e:(F.2=[]∧v6=.nilslice)∨∃ row w b,F.2=[row]∧row≠[]∧b≠bl∧IsAt h n b 1 (tag 22) [[w]] v6∧RAt h n bl row w
theorem FactM.move {h h':Heap} {n n' bl bl':Nat} {F:Fc} {v5 v6:AV} (a:FactM h n bl F v5 v6) (hh:∀ c,c<n→c≠bl→h'.get c=h.get c) (hn:n≤n') (hb:bl'=bl∨n≤bl'):FactM h' n' bl' F v5 v6:=by
 refine ⟨a.o.move hh hn hb,a.e.imp id fun ⟨row,w,b,h1,h0,h2,h3,h4⟩=>⟨row,w,b,h1,h0,?_,?_,h4.move hh hn hb⟩⟩
 ·rcases h3.is with ⟨z,_⟩ | ⟨_,z,_⟩
  ·cases z
  ·omega
 ·refine h3.mono (fun hl=>hh b hl h2) hn
theorem FactM.at_ {h:Heap} {n bl:Nat} {F:Fc} {v5 v6:AV} (a:FactM h n bl F v5 v6):FactAt h n F.1 F.2 v5 v6:=by
 refine ⟨a.o.rows,?_,?_,?_⟩
 ·rcases a.e with ⟨_,h2⟩ | ⟨row,w,b,h1,h0,h2,h3,h4⟩
  ·intro t;rw [h2];rfl
  ·exact h3.okA
 ·rcases a.e with ⟨h1,h2⟩ | ⟨row,w,b,h1,h0,h2,h3,h4⟩
  ·intro s;rw [h1,h2];rfl
  ·intro s;rw [h1];exact h3.rows.at_.len s
 ·intro k hk
  rcases a.e with ⟨h1,h2⟩ | ⟨row,w,b,h1,h0,h2,h3,h4⟩
  ·rw [h1] at hk;simp at hk
  ·have k0:k=0:=by rw [h1] at hk;simp at hk;exact hk
   subst k0
   obtain ⟨b',p,c,sz,q1,q2,q3,q4⟩:=h3.rows.at_.at_ 0 (by simp)
   refine ⟨b',p,c,sz,w,q1,q2,q3,cut1_nth q4,fun t=>okA_ne h4.rows.ne,?_⟩
   have:F.2[0]=row:=by simp [h1]
   rw [this]
   exact h4.rows
theorem FactM.scal {h:Heap} {n bl:Nat} {F:Fc} {v5 v6:AV} (a:FactM h n bl F v5 v6):scalars [v5,v6]=true:=by
 obtain ⟨x,_,h⟩:=a.o
 rw [scals_cons h.scal.1]
 rcases a.e with ⟨_,h2⟩ | ⟨row,w,b,h1,h0,h2,h3,h4⟩
 ·rw [h2];rfl
 ·exact h3.scal.1
theorem factM_nil (h:Heap) (n bl:Nat):FactM h n bl ([],[]) .nilslice .nilslice:=⟨LAt.nil _ _ _,.inl ⟨rfl,rfl⟩⟩
def FactsM (h:Heap) (n bl:Nat) (L:List Fc) (v:AV):Prop :=
 ∃ rows:List (AV × AV),rows.length=L.length∧IsAt h n bl 2 (tag 36) (rows.map fun p=>[p.1,p.2]) v∧∀ j (h1:j<rows.length) (h2:j<L.length),FactM h n bl L[j] rows[j].1 rows[j].2
theorem FactsM.nil (h:Heap) (n bl:Nat):FactsM h n bl [] .nilslice:=⟨[],rfl,IsAt.nil _ _ _ _ _,fun j h1 _=>by simp at h1⟩
theorem FactsM.move {h h':Heap} {n n' bl:Nat} {L:List Fc} {v:AV} (a:FactsM h n bl L v) (hh:∀ c,c<n→h'.get c=h.get c) (hn:n≤n'):FactsM h' n' bl L v:=by
 obtain ⟨rows,h1,h2,h3⟩:=a
 exact ⟨rows,h1,h2.mono (fun h=>hh _ h) hn,fun j j1 j2=>(h3 j j1 j2).move (fun c hc _=>hh c hc) hn (.inl rfl)⟩
theorem FactsM.none {h h':Heap} {n n' bl bl':Nat} {L:List Fc} {v:AV} (a:FactsM h n bl L v) (hp:plain v=true):FactsM h' n' bl' L v:=by
 obtain ⟨rows,h1,h2,h3⟩:=a
 rcases h2.is with ⟨z,z2⟩ | ⟨_,_,z,_⟩
 ·rw [List.map_eq_nil_iff] at z
  subst z
  have:L=[]:=List.length_eq_zero_iff.mp h1.symm
  subst this
  subst z2
  exact FactsM.nil _ _ _
 ·subst z;cases hp
theorem FactsM.okA {h:Heap} {n bl:Nat} {L:List Fc} {v:AV} (a:FactsM h n bl L v) (t:St):Abs.okA (.val v t)=.val v t:=by obtain ⟨rows,h1,h2,h3⟩:=a;exact h2.okA t
theorem FactsM.len {h:Heap} {n bl:Nat} {L:List Fc} {v:AV} (a:FactsM h n bl L v) (s:St):lenSlA s v=.val (.int .i64 L.length) s:=by
 obtain ⟨rows,h1,h2,h3⟩:=a
 have:=h2.rows.at_.len s
 rw [List.length_map,h1] at this
 exact this
theorem FactsM.push {s:St} {bl:Nat} {L:List Fc} {v:AV} (a:FactsM s.h s.n bl L v) {F:Fc} {v5 v6:AV} (hF:FactM s.h s.n bl F v5 v6) {p sz:Nat} (hp:s.h.get p=some (.cells [v5,v6] sz)) (hl:L.length+1≤20000) (hs:s.n+10≤far) :
  ∃ v' s',appendA false 2 48 (tag 36) s v (.slice p 0 1 1 false)=.val v' s'∧FactsM s'.h s'.n s.n (L++[F]) v'∧s'.n=s.n+1∧(∀ c,c<s.n→c≠bl→s'.h.get c=s.h.get c)∧(∀ k,k≤bl→k≤s.n→k≤s.m→k≤s'.m)∧s'.m≤s.m:=by
 have hf:far=1000000000:=rfl
 obtain ⟨rows,h1,h2,h3⟩:=a
 obtain ⟨s',e1,e2,e3,e4,e5,e6⟩:=append_at (bytes:=48) h2 hp rfl hF.scal (by rw [List.length_map];omega) (by kernel_rfl) (by omega)
 refine ⟨_,s',e1,⟨rows++[(v5,v6)],by simp [h1],?_,fun j j1 j2=>?_⟩,e3,e4,e5,e6⟩
 ·rw [List.map_append];exact e2
 ·by_cases e:j<rows.length
  ·rw [List.getElem_append_left e,List.getElem_append_left (by omega)]
   exact (h3 j e (by omega)).move (fun c hc hb=>e4 c hc hb) (by omega) (.inr (Nat.le_refl _))
  ·have hj:j=rows.length:=by rw [List.length_append,List.length_singleton] at j1;omega
   subst hj
   rw [List.getElem_append_right (Nat.le_refl _),List.getElem_append_right (by omega)]
   simp only [h1,Nat.sub_self,List.getElem_singleton]
   exact hF.move (fun c hc hb=>e4 c hc hb) (by omega) (.inr (Nat.le_refl _))
theorem FactsM.get {h:Heap} {n bl:Nat} {L:List Fc} {v:AV} (a:FactsM h n bl L v) {j:Nat} (hj:j<L.length) :
  ∃ v5 v6 p c sz,FactM h n bl L[j] v5 v6∧bl<n∧(∀ s,ixsA 2 s v (.int .i64 j)=.val (.ptr bl p) s)∧h.get bl=some (.cells c sz)∧cut p 2 c=some [v5,v6]:=by
 obtain ⟨rows,h1,h2,h3⟩:=a
 have hr:j<rows.length:=by omega
 rcases h2.is with ⟨z,_⟩ | ⟨_,z1,z2,z3⟩
 ·rw [List.map_eq_nil_iff] at z
  subst z
  simp at hr
 ·refine ⟨rows[j].1,rows[j].2,0+j * 2,_,_,h3 j hr hj,z1,fun s=>by rw [z2];exact ixs_slice 2 s bl 0 _ _ true j (by rw [List.length_map];exact hr),z3,?_⟩
  rw [Nat.zero_add]
  have:=flatten_cut (rows:=rows.map fun p=>[p.1,p.2]) (w:=2) (i:=j) h2.wide (by rw [List.length_map];exact hr)
  rw [this]
  simp
structure Few (b:Bench):Prop where
 m:∀ m ∈ b.ms,m.hi≤m.lo+4
 s:∀ s ∈ b.ss,s.fh≤s.fl+4∧s.dh≤s.dl+2
 one:b.ss.length=1
theorem spanL_len (lo hi:Int) (k:Nat) (h:hi≤lo+k):(spanL lo hi).length≤k+1:=by
 unfold spanL
 rw [List.length_map,List.length_range]
 omega
theorem mAt_in {b:Bench} {i:Nat} (h:i<b.ms.length):mAt b i ∈ b.ms:=by unfold mAt;simp [List.getD,h]
theorem sAt_in {b:Bench} {i:Nat} (h:i<b.ss.length):sAt b i ∈ b.ss:=by unfold sAt;simp [List.getD,h]
theorem goOn_len {b:Bench} (fw:Few b) {f:Fc} (hp:Part b f) {l:List Fc} (h:goOn b f=some l):l.length≤5:=by
 have h2:=hp.l2
 unfold goOn at h
 by_cases c1:f.1.length<b.ms.length
 ·rw [if_pos c1] at h
  cases h
  rw [List.length_map]
  exact spanL_len _ _ 4 (fw.m _ (mAt_in c1))
 ·rw [if_neg c1] at h
  by_cases c2:0<f.2.length∧(f.2.getD (f.2.length - 1) []).length≤b.days
  ·rw [if_pos c2] at h
   cases h
   rw [List.length_map]
   exact spanL_len _ _ 4 (by have:=(fw.s _ (sAt_in (show f.2.length - 1<b.ss.length by omega))).2;omega)
  ·rw [if_neg c2] at h
   by_cases c3:f.2.length<b.ss.length
   ·rw [if_pos c3] at h
    cases h
    rw [List.length_map]
    exact spanL_len _ _ 4 (fw.s _ (sAt_in c3)).1
   ·rw [if_neg c3] at h;cases h
theorem flatMap_len {α β:Type} (l:List α) (f:α→List β) (k:Nat) (h:∀ x ∈ l,(f x).length≤k):(l.flatMap f).length≤l.length * k:=by
 induction l with
 | nil=>simp
 | cons a l ih =>
  have h1:=h a (List.mem_cons_self ..)
  have h2:=ih fun x hx=>h x (List.mem_cons_of_mem _ hx)
  rw [List.flatMap_cons,List.length_append,List.length_cons,Nat.succ_mul]
  omega
theorem pow5_pos:∀ n:Nat,1≤5 ^ n
 | 0=>Nat.le_refl _
 | n+1=>by have:=pow5_pos n;rw [Nat.pow_succ];omega
theorem factsL_len {b:Bench} (fw:Few b):∀ (N:Nat) (f:Fc),Part b f→(factsL b N f).length≤5 ^ N
 | 0,f,_=>Nat.zero_le _
 | N+1,f,hp=>by
  unfold factsL
  cases hg:goOn b f with
  | some l =>
   have h1:=goOn_len fw hp hg
   have h2:=flatMap_len l (fun c=>factsL b N c) (5 ^ N) fun c hc=>factsL_len fw N c (part_goes hp hg c hc)
   show (l.flatMap fun c=>factsL b N c).length≤5 ^ (N+1)
   refine Nat.le_trans h2 ?_
   rw [Nat.pow_succ,Nat.mul_comm]
   exact Nat.mul_le_mul_left _ h1
  | none =>
   have p:=pow5_pos (N+1)
   by_cases ht:Tells b f.1 f.2
   ·simp only [if_pos ht,List.length_singleton];omega
   ·simp only [if_neg ht,List.length_nil];omega
theorem fits_loose {b:Bench} (ok:b.Ok) {offs:List Int} {errs:List (List Int)} (h:Fits b offs errs):Loose b offs errs:=by
 refine ⟨h.ol,fun i hi=>?_,h.el,h.len,fun k hk d hd=>?_⟩
 ·have h1:=h.off i hi
  have h2:=ok.mok _ (List.getElem_mem hi)
  have:=h2.o0
  have:=h2.o2
  omega
 ·have o:=ok.sok _ (List.getElem_mem hk)
  have f0:=o.f0
  have f2:=o.f2
  have d0:=o.d0
  have d2:=o.d2
  have c:=ok.d1
  have key:∀ d:Nat,d≤b.days → -(10000+10000 * (d:Int))≤errIn errs k d∧errIn errs k d≤10000+10000 * (d:Int):=by
   intro d
   induction d with
   | zero=>intro _;have:=h.first k hk;omega
   | succ d ih =>
    intro hd
    have h1:=ih (by omega)
    have h2:=h.drift k hk d (by omega)
    omega
  have:=key d hd
  omega
end Go.Proofs.Ytkkdiibgjgnbhaa.walk
set_option maxRecDepth 10000
namespace Go.Proofs.Ytkkdiibgjgnbhaa.walk
open Go.Abs Go.Proofs.Ytkkdiibgjgnbhaa.code
theorem int_scalars (l:List Int):∀ r ∈ intRows l,scalars r=true:=by
 intro r hr
 unfold intRows at hr
 obtain ⟨f,_,rfl⟩:=List.mem_map.mp hr
 rfl
theorem CopyInts_ex {N:Nat} {l:List Int} {v:AV} {s:St} {r:ARes} (hr:call Try.prog X N (.fn 13) [v] s=r) (hN:1≤N) (hv:Seq s.h s.n 1 (intRows l) v) (hl:l.length≤1000) (hs:s.n+100≤far) :
  ∃ v' t,r=.val v' t∧New s t 3∧Own t.h s.n t.n 1 (tag 3) (intRows l) v':=by
 obtain ⟨n,rfl⟩:∃ n,N=n+1:=⟨N - 1,by omega⟩
 have hf:far=1000000000:=rfl
 obtain ⟨v',t,e,st,hq⟩:=call_new' (n:=n) (args:=[v]) (s:=s) (k:=3) (Q:=fun v' h m=>Own h s.n m 1 (tag 3) (intRows l) v') Try.func13 rfl (fun u uh un um=>by
  rw [← uh,← un] at hv
  rw [← un]
  obtain ⟨x1,hx1⟩:∃ x1:St,x1=u.new (.cells [] 0):=⟨_,rfl⟩
  have x1n:x1.n=u.n+1:=by rw [hx1];rfl
  have x1m:x1.m=far:=by rw [hx1];exact um
  have x1g:∀ c,c<u.n→x1.h.get c=u.h.get c:=fun c hc=>by rw [hx1,get_new_ne _ _ _ (by omega)]
  obtain ⟨a1,s1,e1,own1,ln1,le1,same1,m1,mm1⟩:=append_copy (bytes:=8) (tg:=tag 3) (p:=u.n) (hv.grow (h':=x1.h) (n':=x1.n) x1g (by omega)) (by rw [hx1];exact get_new_eq _ _ _ rfl (by omega)) (by omega) (int_scalars l) (by rw [intRows_len];omega) (by omega)
  rw [hx1] at e1
  obtain ⟨p1,q1,z1⟩:=own1.seq.scalar
  have kv:∀ t,okA (.val v t)=.val v t:=(hv.scalar).1
  rw [enter13]
  simp (disch:=first|omega|(with_unfolding_all exact rfl)|(simp only[new_n,put_n,new_m];omega)|(refine put_m_le ?_;simp only[new_m];omega)) only [res13,K13r0,K13r1,K13,Abs.W,reduceIte,Nat.reduceEqDiff,e1,Nat.zero_add]
  have mw1:=m1 u.n (Nat.le_refl _) (by omega)
  exact ⟨a1,s1,rfl,⟨fun c hc=>(same1 c (by omega)).trans (x1g c hc),by omega,by omega,mw1,by omega⟩,own1,fun hp=>own1.none hp⟩)
 exact ⟨v',t,hr.symm.trans e,st,hq⟩
def TabC (h:Heap) (lo n:Nat) (e:List (List Int)) (v:AV):Prop:=(e=[]∧v=.nilslice)∨∃ row w b m,e=[row]∧row≠[]∧lo≤m∧m≤b∧IsAt h n b 1 (tag 22) [[w]] v∧Own h lo m 1 (tag 3) (intRows row) w
theorem TabC.mono {h h':Heap} {lo n n':Nat} {e:List (List Int)} {v:AV} (a:TabC h lo n e v) (hh:∀ c,lo≤c→c<n→h'.get c=h.get c) (hn:n≤n'):TabC h' lo n' e v:=by
 rcases a with a | ⟨row,w,b,m,h1,h2,h3,h4,h5,h6⟩
 ·exact .inl a
 ·rcases h5.is with ⟨z,_⟩ | ⟨_,z,_⟩
  ·cases z
  ·exact .inr ⟨row,w,b,m,h1,h2,h3,h4,h5.mono (fun _=>hh b (by omega) z) hn,h6.move (fun c h7 h8=>hh c h7 (by omega)) (Nat.le_refl _) (Nat.le_refl _)⟩
theorem TabC.okA {h:Heap} {lo n:Nat} {e:List (List Int)} {v:AV} (a:TabC h lo n e v) (t:St):Abs.okA (.val v t)=.val v t:=by
 rcases a with ⟨_,h2⟩ | ⟨row,w,b,m,h1,h2,h3,h4,h5,h6⟩
 ·rw [h2];rfl
 ·exact h5.okA t
theorem TabC.none {h h':Heap} {lo n n':Nat} {e:List (List Int)} {v:AV} (a:TabC h lo n e v) (hp:plain v=true):TabC h' lo n' e v:=by
 rcases a with a | ⟨row,w,b,m,h1,h2,h3,h4,h5,h6⟩
 ·exact .inl a
 ·rcases h5.is with ⟨z,_⟩ | ⟨_,_,z,_⟩
  ·cases z
  ·rw [z] at hp;cases hp
theorem CopyTable_ex {N bl:Nat} {e:List (List Int)} {v:AV} {s:St} {r:ARes} (hr:call Try.prog X N (.fn 14) [v] s=r) (hN:2≤N)
  (he:(e=[]∧v=.nilslice)∨∃ row w b,e=[row]∧row≠[]∧b≠bl∧IsAt s.h s.n b 1 (tag 22) [[w]] v∧RAt s.h s.n bl row w) (hl:∀ row ∈ e,row.length≤1000) (hs:s.n+1000≤far) :
  ∃ v' t,r=.val v' t∧New s t 20∧TabC t.h s.n t.n e v':=by
 obtain ⟨n,rfl⟩:∃ n,N=n+1:=⟨N - 1,by omega⟩
 have hf:far=1000000000:=rfl
 obtain ⟨v',t,e',st,hq⟩:=call_new' (n:=n) (args:=[v]) (s:=s) (k:=20) (Q:=fun v' h m=>TabC h s.n m e v') Try.func14 rfl (fun u uh un um=>by
  rw [← uh,← un] at he
  rw [← un]
  have kv:∀ t,okA (.val v t)=.val v t:=fun t=>by
   rcases he with ⟨_,h2⟩ | ⟨row,w,b,h1,h0,h2,h3,h4⟩
   ·rw [h2];rfl
   ·exact h3.okA t
  have lv:∀ s,lenSlA s v=.val (.int .i64 (e.length:Int)) s:=fun s=>by
   rcases he with ⟨h1,h2⟩ | ⟨row,w,b,h1,h0,h2,h3,h4⟩
   ·rw [h1,h2];rfl
   ·rw [h1];exact h3.rows.at_.len s
  have el:e.length≤1:=by
   rcases he with ⟨h1,h2⟩ | ⟨row,w,b,h1,h0,h2,h3,h4⟩
   ·rw [h1];simp
   ·rw [h1];simp
  rw [enter14]
  simp (disch:=first|omega|(with_unfolding_all exact rfl)|(simp only[new_n,put_n,new_m];omega)|(refine put_m_le ?_;simp only[new_m];omega)) only [K14r0,K14r1,K14r2,K14r6,K14,Abs.W,reduceIte,Nat.reduceEqDiff,kLoop_def,Nat.zero_add]
  generalize hlp:loopN _ rounds _ _ _ _ _=rl
  obtain ⟨w,L0,hw,hL0,hlp'⟩:=loop_start hlp
  obtain ⟨ex,L1,s1,rfl,rfl,v3,f3,hb,hT⟩:=loop_of hlp' (fun i L' t'=>L'.find 0=v∧L'.find 4=.int .i64 (i:Int)∧∃ v3,L'.find 3=v3∧Beside u t' (10 * i)∧TabC t'.h u.n t'.n (e.take i) v3)
   (fun ex L' t'=>ex=.exit 0∧∃ v3,L'.find 3=v3∧Beside u t' 10∧TabC t'.h u.n t'.n e v3) e.length (by unfold rounds;omega)
   ⟨by rw [hL0];simp only [find_cons,reduceIte,Nat.reduceEqDiff],by rw [hL0];simp only [find_cons,reduceIte,Nat.reduceEqDiff];rfl,.nilslice,by rw [hL0];simp only [find_cons,reduceIte,Nat.reduceEqDiff],by rw [hw];exact Beside.refl u (by omega) um,.inl ⟨rfl,rfl⟩⟩
   (fun i L' t' hi ⟨q0,q4,v3,q3,hb,hT⟩=>by
    have tn:=hb.n
    have tl:=hb.le
    by_cases hlt:i<e.length
    ·obtain rfl:i=0:=by omega
     rcases he with ⟨h1,_⟩ | ⟨row,w,b,h1,h0,h2,h3,h4⟩
     ·rw [h1] at hlt;simp at hlt
     subst h1
     have v3n:v3=.nilslice:=by
      rcases hT with ⟨_,h⟩ | ⟨_,_,_,_,h,_⟩
      ·exact h
      ·cases h
     subst v3n
     obtain ⟨b',p,c,sz,z1,z2,z3,z4⟩:=h3.rows.at_.at_ 0 (by simp)
     have z3':=(hb.same _ z1).trans z3
     have z4':nth c p=w:=cut1_nth z4
     have e0:decide (((0:Nat):Int)<((1:Nat):Int))=true:=rfl
     have kw:∀ t,okA (.val w t)=.val w t:=fun t=>okA_ne h4.rows.ne
     have ad:∀ s,aAdd s .i64 ((0:Nat):Int) 1=.val (.int .i64 ((1:Nat):Int)) s:=fun s=>aAdd_i64 s _ _ (by omega)
     simp (disch:=first|omega|(with_unfolding_all exact rfl)|(simp only[new_n,put_n,new_m];omega)|(refine put_m_le ?_;simp only[new_m];omega)) only [K14r3,K14r4,K14r5,K14l0,Abs.W,reduceIte,Nat.reduceEqDiff,Env.find_set,Nat.zero_add,q0,q3,q4,lv,e0,z2,z3',z4',kw]
     generalize hc:call _ _ _ (.fn 13) _ _=rc
     obtain ⟨w',t1,rfl,st1,own⟩:=CopyInts_ex (l:=row) hc (by omega) ((h4.seq).grow hb.same tn) (hl row (by simp)) (by omega)
     have n1:=st1.n
     have k1:=st1.le
     obtain ⟨p1,q1,y1⟩:=own.seq.scalar
     have y1':scalars [w']=true:=by rw [y1];rfl
     simp (disch:=first|omega|(with_unfolding_all exact rfl)|(simp only[new_n,put_n,new_m];omega)|(refine put_m_le ?_;simp only[new_m];omega)) only [Abs.W,reduceIte,Nat.reduceEqDiff,Nat.reduceSub,Env.find_set,q1]
     obtain ⟨y,hy⟩:∃ y:St,y=t1.new (.cells [w'] 0):=⟨_,rfl⟩
     rw [← hy]
     have yn:y.n=t1.n+1:=by rw [hy];rfl
     have ym:y.m=t1.m:=by rw [hy];rfl
     have yg:∀ c,c<t1.n→y.h.get c=t1.h.get c:=fun c hc=>by rw [hy];exact get_new_ne _ _ _ (by omega)
     have yp:y.h.get t1.n=some (.cells [w'] 0):=by rw [hy];exact get_new_eq _ _ _ rfl (by omega)
     obtain ⟨s7,e7,l7,s7n,s7g,s7m,s7l⟩:=append_at (bytes:=24) (IsAt.nil y.h y.n y.n 1 (tag 22)) yp rfl y1' (by simp) (by kernel_rfl) (by omega)
     have e7':appendA false 1 24 (tag 22) y .nilslice (.slice t1.n 0 1 1 false)=.val (.slice y.n 0 1 1 true) s7:=e7
     simp (disch:=first|omega|(with_unfolding_all exact rfl)|(simp only[new_n,put_n,new_m];omega)|(refine put_m_le ?_;simp only[new_m];omega)) only [Abs.W,reduceIte,Nat.reduceEqDiff,Env.find_set,e7',q4,ad]
     have stm:=st1.m
     have g7:∀ c,c<t1.n→s7.h.get c=t1.h.get c:=fun c hc=>(s7g c (by omega) (by omega)).trans (yg c hc)
     refine .inl ⟨by simp,_,_,rfl,by simp only [Env.find_set,q0,reduceIte,Nat.reduceEqDiff],by simp only [Env.find_set,reduceIte,Nat.reduceEqDiff],.slice y.n 0 1 1 true,by simp only [Env.find_set,reduceIte,Nat.reduceEqDiff],⟨fun c hc=>(g7 c (by omega)).trans ((st1.same c (by omega)).trans (hb.same c hc)),by omega,by omega,?_,?_⟩,.inr ⟨row,w',y.n,t1.n,rfl,h0,by omega,by omega,l7,?_⟩⟩
     ·have:=hb.m
      have:=s7m u.n (by omega) (by omega) (by omega)
      omega
     ·have:=hb.far
      omega
     ·exact own.move (fun c _ hc=>g7 c hc) (by omega) (Nat.le_refl _)
    ·obtain rfl:i=e.length:=by omega
     rw [List.take_length] at hT
     have e1:decide ((e.length:Int)<(e.length:Int))=false:=by simp
     refine .inr ⟨.exit 0,L'.set 8 (.bool false),t',by simp,?_,rfl,v3,?_,hb.mono (by omega),hT⟩
     ·simp (disch:=first|omega|(with_unfolding_all exact rfl)|(simp only[new_n,put_n,new_m];omega)|(refine put_m_le ?_;simp only[new_m];omega)) only [K14r3,K14r4,K14r5,K14l0,Abs.W,reduceIte,Nat.reduceEqDiff,Env.find_set,q0,q4,lv,e1]
     ·simp only [Env.find_set,q3,reduceIte,Nat.reduceEqDiff])
  have k3:=fun t=>hT.okA t
  simp (disch:=first|omega|(with_unfolding_all exact rfl)|(simp only[new_n,put_n,new_m];omega)|(refine put_m_le ?_;simp only[new_m];omega)) only [res14,Abs.W,reduceIte,Nat.reduceEqDiff,Env.find_set,f3]
  exact ⟨v3,_,rfl,hb.mono (by omega),hT,fun hp=>hT.none hp⟩)
 exact ⟨v',t,hr.symm.trans e',st,hq⟩
end Go.Proofs.Ytkkdiibgjgnbhaa.walk
set_option maxRecDepth 10000
namespace Go.Proofs.Ytkkdiibgjgnbhaa.walk
open Go.Abs Go.Proofs.Ytkkdiibgjgnbhaa.code
theorem Made.cellsAt {h:Heap} {n d p13 p14 lo:Nat} {b:Bench} {offs:List Int} {errs:List (List Int)} {rv:List AV} {xs:List Nat} {bs:Nat→Nat} {vs:Nat→AV} (m:Made h n d p13 p14 lo b offs errs rv xs bs vs) (k:Nat) (hne:benchR b offs rv k≠[]) :
  bs k<n∧vs k=.slice (bs k) 0 (benchR b offs rv k).length (benchR b offs rv k).length true∧h.get (bs k)=some (.cells (benchR b offs rv k).flatten (benchW k+benchT k)):=by
 rcases (m.ls.at_ k).is with ⟨h,_⟩ | ⟨_,h1,h2,h3⟩
 ·exact absurd h hne
 ·exact ⟨h1,h2,h3⟩
theorem mass_wide (l:List Mass):∀ r ∈ l.map Mass.cells,r.length=3:=fun r hr=>by obtain ⟨x,_,rfl⟩:=List.mem_map.mp hr;rfl
theorem few_round (N:Nat) (cx:Ctx) {d p13 p14 lo i y3:Nat} {b:Bench} {offs:List Int} {errs:List (List Int)} {rv:List AV} {xs:List Nat} {bs:Nat→Nat} {vs:Nat→AV} {t:St} {L:Env} (m:Made t.h t.n d p13 p14 lo b offs errs rv xs bs vs) (ok:b.Ok) (hi:i<b.ms.length) (hs:t.n+1000≤far)
  (g3:t.h.get y3=some (.cells [vs 0,vs 1,vs 2,vs 3,.int .i64 b.days] (tag 28))) (q3:L.find 3=.ptr y3 0) (q6:L.find 6=.int .i64 i) :
  ∃ (L1:Env) (T:Mass),T.Ok∧T.hi≤T.lo+4∧K4l0 (call Try.prog X N) cx L [] t=.done .norm L1 [] (t.put (bs 0) (.cells ((b.ms.map Mass.cells).set i T.cells).flatten (3+tag 51)))∧L1.find 2=L.find 2∧L1.find 3=.ptr y3 0∧L1.find 6=.int .i64 (i+1:Nat)∧bs 0<t.n ∧
   t.h.get (bs 0)=some (.cells (b.ms.map Mass.cells).flatten (3+tag 51)):=by
 have hf:far=1000000000:=rfl
 have c1:=ok.m1
 obtain ⟨h1,h2,h3⟩:=m.cellsAt 0 (fun h=>by
  have:=congrArg List.length h
  rw [show benchR b offs rv 0=b.ms.map Mass.cells from rfl,List.length_map] at this
  simp at this;subst_vars;rw [this] at hi;simp at hi)
 rw [show benchR b offs rv 0=b.ms.map Mass.cells from rfl] at h2 h3
 rw [List.length_map] at h2
 have hw:=mass_wide b.ms
 have hm:i<(b.ms.map Mass.cells).length:=by rw [List.length_map];exact hi
 obtain ⟨M,hM⟩:∃ M,M=b.ms[i]:=⟨_,rfl⟩
 have okM:M.Ok:=by rw [hM];exact ok.mok _ (List.getElem_mem hi)
 obtain ⟨n0,n1,o0,o1,o2⟩:=okM
 have hset:(b.ms.map Mass.cells).set i M.cells=b.ms.map Mass.cells:=by
  rw [hM,← List.map_set]
  congr 1
  exact List.set_getElem_self hi
 have ld1:nth (b.ms.map Mass.cells).flatten (i * 3+1)=.int .i64 M.lo:=by
  have:=nth_cell hw hm M.cells 1 rfl (by omega)
  rw [hset] at this
  exact this
 have ld2:nth (b.ms.map Mass.cells).flatten (i * 3+1+1)=.int .i64 M.hi:=by
  have:=nth_cell hw hm M.cells 2 rfl (by omega)
  rw [hset] at this
  exact this
 obtain ⟨T,hT⟩:∃ T:Mass,T={ M with hi:=min M.hi (M.lo+4) }:=⟨_,rfl⟩
 have hTc:M.cells.set 2 (.int .i64 (min M.hi (M.lo+4)))=T.cells:=by rw [hT];rfl
 have ov:over (i * 3+1+1) [.int .i64 (min M.hi (M.lo+4))] (b.ms.map Mass.cells).flatten=some ((b.ms.map Mass.cells).set i T.cells).flatten:=by
  have:=over_cell hw hm M.cells 2 (.int .i64 (min M.hi (M.lo+4))) rfl (by omega)
  rw [hset,hTc] at this
  exact this
 have ka:∀ t,okA (.val (vs 0) t)=.val (vs 0) t:=(m.ls.at_ 0).okA
 have lv:∀ s,lenSlA s (vs 0)=.val (.int .i64 (b.ms.length:Int)) s:=fun s=>by rw [h2];rfl
 have ix:∀ s,ixsA 3 s (vs 0) (.int .i64 (i:Int))=.val (.ptr (bs 0) (i * 3)) s:=fun s=>by rw [h2,ixs_slice _ _ _ _ _ _ _ _ hi,Nat.zero_add]
 have e0:decide ((i:Int)<(b.ms.length:Int))=true:=decide_eq_true (by omega)
 have ad:∀ s,aAdd s .i64 (i:Int) 1=.val (.int .i64 ((i:Int)+1)) s:=fun s=>aAdd_i64 s _ _ (by omega)
 have ad4:∀ s,aAdd s .i64 M.lo 4=.val (.int .i64 (M.lo+4)) s:=fun s=>aAdd_i64 s _ _ (by omega)
 simp (disch:=first|omega|(with_unfolding_all exact rfl)|(simp only[new_n,put_n,new_m];omega)|(refine put_m_le ?_;simp only[new_m];omega)) only [K4r3,K4r4,K4r5,K4r6,K4l0,Abs.W,reduceIte,Nat.reduceEqDiff,Nat.reduceSub,Env.find_set,Nat.add_zero,q3,q6,g3,ka,lv,e0,ix,h3,ld1,ld2,ad4,kFold_def,foldA_nil,foldA_cons,minA_i64,ov,ad]
 refine ⟨_,T,by rw [hT];exact ⟨n0,n1,o0,by simp only;omega,by simp only;omega⟩,by rw [hT];simp only;omega,rfl,by simp only [Env.find_set,reduceIte,Nat.reduceEqDiff],by simp only [Env.find_set,q3,reduceIte,Nat.reduceEqDiff],by simp only [Env.find_set,reduceIte,Nat.reduceEqDiff];rfl,h1,rfl⟩
structure FewJ (w t:St) (d p13 p14 lo:Nat) (b:Bench) (offs:List Int) (errs:List (List Int)) (rv:List AV) (xs:List Nat) (bs:Nat→Nat) (vs:Nat→AV) (i:Nat) (ms:List Mass):Prop where
 made:Made t.h t.n d p13 p14 lo { b with ms:=ms } offs errs rv xs bs vs
 len:ms.length=b.ms.length
 ok:∀ m ∈ ms,m.Ok
 few:∀ j (h:j<ms.length),j<i→ms[j].hi≤ms[j].lo+4
 same:∀ c,c≠bs 0→t.h.get c=w.h.get c
 n:t.n=w.n
 m:∀ k,k≤bs 0→k≤w.m→k≤t.m
 mle:t.m≤w.m
theorem bench_ms {b:Bench} (ok:b.Ok) {ms:List Mass} (hl:ms.length=b.ms.length) (h:∀ m ∈ ms,m.Ok):Bench.Ok { b with ms:=ms } :=
 ⟨by show 1≤ms.length;have:=ok.m0;omega,by show ms.length≤5;have:=ok.m1;omega,h,ok.w1,fun w hw=>by show w.Ok ms.length;rw [hl];exact ok.wok w hw,ok.s0,ok.s1,ok.sok,ok.d1,ok.t1,fun t ht=>by show t.Ok b.ss.length ms.length b.days;rw [hl];exact ok.tok t ht⟩
theorem bench_ss {b:Bench} (ok:b.Ok) {ss:List Scl} (hl:ss.length=b.ss.length) (h:∀ m ∈ ss,m.Ok):Bench.Ok { b with ss:=ss } :=
 ⟨ok.m0,ok.m1,ok.mok,ok.w1,ok.wok,by show 1≤ss.length;have:=ok.s0;omega,by show ss.length≤3;have:=ok.s1;omega,h,ok.d1,ok.t1,fun t ht=>by show t.Ok ss.length b.ms.length b.days;rw [hl];exact ok.tok t ht⟩
theorem few_loop (N:Nat) {cx:Ctx} {d p13 p14 lo y3:Nat} {b:Bench} {offs:List Int} {errs:List (List Int)} {rv:List AV} {xs:List Nat} {bs:Nat→Nat} {vs:Nat→AV} {w:St} {L:Env} {r:R} (hr:loopN K4l0 rounds (call Try.prog X N) cx L [] w=r) (m:Made w.h w.n d p13 p14 lo b offs errs rv xs bs vs) (ok:b.Ok) (hs:w.n+1000≤far)
  (g3:w.h.get y3=some (.cells [vs 0,vs 1,vs 2,vs 3,.int .i64 b.days] (tag 28))) (hy:y3≠bs 0) (q3:L.find 3=.ptr y3 0) (q6:L.find 6=.int .i64 (0:Nat)) :
  ∃ L1 s1 ms,r=.done (.exit 0) L1 [] s1∧L1.find 2=L.find 2∧L1.find 3=.ptr y3 0∧FewJ w s1 d p13 p14 lo b offs errs rv xs bs vs b.ms.length ms:=by
 have hf:far=1000000000:=rfl
 have c1:=ok.m1
 obtain ⟨e,L1,s1,rfl,rfl,k2,k3,ms,hJ⟩:=loop_of hr (fun i L' t'=>L'.find 2=L.find 2∧L'.find 3=.ptr y3 0∧L'.find 6=.int .i64 i∧∃ ms,FewJ w t' d p13 p14 lo b offs errs rv xs bs vs i ms) (fun e L' t'=>e=.exit 0∧L'.find 2=L.find 2∧L'.find 3=.ptr y3 0∧∃ ms,FewJ w t' d p13 p14 lo b offs errs rv xs bs vs b.ms.length ms) b.ms.length (by unfold rounds;omega)
  ⟨rfl,q3,q6,b.ms,⟨m,rfl,ok.mok,fun j _ h=>absurd h (Nat.not_lt_zero _),fun _ _=>rfl,rfl,fun _ _ h=>h,Nat.le_refl _⟩⟩
  (fun i L' t' hi ⟨f2,f3,f6,ms,hJ⟩=>by
   obtain ⟨jm,jl,jo,jf,js,jn,jmm,jle⟩:=hJ
   by_cases hlt:i<b.ms.length
   ·obtain ⟨L2,T,T1,T2,p1,p2,p3,p4,p5,p6⟩:=few_round N cx (y3:=y3) jm (bench_ms ok jl jo) (by show i<ms.length;omega) (by omega) ((js y3 hy).trans g3) f3 f6
    have hml:i<ms.length:=by omega
    refine .inl ⟨hlt,L2,_,p1,p2.trans f2,p3,p4,ms.set i T,⟨jm.setMass (j:=i) hml T (by omega) _ p6,by rw [List.length_set];exact jl,fun x hx=>?_,fun j hj hji=>?_,fun c hc=>(get_put_ne' _ _ _ _ hc).trans (js c hc),jn,fun k h1 h2=>?_,Nat.le_trans (minN_le_left _ _) jle⟩⟩
    ·rcases List.mem_or_eq_of_mem_set hx with hx | hx
     ·exact jo x hx
     ·rw [hx];exact T1
    ·rw [List.getElem_set]
     by_cases e:i=j
     ·rw [if_pos e];exact T2
     ·rw [if_neg e];exact jf j (by rw [List.length_set] at hj;exact hj) (by omega)
    ·have:=jmm k h1 h2
     show k≤minN t'.m (bs 0)
     rw [minN_min];omega
   ·obtain rfl:i=b.ms.length:=by omega
    have e1:decide ((b.ms.length:Int)<(b.ms.length:Int))=false:=by simp
    have ka:∀ t,okA (.val (vs 0) t)=.val (vs 0) t:=(jm.ls.at_ 0).okA
    have lv:∀ s,lenSlA s (vs 0)=.val (.int .i64 (b.ms.length:Int)) s:=fun s=>by
     have:=(jm.ls.at_ 0).rows.at_.len s
     rw [show benchR { b with ms:=ms } offs rv 0=ms.map Mass.cells from rfl,List.length_map,jl] at this
     exact this
    have g3':=(js y3 hy).trans g3
    refine .inr ⟨.exit 0,L'.set 19 (.bool false),t',by simp,?_,rfl,?_,?_,ms,⟨jm,jl,jo,jf,js,jn,jmm,jle⟩⟩
    ·simp (disch:=first|omega|(with_unfolding_all exact rfl)|(simp only[new_n,put_n,new_m];omega)|(refine put_m_le ?_;simp only[new_m];omega)) only [K4r3,K4r4,K4r5,K4r6,K4l0,Abs.W,reduceIte,Nat.reduceEqDiff,Nat.reduceSub,Env.find_set,Nat.add_zero,f3,f6,g3',ka,lv,e1]
    ·simp only [Env.find_set,f2,reduceIte,Nat.reduceEqDiff]
    ·simp only [Env.find_set,f3,reduceIte,Nat.reduceEqDiff])
 exact ⟨L1,s1,ms,rfl,k2,k3,hJ⟩
theorem few_ex {N d:Nat} {s:St} {r:ARes} (hr:call Try.prog X N (.fn 4) [.ptr d 0] s=r) (hN:8≤N) (hd:Die d s.h) (hlt:d<s.n) (hs:s.n+40000≤far) :
  ∃ (b:Bench) (v1 v2 v3 v4:AV) (t:St),r=.val (.agg [v1,v2,v3,v4,.int .i64 b.days]) t∧Stir d s t 3000∧b.Ok∧Few b∧b.ms.length≤2∧b.days≤2∧BenchAt t.h t.n b v1 v2 v3 v4:=by
 obtain ⟨n,rfl⟩:∃ n,N=n+1:=⟨N - 1,by omega⟩
 have hf:far=1000000000:=rfl
 obtain ⟨v,t,e,st,b,v1,v2,v3,v4,rfl,hq1,hq2,hq3,hq4,hq5⟩:=call_stir (n:=n) (args:=[.ptr d 0]) (d:=d) (s:=s) (k:=3000) (Q:=fun v h n=>∃ (b:Bench) (v1 v2 v3 v4:AV),v=.agg [v1,v2,v3,v4,.int .i64 b.days]∧b.Ok∧Few b∧b.ms.length≤2∧b.days≤2∧BenchAt h n b v1 v2 v3 v4) Try.func4 rfl (fun u uh un um=>by
  rw [← uh] at hd
  rw [← un] at hlt
  have ex0:∀ (a b c:AV) (s:St),extA 0 s (.tup [a,b,c])=.val a s:=fun _ _ _ _=>rfl
  have ex1:∀ (a b c:AV) (s:St),extA 1 s (.tup [a,b,c])=.val b s:=fun _ _ _ _=>rfl
  have ex2:∀ (a b c:AV) (s:St),extA 2 s (.tup [a,b,c])=.val c s:=fun _ _ _ _=>rfl
  rw [enter4]
  simp (disch:=first|omega|(with_unfolding_all exact rfl)|(simp only[new_n,put_n,new_m];omega)|(refine put_m_le ?_;simp only[new_m];omega)) only [K4r0,K4r1,K4r2,K4r7,K4r8,K4r9,K4,Abs.W,reduceIte,Nat.reduceEqDiff,Nat.reduceAdd]
  obtain ⟨w0,hw0⟩:∃ w0:St,w0=u.new (.cells [.nilslice,.nilslice,.nilslice,.nilslice,.int .i64 0] (tag 28)):=⟨_,rfl⟩
  rw [← hw0]
  have w0n:w0.n=u.n+1:=by rw [hw0];rfl
  have w0m:w0.m=far:=by rw [hw0];exact um
  have w0g:∀ c,c<u.n→w0.h.get c=u.h.get c:=fun c hc=>by rw [hw0,get_new_ne _ _ _ (by omega)]
  have w00:w0.h.get u.n=some (.cells [.nilslice,.nilslice,.nilslice,.nilslice,.int .i64 0] (tag 28)):=by rw [hw0];exact get_new_eq _ _ _ rfl (by omega)
  generalize hc1:call _ _ _ (.fn 11) _ _=r1
  obtain ⟨b,offs,errs,rv,xs,bs,vs,p13,p14,lo,q,t1,rfl,st1,ok,hF,hq,hM,hp,hl1,hl2,hl3,hl4,hl5⟩:=BenchOf_ex3 (M:=2) (S:=1) (R:=2) (D:=2) hc1 (by omega) (hd.keep (w0g d hlt)) (by omega) (by omega) (by omega) (by omega) (by omega) (by omega)
  have n1:=st1.n
  have k1:=st1.le
  have pl:=hM.pl
  have scB:scalars [vs 0,vs 1,vs 2,vs 3,.int .i64 (b.days:Int)]=true:=by rw [scals_cons (hM.ls.at_ 0).scal.1,scals_cons (hM.ls.at_ 1).scal.1,scals_cons (hM.ls.at_ 2).scal.1,scals_cons (hM.ls.at_ 3).scal.1];rfl
  have scF:scalars [vs 4,vs 5]=true:=by rw [scals_cons (hM.ls.at_ 4).scal.1];exact (hM.ls.at_ 5).scal.1
  simp (disch:=first|omega|(with_unfolding_all exact rfl)|(simp only[new_n,put_n,new_m];omega)|(refine put_m_le ?_;simp only[new_m];omega)) only [Abs.W,reduceIte,Nat.reduceEqDiff,Nat.reduceAdd,kLoop_def,Nat.reduceSub,ex0,ex1,ex2,scB,scF,Nat.zero_add]
  simp only [new_n]
  generalize hlp:loopN _ rounds _ _ _ _ _=rl
  obtain ⟨y,L0,hyw,hL0,hlp'⟩:=loop_start hlp
  have yn:y.n=t1.n+2:=by rw [hyw];rfl
  have ym:y.m=min (min t1.m t1.n) (t1.n+1):=by rw [hyw];simp only [St.put,minN_eq,new_m]
  have yg:∀ c,c<t1.n→y.h.get c=t1.h.get c:=fun c hc=>by rw [hyw,get_put_ne' _ _ _ _ (by omega),get_put_ne' _ _ _ _ (by omega),get_new_ne _ _ _ (by simp only [new_n];omega),get_new_ne _ _ _ (by omega)]
  have y3:y.h.get t1.n=some (.cells [vs 0,vs 1,vs 2,vs 3,.int .i64 b.days] (tag 28)):=by rw [hyw,get_put_ne' _ _ _ _ (by omega)];exact get_put_eq _ _ _ _ rfl (by omega)
  clear hyw hlp
  have hMy:=hM.keep (hM.die.keep (yg d (by omega))) (fun c hc _=>yg c hc) (show t1.n≤y.n by omega)
  have c0:=ok.m0
  have c3:=ok.s0
  obtain ⟨b0,v0s,_⟩:=hM.cellsAt 0 (fun h=>by
   have:=congrArg List.length h
   rw [show benchR b offs rv 0=b.ms.map Mass.cells from rfl,List.length_map] at this
   simp at this;rw [this] at c0;simp at c0)
  obtain ⟨L1,s1,ms,rfl,g2,f3,hJ⟩:=few_loop n (y3:=t1.n) hlp' hMy ok (by omega) y3 (by omega) (by rw [hL0];simp only [find_cons,reduceIte,Nat.reduceEqDiff]) (by rw [hL0];simp only [find_cons,reduceIte,Nat.reduceEqDiff];rfl)
  have f2:L1.find 2=.ptr u.n 0:=g2.trans (by rw [hL0];simp only [find_cons,reduceIte,Nat.reduceEqDiff])
  clear hL0 hlp' g2
  obtain ⟨jm,jl,jo,jf,js,jn,jmm,jle⟩:=hJ
  obtain ⟨S,hS⟩:∃ S,b.ss=[S]:=by
   match hb:b.ss with
   | []=>rw [hb] at c3;simp at c3
   | [S]=>exact ⟨S,rfl⟩
   | _::_::_=>rw [hb] at hl4;simp at hl4
  obtain ⟨h1,h2,h3⟩:=jm.cellsAt 2 (fun h=>by
   rw [show benchR { b with ms:=ms } offs rv 2=b.ss.map Scl.cells from rfl,hS] at h
   cases h)
  rw [show benchR { b with ms:=ms } offs rv 2=b.ss.map Scl.cells from rfl,hS] at h2 h3
  have h3':s1.h.get (bs 2)=some (.cells [.int .i64 S.fl,.int .i64 S.fh,.int .i64 S.dl,.int .i64 S.dh] (4+tag 54)):=h3
  have b2:=(hM.cellsAt 2 (fun h=>by rw [show benchR b offs rv 2=b.ss.map Scl.cells from rfl,hS] at h;cases h)).1
  have lo2:=jm.ls.lo 2
  have lo0:=jm.ls.lo 0
  have hne:=jm.ls.ne 0 2 (by omega)
  have ka:∀ t,okA (.val (vs 2) t)=.val (vs 2) t:=(jm.ls.at_ 2).okA
  have ix:∀ s,ixsA 4 s (vs 2) (.int .i64 0)=.val (.ptr (bs 2) 0) s:=fun s=>by rw [h2];rfl
  have g3:=(js t1.n (by omega)).trans y3
  have okS:=ok.sok S (by rw [hS];simp)
  obtain ⟨k0,k2,k4,k5,k6,k7⟩:=okS
  have a4:∀ s,aAdd s .i64 S.fl 4=.val (.int .i64 (S.fl+4)) s:=fun s=>aAdd_i64 s _ _ (by omega)
  have a2:∀ s,aAdd s .i64 S.dl 2=.val (.int .i64 (S.dl+2)) s:=fun s=>aAdd_i64 s _ _ (by omega)
  have w1:s1.h.get u.n=some (.cells [.nilslice,.nilslice,.nilslice,.nilslice,.int .i64 0] (tag 28)):=by
   rw [js u.n (by omega),yg u.n (by omega),st1.same u.n (by omega) (by omega)];exact w00
  simp (disch:=first|omega|(with_unfolding_all exact rfl)|(simp only[new_n,put_n,new_m];omega)|(refine put_m_le ?_;simp only[new_m];omega)) only [res4,Abs.W,reduceIte,Nat.reduceEqDiff,Nat.reduceAdd,Nat.reduceSub,Env.find_set,Nat.zero_add,Nat.add_zero,f2,f3,g3,ka,ix,h3',a4,a2,kFold_def,foldA_nil,foldA_cons,minA_i64,scB,w1]
  obtain ⟨T,hT⟩:∃ T:Scl,T=⟨S.fl,min S.fh (S.fl+4),S.dl,min S.dh (S.dl+2)⟩:=⟨_,rfl⟩
  have okT:T.Ok:=by rw [hT];exact ⟨k0,by simp only;omega,by simp only;omega,k5,by simp only;omega,by simp only;omega⟩
  have mS:=jm.setScl (j:=0) (by show 0<b.ss.length;omega) T (by omega) (4+tag 54) (by show s1.h.get (bs 2)=some (.cells (b.ss.map Scl.cells).flatten _);rw [hS];exact h3)
  obtain ⟨z,hz⟩:∃ z:St,z=(s1.put (bs 2) (.cells [.int .i64 S.fl,.int .i64 (min S.fh (S.fl+4)),.int .i64 S.dl,.int .i64 S.dh] (4+tag 54))).put (bs 2) (.cells [.int .i64 S.fl,.int .i64 (min S.fh (S.fl+4)),.int .i64 S.dl,.int .i64 (min S.dh (S.dl+2))] (4+tag 54)):=⟨_,rfl⟩
  rw [← hz]
  have zn:z.n=s1.n:=by rw [hz];rfl
  have zm:z.m=min (min s1.m (bs 2)) (bs 2):=by rw [hz];simp only [St.put,minN_eq]
  have zg:∀ c,c≠bs 2→z.h.get c=s1.h.get c:=fun c hc=>by rw [hz,get_put_ne' _ _ _ _ hc,get_put_ne' _ _ _ _ hc]
  have z2:z.h.get (bs 2)=some (.cells T.cells (4+tag 54)):=by rw [hz,hT];exact get_put_eq _ _ _ _ rfl (by omega)
  obtain ⟨bb,hbb⟩:∃ bb:Bench,bb={ { b with ms:=ms } with ss:=b.ss.set 0 T }:=⟨_,rfl⟩
  have ss1:b.ss.set 0 T=[T]:=by rw [hS];rfl
  have mz:Made z.h z.n d p13 p14 lo bb offs errs rv xs bs vs:=by
   rw [hbb]
   refine mS.keep (mS.die.keep ?_) (fun c hc _=>?_) (by show s1.n≤z.n;omega)
   ·rw [zg d (by omega),get_put_ne' _ _ _ _ (by omega)]
   ·by_cases e:c=bs 2
    ·rw [e,z2,get_put_eq _ _ _ _ rfl (by omega)]
     simp [hS]
    ·rw [zg c e,get_put_ne' _ _ _ _ e]
  have okb:bb.Ok:=by
   rw [hbb]
   refine bench_ss (bench_ms ok jl jo) (by show (b.ss.set 0 T).length=b.ss.length;rw [List.length_set]) (fun x hx=>?_)
   rw [ss1] at hx
   rw [List.mem_singleton.mp hx];exact okT
  have fwb:Few bb:=by
   rw [hbb]
   refine ⟨fun m hm=>?_,fun x hx=>?_,by show (b.ss.set 0 T).length=1;rw [ss1];rfl⟩
   ·obtain ⟨j,hj,rfl⟩:=List.getElem_of_mem hm
    exact jf j hj (by have:j<ms.length:=hj;omega)
   ·have hx:x ∈ b.ss.set 0 T:=hx
    rw [ss1] at hx
    rw [List.mem_singleton.mp hx,hT]
    simp only;omega
  have gz3:=(zg t1.n (by omega)).trans g3
  have gz1:=(zg u.n (by omega)).trans w1
  have sh5:shapeT Try.prog 28=some (some 5):=by kernel_rfl
  have zz:∀ c,c≠u.n→(z.put u.n (.cells [vs 0,vs 1,vs 2,vs 3,.int .i64 b.days] (tag 28))).h.get c=z.h.get c:=fun c hc=>get_put_ne' _ _ _ _ hc
  have mzz:=mz.below (h':=(z.put u.n (.cells [vs 0,vs 1,vs 2,vs 3,.int .i64 b.days] (tag 28))).h) (fun c hc=>zz c (by omega)) (Nat.le_refl _)
  have pl0:plain (vs 0)=false:=by rw [v0s];rfl
  have mm1:=st1.m (by omega)
  have mm2:=jmm d (by omega) (by omega)
  have ml1:=st1.mle
  refine ⟨.agg [vs 0,vs 1,vs 2,vs 3,.int .i64 b.days],_,leave_cell _ _ _ _ sh5 ?_,⟨fun c hc hcd=>?_,by simp only [put_n];omega,by simp only [put_n];omega,fun _=>?_,?_⟩,by simp [plain,plains,pl0],bb,vs 0,vs 1,vs 2,vs 3,by rw [hbb],okb,fwb,by rw [hbb];show ms.length≤2;omega,by rw [hbb];exact hl5,mzz.bench⟩
  ·simp only [Env.find_set,f2,reduceIte,Nat.reduceEqDiff]
   rw [load_ptr,get_put_eq _ _ _ _ rfl (by omega),loadO_cells,partS_some]
   rfl
  ·rw [zz c (by omega),zg c (by omega),js c (by omega),yg c (by omega),st1.same c (by omega) hcd,w0g c hc]
  ·simp only [St.put,minN_eq];omega
  ·simp only [St.put,minN_eq];omega) (by omega)
 exact ⟨b,v1,v2,v3,v4,t,hr.symm.trans e,st,hq1,hq2,hq3,hq4,hq5⟩
end Go.Proofs.Ytkkdiibgjgnbhaa.walk
set_option maxRecDepth 10000
namespace Go.Abs
theorem cut_nth {o k i:Nat} {c r:List AV} (h:cut o k c=some r) (hi:i<k):nth c (o+i)=nth r i:=by
 obtain ⟨a,t,q1,q2,q3⟩:=cut_some h
 rw [q1,← q2,List.append_assoc,nth_skip,nth_front _ _ _ (by omega)]
theorem New.grow {s t:St} {k:Nat} (a:New s t k) (d:Nat):Grow d s t k:=⟨fun c hc _=>a.same c hc,a.n,a.le,fun x _ _ h=>by rw [a.m];exact h,by rw [a.m];exact Nat.le_refl _⟩
end Go.Abs
namespace Go.Proofs.Ytkkdiibgjgnbhaa.walk
open Go.Abs Go.Proofs.Ytkkdiibgjgnbhaa.code
theorem left_goes {b:Bench} {f:Fc} (fw:Few b) (hp:Part b f) {l:List Fc} (hl:goOn b f=some l):∀ c ∈ l,left b c<left b f:=fun c hc=>by
 have h1:=hp.l1
 have h2:=hp.l2
 have one:=fw.one
 unfold goOn at hl
 by_cases c1:f.1.length<b.ms.length
 ·rw [if_pos c1] at hl
  cases hl
  obtain ⟨n,hn,rfl⟩:=List.mem_map.mp hc
  have he:f.2.length=0:=by
   rcases Nat.eq_zero_or_pos f.2.length with e | e
   ·exact e
   ·have:=hp.w e;omega
  unfold left
  simp only [List.length_append,List.length_singleton,List.length_nil,he]
  simp
  omega
 ·rw [if_neg c1] at hl
  by_cases c2:0<f.2.length∧(f.2.getD (f.2.length - 1) []).length≤b.days
  ·rw [if_pos c2] at hl
   cases hl
   obtain ⟨n,hn,rfl⟩:=List.mem_map.mp hc
   obtain ⟨c2,c3⟩:=c2
   have e1:f.2.length=1:=by omega
   unfold left
   simp only [List.length_set,e1,Nat.sub_self] at c3 ⊢
   rw [getD_set' (by omega),if_pos rfl,List.length_append,List.length_singleton]
   simp only [Nat.zero_lt_one,if_true,one,Nat.sub_self,Nat.zero_mul,Nat.zero_add]
   omega
  ·rw [if_neg c2] at hl
   by_cases c3:f.2.length<b.ss.length
   ·rw [if_pos c3] at hl
    cases hl
    obtain ⟨n,hn,rfl⟩:=List.mem_map.mp hc
    have e0:f.2.length=0:=by omega
    unfold left
    simp only [List.length_append,List.length_singleton,e0,Nat.zero_add,Nat.sub_self]
    have:f.2=[]:=List.length_eq_zero_iff.mp e0
    rw [this]
    simp [one]
   ·rw [if_neg c3] at hl;cases hl
def wide (M:Nat):Nat:=300 * 6 ^ M
theorem wide_succ (M:Nat):wide (M+1)=6 * wide M:=by unfold wide;rw [Nat.pow_succ];omega
theorem wide_pos:∀ M:Nat,300≤wide M
 | 0=>Nat.le_refl _
 | M+1=>by rw [wide_succ];have:=wide_pos M;omega
def FactsOk (M N:Nat):Prop:=∀ (bl n0:Nat) (b:Bench) (f:Fc) (L:List Fc) (v1 v2 v3 v4 v5 v6 vo:AV) (s:St) (r:ARes),call Try.prog X N (.fn 6) [.agg (benchV v1 v2 v3 v4 b.days),.agg [v5,v6],vo] s=r→b.Ok→Few b→Part b f→left b f<M →
 BenchAt s.h n0 b v1 v2 v3 v4→n0≤s.n→n0≤bl→(bl<s.n∨bl=far)→FactM s.h s.n bl f v5 v6→FactsM s.h s.n bl L vo→L.length+5 ^ M≤20000→s.n+wide M+10000≤far →
 ∃ vo' t bl',r=.val vo' t∧Grow bl s t (wide M)∧FactsM t.h t.n bl' (L++factsL b M f) vo'∧(bl'=bl∨s.n≤bl')∧(bl'<t.n∨bl'=far)
structure FactsJ (u t:St) (bl:Nat) (b:Bench) (v1 v2 v3 v4 v5 v6:AV) (L:List Fc) (vo:AV) (bi k:Nat):Prop where
 g3:t.h.get u.n=some (.cells (benchV v1 v2 v3 v4 b.days) (tag 28))
 g4:t.h.get (u.n+1)=some (.cells [v5,v6] (tag 36))
 gr:Grow bl u t k
 fa:FactsM t.h t.n bi L vo
 bp:bi=bl∨u.n+2≤bi
 hi:bi<t.n∨bi=far
 nn:u.n+2≤t.n
theorem FactsJ.step {u t t1:St} {bl j:Nat} {b:Bench} {v1 v2 v3 v4 v5 v6:AV} {L:List Fc} {vo:AV} {bi k:Nat} (J:FactsJ u t bl b v1 v2 v3 v4 v5 v6 L vo bi k) (g:Grow far t t1 j) (hf:t.n≤far):FactsJ u t1 bl b v1 v2 v3 v4 v5 v6 L vo bi (k+j):=by
 obtain ⟨h3,h4,hg,ha,hb,hh,hn⟩:=J
 have gn:=g.n
 exact ⟨by rw [g.same _ (by omega) (by omega)];exact h3,by rw [g.same _ (by omega) (by omega)];exact h4,hg.trans g (.inr (by omega)),ha.move (fun c hc=>g.same c hc (by omega)) gn,hb,by omega,by omega⟩
theorem FactsJ.mono {u t:St} {bl k':Nat} {b:Bench} {v1 v2 v3 v4 v5 v6:AV} {L:List Fc} {vo:AV} {bi k:Nat} (J:FactsJ u t bl b v1 v2 v3 v4 v5 v6 L vo bi k) (h:k≤k'):FactsJ u t bl b v1 v2 v3 v4 v5 v6 L vo bi k':=⟨J.g3,J.g4,J.gr.mono h,J.fa,J.bp,J.hi,J.nn⟩
theorem facts_next {M N:Nat} (ih:FactsOk M N) {u t:St} {bl n0:Nat} {b:Bench} {v1 v2 v3 v4 v5 v6:AV} {L:List Fc} {vo:AV} {bi k:Nat} (J:FactsJ u t bl b v1 v2 v3 v4 v5 v6 L vo bi k) {c:Fc} {w5 w6:AV} {r:ARes} (hr:call Try.prog X N (.fn 6) [.agg (benchV v1 v2 v3 v4 b.days),.agg [w5,w6],vo] t=r) (ok:b.Ok) (fw:Few b) (hp:Part b c) (hl:left b c<M)
  (hB:BenchAt u.h n0 b v1 v2 v3 v4) (h0:n0≤u.n) (h1:n0≤bl) (h2:bl<u.n∨bl=far) (hF:FactM t.h t.n bi c w5 w6) (hL:L.length+5 ^ M≤20000) (hs:u.n+k+wide M+10000≤far) :
  ∃ vo' t1 bi',r=.val vo' t1∧FactsJ u t1 bl b v1 v2 v3 v4 v5 v6 (L++factsL b M c) vo' bi' (k+wide M):=by
 obtain ⟨h3,h4,hg,ha,hb,hh,hn⟩:=J
 have tn:=hg.n
 have tl:=hg.le
 obtain ⟨vo',t1,bi',rfl,g1,g2,g3,g4⟩:=ih _ _ _ _ _ _ _ _ _ _ _ _ _ _ hr ok fw hp hl (hB.grow (fun c hc=>hg.same c (by omega) (by omega)) (Nat.le_refl _)) (by omega) (by omega) hh hF ha hL (by omega)
 have g1n:=g1.n
 refine ⟨vo',t1,bi',rfl,⟨by rw [g1.same _ (by omega) (by omega)];exact h3,by rw [g1.same _ (by omega) (by omega)];exact h4,hg.trans g1 (by omega),g2,by omega,g4,by omega⟩⟩
end Go.Proofs.Ytkkdiibgjgnbhaa.walk
set_option maxRecDepth 10000
namespace Go.Proofs.Ytkkdiibgjgnbhaa.walk
open Go.Abs Go.Proofs.Ytkkdiibgjgnbhaa.code
theorem mAt_get {b:Bench} {i:Nat} (h:i<b.ms.length):b.ms[i]=mAt b i:=by unfold mAt;simp [List.getD,h]
theorem sAt_get {b:Bench} {i:Nat} (h:i<b.ss.length):b.ss[i]=sAt b i:=by unfold sAt;simp [List.getD,h]
theorem facts_round0 {M N:Nat} (ih:FactsOk M N) (hN:2≤N) (cx:Ctx) {u t:St} {bl n0:Nat} {b:Bench} {f:Fc} {v1 v2 v3 v4 v5 v6:AV} {L:List Fc} {vo:AV} {bi k:Nat} {E:Env} {x:Int} (J:FactsJ u t bl b v1 v2 v3 v4 v5 v6 L vo bi k) (ok:b.Ok) (fw:Few b) (hp:Part b f) (h1:f.1.length<b.ms.length)
  (hB:BenchAt u.h n0 b v1 v2 v3 v4) (h0:n0≤u.n) (hb:n0≤bl) (h2:bl<u.n∨bl=far) (hF:FactM u.h u.n bl f v5 v6) (hx:(mAt b f.1.length).lo≤x∧x≤(mAt b f.1.length).hi) (hl:left b f<M+1) (hL:L.length+5 ^ M≤20000) (hs:u.n+k+10+wide M+10000≤far)
  (q2:E.find 2=vo) (q3:E.find 3=.ptr u.n 0) (q4:E.find 4=.ptr (u.n+1) 0) (q7:E.find 7=.int .i64 (f.1.length:Int)) (q8:E.find 8=.int .i64 x) :
  ∃ E1 t1 vo1 bi1,K6l0 (call Try.prog X N) cx E [] t=.done .norm E1 [] t1∧E1.find 2=vo1∧E1.find 3=.ptr u.n 0∧E1.find 4=.ptr (u.n+1) 0∧E1.find 7=.int .i64 (f.1.length:Int)∧E1.find 8=.int .i64 (x+1)∧FactsJ u t1 bl b v1 v2 v3 v4 v5 v6 (L++factsL b M (f.1++[x],[])) vo1 bi1 (k+10+wide M):=by
 have hf:far=1000000000:=rfl
 have J0:=J
 obtain ⟨g3,g4,hg,ha,hbp,hh,hn⟩:=J
 have tn:=hg.n
 have tl:=hg.le
 have wp:=wide_pos M
 have hBt:BenchAt t.h n0 b v1 v2 v3 v4:=hB.grow (fun c hc=>hg.same c (by omega) (by omega)) (Nat.le_refl _)
 obtain ⟨x0,o0,cs,sz,r1,r2,r3,r4⟩:=hBt.m.at_ f.1.length (by rw [List.length_map];exact h1)
 rw [List.getElem_map,mAt_get h1] at r4
 have rh:nth cs (o0+1+1)=.int .i64 (mAt b f.1.length).hi:=cut_nth (i:=2) r4 (by omega)
 have okM:=ok.mok _ (mAt_in h1)
 have k0:=okM.o0
 have k1:=okM.o2
 have kv1:∀ t,okA (.val v1 t)=.val v1 t:=fun t=>okA_ne hBt.m.ne
 have kv5:∀ t,okA (.val v5 t)=.val v5 t:=fun t=>okA_ne hF.o.rows.ne
 have e0:decide (x≤(mAt b f.1.length).hi)=true:=decide_eq_true hx.2
 have ad:∀ s,aAdd s .i64 x 1=.val (.int .i64 (x+1)) s:=fun s=>aAdd_i64 s _ _ (by omega)
 have hFt:FactM t.h t.n bi f v5 v6:=hF.move (fun c hc hd=>hg.same c hc hd) tn (by omega)
 simp (disch:=first|omega|(with_unfolding_all exact rfl)|(simp only[new_n,put_n,new_m];omega)|(refine put_m_le ?_;simp only[new_m];omega)) only [K6r4,K6r5,K6r6,K6l0,Abs.W,reduceIte,Nat.reduceEqDiff,Nat.reduceSub,Env.find_set,Nat.add_zero,q3,q4,q7,q8,g3,g4,kv1,kv5,r2,r3,rh,e0]
 generalize hc1:call _ _ _ (.fn 13) _ _=r1'
 have l1:=hp.l1
 have m1:=ok.m1
 obtain ⟨w,t1,rfl,st1,own⟩:=CopyInts_ex (l:=f.1) hc1 (by omega) hFt.o.seq (by omega) (by show t.n+100≤far;omega)
 have n1:t.n≤t1.n:=st1.n
 have k1':t1.n≤t.n+3:=st1.le
 have own:Own t1.h t.n t1.n 1 (tag 3) (intRows f.1) w:=own
 have g1:∀ c,c<t.n→t1.h.get c=t.h.get c:=fun c hc=>st1.same c hc
 have m1':t1.m=far:=st1.m
 have g31:=(g1 u.n (by omega)).trans g3
 obtain ⟨y8,hy8⟩:∃ y8:St,y8=⟨t1.h,t1.n,minN t.m t1.m⟩:=⟨_,rfl⟩
 have y8n:y8.n=t1.n:=by rw [hy8]
 have y8h:y8.h=t1.h:=by rw [hy8]
 have y8m:y8.m=min t.m t1.m:=by rw [hy8];simp only [minN_eq]
 obtain ⟨y,hy⟩:∃ y:St,y=y8.new (.cells [.int .i64 x] 0):=⟨_,rfl⟩
 have yn:y.n=t1.n+1:=by rw [hy];show y8.n+1=_;rw [y8n]
 have ym:y.m=y8.m:=by rw [hy];rfl
 have yg:∀ c,c<t1.n→y.h.get c=t1.h.get c:=fun c hc=>by rw [hy,get_new_ne _ _ _ (by omega),y8h]
 have yp:y.h.get t1.n=some (.cells [.int .i64 x] 0):=by rw [hy,← y8n];exact get_new_eq _ _ _ rfl (by omega)
 obtain ⟨s7,e7,l7,s7n,s7g,s7m,s7l⟩:=append_own (bytes:=8) (own.move (h':=y.h) (n':=y.n) (fun c _ hc=>yg c hc) (Nat.le_refl _) (by omega)) (Nat.le_refl _) yp rfl rfl (by rw [intRows_len];omega) (by kernel_rfl) (by omega)
 simp (disch:=first|omega|(with_unfolding_all exact rfl)|(simp only[new_n,put_n,new_m];omega)|(refine put_m_le ?_;simp only[new_m];omega)) only [thenT_turn,Abs.W,reduceIte,Nat.reduceEqDiff,Nat.reduceSub,Env.find_set,q8]
 rw [← hy8,← hy]
 have hlen:(intRows f.1).length=f.1.length:=intRows_len _
 rw [hlen] at e7 l7
 have kvo:∀ t,okA (.val vo t)=.val vo t:=ha.okA
 simp (disch:=first|omega|(with_unfolding_all exact rfl)|(simp only[new_n,put_n,new_m];omega)|(refine put_m_le ?_;simp only[new_m];omega)) only [Abs.W,reduceIte,Nat.reduceEqDiff,Nat.reduceSub,Env.find_set,e7,q2]
 generalize hc2:call _ _ _ (.fn 6) _ _=r2'
 have hgn:goOn b f=some ((spanL (mAt b f.1.length).lo (mAt b f.1.length).hi).map fun n=>(f.1++[n],[])):=by unfold goOn;rw [if_pos h1]
 have hmem:((f.1++[x],[]):Fc) ∈ (spanL (mAt b f.1.length).lo (mAt b f.1.length).hi).map fun n=>((f.1++[n],[]):Fc):=List.mem_map.mpr ⟨x,mem_spanL.mpr hx,rfl⟩
 have tfar:=hg.mle
 have hgr:Grow far t s7 6:=⟨fun c hc _=>(s7g c (by omega) (.inl hc)).trans ((yg c (by omega)).trans (g1 c hc)),by omega,by omega,fun z z1 z2 z3=>s7m z (by omega) (by omega) (by rw [ym,y8m,m1'];omega),by omega⟩
 have J7:=J0.step hgr (by omega)
 have hFc:FactM s7.h s7.n bi (f.1++[x],[]) (.slice y.n 0 (f.1.length+1) (f.1.length+1) true) .nilslice:=⟨⟨y.n,by omega,by show IsAt s7.h s7.n y.n 1 _ (intRows (f.1++[x])) _;rw [intRows_snoc];exact l7⟩,.inl ⟨rfl,rfl⟩⟩
 obtain ⟨vo1,t2,bi1,rfl,J2⟩:=facts_next ih J7 hc2 ok fw (part_goes hp hgn _ hmem) (by have:=left_goes fw hp hgn _ hmem;omega) hB h0 hb h2 hFc hL (by omega)
 simp (disch:=first|omega|(with_unfolding_all exact rfl)|(simp only[new_n,put_n,new_m];omega)|(refine put_m_le ?_;simp only[new_m];omega)) only [Abs.W,reduceIte,Nat.reduceEqDiff]
 rw [endT_kept (l:=[3]) (s':=t1) (by simp only [keptAll_cons,keptAll_nil,find_cons,Env.find_set,q3,keptV_ptr,g3,g31,sameO_cells,reduceIte,Nat.reduceEqDiff,Bool.and_self])]
 rw [endO_ok _ (by
  rw [endOk_cons,endOk_nil]
  simp only [find_cons,Env.find_set,q3,reduceIte,Nat.reduceEqDiff]
  exact own.apart (by omega))]
 have k2:=J2.gr.le
 simp (disch:=first|omega|(with_unfolding_all exact rfl)|(simp only[new_n,put_n,new_m];omega)|(refine put_m_le ?_;simp only[new_m];omega)) only [Abs.W,reduceIte,Nat.reduceEqDiff,Env.find_set,q8,ad]
 refine ⟨_,t2,vo1,bi1,rfl,?_,?_,?_,?_,?_,J2.mono (by omega)⟩
 ·simp only [Env.find_set,reduceIte,Nat.reduceEqDiff]
 ·simp only [Env.find_set,q3,reduceIte,Nat.reduceEqDiff]
 ·simp only [Env.find_set,q4,reduceIte,Nat.reduceEqDiff]
 ·simp only [Env.find_set,q7,reduceIte,Nat.reduceEqDiff]
 ·simp only [Env.find_set,reduceIte,Nat.reduceEqDiff]
theorem take_flat {α β:Type} {l:List α} {g:α→List β} {i:Nat} (hi:i<l.length):(l.take (i+1)).flatMap g=(l.take i).flatMap g++g l[i]:=by
 rw [List.take_succ_eq_append_getElem hi,List.flatMap_append,List.flatMap_cons,List.flatMap_nil,List.append_nil]
theorem spanL_length (lo hi:Int):(spanL lo hi).length=(hi - lo+1).toNat:=by unfold spanL;rw [List.length_map,List.length_range]
theorem kids_len {b:Bench} (fw:Few b) {f:Fc} (hp:Part b f) {l:List Fc} (hg:goOn b f=some l) (L:List Fc) (M i:Nat) (hi:i<l.length) (hL:L.length+5 ^ (M+1)≤20000):(L++(l.take i).flatMap fun c=>factsL b M c).length+5 ^ M≤20000:=by
 have h1:=flatMap_len (l.take i) (fun c=>factsL b M c) (5 ^ M) fun c hc=>factsL_len fw M c (part_goes hp hg c (List.mem_of_mem_take hc))
 have h2:=goOn_len fw hp hg
 rw [List.length_take,Nat.min_eq_left (by omega)] at h1
 have h3:(i+1) * 5 ^ M≤5 * 5 ^ M:=Nat.mul_le_mul_right _ (by omega)
 rw [Nat.succ_mul] at h3
 rw [List.length_append]
 rw [Nat.pow_succ] at hL
 omega
theorem facts_loop0 {M N:Nat} (ih:FactsOk M N) (hN:2≤N) {cx:Ctx} {u w:St} {bl n0:Nat} {b:Bench} {f:Fc} {v1 v2 v3 v4 v5 v6:AV} {L:List Fc} {vo:AV} {bi k:Nat} {E:Env} {r:R} (hr:loopN K6l0 rounds (call Try.prog X N) cx E [] w=r) (J:FactsJ u w bl b v1 v2 v3 v4 v5 v6 L vo bi k) (ok:b.Ok) (fw:Few b) (hp:Part b f) (h1:f.1.length<b.ms.length)
  (hB:BenchAt u.h n0 b v1 v2 v3 v4) (h0:n0≤u.n) (hb:n0≤bl) (h2:bl<u.n∨bl=far) (hF:FactM u.h u.n bl f v5 v6) (hl:left b f<M+1) (hL:L.length+5 ^ (M+1)≤20000) (hs:u.n+k+5 * (10+wide M)+10000≤far) {l:List Fc} (hg:goOn b f=some l)
  (q2:E.find 2=vo) (q3:E.find 3=.ptr u.n 0) (q4:E.find 4=.ptr (u.n+1) 0) (q7:E.find 7=.int .i64 (f.1.length:Int)) (q8:E.find 8=.int .i64 (mAt b f.1.length).lo) :
  ∃ E1 t1 vo1 bi1,r=.done (.exit 0) E1 [] t1∧E1.find 2=vo1∧FactsJ u t1 bl b v1 v2 v3 v4 v5 v6 (L++l.flatMap fun c=>factsL b M c) vo1 bi1 (k+5 * (10+wide M)):=by
 have hf:far=1000000000:=rfl
 have wp:=wide_pos M
 have l5:=goOn_len fw hp hg
 have lE:l=(spanL (mAt b f.1.length).lo (mAt b f.1.length).hi).map fun n=>((f.1++[n],[]):Fc):=by
  unfold goOn at hg;rw [if_pos h1] at hg;exact (Option.some.inj hg).symm
 have okM:=ok.mok _ (mAt_in h1)
 have o1:=okM.o1
 have ll:l.length=((mAt b f.1.length).hi - (mAt b f.1.length).lo+1).toNat:=by rw [lE,List.length_map,spanL_length]
 obtain ⟨e,E1,t1,rfl,rfl,vo1,bi1,f2,J1⟩:=loop_of hr (fun i E' t'=>E'.find 3=.ptr u.n 0∧E'.find 4=.ptr (u.n+1) 0∧E'.find 7=.int .i64 (f.1.length:Int)∧E'.find 8=.int .i64 ((mAt b f.1.length).lo+(i:Int))∧∃ vo' bi',E'.find 2=vo'∧FactsJ u t' bl b v1 v2 v3 v4 v5 v6 (L++(l.take i).flatMap fun c=>factsL b M c) vo' bi' (k+i * (10+wide M)))
  (fun e E' t'=>e=.exit 0∧∃ vo' bi',E'.find 2=vo'∧FactsJ u t' bl b v1 v2 v3 v4 v5 v6 (L++l.flatMap fun c=>factsL b M c) vo' bi' (k+5 * (10+wide M))) l.length (by unfold rounds;omega)
  ⟨q3,q4,q7,by rw [q8];congr 1;omega,vo,bi,q2,by rw [List.take_zero,List.flatMap_nil,List.append_nil];exact J.mono (by omega)⟩
  (fun i E' t' hi ⟨p3,p4,p7,p8,vo',bi',p2,J'⟩=>by
   have hm5:i * (10+wide M)≤5 * (10+wide M):=Nat.mul_le_mul_right _ (by omega)
   by_cases hlt:i<l.length
   ·have hm6:(i+1) * (10+wide M)≤5 * (10+wide M):=Nat.mul_le_mul_right _ (by omega)
    rw [Nat.succ_mul] at hm6
    obtain ⟨E2,t2,vo2,bi2,z1,z2,z3,z4,z5,z6,z7⟩:=facts_round0 ih hN cx J' ok fw hp h1 hB h0 hb h2 hF (x:=(mAt b f.1.length).lo+(i:Int)) (by omega) hl (kids_len fw hp hg L M i hlt hL) (by omega) p2 p3 p4 p7 p8
    refine .inl ⟨hlt,E2,t2,z1,z3,z4,z5,by rw [z6];congr 1;omega,vo2,bi2,z2,?_⟩
    have hli:l[i]=(f.1++[(mAt b f.1.length).lo+(i:Int)],[]):=by
     subst lE
     unfold spanL
     simp
    rw [take_flat hlt,← List.append_assoc,hli]
    exact z7.mono (by rw [Nat.succ_mul];omega)
   ·obtain rfl:i=l.length:=by omega
    rw [List.take_length] at J'
    obtain ⟨g3,g4,hgr,ha,hbp,hh,hn⟩:=J'
    have J':FactsJ u t' bl b v1 v2 v3 v4 v5 v6 (L++l.flatMap fun c=>factsL b M c) vo' bi' (k+l.length * (10+wide M)):=⟨g3,g4,hgr,ha,hbp,hh,hn⟩
    have hBt:BenchAt t'.h n0 b v1 v2 v3 v4:=hB.grow (fun c hc=>hgr.same c (by omega) (by omega)) (Nat.le_refl _)
    obtain ⟨x0,o0,cs,sz,r1,r2,r3,r4⟩:=hBt.m.at_ f.1.length (by rw [List.length_map];exact h1)
    rw [List.getElem_map,mAt_get h1] at r4
    have rh:nth cs (o0+1+1)=.int .i64 (mAt b f.1.length).hi:=cut_nth (i:=2) r4 (by omega)
    have kv1:∀ t,okA (.val v1 t)=.val v1 t:=fun t=>okA_ne hBt.m.ne
    have e0:decide ((mAt b f.1.length).lo+(l.length:Int)≤(mAt b f.1.length).hi)=false:=decide_eq_false (by omega)
    have tn:=hgr.n
    have tl:=hgr.le
    refine .inr ⟨.exit 0,E'.set 37 (.bool false),t',by simp,?_,rfl,vo',bi',?_,J'.mono (by omega)⟩
    ·simp (disch:=first|omega|(with_unfolding_all exact rfl)|(simp only[new_n,put_n,new_m];omega)|(refine put_m_le ?_;simp only[new_m];omega)) only [K6r4,K6r5,K6r6,K6l0,Abs.W,reduceIte,Nat.reduceEqDiff,Nat.reduceSub,Env.find_set,Nat.add_zero,p3,p7,p8,g3,kv1,r2,r3,rh,e0]
    ·simp only [Env.find_set,p2,reduceIte,Nat.reduceEqDiff])
 exact ⟨E1,t1,vo1,bi1,rfl,f2,J1⟩
end Go.Proofs.Ytkkdiibgjgnbhaa.walk
