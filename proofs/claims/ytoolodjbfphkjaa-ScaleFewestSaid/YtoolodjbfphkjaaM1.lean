/- The mathematics of plans of tests: the plan that is found day by day is the one that a search through all plans finds first. -/
import Derived.Test.YtoolodjbfphkjaaAbsWalk
import Derived.Test.YtoolodjbfphkjaaCodes
import Derived.Test.YtoolodjbfphkjaaWalkAll
set_option linter.unusedSimpArgs false
set_option maxHeartbeats 16000000
namespace Go.Abs
structure Sl where
 n:Nat
 l0:Int
 l1:Int
 e0:Int
 e1:Int
 most:Nat
 days:Nat
def Sl.lf (s:Sl) (k:Nat):Int:=if k=0 then s.l0 else s.l1
def Sl.ev (s:Sl) (k:Nat):Int:=if k=0 then s.e0 else s.e1
structure Sl.Ok (s:Sl):Prop where
 n:s.n=1∨s.n=2
 l0 : -1≤s.l0∧s.l0≤3
 l1 : -1≤s.l1∧s.l1≤3
 e0:0≤s.e0∧s.e0≤4
 e1:0≤s.e1∧s.e1≤4
 most:s.most≤2
 days:s.days≤4
def tst (n set k:Nat):Bool:=set / 2 ^ (n - 1 - k) % 2 == 1
def pop (set:Nat):Nat:=set % 2+set / 2 % 2
def slotsOf (n d set:Nat):List Nat:=((List.range n).filter (tst n set)).map (d * n+·)
def gk (u:Int × Int) (k:Nat):Int:=if k=0 then u.1 else u.2
def Sl.un (s:Sl) (d set k:Nat) (u:Int):Int:=if tst s.n set k then min (max u (d+s.ev k)) s.days else u
def Sl.nx (s:Sl) (d set:Nat) (u:Int × Int):Int × Int:=(s.un d set 0 u.1,if s.n=2 then s.un d set 1 u.2 else u.2)
def Sl.okn (s:Sl) (d:Nat) (u:Int × Int):Bool:=decide ((d:Int)≤u.1) && (!decide (s.n=2) || decide ((d:Int)≤u.2))
def Sl.Fits (s:Sl):Nat→Nat→Int × Int→List Nat→Prop
 | 0,_,_,x=>x=[]
 | j+1,d,u,x=>∃ set,set<2 ^ s.n∧∃ y,x=slotsOf s.n d set++y∧pop set≤s.most∧s.okn d (s.nx d set u)=true∧s.Fits j (d+1) (s.nx d set u) y
def keepB (a:Option (Nat × Nat)) (c:Nat × Nat):Option (Nat × Nat):=match a with
 | none=>some c
 | some b=>if c.2<b.2 then some c else some b
def Sl.cand (s:Sl) (o:Int × Int→Option (Nat × Nat)) (d:Nat) (u:Int × Int) (set:Nat):Option (Nat × Nat) :=
 if pop set≤s.most∧s.okn d (s.nx d set u)=true then (o (s.nx d set u)).map fun c=>(set,pop set+c.2) else none
def Sl.opt (s:Sl):Nat→Nat→Int × Int→Option (Nat × Nat)
 | 0,_,_=>some (0,0)
 | j+1,d,u=>((List.range (2 ^ s.n)).filterMap (s.cand (s.opt j (d+1)) d u)).foldl keepB none
def Sl.plan (s:Sl):Nat→Nat→Int × Int→List Nat
 | 0,_,_=>[]
 | j+1,d,u=>match s.opt (j+1) d u with
  | none=>[]
  | some c=>slotsOf s.n d c.1++s.plan j (d+1) (s.nx d c.1 u)
def later:List Nat→List Nat→Prop
 | a::x,b::y=>a<b∨(a=b∧later x y)
 | _,_=>True
theorem later_anti:∀ {x y:List Nat},x.length=y.length→later x y→later y x→x=y
 | [],[],_,_,_=>rfl
 | a::x,b::y,h,h1,h2=>by
  rcases h1 with h1 | ⟨rfl,h1⟩
  ·rcases h2 with h2 | ⟨h2,_⟩<;>omega
  ·rcases h2 with h2 | ⟨_,h2⟩
   ·omega
   ·rw [later_anti (by simpa using h) h1 h2]
theorem later_app:∀ (l:List Nat) {x y:List Nat},later x y→later (l++x) (l++y)
 | [],_,_,h=>h
 | _::l,_,_,h=>.inr ⟨rfl,later_app l h⟩
theorem keep_fold:∀ (l:List (Nat × Nat)) (a:Option (Nat × Nat)),(a=none∧l=[]∧l.foldl keepB a=none)∨∃ c,l.foldl keepB a=some c∧(a=some c∨∃ p q,l=p++c::q∧(∀ b,a=some b→c.2<b.2)∧∀ b ∈ p,c.2<b.2)∧(∀ b,a=some b→c.2≤b.2)∧∀ b ∈ l,c.2≤b.2
 | [],none=>.inl ⟨rfl,rfl,rfl⟩
 | [],some c=>.inr ⟨c,rfl,.inl rfl,fun b h=>by injection h with h;subst h;exact Nat.le_refl _,fun _ h=>(by cases h)⟩
 | x::l,none=>by
  rcases keep_fold l (some x) with ⟨h,_⟩ | ⟨c,h1,h2,h3,h4⟩
  ·cases h
  ·refine .inr ⟨c,h1,.inr ?_,fun _ h=>(by cases h),fun b hb=>?_⟩
   ·rcases h2 with h2 | ⟨p,q,e1,e2,e3⟩
    ·injection h2 with h2
     exact ⟨[],l,by rw [h2];rfl,fun _ h=>(by cases h),fun _ h=>(by cases h)⟩
    ·exact ⟨x::p,q,by rw [e1];rfl,fun _ h=>(by cases h),fun b hb=>by
      rcases List.mem_cons.mp hb with rfl | hb
      ·exact e2 _ rfl
      ·exact e3 b hb⟩
   ·rcases List.mem_cons.mp hb with rfl | hb
    ·exact h3 _ rfl
    ·exact h4 b hb
 | x::l,some a=>by
  show (_∨_)
  have hk:(x::l).foldl keepB (some a)=l.foldl keepB (if x.2<a.2 then some x else some a):=rfl
  by_cases hx:x.2<a.2
  ·rw [hk,if_pos hx]
   rcases keep_fold l (some x) with ⟨h,_⟩ | ⟨c,h1,h2,h3,h4⟩
   ·cases h
   ·have hcx:=h3 x rfl
    refine .inr ⟨c,h1,.inr ?_,fun b h=>by injection h with h;subst h;omega,fun b hb=>?_⟩
    ·rcases h2 with h2 | ⟨p,q,e1,e2,e3⟩
     ·injection h2 with h2
      exact ⟨[],l,by rw [h2];rfl,fun b h=>by injection h with h;subst h;omega,fun _ h=>(by cases h)⟩
     ·exact ⟨x::p,q,by rw [e1];rfl,fun b h=>by injection h with h;subst h;omega,fun b hb=>by
       rcases List.mem_cons.mp hb with rfl | hb
       ·exact e2 _ rfl
       ·exact e3 b hb⟩
    ·rcases List.mem_cons.mp hb with rfl | hb
     ·exact hcx
     ·exact h4 b hb
  ·rw [hk,if_neg hx]
   rcases keep_fold l (some a) with ⟨h,_⟩ | ⟨c,h1,h2,h3,h4⟩
   ·cases h
   ·have hca:=h3 a rfl
    refine .inr ⟨c,h1,?_,h3,fun b hb=>?_⟩
    ·rcases h2 with h2 | ⟨p,q,e1,e2,e3⟩
     ·exact .inl h2
     ·exact .inr ⟨x::p,q,by rw [e1];rfl,e2,fun b hb=>by
       rcases List.mem_cons.mp hb with rfl | hb
       ·have:=e2 a rfl;omega
       ·exact e3 b hb⟩
    ·rcases List.mem_cons.mp hb with rfl | hb
     ·omega
     ·exact h4 b hb
theorem cand_some {s:Sl} {o:Int × Int→Option (Nat × Nat)} {d set:Nat} {u:Int × Int} {c:Nat × Nat} (h:s.cand o d u set=some c):c.1=set∧pop set≤s.most∧s.okn d (s.nx d set u)=true∧∃ r,o (s.nx d set u)=some r∧c.2=pop set+r.2:=by
 unfold Sl.cand at h
 split at h
 ·rename_i hc
  cases ho:o (s.nx d set u) with
  | none=>rw [ho] at h;cases h
  | some r =>
   rw [ho] at h
   injection h with h
   subst h
   exact ⟨rfl,hc.1,hc.2,r,rfl,rfl⟩
 ·cases h
theorem slots_len {n d set:Nat} (hn:n=1∨n=2) (hs:set<2 ^ n):(slotsOf n d set).length=pop set:=by
 rcases hn with rfl | rfl
 ·have:set=0∨set=1:=by have:2 ^ 1=2:=rfl;omega
  rcases this with rfl | rfl<;>rfl
 ·have:set=0∨set=1∨set=2∨set=3:=by have:2 ^ 2=4:=rfl;omega
  rcases this with rfl | rfl | rfl | rfl<;>rfl
theorem fits_ge {s:Sl} (hn:s.n=1∨s.n=2):∀ (j d:Nat) (u:Int × Int) (x:List Nat),s.Fits j d u x→(∀ a ∈ x,d * s.n≤a∧a<(d+j) * s.n)∧x.Pairwise (·<·)
 | 0,_,_,x,h=>by
  have:x=[]:=h
  subst this
  exact ⟨fun _ h=>(by cases h),List.Pairwise.nil⟩
 | j+1,d,u,x,⟨set,hs,y,e,_,_,hy⟩=>by
  obtain ⟨h1,h2⟩:=fits_ge hn j (d+1) _ y hy
  subst e
  rcases hn with hn | hn<;>rw [hn] at h1 hs ⊢
  ·have:set=0∨set=1:=by have:2 ^ 1=2:=rfl;omega
   rcases this with rfl | rfl
   ·show (∀ a ∈ y,_)∧y.Pairwise _
    exact ⟨fun a ha=>by have:=h1 a ha;omega,h2⟩
   ·show (∀ a ∈ (d * 1+0)::y,_)∧((d * 1+0)::y).Pairwise _
    exact ⟨fun a ha=>by rcases List.mem_cons.mp ha with rfl | ha;omega;have:=h1 a ha;omega,List.pairwise_cons.mpr ⟨fun a ha=>by have:=h1 a ha;omega,h2⟩⟩
  ·have:set=0∨set=1∨set=2∨set=3:=by have:2 ^ 2=4:=rfl;omega
   rcases this with rfl | rfl | rfl | rfl
   ·show (∀ a ∈ y,_)∧y.Pairwise _
    exact ⟨fun a ha=>by have:=h1 a ha;omega,h2⟩
   ·show (∀ a ∈ (d * 2+1)::y,_)∧((d * 2+1)::y).Pairwise _
    exact ⟨fun a ha=>by rcases List.mem_cons.mp ha with rfl | ha;omega;have:=h1 a ha;omega,List.pairwise_cons.mpr ⟨fun a ha=>by have:=h1 a ha;omega,h2⟩⟩
   ·show (∀ a ∈ (d * 2+0)::y,_)∧((d * 2+0)::y).Pairwise _
    exact ⟨fun a ha=>by rcases List.mem_cons.mp ha with rfl | ha;omega;have:=h1 a ha;omega,List.pairwise_cons.mpr ⟨fun a ha=>by have:=h1 a ha;omega,h2⟩⟩
   ·show (∀ a ∈ (d * 2+0)::(d * 2+1)::y,_)∧((d * 2+0)::(d * 2+1)::y).Pairwise _
    refine ⟨fun a ha=>?_,List.pairwise_cons.mpr ⟨fun a ha=>?_,List.pairwise_cons.mpr ⟨fun a ha=>by have:=h1 a ha;omega,h2⟩⟩⟩
    ·rcases List.mem_cons.mp ha with rfl | ha
     ·omega
     ·rcases List.mem_cons.mp ha with rfl | ha
      ·omega
      ·have:=h1 a ha;omega
    ·rcases List.mem_cons.mp ha with rfl | ha
     ·omega
     ·have:=h1 a ha;omega
theorem opt_sound {s:Sl} (hn:s.n=1∨s.n=2):∀ (j d:Nat) (u:Int × Int) (c:Nat × Nat),s.opt j d u=some c→s.Fits j d u (s.plan j d u)∧(s.plan j d u).length=c.2
 | 0,d,u,c,h=>by
  injection h with h
  subst h
  exact ⟨rfl,rfl⟩
 | j+1,d,u,c,h=>by
  have hp:s.plan (j+1) d u=slotsOf s.n d c.1++s.plan j (d+1) (s.nx d c.1 u):=by
   show (match s.opt (j+1) d u with | none=>[] | some c=>slotsOf s.n d c.1++s.plan j (d+1) (s.nx d c.1 u))=_
   rw [h]
  rcases keep_fold ((List.range (2 ^ s.n)).filterMap (s.cand (s.opt j (d+1)) d u)) none with ⟨_,_,h3⟩ | ⟨c',h1,h2,_,_⟩
  ·rw [show s.opt (j+1) d u=_ from h3] at h;cases h
  ·rw [show s.opt (j+1) d u=_ from h1] at h
   injection h with h
   subst h
   rcases h2 with h2 | ⟨p,q,e1,_,_⟩
   ·cases h2
   ·have hm:c' ∈ (List.range (2 ^ s.n)).filterMap (s.cand (s.opt j (d+1)) d u):=by rw [e1];simp
    obtain ⟨set,hset,hc⟩:=List.mem_filterMap.mp hm
    obtain ⟨g1,g2,g3,r,g4,g5⟩:=cand_some hc
    rw [List.mem_range] at hset
    obtain ⟨i1,i2⟩:=opt_sound hn j (d+1) _ r g4
    rw [hp,g1]
    exact ⟨⟨set,hset,_,rfl,g2,g3,i1⟩,by rw [List.length_append,slots_len hn hset,i2,g5]⟩
theorem range_split {α:Type} {f:Nat→Option α} {N:Nat} {p q:List α} {c:α} {k:Nat} (h:(List.range N).filterMap f=p++c::q) (hk:k<N) (key:α→Nat) (hkey:∀ i a,f i=some a→key a=i) {b:α} (hb:f k=some b):b ∈ p∨key c≤k:=by
 have hp:((List.range N).filterMap f).Pairwise (fun a b=>key a<key b):=by
  rw [List.pairwise_filterMap]
  exact (List.pairwise_lt_range).imp fun {i j} hij a ha b hb=>by rw [hkey i a ha,hkey j b hb];exact hij
 have hm:b ∈ (List.range N).filterMap f:=List.mem_filterMap.mpr ⟨k,List.mem_range.mpr hk,hb⟩
 rw [h] at hm hp
 rcases List.mem_append.mp hm with hm | hm
 ·exact .inl hm
 ·right
  rw [← hkey k b hb]
  rcases List.mem_cons.mp hm with rfl | hm
  ·exact Nat.le_refl _
  ·have:=(List.pairwise_cons.mp (List.pairwise_append.mp hp).2.1).1 b hm
   omega
theorem opt_best {s:Sl} (hn:s.n=1∨s.n=2):∀ (j d:Nat) (u:Int × Int) (x:List Nat),s.Fits j d u x→∃ c,s.opt j d u=some c∧c.2≤x.length∧(c.2=x.length→later x (s.plan j d u))
 | 0,d,u,x,h=>⟨(0,0),rfl,Nat.zero_le _,fun _=>by have:x=[]:=h;subst this;trivial⟩
 | j+1,d,u,x,⟨set,hs,y,e,hp,ho,hy⟩=>by
  obtain ⟨c,h1,h2,h3⟩:=opt_best hn j (d+1) _ y hy
  have hc:s.cand (s.opt j (d+1)) d u set=some (set,pop set+c.2):=by
   unfold Sl.cand
   rw [if_pos ⟨hp,ho⟩,h1]
   rfl
  have hm:(set,pop set+c.2) ∈ (List.range (2 ^ s.n)).filterMap (s.cand (s.opt j (d+1)) d u):=List.mem_filterMap.mpr ⟨set,List.mem_range.mpr hs,hc⟩
  have hxl:x.length=pop set+y.length:=by rw [e,List.length_append,slots_len hn hs]
  rcases keep_fold ((List.range (2 ^ s.n)).filterMap (s.cand (s.opt j (d+1)) d u)) none with ⟨_,h,_⟩ | ⟨b,k1,k2,_,k4⟩
  ·rw [h] at hm;cases hm
  ·have kb:=k4 _ hm
   have kb':b.2≤pop set+c.2:=kb
   refine ⟨b,k1,by omega,fun hbx=>?_⟩
   have hpl:s.plan (j+1) d u=slotsOf s.n d b.1++s.plan j (d+1) (s.nx d b.1 u):=by
    show (match s.opt (j+1) d u with | none=>[] | some c=>slotsOf s.n d c.1++s.plan j (d+1) (s.nx d c.1 u))=_
    rw [show s.opt (j+1) d u=_ from k1]
   obtain ⟨hf,hlen⟩:=opt_sound hn (j+1) d u b k1
   rw [hpl] at hf hlen ⊢
   rcases k2 with k2 | ⟨p,q,e1,_,e3⟩
   ·cases k2
   ·rcases range_split (k:=set) (key:=Prod.fst) e1 hs (fun i a ha=>(cand_some ha).1) hc with hin | hle
    ·have:=e3 _ hin
     have:b.2<pop set+c.2:=this
     omega
    ·have hbm:b ∈ (List.range (2 ^ s.n)).filterMap (s.cand (s.opt j (d+1)) d u):=by rw [e1];simp
     obtain ⟨b1,hb1,hbc⟩:=List.mem_filterMap.mp hbm
     obtain ⟨g1,g2,g3,r,g4,g5⟩:=cand_some hbc
     rw [List.mem_range] at hb1
     obtain ⟨i1,i2⟩:=opt_sound hn j (d+1) _ r g4
     rw [g1] at hle hlen ⊢
     have hge:=(fits_ge hn _ _ _ _ i1).1
     by_cases heq:b1=set
     ·subst heq
      rw [e]
      refine later_app _ (h3 ?_)
      omega
     ·have hlt:b1<set:=by omega
      have hxl2:(slotsOf s.n d b1++s.plan j (d+1) (s.nx d b1 u)).length=x.length:=by omega
      rw [e] at hxl2 ⊢
      generalize s.plan j (d+1) (s.nx d b1 u)=z at *
      rcases hn with hn | hn<;>rw [hn] at hs hb1 hge hxl2 ⊢
      ·have:b1=0∧set=1:=by have:2 ^ 1=2:=rfl;omega
       obtain ⟨rfl,rfl⟩:=this
       change later ((d * 1+0)::y) z
       change z.length=((d * 1+0)::y).length at hxl2
       cases z with
       | nil=>simp at hxl2
       | cons a z=>have:=hge a (by simp);exact .inl (by omega)
      ·have:2 ^ 2=4:=rfl
       have:(b1=0∧set=1)∨(b1=0∧set=2)∨(b1=0∧set=3)∨(b1=1∧set=2)∨(b1=1∧set=3)∨(b1=2∧set=3):=by omega
       rcases this with ⟨rfl,rfl⟩ | ⟨rfl,rfl⟩ | ⟨rfl,rfl⟩ | ⟨rfl,rfl⟩ | ⟨rfl,rfl⟩ | ⟨rfl,rfl⟩
       ·change later ((d * 2+1)::y) z
        change z.length=((d * 2+1)::y).length at hxl2
        cases z with
        | nil=>simp at hxl2
        | cons a z=>have:=hge a (by simp);exact .inl (by omega)
       ·change later ((d * 2+0)::y) z
        change z.length=((d * 2+0)::y).length at hxl2
        cases z with
        | nil=>simp at hxl2
        | cons a z=>have:=hge a (by simp);exact .inl (by omega)
       ·change later ((d * 2+0)::(d * 2+1)::y) z
        change z.length=((d * 2+0)::(d * 2+1)::y).length at hxl2
        cases z with
        | nil=>simp at hxl2
        | cons a z=>have:=hge a (by simp);exact .inl (by omega)
       ·exact .inl (show d * 2+0<d * 2+1 by omega)
       ·exact .inl (show d * 2+0<d * 2+1 by omega)
       ·change later ((d * 2+0)::(d * 2+1)::y) ((d * 2+0)::z)
        change ((d * 2+0)::z).length=((d * 2+0)::(d * 2+1)::y).length at hxl2
        refine .inr ⟨rfl,?_⟩
        cases z with
        | nil=>simp at hxl2
        | cons a z=>have:=hge a (by simp);exact .inl (by omega)
end Go.Abs
namespace Go.Abs
def Sl.keptB (s:Sl) (x:List Nat) (d k:Nat):Bool:=decide ((d:Int)≤s.lf k) || x.any fun a=>(a % s.n == k) && decide (a / s.n≤d) && decide ((d:Int) - ((a / s.n:Nat):Int)≤s.ev k)
def Sl.many (s:Sl) (x:List Nat) (d:Nat):Nat:=x.countP fun a=>a / s.n == d
def Sl.dayB (s:Sl) (x:List Nat) (d:Nat):Bool:=decide (s.many x d≤s.most) && (List.range s.n).all (s.keptB x d)
def Sl.sealB (s:Sl) (x:List Nat):Bool:=(List.range (s.days+1)).all (s.dayB x)
def Sl.u0 (s:Sl):Int × Int:=(min s.l0 s.days,if s.n=2 then min s.l1 s.days else 0)
def Sl.Char (s:Sl) (l:List Nat) (u:Int × Int):Prop:=∀ k,k<s.n→∀ d:Nat,d≤s.days→((d:Int)≤gk u k↔(d:Int)≤s.lf k∨∃ a ∈ l,a % s.n=k∧(d:Int)≤((a / s.n:Nat):Int)+s.ev k)
theorem char_first {s:Sl} (hn:s.n=1∨s.n=2):s.Char [] s.u0:=by
 intro k hk d hd
 have e:gk s.u0 k=min (s.lf k) s.days:=by
  unfold Sl.u0 gk Sl.lf
  rcases hn with hn | hn<;>rw [hn] at hk ⊢
  ·obtain rfl:k=0:=by omega
   rfl
  ·rcases (show k=0∨k=1 by omega) with rfl | rfl<;>rfl
 rw [e]
 constructor
 ·intro h;left;omega
 ·rintro (h | ⟨_,h,_⟩)
  ·omega
  ·cases h
theorem mem_slots {n d set a:Nat}:a ∈ slotsOf n d set↔∃ k,k<n∧tst n set k=true∧d * n+k=a:=by
 unfold slotsOf
 rw [List.mem_map]
 constructor
 ·rintro ⟨k,h,e⟩
  rw [List.mem_filter,List.mem_range] at h
  exact ⟨k,h.1,h.2,e⟩
 ·rintro ⟨k,h1,h2,e⟩
  exact ⟨k,List.mem_filter.mpr ⟨List.mem_range.mpr h1,h2⟩,e⟩
theorem dn_div {d n k:Nat} (h:k<n):(d * n+k) / n=d:=by
 rw [Nat.mul_comm,Nat.mul_add_div (by omega),Nat.div_eq_of_lt h];rfl
theorem dn_mod {d n k:Nat} (h:k<n):(d * n+k) % n=k:=by
 rw [Nat.mul_comm,Nat.mul_add_mod,Nat.mod_eq_of_lt h]
theorem gk_nx {s:Sl} (hn:s.n=1∨s.n=2) {d set k:Nat} {u:Int × Int} (hk:k<s.n):gk (s.nx d set u) k=s.un d set k (gk u k):=by
 unfold Sl.nx gk
 rcases hn with hn | hn<;>rw [hn] at hk ⊢
 ·obtain rfl:k=0:=by omega
  rfl
 ·rcases (show k=0∨k=1 by omega) with rfl | rfl<;>rfl
theorem char_next {s:Sl} (hn:s.n=1∨s.n=2) {d set:Nat} {l:List Nat} {u:Int × Int} (h:s.Char l u):s.Char (l++slotsOf s.n d set) (s.nx d set u):=by
 intro k hk d' hd'
 have h0:=h k hk d' hd'
 rw [gk_nx hn hk]
 unfold Sl.un
 have hmem:(∃ a ∈ slotsOf s.n d set,a % s.n=k∧(d':Int)≤((a / s.n:Nat):Int)+s.ev k)↔(tst s.n set k=true∧(d':Int)≤d+s.ev k):=by
  constructor
  ·rintro ⟨a,ha,h1,h2⟩
   obtain ⟨j,hj,ht,rfl⟩:=mem_slots.mp ha
   rw [dn_mod hj] at h1
   subst h1
   rw [dn_div hj] at h2
   exact ⟨ht,h2⟩
  ·rintro ⟨ht,h2⟩
   exact ⟨d * s.n+k,mem_slots.mpr ⟨k,hk,ht,rfl⟩,dn_mod hk,by rw [dn_div hk];exact h2⟩
 have hx:(∃ a ∈ l++slotsOf s.n d set,a % s.n=k∧(d':Int)≤((a / s.n:Nat):Int)+s.ev k)↔((∃ a ∈ l,a % s.n=k∧(d':Int)≤((a / s.n:Nat):Int)+s.ev k)∨(tst s.n set k=true∧(d':Int)≤d+s.ev k)):=by
  rw [← hmem]
  constructor
  ·rintro ⟨a,ha,h1⟩
   rcases List.mem_append.mp ha with ha | ha
   ·exact .inl ⟨a,ha,h1⟩
   ·exact .inr ⟨a,ha,h1⟩
  ·rintro (⟨a,ha,h1⟩ | ⟨a,ha,h1⟩)
   ·exact ⟨a,List.mem_append_left _ ha,h1⟩
   ·exact ⟨a,List.mem_append_right _ ha,h1⟩
 rw [hx]
 generalize (∃ a ∈ l,a % s.n=k∧(d':Int)≤((a / s.n:Nat):Int)+s.ev k)=A at *
 by_cases ht:tst s.n set k=true
 ·rw [if_pos ht]
  constructor
  ·intro h1
   by_cases h2:(d':Int)≤gk u k
   ·exact (h0.mp h2).imp id .inl
   ·exact .inr (.inr ⟨ht,by omega⟩)
  ·rintro (h1 | h1 | ⟨_,h1⟩)
   ·have:=h0.mpr (.inl h1);omega
   ·have:=h0.mpr (.inr h1);omega
   ·omega
 ·rw [if_neg ht]
  exact h0.trans ⟨fun h=>h.imp id .inl,fun h=>h.imp id fun h=>h.resolve_right fun h=>ht h.1⟩
theorem okn_iff {s:Sl} (hn:s.n=1∨s.n=2) {d:Nat} {u:Int × Int}:s.okn d u=true↔∀ k,k<s.n→(d:Int)≤gk u k:=by
 unfold Sl.okn
 rcases hn with hn | hn<;>rw [hn]
 ·simp only [Bool.and_eq_true,decide_eq_true_eq]
  constructor
  ·rintro ⟨h,_⟩ k hk
   obtain rfl:k=0:=by omega
   exact h
  ·intro h
   exact ⟨h 0 (by omega),rfl⟩
 ·simp only [Bool.and_eq_true,decide_eq_true_eq]
  constructor
  ·rintro ⟨h,h2⟩ k hk
   rcases (show k=0∨k=1 by omega) with rfl | rfl
   ·exact h
   ·show (d:Int)≤u.2
    simpa using h2
  ·intro h
   have h1:(d:Int)≤u.2:=h 1 (by omega)
   exact ⟨h 0 (by omega),by simpa using h1⟩
theorem kept_iff {s:Sl} {x:List Nat} {d k:Nat}:s.keptB x d k=true↔(d:Int)≤s.lf k∨∃ a ∈ x,a % s.n=k∧a / s.n≤d∧(d:Int) - ((a / s.n:Nat):Int)≤s.ev k:=by
 unfold Sl.keptB
 rw [Bool.or_eq_true,List.any_eq_true]
 simp only [Bool.and_eq_true,decide_eq_true_eq,beq_iff_eq]
 constructor
 ·rintro (h | ⟨a,h1,⟨h2,h3⟩,h4⟩)
  ·exact .inl h
  ·exact .inr ⟨a,h1,h2,h3,h4⟩
 ·rintro (h | ⟨a,h1,h2,h3,h4⟩)
  ·exact .inl h
  ·exact .inr ⟨a,h1,⟨h2,h3⟩,h4⟩
theorem div_lt_of {n a d:Nat} (hn:n=1∨n=2) (h:a<d * n):a / n<d:=by rcases hn with rfl | rfl<;>omega
theorem div_ge_of {n a d:Nat} (hn:n=1∨n=2) (h:d * n≤a):d≤a / n:=by rcases hn with rfl | rfl<;>omega
theorem day_iff {s:Sl} (hn:s.n=1∨s.n=2) {d set:Nat} (hset:set<2 ^ s.n) {l y:List Nat} {u:Int × Int} (hd:d≤s.days) (hl:∀ a ∈ l,a<d * s.n) (hy:∀ a ∈ y,(d+1) * s.n≤a) (h:s.Char l u):s.dayB (l++(slotsOf s.n d set++y)) d=true↔pop set≤s.most∧s.okn d (s.nx d set u)=true:=by
 have hm:s.many (l++(slotsOf s.n d set++y)) d=pop set:=by
  unfold Sl.many
  rw [List.countP_append,List.countP_append]
  have h1:l.countP (fun a=>a / s.n == d)=0:=List.countP_eq_zero.mpr fun a ha=>by
   have:=div_lt_of hn (hl a ha)
   simp only [beq_iff_eq];omega
  have h2:y.countP (fun a=>a / s.n == d)=0:=List.countP_eq_zero.mpr fun a ha=>by
   have:=div_ge_of hn (hy a ha)
   simp only [beq_iff_eq];omega
  have h3:(slotsOf s.n d set).countP (fun a=>a / s.n == d)=(slotsOf s.n d set).length:=List.countP_eq_length.mpr fun a ha=>by
   obtain ⟨k,hk,_,rfl⟩:=mem_slots.mp ha
   rw [dn_div hk]
   simp
  rw [h1,h2,h3,slots_len hn hset]
  omega
 unfold Sl.dayB
 rw [hm,Bool.and_eq_true,decide_eq_true_eq,List.all_eq_true,okn_iff hn]
 refine and_congr Iff.rfl ?_
 constructor
 ·intro hk k hkn
  refine (char_next hn h k hkn d hd).mpr ?_
  rcases kept_iff.mp (hk k (List.mem_range.mpr hkn)) with h1 | ⟨a,ha,h1,h2,h3⟩
  ·exact .inl h1
  ·refine .inr ⟨a,?_,h1,by omega⟩
   rcases List.mem_append.mp ha with ha | ha
   ·exact List.mem_append_left _ ha
   ·rcases List.mem_append.mp ha with ha | ha
    ·exact List.mem_append_right _ ha
    ·have:=div_ge_of hn (hy a ha);omega
 ·intro hk k hkn
  rw [List.mem_range] at hkn
  refine kept_iff.mpr ?_
  rcases (char_next hn h k hkn d hd).mp (hk k hkn) with h1 | ⟨a,ha,h1,h2⟩
  ·exact .inl h1
  ·refine .inr ⟨a,?_,h1,?_,by omega⟩
   ·rcases List.mem_append.mp ha with ha | ha
    ·exact List.mem_append_left _ ha
    ·exact List.mem_append_right _ (List.mem_append_left _ ha)
   ·rcases List.mem_append.mp ha with ha | ha
    ·have:=div_lt_of hn (hl a ha);omega
    ·obtain ⟨j,hj,_,rfl⟩:=mem_slots.mp ha
     rw [dn_div hj]
     exact Nat.le_refl _
theorem split_day {n d:Nat} (hn:n=1∨n=2) {y:List Nat} (hp:y.Pairwise (·<·)) (hy:∀ a ∈ y,d * n≤a):∃ set,set<2 ^ n∧∃ z,y=slotsOf n d set++z∧z.Pairwise (·<·)∧∀ a ∈ z,(d+1) * n≤a:=by
 cases y with
 | nil=>exact ⟨0,by rcases hn with rfl | rfl<;>decide,[],by rcases hn with rfl | rfl<;>rfl,List.Pairwise.nil,fun _ h=>(by cases h)⟩
 | cons a r =>
  obtain ⟨h1,h2⟩:=List.pairwise_cons.mp hp
  have h0:=hy a (by simp)
  rcases hn with rfl | rfl
  ·by_cases e:a=d * 1+0
   ·exact ⟨1,by decide,r,by rw [e];rfl,h2,fun b hb=>by have:=h1 b hb;omega⟩
   ·exact ⟨0,by decide,a::r,rfl,hp,fun b hb=>by
     rcases List.mem_cons.mp hb with rfl | hb
     ·omega
     ·have:=h1 b hb;omega⟩
  ·by_cases e:a=d * 2+0
   ·cases r with
    | nil=>exact ⟨2,by decide,[],by rw [e];rfl,List.Pairwise.nil,fun _ h=>(by cases h)⟩
    | cons b r =>
     obtain ⟨h3,h4⟩:=List.pairwise_cons.mp h2
     have hab:=h1 b (by simp)
     by_cases e2:b=d * 2+1
     ·exact ⟨3,by decide,r,by rw [e,e2];rfl,h4,fun c hc=>by have:=h3 c hc;omega⟩
     ·exact ⟨2,by decide,b::r,by rw [e];rfl,h2,fun c hc=>by
       rcases List.mem_cons.mp hc with rfl | hc
       ·omega
       ·have:=h3 c hc;omega⟩
   ·by_cases e2:a=d * 2+1
    ·exact ⟨1,by decide,r,by rw [e2];rfl,h2,fun c hc=>by have:=h1 c hc;omega⟩
    ·exact ⟨0,by decide,a::r,rfl,hp,fun c hc=>by
      rcases List.mem_cons.mp hc with rfl | hc
      ·omega
      ·have:=h1 c hc;omega⟩
theorem slots_lt {n d set a:Nat} (hn:n=1∨n=2) (h:a ∈ slotsOf n d set):a<(d+1) * n:=by
 obtain ⟨k,hk,_,rfl⟩:=mem_slots.mp h
 rcases hn with rfl | rfl<;>omega
theorem fits_iff {s:Sl} (hn:s.n=1∨s.n=2):∀ (j d:Nat) (l y:List Nat) (u:Int × Int),d+j=s.days+1→(∀ a ∈ l,a<d * s.n)→s.Char l u→y.Pairwise (·<·)→(∀ a ∈ y,d * s.n≤a∧a<(s.days+1) * s.n)→(s.Fits j d u y↔∀ d',d≤d'→d'≤s.days→s.dayB (l++y) d'=true)
 | 0,d,l,y,u,hj,hl,hc,hp,hy=>by
  constructor
  ·intro _ d' h1 h2;omega
  ·intro _
   cases y with
   | nil=>rfl
   | cons a r =>
    have:=hy a (by simp)
    rw [show d=s.days+1 by omega] at this
    omega
 | j+1,d,l,y,u,hj,hl,hc,hp,hy=>by
  obtain ⟨set,hset,z,rfl,hz,hzge⟩:=split_day hn hp fun a ha=>(hy a ha).1
  have hl2:∀ a ∈ l++slotsOf s.n d set,a<(d+1) * s.n:=fun a ha=>by
   rcases List.mem_append.mp ha with ha | ha
   ·have:=hl a ha
    rw [Nat.succ_mul];omega
   ·exact slots_lt hn ha
  have ih:=fits_iff hn j (d+1) (l++slotsOf s.n d set) z (s.nx d set u) (by omega) hl2 (char_next hn hc) hz fun a ha=>⟨hzge a ha,(hy a (List.mem_append_right _ ha)).2⟩
  rw [List.append_assoc] at ih
  have hday:=day_iff hn hset (d:=d) (u:=u) (y:=z) (by omega) hl hzge hc
  constructor
  ·rintro ⟨set',hset',z',hzz,h1,h2,h3⟩ d' hd1 hd2
   have hz':set'=set∧z'=z:=by
    have hge:=(fits_ge hn _ _ _ _ h3).1
    have inj:∀ {a b:Nat} {x y:List Nat},a<2 ^ s.n→b<2 ^ s.n→(∀ c ∈ x,(d+1) * s.n≤c)→(∀ c ∈ y,(d+1) * s.n≤c)→slotsOf s.n d a++x=slotsOf s.n d b++y→a=b:=by
     intro a b x y ha hb hx hy' e
     have hk:∀ k,k<s.n→tst s.n a k=tst s.n b k:=by
      intro k hk
      have key:∀ {a:Nat} {x:List Nat},(∀ c ∈ x,(d+1) * s.n≤c)→(d * s.n+k ∈ slotsOf s.n d a++x↔tst s.n a k=true):=by
       intro a x hx
       constructor
       ·intro h
        rcases List.mem_append.mp h with h | h
        ·obtain ⟨j,hj,ht,e⟩:=mem_slots.mp h
         obtain rfl:j=k:=by omega
         exact ht
        ·have:=hx _ h
         rw [Nat.succ_mul] at this
         omega
       ·intro h
        exact List.mem_append_left _ (mem_slots.mpr ⟨k,hk,h,rfl⟩)
      have h1:=(key (a:=a) hx).symm.trans ((iff_of_eq (by rw [e])).trans (key (a:=b) hy'))
      cases h2:tst s.n a k<;>cases h3:tst s.n b k<;>simp_all
     rcases hn with hn | hn<;>rw [hn] at ha hb hk
     ·have h0:=hk 0 (by omega)
      have qa:a=0∨a=1:=by have:2 ^ 1=2:=rfl;omega
      have:b=0∨b=1:=by have:2 ^ 1=2:=rfl;omega
      rcases qa with rfl | rfl<;>rcases this with rfl | rfl<;>first | rfl | (exact absurd h0 (by decide))
     ·have h0:=hk 0 (by omega)
      have h1:=hk 1 (by omega)
      have qa:a=0∨a=1∨a=2∨a=3:=by have:2 ^ 2=4:=rfl;omega
      have:b=0∨b=1∨b=2∨b=3:=by have:2 ^ 2=4:=rfl;omega
      rcases qa with rfl | rfl | rfl | rfl<;>rcases this with rfl | rfl | rfl | rfl<;>first | rfl | (exact absurd h0 (by decide)) | (exact absurd h1 (by decide))
    have e1:=inj hset' hset (fun c hc=>(hge c hc).1) hzge hzz.symm
    subst e1
    exact ⟨rfl,(List.append_cancel_left hzz).symm⟩
   obtain ⟨rfl,rfl⟩:=hz'
   by_cases e:d'=d
   ·subst e
    exact hday.mpr ⟨h1,h2⟩
   ·exact ih.mp h3 d' (by omega) hd2
  ·intro h
   obtain ⟨h1,h2⟩:=hday.mp (h d (Nat.le_refl _) (by omega))
   exact ⟨set,hset,z,rfl,h1,h2,ih.mpr fun d' hd1 hd2=>h d' (by omega) hd2⟩
theorem fits_seal {s:Sl} (hn:s.n=1∨s.n=2) {x:List Nat} (hp:x.Pairwise (·<·)) (hx:∀ a ∈ x,a<(s.days+1) * s.n):s.Fits (s.days+1) 0 s.u0 x↔s.sealB x=true:=by
 rw [fits_iff hn (s.days+1) 0 [] x s.u0 (by omega) (fun _ h=>(by cases h)) (char_first hn) hp fun a ha=>⟨by omega,hx a ha⟩]
 unfold Sl.sealB
 rw [List.all_eq_true]
 constructor
 ·intro h d hd
  rw [List.mem_range] at hd
  exact h d (by omega) (by omega)
 ·intro h d _ hd
  exact h d (List.mem_range.mpr (by omega))
def downF {β:Type} (F:Nat→Option β) (a:Nat):Nat→Option β
 | 0=>none
 | j+1=>match F (a+j) with
  | some x=>some x
  | none=>downF F a j
theorem downF_some {β:Type} {F:Nat→Option β} {a:Nat} {x:β}:∀ {j:Nat},downF F a j=some x→∃ i,i<j∧F (a+i)=some x
 | 0,h=>by cases h
 | j+1,h=>by
  unfold downF at h
  cases hf:F (a+j) with
  | some y =>
   rw [hf] at h
   injection h with h
   exact ⟨j,by omega,by rw [hf,h]⟩
  | none =>
   rw [hf] at h
   obtain ⟨i,h1,h2⟩:=downF_some h
   exact ⟨i,by omega,h2⟩
theorem downF_max {β:Type} {F:Nat→Option β} {a i:Nat} {x:β}:∀ {j:Nat},i<j→F (a+i)=some x→∃ k y,downF F a j=some y∧F (a+k)=some y∧i≤k∧k<j
 | 0,h,_=>by omega
 | j+1,h,hx=>by
  unfold downF
  cases hf:F (a+j) with
  | some y=>exact ⟨j,y,rfl,hf,by omega,by omega⟩
  | none =>
   have:i≠j:=fun e=>by rw [e,hf] at hx;cases hx
   obtain ⟨k,y,h1,h2,h3,h4⟩:=downF_max (j:=j) (by omega) hx
   exact ⟨k,y,h1,h2,h3,by omega⟩
def Sl.bet (s:Sl):Nat→List Nat→Nat→Option (List Nat)
 | 0,l,_=>if s.sealB l=true then some l else none
 | m+1,l,a=>downF (fun i=>s.bet m (l++[i]) (i+1)) a ((s.days+1) * s.n - a)
theorem bet_sound {s:Sl}:∀ (m:Nat) (l:List Nat) (a:Nat) (x:List Nat),s.bet m l a=some x→∃ r,x=l++r∧r.length=m∧r.Pairwise (·<·)∧(∀ b ∈ r,a≤b∧b<(s.days+1) * s.n)∧s.sealB x=true
 | 0,l,a,x,h=>by
  unfold Sl.bet at h
  split at h
  ·injection h with h
   subst h
   exact ⟨[],by simp,rfl,List.Pairwise.nil,fun _ h=>(by cases h),by assumption⟩
  ·cases h
 | m+1,l,a,x,h=>by
  obtain ⟨i,hi,hx⟩:=downF_some h
  obtain ⟨r,h1,h2,h3,h4,h5⟩:=bet_sound m _ _ x hx
  refine ⟨(a+i)::r,by rw [h1];simp,by rw [List.length_cons,h2],List.pairwise_cons.mpr ⟨fun b hb=>by have:=(h4 b hb).1;omega,h3⟩,fun b hb=>?_,h5⟩
  rcases List.mem_cons.mp hb with rfl | hb
  ·omega
  ·have:=h4 b hb;omega
theorem bet_max {s:Sl}:∀ (m:Nat) (l r:List Nat) (a:Nat),r.length=m→r.Pairwise (·<·)→(∀ b ∈ r,a≤b∧b<(s.days+1) * s.n)→s.sealB (l++r)=true→∃ r',s.bet m l a=some (l++r')∧r'.length=m∧later r r'
 | 0,l,r,a,hr,_,_,h=>by
  obtain rfl:r=[]:=List.length_eq_zero_iff.mp hr
  refine ⟨[],?_,rfl,trivial⟩
  unfold Sl.bet
  rw [List.append_nil] at h ⊢
  rw [if_pos h]
 | m+1,l,[],a,hr,_,_,_=>by simp at hr
 | m+1,l,b::r,a,hr,hp,hb,h=>by
  obtain ⟨p1,p2⟩:=List.pairwise_cons.mp hp
  have hb0:=hb b (by simp)
  obtain ⟨r1,e1,e2,e3⟩:=bet_max (s:=s) m (l++[b]) r (b+1) (by simpa using hr) p2 (fun c hc=>⟨p1 c hc,(hb c (List.mem_cons_of_mem _ hc)).2⟩) (by simpa using h)
  obtain ⟨k,y,k1,k2,k3,k4⟩:=downF_max (F:=fun i=>s.bet m (l++[i]) (i+1)) (a:=a) (i:=b - a) (j:=(s.days+1) * s.n - a) (by omega) (by rw [show a+(b - a)=b by omega];exact e1)
  have k2':s.bet m (l++[a+k]) (a+k+1)=some y:=k2
  obtain ⟨q,q1,q2,_,_,_⟩:=bet_sound m _ _ y k2'
  refine ⟨(a+k)::q,?_,by rw [List.length_cons,q2],?_⟩
  ·show downF _ _ _=_
   rw [k1,q1]
   simp
  ·by_cases e:a+k=b
   ·refine .inr ⟨e.symm,?_⟩
    rw [e,e1] at k2'
    injection k2' with k2'
    rw [q1,e] at k2'
    have:=List.append_cancel_left k2'
    rw [← this]
    exact e3
   ·exact .inl (by omega)
theorem plan_is {s:Sl} (hn:s.n=1∨s.n=2) :
  (s.opt (s.days+1) 0 s.u0=none→∀ m,s.bet m [] 0=none) ∧
  ∀ c,s.opt (s.days+1) 0 s.u0=some c→s.sealB (s.plan (s.days+1) 0 s.u0)=true∧(∀ m,m<c.2→s.bet m [] 0=none)∧s.bet c.2 [] 0=some (s.plan (s.days+1) 0 s.u0)∧(s.plan (s.days+1) 0 s.u0).length=c.2:=by
 have fromB:∀ m x,s.bet m [] 0=some x→x.length=m∧s.Fits (s.days+1) 0 s.u0 x:=by
  intro m x h
  obtain ⟨r,rfl,h1,h2,h3,h4⟩:=bet_sound m [] 0 x h
  exact ⟨h1,(fits_seal hn h2 fun a ha=>(h3 a ha).2).mpr h4⟩
 refine ⟨fun h m=>?_,fun c hc=>?_⟩
 ·cases hb:s.bet m [] 0 with
  | none=>rfl
  | some x =>
   obtain ⟨c,h1,_⟩:=opt_best hn _ _ _ x (fromB m x hb).2
   rw [h] at h1;cases h1
 ·obtain ⟨hf,hl⟩:=opt_sound hn _ _ _ c hc
  obtain ⟨g1,g2⟩:=fits_ge hn _ _ _ _ hf
  have hx:∀ a ∈ s.plan (s.days+1) 0 s.u0,a<(s.days+1) * s.n:=fun a ha=>by have:=(g1 a ha).2;rwa [Nat.zero_add] at this
  have hs:=(fits_seal hn g2 hx).mp hf
  refine ⟨hs,fun m hm=>?_,?_,hl⟩
  ·cases hb:s.bet m [] 0 with
   | none=>rfl
   | some x =>
    obtain ⟨h1,h2⟩:=fromB m x hb
    obtain ⟨c',h3,h4,_⟩:=opt_best hn _ _ _ x h2
    rw [hc] at h3
    injection h3 with h3
    subst h3
    omega
  ·obtain ⟨r,h1,h2,h3⟩:=bet_max (s:=s) c.2 [] _ 0 hl g2 (fun a ha=>⟨Nat.zero_le _,hx a ha⟩) hs
   rw [List.nil_append] at h1
   obtain ⟨h4,h5⟩:=fromB _ _ h1
   obtain ⟨c',h6,_,h7⟩:=opt_best hn _ _ _ r h5
   rw [hc] at h6
   injection h6 with h6
   subst h6
   rw [h1,later_anti (by omega) h3 (h7 h2.symm)]
end Go.Abs
namespace Go.Abs
variable {P:Program}
def At (L:Env):List (Nat × AV)→Prop
 | []=>True
 | (t,v)::r=>L.find t=v∧At L r
theorem loop_inv {body:K} {cl:CallF} {cx:Ctx} (I:Nat→Env→St→Prop) (Q:Ex→Env→St→Prop) (k:Nat)
  (step:∀ i L s,i≤k→I i L s→(i<k∧∃ L1 s1,body cl cx L [] s=.done .norm L1 [] s1∧I (i+1) L1 s1)∨(∃ e L1 s1,e≠.norm∧body cl cx L [] s=.done e L1 [] s1∧Q e L1 s1)) :
  ∀ (m i fuel:Nat) (L:Env) (s:St),i+m=k→m<fuel→I i L s→∃ e L1 s1,loopN body fuel cl cx L [] s=.done e L1 [] s1∧Q e L1 s1
 | m,i,0,_,_,_,hf,_=>by omega
 | m,i,fuel+1,L,s,hm,hf,hI=>by
  rcases step i L s (by omega) hI with ⟨hi,L1,s1,h1,h2⟩ | ⟨e,L1,s1,he,h1,h2⟩
  ·obtain ⟨m',rfl⟩:∃ m',m=m'+1:=⟨m - 1,by omega⟩
   obtain ⟨e,L2,s2,h3,h4⟩:=loop_inv I Q k step m' (i+1) fuel L1 s1 (by omega) (by omega) h2
   exact ⟨e,L2,s2,by rw [loopN_succ,h1,thenK_norm,h3],h4⟩
  ·refine ⟨e,L1,s1,?_,h2⟩
   rw [loopN_succ,h1]
   cases e with
   | norm=>exact absurd rfl he
   | exit id=>rfl
   | ret=>rfl
theorem loop_of {body:K} {cl:CallF} {cx:Ctx} {L:Env} {s:St} {r:R} (hr:loopN body rounds cl cx L [] s=r) (I:Nat→Env→St→Prop) (Q:Ex→Env→St→Prop) (k:Nat) (hk:k<rounds) (h0:I 0 L s)
  (step:∀ i L s,i≤k→I i L s→(i<k∧∃ L1 s1,body cl cx L [] s=.done .norm L1 [] s1∧I (i+1) L1 s1)∨(∃ e L1 s1,e≠.norm∧body cl cx L [] s=.done e L1 [] s1∧Q e L1 s1)) :
  ∃ e L1 s1,r=.done e L1 [] s1∧Q e L1 s1:=by
 obtain ⟨e,L1,s1,h1,h2⟩:=loop_inv I Q k step k 0 rounds L s (by omega) hk h0
 exact ⟨e,L1,s1,hr.symm.trans h1,h2⟩
theorem minN_min (a b:Nat):minN a b=min a b:=by
 unfold minN
 cases h:Nat.ble a b
 ·have:¬ a≤b:=fun h'=>by rw [Nat.ble_eq_true_of_le h'] at h;cases h
  show b=_;omega
 ·have:=Nat.le_of_ble_eq_true h
  show a=_;omega
structure Stir (d:Nat) (u s:St) (k:Nat):Prop where
 same:∀ b,b<u.n→b≠d→s.h.get b=u.h.get b
 n:u.n≤s.n
 le:s.n≤u.n+k
 m:d≤u.m→d≤s.m
 mle:s.m≤u.m
theorem Stir.refl (d:Nat) (u:St):Stir d u u 0:=⟨fun _ _ _=>rfl,Nat.le_refl _,Nat.le_refl _,fun h=>h,Nat.le_refl _⟩
theorem Stir.new {d:Nat} {u s:St} {k:Nat} (h:Stir d u s k) (o:AObj):Stir d u (s.new o) (k+1) :=
 ⟨fun b hb hd=>by rw [get_new_ne _ _ _ (by have:=h.n;omega)];exact h.same b hb hd,Nat.le_trans h.n (Nat.le_succ _),by have:=h.le;show s.n+1≤_;omega,h.m,h.mle⟩
theorem Stir.put {d:Nat} {u s:St} {k b:Nat} (h:Stir d u s k) (hd:d<u.n) (o:AObj) (hb:b=d∨u.n≤b):Stir d u (s.put b o) k :=
 ⟨fun c hc hcd=>by rw [get_put_ne' _ _ _ _ (by omega)];exact h.same c hc hcd,h.n,h.le,fun hm=>by
  show d≤minN s.m b
  rw [minN_min]
  have:=h.m hm
  omega,Nat.le_trans (minN_le_left _ _) h.mle⟩
theorem Stir.trans {d:Nat} {u s t:St} {j k:Nat} (a:Stir d u s j) (b:Stir d s t k):Stir d u t (j+k) :=
 ⟨fun c hc hd=>(b.same c (by have:=a.n;omega) hd).trans (a.same c hc hd),Nat.le_trans a.n b.n,by have:=a.le;have:=b.le;omega,fun h=>b.m (a.m h),Nat.le_trans b.mle a.mle⟩
theorem Stir.mono {d:Nat} {u s:St} {j k:Nat} (a:Stir d u s j) (h:j≤k):Stir d u s k:=⟨a.same,a.n,by have:=a.le;omega,a.m,a.mle⟩
theorem Stir.draw {d:Nat} {s t:St} {k:Nat} (a:Stir d ⟨s.h,s.n,far⟩ t k) (hd:d≤far):Stir d s ⟨t.h,t.n,minN s.m t.m⟩ k :=
 ⟨a.same,a.n,a.le,fun h=>by
  show d≤minN s.m t.m
  rw [minN_min]
  have:d≤t.m:=a.m hd
  omega,minN_le_left _ _⟩
structure New (s t:St) (k:Nat):Prop where
 same:∀ b,b<s.n→t.h.get b=s.h.get b
 n:s.n≤t.n
 le:t.n≤s.n+k
 m:t.m=s.m
theorem New.refl (s:St):New s s 0:=⟨fun _ _=>rfl,Nat.le_refl _,Nat.le_refl _,rfl⟩
theorem New.draw {s t:St} {k:Nat} (a:New ⟨s.h,s.n,far⟩ t k) (h:s.m≤far):New s ⟨t.h,t.n,minN s.m t.m⟩ k :=
 ⟨a.same,a.n,a.le,by
  show minN s.m t.m=s.m
  have:t.m=far:=a.m
  rw [minN_min];omega⟩
theorem Stir.after {d:Nat} {u s t:St} {j k:Nat} (a:Stir d u s j) (b:New s t k):Stir d u t (j+k) :=
 ⟨fun c hc hd=>(b.same c (by have:=a.n;omega)).trans (a.same c hc hd),Nat.le_trans a.n b.n,by have:=a.le;have:=b.le;omega,fun h=>by rw [b.m];exact a.m h,by rw [b.m];exact a.mle⟩
theorem Beside.after {u s t:St} {j k:Nat} (a:Beside u s j) (b:New s t k):Beside u t (j+k) :=
 ⟨fun c hc=>(b.same c (by have:=a.n;omega)).trans (a.same c hc),Nat.le_trans a.n b.n,by have:=a.le;have:=b.le;omega,by rw [b.m];exact a.m,by rw [b.m];exact a.far⟩
theorem call_stir_plain {X:FuncId→List Nat} {n:Nat} {f:FuncId} {args:List AV} {s:St} {fn:Func} {d k:Nat} {Q:AV→Prop} {R:Heap→Prop} (hf:P.funcs[f]? = some fn) (h0:R s.h)
  (h:∀ u:St,u.h=s.h→u.n=s.n→u.m=far→∃ v s',enterA P X (call P X n) f args u fn=.val v s'∧Stir d u s' k∧plain v=true∧Q v∧R s'.h) (hd:d≤far) :
  ∃ v t,call P X (n+1) (.fn f) args s=.val v t∧Stir d s t k∧Q v∧R t.h:=by
 obtain ⟨v,s',h1,h2,h3,h4,h5⟩:=h ⟨s.h,s.n,far⟩ rfl rfl rfl
 cases hb:Nat.ble s.n s'.m with
 | true =>
  refine ⟨v,s,?_,(Stir.refl d s).mono (Nat.zero_le _),h4,h0⟩
  show callStep P X (call P X n) (.fn f) args s=_
  unfold callStep
  simp only [hf,h1]
  unfold Abs.settle
  simp only [hb,h3]
  rfl
 | false =>
  refine ⟨v,⟨s'.h,s'.n,minN s.m s'.m⟩,?_,Stir.draw (s:=s) h2 hd,h4,h5⟩
  show callStep P X (call P X n) (.fn f) args s=_
  unfold callStep
  simp only [hf,h1]
  unfold Abs.settle
  simp only [hb]
  rfl
theorem call_stir {X:FuncId→List Nat} {n:Nat} {f:FuncId} {args:List AV} {s:St} {fn:Func} {d k:Nat} {Q:AV→Heap→Nat→Prop} (hf:P.funcs[f]? = some fn) (hk:keepAll=true)
  (h:∀ u:St,u.h=s.h→u.n=s.n→u.m=far→∃ v s',enterA P X (call P X n) f args u fn=.val v s'∧Stir d u s' k∧plain v=false∧Q v s'.h s'.n) (hd:d≤far) :
  ∃ v t,call P X (n+1) (.fn f) args s=.val v t∧Stir d s t k∧Q v t.h t.n:=by
 obtain ⟨v,s',h1,h2,h3,h4⟩:=h ⟨s.h,s.n,far⟩ rfl rfl rfl
 cases hb:Nat.ble s.n s'.m with
 | true =>
  refine ⟨v,⟨s'.h,s'.n,s.m⟩,?_,⟨h2.same,h2.n,h2.le,fun h=>h,Nat.le_refl _⟩,h4⟩
  show callStep P X (call P X n) (.fn f) args s=_
  unfold callStep
  simp only [hf,h1]
  unfold Abs.settle
  simp only [hb,h3,hk]
  rfl
 | false =>
  refine ⟨v,⟨s'.h,s'.n,minN s.m s'.m⟩,?_,Stir.draw (s:=s) h2 hd,h4⟩
  show callStep P X (call P X n) (.fn f) args s=_
  unfold callStep
  simp only [hf,h1]
  unfold Abs.settle
  simp only [hb]
  rfl
theorem call_new {X:FuncId→List Nat} {n:Nat} {f:FuncId} {args:List AV} {s:St} {fn:Func} {k:Nat} {Q:AV→Heap→Nat→Prop} (hf:P.funcs[f]? = some fn) (hk:keepAll=true)
  (h:∀ u:St,u.h=s.h→u.n=s.n→u.m=far→∃ v s',enterA P X (call P X n) f args u fn=.val v s'∧Beside u s' k∧plain v=false∧Q v s'.h s'.n) :
  ∃ v t,call P X (n+1) (.fn f) args s=.val v t∧New s t k∧Q v t.h t.n:=by
 obtain ⟨v,s',h1,h2,h3,h4⟩:=h ⟨s.h,s.n,far⟩ rfl rfl rfl
 have hb:Nat.ble s.n s'.m=true:=Nat.ble_eq_true_of_le h2.m
 refine ⟨v,⟨s'.h,s'.n,s.m⟩,?_,⟨h2.same,h2.n,h2.le,rfl⟩,h4⟩
 show callStep P X (call P X n) (.fn f) args s=_
 unfold callStep
 simp only [hf,h1]
 unfold Abs.settle
 simp only [hb,h3,hk]
 rfl
theorem call_new' {X:FuncId→List Nat} {n:Nat} {f:FuncId} {args:List AV} {s:St} {fn:Func} {k:Nat} {Q:AV→Heap→Nat→Prop} (hf:P.funcs[f]? = some fn) (hk:keepAll=true)
  (h:∀ u:St,u.h=s.h→u.n=s.n→u.m=far→∃ v s',enterA P X (call P X n) f args u fn=.val v s'∧Beside u s' k∧Q v s'.h s'.n∧(plain v=true→Q v s.h s.n)) :
  ∃ v t,call P X (n+1) (.fn f) args s=.val v t∧New s t k∧Q v t.h t.n:=by
 obtain ⟨v,s',h1,h2,h3,h4⟩:=h ⟨s.h,s.n,far⟩ rfl rfl rfl
 have hb:Nat.ble s.n s'.m=true:=Nat.ble_eq_true_of_le h2.m
 cases hp:plain v with
 | true =>
  refine ⟨v,s,?_,⟨fun _ _=>rfl,Nat.le_refl _,Nat.le_add_right _ _,rfl⟩,h4 hp⟩
  show callStep P X (call P X n) (.fn f) args s=_
  unfold callStep
  simp only [hf,h1]
  unfold Abs.settle
  simp only [hb,hp]
  rfl
 | false =>
  refine ⟨v,⟨s'.h,s'.n,s.m⟩,?_,⟨h2.same,h2.n,h2.le,rfl⟩,h3⟩
  show callStep P X (call P X n) (.fn f) args s=_
  unfold callStep
  simp only [hf,h1]
  unfold Abs.settle
  simp only [hb,hp,hk]
  rfl
theorem call_any {X:FuncId→List Nat} {n:Nat} {f:FuncId} {args:List AV} {s:St} {fn:Func} {Q:AV→Heap→Nat→Nat→Prop} (hf:P.funcs[f]? = some fn) (hk:keepAll=true)
  (h:∀ u:St,u.h=s.h→u.n=s.n→u.m=far→∃ v s',enterA P X (call P X n) f args u fn=.val v s'∧Q v s'.h s'.n s'.m∧(plain v=true→s.n≤s'.m→Q v s.h s.n s'.m)) :
  ∃ v t m,call P X (n+1) (.fn f) args s=.val v t∧Q v t.h t.n m∧((s.n≤m∧t.m=s.m)∨(m<s.n∧t.m=min s.m m)):=by
 obtain ⟨v,s',h1,h2,h3⟩:=h ⟨s.h,s.n,far⟩ rfl rfl rfl
 cases hb:Nat.ble s.n s'.m with
 | true =>
  have hle:=Nat.le_of_ble_eq_true hb
  cases hp:plain v with
  | true =>
   refine ⟨v,s,s'.m,?_,h3 hp hle,.inl ⟨hle,rfl⟩⟩
   show callStep P X (call P X n) (.fn f) args s=_
   unfold callStep
   simp only [hf,h1]
   unfold Abs.settle
   simp only [hb,hp]
   rfl
  | false =>
   refine ⟨v,⟨s'.h,s'.n,s.m⟩,s'.m,?_,h2,.inl ⟨hle,rfl⟩⟩
   show callStep P X (call P X n) (.fn f) args s=_
   unfold callStep
   simp only [hf,h1]
   unfold Abs.settle
   simp only [hb,hp,hk]
   rfl
 | false =>
  have hlt:s'.m<s.n:=by
   rcases Nat.lt_or_ge s'.m s.n with h | h
   ·exact h
   ·rw [Nat.ble_eq_true_of_le h] at hb;cases hb
  refine ⟨v,⟨s'.h,s'.n,minN s.m s'.m⟩,s'.m,?_,h2,.inr ⟨hlt,minN_min _ _⟩⟩
  show callStep P X (call P X n) (.fn f) args s=_
  unfold callStep
  simp only [hf,h1]
  unfold Abs.settle
  simp only [hb]
  rfl
/-! ### Ends of what may be -/
theorem kFold_def (f:AV→AV→AV) (x:Arg) (r:List Arg) (L:Env) (s:St):kFold f x r L s=okA (.val (foldA f (x.ev L) (evs r L)) s):=Eq.trans (Eq.refl _) (Eq.refl _)
theorem foldA_nil (f:AV→AV→AV) (x:AV):foldA f x []=x:=Eq.trans (Eq.refl _) (Eq.refl _)
theorem foldA_cons (f:AV→AV→AV) (x y:AV) (r:List AV):foldA f x (y::r)=foldA f (f x y) r:=Eq.trans (Eq.refl _) (Eq.refl _)
theorem minN_eq (a b:Nat):minN a b=min a b:=minN_min a b
theorem maxA_i64 (x y:Int):maxA (.int .i64 x) (.int .i64 y)=.int .i64 (max x y):=by
 show AV.int .i64 (match leI y x with | true=>x | false=>y)=_
 rw [leI_eq]
 by_cases h:y≤x
 ·rw [decide_eq_true h,Int.max_eq_left h]
 ·rw [decide_eq_false h,Int.max_eq_right (by omega)]
theorem minA_i64 (x y:Int):minA (.int .i64 x) (.int .i64 y)=.int .i64 (min x y):=by
 show AV.int .i64 (match leI x y with | true=>x | false=>y)=_
 rw [leI_eq]
 by_cases h:x≤y
 ·rw [decide_eq_true h,Int.min_eq_left h]
 ·rw [decide_eq_false h,Int.min_eq_right (by omega)]
/-! ### Numbers -/
theorem kShr_def (x y:Arg) (L:Env) (s:St):kShr x y L s=shrA s (x.ev L) (y.ev L):=Eq.trans (Eq.refl _) (Eq.refl _)
def shrI (a b:Int):Int:=a.fdiv (2 ^ (min b.toNat 64))
theorem shrA_u64 (s:St) (a:Int) (k:IntKind) (b:Int) (hb:0≤b):shrA s (.int .u64 a) (.int k b)=.val (.int .u64 (shrI a b)) s:=by
 cases b with
 | ofNat b=>rfl
 | negSucc b=>omega
theorem shrI_nonneg (a b:Int) (h:0≤a):0≤shrI a b:=Int.fdiv_nonneg h (Int.pow_nonneg (by decide))
theorem cviA_int (k k':IntKind) (s:St) (n:Int):cviA k s (.int k' n)=.val (.int k (wrapA k n)) s:=Eq.trans (Eq.refl _) (Eq.refl _)
theorem wrap_u64 (n:Int) (h:0≤n∧n≤18446744073709551615):wrapA .u64 n=n:=by rw [wrapA_eq];exact IntWalk.u64_in n h
theorem wrap_u64_range (n:Int):0≤IntKind.u64.wrap n∧IntKind.u64.wrap n≤18446744073709551615:=by
 simp [IntKind.wrap,IntKind.bits,IntKind.signed];omega
theorem aMul_def (s:St) (k:IntKind) (a b:Int):aMul s k a b=.val (.int k (wrapA k (Int.mul a b))) s:=Eq.trans (Eq.refl _) (Eq.refl _)
theorem aAdd_def (s:St) (k:IntKind) (a b:Int):aAdd s k a b=.val (.int k (wrapA k (Int.add a b))) s:=Eq.trans (Eq.refl _) (Eq.refl _)
def xorI (k:IntKind) (a b:Int):Int:=k.wrap (BitVec.ofInt k.bits a ^^^ BitVec.ofInt k.bits b).toNat
theorem xorI_range (a b:Int):0≤xorI .u64 a b∧xorI .u64 a b≤18446744073709551615:=wrap_u64_range _
theorem aXor_def (s:St) (k:IntKind) (a b:Int):aXor s k a b=.val (.int k (xorI k a b)) s:=Eq.trans (Eq.refl _) (Eq.refl _)
theorem aRem_ne (s:St) (k:IntKind) (a b:Int) (h:b≠0):aRem s k a b=.val (.int k (a.tmod b)) s:=by unfold aRem;rw [if_neg h]
end Go.Abs
set_option maxRecDepth 10000
namespace Go.Proofs.Ytoolodjbfphkjaa.walk
open Go.Abs Go.Proofs.Ytoolodjbfphkjaa.code
theorem within_ok (N:Nat) (hN:1≤N) (x lo hi:Int) (s:St) (h0:lo≤x) (h1:x≤hi) (hs:s.n≤far):call Try.prog X N (.fn 49) [.int .i64 x,.int .i64 lo,.int .i64 hi] s=.val (.int .i64 0) s:=by
 obtain ⟨n,rfl⟩:∃ n,N=n+1:=⟨N - 1,by omega⟩
 refine call_plain (s':=⟨s.h,s.n,far⟩) Try.func49 ?_ rfl hs
 have e0:decide (x<lo)=false:=by simp;omega
 have e1:decide (hi<x)=false:=by simp;omega
 rw [enter49]
 simp only [res49,K49r0,K49r1s7,K49r1s6,K49r1s5,K49r1,K49r2,K49r3,K49,Abs.W,reduceIte,Nat.reduceEqDiff,Nat.reduceAdd,decide_true,decide_false,kLoop_def,Nat.reduceSub,List.cons_append,List.nil_append,List.append_nil,List.length_cons,List.length_nil,e0,e1]
theorem counted_ok (N:Nat) (hN:1≤N) (x lo hi:Int) (s:St) (h0:lo≤x) (h1:x≤hi) (hs:s.n≤far):call Try.prog X N (.fn 62) [.int .i64 x,.int .i64 lo,.int .i64 hi] s=.val (.int .i64 0) s:=by
 obtain ⟨n,rfl⟩:∃ n,N=n+1:=⟨N - 1,by omega⟩
 refine call_plain (s':=⟨s.h,s.n,far⟩) Try.func62 ?_ rfl hs
 have e0:decide (x<lo)=false:=by simp;omega
 have e1:decide (hi<x)=false:=by simp;omega
 rw [enter62]
 simp only [res62,K62r0,K62r1,K62r2,K62r3,K62r4,K62r5,K62,Abs.W,reduceIte,Nat.reduceEqDiff,Nat.reduceAdd,decide_true,decide_false,kLoop_def,Nat.reduceSub,List.cons_append,List.nil_append,List.append_nil,List.length_cons,List.length_nil,e0,e1]
theorem or_loop (cl:CallF) (cx:Ctx) (k b o cap:Nat) (e:Bool) (c:List AV) (sz:Nat) (s:St) (hb:s.h.get b=some (.cells c sz)) (hc:∀ j,j<k→nth c (o+j)=.int .i64 0) (hk:k≤1000) :
  ∀ (m i fuel:Nat) (L:Env),i+m=k→m<fuel→L.find 6=.slice b o k cap e→L.find 7=.int .i64 k→L.find 8=.int .i64 i→L.find 3=.int .i64 0 →
  ∃ L',loopN K45l0 fuel cl cx L [] s=.done (.exit 0) L' [] s∧L'.find 3=.int .i64 0
 | m,i,0,L,hm,hf,h6,h7,h8,h3=>by omega
 | m,i,fuel+1,L,hm,hf,h6,h7,h8,h3=>by
  by_cases hlt:i<k
  ·obtain ⟨m',rfl⟩:∃ m',m=m'+1:=⟨m - 1,by omega⟩
   have e0:decide ((i:Int)<(k:Int))=true:=by simp;omega
   have e1:=hc i hlt
   have e2:decide ((0:Int)=0)=true:=rfl
   obtain ⟨L',hL,h3'⟩:=or_loop cl cx k b o cap e c sz s hb hc hk m' (i+1) fuel ((((L.set 9 (.bool true)).set 5 (.int .i64 0)).set 14 (.bool false)).set 8 (.int .i64 ((i:Int)+1))) (by omega) (by omega)
    (by simp only [Env.find_set,h6,reduceIte,Nat.reduceEqDiff]) (by simp only [Env.find_set,h7,reduceIte,Nat.reduceEqDiff]) (by simp only [Env.find_set,reduceIte];rfl) (by simp only [Env.find_set,h3,reduceIte,Nat.reduceEqDiff])
   refine ⟨L',?_,h3'⟩
   rw [← hL,loopN_succ]
   simp only [res45,K45r0,K45r1,K45r2,K45r3,K45r4,K45r5,K45r6,K45r7,K45l0,K45r8,K45,Abs.W,reduceIte,Nat.reduceEqDiff,Nat.reduceAdd,decide_true,decide_false,kLoop_def,Nat.reduceSub,List.cons_append,List.nil_append,List.append_nil,List.length_cons,List.length_nil,Env.find_set,h6,h7,h8,h3,e0,ixs_slice _ _ _ _ _ _ _ _ hlt,Nat.mul_one,hb,e1,e2,aAdd_i64 _ (i:Int) 1 (by omega)]
  ·have e0:decide ((i:Int)<(k:Int))=false:=by simp;omega
   refine ⟨L.set 9 (.bool false),?_,by simp only [Env.find_set,h3,reduceIte,Nat.reduceEqDiff]⟩
   rw [loopN_succ]
   simp only [res45,K45r0,K45r1,K45r2,K45r3,K45r4,K45r5,K45r6,K45r7,K45l0,K45r8,K45,Abs.W,reduceIte,Nat.reduceEqDiff,Nat.reduceAdd,decide_true,decide_false,kLoop_def,Nat.reduceSub,List.cons_append,List.nil_append,List.append_nil,List.length_cons,List.length_nil,Env.find_set,h6,h7,h8,h3,e0]
theorem or_ok (N:Nat) (hN:1≤N) (k b o cap:Nat) (e:Bool) (c:List AV) (sz:Nat) (s:St) (hb:s.h.get b=some (.cells c sz)) (hc:∀ j,j<k→nth c (o+j)=.int .i64 0) (hk:k≤1000) (hs:s.n≤far) :
  call Try.prog X N (.fn 45) [.slice b o k cap e] s=.val (.int .i64 0) s:=by
 obtain ⟨n,rfl⟩:∃ n,N=n+1:=⟨N - 1,by omega⟩
 refine call_plain' Try.func45 (fun u uh un um=>?_) rfl
 obtain ⟨L',hL,h3⟩:=or_loop (call Try.prog X n) ⟨45,none,Try.f45.ntmps,X 45⟩ k b o cap e c sz u (by rw [uh];exact hb) hc hk k 0 rounds
  (.cons 0 (.slice b o k cap e) (.cons 2 (.int .i64 0) (.cons 3 (.int .i64 0) (.cons 6 (.slice b o k cap e) (.cons 7 (.int .i64 k) (.cons 8 (.int .i64 0) .nil)))))) (by omega) (by unfold rounds;omega) rfl rfl rfl rfl
 rw [enter45]
 simp only [res45,K45r0,K45r1,K45r2,K45r3,K45r4,K45r5,K45r6,K45r7,K45r8,K45,Abs.W,reduceIte,Nat.reduceEqDiff,Nat.reduceAdd,decide_true,decide_false,kLoop_def,Nat.reduceSub,List.cons_append,List.nil_append,List.append_nil,List.length_cons,List.length_nil,hL,h3,Env.find_set]
 exact ⟨_,rfl,by rw [um,un];exact hs⟩
def allZ:List AV→Bool
 | []=>true
 | .int .i64 0::r=>allZ r
 | _=>false
theorem allZ_nth:∀ {c:List AV},allZ c=true→∀ j,j<c.length→nth c j=.int .i64 0
 | [],_,j,hj=>by simp at hj
 | a::r,h,j,hj=>by
  unfold allZ at h
  split at h
  ·rename_i heq;cases heq
  ·rename_i heq
   cases heq
   rw [nth_cons]
   cases j with
   | zero=>rfl
   | succ j=>rw [if_neg (by omega)];exact allZ_nth h j (by simpa using hj)
  ·cases h
theorem or_new (N:Nat) (hN:1≤N) (k:Nat) (c:List AV) (t:St) (hz:allZ c=true) (hl:c.length=k) (hk:k≤1000) (ht:t.n+1≤far) :
  call Try.prog X N (.fn 45) [.slice t.n 0 k k false] (t.new (.cells c 0))=.val (.int .i64 0) (t.new (.cells c 0)):=by
 obtain ⟨n,rfl⟩:∃ n,N=n+1:=⟨N - 1,by omega⟩
 have hf:far=1000000000:=rfl
 refine or_ok (n+1) (by omega) k t.n 0 k false c 0 _ (get_new_eq _ _ _ rfl (by omega)) (fun j hj=>?_) hk (by rw [new_n];omega)
 rw [Nat.zero_add]
 exact allZ_nth hz j (by omega)
theorem or_new2 (N:Nat) (hN:1≤N) (t:St) (ht:t.n+1≤far):call Try.prog X N (.fn 45) [.slice t.n 0 2 2 false] (t.new (.cells [.int .i64 0,.int .i64 0] 0))=.val (.int .i64 0) (t.new (.cells [.int .i64 0,.int .i64 0] 0)) :=
 or_new N hN 2 _ t rfl rfl (by omega) ht
end Go.Proofs.Ytoolodjbfphkjaa.walk
namespace Go.Abs
variable {P:Program}
structure Rows (h:Heap) (lo n w tg:Nat) (rows:List (List AV)) (v:AV):Prop where
 wide:∀ r ∈ rows,r.length=w
 is:(rows=[]∧v=.nilslice)∨(∃ b,lo≤b∧b<n∧v=.slice b 0 rows.length rows.length true∧h.get b=some (.cells rows.flatten (w+tg)))
theorem Rows.nil (h:Heap) (lo n w tg:Nat):Rows h lo n w tg [] .nilslice:=⟨fun r hr=>by (cases hr),.inl ⟨rfl,rfl⟩⟩
theorem Rows.mono {h h':Heap} {lo n n' w tg:Nat} {rows:List (List AV)} {v:AV} (r:Rows h lo n w tg rows v) (hh:∀ b,lo≤b→b<n→h'.get b=h.get b) (hn:n≤n'):Rows h' lo n' w tg rows v :=
 ⟨r.wide,r.is.imp id fun ⟨b,h0,h1,h2,h3⟩=>⟨b,h0,by omega,h2,by rw [hh b h0 h1];exact h3⟩⟩
theorem flatten_cut:∀ {rows:List (List AV)} {w i:Nat},(∀ r ∈ rows,r.length=w)→(hi:i<rows.length)→cut (i * w) w rows.flatten=some rows[i]
 | [],w,i,_,hi=>by simp at hi
 | r::rs,w,i,hw,hi=>by
  have hr:r.length=w:=hw r (List.mem_cons_self ..)
  have cut1_app:∀ (r l:List AV),cut1 r.length (r++l)=some r:=by
   intro r l
   induction r with
   | nil=>exact cut1_zero l
   | cons a r ih=>rw [List.length_cons,List.cons_append,cut1_cons,ih];rfl
  have cut_0:∀ (k:Nat) (l:List AV),cut 0 k l=cut1 k l:=by
   intro k l
   cases l with
   | nil=>rfl
   | cons a l=>rfl
  cases i with
  | zero =>
   rw [Nat.zero_mul,List.flatten_cons,cut_0,← hr,cut1_app]
   rfl
  | succ i =>
   have ih:=flatten_cut (rows:=rs) (w:=w) (i:=i) (fun x hx=>hw x (List.mem_cons_of_mem _ hx)) (by simpa using hi)
   have drop:∀ (r l:List AV) (o k:Nat),cut (o+r.length) k (r++l)=cut o k l:=by
    intro r l o k
    induction r with
    | nil=>rfl
    | cons a r ih=>rw [List.length_cons,List.cons_append,← Nat.add_assoc,cut_cons,if_neg (by omega)];exact ih
   rw [List.flatten_cons,show (i+1) * w=i * w+r.length by rw [Nat.succ_mul,hr],drop,ih]
   rfl
theorem Rows.at_ {h:Heap} {lo n w tg:Nat} {rows:List (List AV)} {v:AV} (r:Rows h lo n w tg rows v):RowsAt h n w rows v:=by
 refine ⟨fun s=>?_,fun i hi=>?_⟩
 ·rcases r.is with ⟨h1,h2⟩ | ⟨b,_,_,h2,_⟩
  ·subst h1;subst h2;rfl
  ·subst h2;rfl
 ·rcases r.is with ⟨h1,_⟩ | ⟨b,_,hb,h2,h3⟩
  ·subst h1;simp at hi
  ·subst h2
   exact ⟨b,i * w,rows.flatten,w+tg,hb,fun s=>by rw [ixs_slice _ _ _ _ _ _ _ _ hi,Nat.zero_add],h3,flatten_cut r.wide hi⟩
theorem Rows.len {h:Heap} {lo n w tg:Nat} {rows:List (List AV)} {v:AV} (r:Rows h lo n w tg rows v) (s:St):lenSlA s v=.val (.int .i64 rows.length) s:=r.at_.len s
theorem Rows.scalar {h:Heap} {lo n w tg:Nat} {rows:List (List AV)} {v:AV} (r:Rows h lo n w tg rows v):(∀ t,okA (.val v t)=.val v t)∧cellsOf 1 v=some [v]∧(∀ l,scalars (v::l)=scalars l):=by
 rcases r.is with ⟨_,h2⟩ | ⟨b,_,_,h2,_⟩<;>subst h2<;>exact ⟨fun _=>rfl,rfl,fun _=>rfl⟩
theorem flatten_len:∀ {rows:List (List AV)} {w:Nat},(∀ r ∈ rows,r.length=w)→rows.flatten.length=rows.length * w
 | [],w,_=>by simp
 | r::rs,w,hw=>by
  have:=flatten_len (rows:=rs) (w:=w) (fun x hx=>hw x (List.mem_cons_of_mem _ hx))
  rw [List.flatten_cons,List.length_append,this,hw r (List.mem_cons_self ..),List.length_cons,Nat.succ_mul,Nat.add_comm]
theorem append_row {s:St} {lo w bytes tg:Nat} {rows:List (List AV)} {v:AV} (r:Rows s.h lo s.n w tg rows v) {p sz:Nat} {row:List AV} (hp:s.h.get p=some (.cells row sz)) (hw:row.length=w) (hsc:scalars row=true)
  (hb:(rows.length+1) * bytes≤1000000) (htg:szOf (w+tg)=w) (hs:s.n<549755813888) (hlo:lo≤s.n) :
  ∃ v' s',appendA false w bytes tg s v (.slice p 0 1 1 false)=.val v' s'∧Rows s'.h lo s'.n w tg (rows++[row]) v'∧s'.n=s.n+1∧(∀ b,b<lo→s'.h.get b=s.h.get b)∧(∀ b,b<s.n→v≠.slice b 0 rows.length rows.length true→s'.h.get b=s.h.get b)∧(∀ k,k≤lo→k≤s.m→k≤s'.m)∧s'.m≤s.m∧v'=.slice s.n 0 (rows.length+1) (rows.length+1) true:=by
 have h1:∀ x,appendA false w bytes tg s x (.slice p 0 1 1 false)=growA w bytes tg 1 row s x:=by
  intro x
  have e1:firstA w 1 s (.slice p 0 1 1 false)=some row:=by
   show (match s.h.get p with | some (.cells c _)=>cut 0 (1 * w) c | some (.fam c _ k _)=>cut 0 (1 * w) (c.take k) | _=>none)=some row
   rw [hp]
   simp only [Nat.one_mul]
   have cut_0:∀ (k:Nat) (l:List AV),cut 0 k l=cut1 k l:=by
    intro k l
    cases l with
    | nil=>rfl
    | cons a l=>rfl
   have all:∀ l:List AV,cut1 l.length l=some l:=by
    intro l
    induction l with
    | nil=>rfl
    | cons a l ih=>rw [List.length_cons,cut1_cons,ih];rfl
   rw [cut_0,← hw,all]
  show (match (some 1:Option Nat) with | none=>ARes.fail | some n=>match firstA w n s (.slice p 0 1 1 false) with | none=>.fail | some new=>match Nat.beq new.length (n * w) with | false=>.fail | true=>match scalars new with | true=>(growA w bytes tg n new s x) | false=>.fail)=_
  simp only [e1,hw,Nat.one_mul,Nat.beq_refl,hsc]
 rcases r.is with ⟨h2,h3⟩ | ⟨b,hlb,hbn,h3,h4⟩
 ·subst h2;subst h3
  refine ⟨.slice s.n 0 1 1 true,s.new (.cells row (w+tg)),?_,⟨fun x hx=>?_,.inr ⟨s.n,hlo,Nat.lt_succ_self _,rfl,?_⟩⟩,rfl,fun b hb=>?_,fun b hb _=>?_,fun _ _ h=>h,Nat.le_refl _,rfl⟩
  ·rw [h1]
   show (match Nat.beq 1 0 with | true=>ARes.val .nilslice s | false=>match Nat.ble (1 * bytes) limit with | false=>.fail | true=>.val (.slice s.n 0 1 1 true) (s.new (.cells row (w+tg))))=_
   have:Nat.ble (1 * bytes) limit=true:=Nat.ble_eq_true_of_le (by unfold limit;simp at hb;omega)
   rw [this]
  ·simp at hx;subst hx;exact hw
  ·simp only [List.nil_append,List.flatten_cons,List.flatten_nil,List.append_nil]
   exact get_new_eq _ _ _ rfl hs
  ·exact get_new_ne _ _ _ (by omega)
  ·exact get_new_ne _ _ _ (by omega)
 ·subst h3
  have hfl:=flatten_len r.wide
  refine ⟨.slice s.n 0 (rows.length+1) (rows.length+1) true,(s.kill b).new (.cells (rows.flatten++row) (w+tg)),?_,⟨fun x hx=>?_,.inr ⟨s.n,hlo,Nat.lt_succ_self _,by simp,?_⟩⟩,rfl,fun c hc=>?_,fun c hc hne=>?_,fun k hk hm=>?_,minN_le_left _ _,rfl⟩
  ·rw [h1]
   unfold growA
   simp only [h4]
   have e1:Nat.ble (rows.length+1) rows.length=false:=by
    cases h:Nat.ble (rows.length+1) rows.length with
    | false=>rfl
    | true=>have:=Nat.le_of_ble_eq_true h;omega
   have e2:Nat.ble ((rows.length+1) * bytes) limit=true:=Nat.ble_eq_true_of_le hb
   simp only [e1,e2,hfl,htg,Nat.zero_add,List.drop_zero,and_self,if_true]
  ·rcases List.mem_append.mp hx with hx | hx
   ·exact r.wide x hx
   ·simp at hx;subst hx;exact hw
  ·rw [List.flatten_append,List.flatten_cons,List.flatten_nil,List.append_nil]
   exact get_new_eq _ _ _ rfl hs
  ·rw [get_new_ne _ _ _ (by show c≠s.n;omega),St.kill_h,heap_set_ne _ _ _ _ (by omega)]
  ·rw [get_new_ne _ _ _ (by show c≠s.n;omega),St.kill_h,heap_set_ne _ _ _ _ (fun e=>hne (by rw [e]))]
  ·show k≤minN s.m b
   rw [minN_min];omega
/-! ### Slices as they come in, copies, parts -/
theorem cut_zero (k:Nat) (l:List AV):cut 0 k l=cut1 k l:=by cases l<;>rfl
theorem cut1_app:∀ (r l:List AV),cut1 r.length (r++l)=some r:=by
 intro r l
 induction r with
 | nil=>exact cut1_zero l
 | cons a r ih=>rw [List.length_cons,List.cons_append,cut1_cons,ih];rfl
theorem cut1_all (l:List AV):cut1 l.length l=some l:=by have:=cut1_app l [];rwa [List.append_nil] at this
theorem cut1_some:∀ {k:Nat} {l r:List AV},cut1 k l=some r→∃ t,l=r++t∧r.length=k
 | 0,l,r,h=>by rw [cut1_zero] at h;cases h;exact ⟨l,rfl,rfl⟩
 | k+1,[],r,h=>by cases h
 | k+1,a::l,r,h=>by
  rw [cut1_cons] at h
  generalize hq:cut1 k l=q at h
  cases q with
  | none=>cases h
  | some q =>
   cases h
   obtain ⟨t,h1,h2⟩:=cut1_some hq
   exact ⟨t,by rw [h1];rfl,by rw [List.length_cons,h2]⟩
theorem cut_some:∀ {o k:Nat} {l r:List AV},cut o k l=some r→∃ a t,l=a++r++t∧a.length=o∧r.length=k
 | 0,k,l,r,h=>by
  rw [cut_zero] at h
  obtain ⟨t,h1,h2⟩:=cut1_some h
  exact ⟨[],t,by rw [h1];rfl,rfl,h2⟩
 | o+1,k,[],r,h=>by cases h
 | o+1,k,a::l,r,h=>by
  rw [cut_cons,if_neg (by omega)] at h
  obtain ⟨x,t,h1,h2,h3⟩:=cut_some h
  exact ⟨a::x,t,by rw [h1];rfl,by rw [List.length_cons,h2];omega,h3⟩
theorem cut_skip:∀ (a l:List AV) (o k:Nat),cut (a.length+o) k (a++l)=cut o k l
 | [],l,o,k=>by rw [List.length_nil,Nat.zero_add,List.nil_append]
 | x::a,l,o,k=>by
  rw [List.length_cons,List.cons_append,show a.length+1+o=(a.length+o)+1 by omega,cut_cons,if_neg (by omega)]
  exact cut_skip a l o k
theorem cut_app:∀ {o k:Nat} {l r t:List AV},cut o k l=some r→cut o k (l++t)=some r:=by
 intro o k l r t h
 obtain ⟨a,u,h1,h2,h3⟩:=cut_some h
 rw [h1,← h2,List.append_assoc,List.append_assoc]
 have:=cut_skip a (r++(u++t)) 0 k
 rw [Nat.add_zero] at this
 rw [this,cut_zero,← h3,cut1_app]
theorem cut_cut {o k i w:Nat} {c F r:List AV} (h:cut o k c=some F) (h2:cut i w F=some r):cut (o+i) w c=some r:=by
 obtain ⟨a,t,h3,h4,h5⟩:=cut_some h
 rw [h3,← h4,List.append_assoc,cut_skip]
 exact cut_app h2
structure Seq (h:Heap) (n w:Nat) (rows:List (List AV)) (v:AV):Prop where
 wide:∀ r ∈ rows,r.length=w
 is:(rows=[]∧v=.nilslice)∨∃ b o cap e c sz,b<n∧v=.slice b o rows.length cap e∧h.get b=some (.cells c sz)∧cut o (rows.length * w) c=some rows.flatten
theorem Seq.at_ {h:Heap} {n w:Nat} {rows:List (List AV)} {v:AV} (r:Seq h n w rows v):RowsAt h n w rows v:=by
 refine ⟨fun s=>?_,fun i hi=>?_⟩
 ·rcases r.is with ⟨h1,h2⟩ | ⟨b,o,cap,e,c,sz,_,h2,_⟩
  ·subst h1;subst h2;rfl
  ·subst h2;rfl
 ·rcases r.is with ⟨h1,_⟩ | ⟨b,o,cap,e,c,sz,hb,h2,h3,h4⟩
  ·subst h1;simp at hi
  ·subst h2
   exact ⟨b,o+i * w,c,sz,hb,fun s=>ixs_slice _ _ _ _ _ _ _ _ hi,h3,cut_cut h4 (flatten_cut r.wide hi)⟩
theorem Seq.grow {h h':Heap} {n n' w:Nat} {rows:List (List AV)} {v:AV} (r:Seq h n w rows v) (hh:∀ b,b<n→h'.get b=h.get b) (hn:n≤n'):Seq h' n' w rows v :=
 ⟨r.wide,r.is.imp id fun ⟨b,o,cap,e,c,sz,h1,h2,h3,h4⟩=>⟨b,o,cap,e,c,sz,by omega,h2,by rw [hh b h1];exact h3,h4⟩⟩
theorem Rows.seq {h:Heap} {lo n w tg:Nat} {rows:List (List AV)} {v:AV} (r:Rows h lo n w tg rows v):Seq h n w rows v :=
 ⟨r.wide,r.is.imp id fun ⟨b,_,h1,h2,h3⟩=>⟨b,0,_,_,_,_,h1,h2,h3,by rw [cut_zero,← flatten_len r.wide,cut1_all]⟩⟩
theorem Seq.first {s:St} {n w:Nat} {rows:List (List AV)} {v:AV} (r:Seq s.h n w rows v):lenA v=some rows.length∧firstA w rows.length s v=some rows.flatten:=by
 rcases r.is with ⟨h1,h2⟩ | ⟨b,o,cap,e,c,sz,hb,h2,h3,h4⟩
 ·subst h1;subst h2;exact ⟨rfl,rfl⟩
 ·subst h2
  refine ⟨rfl,?_⟩
  show (match s.h.get b with | some (.cells c _)=>cut o (rows.length * w) c | some (.fam c _ k _)=>cut o (rows.length * w) (c.take k) | _=>none)=_
  rw [h3]
  exact h4
theorem Seq.scalar {h:Heap} {n w:Nat} {rows:List (List AV)} {v:AV} (r:Seq h n w rows v):(∀ t,okA (.val v t)=.val v t)∧cellsOf 1 v=some [v]∧(∀ l,scalars (v::l)=scalars l):=by
 rcases r.is with ⟨_,h2⟩ | ⟨b,o,cap,e,c,sz,_,h2,_⟩<;>subst h2<;>exact ⟨fun _=>rfl,rfl,fun _=>rfl⟩
theorem scalars_append:∀ {a b:List AV},scalars a=true→scalars b=true→scalars (a++b)=true
 | [],b,_,h=>h
 | x::a,b,h1,h2=>by
  have e:∀ (x:AV) (l:List AV),scalars (x::l)=(match x.scalar with | true=>scalars l | false=>false):=fun _ _=>rfl
  rw [e] at h1
  rw [List.cons_append,e]
  split at h1
  ·exact scalars_append h1 h2
  ·cases h1
theorem scalars_flatten:∀ {rows:List (List AV)},(∀ r ∈ rows,scalars r=true)→scalars rows.flatten=true
 | [],_=>rfl
 | r::rs,h=>by rw [List.flatten_cons];exact scalars_append (h r (List.mem_cons_self ..)) (scalars_flatten fun x hx=>h x (List.mem_cons_of_mem _ hx))
structure Own (h:Heap) (lo n w tg:Nat) (rows:List (List AV)) (v:AV):Prop where
 wide:∀ r ∈ rows,r.length=w
 is:(rows=[]∧(v=.nilslice∨∃ b,lo≤b∧b<n∧v=.slice b 0 0 0 false∧h.get b=some (.cells [] 0)))∨(rows≠[]∧∃ b,lo≤b∧b<n∧v=.slice b 0 rows.length rows.length true∧h.get b=some (.cells rows.flatten (w+tg)))
theorem Own.seq {h:Heap} {lo n w tg:Nat} {rows:List (List AV)} {v:AV} (r:Own h lo n w tg rows v):Seq h n w rows v:=by
 refine ⟨r.wide,?_⟩
 rcases r.is with ⟨h1,h2 | ⟨b,_,h3,h4,h5⟩⟩ | ⟨_,b,_,h3,h4,h5⟩
 ·exact .inl ⟨h1,h2⟩
 ·subst h1;exact .inr ⟨b,0,0,false,[],0,h3,h4,h5,by rw [List.length_nil,Nat.zero_mul];rfl⟩
 ·exact .inr ⟨b,0,_,_,_,_,h3,h4,h5,by rw [cut_zero,← flatten_len r.wide,cut1_all]⟩
theorem Own.mono {h h':Heap} {lo n n' w tg:Nat} {rows:List (List AV)} {v:AV} (r:Own h lo n w tg rows v) (hh:∀ b,lo≤b→b<n→h'.get b=h.get b) (hn:n≤n'):Own h' lo n' w tg rows v:=by
 refine ⟨r.wide,?_⟩
 rcases r.is with ⟨h1,h2 | ⟨b,h0,h3,h4,h5⟩⟩ | ⟨h1,b,h0,h3,h4,h5⟩
 ·exact .inl ⟨h1,.inl h2⟩
 ·exact .inl ⟨h1,.inr ⟨b,h0,by omega,h4,by rw [hh b h0 h3];exact h5⟩⟩
 ·exact .inr ⟨h1,b,h0,by omega,h4,by rw [hh b h0 h3];exact h5⟩
theorem append_copy {s:St} {n w bytes tg p:Nat} {rows:List (List AV)} {v:AV} (r:Seq s.h n w rows v) (hp:s.h.get p=some (.cells [] 0)) (hpn:p<s.n) (hsc:∀ r ∈ rows,scalars r=true) (hb:rows.length * bytes≤1000000) (hs:s.n<549755813888) :
  ∃ v' s',appendA false w bytes tg s (.slice p 0 0 0 false) v=.val v' s'∧Own s'.h p s'.n w tg rows v'∧s.n≤s'.n∧s'.n≤s.n+1∧(∀ b,b<s.n→s'.h.get b=s.h.get b)∧(∀ k,k≤p→k≤s.m→k≤s'.m)∧s'.m≤s.m:=by
 obtain ⟨e1,e2⟩:=r.first
 have e3:Nat.beq rows.flatten.length (rows.length * w)=true:=by rw [flatten_len r.wide];exact Nat.beq_refl _
 have h1:appendA false w bytes tg s (.slice p 0 0 0 false) v=growA w bytes tg rows.length rows.flatten s (.slice p 0 0 0 false):=by
  unfold appendA
  simp only [e1,e2,e3,scalars_flatten hsc]
 rw [h1]
 unfold growA
 simp only [hp,Nat.zero_add,Nat.zero_mul]
 by_cases h0:rows=[]
 ·subst h0
  refine ⟨.slice p 0 0 0 false,s.put p (.cells [] 0),rfl,⟨fun x hx=>(by cases hx),.inl ⟨rfl,.inr ⟨p,Nat.le_refl _,hpn,rfl,get_put_eq _ _ _ _ rfl (by omega)⟩⟩⟩,Nat.le_refl _,Nat.le_succ _,fun b hb=>?_,fun k hk hm=>?_,minN_le_left _ _⟩
  ·by_cases hbp:b=p
   ·subst hbp;rw [get_put_eq _ _ _ _ rfl (by omega),hp]
   ·exact get_put_ne' _ _ _ _ hbp
  ·show k≤minN s.m p
   rw [minN_min];omega
 ·have hpos:0<rows.length:=List.length_pos_iff.mpr h0
  have e4:Nat.ble rows.length 0=false:=by
   cases h:Nat.ble rows.length 0 with
   | false=>rfl
   | true=>have:=Nat.le_of_ble_eq_true h;omega
  have e5:Nat.ble (rows.length * bytes) limit=true:=Nat.ble_eq_true_of_le hb
  have e6:cut 0 0 ([]:List AV)=some []:=rfl
  simp only [e4,e5,e6,List.nil_append]
  exact ⟨_,_,rfl,⟨r.wide,.inr ⟨h0,s.n,by omega,Nat.lt_succ_self _,rfl,get_new_eq _ _ _ rfl hs⟩⟩,Nat.le_succ _,Nat.le_refl _,fun b hb=>get_new_ne _ _ _ (by omega),fun _ _ h=>h,Nat.le_refl _⟩
end Go.Abs
namespace Go.Abs
variable {P:Program}
theorem cut1_nth:∀ {p:Nat} {c:List AV} {v:AV},cut p 1 c=some [v]→nth c p=v
 | p,[],v,h=>by cases p<;>cases h
 | 0,a::c,v,h=>by
  rw [cut_zero,cut1_cons,cut1_zero] at h
  cases h
  rfl
 | p+1,a::c,v,h=>by
  rw [cut_cons,if_neg (by omega),Nat.add_sub_cancel] at h
  rw [nth_cons,if_neg (by omega),Nat.add_sub_cancel]
  exact cut1_nth h
theorem leave_nil {P:Program} (L:Env) (s:St):leaveA P [] L [] s=.val (.tup []) s:=rfl
theorem call_round {X:FuncId→List Nat} {n l:Nat} {args:List AV} {s s1 s2:St} {r r1 r2:ALoop} {a b:K} {L L2:Env} {d d2:List Nat} {e:Ex} (hl:s.h.get l=some (.loop r)) (hr:args.length=r.params.length)
  (ha:codeK P r.xs r.nt r.assign=some a) (hb:codeK P r.xs r.nt r.body=some b) (h1:a (call P X n) ⟨r.fn,some l,r.nt,r.xs⟩ (setParams r.tmps r.params args) [] s=.done .norm L d s1)
  (h2:s1.h.get l=some (.loop r1)) (h3:r1.state=.ready) (h4:b (call P X n) ⟨r.fn,some l,r.nt,r.xs⟩ L [] (s1.put l (.loop { r1 with state:=.busy }))=.done e L2 d2 s2) (h5:s2.h.get l=some (.loop r2)) :
  call P X (n+1) (.yield l) args s=.val (.bool (goesOn e)) (s2.put l (.loop { r2 with state:=if goesOn e then .ready else .done,pending:=jumpOf e })):=by
 have e1:loopAt s l=some r:=by unfold loopAt;rw [hl]
 have e2:loopAt s1 l=some r1:=by unfold loopAt;rw [h2]
 have e3:loopAt s2 l=some r2:=by unfold loopAt;rw [h5]
 show callStep P X (call P X n) (.yield l) args s=_
 unfold callStep
 simp only [e1]
 unfold roundA
 rw [if_neg (by simp [hr])]
 simp only [ha,hb,h1,e2,h3,h4]
 unfold endRoundA
 simp only [e3]
theorem range_eq {f:Arg} {ps:List Tmp} {a b:Code} {cl:CallF} {c:Ctx} {L:Env} {d:List Nat} {s s2:St} {v:AV} {r:ALoop} (hc:c.rnd=none)
  (h:callV cl [.yield (s.n+1)] ((s.new .dfr).new (.loop ⟨.ready,none,c.fn,L,ps,a,b,s.n,c.nt,c.xs⟩)) (f.ev L)=.val v s2) (hr:s2.h.get (s.n+1)=some (.loop r)) (hb:r.state≠.busy) :
  kRange f ps a b cl c L d s=jumpA L (s.n::d) (s2.put (s.n+1) (.loop { r with state:=.exhausted })) r.pending:=by
 have e1:enterLoopA c L d ps a b s=some (s.n::d,(s.new .dfr).new (.loop ⟨.ready,none,c.fn,L,ps,a,b,s.n,c.nt,c.xs⟩)):=by unfold enterLoopA;rw [hc]
 have e2:Nat.sub ((s.new .dfr).new (.loop ⟨.ready,none,c.fn,L,ps,a,b,s.n,c.nt,c.xs⟩)).n 1=s.n+1:=rfl
 have e3:loopAt s2 (s.n+1)=some r:=by unfold loopAt;rw [hr]
 unfold kRange
 simp only [e1]
 rw [e2,h]
 simp only
 rw [e3]
 cases hst:r.state with
 | busy=>exact absurd hst hb
 | _=>simp only [hst]
theorem setParams1 (L:Env) (t:Tmp) (a:AV):setParams L [t] [a]=L.set t a:=rfl
theorem leave_dfr (P:Program) (rs:List ResultVar) (x:Nat) (L:Env) (s:St) (h:s.h.get x=some .dfr):leaveA P rs L [x] s=leaveA P rs L [] (s.kill x):=by
 unfold leaveA
 have:takeDfs s [x]=some (s.kill x):=by
  show (match s.h.get x with | some .dfr=>takeDfs (s.kill x) [] | _=>none)=_
  rw [h];rfl
 rw [this]
 rfl
theorem boxA_func (sz:Nat) (s:St) (f:FuncId) (x y:List AV):boxA sz s (.func f x y)=.val (.ptr s.n 0) (s.new (.cells [.func f x y] sz)):=Eq.trans (Eq.refl _) (Eq.refl _)
theorem get_kill_ne (s:St) (b c:Nat) (h:b≠c):(s.kill c).h.get b=s.h.get b:=by rw [St.kill_h,heap_set_ne _ _ _ _ h]
theorem range_to_end {f:Arg} {ps:List Tmp} {a b:Code} {cl:CallF} {c:Ctx} {L:Env} {s s2:St} {v:AV} {r:ALoop} (hc:c.rnd=none)
  (h:callV cl [.yield (s.n+1)] ((s.new .dfr).new (.loop ⟨.ready,none,c.fn,L,ps,a,b,s.n,c.nt,c.xs⟩)) (f.ev L)=.val v s2) (hr:s2.h.get (s.n+1)=some (.loop r)) (hb:r.state=.ready) (hp:r.pending=none) :
  kRange f ps a b cl c L [] s=.done .norm L [s.n] (s2.put (s.n+1) (.loop { r with state:=.exhausted })):=by
 rw [range_eq hc h hr (by rw [hb];simp),hp]
 rfl
structure Turn (d:Nat) (u t:St) (k:Nat):Prop where
 same:∀ b,b<u.n→b≠d→t.h.get b=u.h.get b
 n:u.n≤t.n
 le:t.n≤u.n+k
end Go.Abs
namespace Go.Abs
variable {P:Program}
structure Blk (h:Heap) (n b w tg:Nat) (rows:List (List AV)) (v:AV):Prop where
 wide:∀ r ∈ rows,r.length=w
 is:∃ e sz,v=.slice b 0 rows.length rows.length e∧b<n∧h.get b=some (.cells rows.flatten sz)∧(e=true→sz=w+tg)
theorem Blk.mono {h h':Heap} {n n' b w tg:Nat} {rows:List (List AV)} {v:AV} (r:Blk h n b w tg rows v) (hh:h'.get b=h.get b) (hn:n≤n'):Blk h' n' b w tg rows v :=
 ⟨r.wide,by obtain ⟨e,sz,h1,h2,h3,h4⟩:=r.is;exact ⟨e,sz,h1,by omega,by rw [hh];exact h3,h4⟩⟩
theorem Blk.lt {h:Heap} {n b w tg:Nat} {rows:List (List AV)} {v:AV} (r:Blk h n b w tg rows v):b<n:=by obtain ⟨e,sz,h1,h2,h3,h4⟩:=r.is;exact h2
theorem Blk.okA {h:Heap} {n b w tg:Nat} {rows:List (List AV)} {v:AV} (r:Blk h n b w tg rows v) (t:St):Abs.okA (.val v t)=.val v t:=by obtain ⟨e,sz,h1,h2,h3,h4⟩:=r.is;subst h1;rfl
theorem Blk.scal {h:Heap} {n b w tg:Nat} {rows:List (List AV)} {v:AV} (r:Blk h n b w tg rows v):v.scalar=true:=by obtain ⟨e,sz,h1,h2,h3,h4⟩:=r.is;subst h1;rfl
theorem Blk.cells {h:Heap} {n b w tg:Nat} {rows:List (List AV)} {v:AV} (r:Blk h n b w tg rows v):cellsOf 1 v=some [v]:=by obtain ⟨e,sz,h1,h2,h3,h4⟩:=r.is;subst h1;rfl
theorem Blk.len {h:Heap} {n b w tg:Nat} {rows:List (List AV)} {v:AV} (r:Blk h n b w tg rows v) (s:St):lenSlA s v=.val (.int .i64 rows.length) s:=by obtain ⟨e,sz,h1,h2,h3,h4⟩:=r.is;subst h1;rfl
theorem Blk.get {h:Heap} {n b w tg:Nat} {rows:List (List AV)} {v:AV} (r:Blk h n b w tg rows v):∃ sz,h.get b=some (.cells rows.flatten sz):=by obtain ⟨e,sz,h1,h2,h3,h4⟩:=r.is;exact ⟨sz,h3⟩
theorem Blk.ixs {h:Heap} {n b w tg:Nat} {rows:List (List AV)} {v:AV} (r:Blk h n b w tg rows v) {i:Nat} (hi:i<rows.length) (s:St):ixsA w s v (.int .i64 i)=.val (.ptr b (i * w)) s:=by
 obtain ⟨e,sz,h1,h2,h3,h4⟩:=r.is
 subst h1
 rw [ixs_slice _ _ _ _ _ _ _ _ hi,Nat.zero_add]
theorem Blk.cut {h:Heap} {n b w tg:Nat} {rows:List (List AV)} {v:AV} (r:Blk h n b w tg rows v) {i:Nat} (hi:i<rows.length):Abs.cut (i * w) w rows.flatten=some rows[i]:=flatten_cut r.wide hi
theorem Blk.at_ {h:Heap} {n b w tg:Nat} {rows:List (List AV)} {v:AV} (r:Blk h n b w tg rows v):RowsAt h n w rows v :=
 ⟨r.len,fun i hi=>by
  obtain ⟨sz,hg⟩:=r.get
  exact ⟨b,i * w,_,sz,r.lt,fun s=>r.ixs hi s,hg,r.cut hi⟩⟩
theorem append_blk {s:St} {b w bytes tg:Nat} {rows:List (List AV)} {v:AV} (r:Blk s.h s.n b w tg rows v) {p sz:Nat} {row:List AV} (hp:s.h.get p=some (.cells row sz)) (hw:row.length=w) (hsc:scalars row=true)
  (hb:(rows.length+1) * bytes≤1000000) (htg:szOf (w+tg)=w) (hs:s.n<549755813888) :
  ∃ s',appendA false w bytes tg s v (.slice p 0 1 1 false)=.val (.slice s.n 0 (rows.length+1) (rows.length+1) true) s'∧Blk s'.h s'.n s.n w tg (rows++[row]) (.slice s.n 0 (rows.length+1) (rows.length+1) true)∧s'.n=s.n+1∧(∀ c,c<s.n→c≠b→s'.h.get c=s.h.get c)∧(∀ k,k≤b→k≤s.m→k≤s'.m)∧s'.m≤s.m:=by
 have e1:firstA w 1 s (.slice p 0 1 1 false)=some row:=by
  show (match s.h.get p with | some (.cells c _)=>Abs.cut 0 (1 * w) c | some (.fam c _ k _)=>Abs.cut 0 (1 * w) (c.take k) | _=>none)=some row
  rw [hp]
  simp only [Nat.one_mul]
  rw [cut_zero,← hw,cut1_all]
 have h1:appendA false w bytes tg s v (.slice p 0 1 1 false)=growA w bytes tg 1 row s v:=by
  show (match (some 1:Option Nat) with | none=>ARes.fail | some n=>match firstA w n s (.slice p 0 1 1 false) with | none=>.fail | some new=>match Nat.beq new.length (n * w) with | false=>.fail | true=>match scalars new with | true=>(growA w bytes tg n new s v) | false=>.fail)=_
  simp only [e1,hw,Nat.one_mul,Nat.beq_refl,hsc]
 obtain ⟨e,sz',h2,h3,h4,h5⟩:=r.is
 have hfl:=flatten_len r.wide
 have g1:Nat.ble (rows.length+1) rows.length=false:=by
  cases h:Nat.ble (rows.length+1) rows.length with
  | false=>rfl
  | true=>have:=Nat.le_of_ble_eq_true h;omega
 have g2:Nat.ble ((rows.length+1) * bytes) limit=true:=Nat.ble_eq_true_of_le hb
 have wd:∀ x ∈ rows++[row],x.length=w:=fun x hx=>by
  rcases List.mem_append.mp hx with hx | hx
  ·exact r.wide x hx
  ·simp at hx;subst hx;exact hw
 have fl:(rows++[row]).flatten=rows.flatten++row:=by rw [List.flatten_append,List.flatten_cons,List.flatten_nil,List.append_nil]
 have ln:(rows++[row]).length=rows.length+1:=by rw [List.length_append];rfl
 subst h2
 cases e with
 | true =>
  have h5:=h5 rfl
  subst h5
  refine ⟨(s.kill b).new (.cells (rows.flatten++row) (w+tg)),?_,⟨wd,true,_,by rw [ln],Nat.lt_succ_self _,by rw [fl];exact get_new_eq _ _ _ rfl hs,fun _=>rfl⟩,rfl,fun c hc hcb=>?_,fun k hk hm=>?_,minN_le_left _ _⟩
  ·rw [h1]
   unfold growA
   simp only [h4]
   simp only [g1,g2,hfl,htg,Nat.zero_add,List.drop_zero,and_self,if_true]
  ·rw [get_new_ne _ _ _ (by show c≠s.n;omega),St.kill_h,heap_set_ne _ _ _ _ hcb]
  ·show k≤minN s.m b
   rw [minN_min];omega
 | false =>
  refine ⟨s.new (.cells (rows.flatten++row) (w+tg)),?_,⟨wd,true,_,by rw [ln],Nat.lt_succ_self _,by rw [fl];exact get_new_eq _ _ _ rfl hs,fun _=>rfl⟩,rfl,fun c hc hcb=>?_,fun k hk hm=>hm,Nat.le_refl _⟩
  ·rw [h1]
   unfold growA
   simp only [h4]
   have g3:Abs.cut 0 (rows.length * w) rows.flatten=some rows.flatten:=by rw [cut_zero,← hfl,cut1_all]
   simp only [g1,g2,g3]
  ·exact get_new_ne _ _ _ (by omega)
theorem endO_ok {M:Env} {l:List (Nat × Nat)} (s:St) (h:endOk M l=true):endO l (.ok M s)=.ok M s:=by
 show (match endOk M l with | true=>ORes.ok M s | false=>.fail)=_
 rw [h]
theorem endOk_nil (M:Env):endOk M []=true:=rfl
theorem endOk_cons {M:Env} {t u:Nat} {r:List (Nat × Nat)} (h:apartA (M.find t) (M.find u)=true):endOk M ((t,u)::r)=endOk M r:=by
 show (match apartA (M.find t) (M.find u) with | true=>endOk M r | false=>false)=_
 rw [h]
theorem apart_slice {b c o n k p:Nat} {e:Bool} (h:b≠c):apartA (.slice b o n k e) (.ptr c p)=true:=by
 unfold apartA
 simp [blockOf,nbeq_f h]
theorem Blk.apart {h:Heap} {n b w tg c o:Nat} {rows:List (List AV)} {v:AV} (r:Blk h n b w tg rows v) (hc:b≠c):apartA v (.ptr c o)=true:=by
 obtain ⟨e,sz,h1,h2,h3,h4⟩:=r.is
 subst h1;exact apart_slice hc
end Go.Abs
