/- What some of the results of a bench say, beside all of them. -/
import Derived.Test.YtfekafjfidohdaaM7
import Derived.Test.YtfekafjfidohdaaCodes
import Derived.Test.YtfekafjfidohdaaWalkAll
set_option linter.unusedSimpArgs false
set_option maxHeartbeats 16000000
set_option linter.unusedVariables false
set_option maxRecDepth 10000
namespace Go.Proofs.Ytfekafjfidohdaa.walk
open Go.Abs Go.Proofs.Ytfekafjfidohdaa.code
theorem givE_says {b:Bench} (ok:b.Ok) {i:Nat} (h:i<givMany b):Says (givAt b i) (givE b (givMany b)):=by
 have e:=givE_at ok h
 obtain ⟨ga,_⟩:=givAt_ok ok h
 unfold Says
 rw [ga,e]
 exact ⟨Int.le_refl _,Int.le_refl _⟩
theorem knT_gives {b:Bench} (ok:b.Ok) {k:Nat} {T:List (List Gap)} (hk:k≤resMany b) (h:knT b k=some T):∀ i,i<givMany b→Says (givAt b i) (ent T):=fun i hi=>by
 obtain ⟨ga,gb,_⟩:=givAt_ok ok hi
 exact (givE_says ok hi).mono (knT_le ok k T hk h) (by rw [ga];show i+1<givMany b+1;omega) (by show _<givMany b+1;omega)
theorem knT_says {b:Bench} (ok:b.Ok):∀ k T,k≤resMany b→knT b k=some T→∀ i,i<k→Says (resAt b i) (ent T)
 | 0,_,_,_,i,hi=>absurd hi (Nat.not_lt_zero i)
 | k+1,T,hk,h,i,hi=>by
  have h':(match knT b k with | none=>none | some T=>if refB T (resAt b k)=true then none else some (withT (big b) T (resAt b k)))=some T:=h
  cases e:knT b k with
  | none=>rw [e] at h';cases h'
  | some T0 =>
   rw [e] at h'
   change (if refB T0 (resAt b k)=true then none else some (withT (big b) T0 (resAt b k)))=some T at h'
   by_cases hr:refB T0 (resAt b k)=true
   ·rw [if_pos hr] at h';cases h'
   ·rw [if_neg hr] at h'
    cases h'
    have k0:=knT_ok ok k T0 (by omega) e
    obtain ⟨ra,rb,_⟩:=resAt_ok ok (show k<resMany b by omega)
    obtain ⟨ia,ib,_⟩:=resAt_ok ok (show i<resMany b by omega)
    have hE:∀ x y,x<big b→y<big b→ent (withT (big b) T0 (resAt b k)) x y=withE (ent T0) (resAt b k) x y:=fun x y hx hy=>by rw [withT_tabOf,tabOf_ent _ hx hy]
    by_cases he:i=k
    ·subst he
     have:=withE_says (c:=resAt b i) k0.cl ra rb
     unfold Says at this ⊢
     rw [hE _ _ ra rb]
     exact this
    ·have h1:=knT_says ok k T0 (by omega) e i (by omega)
     exact h1.mono (show LeE (big b) (ent (withT (big b) T0 (resAt b k))) (ent T0) from fun x y hx hy=>by rw [hE x y hx hy];exact withE_le (big b) (ent T0) (resAt b k) x y hx hy) ia ib
def Among (o b:Bench):Prop:=∀ i,i<resMany o→∃ j,j<resMany b∧resAt o i=resAt b j
theorem among_of {b:Bench} {ws:List Weigh} {ts:List Trial} (hw:∀ w ∈ ws,w ∈ b.ws) (ht:∀ t ∈ ts,t ∈ b.ts):Among ⟨b.ms,ws,b.ss,ts,b.days⟩ b:=fun i hi=>by
 have hi':i<ws.length+ts.length:=hi
 by_cases h:i<ws.length
 ·obtain ⟨j,hj,e⟩:=List.getElem_of_mem (hw _ (List.getElem_mem h))
  refine ⟨j,by unfold resMany;omega,?_⟩
  show (if i<ws.length then (wAt ⟨b.ms,ws,b.ss,ts,b.days⟩ i).claim else _)=(if j<b.ws.length then (wAt b j).claim else _)
  rw [if_pos h,if_pos hj,← wAt_at hj,e,← wAt_at (b:=⟨b.ms,ws,b.ss,ts,b.days⟩) h]
 ·have h2:i - ws.length<ts.length:=by omega
  obtain ⟨j,hj,e⟩:=List.getElem_of_mem (ht _ (List.getElem_mem h2))
  refine ⟨b.ws.length+j,by unfold resMany;omega,?_⟩
  show (if i<ws.length then _ else (tAt ⟨b.ms,ws,b.ss,ts,b.days⟩ (i - ws.length)).claim ⟨b.ms,ws,b.ss,ts,b.days⟩)=(if b.ws.length+j<b.ws.length then _ else (tAt b (b.ws.length+j - b.ws.length)).claim b)
  rw [if_neg h,if_neg (by omega),show b.ws.length+j - b.ws.length=j by omega,← tAt_at hj,e,← tAt_at (b:=⟨b.ms,ws,b.ss,ts,b.days⟩) h2]
  rfl
theorem among_known {b:Bench} {ws:List Weigh} {ts:List Trial} (ok:b.Ok) (ok':Bench.Ok ⟨b.ms,ws,b.ss,ts,b.days⟩) (ha:Among ⟨b.ms,ws,b.ss,ts,b.days⟩ b) {T:List (List Gap)} (h:knT b (resMany b)=some T) :
  ∃ T',knT ⟨b.ms,ws,b.ss,ts,b.days⟩ (resMany ⟨b.ms,ws,b.ss,ts,b.days⟩)=some T'∧LeE (big b) (ent T) (ent T'):=by
 have kk:=knT_ok ok _ T (Nat.le_refl _) h
 refine knT_most (b:=⟨b.ms,ws,b.ss,ts,b.days⟩) ok' kk.cl (knT_gives ok (Nat.le_refl _) h) _ (Nat.le_refl _) fun i hi=>?_
 obtain ⟨j,hj,e⟩:=ha i hi
 rw [e]
 exact knT_says ok _ T (Nat.le_refl _) h j hj
end Go.Proofs.Ytfekafjfidohdaa.walk
set_option maxRecDepth 10000
namespace Go.Abs
theorem scal_ln {s:St} {v w:AV} (h:lenSlA s v=.val w s):v.scalar=true:=by cases v<;>first | rfl | cases h
end Go.Abs
namespace Go.Proofs.Ytfekafjfidohdaa.walk
open Go.Abs Go.Proofs.Ytfekafjfidohdaa.code
def onlyT:Nat→Nat
 | 0=>tag 56
 | _=>tag 58
def onlyR (ws:List Weigh) (ts:List Trial):Nat→List (List AV)
 | 0=>ws.map Weigh.cells
 | 1=>ts.map Trial.cells
 | _=>[]
structure OnlyJ (u t:St) (b:Bench) (v1 v2 v3 v4:AV) (ws:List Weigh) (ts:List Trial) (p2 p5 lo k:Nat) (bs:Nat→Nat) (vs:Nat→AV):Prop where
 g2:t.h.get p2=some (.cells [v1,v2,v3,v4,.int .i64 b.days] (tag 30))
 g5:t.h.get p5=some (.cells [v1,vs 0,v3,vs 1,.int .i64 b.days] (tag 30))
 ls:Lists t.h t.n lo (fun _=>4) onlyT (onlyR ws ts) bs vs
 be:Beside u t k
 pl:u.n≤p2∧p2<p5∧p5<lo∧lo≤t.n
theorem scB_of {h:Heap} {n:Nat} {b:Bench} {v1 v2 v3 v4:AV} (hB:BenchAt h n b v1 v2 v3 v4) (s:St):scalars [v1,v2,v3,v4,.int .i64 (b.days:Int)]=true:=by rw [scals_cons (by have:=scal_ln (hB.m.len s);simp [scalars,this]),scals_cons (by have:=scal_ln (hB.w.len s);simp [scalars,this]),scals_cons (by have:=scal_ln (hB.s.len s);simp [scalars,this]),scals_cons (by have:=scal_ln (hB.t.len s);simp [scalars,this])];rfl
theorem isAt_rows {h:Heap} {n b w tg lo:Nat} {rows:List (List AV)} {v:AV} (r:IsAt h n b w tg rows v) (hl:lo≤b):Abs.Rows h lo n w tg rows v:=⟨r.wide,r.is.imp id fun ⟨_,h2,h3,h4⟩=>⟨b,hl,h2,h3,h4⟩⟩
end Go.Proofs.Ytfekafjfidohdaa.walk
set_option maxRecDepth 10000
namespace Go.Proofs.Ytfekafjfidohdaa.walk
open Go.Abs Go.Proofs.Ytfekafjfidohdaa.code
noncomputable abbrev awm (n:Nat):CallF:=knows 13 (call Try.prog X n)
structure RestJ (w t:St) (l:List Nat) (v:AV) (bl k:Nat):Prop where
 is:IsAt t.h t.n bl 1 (tag 3) (intRows (l.map Int.ofNat)) v
 lo:w.n≤bl
 same:∀ c,c<w.n→t.h.get c=w.h.get c
 n:w.n≤t.n
 le:t.n≤w.n+k
end Go.Proofs.Ytfekafjfidohdaa.walk
set_option maxRecDepth 10000
namespace Go.Proofs.Ytfekafjfidohdaa.walk
open Go.Abs Go.Proofs.Ytfekafjfidohdaa.code
theorem sub_ok {b:Bench} (ok:b.Ok) {ws:List Weigh} {ts:List Trial} (hw:∀ w ∈ ws,w ∈ b.ws) (ht:∀ t ∈ ts,t ∈ b.ts) (h1:ws.length≤6) (h2:ts.length≤6):Bench.Ok ⟨b.ms,ws,b.ss,ts,b.days⟩ :=
 ⟨ok.m0,ok.m1,ok.mok,h1,fun w h=>ok.wok w (hw w h),ok.s0,ok.s1,ok.sok,ok.d1,h2,fun t h=>ok.tok t (ht t h)⟩
theorem errsOf_len' (b:Bench) (T:List (List Gap)) (k:Nat):(errsOf b T k).length=b.days+1:=by unfold errsOf;rw [List.length_map,List.length_range]
end Go.Proofs.Ytfekafjfidohdaa.walk
