/- The die: numbers of a span, and how it is born. -/
import Derived.Test.YtoklbkgcclkejaaM4
import Derived.Test.YtoklbkgcclkejaaM5
import Derived.Test.YtoklbkgcclkejaaCodes
import Derived.Test.YtoklbkgcclkejaaWalkAll
set_option linter.unusedSimpArgs false
set_option linter.unusedVariables false
set_option maxHeartbeats 16000000
set_option linter.unusedVariables false
set_option maxRecDepth 10000
namespace Go.Proofs.Ytoklbkgcclkejaa.walk
open Go.Abs Go.Proofs.Ytoklbkgcclkejaa.code
end Go.Proofs.Ytoklbkgcclkejaa.walk
set_option maxRecDepth 10000
namespace Go.Proofs.Ytoklbkgcclkejaa.walk
open Go.Abs Go.Proofs.Ytoklbkgcclkejaa.code
end Go.Proofs.Ytoklbkgcclkejaa.walk
set_option maxRecDepth 10000
namespace Go.Abs
theorem append_own {s:St} {lo n0 w bytes tg:Nat} {rows:List (List AV)} {v:AV} (r:Own s.h lo n0 w tg rows v) (hn:n0≤s.n) {p sz:Nat} {row:List AV} (hp:s.h.get p=some (.cells row sz)) (hw:row.length=w) (hsc:scalars row=true)
  (hb:(rows.length+1) * bytes≤1000000) (htg:ye (w+tg)=w) (hs:s.n<549755813888) :
  ∃ s',jV false w bytes tg s v (.slice p 0 1 1 false)=.val (.slice s.n 0 (rows.length+1) (rows.length+1) true) s'∧IsAt s'.h s'.n s.n w tg (rows++[row]) (.slice s.n 0 (rows.length+1) (rows.length+1) true)∧s'.n=s.n+1∧(∀ c,c<s.n→(c<lo∨n0≤c)→s'.h.get c=s.h.get c)∧(∀ k,k≤lo→k≤s.n→k≤s.m→k≤s'.m)∧s'.m≤s.m:=by
 rcases r.is with ⟨h1,h2 | ⟨b,h0,h3,h4,h5⟩⟩ | ⟨h1,b,h0,h3,h4,h5⟩
 ·obtain ⟨s',e1,e2,e3,e4,e5,e6⟩:=wE (bytes:=bytes) (⟨r.wide,.inl ⟨h1,h2⟩⟩:IsAt s.h s.n s.n w tg rows v) hp hw hsc hb htg hs
  exact ⟨s',e1,e2,e3,fun c hc _=>e4 c hc (by omega),fun k _ hk hm=>e5 k hk hk hm,e6⟩
 ·have bl:Blk s.h s.n b w tg rows v:=⟨r.wide,false,0,by rw [h4,h1];rfl,by omega,by rw [h5,h1];rfl,fun h=>by cases h⟩
  obtain ⟨s',e1,e2,e3,e4,e5,e6⟩:=append_blk (bytes:=bytes) bl hp hw hsc hb htg hs
  refine ⟨s',e1,⟨e2.wide,.inr ⟨by simp,by omega,by simp,?_⟩⟩,e3,fun c hc hl=>e4 c hc (by omega),fun k hk _ hm=>e5 k (by omega) hm,e6⟩
  obtain ⟨e,sz',z1,z2,z3,z4⟩:=e2.is
  injection z1 with _ _ _ _ z5
  rw [z3,z4 z5.symm]
 ·have bl:Blk s.h s.n b w tg rows v:=⟨r.wide,true,_,h4,by omega,h5,fun _=>rfl⟩
  obtain ⟨s',e1,e2,e3,e4,e5,e6⟩:=append_blk (bytes:=bytes) bl hp hw hsc hb htg hs
  refine ⟨s',e1,⟨e2.wide,.inr ⟨by simp,by omega,by simp,?_⟩⟩,e3,fun c hc hl=>e4 c hc (by omega),fun k hk _ hm=>e5 k (by omega) hm,e6⟩
  obtain ⟨e,sz',z1,z2,z3,z4⟩:=e2.is
  injection z1 with _ _ _ _ z5
  rw [z3,z4 z5.symm]
end Go.Abs
namespace Go.Proofs.Ytoklbkgcclkejaa.walk
open Go.Abs Go.Proofs.Ytoklbkgcclkejaa.code
theorem put_scal (l:List PutR):∀ r ∈ l.map PutR.row,scalars r=true:=fun r hr=>by
 obtain ⟨p,_,rfl⟩:=List.mem_map.mp hr
 rfl
end Go.Proofs.Ytoklbkgcclkejaa.walk
set_option maxRecDepth 10000
namespace Go.Proofs.Ytoklbkgcclkejaa.walk
open Go.Abs Go.Proofs.Ytoklbkgcclkejaa.code
structure LayJ (u t:St) (d:Nat) (H:HallR) (l:List PutR) (v:AV) (b kk:Nat):Prop where
 st:Stir d u t kk
 die:Die d t.h
 is:IsAt t.h t.n b 3 (tag 51) (l.map PutR.row) v
 b:u.n≤b
 ok:H.Valid l
 inn:∀ p ∈ l,p.In H
end Go.Proofs.Ytoklbkgcclkejaa.walk
set_option maxRecDepth 10000
namespace Go.Proofs.Ytoklbkgcclkejaa.walk
open Go.Abs Go.Proofs.Ytoklbkgcclkejaa.code
end Go.Proofs.Ytoklbkgcclkejaa.walk
set_option maxRecDepth 10000
namespace Go.Proofs.Ytoklbkgcclkejaa.walk
open Go.Abs Go.Proofs.Ytoklbkgcclkejaa.code
structure Truly (H:HallR) (l:List PutR) (T:List Int):Prop where
 len:T.length=l.length
 is:∀ i (h1:i<l.length) (h2:i<T.length),(H.kind l[i].kind).lo≤T[i]∧T[i]≤(H.kind l[i].kind).hi
def HallR.bearsUpto (H:HallR) (f:Nat→Int) (i:Nat):Prop:=∀ b,b<i→f b≤H.bears.getD b 0
end Go.Proofs.Ytoklbkgcclkejaa.walk
set_option maxRecDepth 10000
namespace Go.Proofs.Ytoklbkgcclkejaa.walk
open Go.Abs Go.Proofs.Ytoklbkgcclkejaa.code
noncomputable abbrev awd (n:Nat):zS:=knows 19 (call Try.prog X n)
theorem verdict_sure {H:HallR} {l:List PutR} (h:H.verdict l=1):∀ b,b<H.bays→tot (H.highs l) b≤H.bears.getD b 0:=fun b hb=>by
 unfold HallR.verdict at h
 split at h
 ·cases h
 ·split at h
  ·cases h
  ·rename_i h2
   exact Int.not_lt.mp fun h3=>h2 ⟨b,hb,h3⟩
theorem verdict_never {H:HallR} {l:List PutR} (h:H.verdict l=2):∃ b,b<H.bays∧H.bears.getD b 0<tot (H.lows l) b:=by
 unfold HallR.verdict at h
 split at h
 ·assumption
 ·split at h<;>cases h
theorem truly_sum {H:HallR} {l:List PutR} {T:List Int} (h:Truly H l T) (b:Nat):tot (H.lows l) b≤tot (H.trues l T) b∧tot (H.trues l T) b≤tot (H.highs l) b:=true_between l T b h.len h.is
end Go.Proofs.Ytoklbkgcclkejaa.walk
set_option maxRecDepth 10000
namespace Go.Proofs.Ytoklbkgcclkejaa.walk
open Go.Abs Go.Proofs.Ytoklbkgcclkejaa.code
def HallR.lowL (H:HallR) (l:List PutR):List Int:=l.map fun p=>(H.kind p.kind).lo
def HallR.highL (H:HallR) (l:List PutR):List Int:=l.map fun p=>(H.kind p.kind).hi
theorem trues_low (H:HallR):∀ l:List PutR,H.trues l (H.lowL l)=H.lows l
 | []=>rfl
 | p::l=>by
  have:=trues_low H l
  show (H.bay p,(H.kind p.kind).lo)::H.trues l (H.lowL l)=_
  rw [this];rfl
theorem lowL_at (H:HallR) (l:List PutR) (i:Nat) (h:i<(H.lowL l).length) (h':i<l.length):(H.lowL l)[i]=(H.kind l[i].kind).lo:=by simp [HallR.lowL]
theorem low_le_high {H:HallR} (ok:H.Ok) {l:List PutR} (hl:∀ q ∈ l,q.In H) (b:Nat):tot (H.lows l) b≤tot (H.highs l) b:=by
 have hT:Truly H l (H.lowL l):=⟨by unfold HallR.lowL;rw [List.length_map],fun i h1 h2=>by
  have h3:=(vj ok (hl _ (List.getElem_mem h1)).k).l1
  rw [lowL_at H l i h2 h1]
  exact ⟨Int.le_refl _,h3⟩⟩
 have:=truly_sum hT b
 rw [trues_low] at this
 exact this.2
theorem sure_iff {H:HallR} (ok:H.Ok) {l:List PutR} (hl:∀ q ∈ l,q.In H):H.verdict l=1↔H.bearsUpto (fun b=>tot (H.highs l) b) H.bays:=by
 constructor
 ·exact fun h=>verdict_sure h
 ·intro h
  unfold HallR.verdict
  rw [if_neg (by rintro ⟨b,h1,h2⟩;have:=h b h1;have:=low_le_high ok hl b;simp only at *;omega),if_neg (by rintro ⟨b,h1,h2⟩;have:=h b h1;simp only at *;omega)]
theorem never_iff {H:HallR} {l:List PutR}:H.verdict l=2↔¬ H.bearsUpto (fun b=>tot (H.lows l) b) H.bays:=by
 constructor
 ·intro h hb
  obtain ⟨b,h1,h2⟩:=verdict_never h
  have:=hb b h1
  simp only at this
  omega
 ·intro h
  unfold HallR.verdict
  rw [if_pos]
  refine Classical.byContradiction fun hn=>h fun b hb=>?_
  exact Int.not_lt.mp fun h2=>hn ⟨b,hb,h2⟩
structure EndJ (w t:St) (H:HallR) (l:List PutR) (i:Nat) (v1 v2:AV) (b1 b2:Nat):Prop where
 i1:IsAt t.h t.n b1 1 (tag 3) (jU (H.lowL (l.take i))) v1
 i2:IsAt t.h t.n b2 1 (tag 3) (jU (H.highL (l.take i))) v2
 lo:w.n≤b1∧w.n≤b2∧b1≠b2∧(b1<t.n∨far<b1)∧(b2<t.n∨far<b2)
 same:∀ c,c<w.n→t.h.get c=w.h.get c
 n:w.n≤t.n
 le:t.n≤w.n+4 * i
 m:t.m≤far
end Go.Proofs.Ytoklbkgcclkejaa.walk
