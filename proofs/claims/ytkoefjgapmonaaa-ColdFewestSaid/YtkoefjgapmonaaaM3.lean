/- A larder: how warm each box may be, hour by hour. -/
import Derived.Test.YtkoefjgapmonaaaM2
import Derived.Test.YtkoefjgapmonaaaM1
import Derived.Test.YtkoefjgapmonaaaWalkAll
set_option linter.unusedSimpArgs false
set_option linter.unusedVariables false
set_option maxHeartbeats 16000000
set_option linter.unusedVariables false
set_option maxRecDepth 10000
namespace Go.Abs
theorem boxA_ptr (sz:Nat) (s:St) (b o:Nat):boxA sz s (.ptr b o)=.val (.ptr s.n 0) (s.new (.cells [.ptr b o] sz)):=Eq.trans (Eq.refl _) (Eq.refl _)
end Go.Abs
namespace Go.Proofs.Ytkoefjgapmonaaa.walk
open Go.Abs Go.Proofs.Ytkoefjgapmonaaa.code
theorem hours_ex {N p:Nat} {top:Int} {s:St} {r:ARes} (hr:call Try.prog X N (.fn 36) [.ptr p 0,.int .i64 top] s=r) (hN:1≤N) (hs:s.n+100≤far) :
  ∃ t sa sb,r=.val (.func 57 [] [.ptr s.n 0,.ptr (s.n+1) 0]) t∧New s t 2∧t.n=s.n+2∧t.h.get s.n=some (.cells [.ptr p 0] sa)∧t.h.get (s.n+1)=some (.cells [.int .i64 top] sb):=by
 obtain ⟨n,rfl⟩:∃ n,N=n+1:=⟨N - 1,by omega⟩
 have hf:far=1000000000:=rfl
 obtain ⟨w,t,e,st,⟨rfl,hn,sa,sb,h1,h2⟩⟩:=call_new (n:=n) (args:=[.ptr p 0,.int .i64 top]) (s:=s) (k:=2) (Q:=fun w h m=>w=.func 57 [] [.ptr s.n 0,.ptr (s.n+1) 0]∧m=s.n+2∧∃ sa sb,h.get s.n=some (.cells [.ptr p 0] sa)∧h.get (s.n+1)=some (.cells [.int .i64 top] sb)) Try.func36 rfl (fun u uh un um=>by
  rw [← un]
  have nn1:∀ o,(u.new o).n=u.n+1:=fun _=>rfl
  rw [enter36]
  simp (disch:=first|omega|(with_unfolding_all exact rfl)|(simp only[new_n,put_n,new_m];omega)|(refine put_m_le ?_;simp only[new_m];omega)) only [res36,K36r0,K36r1,K36,Abs.W,reduceIte,Nat.reduceEqDiff,Nat.reduceAdd,decide_true,decide_false,kLoop_def,Nat.reduceSub,List.cons_append,List.nil_append,List.append_nil,List.length_cons,List.length_nil,boxA_ptr,boxA_int,kFunc_def,nn1]
  have ga:∀ o1 o2,((u.new o1).new o2).h.get u.n=some o1:=fun o1 o2=>by
   rw [get_new_ne _ _ _ (by simp only [new_n];omega)];exact get_new_eq _ _ _ rfl (by omega)
  exact ⟨_,_,rfl,((Beside.refl u (by omega) um).new _).new _,rfl,rfl,rfl,_,_,ga _ _,get_new_eq _ _ _ rfl (by simp only [new_n];omega)⟩)
 exact ⟨t,sa,sb,hr.symm.trans e,st,hn,h1,h2⟩
theorem ices_len:∀ (m:Nat) (x:BoxNow) (fs:List (Int × Int)),(ices m x fs).length=m
 | 0,_,_=>rfl
 | m+1,x,fs=>by unfold ices;rw [List.length_cons,ices_len m]
def Sheet (h:Heap) (lo n:Nat) (vb:AV) (tab:List (Int × Int)) (v:AV):Prop:=∃ b,lo≤b∧b<n∧(∀ k c,vb≠.slice b 0 k c true)∧v=.slice b 0 tab.length tab.length true∧h.get b=some (.cells (tab.map pairRow).flatten (2+tag 75))
structure Sheets (h:Heap) (lo n:Nat) (tabs:List (List (Int × Int))) (vs:List AV) (vb:AV):Prop where
 rows:Abs.Rows h lo n 1 (tag 113) (vs.map fun v=>[v]) vb
 len:vs.length=tabs.length
 each:∀ i (h1:i<vs.length) (h2:i<tabs.length),Sheet h lo n vb tabs[i] vs[i]
theorem Sheets.mono {h h':Heap} {lo n n':Nat} {tabs:List (List (Int × Int))} {vs:List AV} {vb:AV} (r:Sheets h lo n tabs vs vb) (hh:∀ b,lo≤b→b<n→h'.get b=h.get b) (hn:n≤n'):Sheets h' lo n' tabs vs vb :=
 ⟨r.rows.mono hh hn,r.len,fun i h1 h2=>by
  obtain ⟨b,k1,k2,k3,k4,k5⟩:=r.each i h1 h2
  exact ⟨b,k1,by omega,k3,k4,by rw [hh b k1 k2];exact k5⟩⟩
theorem pair_wide (tab:List (Int × Int)):∀ r ∈ tab.map pairRow,r.length=2:=by
 intro r hr
 obtain ⟨f,_,rfl⟩:=List.mem_map.mp hr
 rfl
theorem Sheets.warm {h:Heap} {lo n:Nat} {tabs:List (List (Int × Int))} {vs:List AV} {vb:AV} (r:Sheets h lo n tabs vs vb) (i k:Nat) (hi:i<tabs.length) (hk:k<(tabs[i]).length):WarmAt h n vb i k ((tabs[i])[k]).1 ((tabs[i])[k]).2:=by
 obtain ⟨q1,_,_⟩:=r.rows.scalar
 refine ⟨q1,?_⟩
 have hiv:i<vs.length:=by rw [r.len];exact hi
 obtain ⟨b,k1,k2,k3,k4,k5⟩:=r.each i hiv hi
 obtain ⟨b1,p1,c1,sz1,e1,e2,e3,e4⟩:=r.rows.at_.at_ i (by rw [List.length_map];exact hiv)
 rw [List.getElem_map] at e4
 have hn:nth c1 p1=vs[i]:=by
  obtain ⟨a,t,h1,h2,_⟩:=cut_some e4
  subst h1
  have nsk:∀ (a l:List AV) (k:Nat),nth (a++l) (a.length+k)=nth l k:=by
   intro a
   induction a with
   | nil=>intro l k;rw [List.length_nil,Nat.zero_add,List.nil_append]
   | cons x a ih=>intro l k;rw [List.length_cons,List.cons_append,show a.length+1+k=(a.length+k)+1 by omega,nth_cons,if_neg (by omega)];exact ih l k
  have:=nsk a (([vs[i]]:List AV)++t) 0
  rw [Nat.add_zero,h2] at this
  rw [List.append_assoc,this]
  rfl
 have hcut:=flatten_cut (pair_wide tabs[i]) (i:=k) (by rw [List.length_map];exact hk)
 rw [List.getElem_map] at hcut
 refine ⟨vs[i],b1,p1,c1,sz1,b,k * 2,_,_,e1,k2,e2,e3,hn,?_,?_,k5,hcut⟩
 ·rw [k4];exact fun _=>rfl
 ·rw [k4]
  intro s
  have:=ixs_slice 2 s b 0 (tabs[i]).length (tabs[i]).length true k hk
  rw [Nat.zero_add] at this
  exact this
theorem Box.start_fits {B:Box} (h:B.Ok):B.start.Fits∧0≤B.start.m0∧B.start.m0≤1000000∧0≤B.start.m1∧B.start.m1≤1000000:=by
 obtain ⟨r0,r1,i0,i1,i2,m0,m1,m2,_,_,_,_,_⟩:=h
 refine ⟨⟨?_,?_,?_⟩,?_,?_,?_,?_⟩<;>simp only [Box.start]<;>omega
end Go.Proofs.Ytkoefjgapmonaaa.walk
set_option maxRecDepth 10000
namespace Go.Proofs.Ytkoefjgapmonaaa.walk
open Go.Abs Go.Proofs.Ytkoefjgapmonaaa.code
def noBox:Box:=⟨0,0,0,0,0,0,0,0,0⟩
end Go.Proofs.Ytkoefjgapmonaaa.walk
set_option maxRecDepth 10000
namespace Go.Proofs.Ytkoefjgapmonaaa.walk
open Go.Abs Go.Proofs.Ytkoefjgapmonaaa.code
structure Takes1 (N l n0 k:Nat) (h0:Heap) (J:List (Int × Int)→Heap→Nat→Prop):Prop where
 take:∀ ws (s:St) (w:Int × Int),J ws s.h s.n→(∀ c,c<n0→s.h.get c=h0.get c)→ws.length<240→n0≤s.n→s.n+10000≤far →
  ∃ s',call Try.prog X N (.yield l) [.agg [.int .i64 w.1,.int .i64 w.2]] s=.val (.bool true) s'∧J (ws++[w]) s'.h s'.n∧(∀ c,c<n0→s'.h.get c=s.h.get c)∧s.n≤s'.n∧s'.n≤s.n+k∧(n0≤s.m→n0≤s'.m)∧s'.m≤s.m∧s'.m≤l
end Go.Proofs.Ytkoefjgapmonaaa.walk
set_option maxRecDepth 10000
namespace Go.Proofs.Ytkoefjgapmonaaa.walk
open Go.Abs Go.Proofs.Ytkoefjgapmonaaa.code
def total (f:Int × Int→Int):List (Int × Int)→Int
 | []=>0
 | w::ws=>f w+total f ws
def lostLo (rs:List Rate) (ws:List (Int × Int)):Int:=total (fun w=>lossFrom w.1 0 rs) ws
def lostHi (rs:List Rate) (ws:List (Int × Int)):Int:=total (fun w=>lossFrom w.2 0 rs) ws
structure Sums (q:Nat) (rs:List Rate) (larder:AV) (R:ALoop) (ws:List (Int × Int)) (h:Heap) (n:Nat):Prop where
 told:h.get q=some (.cells [.func 65 [larder] []] (tag 115))
 out:h.get (q+1)=some (.cells [.int .i64 0,.int .i64 0] (tag 26))
 all:h.get (q+2)=some (.cells [.int .i64 (lostLo rs ws),.int .i64 (lostHi rs ws)] (tag 26))
 loop:h.get (q+4)=some (.loop R)
 dfr:h.get (q+3)=some .dfr
 n:q+5≤n
 few:ws.length≤240
end Go.Proofs.Ytkoefjgapmonaaa.walk
set_option maxRecDepth 10000
namespace Go.Proofs.Ytkoefjgapmonaaa.walk
open Go.Abs Go.Proofs.Ytkoefjgapmonaaa.code
end Go.Proofs.Ytkoefjgapmonaaa.walk
set_option maxRecDepth 10000
namespace Go.Proofs.Ytkoefjgapmonaaa.walk
open Go.Abs Go.Proofs.Ytkoefjgapmonaaa.code
end Go.Proofs.Ytkoefjgapmonaaa.walk
set_option maxRecDepth 10000
namespace Go.Abs
theorem leave_cell_tmp {P:Program} (a:Nat) (t:TypeId) (b:Nat) (L:Env) (s:St) {sh:Option Nat} (hs:shapeT P t=some sh) {v:AV} (h:okA (loadA sh s (L.find a))=.val v s):leaveA P [.cell a t,.tmp b] L [] s=.val (.tup [v,L.find b]) s:=by
 unfold leaveA
 simp only [takeDfs,resultsA,hs,h]
 rfl
theorem leave_tmp_tmp {P:Program} (a b:Nat) (L:Env) (s:St):leaveA P [.tmp a,.tmp b] L [] s=.val (.tup [L.find a,L.find b]) s:=rfl
end Go.Abs
namespace Go.Proofs.Ytkoefjgapmonaaa.walk
open Go.Abs Go.Proofs.Ytkoefjgapmonaaa.code
structure CellarIn (h:Heap) (n:Nat) (c:Cellar) (v1 v2 v3:AV):Prop where
 at_:CellarAt h n c v1 v2 v3
 f:Seq h n 3 (c.fills.map Fill.cells) v2
 s1:v1.scalar=true
 s3:v3.scalar=true
theorem CellarIn.grow {h h':Heap} {n n':Nat} {c:Cellar} {v1 v2 v3:AV} (a:CellarIn h n c v1 v2 v3) (hh:∀ b,b<n→h'.get b=h.get b) (hn:n≤n'):CellarIn h' n' c v1 v2 v3 :=
 ⟨a.at_.grow hh hn,a.f.grow hh hn,a.s1,a.s3⟩
theorem scal_ne {v:AV} (h:v.scalar=true):v≠.bad:=fun e=>by rw [e] at h;cases h
end Go.Proofs.Ytkoefjgapmonaaa.walk
set_option maxRecDepth 10000
namespace Go.Proofs.Ytkoefjgapmonaaa.walk
open Go.Abs
/-! ### One end of the ice -/
def fill1 (room hour:Int):Int→List (Int × Int)→Int
 | i,[]=>i
 | i,(h,g)::r=>if h=hour then fill1 room hour (min (i+g) room) r else i
def lev (room:Int) (melt:Int→Int):Nat→Int→Int→List (Int × Int)→Int
 | 0,hour,i,fs=>fill1 room hour i fs
 | k+1,hour,i,fs=>lev room melt k (hour+1) (max 0 (fill1 room hour i fs - melt hour)) (left hour fs)
theorem fill_fill1:∀ (fs:List (Int × Int)) (x:BoxNow),(x.fill fs).i0=fill1 x.room x.hour x.i0 fs∧(x.fill fs).i1=fill1 x.room x.hour x.i1 fs
 | [],x=>⟨rfl,rfl⟩
 | (h,g)::r,x=>by
  unfold BoxNow.fill fill1
  by_cases e:h=x.hour
  ·rw [if_pos e,if_pos e,if_pos e]
   exact fill_fill1 r (x.put g)
  ·rw [if_neg e,if_neg e,if_neg e]
   exact ⟨rfl,rfl⟩
theorem ices_lev:∀ (m k:Nat) (x:BoxNow) (fs:List (Int × Int)),k<m→(ices m x fs).getD k (0,0)=(lev x.room (fun _=>x.m1) k x.hour x.i0 fs,lev x.room (fun _=>x.m0) k x.hour x.i1 fs)
 | 0,k,x,fs,h=>absurd h (Nat.not_lt_zero k)
 | m+1,0,x,fs,h=>by
  obtain ⟨h1,h2⟩:=fill_fill1 fs x
  unfold ices lev
  rw [List.getD_cons_zero,h1,h2]
 | m+1,k+1,x,fs,h=>by
  obtain ⟨h1,h2⟩:=fill_fill1 fs x
  obtain ⟨⟨q1,q2,q3,_⟩,q8⟩:=x.fill_like fs
  unfold ices
  rw [List.getD_cons_succ,ices_lev m k (x.on fs) (left x.hour fs) (by omega)]
  have e1:(x.on fs).room=x.room:=q1
  have e2:(x.on fs).m1=x.m1:=q3
  have e3:(x.on fs).m0=x.m0:=q2
  have e4:(x.on fs).hour=x.hour+1:=by show (x.fill fs).hour+1=_;rw [q8]
  have e5:(x.on fs).i0=max 0 (fill1 x.room x.hour x.i0 fs - x.m1):=by show max 0 ((x.fill fs).i0 - (x.fill fs).m1)=_;rw [h1,q3]
  have e6:(x.on fs).i1=max 0 (fill1 x.room x.hour x.i1 fs - x.m0):=by show max 0 ((x.fill fs).i1 - (x.fill fs).m0)=_;rw [h2,q2]
  rw [e1,e2,e3,e4,e5,e6]
  rfl
/-! ### A cellar's boxes, hour by hour -/
def Cellar.box (c:Cellar) (b:Nat):Box:=c.boxes.getD b noBox
def Cellar.of (c:Cellar) (b:Nat):List (Int × Int):=(ofBox b c.fills).map fun f=>(f.hour,f.grams)
def Cellar.iceLo (c:Cellar) (b k:Nat):Int:=lev (c.box b).room (fun _=>(c.box b).mh) k 0 (c.box b).il (c.of b)
def Cellar.iceHi (c:Cellar) (b k:Nat):Int:=lev (c.box b).room (fun _=>(c.box b).ml) k 0 (c.box b).ih (c.of b)
def Cellar.warm (c:Cellar) (b k:Nat):Int × Int:=(if 0<c.iceHi b k then (c.box b).cl else (c.box b).wl,if 0<c.iceLo b k then (c.box b).ch else (c.box b).wh)
def Cellar.at (c:Cellar) (l:Lot) (k:Nat):Int × Int:=match l.stays.find? (hit k) with
 | some t=>c.warm t.box.toNat k
 | none=>(c.hl,c.hh)
/-! ### Losses -/
end Go.Proofs.Ytkoefjgapmonaaa.walk
namespace Go.Proofs.Ytkoefjgapmonaaa.walk.Scoops
open Go.Abs Go.Proofs.Ytkoefjgapmonaaa.walk
def putN (room g:Int):Nat→Int→Int
 | 0,i=>i
 | n+1,i=>putN room g n (min (i+g) room)
def lst (room mh g:Int):Nat→Nat→Int→Int→List (Int × Int)→Option (Int × List (Int × Int))
 | 0,_,_,i,fs=>some (i,fs)
 | k+1,n,hour,i,fs=>if putN room g n (fill1 room hour i fs)=0 then none else lst room mh g k 0 (hour+1) (max 0 (putN room g n (fill1 room hour i fs) - mh)) (left hour fs)
def good (room mh:Int):Nat→Int→Int→List (Int × Int)→Bool
 | 0,_,_,_=>true
 | k+1,hour,i,fs=>!decide (fill1 room hour i fs=0) && good room mh k (hour+1) (max 0 (fill1 room hour i fs - mh)) (left hour fs)
theorem good_succ (room mh:Int) (k:Nat) (hour i:Int) (fs:List (Int × Int)):good room mh (k+1) hour i fs=(!decide (fill1 room hour i fs=0) && good room mh k (hour+1) (max 0 (fill1 room hour i fs - mh)) (left hour fs)):=rfl
theorem lst_succ (room mh g:Int) (k n:Nat) (hour i:Int) (fs:List (Int × Int)):lst room mh g (k+1) n hour i fs=if putN room g n (fill1 room hour i fs)=0 then none else lst room mh g k 0 (hour+1) (max 0 (putN room g n (fill1 room hour i fs) - mh)) (left hour fs):=rfl
theorem putN_zero (room g i:Int):putN room g 0 i=i:=rfl
theorem good_iff (room mh:Int):∀ (k:Nat) (hour i:Int) (fs:List (Int × Int)),good room mh k hour i fs=true↔∀ j,j<k→lev room (fun _=>mh) j hour i fs≠0
 | 0,_,_,_=>⟨fun _ j h=>by omega,fun _=>rfl⟩
 | k+1,hour,i,fs=>by
  unfold good
  rw [Bool.and_eq_true,good_iff room mh k]
  simp only [Bool.not_eq_true',decide_eq_false_iff_not]
  constructor
  ·rintro ⟨h1,h2⟩ j hj
   cases j with
   | zero=>exact h1
   | succ j=>exact h2 j (by omega)
  ·intro h
   exact ⟨h 0 (by omega),fun j hj=>h (j+1) (by omega)⟩
def From (hour:Int) (fs:List (Int × Int)):Prop:=fs.Pairwise (fun a b=>a.1≤b.1)∧∀ f ∈ fs,hour≤f.1
theorem From.left {hour:Int}:∀ {fs:List (Int × Int)},From hour fs→From (hour+1) (left hour fs)
 | [],_=>⟨List.Pairwise.nil,fun _ h=>(by cases h)⟩
 | (h,g)::r,⟨h1,h2⟩=>by
  obtain ⟨p1,p2⟩:=List.pairwise_cons.mp h1
  unfold walk.left
  by_cases e:h=hour
  ·rw [if_pos e]
   exact From.left ⟨p2,fun f hf=>h2 f (List.mem_cons_of_mem _ hf)⟩
  ·rw [if_neg e]
   have h0:hour≤h:=h2 (h,g) (by simp)
   refine ⟨h1,fun f hf=>?_⟩
   rcases List.mem_cons.mp hf with rfl | hf
   ·show hour+1≤h;omega
   ·have:=p1 f hf
    have:h≤f.1:=this
    omega
def upTo (v:Int) (fs:List (Int × Int)):List (Int × Int):=fs.takeWhile fun f=>decide (f.1≤v)
def beyond (v:Int) (fs:List (Int × Int)):List (Int × Int):=fs.dropWhile fun f=>decide (f.1≤v)
def scoopL (g:Int):List Int→List Nat→List (Int × Int)→List (Int × Int)
 | v::vs,n::ns,fs=>upTo v fs++(List.replicate n (v,g)++scoopL g vs ns (beyond v fs))
 | _,_,fs=>fs
theorem fill1_skip {room hour:Int}:∀ {fs:List (Int × Int)} {i:Int},(∀ f ∈ fs,f.1≠hour)→fill1 room hour i fs=i
 | [],_,_=>rfl
 | (h,g)::r,i,hh=>by
  unfold fill1
  rw [if_neg (hh (h,g) (by simp))]
theorem left_skip {hour:Int}:∀ {fs:List (Int × Int)},(∀ f ∈ fs,f.1≠hour)→left hour fs=fs
 | [],_=>rfl
 | (h,g)::r,hh=>by
  unfold left
  rw [if_neg (hh (h,g) (by simp))]
theorem fill1_rep (room v g:Int) (r:List (Int × Int)):∀ (n:Nat) (i:Int),fill1 room v i (List.replicate n (v,g)++r)=fill1 room v (putN room g n i) r
 | 0,_=>rfl
 | n+1,i=>by
  rw [List.replicate_succ,List.cons_append]
  show (if v=v then fill1 room v (min (i+g) room) (List.replicate n (v,g)++r) else i)=_
  rw [if_pos rfl,fill1_rep room v g r n]
  rfl
theorem left_rep (v g:Int) (r:List (Int × Int)):∀ n:Nat,left v (List.replicate n (v,g)++r)=left v r
 | 0=>rfl
 | n+1=>by
  rw [List.replicate_succ,List.cons_append]
  show (if v=v then left v (List.replicate n (v,g)++r) else _)=_
  rw [if_pos rfl,left_rep v g r n]
theorem at_visit (room v:Int) (r:List (Int × Int)):∀ (fs:List (Int × Int)) (i:Int),From v fs→fill1 room v i (upTo v fs++r)=fill1 room v (fill1 room v i fs) r∧left v (upTo v fs++r)=left v r∧beyond v fs=left v fs
 | [],i,_=>⟨rfl,rfl,rfl⟩
 | (h,g)::fs,i,⟨h1,h2⟩=>by
  obtain ⟨p1,p2⟩:=List.pairwise_cons.mp h1
  have h0:v≤h:=h2 (h,g) (by simp)
  by_cases e:h=v
  ·have hu:upTo v ((h,g)::fs)=(h,g)::upTo v fs:=by
    unfold upTo
    rw [List.takeWhile_cons_of_pos (by simp;omega)]
   have hb:beyond v ((h,g)::fs)=beyond v fs:=by
    unfold beyond
    rw [List.dropWhile_cons_of_pos (by simp;omega)]
   obtain ⟨a1,a2,a3⟩:=at_visit room v r fs (min (i+g) room) ⟨p2,fun f hf=>h2 f (List.mem_cons_of_mem _ hf)⟩
   rw [hu,hb,List.cons_append]
   refine ⟨?_,?_,?_⟩
   ·show (if h=v then fill1 room v (min (i+g) room) (upTo v fs++r) else i)=fill1 room v (if h=v then fill1 room v (min (i+g) room) fs else i) r
    rw [if_pos e,if_pos e,a1]
   ·show (if h=v then left v (upTo v fs++r) else _)=_
    rw [if_pos e,a2]
   ·show _=(if h=v then left v fs else _)
    rw [if_pos e,a3]
  ·have hu:upTo v ((h,g)::fs)=[]:=by
    unfold upTo
    rw [List.takeWhile_cons_of_neg (by simp;omega)]
   have hb:beyond v ((h,g)::fs)=(h,g)::fs:=by
    unfold beyond
    rw [List.dropWhile_cons_of_neg (by simp;omega)]
   have hs:∀ f ∈ (h,g)::fs,f.1≠v:=fun f hf=>by
    rcases List.mem_cons.mp hf with rfl | hf
    ·exact e
    ·have:=p1 f hf
     have:h≤f.1:=this
     omega
   rw [hu,hb,fill1_skip hs,left_skip hs]
   exact ⟨rfl,rfl,rfl⟩
theorem From.beyond {v:Int} {fs:List (Int × Int)} (h:From v fs):From (v+1) (beyond v fs):=by
 rw [(at_visit 0 v [] fs 0 h).2.2]
 exact h.left
theorem scoopL_from {g:Int}:∀ {vs:List Int} {ns:List Nat} {fs:List (Int × Int)} {hour:Int},From hour fs→(∀ v ∈ vs,hour≤v)→∀ f ∈ scoopL g vs ns fs,hour≤f.1
 | [],_,fs,_,h,_=>fun f hf=>h.2 f (by unfold scoopL at hf;exact hf)
 | _::_,[],fs,_,h,_=>fun f hf=>h.2 f (by unfold scoopL at hf;exact hf)
 | v::vs,n::ns,fs,hour,h,hv=>fun f hf=>by
  unfold scoopL at hf
  rcases List.mem_append.mp hf with hf | hf
  ·exact h.2 f ((List.takeWhile_sublist _).subset hf)
  ·rcases List.mem_append.mp hf with hf | hf
   ·rw [List.eq_of_mem_replicate hf];exact hv v (by simp)
   ·refine scoopL_from (hour:=hour) ⟨?_,fun f hf=>h.2 f ((List.dropWhile_sublist _).subset hf)⟩ (fun w hw=>hv w (List.mem_cons_of_mem _ hw)) f hf
    exact h.1.sublist (List.dropWhile_sublist _)
theorem before_visit {g room hour:Int}:∀ {vs:List Int} {ns:List Nat} {fs:List (Int × Int)} {i:Int},From hour fs→(∀ v ∈ vs,hour<v)→fill1 room hour i (scoopL g vs ns fs)=fill1 room hour i fs∧left hour (scoopL g vs ns fs)=scoopL g vs ns (left hour fs)
 | [],_,fs,i,_,_=>by unfold scoopL;exact ⟨rfl,rfl⟩
 | _::_,[],fs,i,_,_=>by unfold scoopL;exact ⟨rfl,rfl⟩
 | v::vs,n::ns,[],i,h,hv=>by
  have hvv:hour<v:=hv v (by simp)
  have hs:∀ f ∈ scoopL g (v::vs) (n::ns) [],f.1≠hour:=fun f hf=>by
   have:=scoopL_from (hour:=hour+1) ⟨List.Pairwise.nil,fun _ h=>(by cases h)⟩ (fun w hw=>by have:=hv w hw;omega) f hf
   omega
  rw [fill1_skip hs,left_skip hs]
  exact ⟨rfl,rfl⟩
 | v::vs,n::ns,(h0,g0)::fs,i,h,hv=>by
  obtain ⟨p1,p2⟩:=List.pairwise_cons.mp h.1
  have hvv:hour<v:=hv v (by simp)
  have hh:hour≤h0:=h.2 (h0,g0) (by simp)
  by_cases e:h0=hour
  ·have hu:upTo v ((h0,g0)::fs)=(h0,g0)::upTo v fs:=by
    unfold upTo
    rw [List.takeWhile_cons_of_pos (by simp;omega)]
   have hb:beyond v ((h0,g0)::fs)=beyond v fs:=by
    unfold beyond
    rw [List.dropWhile_cons_of_pos (by simp;omega)]
   have hsc:scoopL g (v::vs) (n::ns) ((h0,g0)::fs)=(h0,g0)::scoopL g (v::vs) (n::ns) fs:=by
    show upTo v ((h0,g0)::fs)++_=(h0,g0)::(upTo v fs++_)
    rw [hu,hb]
    rfl
   obtain ⟨a1,a2⟩:=before_visit (g:=g) (room:=room) (ns:=n::ns) (i:=min (i+g0) room) ⟨p2,fun f hf=>h.2 f (List.mem_cons_of_mem _ hf)⟩ hv
   rw [hsc]
   refine ⟨?_,?_⟩
   ·show (if h0=hour then fill1 room hour (min (i+g0) room) _ else i)=(if h0=hour then fill1 room hour (min (i+g0) room) fs else i)
    rw [if_pos e,if_pos e,a1]
   ·show (if h0=hour then left hour _ else _)=scoopL g (v::vs) (n::ns) (if h0=hour then left hour fs else _)
    rw [if_pos e,if_pos e,a2]
  ·have hs0:∀ f ∈ (h0,g0)::fs,f.1≠hour:=fun f hf=>by
    rcases List.mem_cons.mp hf with rfl | hf
    ·exact e
    ·have:=p1 f hf
     have:h0≤f.1:=this
     omega
   have hf1:From (hour+1) ((h0,g0)::fs):=⟨h.1,fun f hf=>by have:=h.2 f hf;have:=hs0 f hf;omega⟩
   have hs:∀ f ∈ scoopL g (v::vs) (n::ns) ((h0,g0)::fs),f.1≠hour:=fun f hf=>by
    have:=scoopL_from (hour:=hour+1) hf1 (fun w hw=>by have:=hv w hw;omega) f hf
    omega
   rw [fill1_skip hs,left_skip hs,fill1_skip hs0,left_skip hs0]
   exact ⟨rfl,rfl⟩
theorem lst_before {g room mh:Int} {vs:List Int} {ns:List Nat}:∀ (k m:Nat) (hour i:Int) (fs:List (Int × Int)),From hour fs→(∀ v ∈ vs,hour+k≤v)→good room mh (k+m) hour i (scoopL g vs ns fs)=match lst room mh g k 0 hour i fs with
  | none=>false
  | some x=>good room mh m (hour+k) x.1 (scoopL g vs ns x.2)
 | 0,m,hour,i,fs,_,_=>by
  show good room mh (0+m) hour i _=good room mh m (hour+(0:Nat)) i _
  rw [Nat.zero_add,show hour+((0:Nat):Int)=hour by omega]
 | k+1,m,hour,i,fs,h,hv=>by
  obtain ⟨a1,a2⟩:=before_visit (g:=g) (room:=room) (ns:=ns) (i:=i) h (fun v hvv=>by have:=hv v hvv;omega)
  rw [show k+1+m=(k+m)+1 by omega]
  rw [good_succ,lst_succ,a1,a2,putN_zero]
  by_cases e:fill1 room hour i fs=0
  ·rw [if_pos e,decide_eq_true e];rfl
  ·rw [if_neg e,decide_eq_false e,lst_before k m (hour+1) _ (left hour fs) h.left (fun v hvv=>by have:=hv v hvv;omega)]
   rw [show hour+((k+1:Nat):Int)=hour+1+(k:Int) by omega]
   cases lst room mh g k 0 (hour+1) (max 0 (fill1 room hour i fs - mh)) (left hour fs)<;>rfl
theorem lst_from {g room mh:Int}:∀ (k n:Nat) (hour i:Int) (fs:List (Int × Int)) (x:Int × List (Int × Int)),From hour fs→lst room mh g k n hour i fs=some x→From (hour+k) x.2
 | 0,n,hour,i,fs,x,h,hx=>by
  injection hx with hx
  subst hx
  rw [show hour+((0:Nat):Int)=hour by omega]
  exact h
 | k+1,n,hour,i,fs,x,h,hx=>by
  unfold lst at hx
  split at hx
  ·cases hx
  ·rw [show hour+((k+1:Nat):Int)=hour+1+(k:Int) by omega]
   exact lst_from k 0 _ _ _ x h.left hx
theorem lst_visit {g room mh:Int} {v:Int} {vs:List Int} {n:Nat} {ns:List Nat} (k m:Nat) (i:Int) (fs:List (Int × Int)) (h:From v fs) (hv:∀ w ∈ vs,v<w∧v+k≤w) (hk:0<k):good room mh (k+m) v i (scoopL g (v::vs) (n::ns) fs)=match lst room mh g k n v i fs with
  | none=>false
  | some x=>good room mh m (v+k) x.1 (scoopL g vs ns x.2):=by
 obtain ⟨k,rfl⟩:∃ j,k=j+1:=⟨k - 1,by omega⟩
 obtain ⟨a1,a2,a3⟩:=at_visit room v (List.replicate n (v,g)++scoopL g vs ns (beyond v fs)) fs i h
 have hs:∀ f ∈ scoopL g vs ns (beyond v fs),f.1≠v:=fun f hf=>by
  have:=scoopL_from h.beyond (fun w hw=>by have:=hv w hw;omega) f hf
  omega
 have hL:left v (scoopL g (v::vs) (n::ns) fs)=scoopL g vs ns (left v fs):=by
  show left v (upTo v fs++_)=_
  rw [a2,left_rep,left_skip hs,a3]
 have hF:fill1 room v i (scoopL g (v::vs) (n::ns) fs)=putN room g n (fill1 room v i fs):=by
  show fill1 room v i (upTo v fs++_)=_
  rw [a1,fill1_rep,fill1_skip hs]
 rw [show k+1+m=(k+m)+1 by omega]
 rw [good_succ,lst_succ,hF,hL]
 by_cases e:putN room g n (fill1 room v i fs)=0
 ·rw [if_pos e,decide_eq_true e];rfl
 ·rw [if_neg e,decide_eq_false e,lst_before k m (v+1) _ (left v fs) h.left (fun w hw=>by have:=(hv w hw).2;omega)]
  rw [show v+((k+1:Nat):Int)=v+1+(k:Int) by omega]
  cases lst room mh g k 0 (v+1) (max 0 (putN room g n (fill1 room v i fs) - mh)) (left v fs)<;>rfl
def chain (room mh g:Int) (until_:Nat):List Nat→List Nat→Nat→Int→List (Int × Int)→Bool
 | v::vs,n::ns,hour,i,fs=>match lst room mh g (min (vs.headD until_) until_ - hour) n hour i fs with
  | none=>false
  | some x=>chain room mh g until_ vs ns (max hour (min (vs.headD until_) until_)) x.1 x.2
 | _,_,_,_,_=>true
def Vis (until_:Nat):List Nat→Nat→Prop
 | [],hour=>hour=until_
 | v::vs,hour=>((v=hour∧hour≤until_)∨(hour=until_∧until_≤v))∧(∀ w ∈ vs,v<w)∧vs.Pairwise (·<·)
theorem chain_good {room mh g:Int} {until_:Nat}:∀ (vs ns:List Nat) (hour:Nat) (i:Int) (fs:List (Int × Int)),vs.length=ns.length→Vis until_ vs hour→From hour fs→chain room mh g until_ vs ns hour i fs=good room mh (until_ - hour) hour i (scoopL g (vs.map Int.ofNat) ns fs)
 | [],[],hour,i,fs,_,hv,_=>by
  have:hour=until_:=hv
  subst this
  rw [Nat.sub_self]
  rfl
 | v::vs,n::ns,hour,i,fs,hl,⟨hv,hlt,hp⟩,hf=>by
  have nextV:∀ h',h'=max hour (min (vs.headD until_) until_)→hour≤until_→Vis until_ vs h':=by
   intro h' hh' hle
   cases vs with
   | nil =>
    show h'=until_
    have:([]:List Nat).headD until_=until_:=rfl
    rw [this] at hh'
    omega
   | cons w ws =>
    obtain ⟨p1,p2⟩:=List.pairwise_cons.mp hp
    have hw:=hlt w (by simp)
    have hd:(w::ws).headD until_=w:=rfl
    rw [hd] at hh'
    refine ⟨?_,p1,p2⟩
    rcases hv with ⟨e1,e2⟩ | ⟨e1,e2⟩
    ·by_cases h3:w≤until_
     ·left;omega
     ·right;omega
    ·right;omega
  by_cases hu:hour=until_
  ·subst hu
   have h0:min (vs.headD hour) hour - hour=0:=by omega
   have h1:max hour (min (vs.headD hour) hour)=hour:=by omega
   show (match lst room mh g (min (vs.headD hour) hour - hour) n hour i fs with | none=>false | some x=>chain room mh g hour vs ns (max hour (min (vs.headD hour) hour)) x.1 x.2)=_
   rw [h0,h1]
   show chain room mh g hour vs ns hour i fs=_
   rw [chain_good vs ns hour i fs (by simpa using hl) (nextV hour (by omega) (Nat.le_refl _)) hf,Nat.sub_self]
   rfl
  ·obtain ⟨rfl,hle⟩:v=hour∧hour≤until_:=by
    rcases hv with h | h
    ·exact h
    ·exact absurd h.1 hu
   have hgt:∀ w ∈ vs,v<w:=hlt
   obtain ⟨nx,hnx⟩:∃ nx,nx=min (vs.headD until_) until_:=⟨_,rfl⟩
   have hnv:v<nx:=by
    rw [hnx]
    cases vs with
    | nil=>show v<min until_ until_;omega
    | cons w ws=>have:=hgt w (by simp);show v<min w until_;omega
   have hnu:nx≤until_:=by omega
   have hall:∀ w ∈ vs.map Int.ofNat,((v:Int)<w∧(v:Int)+((nx - v:Nat):Int)≤w):=fun w hw=>by
    obtain ⟨a,ha,rfl⟩:=List.mem_map.mp hw
    have h1:=hgt a ha
    have h2:nx≤a:=by
     rw [hnx]
     cases vs with
     | nil=>cases ha
     | cons w ws =>
      obtain ⟨p1,_⟩:=List.pairwise_cons.mp hp
      show min w until_≤a
      rcases List.mem_cons.mp ha with rfl | ha
      ·omega
      ·have:=p1 a ha;omega
    show (v:Int)<(a:Int)∧(v:Int)+((nx - v:Nat):Int)≤(a:Int)
    omega
   have key:=lst_visit (g:=g) (room:=room) (mh:=mh) (v:=(v:Int)) (vs:=vs.map Int.ofNat) (n:=n) (ns:=ns) (nx - v) (until_ - nx) i fs hf hall (by omega)
   rw [show nx - v+(until_ - nx)=until_ - v by omega] at key
   show (match lst room mh g (min (vs.headD until_) until_ - v) n v i fs with | none=>false | some x=>chain room mh g until_ vs ns (max v (min (vs.headD until_) until_)) x.1 x.2)=good room mh (until_ - v) v i (scoopL g ((v:Int)::vs.map Int.ofNat) (n::ns) fs)
   rw [key,← hnx,show max v nx=nx by omega]
   cases hx:lst room mh g (nx - v) n v i fs with
   | none=>rfl
   | some x =>
    have hfx:=lst_from _ _ _ _ _ x hf hx
    rw [show (v:Int)+((nx - v:Nat):Int)=(nx:Int) by omega] at hfx ⊢
    exact chain_good vs ns nx x.1 x.2 (by simpa using hl) (nextV nx (by omega) (by omega)) hfx
 | [],_::_,_,_,_,h,_,_=>by simp at h
 | _::_,[],_,_,_,h,_,_=>by simp at h
end Go.Proofs.Ytkoefjgapmonaaa.walk.Scoops
