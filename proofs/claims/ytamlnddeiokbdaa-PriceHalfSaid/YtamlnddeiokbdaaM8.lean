/- The law PriceOrder: its loops. -/
import Derived.Test.YtamlnddeiokbdaaM7
import Derived.Test.YtamlnddeiokbdaaM4
import Derived.Test.YtamlnddeiokbdaaM6
import Derived.Test.YtamlnddeiokbdaaM5
import Derived.Test.YtamlnddeiokbdaaCodes
import Derived.Test.YtamlnddeiokbdaaWalkAll
set_option linter.unusedSimpArgs false
set_option maxHeartbeats 16000000
set_option linter.unusedVariables false
set_option maxRecDepth 10000
namespace Go.Proofs.Ytamlnddeiokbdaa.walk
open Go.Abs Go.Proofs.Ytamlnddeiokbdaa.code
theorem extE0 (a b:AV) (s:St):extA 0 s (.tup [a,b])=.val a s:=Eq.trans (Eq.refl _) (Eq.refl _)
theorem extE1 (a b:AV) (s:St):extA 1 s (.tup [a,b])=.val b s:=Eq.trans (Eq.refl _) (Eq.refl _)
theorem okA_tupE (a b:AV) (s:St):okA (.val (.tup [a,b]) s)=.val (.tup [a,b]) s:=Eq.trans (Eq.refl _) (Eq.refl _)
theorem extT0 (a b c:AV) (s:St):extA 0 s (.tup [a,b,c])=.val a s:=Eq.trans (Eq.refl _) (Eq.refl _)
theorem extT1 (a b c:AV) (s:St):extA 1 s (.tup [a,b,c])=.val b s:=Eq.trans (Eq.refl _) (Eq.refl _)
theorem extT2 (a b c:AV) (s:St):extA 2 s (.tup [a,b,c])=.val c s:=Eq.trans (Eq.refl _) (Eq.refl _)
theorem okA_tupT (a b c:AV) (s:St):okA (.val (.tup [a,b,c]) s)=.val (.tup [a,b,c]) s:=Eq.trans (Eq.refl _) (Eq.refl _)
structure OthJ (u t:St) (p7:Nat) (ks kg:Int) (l:List Sale) (v:AV) (bl kk:Nat):Prop where
 g7:t.h.get p7=some (.cells [.int .i64 ks,.int .i64 kg,v] (tag 27))
 is:IsAt t.h t.n bl 6 (tag 51) (l.map Sale.cells) v
 lo:u.n≤bl
 same:∀ c,c<u.n→c≠p7→t.h.get c=u.h.get c
 n:u.n≤t.n
 le:t.n≤u.n+kk
end Go.Proofs.Ytamlnddeiokbdaa.walk
set_option maxRecDepth 10000
namespace Go.Abs
theorem IsAt.away {h:Heap} {n b w tg d:Nat} {rows:List (List AV)} {v:AV} (r:IsAt h n b w tg rows v) (hb:b≠d):∀ (i:Nat) (hi:i<rows.length),∃ x p c sz,x<n∧x≠d∧(∀ s,ixsA w s v (.int .i64 i)=.val (.ptr x p) s)∧h.get x=some (.cells c sz)∧cut p w c=some rows[i]:=fun i hi=>by
 rcases r.is with ⟨h1,_⟩ | ⟨_,h2,h3,h4⟩
 ·subst h1;simp at hi
 ·subst h3
  exact ⟨b,0+i * w,_,_,h2,hb,fun s=>ixs_slice _ _ _ _ _ _ _ _ hi,h4,by rw [Nat.zero_add];exact flatten_cut r.wide hi⟩
end Go.Abs
namespace Go.Proofs.Ytamlnddeiokbdaa.walk
open Go.Abs Go.Proofs.Ytamlnddeiokbdaa.code
theorem truthOf_ex {N d bl1:Nat} {b:Book} {vb:AV} {s:St} {r:ARes} (hr:call Try.prog X N (.fn 13) [.ptr d 0,.agg (bookV b vb)] s=r) (hN:6≤N) (hd:Die d s.h) (hlt:d<s.n) (hF:Fine b.sales) (hl:b.sales.length≤40) (hI:IsAt s.h s.n bl1 6 (tag 51) (b.sales.map Sale.cells) vb) (hbd:bl1≠d) (hs:s.n+6000≤far) :
  ∃ (Z:List Sold) (v:AV) (bl:Nat) (t:St),r=.val v t∧Stir d s t 500∧Die d t.h∧salesZ Z=b.sales∧AllOk Z∧s.n≤bl∧IsAt t.h t.n bl 2 (tag 64) (truthRows Z) v:=by
 obtain ⟨m,rfl⟩:∃ m,N=m+1:=⟨N - 1,by omega⟩
 have hf:far=1000000000:=rfl
 obtain ⟨v,t,e,st,Z,bl,hq1,hq2,hq3,hq4,hq5⟩:=call_stir2 (n:=m) (args:=[.ptr d 0,.agg (bookV b vb)]) (d:=d) (s:=s) (k:=500) (Q:=fun w h m=>∃ (Z:List Sold) (bl:Nat),Die d h∧salesZ Z=b.sales∧AllOk Z∧s.n≤bl∧IsAt h m bl 2 (tag 64) (truthRows Z) w) Try.func13 rfl (fun u uh un um=>by
  have hd':=hd
  rw [← uh] at hd hI
  rw [← un] at hlt hI hs
  have sc:scalars (bookV b vb)=true:=by show scalars [vb]=true;exact hI.scal.1
  obtain ⟨w,hw⟩:∃ w:St,w=u.new (.cells (bookV b vb) (tag 27)):=⟨_,rfl⟩
  have wn:w.n=u.n+1:=by rw [hw];rfl
  have wm:w.m=far:=by rw [hw];exact um
  have wg:∀ c,c<u.n→w.h.get c=u.h.get c:=fun c hc=>by rw [hw,get_new_ne _ _ _ (by omega)]
  have w0:w.h.get u.n=some (.cells (bookV b vb) (tag 27)):=by rw [hw];exact get_new_eq _ _ _ rfl (by omega)
  have hIw:IsAt w.h u.n bl1 6 (tag 51) (b.sales.map Sale.cells) vb:=hI.mono (fun h=>wg bl1 h) (Nat.le_refl _)
  have kb:=hIw.okA
  have lb:∀ s,lenSlA s vb=.val (.int .i64 (b.sales.length:Int)) s:=fun s=>by have:=hIw.rows.at_.len s;rw [List.length_map] at this;exact this
  rw [enter13]
  simp (disch:=first|omega|(with_unfolding_all exact rfl)|(simp only[new_n,put_n,new_m];omega)|(refine put_m_le ?_;simp only[new_m];omega)) only [K13,K13r0,Abs.W,reduceIte,Nat.reduceEqDiff,Nat.reduceAdd,decide_true,decide_false,kLoop_def,Nat.reduceSub,List.cons_append,List.nil_append,List.append_nil,List.length_cons,List.length_nil,Env.find_set,sc]
  rw [← hw]
  clear hw
  unfold bookV at w0
  simp (disch:=first|omega|(with_unfolding_all exact rfl)|(simp only[new_n,put_n,new_m];omega)|(refine put_m_le ?_;simp only[new_m];omega)) only [K13r1,K13r2,Abs.W,reduceIte,Nat.reduceEqDiff,Nat.reduceAdd,decide_true,decide_false,kLoop_def,Nat.reduceSub,List.cons_append,List.nil_append,List.append_nil,List.length_cons,List.length_nil,Env.find_set]
  generalize hlp:loopN _ rounds _ _ _ _ _=rl
  have hJ:TruJ w w d (b.sales.take 0) [] .nilslice w.n (10 * 0):=⟨hd.keep (wg d (by omega)),IsAt.nil _ _ _ _ _,Nat.le_refl _,fun _ _ _=>rfl,Nat.le_refl _,Nat.le_refl _,by omega,by omega,by simp,fun z hz=>by cases hz⟩
  obtain ⟨e,L1,t2,rfl,rfl,Z,v,bl,J,f5⟩:=loop_of hlp (fun j L' t'=>∃ Z v bl,TruJ w t' d (b.sales.take j) Z v bl (10 * j)∧L'.find 0=.ptr d 0∧L'.find 3=.ptr u.n 0∧L'.find 5=v∧L'.find 6=.int .i64 j)
   (fun e L' t'=>e=.exit 0∧∃ Z v bl,TruJ w t' d b.sales Z v bl (10 * b.sales.length)∧L'.find 5=v) b.sales.length (by unfold rounds;omega)
   ⟨[],.nilslice,w.n,hJ,by simp only [find_cons,Env.find_set,reduceIte,Nat.reduceEqDiff],by simp only [find_cons,Env.find_set,reduceIte,Nat.reduceEqDiff],by simp only [find_cons,Env.find_set,reduceIte,Nat.reduceEqDiff],by simp only [find_cons,Env.find_set,reduceIte,Nat.reduceEqDiff];rfl⟩
   (fun j L' t' hj ⟨Z,v,bl,hJ,q0,q3,q5,q6⟩=>by
    by_cases hlt':j<b.sales.length
    ·obtain ⟨L2,t2,Z2,v2,bl2,z1,z2,z3,z4,z5,z6⟩:=truth_round m (by omega) _ hJ hIw.rows.at_ (by omega) hF w0 (by omega) (by omega) (by omega) (hIw.away hbd) (by omega) (by omega) hlt' q0 q3 q5 q6
     exact .inl ⟨hlt',L2,t2,z1,Z2,v2,bl2,⟨z2.die,z2.is,z2.lo,z2.same,z2.n,by have:=z2.le;omega,z2.m,z2.mle,z2.sal,z2.ok⟩,z3,z4,z5,z6⟩
    ·obtain rfl:j=b.sales.length:=by omega
     have e0:decide ((b.sales.length:Int)<(b.sales.length:Int))=false:=by simp
     have t3:=(hJ.same u.n (by omega) (by omega)).trans w0
     rw [List.take_length] at hJ
     refine .inr ⟨.exit 0,L'.set 11 (.bool false),t',by simp,?_,rfl,Z,v,bl,hJ,by simp only [Env.find_set,q5,reduceIte,Nat.reduceEqDiff]⟩
     simp (disch:=first|omega|(with_unfolding_all exact rfl)|(simp only[new_n,put_n,new_m];omega)|(refine put_m_le ?_;simp only[new_m];omega)) only [K13l0,K13r3,Abs.W,reduceIte,Nat.reduceEqDiff,Nat.reduceAdd,decide_true,decide_false,kLoop_def,Nat.reduceSub,List.cons_append,List.nil_append,List.append_nil,List.length_cons,List.length_nil,Env.find_set,q3,q6,t3,kb,lb,e0,Nat.zero_add])
  obtain ⟨jd,ji,jlo,js,jn,jle,jm,jml,jsal,jok⟩:=J
  have kv:=ji.okA
  simp (disch:=first|omega|(with_unfolding_all exact rfl)|(simp only[new_n,put_n,new_m];omega)|(refine put_m_le ?_;simp only[new_m];omega)) only [K13r6,res13,Abs.W,reduceIte,Nat.reduceEqDiff,Nat.reduceAdd,decide_true,decide_false,kLoop_def,Nat.reduceSub,List.cons_append,List.nil_append,List.append_nil,List.length_cons,List.length_nil,Env.find_set,f5,kv]
  refine ⟨v,t2,rfl,⟨fun c hc hcd=>(js c (by omega) hcd).trans (wg c hc),by omega,by omega,fun _=>jm,by omega⟩,⟨Z,bl,jd,jsal,jok,by omega,ji⟩,fun hp=>?_⟩
  have hv:v=.nilslice∧truthRows Z=[]:=by
   rcases ji.is with ⟨z,z2⟩ | ⟨_,_,z,_⟩
   ·exact ⟨z2,z⟩
   ·subst z;simp [plain] at hp
  exact ⟨Z,s.n,hd',jsal,jok,Nat.le_refl _,by rw [hv.1,hv.2];exact IsAt.nil _ _ _ _ _⟩) (by omega)
 exact ⟨Z,v,bl,t,hr.symm.trans e,st,hq1,hq2,hq3,hq4,hq5⟩
end Go.Proofs.Ytamlnddeiokbdaa.walk
set_option maxRecDepth 10000
namespace Go.Proofs.Ytamlnddeiokbdaa.walk
open Go.Abs Go.Proofs.Ytamlnddeiokbdaa.code
theorem neqBool (a b:Bool) (s:St):eqlA .bool true s (.bool a) (.bool b)=.val (.bool (!(a == b))) s:=by
 cases a<;>cases b<;>rfl
end Go.Proofs.Ytamlnddeiokbdaa.walk
