/- The draw: stall.Draw of any valid letting. -/
import Derived.Test.YtbcjojljiochfaaM2
import Derived.Test.YtbcjojljiochfaaCodes
import Derived.Test.YtbcjojljiochfaaWalkAll
set_option linter.unusedSimpArgs false
set_option maxHeartbeats 16000000
set_option linter.unusedVariables false
set_option maxRecDepth 10000
namespace Go.Abs
theorem ixa8 (s:St) (b i:Nat) (h:i<8):ixaA 8 1 s (.ptr b 0) (.int .i64 (i:Int))=.val (.ptr b i) s:=by
 show placeA s b 0 8 1 i=_
 unfold placeA
 rw [Nat.ble_eq_true_of_le (show Nat.succ i≤8 from h)]
 show ARes.val (.ptr b (0+i * 1)) s=_
 rw [Nat.zero_add,Nat.mul_one]
def pl8 (i:Nat):Nat:=if 8=i then 0 else i
theorem sliceArr_from (s:St) (b i:Nat) (h:i≤8):sliceArr 8 1 (some (.int .i64 (i:Int))) none s (.ptr b 0)=.val (.slice b (pl8 i) (8 - i) (8 - i) false) s:=by
 have e1:boundsA 8 8 (some (.int .i64 (i:Int))) none=some (i,8):=by
  unfold boundsA hiA loA
  simp only [boundA_nat _ _ _ h]
 unfold sliceArr
 simp only [e1,Nat.zero_add,Nat.mul_one]
 rfl
theorem sliceArr_to (s:St) (b i:Nat) (h:i≤8):sliceArr 8 1 none (some (.int .i64 (i:Int))) s (.ptr b 0)=.val (.slice b 0 i 8 false) s:=by
 have e1:boundsA 8 8 none (some (.int .i64 (i:Int)))=some (0,i):=by
  unfold boundsA hiA loA
  simp only [boundA_nat _ _ _ h]
 unfold sliceArr
 simp only [e1]
 rfl
theorem aRem_nat (s:St) (a b:Nat) (h:0<b):aRem s .i64 (a:Int) (b:Int)=.val (.int .i64 ((a % b:Nat):Int)) s:=by
 unfold aRem
 rw [if_neg (by omega)]
 have e:((a:Int).tmod (b:Int))=((a % b:Nat):Int):=rfl
 rw [e]
theorem aQuo_nat (s:St) (a b:Nat) (h:0<b) (ha:a≤9223372036854775807):aQuo s .i64 (a:Int) (b:Int)=.val (.int .i64 ((a / b:Nat):Int)) s:=by
 unfold aQuo
 rw [if_neg (by omega)]
 have e:((a:Int).tdiv (b:Int))=((a / b:Nat):Int):=rfl
 have h1:=Nat.div_le_self a b
 rw [e]
 generalize a / b=q at h1 ⊢
 rw [wrap_in _ (by omega)]
end Go.Abs
namespace Go.Proofs.Ytbcjojljiochfaa.walk
open Go.Abs Go.Proofs.Ytbcjojljiochfaa.code
def arr (f:List Nat):List AV:=(natRows f).flatten
theorem arr_nth {f:List Nat} {k:Nat} (hk:k<f.length):nth (arr f) k=.int .i64 (f.getD k 0:Nat):=natRows_nth hk
theorem arr_over {f:List Nat} {k:Nat} (hk:k<f.length) (x:Nat):over k [.int .i64 (x:Int)] (arr f)=some (arr (f.set k x)):=natRows_over hk x
theorem arr_len (f:List Nat):(arr f).length=f.length:=by unfold arr;rw [flatten_len (natRows_wide f),natRows_len,Nat.mul_one]
theorem arr_scal (f:List Nat):scalars (arr f)=true:=scalars_flatten fun r hr=>by
 unfold natRows intRows at hr
 obtain ⟨x,_,rfl⟩:=List.mem_map.mp hr
 rfl
theorem arr_all {f:List Nat} (h:f.length=8):cut 0 8 (arr f)=some (arr f):=by
 have:=cut1_all (arr f)
 rw [arr_len,h] at this
 rw [cut_zero];exact this
theorem arr_overAll {f g:List Nat} (h:f.length=8) (hg:g.length=8):over 0 (arr g) (arr f)=some (arr g):=over_zero _ _ (by rw [arr_len,arr_len,h,hg])
theorem arr_plains (f:List Nat):plain (.agg (arr f))=true:=by
 unfold arr natRows intRows
 induction f with
 | nil=>rfl
 | cons a f ih =>
  rw [List.map_cons,List.map_cons,List.flatten_cons]
  exact ih
theorem arr_zero:([.int .i64 0,.int .i64 0,.int .i64 0,.int .i64 0,.int .i64 0,.int .i64 0,.int .i64 0,.int .i64 0]:List AV)=arr (List.replicate 8 0):=rfl
def drop8 (f:List Nat) (p:Nat):List Nat:=f.eraseIdx p++[f.getD 7 0]
theorem drop8_len {f:List Nat} {p:Nat} (h:f.length=8) (hp:p<8):(drop8 f p).length=8:=by unfold drop8;rw [List.length_append,List.length_eraseIdx_of_lt (by omega),h];rfl
theorem arr_app (f g:List Nat):arr (f++g)=arr f++arr g:=by unfold arr natRows intRows;rw [List.map_append,List.map_append,List.flatten_append]
theorem arr_shift {f:List Nat} {p:Nat} (h:f.length=8) (hp:p<8):over p (arr (f.drop (p+1))) (arr f)=some (arr (drop8 f p)):=by
 have e:f=f.take p++f.drop p:=(List.take_append_drop p f).symm
 have e2:arr f=arr (f.take p)++(arr ((f.drop p).take (7 - p))++arr ((f.drop p).drop (7 - p))):=by
  rw [← arr_app,← arr_app,List.take_append_drop,List.take_append_drop]
 have l1:(arr (f.take p)).length=p:=by rw [arr_len,List.length_take];omega
 have:=over_skip (arr (f.take p)) (arr ((f.drop p).take (7 - p))++arr ((f.drop p).drop (7 - p))) (arr (f.drop (p+1))) 0
 rw [Nat.add_zero,l1] at this
 rw [e2,this,over_head _ _ _ (by rw [arr_len,arr_len,List.length_drop,List.length_take,List.length_drop];omega)]
 show some (arr (f.take p)++(arr (f.drop (p+1))++arr ((f.drop p).drop (7 - p))))=_
 rw [← arr_app,← arr_app]
 congr 2
 unfold drop8
 rw [List.eraseIdx_eq_take_drop_succ,List.append_assoc,List.drop_drop,show p+(7 - p)=7 by omega]
 congr 2
 rw [List.drop_eq_getElem_cons (by omega),List.drop_eq_nil_of_le (by omega)]
 simp [List.getD,h]
theorem without_ok (N:Nat) (hN:1≤N) {f:List Nat} {p:Nat} (h:f.length=8) (hp:p<8) (s:St) (hs:s.n+20≤far) :
  call Try.prog X N (.fn 53) [.agg (arr f),.int .i64 (p:Int)] s=.val (.agg (arr (drop8 f p))) s:=by
 obtain ⟨n,rfl⟩:∃ n,N=n+1:=⟨N - 1,by omega⟩
 refine call_plain' Try.func53 (fun u uh un um=>?_) (arr_plains _)
 have hf:far=1000000000:=rfl
 obtain ⟨w,hw⟩:∃ w:St,w=(u.new (.cells (arr f) (tag 69))).new (.cells (arr (List.replicate 8 0)) (tag 69)):=⟨_,rfl⟩
 have wn:w.n=u.n+2:=by rw [hw];rfl
 have wm:w.m=far:=by rw [hw];exact um
 have w0:w.h.get u.n=some (.cells (arr f) (tag 69)):=by rw [hw,get_new_ne _ _ _ (by simp only [new_n];omega)];exact get_new_eq _ _ _ rfl (by omega)
 have w1:w.h.get (u.n+1)=some (.cells (arr (List.replicate 8 0)) (tag 69)):=by rw [hw];exact get_new_eq _ _ _ rfl (by simp only [new_n];omega)
 have ad:∀ s,aAdd s .i64 (p:Int) 1=.val (.int .i64 ((p+1:Nat):Int)) s:=fun s=>by rw [aAdd_i64 s _ _ (by omega)];rfl
 have sl1:=fun s=>sliceArr_from s u.n p (by omega)
 have sl2:=fun s=>sliceArr_from s u.n (p+1) (by omega)
 have cp:copyA 1 w (.slice u.n (pl8 p) (8 - p) (8 - p) false) (.slice u.n (pl8 (p+1)) (8 - (p+1)) (8 - (p+1)) false)=.val (.int .i64 ((8 - (p+1):Nat):Int)) (w.put u.n (.cells (arr (drop8 f p)) (tag 69))):=by
  have e1:Nat.min (8 - (p+1)) (8 - p)=8 - (p+1):=Nat.min_eq_left (by omega)
  have e2:firstA 1 (8 - (p+1)) w (.slice u.n (pl8 (p+1)) (8 - (p+1)) (8 - (p+1)) false)=some (arr (f.drop (p+1))):=by
   show (match w.h.get u.n with | some (.cells c _)=>Abs.cut (pl8 (p+1)) ((8 - (p+1)) * 1) c | some (.fam c _ k _)=>Abs.cut (pl8 (p+1)) ((8 - (p+1)) * 1) (c.take k) | _=>none)=_
   rw [w0]
   simp only [Nat.mul_one]
   unfold pl8
   by_cases h8:8=p+1
   ·rw [if_pos h8,← h8,Nat.sub_self,cut_zero,cut1_zero,List.drop_eq_nil_of_le (by omega)]
    rfl
   ·rw [if_neg h8]
    have e3:arr f=arr (f.take (p+1))++arr (f.drop (p+1)):=by rw [← arr_app,List.take_append_drop]
    have l1:(arr (f.take (p+1))).length=p+1:=by rw [arr_len,List.length_take];omega
    have:=cut_skip (arr (f.take (p+1))) (arr (f.drop (p+1))) 0 (8 - (p+1))
    rw [Nat.add_zero,l1] at this
    rw [e3,this,cut_zero]
    have:=cut1_all (arr (f.drop (p+1)))
    rw [arr_len,List.length_drop,h] at this
    exact this
  have e4:pl8 p=p:=if_neg (by omega)
  rw [e4]
  unfold copyA
  simp only [lenA,e1,e2,arr_scal,w0,arr_shift h hp]
 rw [enter53]
 have kb:∀ s:St,boxA (tag 69) s (.agg (arr f))=.val (.ptr s.n 0) (s.new (.cells (arr f) (tag 69))):=fun s=>rfl
 simp (disch:=first|omega|(with_unfolding_all exact rfl)|(simp only[new_n,put_n,new_m];omega)|(refine put_m_le ?_;simp only[new_m];omega)) only [K53,K53r0,Abs.W,reduceIte,Nat.reduceEqDiff,Nat.reduceAdd,decide_true,decide_false,kLoop_def,Nat.reduceSub,List.cons_append,List.nil_append,List.append_nil,List.length_cons,List.length_nil,arr_zero]
 rw [← hw]
 simp (disch:=first|omega|(with_unfolding_all exact rfl)|(simp only[new_n,put_n,new_m];omega)|(refine put_m_le ?_;simp only[new_m];omega)) only [K53r1,Abs.W,reduceIte,Nat.reduceEqDiff,Nat.reduceAdd,decide_true,decide_false,kLoop_def,Nat.reduceSub,List.cons_append,List.nil_append,List.append_nil,List.length_cons,List.length_nil,Env.find_set,ad,kSlice_def,optEv_some,optEv_none,sl1,sl2,cp,new_n]
 obtain ⟨z,hz⟩:∃ z:St,z=w.put u.n (.cells (arr (drop8 f p)) (tag 69)):=⟨_,rfl⟩
 have zn:z.n=u.n+2:=by rw [hz];exact wn
 have zm:u.n≤z.m:=by rw [hz];simp only [St.put,minN_eq];omega
 have z0:z.h.get u.n=some (.cells (arr (drop8 f p)) (tag 69)):=by rw [hz];exact get_put_eq _ _ _ _ rfl (by omega)
 have z1:z.h.get (u.n+1)=some (.cells (arr (List.replicate 8 0)) (tag 69)):=by rw [hz,get_put_ne' _ _ _ _ (by omega)];exact w1
 have l8:=drop8_len h hp
 have al:=arr_all l8
 have ao:=arr_overAll (f:=List.replicate 8 0) (g:=drop8 f p) rfl l8
 have asx:=arr_scal (drop8 f p)
 have aln:=arr_len (drop8 f p)
 rw [← hz]
 simp (disch:=first|omega|(with_unfolding_all exact rfl)|(simp only[new_n,put_n,new_m];omega)|(refine put_m_le ?_;simp only[new_m];omega)) only [K53r2,res53,Abs.W,reduceIte,Nat.reduceEqDiff,Nat.reduceAdd,decide_true,decide_false,kLoop_def,Nat.reduceSub,List.cons_append,List.nil_append,List.append_nil,List.length_cons,List.length_nil,Env.find_set,z0,z1,al,ao,asx,aln,l8]
 have sh8:shapeT Try.prog 69=some (some 8):=by kernel_rfl
 refine ⟨_,leave_cell _ _ _ _ sh8 ?_,?_⟩
 ·simp only [Env.find_set,find_cons,reduceIte,Nat.reduceEqDiff]
  rw [load_ptr,get_put_eq _ _ _ _ rfl (by omega),loadO_cells,partS_some,al]
  rfl
 ·simp only [St.put,minN_eq];omega
end Go.Proofs.Ytbcjojljiochfaa.walk
set_option maxRecDepth 10000
namespace Go.Proofs.Ytbcjojljiochfaa.walk
open Go.Abs Go.Proofs.Ytbcjojljiochfaa.code
def QAt (h:Heap) (n b:Nat) (q:List Nat) (v:AV):Prop :=
 b<n∧∃ o c sz,h.get b=some (.cells c sz) ∧
  ((v=.slice b o q.length q.length false∧cut o q.length c=some (arr q)) ∨
  (q≠[]∧v=.slice b o q.length q.length true∧c.length=o+q.length∧c.drop o=arr q∧szOf sz=1) ∨
  (q=[]∧v=.tail b o∧c.length=o∧szOf sz=1))
section
variable {h h':Heap} {n n' b:Nat} {q:List Nat} {v:AV}
theorem QAt.move (a:QAt h n b q v) (hh:h'.get b=h.get b) (hn:n≤n'):QAt h' n' b q v:=by
 obtain ⟨h1,o,c,sz,h2,h3⟩:=a
 exact ⟨by omega,o,c,sz,hh.trans h2,h3⟩
theorem QAt.okA (a:QAt h n b q v) (t:St):Abs.okA (.val v t)=.val v t:=by
 obtain ⟨h1,o,c,sz,h2,⟨rfl,_⟩ | ⟨_,rfl,_⟩ | ⟨_,rfl,_⟩⟩:=a<;>rfl
theorem QAt.scal (a:QAt h n b q v):scalars [v]=true∧cellsOf 1 v=some [v]:=by
 obtain ⟨h1,o,c,sz,h2,⟨rfl,_⟩ | ⟨_,rfl,_⟩ | ⟨_,rfl,_⟩⟩:=a<;>exact ⟨rfl,rfl⟩
theorem QAt.len (a:QAt h n b q v) (s:St):lenSlA s v=.val (.int .i64 (q.length:Int)) s:=by
 obtain ⟨h1,o,c,sz,h2,⟨rfl,_⟩ | ⟨_,rfl,_⟩ | ⟨rfl,rfl,_⟩⟩:=a<;>rfl
theorem cut_drop {c:List AV} {o k:Nat} {l:List AV} (h:cut o k c=some l):l=(c.drop o).take k∧l.length=k:=by
 induction o generalizing c with
 | zero =>
  rw [cut_zero] at h
  obtain ⟨t,h1,h2⟩:=cut1_some h
  subst h1
  exact ⟨by rw [List.drop_zero,← h2,List.take_left],h2⟩
 | succ o ih =>
  cases c with
  | nil=>cases k<;>cases h<;>first | exact ⟨rfl,rfl⟩ | skip
  | cons x c=>rw [List.drop_succ_cons];exact ih h
theorem QAt.head {a:Nat} {r:List Nat} (x:QAt h n b (a::r) v):∃ o c sz,(∀ s,ixsA 1 s v (.int .i64 0)=.val (.ptr b o) s)∧h.get b=some (.cells c sz)∧nth c o=.int .i64 (a:Nat):=by
 obtain ⟨h1,o,c,sz,h2,h3⟩:=x
 have key:∀ {l:List AV},l=(.int .i64 (a:Int))::arr r→(∃ t,c.drop o=l++t)→nth c o=.int .i64 (a:Nat):=fun {l} hl ⟨t,ht⟩=>by
  have e:c=c.take o++c.drop o:=(List.take_append_drop o c).symm
  have ol:o≤c.length:=by
   rcases Nat.lt_or_ge c.length o with h | h
   ·rw [List.drop_eq_nil_of_le (by omega),hl] at ht
    cases ht
   ·exact h
  have:cut o 1 c=some [.int .i64 (a:Int)]:=by
   have h1:=cut_skip (c.take o) (c.drop o) 0 1
   rw [Nat.add_zero,List.length_take,Nat.min_eq_left ol,← e] at h1
   rw [h1,ht,hl]
   rfl
  exact cut1_nth this
 rcases h3 with ⟨rfl,h4⟩ | ⟨_,rfl,h4,h5,_⟩ | ⟨h4,_⟩
 ·refine ⟨o,c,sz,fun s=>by have:=ixs_slice 1 s b o (a::r).length (a::r).length false 0 (by simp);rwa [Nat.zero_mul,Nat.add_zero] at this,h2,key (l:=arr (a::r)) rfl ⟨(c.drop o).drop (a::r).length,?_⟩⟩
  rw [(cut_drop h4).1,List.take_append_drop]
 ·exact ⟨o,c,sz,fun s=>by have:=ixs_slice 1 s b o (a::r).length (a::r).length true 0 (by simp);rwa [Nat.zero_mul,Nat.add_zero] at this,h2,key (l:=arr (a::r)) rfl ⟨[],by rw [h5,List.append_nil]⟩⟩
 ·cases h4
theorem QAt.tail {a:Nat} {r:List Nat} (x:QAt h n b (a::r) v):∃ v',(∀ s,sliceVal 1 (some (.int .i64 1)) none s v=.val v' s)∧QAt h n b r v':=by
 obtain ⟨h1,o,c,sz,h2,h3⟩:=x
 rcases h3 with ⟨rfl,h4⟩ | ⟨_,rfl,h4,h5,h6⟩ | ⟨h4,_⟩
 ·cases r with
  | nil=>exact ⟨.slice b o 0 0 false,fun s=>rfl,h1,o,c,sz,h2,.inl ⟨rfl,by
    obtain ⟨e1,e2⟩:=cut_drop h4
    have ol:o≤c.length:=by
     rcases Nat.lt_or_ge c.length o with h | h
     ·rw [List.drop_eq_nil_of_le (by omega)] at e1
      rw [e1] at e2;simp at e2
     ·exact h
    have h1:=cut_skip (c.take o) (c.drop o) 0 0
    rw [Nat.add_zero,List.length_take,Nat.min_eq_left ol,List.take_append_drop] at h1
    show cut o 0 c=_
    rw [h1,cut_zero]
    cases c.drop o<;>rfl⟩⟩
  | cons x r =>
   refine ⟨.slice b (o+1 * 1) ((a::x::r).length - 1) ((a::x::r).length - 1) false,fun s=>slice_from 1 s b o _ _ 1 false (Nat.le_refl _) (by simp) (by simp),h1,o+1 * 1,c,sz,h2,.inl ⟨rfl,?_⟩⟩
   obtain ⟨e1,e2⟩:=cut_drop h4
   have ol:o+1≤c.length:=by
    have:=congrArg List.length e1
    rw [e2,List.length_take,List.length_drop] at this
    simp at this;omega
   have h1:=cut_skip (c.take (o+1)) (c.drop (o+1)) 0 (x::r).length
   rw [Nat.add_zero,List.length_take,Nat.min_eq_left ol,List.take_append_drop] at h1
   rw [Nat.one_mul,h1,cut_zero]
   have e3:c.drop (o+1)=arr (x::r)++(c.drop (o+1)).drop (x::r).length:=by
    have e4:(c.drop o).take (a::x::r).length=arr (a::x::r):=e1.symm
    have e5:(c.drop (o+1)).take (x::r).length=arr (x::r):=by
     have:=congrArg (List.drop 1) e4
     rw [List.drop_take,List.drop_drop] at this
     exact this
    rw [← e5,List.take_append_drop]
   rw [e3]
   have:=cut1_app (arr (x::r)) ((c.drop (o+1)).drop (x::r).length)
   rwa [arr_len] at this
 ·cases r with
  | nil=>exact ⟨.tail b (o+1 * 1),fun s=>rfl,h1,o+1 * 1,c,sz,h2,.inr (.inr ⟨rfl,rfl,by simpa using h4,h6⟩)⟩
  | cons x r =>
   refine ⟨.slice b (o+1 * 1) ((a::x::r).length - 1) ((a::x::r).length - 1) true,fun s=>slice_from 1 s b o _ _ 1 true (Nat.le_refl _) (by simp) (by simp),h1,o+1 * 1,c,sz,h2,.inr (.inl ⟨by simp,rfl,by simp at h4 ⊢;omega,?_,h6⟩)⟩
   have:=congrArg (List.drop 1) h5
   rw [List.drop_drop] at this
   exact this
 ·cases h4
end
theorem app_grow {s:St} {w bytes tg p sz:Nat} {row:List AV} (hp:s.h.get p=some (.cells row sz)) (hw:row.length=w) (hsc:scalars row=true) (x:AV):appendA false w bytes tg s x (.slice p 0 1 1 false)=growA w bytes tg 1 row s x:=by
 have e1:firstA w 1 s (.slice p 0 1 1 false)=some row:=by
  show (match s.h.get p with | some (.cells c _)=>Abs.cut 0 (1 * w) c | some (.fam c _ k _)=>Abs.cut 0 (1 * w) (c.take k) | _=>none)=some row
  rw [hp]
  simp only [Nat.one_mul]
  rw [cut_zero,← hw,cut1_all]
 show (match (some 1:Option Nat) with | none=>ARes.fail | some n=>match firstA w n s (.slice p 0 1 1 false) with | none=>.fail | some new=>match Nat.beq new.length (n * w) with | false=>.fail | true=>match scalars new with | true=>growA w bytes tg n new s x | false=>.fail)=_
 simp only [e1,hw,Nat.one_mul,Nat.beq_refl,hsc]
theorem QAt.push {s:St} {b:Nat} {q:List Nat} {v:AV} (a:QAt s.h s.n b q v) {x p sz:Nat} (hp:s.h.get p=some (.cells [.int .i64 (x:Int)] sz)) (hq:q.length≤1000) (hs:s.n+10≤far) :
  ∃ v' s',appendA false 1 8 (tag 3) s v (.slice p 0 1 1 false)=.val v' s'∧QAt s'.h s'.n s.n (q++[x]) v'∧s'.n=s.n+1∧(∀ c,c<s.n→c≠b→s'.h.get c=s.h.get c)∧min s.m b≤s'.m∧s'.m≤s.m:=by
 have hf:far=1000000000:=rfl
 obtain ⟨h1,o,c,sz,h2,h3⟩:=a
 have e0:Nat.ble (q.length+1) q.length=false:=by
  cases h:Nat.ble (q.length+1) q.length with
  | false=>rfl
  | true=>have:=Nat.le_of_ble_eq_true h;omega
 have e2:Nat.ble ((q.length+1) * 8) limit=true:=Nat.ble_eq_true_of_le (by unfold limit;omega)
 have ql:(q++[x]).length=q.length+1:=by simp
 have qa:arr (q++[x])=arr q++[.int .i64 (x:Int)]:=arr_app q [x]
 rw [app_grow (w:=1) (bytes:=8) (tg:=tag 3) hp rfl rfl v]
 rcases h3 with ⟨rfl,h4⟩ | ⟨h0,rfl,h4,h5,h6⟩ | ⟨rfl,rfl,h4,h5⟩
 ·refine ⟨.slice s.n 0 (q.length+1) (q.length+1) true,s.new (.cells (arr q++[.int .i64 (x:Int)]) (1+tag 3)),?_,⟨by rw [new_n];omega,0,_,_,get_new_eq _ _ _ rfl (by omega),.inr (.inl ⟨by simp,by rw [ql],by rw [← qa,arr_len,Nat.zero_add],by rw [qa];rfl,by kernel_rfl⟩)⟩,rfl,fun c hc _=>get_new_ne _ _ _ (by omega),by rw [new_m];omega,by rw [new_m];omega⟩
  unfold growA
  simp only [h2,e0,e2,Nat.mul_one,h4]
 ·refine ⟨.slice s.n 0 (q.length+1) (q.length+1) true,(s.kill b).new (.cells (arr q++[.int .i64 (x:Int)]) (if o=0∧sz=1+tag 3 then sz else 1)),?_,⟨by show s.n<s.n+1;omega,0,_,_,get_new_eq _ _ _ rfl (by show s.n<_;omega),.inr (.inl ⟨by simp,by rw [ql],by rw [← qa,arr_len,Nat.zero_add],by rw [qa];rfl,?_⟩)⟩,rfl,fun c hc hb=>?_,?_,?_⟩
  ·unfold growA
   simp only [h2,e0,e2,Nat.mul_one,h4,h5,h6,true_and,and_self,if_true]
  ·split
   ·exact h6
   ·kernel_rfl
  ·rw [get_new_ne _ _ _ (by show c≠s.n;omega),get_kill_ne _ _ _ hb]
  ·rw [new_m];simp only [St.kill,minN_eq];omega
  ·rw [new_m];simp only [St.kill,minN_eq];omega
 ·refine ⟨.slice s.n 0 1 1 true,(s.kill b).new (.cells [.int .i64 (x:Int)] 1),?_,⟨by show s.n<s.n+1;omega,0,_,_,get_new_eq _ _ _ rfl (by show s.n<_;omega),.inr (.inl ⟨by simp,rfl,rfl,rfl,by kernel_rfl⟩)⟩,rfl,fun c hc hb=>?_,?_,?_⟩
  ·have e3:Nat.ble (1 * 8) limit=true:=by kernel_rfl
   have e4:Nat.beq 1 0=false:=rfl
   unfold growA
   simp only [h2,e3,e4,h4,h5,and_self,if_true]
  ·rw [get_new_ne _ _ _ (by show c≠s.n;omega),get_kill_ne _ _ _ hb]
  ·rw [new_m];simp only [St.kill,minN_eq];omega
  ·rw [new_m];simp only [St.kill,minN_eq];omega
end Go.Proofs.Ytbcjojljiochfaa.walk
set_option maxRecDepth 10000
namespace Go.Proofs.Ytbcjojljiochfaa.walk
open Go.Abs Go.Proofs.Ytbcjojljiochfaa.code
theorem app_all {no:Nat→Prop} {s:St} {p w bytes tg sz:Nat} {rows:List (List AV)} {y:AV} (hY:Sl no s.h s.n w rows y) (hp:s.h.get p=some (.cells [] sz)) (hpn:p<s.n) (hsc:scalars rows.flatten=true) (hb:rows.length * bytes≤1000000) (htg:szOf (w+tg)=w) (hs:s.n+10≤far) :
  ∃ v s',appendA false w bytes tg s (.slice p 0 0 0 false) y=.val v s'∧Sl (fun x=>x=p∨x=s.n) s'.h s'.n w rows v∧(rows≠[]→IsAt s'.h s'.n s.n w tg rows v)∧s.n≤s'.n∧s'.n≤s.n+1∧(∀ c,c<s.n→s'.h.get c=s.h.get c)∧min s.m p≤s'.m∧s'.m≤s.m∧plain v=false∧(rows=[]→v=.slice p 0 0 0 false):=by
 have hf:far=1000000000:=rfl
 have hfl:=flatten_len hY.wide
 have e1:lenA y=some rows.length∧firstA w rows.length s y=some rows.flatten:=by
  rcases hY.is with ⟨h1,h2⟩ | ⟨b,o,cap,e,c,zz,h1,_,h2,h3,h4,h5⟩
  ·subst h1 h2;exact ⟨rfl,rfl⟩
  ·subst h3
   refine ⟨rfl,?_⟩
   show (match s.h.get b with | some (.cells c _)=>Abs.cut o (rows.length * w) c | some (.fam c _ q _)=>Abs.cut o (rows.length * w) (c.take q) | _=>none)=_
   rw [h4]
   exact h5
 have hA:appendA false w bytes tg s (.slice p 0 0 0 false) y=growA w bytes tg rows.length rows.flatten s (.slice p 0 0 0 false):=by
  unfold appendA
  simp only [e1.1,e1.2,hfl,Nat.beq_refl,hsc]
 have e2:Nat.ble (rows.length * bytes) limit=true:=Nat.ble_eq_true_of_le (by unfold limit;omega)
 rw [hA]
 by_cases h0:rows=[]
 ·subst h0
  refine ⟨.slice p 0 0 0 false,s.put p (.cells [] sz),?_,⟨hY.wide,.inr ⟨p,0,0,false,[],sz,hpn,.inl rfl,⟨Nat.le_refl _,fun h=>(by cases h)⟩,rfl,get_put_eq _ _ _ _ rfl (by omega),?_⟩⟩,fun h=>absurd rfl h,Nat.le_refl _,by rw [put_n];omega,fun c hc=>?_,by simp only [St.put,minN_eq];omega,by simp only [St.put,minN_eq];omega,rfl,fun _=>rfl⟩
  ·unfold growA
   simp only [hp,List.length_nil,List.flatten_nil,Nat.zero_mul,Nat.add_zero]
   rfl
  ·simp only [List.length_nil,Nat.zero_mul];rfl
  ·by_cases e:c=p
   ·subst e;rw [get_put_eq _ _ _ _ rfl (by omega)];exact hp.symm
   ·rw [get_put_ne' _ _ _ _ e]
 ·have hl:0<rows.length:=List.length_pos_iff.mpr h0
  have e3:Nat.ble rows.length 0=false:=by
   cases h:Nat.ble rows.length 0 with
   | false=>rfl
   | true=>have:=Nat.le_of_ble_eq_true h;omega
  have gI:IsAt (s.new (.cells rows.flatten (w+tg))).h (s.new (.cells rows.flatten (w+tg))).n s.n w tg rows (.slice s.n 0 rows.length rows.length true):=⟨hY.wide,.inr ⟨h0,by rw [new_n];omega,rfl,get_new_eq _ _ _ rfl (by omega)⟩⟩
  refine ⟨.slice s.n 0 rows.length rows.length true,s.new (.cells rows.flatten (w+tg)),?_,Sl.of_at gI fun _=>.inr rfl,fun _=>gI,by rw [new_n];omega,by rw [new_n];omega,fun c hc=>get_new_ne _ _ _ (by omega),by rw [new_m];omega,by rw [new_m];omega,rfl,fun h=>absurd h h0⟩
  unfold growA
  simp only [hp,Nat.zero_add,e3,e2,Nat.zero_mul]
  rfl
theorem intRows_scal (l:List Int):scalars (intRows l).flatten=true:=scalars_flatten fun r hr=>by
 unfold intRows at hr
 obtain ⟨x,_,rfl⟩:=List.mem_map.mp hr
 rfl
theorem copyInts_ex {N:Nat} {no:Nat→Prop} {l:List Int} {v:AV} {s:St} {r:ARes} (hr:call Try.prog X N (.fn 28) [v] s=r) (hN:1≤N) (hR:Sl no s.h s.n 1 (intRows l) v) (hl:l.length≤1000) (hs:s.n+100≤far) :
  ∃ w t,r=.val w t∧New s t 2∧Sl (fun x=>s.n≤x) t.h t.n 1 (intRows l) w∧(l≠[]→IsAt t.h t.n (s.n+1) 1 (tag 3) (intRows l) w)∧(l=[]→∃ sz,w=.slice s.n 0 0 0 false∧t.h.get s.n=some (.cells [] sz)):=by
 obtain ⟨n,rfl⟩:∃ n,N=n+1:=⟨N - 1,by omega⟩
 have hf:far=1000000000:=rfl
 obtain ⟨w,t,e,st,hq⟩:=call_new (n:=n) (args:=[v]) (s:=s) (k:=2) (Q:=fun w h n=>Sl (fun x=>s.n≤x) h n 1 (intRows l) w∧(l≠[]→IsAt h n (s.n+1) 1 (tag 3) (intRows l) w)∧(l=[]→∃ sz,w=.slice s.n 0 0 0 false∧h.get s.n=some (.cells [] sz))) Try.func28 rfl (fun u uh un um=>by
  rw [← uh,← un] at hR
  rw [← un]
  rw [enter28]
  obtain ⟨y,hy⟩:∃ y:St,y=u.new (.cells [] 0):=⟨_,rfl⟩
  have yn:y.n=u.n+1:=by rw [hy];rfl
  have ym:y.m=far:=by rw [hy];exact um
  have yg:∀ c,c<u.n→y.h.get c=u.h.get c:=fun c hc=>by rw [hy,get_new_ne _ _ _ (by omega)]
  have y0:y.h.get u.n=some (.cells [] 0):=by rw [hy];exact get_new_eq _ _ _ rfl (by omega)
  simp (disch:=first|omega|(with_unfolding_all exact rfl)|(simp only[new_n,put_n,new_m];omega)|(refine put_m_le ?_;simp only[new_m];omega)) only [res28,K28r0,K28r1,K28,Abs.W,reduceIte,Nat.reduceEqDiff,Nat.reduceAdd,decide_true,decide_false,kLoop_def,Nat.reduceSub,List.cons_append,List.nil_append,List.append_nil,List.length_cons,List.length_nil,Env.find_set]
  obtain ⟨w,s',e1,hS,hI,n1,n2,hg,m1,m2,hpl,hnil⟩:=app_all (tg:=tag 3) (bytes:=8) (hR.grow yg (by omega:u.n≤y.n)) y0 (by omega) (intRows_scal l) (by unfold intRows;rw [List.length_map];omega) (by kernel_rfl) (by omega)
  rw [hy] at e1
  simp (disch:=first|omega|(with_unfolding_all exact rfl)|(simp only[new_n,put_n,new_m];omega)|(refine put_m_le ?_;simp only[new_m];omega)) only [res28,K28r0,K28r1,K28,Abs.W,reduceIte,Nat.reduceEqDiff,Nat.reduceAdd,decide_true,decide_false,kLoop_def,Nat.reduceSub,List.cons_append,List.nil_append,List.append_nil,List.length_cons,List.length_nil,Env.find_set,e1]
  have hne:l≠[]→intRows l≠[]:=fun h e=>h (List.map_eq_nil_iff.mp e)
  refine ⟨_,_,rfl,⟨fun c hc=>(hg c (by omega)).trans (yg c hc),by omega,by omega,by omega,by omega⟩,hpl,hS.move (fun b _ h=>⟨rfl,by omega⟩) (Nat.le_refl _),fun h=>?_,fun h=>?_⟩
  ·have:=hI (hne h)
   rwa [yn] at this
  ·subst h
   exact ⟨0,hnil rfl,(hg u.n (by omega)).trans y0⟩)
 exact ⟨w,t,hr.symm.trans e,st,hq⟩
end Go.Proofs.Ytbcjojljiochfaa.walk
set_option maxRecDepth 10000
namespace Go.Proofs.Ytbcjojljiochfaa.walk
open Go.Abs Go.Proofs.Ytbcjojljiochfaa.code
theorem once_ex {N d:Nat} {n:Int} {s:St} {r:ARes} (hr:call Try.prog X N (.fn 27) [.ptr d 0,.int .i64 n] s=r) (hN:3≤N) (hd:Die d s.h) (hlt:d<s.n) (hs:s.n+200≤far) (hn:n≤4000000000) :
  ∃ b t,r=.val (.bool b) t∧Stir d s t 0∧Die d t.h:=by
 obtain ⟨m,rfl⟩:∃ m,N=m+1:=⟨N - 1,by omega⟩
 have hf:far=1000000000:=rfl
 obtain ⟨v,t,e,st,⟨x,rfl⟩,hd'⟩:=call_stir_plain (n:=m) (args:=[.ptr d 0,.int .i64 n]) (d:=d) (k:=0) (Q:=fun v=>∃ b,v=.bool b) (R:=Die d) Try.func27 hd (fun u uh un um=>by
  rw [← uh] at hd
  rw [enter27]
  simp (disch:=first|omega|(with_unfolding_all exact rfl)|(simp only[new_n,put_n,new_m];omega)|(refine put_m_le ?_;simp only[new_m];omega)) only [res27,K27r0,K27r1,K27,Abs.W,reduceIte,Nat.reduceEqDiff,Nat.reduceAdd,decide_true,decide_false,kLoop_def,Nat.reduceSub,List.cons_append,List.nil_append,List.append_nil,List.length_cons,List.length_nil]
  generalize hc:call _ _ _ (.fn 15) _ _=r1
  obtain ⟨y,w,rfl,sw,dw,y0,y1⟩:=cast_ex hc (by omega) hd (by omega) (by omega) hn
  simp (disch:=first|omega|(with_unfolding_all exact rfl)|(simp only[new_n,put_n,new_m];omega)|(refine put_m_le ?_;simp only[new_m];omega)) only [res27,K27r0,K27r1,K27,Abs.W,reduceIte,Nat.reduceEqDiff,Nat.reduceAdd,decide_true,decide_false,kLoop_def,Nat.reduceSub,List.cons_append,List.nil_append,List.append_nil,List.length_cons,List.length_nil]
  exact ⟨_,_,rfl,sw,rfl,⟨_,rfl⟩,dw⟩) (by omega)
 exact ⟨x,t,hr.symm.trans e,st,hd'⟩
end Go.Proofs.Ytbcjojljiochfaa.walk
set_option maxRecDepth 10000
namespace Go.Proofs.Ytbcjojljiochfaa.walk
open Go.Abs Go.Proofs.Ytbcjojljiochfaa.code
structure LetJ (u t:St) (d p7:Nat) (l:List StallR) (many:Nat) (vS:AV) (bS kk:Nat):Prop where
 die:Die d t.h
 g7:t.h.get p7=some (.cells [vS,.nilslice] (tag 28))
 is:IsAt t.h t.n bS 3 (tag 53) (l.map StallR.cells) vS
 lo:p7<bS
 same:∀ c,c<p7→c≠d→t.h.get c=u.h.get c
 n:p7<t.n
 le:t.n≤u.n+kk
 m:d≤u.m→d≤t.m
 mle:t.m≤u.m
 dp:d<p7
 ok:∀ s ∈ l,s.Ok many
theorem LetJ.stir {u t z:St} {d p7 many bS kk k:Nat} {l:List StallR} {vS:AV} (J:LetJ u t d p7 l many vS bS kk) (S:Stir d t z k) (D:Die d z.h):LetJ u z d p7 l many vS bS (kk+k):=by
 obtain ⟨jd,j7,ji,jlo,js,jn,jle,jm,jml,jdp,jok⟩:=J
 have:=S.n
 have:=S.le
 exact ⟨D,(S.same p7 jn (by omega)).trans j7,ji.mono (fun h=>S.same bS h (by omega)) (by omega),jlo,fun c hc hcd=>(S.same c (by omega) hcd).trans (js c hc hcd),by omega,by omega,fun h=>S.m (jm h),Nat.le_trans S.mle jml,jdp,jok⟩
theorem let_push {cl:CallF} {L:Env} {u z:St} {r:ORes} {d p7 many bS kk p:Nat} {l:List StallR} {vS:AV} {S:StallR} (hr:K12r8 cl L z=r) (J:LetJ u z d p7 l many vS bS kk) (hS:S.Ok many) (hp:z.h.get p=some (.cells S.cells (tag 53))) (hl:l.length≤7) (hs:u.n+kk+100≤far)
  (q7:L.find 7=.ptr p7 0) (q10:L.find 10=.ptr p 0):∃ M z1 v1 b1,r=.ok M z1∧LetJ u z1 d p7 (l++[S]) many v1 b1 (kk+2):=by
 subst hr
 have hf:far=1000000000:=rfl
 obtain ⟨jd,j7,ji,jlo,js,jn,jle,jm,jml,jdp,jok⟩:=J
 have kv:∀ t,okA (.val vS t)=.val vS t:=ji.okA
 obtain ⟨y,hy⟩:∃ y:St,y=z.new (.cells S.cells 0):=⟨_,rfl⟩
 have yn:y.n=z.n+1:=by rw [hy];rfl
 have ym:y.m=z.m:=by rw [hy];rfl
 have yg:∀ c,c<z.n→y.h.get c=z.h.get c:=fun c hc=>by rw [hy,get_new_ne _ _ _ (by omega)]
 have yp:y.h.get z.n=some (.cells S.cells 0):=by rw [hy];exact get_new_eq _ _ _ rfl (by omega)
 obtain ⟨s7,e7,l7,s7n,s7g,s7m,s7l⟩:=append_at (bytes:=24) (ji.mono (h':=y.h) (n':=y.n) (fun h=>yg bS h) (by omega)) yp rfl rfl (by rw [List.length_map];omega) (by kernel_rfl) (by omega)
 have hlen:(l.map StallR.cells).length=l.length:=List.length_map ..
 rw [hlen] at e7 l7
 obtain ⟨v7,hv7⟩:∃ v7,v7=AV.slice y.n 0 (l.length+1) (l.length+1) true:=⟨_,rfl⟩
 rw [← hv7] at e7 l7
 have sc7:scalars [v7]=true:=by rw [hv7];rfl
 have cc7:cellsOf 1 v7=some [v7]:=by rw [hv7];rfl
 have s9:=(s7g p7 (by omega) (by omega)).trans ((yg p7 (by omega)).trans j7)
 unfold StallR.cells at hp hy
 simp (disch:=first|omega|(with_unfolding_all exact rfl)|(simp only[new_n,put_n,new_m];omega)|(refine put_m_le ?_;simp only[new_m];omega)) only [K12r8,Abs.W,reduceIte,Nat.reduceEqDiff,Nat.reduceAdd,decide_true,decide_false,kLoop_def,Nat.reduceSub,List.cons_append,List.nil_append,List.append_nil,List.length_cons,List.length_nil,Env.find_set,q7,q10,j7,hp,kv,Nat.zero_add]
 rw [← hy]
 simp (disch:=first|omega|(with_unfolding_all exact rfl)|(simp only[new_n,put_n,new_m];omega)|(refine put_m_le ?_;simp only[new_m];omega)) only [Abs.W,reduceIte,Nat.reduceEqDiff,Nat.reduceAdd,decide_true,decide_false,kLoop_def,Nat.reduceSub,List.cons_append,List.nil_append,List.append_nil,List.length_cons,List.length_nil,Env.find_set,e7,q7,s9,sc7,cc7,Nat.zero_add]
 have hcells:(l.map StallR.cells)++[S.cells]=(l++[S]).map StallR.cells:=by rw [List.map_append];rfl
 refine ⟨_,_,v7,y.n,rfl,⟨jd.keep ?_,get_put_eq _ _ _ _ rfl (by omega),?_,by omega,fun c hc hcd=>?_,by simp only [put_n];omega,by simp only [put_n];omega,fun hm=>?_,?_,jdp,fun x hx=>?_⟩⟩
 ·rw [get_put_ne' _ _ _ _ (by omega),s7g d (by omega) (by omega),yg d (by omega)]
 ·rw [← hcells]
  exact l7.mono (fun _=>get_put_ne' _ _ _ _ (by omega)) (by simp only [put_n];omega)
 ·rw [get_put_ne' _ _ _ _ (by omega),s7g c (by omega) (by omega),yg c (by omega)]
  exact js c hc hcd
 ·have:=jm hm
  have:=s7m d (by omega) (by omega) (by omega)
  simp only [St.put,minN_eq];omega
 ·simp only [St.put,minN_eq];omega
 ·rcases List.mem_append.mp hx with hx | hx
  ·exact jok x hx
  ·rw [List.mem_singleton.mp hx];exact hS
theorem let_round (N:Nat) (hN:5≤N) (cx:Ctx) {d p7 many bS kk i:Nat} {l:List StallR} {vS:AV} {u t:St} {L:Env} (J:LetJ u t d p7 l many vS bS kk) (hl:l.length≤7) (hs:u.n+kk+2000≤far) (hum:u.m≤far) (hi:i≤1000) (hmany:many≤1000)
  (q0:L.find 0=.ptr d 0) (q7:L.find 7=.ptr p7 0) (q8:L.find 8=.int .i64 many) (q9:L.find 9=.int .i64 (i+1:Nat)) :
  ∃ L1 t1 S v1 b1,K12l0 (call Try.prog X N) cx L [] t=.done .norm L1 [] t1∧LetJ u t1 d p7 (l++[S]) many v1 b1 (kk+10)∧L1.find 9=.int .i64 (i:Nat)∧∀ c,c<9→L1.find c=L.find c:=by
 have hf:far=1000000000:=rfl
 have jn:=J.n
 have jle:=J.le
 have jdp:=J.dp
 have e0:decide ((0:Int)<((i+1:Nat):Int))=true:=decide_eq_true (by omega)
 have sb:∀ s,aSub s .i64 ((i+1:Nat):Int) 1=.val (.int .i64 (i:Int)) s:=fun s=>by rw [aSub_i64 s _ _ (by omega)];congr 2;omega
 have sm:∀ s,aSub s .i64 (many:Int) 1=.val (.int .i64 ((many:Int) - 1)) s:=fun s=>aSub_i64 s _ _ (by omega)
 simp (disch:=first|omega|(with_unfolding_all exact rfl)|(simp only[new_n,put_n,new_m];omega)|(refine put_m_le ?_;simp only[new_m];omega)) only [K12r4,K12r5,K12l0,Abs.W,reduceIte,Nat.reduceEqDiff,Nat.reduceAdd,decide_true,decide_false,kLoop_def,Nat.reduceSub,List.cons_append,List.nil_append,List.append_nil,List.length_cons,List.length_nil,Env.find_set,Nat.zero_add,q0,q9,e0]
 generalize hc1:call _ _ _ (.fn 26) _ _=r1
 obtain ⟨x1,t1,rfl,st1,d1,x10,x11⟩:=from_ex hc1 (by omega) J.die (by omega) (by omega) (by omega) (by omega) (by omega) (by omega)
 have n1:=st1.n
 have k1:=st1.le
 simp (disch:=first|omega|(with_unfolding_all exact rfl)|(simp only[new_n,put_n,new_m];omega)|(refine put_m_le ?_;simp only[new_m];omega)) only [Abs.W,reduceIte,Nat.reduceEqDiff,Nat.reduceAdd,decide_true,decide_false,kLoop_def,Nat.reduceSub,List.cons_append,List.nil_append,List.append_nil,List.length_cons,List.length_nil,Env.find_set,q0]
 generalize hc2:call _ _ _ (.fn 15) _ _=r2
 obtain ⟨x2,t2,rfl,st2,d2,x20,x21⟩:=cast_ex hc2 (by omega) d1 (by omega) (by omega) (by omega)
 have n2:=st2.n
 have k2:=st2.le
 simp (disch:=first|omega|(with_unfolding_all exact rfl)|(simp only[new_n,put_n,new_m];omega)|(refine put_m_le ?_;simp only[new_m];omega)) only [Abs.W,reduceIte,Nat.reduceEqDiff,Nat.reduceAdd,decide_true,decide_false,kLoop_def,Nat.reduceSub,List.cons_append,List.nil_append,List.append_nil,List.length_cons,List.length_nil,Env.find_set,q0]
 generalize hc3:call _ _ _ (.fn 15) _ _=r3
 obtain ⟨x3,t3,rfl,st3,d3,x30,x31⟩:=cast_ex hc3 (by omega) d2 (by omega) (by omega) (by omega)
 have n3:=st3.n
 have k3:=st3.le
 simp (disch:=first|omega|(with_unfolding_all exact rfl)|(simp only[new_n,put_n,new_m];omega)|(refine put_m_le ?_;simp only[new_m];omega)) only [Abs.W,reduceIte,Nat.reduceEqDiff,Nat.reduceAdd,decide_true,decide_false,kLoop_def,Nat.reduceSub,List.cons_append,List.nil_append,List.append_nil,List.length_cons,List.length_nil,Env.find_set,q0]
 generalize hc4:call _ _ _ (.fn 33) _ _=r4
 obtain ⟨x4,t4,rfl,st4,d4,hx4⟩:=one_ex [0,x2,x3] (b:=t3.n) (sz:=0) hc4 (by omega) (d3.keep (get_new_ne _ _ _ (by omega))) (by simp only [new_n];omega) (by simp only [new_n];omega) (get_new_eq _ _ _ rfl (by omega)) (by simp only [new_n];omega) (by omega) rfl (by omega) (by omega)
 have n4:=st4.n
 have k4:=st4.le
 simp only [new_n] at n4 k4
 have hx4':0≤x4∧x4≤1000:=by simp at hx4;omega
 simp (disch:=first|omega|(with_unfolding_all exact rfl)|(simp only[new_n,put_n,new_m];omega)|(refine put_m_le ?_;simp only[new_m];omega)) only [K12r6,Abs.W,reduceIte,Nat.reduceEqDiff,Nat.reduceAdd,decide_true,decide_false,kLoop_def,Nat.reduceSub,List.cons_append,List.nil_append,List.append_nil,List.length_cons,List.length_nil,Env.find_set,q0,Nat.zero_add]
 have S4:Stir d t t4 1:=(((st1.trans st2).trans st3).new _).trans st4
 obtain ⟨y,hy⟩:∃ y:St,y=(t4.new (.cells [.int .i64 0,.int .i64 0,.int .i64 0] (tag 53))).put t4.n (.cells [.int .i64 x1,.int .i64 x4,.int .i64 (-1)] (tag 53)):=⟨_,rfl⟩
 have Sy:Stir d t y 2:=by rw [hy];exact (S4.new _).put (by omega) _ (.inr (by omega))
 have yn:y.n=t4.n+1:=by rw [hy];rfl
 have yp:y.h.get t4.n=some (.cells [.int .i64 x1,.int .i64 x4,.int .i64 (-1)] (tag 53)):=by rw [hy];exact get_put_eq _ _ _ _ rfl (by omega)
 have dy:Die d y.h:=d4.keep (by rw [hy,get_put_ne' _ _ _ _ (by omega),get_new_ne _ _ _ (by omega)])
 rw [← hy]
 generalize hc5:call _ _ _ (.fn 27) _ _=r5
 obtain ⟨bb,t5,rfl,st5,d5⟩:=once_ex hc5 (by omega) dy (by omega) (by omega) (by omega)
 have n5:=st5.n
 have k5:=st5.le
 have S5:=Sy.trans st5
 have p5:=(st5.same t4.n (by omega) (by omega)).trans yp
 cases bb with
 | false =>
  simp (disch:=first|omega|(with_unfolding_all exact rfl)|(simp only[new_n,put_n,new_m];omega)|(refine put_m_le ?_;simp only[new_m];omega)) only [Abs.W,reduceIte,Nat.reduceEqDiff,Nat.reduceAdd,decide_true,decide_false,kLoop_def,Nat.reduceSub,List.cons_append,List.nil_append,List.append_nil,List.length_cons,List.length_nil,Env.find_set,Nat.zero_add]
  generalize hq:K12r8 _ _ _=q8
  obtain ⟨M,z1,v1,b1,rfl,J1⟩:=let_push (S:=⟨x1,x4, -1⟩) hq (J.stir S5 d5) ⟨by simp only;omega,by simp only;omega,by simp only;omega,by simp only;omega,by simp only;omega,by simp only;omega⟩ p5 hl (by omega) (by simp only [Env.find_set,q7,reduceIte,Nat.reduceEqDiff]) (by simp only [Env.find_set,reduceIte,Nat.reduceEqDiff])
  simp (disch:=first|omega|(with_unfolding_all exact rfl)|(simp only[new_n,put_n,new_m];omega)|(refine put_m_le ?_;simp only[new_m];omega)) only [K12r9,Abs.W,reduceIte,Nat.reduceEqDiff,Nat.reduceAdd,decide_true,decide_false,kLoop_def,Nat.reduceSub,List.cons_append,List.nil_append,List.append_nil,List.length_cons,List.length_nil,Env.find_set,q9,sb]
  obtain ⟨a1,a2,a3,a4,a5,a6,a7,a8,a9,a10,a11⟩:=J1
  refine ⟨_,z1,_,v1,b1,rfl,⟨a1,a2,a3,a4,a5,a6,by omega,a8,a9,a10,a11⟩,by simp only [Env.find_set,reduceIte,Nat.reduceEqDiff],fun c hc=>?_⟩
  simp only [Env.find_set]
  repeat rw [if_neg (by omega)]
 | true =>
  simp (disch:=first|omega|(with_unfolding_all exact rfl)|(simp only[new_n,put_n,new_m];omega)|(refine put_m_le ?_;simp only[new_m];omega)) only [K12r7,Abs.W,reduceIte,Nat.reduceEqDiff,Nat.reduceAdd,decide_true,decide_false,kLoop_def,Nat.reduceSub,List.cons_append,List.nil_append,List.append_nil,List.length_cons,List.length_nil,Env.find_set,q0,q8,sm,Nat.zero_add]
  generalize hc6:call _ _ _ (.fn 26) _ _=r6
  obtain ⟨x6,t6,rfl,st6,d6,x60,x61⟩:=from_ex hc6 (by omega) d5 (by omega) (by omega) (by omega) (by omega) (by omega) (by omega)
  have n6:=st6.n
  have k6:=st6.le
  have p6:=(st6.same t4.n (by omega) (by omega)).trans p5
  simp (disch:=first|omega|(with_unfolding_all exact rfl)|(simp only[new_n,put_n,new_m];omega)|(refine put_m_le ?_;simp only[new_m];omega)) only [Abs.W,reduceIte,Nat.reduceEqDiff,Nat.reduceAdd,decide_true,decide_false,kLoop_def,Nat.reduceSub,List.cons_append,List.nil_append,List.append_nil,List.length_cons,List.length_nil,Env.find_set,p6,Nat.zero_add]
  obtain ⟨z,hz⟩:∃ z:St,z=t6.put t4.n (.cells [.int .i64 x1,.int .i64 x4,.int .i64 x6] (tag 53)):=⟨_,rfl⟩
  have Sz:Stir d t z 2:=by rw [hz];exact ((S5.trans st6).mono (by omega)).put (by omega) _ (.inr (by omega))
  have zp:z.h.get t4.n=some (.cells [.int .i64 x1,.int .i64 x4,.int .i64 x6] (tag 53)):=by rw [hz];exact get_put_eq _ _ _ _ rfl (by omega)
  have dz:Die d z.h:=d6.keep (by rw [hz,get_put_ne' _ _ _ _ (by omega)])
  rw [← hz]
  generalize hq:K12r8 _ _ _=q8
  obtain ⟨M,z1,v1,b1,rfl,J1⟩:=let_push (S:=⟨x1,x4,x6⟩) hq (J.stir Sz dz) ⟨by simp only;omega,by simp only;omega,by simp only;omega,by simp only;omega,by simp only;omega,by simp only;omega⟩ zp hl (by omega) (by simp only [Env.find_set,q7,reduceIte,Nat.reduceEqDiff]) (by simp only [Env.find_set,reduceIte,Nat.reduceEqDiff])
  simp (disch:=first|omega|(with_unfolding_all exact rfl)|(simp only[new_n,put_n,new_m];omega)|(refine put_m_le ?_;simp only[new_m];omega)) only [K12r9,Abs.W,reduceIte,Nat.reduceEqDiff,Nat.reduceAdd,decide_true,decide_false,kLoop_def,Nat.reduceSub,List.cons_append,List.nil_append,List.append_nil,List.length_cons,List.length_nil,Env.find_set,q9,sb]
  obtain ⟨a1,a2,a3,a4,a5,a6,a7,a8,a9,a10,a11⟩:=J1
  refine ⟨_,z1,_,v1,b1,rfl,⟨a1,a2,a3,a4,a5,a6,by omega,a8,a9,a10,a11⟩,by simp only [Env.find_set,reduceIte,Nat.reduceEqDiff],fun c hc=>?_⟩
  simp only [Env.find_set]
  repeat rw [if_neg (by omega)]
theorem let_loop (N:Nat) (hN:5≤N) {cx:Ctx} {d p7 many bS kk i:Nat} {vS:AV} {u w:St} {L:Env} {r:R} (hr:loopN K12l0 rounds (call Try.prog X N) cx L [] w=r) (J:LetJ u w d p7 [] many vS bS kk) (hi:i≤8) (hs:u.n+kk+3000≤far) (hum:u.m≤far) (hmany:many≤1000)
  (q0:L.find 0=.ptr d 0) (q7:L.find 7=.ptr p7 0) (q8:L.find 8=.int .i64 many) (q9:L.find 9=.int .i64 (i:Int)) :
  ∃ L1 t1 l1 v1 b1,r=.done (.exit 0) L1 [] t1∧LetJ u t1 d p7 l1 many v1 b1 (kk+80)∧l1.length=i∧∀ c,c<9→L1.find c=L.find c:=by
 have hf:far=1000000000:=rfl
 obtain ⟨e,L1,t1,rfl,rfl,l1,v1,b1,h1,h3,h5⟩:=loop_of hr (fun j L' t'=>∃ l1 v1 b1,LetJ u t' d p7 l1 many v1 b1 (kk+10 * j)∧l1.length=j∧L'.find 9=.int .i64 ((i - j:Nat):Int)∧∀ c,c<9→L'.find c=L.find c)
  (fun e L' t'=>e=.exit 0∧∃ l1 v1 b1,LetJ u t' d p7 l1 many v1 b1 (kk+80)∧l1.length=i∧∀ c,c<9→L'.find c=L.find c) i (by unfold rounds;omega)
  ⟨[],vS,bS,J,rfl,q9,fun _ _=>rfl⟩
  (fun j L' t' hj ⟨l1,v1,b1,hJ,hb3,p9,g⟩=>by
   by_cases hlt:j<i
   ·obtain ⟨L2,t2,S,v2,b2,z1,z2,z6,z7⟩:=let_round N hN cx (i:=i - j - 1) hJ (by omega) (by omega) hum (by omega) hmany ((g 0 (by omega)).trans q0) ((g 7 (by omega)).trans q7) ((g 8 (by omega)).trans q8) (by rw [p9,show i - j - 1+1=i - j by omega])
    exact .inl ⟨hlt,L2,t2,z1,l1++[S],v2,b2,z2,by simp [hb3],z6.trans (by rw [show i - j - 1=i - (j+1) by omega]),fun c hc=>(z7 c hc).trans (g c hc)⟩
   ·obtain rfl:j=i:=by omega
    have e0:decide ((0:Int)<((0:Nat):Int))=false:=rfl
    rw [Nat.sub_self] at p9
    refine .inr ⟨.exit 0,L'.set 22 (.bool false),t',by simp,?_,rfl,l1,v1,b1,?_,hb3,fun c hc=>?_⟩
    ·simp (disch:=first|omega|(with_unfolding_all exact rfl)|(simp only[new_n,put_n,new_m];omega)|(refine put_m_le ?_;simp only[new_m];omega)) only [K12r4,K12l0,Abs.W,reduceIte,Nat.reduceEqDiff,Nat.reduceAdd,decide_true,decide_false,kLoop_def,Nat.reduceSub,List.cons_append,List.nil_append,List.append_nil,List.length_cons,List.length_nil,Env.find_set,p9,e0]
    ·obtain ⟨a1,a2,a3,a4,a5,a6,a7,a8,a9,a10,a11⟩:=hJ
     exact ⟨a1,a2,a3,a4,a5,a6,by omega,a8,a9,a10,a11⟩
    ·simp only [Env.find_set]
     rw [if_neg (by omega)]
     exact g c hc)
 exact ⟨L1,t1,l1,v1,b1,rfl,h1,h3,h5⟩
end Go.Proofs.Ytbcjojljiochfaa.walk
set_option maxRecDepth 10000
namespace Go.Proofs.Ytbcjojljiochfaa.walk
open Go.Abs Go.Proofs.Ytbcjojljiochfaa.code
theorem perm_mem {m:Nat} {f:List Nat} (hl:f.length=m) (p:Perm m f):∀ j,j<m→j ∈ f:=fun j hj=>by
 obtain ⟨q,h1,h2⟩:=p.all j hj
 rw [← h2]
 simp [List.getD,show q<f.length by omega]
theorem perm_lt {m:Nat} {f:List Nat} (hl:f.length=m) (p:Perm m f):∀ x ∈ f,x<m:=fun x hx=>by
 obtain ⟨q,h1,rfl⟩:=List.getElem_of_mem hx
 have:=p.lt q (by omega)
 simpa [List.getD,h1] using this
theorem perm_ofRange:∀ (n:Nat) (f:List Nat),f.length=n→(∀ j,j<n→j ∈ f)→List.Perm f (List.range n)
 | 0,f,h,_=>by
  have:f=[]:=List.length_eq_zero_iff.mp h
  subst this
  exact List.Perm.nil
 | n+1,f,h,ha=>by
  have hn:=ha n (Nat.lt_succ_self n)
  have h1:=List.perm_cons_erase hn
  have h2:=perm_ofRange n (f.erase n) (by rw [List.length_erase_of_mem hn];omega) (fun j hj=>(List.mem_erase_of_ne (by omega)).mpr (ha j (by omega)))
  rw [List.range_succ]
  exact h1.trans ((List.Perm.cons n h2).trans (List.perm_append_comm (l₁:=[n]) (l₂:=List.range n)))
theorem perm_nodup {m:Nat} {f:List Nat} (hl:f.length=m) (p:Perm m f):f.Nodup:=(perm_ofRange m f hl (perm_mem hl p)).nodup_iff.mpr List.nodup_range
theorem ofNat_nodup {f:List Nat} (h:f.Nodup):(f.map Int.ofNat).Nodup:=by
 unfold List.Nodup at *
 rw [List.pairwise_map]
 exact h.imp fun hab e=>hab (Int.ofNat.inj e)
structure BidJ (z0 t:St) (d p12:Nat) (a1 a2 wv:AV) (bs:List Int) (bv:AV) (bB kk:Nat):Prop where
 die:Die d t.h
 g12:t.h.get p12=some (.cells [a1,a2,wv,bv] (tag 37))
 is:IsAt t.h t.n bB 1 (tag 3) (intRows bs) bv
 lo:z0.n≤bB
 same:∀ c,c<z0.n→c≠d→c≠p12→t.h.get c=z0.h.get c
 n:z0.n≤t.n
 le:t.n≤z0.n+kk
 m:d≤z0.m→d≤t.m
 mle:t.m≤z0.m
 b:∀ x ∈ bs,0≤x∧x≤1000000
theorem bid_round (N:Nat) (hN:5≤N) (cx:Ctx) {d p7 p12 bB kk k:Nat} {a1 a2 wv bv vS vA:AV} {bs wl:List Int} {ss:List StallR} {z0 t:St} {L:Env} {noW noS:Nat→Prop} (J:BidJ z0 t d p12 a1 a2 wv bs bv bB kk)
  (g7:z0.h.get p7=some (.cells [vS,vA] (tag 28))) (hS:Sl noS z0.h z0.n 3 (ss.map StallR.cells) vS) (hW:Sl noW z0.h z0.n 1 (intRows wl) wv) (hnS:∀ b,noS b→b≠d∧b≠p12) (hnW:∀ b,noW b→b≠d∧b≠p12)
  (h7:p7<z0.n∧p7≠d∧p7≠p12) (h12:d<p12∧p12<z0.n) (hs1:scalars [a1,a2]=true) (hk:k<wl.length) (hwl:wl.length≤8) (hbl:bs.length=k) (hx:∀ x ∈ wl,0≤x∧x<ss.length) (hss:∀ s ∈ ss,0≤s.least∧s.least≤1000) (hs:z0.n+kk+2000≤far) (hum:z0.m≤far) (hdm:d≤z0.m)
  (q0:L.find 0=.ptr d 0) (q7:L.find 7=.ptr p7 0) (q12:L.find 12=.ptr p12 0) (q13:L.find 13=.int .i64 k) :
  ∃ L1 t1 x bv1 bB1,K12l1 (call Try.prog X N) cx L [] t=.done .norm L1 [] t1∧BidJ z0 t1 d p12 a1 a2 wv (bs++[x]) bv1 bB1 (kk+10)∧L1.find 13=.int .i64 (k+1:Nat)∧∀ c,c<13→L1.find c=L.find c:=by
 have hf:far=1000000000:=rfl
 obtain ⟨jd,j12,ji,jlo,js,jn,jle,jm,jml,jb⟩:=J
 have e0:decide ((k:Int)<(wl.length:Int))=true:=decide_eq_true (by omega)
 have ad:∀ s,aAdd s .i64 (k:Int) 1=.val (.int .i64 ((k:Int)+1)) s:=fun s=>aAdd_i64 s _ _ (by omega)
 have kb:∀ t,okA (.val bv t)=.val bv t:=ji.okA
 have kw:=hW.okA
 have lw:=rowLen hW.at_
 have kS:=hS.okA
 have j7:=(js p7 h7.1 h7.2.1 h7.2.2).trans g7
 have hWt:Sl noW t.h t.n 1 (intRows wl) wv:=hW.move (fun b h1 h2=>⟨js b h1 (hnW b h2).1 (hnW b h2).2,h2⟩) jn
 have hSt:Sl noS t.h t.n 3 (ss.map StallR.cells) vS:=hS.move (fun b h1 h2=>⟨js b h1 (hnS b h2).1 (hnS b h2).2,h2⟩) jn
 have noWb:∀ b,noW b→b≠d:=fun b h=>(hnW b h).1
 obtain ⟨b1,p1,c1,sz1,r1,r2,r3,r4⟩:=rowInt hWt.at_ hk
 obtain ⟨x0,x1⟩:=hx _ (List.getElem_mem hk)
 obtain ⟨w,hw⟩:∃ w:Nat,wl[k]=w:=⟨wl[k].toNat,by omega⟩
 rw [hw] at r4
 have hwS:w<ss.length:=by omega
 obtain ⟨b2,p2,c2,sz2,s1,s2,s3,s4⟩:=hSt.at_.at_ w (by rw [List.length_map];exact hwS)
 rw [List.getElem_map] at s4
 have s5:=cut_nth s4 (show 1<3 by omega)
 have s6:nth (ss[w].cells) 1=.int .i64 ss[w].least:=rfl
 rw [s6] at s5
 have nb1:b1≠d:=by
  rcases hWt.is with ⟨z,_⟩ | ⟨b,o,cap,e,c,sz,y1,y2,y3,y4,y5,y6⟩
  ·rw [List.map_eq_nil_iff.mp z] at hk;simp at hk
  ·have:=r2 none0
   rw [y4,ixs_slice _ _ _ _ _ _ _ _ (by rw [intRows_len];exact hk)] at this
   injection this with this
   injection this with h1 h2
   subst h1
   exact noWb _ y2
 have nb2:b2≠d:=by
  rcases hSt.is with ⟨z,_⟩ | ⟨b,o,cap,e,c,sz,y1,y2,y3,y4,y5,y6⟩
  ·rw [List.map_eq_nil_iff.mp z] at hwS;simp at hwS
  ·have:=s2 none0
   rw [y4,ixs_slice _ _ _ _ _ _ _ _ (by rw [List.length_map];exact hwS)] at this
   injection this with this
   injection this with h1 h2
   subst h1
   exact (hnS _ y2).1
 obtain ⟨lt0,lt1⟩:=hss _ (List.getElem_mem hwS)
 generalize ss[w].least=least at *
 simp (disch:=first|omega|(with_unfolding_all exact rfl)|(simp only[new_n,put_n,new_m];omega)|(refine put_m_le ?_;simp only[new_m];omega)) only [K12r17,K12r18,K12l1,thenT_turn,Abs.W,reduceIte,Nat.reduceEqDiff,Nat.reduceAdd,decide_true,decide_false,kLoop_def,Nat.reduceSub,List.cons_append,List.nil_append,List.append_nil,List.length_cons,List.length_nil,Env.find_set,Nat.zero_add,q0,q7,q12,q13,j12,j7,kb,kw,kS,lw,e0,r2,r3,r4,s2,s3,s5,Nat.add_comm 1]
 generalize hc1:call _ _ _ (.fn 15) _ _=r1
 obtain ⟨y1,t1,rfl,st1,d1,y10,y11⟩:=cast_ex hc1 (by omega) jd (by show d<t.n;omega) (by show t.n+100≤far;omega) (by omega)
 have n1:t.n≤t1.n:=st1.n
 have k1:t1.n≤t.n:=st1.le
 have g1:∀ c,c<t.n→c≠d→t1.h.get c=t.h.get c:=fun c hc hcd=>st1.same c hc hcd
 have m1:d≤t1.m:=st1.m (by show d≤far;omega)
 simp (disch:=first|omega|(with_unfolding_all exact rfl)|(simp only[new_n,put_n,new_m];omega)|(refine put_m_le ?_;simp only[new_m];omega)) only [thenT_turn,Abs.W,reduceIte,Nat.reduceEqDiff,Nat.reduceAdd,decide_true,decide_false,kLoop_def,Nat.reduceSub,List.cons_append,List.nil_append,List.append_nil,List.length_cons,List.length_nil,Env.find_set,Nat.zero_add]
 obtain ⟨z1,hz1⟩:∃ z1:St,z1=(⟨t1.h,t1.n,minN t.m t1.m⟩:St).new (.cells [.int .i64 0,.int .i64 1,.int .i64 (-1),.int .i64 y1] 0):=⟨_,rfl⟩
 rw [← hz1]
 have z1n:z1.n=t1.n+1:=by rw [hz1];rfl
 have z1m:z1.m=min t.m t1.m:=by rw [hz1];simp only [new_m,minN_eq]
 have z1g:∀ c,c<t1.n→z1.h.get c=t1.h.get c:=fun c hc=>by rw [hz1];exact get_new_ne _ _ _ (by show c≠t1.n;omega)
 have z1p:z1.h.get t1.n=some (.cells ([0,1, -1,y1].map fun x=>AV.int .i64 x) 0):=by rw [hz1];exact get_new_eq _ _ _ rfl (by show t1.n<_;omega)
 generalize hc2:call _ _ _ (.fn 33) _ _=r2
 obtain ⟨y2,t2,rfl,st2,d2,hy2⟩:=one_ex [0,1, -1,y1] (b:=t1.n) (sz:=0) hc2 (by omega) (d1.keep (z1g d (by omega))) (by show d<z1.n;omega) (by show z1.n+200≤far;omega) z1p (by show t1.n<z1.n;omega) (by omega) rfl (by omega) (by omega)
 have n2:z1.n≤t2.n:=st2.n
 have k2:t2.n≤z1.n:=st2.le
 have g2:∀ c,c<t.n→c≠d→t2.h.get c=t.h.get c:=fun c hc hcd=>(st2.same c (by show c<z1.n;omega) hcd).trans ((z1g c (by omega)).trans (g1 c hc hcd))
 have m2:d≤t2.m:=st2.m (by show d≤far;omega)
 have hy2' : -1≤y2∧y2≤7:=by simp at hy2;omega
 have adl:∀ s,aAdd s .i64 least y2=.val (.int .i64 (least+y2)) s:=fun s=>aAdd_i64 s _ _ (by omega)
 obtain ⟨x,hx⟩:∃ x,x=max 0 (least+y2):=⟨_,rfl⟩
 simp (disch:=first|omega|(with_unfolding_all exact rfl)|(simp only[new_n,put_n,new_m];omega)|(refine put_m_le ?_;simp only[new_m];omega)) only [thenT_turn,Abs.W,reduceIte,Nat.reduceEqDiff,Nat.reduceAdd,decide_true,decide_false,kLoop_def,Nat.reduceSub,List.cons_append,List.nil_append,List.append_nil,List.length_cons,List.length_nil,Env.find_set,Nat.zero_add,adl,kFold_def,foldA_nil,foldA_cons,maxA_i64]
 rw [← hx]
 obtain ⟨y8,hy8⟩:∃ y8:St,y8=⟨t2.h,t2.n,minN z1.m t2.m⟩:=⟨_,rfl⟩
 rw [← hy8]
 have y8n:y8.n=t2.n:=by rw [hy8]
 have y8h:y8.h=t2.h:=by rw [hy8]
 have y8m:y8.m=min (min t.m t1.m) t2.m:=by rw [hy8];simp only [minN_eq];rw [z1m]
 obtain ⟨y,hy⟩:∃ y:St,y=y8.new (.cells [.int .i64 x] 0):=⟨_,rfl⟩
 have yn:y.n=t2.n+1:=by rw [hy];show y8.n+1=_;rw [y8n]
 have ym:y.m=y8.m:=by rw [hy];rfl
 have yg:∀ c,c<t2.n→y.h.get c=t2.h.get c:=fun c hc=>by rw [hy,get_new_ne _ _ _ (by omega),y8h]
 have yp:y.h.get t2.n=some (.cells [.int .i64 x] 0):=by rw [hy,← y8n];exact get_new_eq _ _ _ rfl (by omega)
 have gy:∀ c,c<t.n→c≠d→y.h.get c=t.h.get c:=fun c hc hcd=>(yg c (by omega)).trans (g2 c hc hcd)
 obtain ⟨s7,e7,l7,s7n,s7g,s7m,s7l⟩:=append_at (bytes:=8) (ji.mono (h':=y.h) (n':=y.n) (fun h=>gy bB h (by omega)) (by omega)) yp rfl rfl (by rw [intRows_len];omega) (by kernel_rfl) (by omega)
 rw [intRows_len] at e7 l7
 rw [← intRows_snoc] at l7
 obtain ⟨v7,hv7⟩:∃ v7,v7=AV.slice y.n 0 (bs.length+1) (bs.length+1) true:=⟨_,rfl⟩
 rw [← hv7] at e7 l7
 rw [hy] at e7
 have sc7:scalars [v7]=true:=by rw [hv7];rfl
 have cc7:cellsOf 1 v7=some [v7]:=by rw [hv7];rfl
 have s9:=(s7g p12 (by omega) (by omega)).trans ((gy p12 (by omega) (by omega)).trans j12)
 simp (disch:=first|omega|(with_unfolding_all exact rfl)|(simp only[new_n,put_n,new_m];omega)|(refine put_m_le ?_;simp only[new_m];omega)) only [Abs.W,reduceIte,Nat.reduceEqDiff,Nat.reduceAdd,decide_true,decide_false,kLoop_def,Nat.reduceSub,List.cons_append,List.nil_append,List.append_nil,List.length_cons,List.length_nil,Env.find_set,e7,q12,s9,sc7,cc7,Nat.zero_add]
 have a12:=(g1 p12 (by omega) (by omega)).trans j12
 have a7:=(g1 p7 (by omega) (by omega)).trans j7
 have ab1:=(g1 b1 (by omega) nb1).trans r3
 have ab2:=(g1 b2 (by omega) nb2).trans s3
 have b12:=(g2 p12 (by omega) (by omega)).trans j12
 have b7:=(g2 p7 (by omega) (by omega)).trans j7
 have bb1:=(g2 b1 (by omega) nb1).trans r3
 have bb2:=(g2 b2 (by omega) nb2).trans s3
 have c12:=(z1g p12 (by omega)).trans a12
 have c7:=(z1g p7 (by omega)).trans a7
 have cb1:=(z1g b1 (by omega)).trans ab1
 have cb2:=(z1g b2 (by omega)).trans ab2
 rw [endT_kept (l:=[88,90,92,95,98]) (s':=t2) (by simp only [keptAll_cons,keptAll_nil,find_cons,Env.find_set,keptV_ptr,c12,c7,cb1,cb2,b12,b7,bb1,bb2,sameO_cells,reduceIte,Nat.reduceEqDiff,Bool.and_self])]
 rw [endT_kept (l:=[88,90,92,95,98]) (s':=t1) (by simp only [keptAll_cons,keptAll_nil,find_cons,Env.find_set,keptV_ptr,j12,j7,r3,s3,a12,a7,ab1,ab2,sameO_cells,reduceIte,Nat.reduceEqDiff,Bool.and_self])]
 rw [endO_ok _ (endOk_nil _)]
 simp (disch:=first|omega|(with_unfolding_all exact rfl)|(simp only[new_n,put_n,new_m];omega)|(refine put_m_le ?_;simp only[new_m];omega)) only [K12r19,Abs.W,reduceIte,Nat.reduceEqDiff,Nat.reduceAdd,decide_true,decide_false,kLoop_def,Nat.reduceSub,List.cons_append,List.nil_append,List.append_nil,List.length_cons,List.length_nil,Env.find_set,q13,ad,Nat.zero_add]
 refine ⟨_,_,x,v7,y.n,rfl,⟨d2.keep ?_,get_put_eq _ _ _ _ rfl (by omega),?_,by omega,fun c h1 h2 h3=>?_,by simp only [put_n];omega,by simp only [put_n];omega,fun hm=>?_,?_,fun x' hx'=>?_⟩,by simp only [Env.find_set,reduceIte,Nat.reduceEqDiff];rfl,fun c hc=>?_⟩
 ·rw [get_put_ne' _ _ _ _ (by omega),s7g d (by omega) (by omega),yg d (by omega)]
 ·exact l7.mono (fun _=>get_put_ne' _ _ _ _ (by omega)) (by simp only [put_n];omega)
 ·rw [get_put_ne' _ _ _ _ (by omega),s7g c (by omega) (by omega),gy c (by omega) h2]
  exact js c h1 h2 h3
 ·have:=jm hm
  have:=s7m d (by omega) (by omega) (by omega)
  simp only [St.put,minN_eq];omega
 ·simp only [St.put,minN_eq];omega
 ·rcases List.mem_append.mp hx' with h | h
  ·exact jb x' h
  ·rw [List.mem_singleton.mp h];omega
 ·simp only [Env.find_set]
  repeat rw [if_neg (by omega)]
end Go.Proofs.Ytbcjojljiochfaa.walk
set_option maxRecDepth 10000
namespace Go.Proofs.Ytbcjojljiochfaa.walk
open Go.Abs Go.Proofs.Ytbcjojljiochfaa.code
theorem bid_loop (N:Nat) (hN:5≤N) {cx:Ctx} {d p7 p12:Nat} {a1 a2 wv vS vA:AV} {wl:List Int} {ss:List StallR} {z0:St} {L:Env} {noW noS:Nat→Prop} {r:R} (hr:loopN K12l1 rounds (call Try.prog X N) cx L [] z0=r) (D:Die d z0.h) (g12:z0.h.get p12=some (.cells [a1,a2,wv,.nilslice] (tag 37)))
  (g7:z0.h.get p7=some (.cells [vS,vA] (tag 28))) (hS:Sl noS z0.h z0.n 3 (ss.map StallR.cells) vS) (hW:Sl noW z0.h z0.n 1 (intRows wl) wv) (hnS:∀ b,noS b→b≠d∧b≠p12) (hnW:∀ b,noW b→b≠d∧b≠p12)
  (h7:p7<z0.n∧p7≠d∧p7≠p12) (h12:d<p12∧p12<z0.n) (hs1:scalars [a1,a2]=true) (hwl:wl.length≤8) (hx:∀ x ∈ wl,0≤x∧x<ss.length) (hss:∀ s ∈ ss,0≤s.least∧s.least≤1000) (hs:z0.n+3000≤far) (hum:z0.m≤far) (hdm:d≤z0.m)
  (q0:L.find 0=.ptr d 0) (q7:L.find 7=.ptr p7 0) (q12:L.find 12=.ptr p12 0) (q13:L.find 13=.int .i64 (0:Nat)) :
  ∃ L1 t1 bs bv bB,r=.done (.exit 4) L1 [] t1∧BidJ z0 t1 d p12 a1 a2 wv bs bv bB 80∧bs.length=wl.length∧∀ c,c<13→L1.find c=L.find c:=by
 have hf:far=1000000000:=rfl
 have kw:=hW.okA
 have lw:=rowLen hW.at_
 obtain ⟨e,L1,t1,rfl,rfl,bs,bv,bB,h1,h3,h5⟩:=loop_of hr (fun j L' t'=>∃ bs bv bB,BidJ z0 t' d p12 a1 a2 wv bs bv bB (10 * j)∧bs.length=j∧L'.find 13=.int .i64 (j:Nat)∧∀ c,c<13→L'.find c=L.find c)
  (fun e L' t'=>e=.exit 4∧∃ bs bv bB,BidJ z0 t' d p12 a1 a2 wv bs bv bB 80∧bs.length=wl.length∧∀ c,c<13→L'.find c=L.find c) wl.length (by unfold rounds;omega)
  ⟨[],.nilslice,z0.n,⟨D,g12,IsAt.nil _ _ _ _ _,Nat.le_refl _,fun _ _ _ _=>rfl,Nat.le_refl _,Nat.le_refl _,fun h=>h,Nat.le_refl _,fun _ h=>by cases h⟩,rfl,q13,fun _ _=>rfl⟩
  (fun j L' t' hj ⟨bs,bv,bB,hJ,hb3,p13,g⟩=>by
   by_cases hlt:j<wl.length
   ·obtain ⟨L2,t2,x,v2,b2,z1,z2,z6,z7⟩:=bid_round N hN cx (k:=j) hJ g7 hS hW hnS hnW h7 h12 hs1 hlt hwl hb3 hx hss (by omega) hum hdm ((g 0 (by omega)).trans q0) ((g 7 (by omega)).trans q7) ((g 12 (by omega)).trans q12) p13
    exact .inl ⟨hlt,L2,t2,z1,bs++[x],v2,b2,z2,by simp [hb3],z6,fun c hc=>(z7 c hc).trans (g c hc)⟩
   ·obtain rfl:j=wl.length:=by omega
    have e0:decide ((wl.length:Int)<(wl.length:Int))=false:=by simp
    have p12':=(g 12 (by omega)).trans q12
    obtain ⟨a1',a2',a3,a4,a5,a6,a7,a8,a9,a10⟩:=hJ
    refine .inr ⟨.exit 4,L'.set 85 (.bool false),t',by simp,?_,rfl,bs,bv,bB,⟨a1',a2',a3,a4,a5,a6,by omega,a8,a9,a10⟩,hb3,fun c hc=>?_⟩
    ·simp (disch:=first|omega|(with_unfolding_all exact rfl)|(simp only[new_n,put_n,new_m];omega)|(refine put_m_le ?_;simp only[new_m];omega)) only [K12r17,K12l1,Abs.W,reduceIte,Nat.reduceEqDiff,Nat.reduceAdd,decide_true,decide_false,kLoop_def,Nat.reduceSub,List.cons_append,List.nil_append,List.append_nil,List.length_cons,List.length_nil,Env.find_set,p12',p13,a2',kw,lw,e0,Nat.zero_add]
    ·simp only [Env.find_set]
     rw [if_neg (by omega)]
     exact g c hc)
 exact ⟨L1,t1,bs,bv,bB,rfl,h1,h3,h5⟩
structure LetOwn (h:Heap) (n lo bS bA:Nat) (l:Letting) (vS vA:AV):Prop where
 st:IsAt h n bS 3 (tag 53) (l.stalls.map StallR.cells) vS
 ap:∃ ws:List (AV × AV),ws.length=l.appls.length∧IsAt h n bA 4 (tag 37) (rowsOf l.appls ws) vA∧∀ i (h1:i<ws.length) (h2:i<l.appls.length),Sl (fun x=>lo≤x∧x≠bA) h n 1 (intRows l.appls[i].wishes) ws[i].1∧Sl (fun x=>lo≤x∧x≠bA) h n 1 (intRows l.appls[i].bids) ws[i].2
 lo:lo≤bS∧lo≤bA∧bS≠bA
theorem LetOwn.at_ {h:Heap} {n lo bS bA:Nat} {l:Letting} {vS vA:AV} (r:LetOwn h n lo bS bA l vS vA):LetAt (fun x=>lo≤x∧x≠bA) (fun x=>x=bA) h n l vS vA:=by
 obtain ⟨s,⟨ws,q1,q2,q3⟩,l1,l2,l3⟩:=r
 exact ⟨Sl.of_at s fun _=>⟨l1,l3⟩,ws,q1,Sl.of_at q2 fun _=>rfl,q3⟩
theorem LetOwn.grow {h h':Heap} {n n' lo bS bA:Nat} {l:Letting} {vS vA:AV} (r:LetOwn h n lo bS bA l vS vA) (hh:∀ c,c<n→lo≤c→h'.get c=h.get c) (hn:n≤n'):LetOwn h' n' lo bS bA l vS vA:=by
 obtain ⟨s,⟨ws,q1,q2,q3⟩,l1,l2,l3⟩:=r
 exact ⟨s.mono (fun h=>hh _ h l1) hn,⟨ws,q1,q2.mono (fun h=>hh _ h l2) hn,fun i h1 h2=>⟨(q3 i h1 h2).1.move (fun b hb hn=>⟨hh b hb hn.1,hn⟩) hn,(q3 i h1 h2).2.move (fun b hb hn=>⟨hh b hb hn.1,hn⟩) hn⟩⟩,l1,l2,l3⟩
structure LetK (u t:St) (d p7:Nat) (l:Letting) (vS vA:AV) (bS bA kk:Nat):Prop where
 die:Die d t.h
 g7:t.h.get p7=some (.cells [vS,vA] (tag 28))
 own:LetOwn t.h t.n (p7+1) bS bA l vS vA
 hb:(bS<t.n∨far<bS)∧(bA<t.n∨far<bA)
 same:∀ c,c<p7→c≠d→t.h.get c=u.h.get c
 n:p7<t.n
 le:t.n≤u.n+kk
 m:d≤u.m→d≤t.m
 mle:t.m≤u.m
 dp:d<p7
 ok:∀ a ∈ l.appls,a.Ok l.stalls.length
theorem LetK.stir {u t z:St} {d p7 bS bA kk k:Nat} {l:Letting} {vS vA:AV} (J:LetK u t d p7 l vS vA bS bA kk) (S:Stir d t z k) (D:Die d z.h):LetK u z d p7 l vS vA bS bA (kk+k):=by
 obtain ⟨jd,j7,jo,jb,js,jn,jle,jm,jml,jdp,jok⟩:=J
 have:=S.n
 have:=S.le
 exact ⟨D,(S.same p7 jn (by omega)).trans j7,jo.grow (fun c h1 h2=>S.same c h1 (by omega)) (by omega),by omega,fun c hc hcd=>(S.same c (by omega) hcd).trans (js c hc hcd),by omega,by omega,fun h=>S.m (jm h),Nat.le_trans S.mle jml,jdp,jok⟩
theorem app_push {cl:CallF} {L:Env} {u z:St} {r:ORes} {d p7 bS bA kk p:Nat} {l:Letting} {vS vA wv bv:AV} {A:Appl} (hr:K12r20 cl L z=r) (J:LetK u z d p7 l vS vA bS bA kk) (hA:A.Ok l.stalls.length) (hp:z.h.get p=some (.cells (A.row (wv,bv)) (tag 37)))
  (hw:Sl (fun x=>p7+1≤x∧x≠bA) z.h z.n 1 (intRows A.wishes) wv) (hbv:Sl (fun x=>p7+1≤x∧x≠bA) z.h z.n 1 (intRows A.bids) bv) (hl:l.appls.length≤7) (hs:u.n+kk+100≤far)
  (q7:L.find 7=.ptr p7 0) (q12:L.find 12=.ptr p 0):∃ M z1 v1 b1,r=.ok M z1∧LetK u z1 d p7 ⟨l.stalls,l.appls++[A]⟩ vS v1 bS b1 (kk+2):=by
 subst hr
 have hf:far=1000000000:=rfl
 obtain ⟨jd,j7,jo,jb,js,jn,jle,jm,jml,jdp,jok⟩:=J
 obtain ⟨s,⟨ws,w1,w2,w3⟩,l1,l2,l3⟩:=jo
 have kv:∀ t,okA (.val vA t)=.val vA t:=w2.okA
 have lr:=rowsOf_len w1
 obtain ⟨y,hy⟩:∃ y:St,y=z.new (.cells (A.row (wv,bv)) 0):=⟨_,rfl⟩
 have yn:y.n=z.n+1:=by rw [hy];rfl
 have ym:y.m=z.m:=by rw [hy];rfl
 have yg:∀ c,c<z.n→y.h.get c=z.h.get c:=fun c hc=>by rw [hy,get_new_ne _ _ _ (by omega)]
 have yp:y.h.get z.n=some (.cells (A.row (wv,bv)) 0):=by rw [hy];exact get_new_eq _ _ _ rfl (by omega)
 have scr:scalars (A.row (wv,bv))=true:=by unfold Appl.row;rw [scal_int,scal_int,hw.scal.2.2];exact hbv.scal.1
 obtain ⟨s7,e7,l7,s7n,s7g,s7m,s7l⟩:=append_at (bytes:=64) (w2.mono (h':=y.h) (n':=y.n) (fun h=>yg bA h) (by omega)) yp rfl scr (by rw [lr];omega) (by kernel_rfl) (by omega)
 rw [lr] at e7 l7
 obtain ⟨v7,hv7⟩:∃ v7,v7=AV.slice y.n 0 (l.appls.length+1) (l.appls.length+1) true:=⟨_,rfl⟩
 rw [← hv7] at e7 l7
 have sc7:scalars [v7]=true:=by rw [hv7];rfl
 have cc7:cellsOf 1 v7=some [v7]:=by rw [hv7];rfl
 have s9:=(s7g p7 (by omega) (by omega)).trans ((yg p7 (by omega)).trans j7)
 unfold Appl.row at hp hy
 simp only at hp hy
 have kww:=hw.scal.2.1
 have kbb:=hbv.scal.2.1
 simp (disch:=first|omega|(with_unfolding_all exact rfl)|(simp only[new_n,put_n,new_m];omega)|(refine put_m_le ?_;simp only[new_m];omega)) only [K12r20,Abs.W,reduceIte,Nat.reduceEqDiff,Nat.reduceAdd,decide_true,decide_false,kLoop_def,Nat.reduceSub,List.cons_append,List.nil_append,List.append_nil,List.length_cons,List.length_nil,Env.find_set,q7,q12,j7,hp,kv,kww,kbb,Nat.zero_add]
 rw [← hy]
 simp (disch:=first|omega|(with_unfolding_all exact rfl)|(simp only[new_n,put_n,new_m];omega)|(refine put_m_le ?_;simp only[new_m];omega)) only [Abs.W,reduceIte,Nat.reduceEqDiff,Nat.reduceAdd,decide_true,decide_false,kLoop_def,Nat.reduceSub,List.cons_append,List.nil_append,List.append_nil,List.length_cons,List.length_nil,Env.find_set,e7,q7,s9,sc7,cc7,Nat.zero_add]
 have hcells:rowsOf l.appls ws++[A.row (wv,bv)]=rowsOf (l.appls++[A]) (ws++[(wv,bv)]):=by unfold rowsOf;rw [List.zipWith_append (by omega)];rfl
 have mv:∀ {rows:List (List AV)} {v:AV},Sl (fun x=>p7+1≤x∧x≠bA) z.h z.n 1 rows v→Sl (fun x=>p7+1≤x∧x≠y.n) (s7.put p7 (.cells [vS,v7] (tag 28))).h (s7.put p7 (.cells [vS,v7] (tag 28))).n 1 rows v:=fun q=>q.move (fun b h1 h2=>⟨by rw [get_put_ne' _ _ _ _ (by omega),s7g b (by omega) (by omega),yg b h1],by omega,by omega⟩) (by simp only [put_n];omega)
 refine ⟨_,_,v7,y.n,rfl,⟨jd.keep ?_,get_put_eq _ _ _ _ rfl (by omega),⟨?_,⟨ws++[(wv,bv)],by simp [w1],?_,fun i h1 h2=>?_⟩,l1,by omega,?_⟩,⟨by have:=jb.1;simp only [put_n];omega,.inl (by simp only [put_n];omega)⟩,fun c hc hcd=>?_,by simp only [put_n];omega,by simp only [put_n];omega,fun hm=>?_,?_,jdp,fun x hx=>?_⟩⟩
 ·rw [get_put_ne' _ _ _ _ (by omega),s7g d (by omega) (by omega),yg d (by omega)]
 ·exact s.mono (fun h=>by rw [get_put_ne' _ _ _ _ (by omega),s7g bS (by omega) l3,yg bS h]) (by simp only [put_n];omega)
 ·show IsAt _ _ _ _ _ (rowsOf (l.appls++[A]) (ws++[(wv,bv)])) _
  rw [← hcells]
  exact l7.mono (fun _=>get_put_ne' _ _ _ _ (by omega)) (by simp only [put_n];omega)
 ·by_cases e:i<ws.length
  ·rw [List.getElem_append_left e]
   show Sl _ _ _ _ (intRows (l.appls++[A])[i].wishes) _∧Sl _ _ _ _ (intRows (l.appls++[A])[i].bids) _
   rw [List.getElem_append_left (by omega)]
   exact ⟨mv (w3 i e (by omega)).1,mv (w3 i e (by omega)).2⟩
  ·have hi:i=ws.length:=by rw [List.length_append,List.length_singleton] at h1;omega
   subst hi
   rw [List.getElem_append_right (Nat.le_refl _)]
   show Sl _ _ _ _ (intRows (l.appls++[A])[ws.length].wishes) _∧Sl _ _ _ _ (intRows (l.appls++[A])[ws.length].bids) _
   rw [List.getElem_append_right (by omega)]
   simp only [w1,Nat.sub_self,List.getElem_singleton]
   exact ⟨mv hw,mv hbv⟩
 ·have:=jb.1
  omega
 ·rw [get_put_ne' _ _ _ _ (by omega),s7g c (by omega) (by omega),yg c (by omega)]
  exact js c hc hcd
 ·have:=jm hm
  have:=s7m d (by omega) (by omega) (by omega)
  simp only [St.put,minN_eq];omega
 ·simp only [St.put,minN_eq];omega
 ·rcases List.mem_append.mp hx with hx | hx
  ·exact jok x hx
  ·rw [List.mem_singleton.mp hx];exact hA
noncomputable def appTail:K:=(kSeq (kSeq (kRegion K12r16 [13]) (kBlock 4 (kLoop K12l1))) (kRegion K12r20 []))
theorem app_eq:K12l2=(kSeq (kSeq (kRegion K12r11 [50]) (kCond (.tmp 50) kSkip (kExit 2))) (kSeq (kBlock 3 (kSeq (kRegion K12r12 [12]) (kSeq (kRegion K12r13 []) (kSeq (kSeq (kRegion K12r14 [70]) (kCond (.tmp 70) (kRegionD K12r15 []) kSkip)) appTail)))) (kRegion K12r21 [11]))):=rfl
theorem app_tail (N:Nat) (hN:5≤N) {cx:Ctx} {L:Env} {u t z:St} {r:R} {d p7 bS bA kk k p:Nat} {l:Letting} {vS vA wv:AV} {yr tk:Int} {wl:List Int} (hr:appTail (call Try.prog X N) cx L [] z=r) (J:LetK u t d p7 l vS vA bS bA kk) (S:Stir d t z k) (D:Die d z.h) (hp0:t.n≤p∧p<z.n)
  (hp:z.h.get p=some (.cells [.int .i64 yr,.int .i64 tk,wv,.nilslice] (tag 37))) (hw:Sl (fun x=>p<x) z.h z.n 1 (intRows wl) wv) (hyr:0≤yr∧yr≤60) (htk:0≤tk∧tk≤1000000000) (hx:∀ x ∈ wl,0≤x∧x<l.stalls.length) (hnd:wl.Nodup) (hwl:wl.length≤8)
  (hss:∀ s ∈ l.stalls,0≤s.least∧s.least≤1000) (hl:l.appls.length≤7) (hs:u.n+kk+k+4000≤far) (hum:u.m≤far) (hdm:d≤u.m)
  (q0:L.find 0=.ptr d 0) (q7:L.find 7=.ptr p7 0) (q12:L.find 12=.ptr p 0) :
  ∃ L1 z1 A v1 b1,r=.done .norm L1 [] z1∧LetK u z1 d p7 ⟨l.stalls,l.appls++[A]⟩ vS v1 bS b1 (kk+k+90)∧∀ c,c<13→L1.find c=L.find c:=by
 subst hr
 have hf:far=1000000000:=rfl
 have Jz:=J.stir S D
 have jn:=J.n
 have jle:=J.le
 have jdp:=J.dp
 have sn:=S.n
 have sl:=S.le
 have jm:=Jz.m hdm
 have jml:=Jz.mle
 have jz7:=Jz.g7
 have lo:=J.own.lo
 have hb:=J.hb
 unfold appTail
 simp (disch:=first|omega|(with_unfolding_all exact rfl)|(simp only[new_n,put_n,new_m];omega)|(refine put_m_le ?_;simp only[new_m];omega)) only [K12r16,Abs.W,reduceIte,Nat.reduceEqDiff,Nat.reduceAdd,decide_true,decide_false,kLoop_def,Nat.reduceSub,List.cons_append,List.nil_append,List.append_nil,List.length_cons,List.length_nil,Env.find_set]
 generalize hlp:loopN _ rounds _ _ _ _ _=rl
 obtain ⟨L1,t1,bs,bv,bB,rfl,B1,hbl,g1⟩:=bid_loop N hN (d:=d) (p7:=p7) (p12:=p) (ss:=l.stalls) (noS:=fun b=>b=bS∧b<t.n) hlp D hp jz7 (Sl.of_at (J.own.st.mono (h':=z.h) (n':=z.n) (fun h=>S.same bS h (by omega)) sn) (fun h=>⟨rfl,by rcases J.own.st.is with ⟨z1,_⟩ | ⟨_,z1,_⟩<;>omega⟩)) hw (fun b hb=>by omega) (fun b hb=>by omega) (by omega) (by omega) rfl hwl hx hss (by omega) (by omega) jm
  (by simp only [Env.find_set,q0,reduceIte,Nat.reduceEqDiff]) (by simp only [Env.find_set,q7,reduceIte,Nat.reduceEqDiff]) (by simp only [Env.find_set,q12,reduceIte,Nat.reduceEqDiff]) (by simp only [Env.find_set,reduceIte,Nat.reduceEqDiff];rfl)
 obtain ⟨bd,b12,bi,blo,bsame,bn,ble,bm,bml,bb⟩:=B1
 have S1:Stir d t t1 (k+80):=⟨fun c h1 h2=>(bsame c (by omega) h2 (by omega)).trans (S.same c h1 h2),by omega,by omega,fun h=>bm (S.m h),Nat.le_trans bml S.mle⟩
 have J1:=J.stir S1 bd
 simp (disch:=first|omega|(with_unfolding_all exact rfl)|(simp only[new_n,put_n,new_m];omega)|(refine put_m_le ?_;simp only[new_m];omega)) only [Abs.W,reduceIte,Nat.reduceEqDiff,Nat.reduceAdd,decide_true,decide_false,kLoop_def,Nat.reduceSub,List.cons_append,List.nil_append,List.append_nil,List.length_cons,List.length_nil,Env.find_set]
 generalize hq:K12r20 _ _ _=q8
 have f7:L1.find 7=.ptr p7 0:=(g1 7 (by omega)).trans (by simp only [Env.find_set,q7,reduceIte,Nat.reduceEqDiff])
 have f12:L1.find 12=.ptr p 0:=(g1 12 (by omega)).trans (by simp only [Env.find_set,q12,reduceIte,Nat.reduceEqDiff])
 have tA:t.n≤far:=by omega
 obtain ⟨M,z1,v1,b1,rfl,J2⟩:=app_push (A:=⟨yr,tk,wl,bs⟩) hq J1 ⟨by simp only;omega,by simp only;omega,by simp only;omega,by simp only;omega,hx,hnd,hwl,hbl,bb⟩ b12 (hw.move (fun b h1 h2=>⟨bsame b h1 (by omega) (by omega),by omega,by omega⟩) bn) (Sl.of_at bi (fun h=>by omega)) hl (by omega) f7 f12
 simp (disch:=first|omega|(with_unfolding_all exact rfl)|(simp only[new_n,put_n,new_m];omega)|(refine put_m_le ?_;simp only[new_m];omega)) only [Abs.W,reduceIte,Nat.reduceEqDiff,Nat.reduceAdd,decide_true,decide_false,kLoop_def,Nat.reduceSub,List.cons_append,List.nil_append,List.append_nil,List.length_cons,List.length_nil,Env.find_set]
 obtain ⟨a1,a2,a3,a4,a5,a6,a7,a8,a9,a10,a11⟩:=J2
 refine ⟨_,z1,_,v1,b1,rfl,⟨a1,a2,a3,a4,a5,a6,by omega,a8,a9,a10,a11⟩,fun c hc=>?_⟩
 rw [g1 c hc]
 simp only [Env.find_set]
 repeat rw [if_neg (by omega)]
end Go.Proofs.Ytbcjojljiochfaa.walk
