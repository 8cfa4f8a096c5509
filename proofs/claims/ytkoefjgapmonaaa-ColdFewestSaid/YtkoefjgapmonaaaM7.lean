/- The cellar with scoops among its fillings: its mathematics, and rows behind rows. -/
import Derived.Test.YtkoefjgapmonaaaM6
import Derived.Test.YtkoefjgapmonaaaWalkAll
set_option linter.unusedSimpArgs false
set_option linter.unusedVariables false
set_option maxHeartbeats 16000000
set_option linter.unusedVariables false
set_option maxRecDepth 10000
namespace Go.Abs
theorem app_rows {s:St} {lo w bytes tg:Nat} {rows rows2:List (List AV)} {v y:AV} (r:Rows s.h lo s.n w tg rows v) (e1:lenA y=some rows2.length) (e2:firstA w rows2.length s y=some rows2.flatten) (hw:∀ r ∈ rows2,r.length=w) (hsc:scalars rows2.flatten=true) (hb:(rows.length+rows2.length) * bytes≤1000000) (htg:szOf (w+tg)=w) (hs:s.n<549755813888) (hlo:lo≤s.n) :
  ∃ v' s',appendA false w bytes tg s v y=.val v' s'∧Rows s'.h lo s'.n w tg (rows++rows2) v'∧s.n≤s'.n∧s'.n≤s.n+1∧(∀ c,c<lo→s'.h.get c=s.h.get c)∧(∀ k,k≤lo→k≤s.m→k≤s'.m)∧s'.m≤s.m:=by
 have hfl:=flatten_len hw
 have hfl1:=flatten_len r.wide
 have hA:appendA false w bytes tg s v y=growA w bytes tg rows2.length rows2.flatten s v:=by
  unfold appendA
  simp only [e1,e2,hfl,Nat.beq_refl,hsc]
 have hwide:∀ x ∈ rows++rows2,x.length=w:=fun x hx=>by
  rcases List.mem_append.mp hx with hx | hx
  ·exact r.wide x hx
  ·exact hw x hx
 rw [hA]
 by_cases h0:rows2=[]
 ·subst h0
  rw [List.append_nil]
  rcases r.is with ⟨h2,h3⟩ | ⟨b,hlb,hbn,h3,h4⟩
  ·subst h2;subst h3
   exact ⟨.nilslice,s,rfl,⟨r.wide,.inl ⟨rfl,rfl⟩⟩,Nat.le_refl _,Nat.le_succ _,fun _ _=>rfl,fun _ _ h=>h,Nat.le_refl _⟩
  ·subst h3
   refine ⟨.slice b 0 rows.length rows.length true,s.put b (.cells rows.flatten (w+tg)),?_,⟨r.wide,.inr ⟨b,hlb,hbn,rfl,get_put_eq _ _ _ _ rfl (by omega)⟩⟩,Nat.le_refl _,Nat.le_succ _,fun c hc=>get_put_ne' _ _ _ _ (by omega),fun k hk hm=>?_,?_⟩
   ·unfold growA
    simp only [h4,List.length_nil,Nat.add_zero,List.flatten_nil]
    have e3:Nat.ble rows.length rows.length=true:=Nat.ble_eq_true_of_le (Nat.le_refl _)
    have e4:over (0+rows.length * w) [] rows.flatten=some rows.flatten:=by
     have:=over_skip rows.flatten [] [] 0
     rw [List.append_nil,Nat.add_zero,hfl1] at this
     rw [Nat.zero_add,this]
     show some (rows.flatten++[])=_
     rw [List.append_nil]
    simp only [e3,e4]
   ·simp only [St.put,minN_eq];omega
   ·simp only [St.put,minN_eq];omega
 ·have hpos:0<rows2.length:=List.length_pos_iff.mpr h0
  have e2':Nat.ble ((rows.length+rows2.length) * bytes) limit=true:=Nat.ble_eq_true_of_le (by unfold limit;omega)
  rcases r.is with ⟨h2,h3⟩ | ⟨b,hlb,hbn,h3,h4⟩
  ·subst h2;subst h3
   refine ⟨.slice s.n 0 rows2.length rows2.length true,s.new (.cells rows2.flatten (w+tg)),?_,⟨hwide,.inr ⟨s.n,hlo,Nat.lt_succ_self _,by simp,?_⟩⟩,Nat.le_succ _,Nat.le_refl _,fun c hc=>get_new_ne _ _ _ (by omega),fun _ _ h=>h,Nat.le_refl _⟩
   ·have e5:Nat.beq rows2.length 0=false:=nbeq_f (by omega)
    have e6:Nat.ble (rows2.length * bytes) limit=true:=by simpa using e2'
    unfold growA
    simp only [e5,e6]
   ·rw [List.nil_append];exact get_new_eq _ _ _ rfl hs
  ·subst h3
   refine ⟨.slice s.n 0 (rows.length+rows2.length) (rows.length+rows2.length) true,(s.kill b).new (.cells (rows.flatten++rows2.flatten) (w+tg)),?_,⟨hwide,.inr ⟨s.n,hlo,Nat.lt_succ_self _,by simp,?_⟩⟩,Nat.le_succ _,Nat.le_refl _,fun c hc=>?_,fun k hk hm=>?_,?_⟩
   ·unfold growA
    simp only [h4]
    have e5:Nat.ble (rows.length+rows2.length) rows.length=false:=by
     cases h:Nat.ble (rows.length+rows2.length) rows.length with
     | false=>rfl
     | true=>have:=Nat.le_of_ble_eq_true h;omega
    simp only [e5,e2',hfl1,htg,Nat.zero_add,List.drop_zero,and_self,if_true]
   ·rw [List.flatten_append]
    exact get_new_eq _ _ _ rfl hs
   ·rw [get_new_ne _ _ _ (by show c≠s.n;omega),St.kill_h,heap_set_ne _ _ _ _ (by omega)]
   ·rw [new_m];simp only [St.kill,minN_eq];omega
   ·rw [new_m];simp only [St.kill,minN_eq];omega
end Go.Abs
namespace Go.Proofs.Ytkoefjgapmonaaa.walk
open Go.Abs Go.Proofs.Ytkoefjgapmonaaa.code
def scoopF (b g:Int):List Int→List Nat→List Fill→List Fill
 | v::vs,n::ns,fs=>(fs.takeWhile fun f=>decide (f.hour≤v))++(List.replicate n ⟨b,v,g⟩++scoopF b g vs ns (fs.dropWhile fun f=>decide (f.hour≤v)))
 | _,_,fs=>fs
theorem scoopF_take {b g v:Int} {vs:List Int} {n:Nat} {ns:List Nat} {f:Fill} {fs:List Fill} (h:f.hour≤v):scoopF b g (v::vs) (n::ns) (f::fs)=f::scoopF b g (v::vs) (n::ns) fs:=by
 show ((f::fs).takeWhile _)++(_++scoopF b g vs ns ((f::fs).dropWhile _))=f::((fs.takeWhile _)++(_++scoopF b g vs ns (fs.dropWhile _)))
 rw [List.takeWhile_cons_of_pos (by simpa using h),List.dropWhile_cons_of_pos (by simpa using h)]
 rfl
theorem scoopF_none {b g v:Int} {vs:List Int} {n:Nat} {ns:List Nat}:scoopF b g (v::vs) (n::ns) []=List.replicate n ⟨b,v,g⟩++scoopF b g vs ns []:=rfl
theorem scoopF_stop {b g v:Int} {vs:List Int} {n:Nat} {ns:List Nat} {f:Fill} {fs:List Fill} (h:¬ f.hour≤v):scoopF b g (v::vs) (n::ns) (f::fs)=List.replicate n ⟨b,v,g⟩++scoopF b g vs ns (f::fs):=by
 show ((f::fs).takeWhile _)++(_++scoopF b g vs ns ((f::fs).dropWhile _))=_
 rw [List.takeWhile_cons_of_neg (by simpa using h),List.dropWhile_cons_of_neg (by simpa using h)]
 rfl
def FSort (fs:List Fill):Prop:=fs.Pairwise (fun a b=>a.hour≤b.hour)
theorem filter_while {q:Fill→Bool} {v:Int}:∀ {fs:List Fill},FSort fs→((fs.takeWhile fun f=>decide (f.hour≤v)).filter q=(fs.filter q).takeWhile fun f=>decide (f.hour≤v))∧((fs.dropWhile fun f=>decide (f.hour≤v)).filter q=(fs.filter q).dropWhile fun f=>decide (f.hour≤v))
 | [],_=>⟨rfl,rfl⟩
 | f::fs,h=>by
  obtain ⟨h1,h2⟩:=List.pairwise_cons.mp h
  obtain ⟨i1,i2⟩:=filter_while (q:=q) (v:=v) h2
  by_cases e:f.hour≤v
  ·rw [List.takeWhile_cons_of_pos (by simpa using e),List.dropWhile_cons_of_pos (by simpa using e)]
   by_cases hq:q f=true
   ·rw [List.filter_cons_of_pos hq,List.filter_cons_of_pos hq,List.takeWhile_cons_of_pos (by simpa using e),List.dropWhile_cons_of_pos (by simpa using e),i1,i2]
    exact ⟨rfl,rfl⟩
   ·rw [List.filter_cons_of_neg hq,List.filter_cons_of_neg hq]
    exact ⟨i1,i2⟩
  ·rw [List.takeWhile_cons_of_neg (by simpa using e),List.dropWhile_cons_of_neg (by simpa using e)]
   have hall:∀ x ∈ (f::fs).filter q,¬ x.hour≤v:=fun x hx=>by
    rcases List.mem_cons.mp (List.mem_filter.mp hx).1 with rfl | hx
    ·exact e
    ·have:=h1 x hx;omega
   cases hl:(f::fs).filter q with
   | nil=>exact ⟨rfl,rfl⟩
   | cons a l =>
    have ha:=hall a (by rw [hl];simp)
    rw [List.takeWhile_cons_of_neg (by simpa using ha),List.dropWhile_cons_of_neg (by simpa using ha)]
    exact ⟨rfl,rfl⟩
abbrev hg (f:Fill):Int × Int:=(f.hour,f.grams)
theorem map_while {v:Int}:∀ (fs:List Fill),((fs.takeWhile fun f=>decide (f.hour≤v)).map hg=Scoops.upTo v (fs.map hg))∧((fs.dropWhile fun f=>decide (f.hour≤v)).map hg=Scoops.beyond v (fs.map hg))
 | []=>⟨rfl,rfl⟩
 | f::fs=>by
  obtain ⟨i1,i2⟩:=map_while (v:=v) fs
  unfold Scoops.upTo Scoops.beyond at *
  by_cases e:f.hour≤v
  ·rw [List.takeWhile_cons_of_pos (by simpa using e),List.dropWhile_cons_of_pos (by simpa using e)]
   simp only [List.map_cons]
   rw [List.takeWhile_cons_of_pos (by simpa using e),List.dropWhile_cons_of_pos (by simpa using e),i1,i2]
   exact ⟨rfl,rfl⟩
  ·rw [List.takeWhile_cons_of_neg (by simpa using e),List.dropWhile_cons_of_neg (by simpa using e)]
   simp only [List.map_cons]
   rw [List.takeWhile_cons_of_neg (by simpa using e),List.dropWhile_cons_of_neg (by simpa using e)]
   exact ⟨rfl,rfl⟩
theorem scoop_box {b:Nat} {g:Int}:∀ {vs:List Int} {ns:List Nat} {fs:List Fill},FSort fs→(ofBox b (scoopF b g vs ns fs)).map hg=Scoops.scoopL g vs ns ((ofBox b fs).map hg)
 | [],_,fs,_=>by unfold scoopF Scoops.scoopL;rfl
 | _::_,[],fs,_=>by unfold scoopF Scoops.scoopL;rfl
 | v::vs,n::ns,fs,h=>by
  obtain ⟨f1,f2⟩:=filter_while (q:=fun f=>decide (f.box=(b:Int))) (v:=v) h
  obtain ⟨m1,m2⟩:=map_while (v:=v) (ofBox b fs)
  have hd:FSort (fs.dropWhile fun f=>decide (f.hour≤v)):=h.sublist (List.dropWhile_sublist _)
  have ih:=scoop_box (b:=b) (g:=g) (vs:=vs) (ns:=ns) hd
  show ((fs.takeWhile _++(List.replicate n (⟨(b:Int),v,g⟩:Fill)++scoopF b g vs ns (fs.dropWhile _))).filter _).map hg=Scoops.upTo v _++(List.replicate n (v,g)++Scoops.scoopL g vs ns (Scoops.beyond v _))
  rw [List.filter_append,List.filter_append,List.map_append,List.map_append,f1,List.filter_replicate_of_pos (by simp),List.map_replicate]
  have e1:ofBox b fs=fs.filter fun f=>decide (f.box=(b:Int)):=rfl
  rw [← e1,m1]
  have e2:ofBox b (fs.dropWhile fun f=>decide (f.hour≤v))=(ofBox b fs).dropWhile fun f=>decide (f.hour≤v):=f2
  have e3:(scoopF b g vs ns (fs.dropWhile fun f=>decide (f.hour≤v))).filter (fun f=>decide (f.box=(b:Int)))=ofBox b (scoopF b g vs ns (fs.dropWhile fun f=>decide (f.hour≤v))):=rfl
  rw [e3,ih,e2,m2]
theorem scoopF_mem {b g:Int}:∀ {vs:List Int} {ns:List Nat} {fs:List Fill} {f:Fill},f ∈ scoopF b g vs ns fs→f ∈ fs∨∃ v ∈ vs,f=⟨b,v,g⟩
 | [],_,fs,f,h=>.inl (by unfold scoopF at h;exact h)
 | _::_,[],fs,f,h=>.inl (by unfold scoopF at h;exact h)
 | v::vs,n::ns,fs,f,h=>by
  unfold scoopF at h
  rcases List.mem_append.mp h with h | h
  ·exact .inl ((List.takeWhile_sublist _).subset h)
  ·rcases List.mem_append.mp h with h | h
   ·exact .inr ⟨v,by simp,List.eq_of_mem_replicate h⟩
   ·rcases scoopF_mem h with h | ⟨w,h1,h2⟩
    ·exact .inl ((List.dropWhile_sublist _).subset h)
    ·exact .inr ⟨w,List.mem_cons_of_mem _ h1,h2⟩
theorem scoopF_len {b g:Int}:∀ {vs:List Int} {ns:List Nat} {fs:List Fill},(∀ n ∈ ns,n≤5)→(scoopF b g vs ns fs).length≤fs.length+5 * vs.length
 | [],_,fs,_=>by unfold scoopF;simp
 | _::_,[],fs,_=>by unfold scoopF;simp
 | v::vs,n::ns,fs,h=>by
  have ih:=scoopF_len (b:=b) (g:=g) (vs:=vs) (ns:=ns) (fs:=fs.dropWhile fun f=>decide (f.hour≤v)) (fun m hm=>h m (List.mem_cons_of_mem _ hm))
  have hn:=h n (by simp)
  have e:=congrArg List.length (List.takeWhile_append_dropWhile (p:=fun f:Fill=>decide (f.hour≤v)) (l:=fs))
  rw [List.length_append] at e
  show (fs.takeWhile _++(List.replicate n (⟨b,v,g⟩:Fill)++scoopF b g vs ns (fs.dropWhile _))).length≤_
  rw [List.length_append,List.length_append,List.length_replicate,List.length_cons]
  omega
theorem take_le {v:Int}:∀ {fs:List Fill},∀ f ∈ fs.takeWhile (fun f=>decide (f.hour≤v)),f.hour≤v
 | [],f,h=>by cases h
 | a::l,f,h=>by
  by_cases e:a.hour≤v
  ·rw [List.takeWhile_cons_of_pos (by simpa using e)] at h
   rcases List.mem_cons.mp h with rfl | h
   ·exact e
   ·exact take_le f h
  ·rw [List.takeWhile_cons_of_neg (by simpa using e)] at h
   cases h
theorem scoopF_sort {b g:Int}:∀ {vs:List Int} {ns:List Nat} {fs:List Fill},FSort fs→vs.Pairwise (·<·)→FSort (scoopF b g vs ns fs)
 | [],_,fs,h,_=>by unfold scoopF;exact h
 | _::_,[],fs,h,_=>by unfold scoopF;exact h
 | v::vs,n::ns,fs,h,hv=>by
  obtain ⟨v1,v2⟩:=List.pairwise_cons.mp hv
  have hd:FSort (fs.dropWhile fun f=>decide (f.hour≤v)):=h.sublist (List.dropWhile_sublist _)
  have hafter:∀ f ∈ fs.dropWhile (fun f=>decide (f.hour≤v)),v≤f.hour:=by
   clear v1 v2 hv
   induction fs with
   | nil=>intro f hf;cases hf
   | cons a l ih =>
    obtain ⟨h1,h2⟩:=List.pairwise_cons.mp h
    by_cases e:a.hour≤v
    ·rw [List.dropWhile_cons_of_pos (by simpa using e)]
     exact ih h2 (h2.sublist (List.dropWhile_sublist _))
    ·rw [List.dropWhile_cons_of_neg (by simpa using e)]
     intro f hf
     rcases List.mem_cons.mp hf with rfl | hf
     ·omega
     ·have:=h1 f hf;omega
  have hlow:∀ f ∈ scoopF b g vs ns (fs.dropWhile fun f=>decide (f.hour≤v)),v≤f.hour:=fun f hf=>by
   rcases scoopF_mem hf with hf | ⟨w,hw,rfl⟩
   ·exact hafter f hf
   ·have:=v1 w hw
    show v≤w
    omega
  have hle:∀ f ∈ fs.takeWhile (fun f=>decide (f.hour≤v)),f.hour≤v:=take_le
  show List.Pairwise _ (fs.takeWhile _++(List.replicate n (⟨b,v,g⟩:Fill)++scoopF b g vs ns (fs.dropWhile _)))
  refine List.pairwise_append.mpr ⟨h.sublist (List.takeWhile_sublist _),List.pairwise_append.mpr ⟨?_,scoopF_sort hd v2,fun x hx y hy=>?_⟩,fun x hx y hy=>?_⟩
  ·exact List.pairwise_replicate.mpr (.inr (Int.le_refl _))
  ·rw [List.eq_of_mem_replicate hx];exact hlow y hy
  ·have hx':=hle x hx
   rcases List.mem_append.mp hy with hy | hy
   ·rw [List.eq_of_mem_replicate hy];exact hx'
   ·have:=hlow y hy
    omega
theorem before_succ {fs:List Fill} {i:Nat} (h:i<fs.length):before fs (i+1)=(fs[i]).hour:=by
 show (match fs[i]? with | some f=>f.hour | none=>_)=_
 rw [List.getElem?_eq_getElem h]
theorem sort_of_before {fs:List Fill} (h:∀ i (hi:i<fs.length),before fs i≤(fs[i]).hour):FSort fs:=by
 have adj:∀ i (hi:i+1<fs.length),(fs[i]'(by omega)).hour≤(fs[i+1]).hour:=fun i hi=>by
  have:=h (i+1) hi
  rw [before_succ (by omega)] at this
  exact this
 have far_:∀ d i (hi:i+d<fs.length),(fs[i]'(by omega)).hour≤(fs[i+d]).hour:=fun d=>by
  induction d with
  | zero=>intro i hi;exact Int.le_refl _
  | succ d ih =>
   intro i hi
   have h1:=ih i (by omega)
   have h2:=adj (i+d) (by omega)
   exact Int.le_trans h1 h2
 refine List.pairwise_iff_getElem.mpr fun i j hi hj hij=>?_
 obtain ⟨d,rfl⟩:∃ d,j=i+d:=⟨j - i,by omega⟩
 exact far_ d i hj
theorem before_of_sort {fs:List Fill} (h:FSort fs) (h0:∀ f ∈ fs,0≤f.hour):∀ i (hi:i<fs.length),before fs i≤(fs[i]).hour:=fun i hi=>by
 cases i with
 | zero=>exact h0 _ (List.getElem_mem hi)
 | succ i =>
  rw [before_succ (by omega)]
  exact List.pairwise_iff_getElem.mp h i (i+1) (by omega) hi (by omega)
def Cellar.scooped (c:Cellar) (b:Nat) (g:Int) (vs:List Int) (ns:List Nat):Cellar:={ c with fills:=scoopF b g vs ns c.fills }
theorem Cellar.scooped_ok {c:Cellar} (ok:c.Ok) (hf:c.fills.length≤10) {b:Nat} (hb:b<c.boxes.length) {g:Int} (hg0:1≤g∧g≤100000) {vs:List Int} {ns:List Nat} (hv2:vs.length≤2) (hin:∀ w ∈ vs,0≤w∧w≤239) (hsort:vs.Pairwise (·<·)) (hn:∀ n ∈ ns,n≤5):(c.scooped b g vs ns).Ok:=by
 have hmem:∀ f ∈ scoopF b g vs ns c.fills,f.Ok c.boxes.length:=fun f hf=>by
  rcases scoopF_mem hf with hf | ⟨v,hv,rfl⟩
  ·exact ok.fok f hf
  ·obtain ⟨w1,w2⟩:=hin v hv
   refine ⟨?_,?_,w1,w2,?_,?_⟩
   ·show (0:Int)≤(b:Int);omega
   ·show (b:Int)<(c.boxes.length:Int);omega
   ·show (0:Int)≤g;omega
   ·show g≤_;omega
 have hl:=scoopF_len (b:=(b:Int)) (g:=g) (vs:=vs) (ns:=ns) (fs:=c.fills) hn
 exact ⟨ok.h0,ok.h1,ok.h2,ok.b,ok.bok,by show (scoopF b g vs ns c.fills).length≤20;omega,hmem,before_of_sort (scoopF_sort (sort_of_before ok.fo) hsort) (fun f hf=>(hmem f hf).h0),ok.r0,ok.r,ok.rok,ok.ro⟩
end Go.Proofs.Ytkoefjgapmonaaa.walk
set_option maxRecDepth 10000
namespace Go.Abs
theorem nth_appL:∀ (a l:List AV) (i:Nat),nth (a++l) (a.length+i)=nth l i
 | [],l,i=>by rw [List.nil_append,List.length_nil,Nat.zero_add]
 | x::a,l,i=>by
  have:=nth_appL a l i
  rw [List.length_cons,show a.length+1+i=(a.length+i)+1 by omega]
  exact this
theorem nth_appF:∀ (r t:List AV) (i:Nat),i<r.length→nth (r++t) i=nth r i
 | [],t,i,h=>absurd h (Nat.not_lt_zero _)
 | x::r,t,0,_=>rfl
 | x::r,t,i+1,h=>nth_appF r t i (by simpa using h)
theorem nth_cut {p k i:Nat} {c r:List AV} (h:cut p k c=some r) (hi:i<k):nth c (p+i)=nth r i:=by
 obtain ⟨a,t,q1,q2,q3⟩:=cut_some h
 rw [q1,List.append_assoc,← q2,nth_appL,nth_appF _ _ _ (by omega)]
end Go.Abs
namespace Go.Proofs.Ytkoefjgapmonaaa.walk
open Go.Abs Go.Proofs.Ytkoefjgapmonaaa.code
theorem sc_take (N:Nat) {cx:Ctx} {s:St} {L:Env} {r:R} {p5 z5 lo i a bv:Nat} {hl hh b g v:Int} {v1 v2 v3 vo:AV} {fs out:List Fill} {vs vs0:List Int} {n:Nat} {ns:List Nat} (hr:loopN K32l0 rounds (call Try.prog X N) cx L [] s=r)
  (g5:s.h.get p5=some (.cells [.int .i64 hl,.int .i64 hh,v1,v2,v3] z5)) (hp5:p5<lo) (hlo:lo≤s.n) (hF:RowsAt s.h lo 3 (fs.map Fill.cells) v2) (hO:Abs.Rows s.h lo s.n 3 (tag 55) (out.map Fill.cells) vo) (hbv:bv<lo) (gv:∃ sz,s.h.get bv=some (.cells (ints vs0).flatten sz)) (hi:i<vs0.length) (hv:vs0[i]=v) (ha:a≤fs.length) (hfl:fs.length≤10) (hol:out.length≤100) (hs:s.n+1000≤far) (hm:s.m≤far)
  (l2:L.find 2=.slice bv 0 vs0.length vs0.length true) (l5:L.find 5=.ptr p5 0) (l11:L.find 11=vo) (l12:L.find 12=.int .i64 (a:Int)) (l13:L.find 13=.int .i64 (i:Int)) :
  ∃ L1 t a' out' vo',r=.done (.exit 2) L1 [] t∧a≤a'∧a'≤fs.length∧Abs.Rows t.h lo t.n 3 (tag 55) (out'.map Fill.cells) vo'∧out++scoopF b g (v::vs) (n::ns) (fs.drop a)=out'++(List.replicate n ⟨b,v,g⟩++scoopF b g vs ns (fs.drop a'))∧out'.length+a=out.length+a'∧(∀ c,c<lo→t.h.get c=s.h.get c)∧s.n≤t.n∧t.n≤s.n+2 * (a' - a)∧(∀ k,k≤lo→k≤s.m→k≤t.m)∧t.m≤s.m∧L1.find 11=vo'∧L1.find 12=.int .i64 (a':Int)∧∀ c,c<6∨c=10∨c=13→L1.find c=L.find c:=by
 have hf:far=1000000000:=rfl
 have kv2:∀ t,okA (.val v2 t)=.val v2 t:=fun t=>okA_ne hF.ne
 have lv2:∀ s,lenSlA s v2=.val (.int .i64 (fs.length:Int)) s:=fun s=>by have:=hF.len s;rwa [List.length_map] at this
 have okS:∀ t,okA (.val (.slice bv 0 vs0.length vs0.length true) t)=.val (.slice bv 0 vs0.length vs0.length true) t:=fun _=>rfl
 obtain ⟨szv,gv⟩:=gv
 have hixv:∀ st,ixsA 1 st (.slice bv 0 vs0.length vs0.length true) (.int .i64 (i:Int))=.val (.ptr bv i) st:=fun st=>ixs_intsC st bv hi
 have hnv:nth (ints vs0).flatten i=.int .i64 v:=by rw [nth_intsC vs0 i hi,hv]
 obtain ⟨e,L1,t,rfl,rfl,a',out',vo',h1,h2,h3,h4,h5,h6,h7,h8,h9,h10,h11,h12,h13⟩:=loop_of hr
  (fun k L' t'=>∃ out' vo',a+k≤fs.length∧Abs.Rows t'.h lo t'.n 3 (tag 55) (out'.map Fill.cells) vo'∧out++scoopF b g (v::vs) (n::ns) (fs.drop a)=out'++scoopF b g (v::vs) (n::ns) (fs.drop (a+k))∧out'.length=out.length+k∧(∀ c,c<lo→t'.h.get c=s.h.get c)∧s.n≤t'.n∧t'.n≤s.n+2 * k∧(∀ k,k≤lo→k≤s.m→k≤t'.m)∧t'.m≤s.m∧L'.find 11=vo'∧L'.find 12=.int .i64 ((a+k:Nat):Int)∧∀ c,c<6∨c=10∨c=13→L'.find c=L.find c)
  (fun e L' t'=>e=.exit 2∧∃ a' out' vo',a≤a'∧a'≤fs.length∧Abs.Rows t'.h lo t'.n 3 (tag 55) (out'.map Fill.cells) vo'∧out++scoopF b g (v::vs) (n::ns) (fs.drop a)=out'++(List.replicate n ⟨b,v,g⟩++scoopF b g vs ns (fs.drop a'))∧out'.length+a=out.length+a'∧(∀ c,c<lo→t'.h.get c=s.h.get c)∧s.n≤t'.n∧t'.n≤s.n+2 * (a' - a)∧(∀ k,k≤lo→k≤s.m→k≤t'.m)∧t'.m≤s.m∧L'.find 11=vo'∧L'.find 12=.int .i64 (a':Int)∧∀ c,c<6∨c=10∨c=13→L'.find c=L.find c) (fs.length - a) (by unfold rounds;omega)
  ⟨out,vo,by omega,hO,rfl,rfl,fun _ _=>rfl,Nat.le_refl _,Nat.le_refl _,fun _ _ h=>h,Nat.le_refl _,l11,l12,fun _ _=>rfl⟩
  (fun k L' t' hk' ⟨out',vo',q1,q2,q3,q4,q5,q6,q7,q8,q9,q11,q12,q⟩=>by
   have p2:=(q 2 (by omega)).trans l2
   have p5':=(q 5 (by omega)).trans l5
   have p13:=(q 13 (by omega)).trans l13
   have g5t:=(q5 p5 hp5).trans g5
   have gvt:=(q5 bv hbv).trans gv
   obtain ⟨ok1,c1,sc1⟩:=q2.scalar
   have ad:∀ s,aAdd s .i64 ((a+k:Nat):Int) 1=.val (.int .i64 ((a+(k+1):Nat):Int)) s:=fun s=>aAdd_i64 s _ _ (by omega)
   by_cases hlt:a+k<fs.length
   ·have e0:decide (((a+k:Nat):Int)<(fs.length:Int))=true:=decide_eq_true (by omega)
    obtain ⟨bb,pp,cc,zz,r1,r2,r3,r4⟩:=hF.at_ (a+k) (by rw [List.length_map];exact hlt)
    rw [List.getElem_map] at r4
    have r3t:=(q5 bb r1).trans r3
    have hn1:nth cc (pp+1)=.int .i64 (fs[a+k]).hour:=(nth_cut r4 (show 1<3 by omega)).trans rfl
    obtain ⟨F,hFe⟩:∃ F,F=fs[a+k]:=⟨_,rfl⟩
    rw [← hFe] at r4 hn1
    have r4':cut pp 3 cc=some [.int .i64 F.box,.int .i64 F.hour,.int .i64 F.grams]:=r4
    have hdr:fs.drop (a+k)=F::fs.drop (a+k+1):=by rw [hFe];exact List.drop_eq_getElem_cons hlt
    by_cases hle:F.hour≤v
    ·have e1:decide (F.hour≤v)=true:=decide_eq_true hle
     have hR3:Abs.Rows (t'.new (.cells [.int .i64 F.box,.int .i64 F.hour,.int .i64 F.grams] 0)).h lo (t'.new (.cells [.int .i64 F.box,.int .i64 F.hour,.int .i64 F.grams] 0)).n 3 (tag 55) (out'.map Fill.cells) vo':=q2.mono (fun c hc hcn=>get_new_ne _ _ _ (by omega)) (by simp only [new_n];omega)
     obtain ⟨v',s8,e8,r8,n8,low8,_,m8,mm8,_⟩:=append_row (bytes:=24) (row:=[.int .i64 F.box,.int .i64 F.hour,.int .i64 F.grams]) hR3 (get_new_eq _ _ _ rfl (by omega)) rfl rfl (by rw [List.length_map];omega) (by kernel_rfl) (by simp only [new_n];omega) (by simp only [new_n];omega)
     obtain ⟨ok8,c8,sc8⟩:=r8.scalar
     simp only [new_n] at n8
     refine .inl ⟨by omega,_,_,by
      simp (disch:=first|omega|(with_unfolding_all exact rfl)|(simp only[new_n,put_n,new_m];omega)|(refine put_m_le ?_;simp only[new_m];omega)) only [K32l0,res32,K32r0,K32r1,K32r2,K32r3,K32r4,K32r5s17,K32r5s16,K32r5s15,K32r5s14,K32r5s13,K32r5s12,K32r5s11,K32r5s10,K32r5s9,K32r5s8,K32r5s7,K32r5,K32r6,K32r7,K32r8,K32r9,K32r10,K32r11,K32r12,K32r13,K32r14,K32,Abs.W,reduceIte,Nat.reduceEqDiff,Nat.reduceAdd,decide_true,decide_false,kLoop_def,Nat.reduceSub,List.cons_append,List.nil_append,List.append_nil,List.length_cons,List.length_nil,Env.find_set,p2,p5',p13,q11,q12,e0,e1,g5t,gvt,kv2,lv2,okS,r2,r3t,r4',hn1,hixv,hnv,ok1,e8,ok8,ad,regD_ok,Nat.zero_add]
      rfl,out'++[F],v',by omega,?_,?_,by rw [List.length_append,List.length_singleton];omega,fun c hc=>?_,by omega,by omega,fun j hj hj2=>m8 j (by omega) (by rw [new_m];exact q8 j hj hj2),by rw [new_m] at mm8;omega,?_,?_,fun c hc=>?_⟩
     ·rw [List.map_append];exact r8
     ·rw [q3,hdr,scoopF_take hle,List.append_assoc];rfl
     ·rw [low8 c hc,get_new_ne _ _ _ (by omega)];exact q5 c hc
     ·simp only [Env.find_set,find_cons,reduceIte,Nat.reduceEqDiff]
     ·simp only [Env.find_set,find_cons,reduceIte,Nat.reduceEqDiff]
     ·rw [← q c hc]
      simp only [Env.find_set,find_cons]
      repeat rw [if_neg (by omega)]
    ·have e1:decide (F.hour≤v)=false:=decide_eq_false hle
     refine .inr ⟨.exit 2,_,t',by simp,by
      simp (disch:=first|omega|(with_unfolding_all exact rfl)|(simp only[new_n,put_n,new_m];omega)|(refine put_m_le ?_;simp only[new_m];omega)) only [K32l0,res32,K32r0,K32r1,K32r2,K32r3,K32r4,K32r5s17,K32r5s16,K32r5s15,K32r5s14,K32r5s13,K32r5s12,K32r5s11,K32r5s10,K32r5s9,K32r5s8,K32r5s7,K32r5,K32r6,K32r7,K32r8,K32r9,K32r10,K32r11,K32r12,K32r13,K32r14,K32,Abs.W,reduceIte,Nat.reduceEqDiff,Nat.reduceAdd,decide_true,decide_false,kLoop_def,Nat.reduceSub,List.cons_append,List.nil_append,List.append_nil,List.length_cons,List.length_nil,Env.find_set,p2,p5',p13,q11,q12,e0,e1,g5t,gvt,kv2,lv2,okS,r2,r3t,hn1,hixv,hnv,ok1,regD_ok,Nat.zero_add]
      rfl,rfl,a+k,out',vo',by omega,by omega,q2,?_,by omega,q5,q6,by omega,q8,q9,?_,?_,fun c hc=>?_⟩
     ·rw [q3,hdr,scoopF_stop hle]
     ·simp only [Env.find_set,find_cons,q11,reduceIte,Nat.reduceEqDiff]
     ·simp only [Env.find_set,find_cons,q12,reduceIte,Nat.reduceEqDiff]
     ·rw [← q c hc]
      simp only [Env.find_set,find_cons]
      repeat rw [if_neg (by omega)]
   ·have hak:a+k=fs.length:=by omega
    have e0:decide (((a+k:Nat):Int)<(fs.length:Int))=false:=decide_eq_false (by omega)
    refine .inr ⟨.exit 2,_,t',by simp,by
     simp (disch:=first|omega|(with_unfolding_all exact rfl)|(simp only[new_n,put_n,new_m];omega)|(refine put_m_le ?_;simp only[new_m];omega)) only [K32l0,res32,K32r0,K32r1,K32r2,K32r3,K32r4,K32r5s17,K32r5s16,K32r5s15,K32r5s14,K32r5s13,K32r5s12,K32r5s11,K32r5s10,K32r5s9,K32r5s8,K32r5s7,K32r5,K32r6,K32r7,K32r8,K32r9,K32r10,K32r11,K32r12,K32r13,K32r14,K32,Abs.W,reduceIte,Nat.reduceEqDiff,Nat.reduceAdd,decide_true,decide_false,kLoop_def,Nat.reduceSub,List.cons_append,List.nil_append,List.append_nil,List.length_cons,List.length_nil,Env.find_set,p2,p5',p13,q11,q12,e0,g5t,kv2,lv2,ok1,regD_ok,Nat.zero_add]
     rfl,rfl,a+k,out',vo',by omega,by omega,q2,?_,by omega,q5,q6,by omega,q8,q9,?_,?_,fun c hc=>?_⟩
    ·rw [q3,hak,List.drop_length,scoopF_none]
    ·simp only [Env.find_set,find_cons,q11,reduceIte,Nat.reduceEqDiff]
    ·simp only [Env.find_set,find_cons,q12,reduceIte,Nat.reduceEqDiff]
    ·rw [← q c hc]
     simp only [Env.find_set,find_cons]
     repeat rw [if_neg (by omega)])
 exact ⟨L1,t,a',out',vo',rfl,h1,h2,h3,h4,h5,h6,h7,h8,h9,h10,h11,h12,h13⟩
end Go.Proofs.Ytkoefjgapmonaaa.walk
set_option maxRecDepth 10000
namespace Go.Proofs.Ytkoefjgapmonaaa.walk
open Go.Abs Go.Proofs.Ytkoefjgapmonaaa.code
theorem sc_put (N:Nat) {cx:Ctx} {s:St} {L:Env} {r:R} {lo i bv:Nat} {b g v:Int} {vn vo:AV} {out:List Fill} {vs0:List Int} {n:Nat} {ns0:List Nat} (hr:loopN K32l1 rounds (call Try.prog X N) cx L [] s=r)
  (hlo:lo≤s.n) (hS:RowsAt s.h lo 1 (ints (numL ns0)) vn) (hO:Abs.Rows s.h lo s.n 3 (tag 55) (out.map Fill.cells) vo) (hbv:bv<lo) (gv:∃ sz,s.h.get bv=some (.cells (ints vs0).flatten sz)) (hi:i<vs0.length) (hi2:i<ns0.length) (hv:vs0[i]=v) (hn:ns0[i]=n) (hn5:n≤5) (hol:out.length≤100) (hs:s.n+1000≤far) (hm:s.m≤far)
  (l1:L.find 1=.int .i64 b) (l2:L.find 2=.slice bv 0 vs0.length vs0.length true) (l3:L.find 3=vn) (l4:L.find 4=.int .i64 g) (l11:L.find 11=vo) (l13:L.find 13=.int .i64 (i:Int)) (l14:L.find 14=.int .i64 0) :
  ∃ L1 t vo',r=.done (.exit 4) L1 [] t∧Abs.Rows t.h lo t.n 3 (tag 55) ((out++List.replicate n (⟨b,v,g⟩:Fill)).map Fill.cells) vo'∧(∀ c,c<lo→t.h.get c=s.h.get c)∧s.n≤t.n∧t.n≤s.n+10∧(∀ k,k≤lo→k≤s.m→k≤t.m)∧t.m≤s.m∧L1.find 11=vo'∧∀ c,c<6∨c=10∨c=12∨c=13→L1.find c=L.find c:=by
 have hf:far=1000000000:=rfl
 have kvn:∀ t,okA (.val vn t)=.val vn t:=fun t=>okA_ne hS.ne
 have okS:∀ t,okA (.val (.slice bv 0 vs0.length vs0.length true) t)=.val (.slice bv 0 vs0.length vs0.length true) t:=fun _=>rfl
 obtain ⟨szv,gv⟩:=gv
 have hixv:∀ st,ixsA 1 st (.slice bv 0 vs0.length vs0.length true) (.int .i64 (i:Int))=.val (.ptr bv i) st:=fun st=>ixs_intsC st bv hi
 have hnv:nth (ints vs0).flatten i=.int .i64 v:=by rw [nth_intsC vs0 i hi,hv]
 have hnl:(numL ns0).length=ns0.length:=by unfold numL;rw [List.length_map]
 obtain ⟨bb,pp,cc,zz,r1,r2,r3,r4⟩:=rowInt hS (show i<(numL ns0).length by omega)
 have e4:(numL ns0)[i]'(by omega)=((n:Nat):Int):=by rw [← hn];unfold numL;rw [List.getElem_map];rfl
 rw [e4] at r4
 obtain ⟨e,L1,t,rfl,rfl,vo',h1,h2,h3,h4,h5,h6,h7,h8⟩:=loop_of hr
  (fun k L' t'=>∃ vo',Abs.Rows t'.h lo t'.n 3 (tag 55) ((out++List.replicate k (⟨b,v,g⟩:Fill)).map Fill.cells) vo'∧(∀ c,c<lo→t'.h.get c=s.h.get c)∧s.n≤t'.n∧t'.n≤s.n+2 * k∧(∀ k,k≤lo→k≤s.m→k≤t'.m)∧t'.m≤s.m∧L'.find 11=vo'∧L'.find 14=.int .i64 (k:Int)∧∀ c,c<6∨c=10∨c=12∨c=13→L'.find c=L.find c)
  (fun e L' t'=>e=.exit 4∧∃ vo',Abs.Rows t'.h lo t'.n 3 (tag 55) ((out++List.replicate n (⟨b,v,g⟩:Fill)).map Fill.cells) vo'∧(∀ c,c<lo→t'.h.get c=s.h.get c)∧s.n≤t'.n∧t'.n≤s.n+10∧(∀ k,k≤lo→k≤s.m→k≤t'.m)∧t'.m≤s.m∧L'.find 11=vo'∧∀ c,c<6∨c=10∨c=12∨c=13→L'.find c=L.find c) n (by unfold rounds;omega)
  ⟨vo,by simpa using hO,fun _ _=>rfl,Nat.le_refl _,Nat.le_refl _,fun _ _ h=>h,Nat.le_refl _,l11,l14,fun _ _=>rfl⟩
  (fun k L' t' hk' ⟨vo',q2,q5,q6,q7,q8,q9,q11,q14,q⟩=>by
   have p1:=(q 1 (by omega)).trans l1
   have p2:=(q 2 (by omega)).trans l2
   have p3:=(q 3 (by omega)).trans l3
   have p4:=(q 4 (by omega)).trans l4
   have p13:=(q 13 (by omega)).trans l13
   have gvt:=(q5 bv hbv).trans gv
   have r3t:=(q5 bb r1).trans r3
   obtain ⟨ok1,c1,sc1⟩:=q2.scalar
   have ad:∀ s,aAdd s .i64 (k:Int) 1=.val (.int .i64 ((k+1:Nat):Int)) s:=fun s=>aAdd_i64 s _ _ (by omega)
   by_cases hlt:k<n
   ·have e0:decide ((k:Int)<(n:Int))=true:=decide_eq_true (by omega)
    have hR3:Abs.Rows (t'.new (.cells [.int .i64 b,.int .i64 v,.int .i64 g] 0)).h lo (t'.new (.cells [.int .i64 b,.int .i64 v,.int .i64 g] 0)).n 3 (tag 55) ((out++List.replicate k (⟨b,v,g⟩:Fill)).map Fill.cells) vo':=q2.mono (fun c hc hcn=>get_new_ne _ _ _ (by omega)) (by simp only [new_n];omega)
    obtain ⟨v',s8,e8,r8,n8,low8,_,m8,mm8,_⟩:=append_row (bytes:=24) (row:=[.int .i64 b,.int .i64 v,.int .i64 g]) hR3 (get_new_eq _ _ _ rfl (by omega)) rfl rfl (by rw [List.length_map,List.length_append,List.length_replicate];omega) (by kernel_rfl) (by simp only [new_n];omega) (by simp only [new_n];omega)
    obtain ⟨ok8,c8,sc8⟩:=r8.scalar
    simp only [new_n] at n8
    refine .inl ⟨by omega,_,_,by
     simp (disch:=first|omega|(with_unfolding_all exact rfl)|(simp only[new_n,put_n,new_m];omega)|(refine put_m_le ?_;simp only[new_m];omega)) only [K32l1,res32,K32r0,K32r1,K32r2,K32r3,K32r4,K32r5s17,K32r5s16,K32r5s15,K32r5s14,K32r5s13,K32r5s12,K32r5s11,K32r5s10,K32r5s9,K32r5s8,K32r5s7,K32r5,K32r6,K32r7,K32r8,K32r9,K32r10,K32r11,K32r12,K32r13,K32r14,K32,Abs.W,reduceIte,Nat.reduceEqDiff,Nat.reduceAdd,decide_true,decide_false,kLoop_def,Nat.reduceSub,List.cons_append,List.nil_append,List.append_nil,List.length_cons,List.length_nil,Env.find_set,p1,p2,p3,p4,p13,q11,q14,e0,gvt,kvn,okS,r2,r3t,r4,hixv,hnv,ok1,e8,ok8,ad,regD_ok,Nat.zero_add]
     rfl,v',?_,fun c hc=>?_,by omega,by omega,fun j hj hj2=>m8 j (by omega) (by rw [new_m];exact q8 j hj hj2),by rw [new_m] at mm8;omega,?_,?_,fun c hc=>?_⟩
    ·rw [List.replicate_succ',← List.append_assoc,List.map_append];exact r8
    ·rw [low8 c hc,get_new_ne _ _ _ (by omega)];exact q5 c hc
    ·simp only [Env.find_set,find_cons,reduceIte,Nat.reduceEqDiff]
    ·simp only [Env.find_set,find_cons,reduceIte,Nat.reduceEqDiff]
    ·rw [← q c hc]
     simp only [Env.find_set,find_cons]
     repeat rw [if_neg (by omega)]
   ·obtain rfl:k=n:=by omega
    have e0:decide ((k:Int)<(k:Int))=false:=by simp
    refine .inr ⟨.exit 4,_,t',by simp,by
     simp (disch:=first|omega|(with_unfolding_all exact rfl)|(simp only[new_n,put_n,new_m];omega)|(refine put_m_le ?_;simp only[new_m];omega)) only [K32l1,res32,K32r0,K32r1,K32r2,K32r3,K32r4,K32r5s17,K32r5s16,K32r5s15,K32r5s14,K32r5s13,K32r5s12,K32r5s11,K32r5s10,K32r5s9,K32r5s8,K32r5s7,K32r5,K32r6,K32r7,K32r8,K32r9,K32r10,K32r11,K32r12,K32r13,K32r14,K32,Abs.W,reduceIte,Nat.reduceEqDiff,Nat.reduceAdd,decide_true,decide_false,kLoop_def,Nat.reduceSub,List.cons_append,List.nil_append,List.append_nil,List.length_cons,List.length_nil,Env.find_set,p3,p13,q14,e0,kvn,r2,r3t,r4,regD_ok,Nat.zero_add]
     rfl,rfl,vo',q2,q5,q6,by omega,q8,q9,?_,fun c hc=>?_⟩
    ·simp only [Env.find_set,find_cons,q11,reduceIte,Nat.reduceEqDiff]
    ·rw [← q c hc]
     simp only [Env.find_set,find_cons]
     repeat rw [if_neg (by omega)])
 exact ⟨L1,t,vo',rfl,h1,h2,h3,h4,h5,h6,h7,h8⟩
theorem sc_outer (N:Nat) {cx:Ctx} {s:St} {L:Env} {r:R} {p5 z5 lo bv:Nat} {hl hh b g:Int} {v1 v2 v3 vn:AV} {fs:List Fill} {vs0:List Int} {ns0:List Nat} (hr:loopN K32l2 rounds (call Try.prog X N) cx L [] s=r)
  (g5:s.h.get p5=some (.cells [.int .i64 hl,.int .i64 hh,v1,v2,v3] z5)) (hp5:p5<lo) (hlo:lo≤s.n) (hF:RowsAt s.h lo 3 (fs.map Fill.cells) v2) (hS:RowsAt s.h lo 1 (ints (numL ns0)) vn) (hbv:bv<lo) (gv:∃ sz,s.h.get bv=some (.cells (ints vs0).flatten sz)) (hlen:vs0.length=ns0.length) (hv2:vs0.length≤2) (hn5:∀ n ∈ ns0,n≤5) (hfl:fs.length≤10) (hs:s.n+2000≤far) (hm:s.m≤far)
  (l1:L.find 1=.int .i64 b) (l2:L.find 2=.slice bv 0 vs0.length vs0.length true) (l3:L.find 3=vn) (l4:L.find 4=.int .i64 g) (l5:L.find 5=.ptr p5 0) (l11:L.find 11=.nilslice) (l12:L.find 12=.int .i64 0) (l13:L.find 13=.int .i64 0) :
  ∃ L1 t a' out' vo',r=.done (.exit 0) L1 [] t∧a'≤fs.length∧Abs.Rows t.h lo t.n 3 (tag 55) (out'.map Fill.cells) vo'∧scoopF b g vs0 ns0 fs=out'++fs.drop a'∧out'.length≤20∧(∀ c,c<lo→t.h.get c=s.h.get c)∧s.n≤t.n∧t.n≤s.n+80∧(∀ k,k≤lo→k≤s.m→k≤t.m)∧t.m≤s.m∧L1.find 11=vo'∧L1.find 12=.int .i64 (a':Int)∧∀ c,c<6∨c=10→L1.find c=L.find c:=by
 have hf:far=1000000000:=rfl
 have okS:∀ t,okA (.val (.slice bv 0 vs0.length vs0.length true) t)=.val (.slice bv 0 vs0.length vs0.length true) t:=fun _=>rfl
 have ll:∀ s,lenSlA s (.slice bv 0 vs0.length vs0.length true)=.val (.int .i64 (vs0.length:Int)) s:=fun _=>rfl
 obtain ⟨e,L1,t,rfl,rfl,a',out',vo',h1,h2,h3,h4,h5,h6,h7,h8,h9,h10,h11,h12⟩:=loop_of hr
  (fun k L' t'=>∃ a' out' vo',a'≤fs.length∧Abs.Rows t'.h lo t'.n 3 (tag 55) (out'.map Fill.cells) vo'∧scoopF b g vs0 ns0 fs=out'++scoopF b g (vs0.drop k) (ns0.drop k) (fs.drop a')∧out'.length≤a'+5 * k∧(∀ c,c<lo→t'.h.get c=s.h.get c)∧s.n≤t'.n∧t'.n≤s.n+2 * a'+10 * k∧(∀ k,k≤lo→k≤s.m→k≤t'.m)∧t'.m≤s.m∧L'.find 11=vo'∧L'.find 12=.int .i64 (a':Int)∧L'.find 13=.int .i64 (k:Int)∧∀ c,c<6∨c=10→L'.find c=L.find c)
  (fun e L' t'=>e=.exit 0∧∃ a' out' vo',a'≤fs.length∧Abs.Rows t'.h lo t'.n 3 (tag 55) (out'.map Fill.cells) vo'∧scoopF b g vs0 ns0 fs=out'++fs.drop a'∧out'.length≤20∧(∀ c,c<lo→t'.h.get c=s.h.get c)∧s.n≤t'.n∧t'.n≤s.n+80∧(∀ k,k≤lo→k≤s.m→k≤t'.m)∧t'.m≤s.m∧L'.find 11=vo'∧L'.find 12=.int .i64 (a':Int)∧∀ c,c<6∨c=10→L'.find c=L.find c) vs0.length (by unfold rounds;omega)
  ⟨0,[],.nilslice,Nat.zero_le _,⟨fun r hr=>(by cases hr),.inl ⟨rfl,rfl⟩⟩,rfl,Nat.le_refl _,fun _ _=>rfl,Nat.le_refl _,Nat.le_refl _,fun _ _ h=>h,Nat.le_refl _,l11,l12,l13,fun _ _=>rfl⟩
  (fun k L' t' hk' ⟨a',out',vo',q1,q2,q3,q4,q5,q6,q7,q8,q9,q11,q12,q13,q⟩=>by
   have p1:=(q 1 (by omega)).trans l1
   have p2:=(q 2 (by omega)).trans l2
   have p3:=(q 3 (by omega)).trans l3
   have p4:=(q 4 (by omega)).trans l4
   have p5':=(q 5 (by omega)).trans l5
   by_cases hlt:k<vs0.length
   ·have e0:decide ((k:Int)<(vs0.length:Int))=true:=decide_eq_true (by omega)
    have ad:∀ s,aAdd s .i64 (k:Int) 1=.val (.int .i64 ((k+1:Nat):Int)) s:=fun s=>aAdd_i64 s _ _ (by omega)
    have dv:vs0.drop k=vs0[k]::vs0.drop (k+1):=List.drop_eq_getElem_cons hlt
    have dn:ns0.drop k=ns0[k]'(by omega)::ns0.drop (k+1):=List.drop_eq_getElem_cons (by omega)
    simp (disch:=first|omega|(with_unfolding_all exact rfl)|(simp only[new_n,put_n,new_m];omega)|(refine put_m_le ?_;simp only[new_m];omega)) only [K32l2,K32r4,K32r8,K32r12,Abs.W,reduceIte,Nat.reduceEqDiff,Nat.reduceAdd,decide_true,decide_false,kLoop_def,Nat.reduceSub,List.cons_append,List.nil_append,List.append_nil,List.length_cons,List.length_nil,Env.find_set,p2,q13,e0,ll,okS]
    generalize hl1:loopN _ rounds _ _ _ _ _=y1
    obtain ⟨L2,t2,a2,out2,vo2,rfl,j1,j2,j3,j4,j5,j6,j7,j8,j9,j10,j11,j12,j13⟩:=sc_take N (b:=b) (g:=g) (vs:=vs0.drop (k+1)) (n:=ns0[k]'(by omega)) (ns:=ns0.drop (k+1)) (i:=k) hl1 ((q5 p5 hp5).trans g5) hp5 (by omega) (hF.grow (fun c hc=>q5 c hc) (Nat.le_refl _)) q2 hbv (by rw [q5 bv hbv];exact gv) hlt rfl q1 hfl (by omega) (by omega) (by omega) (by simp only [Env.find_set,p2,reduceIte,Nat.reduceEqDiff]) (by simp only [Env.find_set,p5',reduceIte,Nat.reduceEqDiff]) (by simp only [Env.find_set,q11,reduceIte,Nat.reduceEqDiff]) (by simp only [Env.find_set,q12,reduceIte,Nat.reduceEqDiff]) (by simp only [Env.find_set,q13,reduceIte,Nat.reduceEqDiff])
    have j13':∀ c,c<6∨c=10∨c=13→L2.find c=L'.find c:=fun c hc=>by
     rw [j13 c hc]
     simp only [Env.find_set,find_cons]
     repeat rw [if_neg (by omega)]
    simp (disch:=first|omega|(with_unfolding_all exact rfl)|(simp only[new_n,put_n,new_m];omega)|(refine put_m_le ?_;simp only[new_m];omega)) only [K32r8,K32r12,Abs.W,reduceIte,Nat.reduceEqDiff,Nat.reduceAdd,decide_true,decide_false,kLoop_def,Nat.reduceSub,List.cons_append,List.nil_append,List.append_nil,List.length_cons,List.length_nil,Env.find_set]
    generalize hl2:loopN _ rounds _ _ _ _ _=y2
    obtain ⟨L3,t3,vo3,rfl,k1,k2,k3,k4,k5,k6,k7,k8⟩:=sc_put N (b:=b) (g:=g) (i:=k) (ns0:=ns0) (n:=ns0[k]'(by omega)) hl2 (by omega) (hS.grow (fun c hc=>(j6 c hc).trans (q5 c hc)) (Nat.le_refl _)) j3 hbv (by rw [j6 bv hbv,q5 bv hbv];exact gv) hlt (by omega) rfl rfl (hn5 _ (List.getElem_mem _)) (by omega) (by omega) (by omega) (by simp only [Env.find_set,find_cons,j13' 1 (by omega),p1,reduceIte,Nat.reduceEqDiff]) (by simp only [Env.find_set,find_cons,j13' 2 (by omega),p2,reduceIte,Nat.reduceEqDiff]) (by simp only [Env.find_set,find_cons,j13' 3 (by omega),p3,reduceIte,Nat.reduceEqDiff]) (by simp only [Env.find_set,find_cons,j13' 4 (by omega),p4,reduceIte,Nat.reduceEqDiff]) (by simp only [Env.find_set,find_cons,j11,reduceIte,Nat.reduceEqDiff]) (by simp only [Env.find_set,find_cons,j13' 13 (by omega),q13,reduceIte,Nat.reduceEqDiff]) (by simp only [Env.find_set,find_cons,reduceIte,Nat.reduceEqDiff])
    have k8':∀ c,c<6∨c=10∨c=12∨c=13→L3.find c=L2.find c:=fun c hc=>by
     rw [k8 c hc]
     simp only [Env.find_set,find_cons]
     repeat rw [if_neg (by omega)]
    have w13:=(k8' 13 (by omega)).trans ((j13' 13 (by omega)).trans q13)
    simp (disch:=first|omega|(with_unfolding_all exact rfl)|(simp only[new_n,put_n,new_m];omega)|(refine put_m_le ?_;simp only[new_m];omega)) only [K32r12,Abs.W,reduceIte,Nat.reduceEqDiff,Nat.reduceAdd,decide_true,decide_false,kLoop_def,Nat.reduceSub,List.cons_append,List.nil_append,List.append_nil,List.length_cons,List.length_nil,Env.find_set,w13,ad]
    have hnk:=hn5 (ns0[k]'(by omega)) (List.getElem_mem _)
    refine .inl ⟨hlt,_,_,rfl,a2,out2++List.replicate (ns0[k]'(by omega)) ⟨b,vs0[k],g⟩,vo3,j2,k1,?_,by rw [List.length_append,List.length_replicate];omega,fun c hc=>(k2 c hc).trans ((j6 c hc).trans (q5 c hc)),by omega,by omega,fun j hj hj2=>k5 j hj (j9 j hj (q8 j hj hj2)),by omega,?_,?_,?_,fun c hc=>?_⟩
    ·rw [q3,dv,dn,j4,List.append_assoc]
    ·simp only [Env.find_set,find_cons,k7,reduceIte,Nat.reduceEqDiff]
    ·simp only [Env.find_set,find_cons,k8' 12 (by omega),j12,reduceIte,Nat.reduceEqDiff]
    ·simp only [Env.find_set,find_cons,reduceIte,Nat.reduceEqDiff]
    ·rw [← q c hc,← j13' c (by omega),← k8' c (by omega)]
     simp only [Env.find_set,find_cons]
     repeat rw [if_neg (by omega)]
   ·obtain rfl:k=vs0.length:=by omega
    have e0:decide ((vs0.length:Int)<(vs0.length:Int))=false:=by simp
    refine .inr ⟨.exit 0,_,t',by simp,by
     simp (disch:=first|omega|(with_unfolding_all exact rfl)|(simp only[new_n,put_n,new_m];omega)|(refine put_m_le ?_;simp only[new_m];omega)) only [K32l2,K32r4,Abs.W,reduceIte,Nat.reduceEqDiff,Nat.reduceAdd,decide_true,decide_false,kLoop_def,Nat.reduceSub,List.cons_append,List.nil_append,List.append_nil,List.length_cons,List.length_nil,Env.find_set,p2,q13,e0,ll,okS]
     rfl,rfl,a',out',vo',q1,q2,?_,by omega,q5,q6,by omega,q8,q9,?_,?_,fun c hc=>?_⟩
    ·rw [q3,List.drop_length];unfold scoopF;rfl
    ·simp only [Env.find_set,find_cons,q11,reduceIte,Nat.reduceEqDiff]
    ·simp only [Env.find_set,find_cons,q12,reduceIte,Nat.reduceEqDiff]
    ·rw [← q c hc]
     simp only [Env.find_set,find_cons]
     repeat rw [if_neg (by omega)])
 exact ⟨L1,t,a',out',vo',rfl,h1,h2,h3,h4,h5,h6,h7,h8,h9,h10,h11,h12⟩
end Go.Proofs.Ytkoefjgapmonaaa.walk
set_option maxRecDepth 10000
namespace Go.Abs
theorem sl_from {h:Heap} {lo n tg a:Nat} {rows:List (List AV)} {v:AV} (r:Rows h lo n 3 tg rows v) (ha:a≤rows.length):∃ y,(∀ s,sliceVal 3 (some (.int .i64 (a:Int))) none s v=.val y s)∧lenA y=some (rows.drop a).length∧(∀ s:St,(∀ c,c<n→s.h.get c=h.get c)→firstA 3 (rows.drop a).length s y=some (rows.drop a).flatten)∧∀ t,okA (.val y t)=.val y t:=by
 have hl:(rows.drop a).length=rows.length - a:=List.length_drop
 rcases r.is with ⟨h2,h3⟩ | ⟨b,hlb,hbn,h3,h4⟩
 ·subst h2;subst h3
  have:a=0:=by simpa using ha
  subst this
  exact ⟨.nilslice,fun _=>rfl,rfl,fun _ _=>rfl,fun _=>rfl⟩
 ·subst h3
  by_cases e:a<rows.length
  ·refine ⟨.slice b (0+a * 3) (rows.length - a) (rows.length - a) true,fun s=>slice_from 3 s b 0 _ _ _ _ (Nat.le_refl _) ha e,by rw [hl];rfl,fun s hs=>?_,fun _=>rfl⟩
   show (match s.h.get b with | some (.cells c _)=>cut (0+a * 3) ((rows.drop a).length * 3) c | some (.fam c _ k _)=>cut (0+a * 3) ((rows.drop a).length * 3) (c.take k) | _=>none)=_
   rw [hs b hbn,h4]
   show cut (0+a * 3) ((rows.drop a).length * 3) rows.flatten=_
   have wt:∀ x ∈ rows.take a,x.length=3:=fun x hx=>r.wide x (List.mem_of_mem_take hx)
   have wd:∀ x ∈ rows.drop a,x.length=3:=fun x hx=>r.wide x (List.mem_of_mem_drop hx)
   have lt:(rows.take a).flatten.length=a * 3:=by rw [flatten_len wt,List.length_take,Nat.min_eq_left ha]
   have ld:=flatten_len wd
   have e1:rows.flatten=(rows.take a).flatten++(rows.drop a).flatten:=by rw [← List.flatten_append,List.take_append_drop]
   rw [e1,Nat.zero_add,← lt,← ld]
   have:=cut_skip (rows.take a).flatten (rows.drop a).flatten 0 (rows.drop a).flatten.length
   rw [Nat.add_zero] at this
   rw [this,cut_zero,cut1_all]
  ·have ea:a=rows.length:=by omega
   subst ea
   have hd:rows.drop rows.length=[]:=List.drop_length
   rw [hd]
   exact ⟨.tail b (0+rows.length * 3),fun s=>slice_end 3 s b 0 _ _ (Nat.le_refl _) (Nat.le_refl _),rfl,fun _ _=>rfl,fun _=>rfl⟩
end Go.Abs
namespace Go.Proofs.Ytkoefjgapmonaaa.walk
open Go.Abs Go.Proofs.Ytkoefjgapmonaaa.code
theorem Scooped_ex {N lo0 n0 bv:Nat} {s:St} {r:ARes} {hl hh b g:Int} {v1 v2 v3 vn:AV} {fs:List Fill} {vs:List Int} {ns:List Nat} (hr:call Try.prog X N (.fn 32) [.agg [.int .i64 hl,.int .i64 hh,v1,v2,v3],.int .i64 b,.slice bv 0 vs.length vs.length true,vn,.int .i64 g] s=r) (hN:1≤N) (hF:Abs.Rows s.h lo0 n0 3 (tag 55) (fs.map Fill.cells) v2) (hn0:n0≤s.n) (h1:v1.scalar=true) (hp1:plain v1=false) (h3:v3.scalar=true) (hS:RowsAt s.h s.n 1 (ints (numL ns)) vn) (hbv:bv<s.n) (gv:∃ sz,s.h.get bv=some (.cells (ints vs).flatten sz)) (hlen:vs.length=ns.length) (hv2:vs.length≤2) (hn5:∀ n ∈ ns,n≤5) (hfl:fs.length≤10) (hs:s.n+3000≤far) :
  ∃ v2' t,r=.val (.agg [.int .i64 hl,.int .i64 hh,v1,v2',v3]) t∧New s t 100∧Abs.Rows t.h s.n t.n 3 (tag 55) ((scoopF b g vs ns fs).map Fill.cells) v2':=by
 obtain ⟨n,rfl⟩:∃ n,N=n+1:=⟨N - 1,by omega⟩
 have hf:far=1000000000:=rfl
 obtain ⟨w',t,e,st,v2',rfl,hq⟩:=call_new (n:=n) (args:=[.agg [.int .i64 hl,.int .i64 hh,v1,v2,v3],.int .i64 b,.slice bv 0 vs.length vs.length true,vn,.int .i64 g]) (s:=s) (k:=100) (Q:=fun w h m=>∃ v2',w=.agg [.int .i64 hl,.int .i64 hh,v1,v2',v3]∧Abs.Rows h s.n m 3 (tag 55) ((scoopF b g vs ns fs).map Fill.cells) v2') Try.func32 rfl (fun u uh un um=>by
  rw [← uh,← un] at hS
  rw [← uh] at hF gv
  rw [← un]
  have sh:shapeT Try.prog 31=some (some 5):=by kernel_rfl
  obtain ⟨ok2,c2,sc2⟩:=hF.scalar
  have hR2:RowsAt u.h n0 3 (fs.map Fill.cells) v2:=hF.at_
  have s2:v2.scalar=true:=by rcases hF.is with ⟨_,z⟩ | ⟨_,_,_,z,_⟩<;>subst z<;>rfl
  obtain ⟨w,hw⟩:∃ w:St,w=(u.new (.cells [.int .i64 hl,.int .i64 hh,v1,v2,v3] (tag 31))).new (.cells [.int .i64 0,.int .i64 0,.nilslice,.nilslice,.nilslice] (tag 31)):=⟨_,rfl⟩
  have wn:w.n=u.n+2:=by rw [hw];rfl
  have wm:w.m=far:=by rw [hw];exact um
  have wg:∀ c,c<u.n→w.h.get c=u.h.get c:=fun c hc=>by rw [hw,get_new_ne _ _ _ (by simp only [new_n];omega),get_new_ne _ _ _ (by omega)]
  have w0:w.h.get u.n=some (.cells [.int .i64 hl,.int .i64 hh,v1,v2,v3] (tag 31)):=by rw [hw,get_new_ne _ _ _ (by simp only [new_n];omega)];exact get_new_eq _ _ _ rfl (by omega)
  have w1:w.h.get (u.n+1)=some (.cells [.int .i64 0,.int .i64 0,.nilslice,.nilslice,.nilslice] (tag 31)):=by rw [hw];exact get_new_eq _ _ _ rfl (by simp only [new_n];omega)
  have nn1:∀ o,(u.new o).n=u.n+1:=fun _=>rfl
  rw [enter32]
  simp (disch:=first|omega|(with_unfolding_all exact rfl)|(simp only[new_n,put_n,new_m];omega)|(refine put_m_le ?_;simp only[new_m];omega)) only [K32,K32r0,K32r1,K32r2,K32r3,Abs.W,reduceIte,Nat.reduceEqDiff,Nat.reduceAdd,decide_true,decide_false,kLoop_def,Nat.reduceSub,List.cons_append,List.nil_append,List.append_nil,List.length_cons,List.length_nil,nn1]
  rw [← hw]
  generalize hlp:loopN _ rounds _ _ _ _ _=q1
  obtain ⟨L1,t,a',out',vo',rfl,j1,j2,j3,j4,j5,j6,j7,j8,j9,j10,j11,j12⟩:=sc_outer n (bv:=bv) (b:=b) (g:=g) (lo:=u.n+2) (fs:=fs) (vs0:=vs) (ns0:=ns) hlp w0 (by omega) (by omega) (hR2.grow (fun c hc=>wg c (by omega)) (by omega)) (hS.grow (fun c hc=>wg c hc) (by omega)) (by omega) (by rw [wg bv (by omega)];exact gv) hlen hv2 hn5 hfl (by omega) (by omega) (by simp only [find_cons,reduceIte,Nat.reduceEqDiff]) (by simp only [find_cons,reduceIte,Nat.reduceEqDiff]) (by simp only [find_cons,reduceIte,Nat.reduceEqDiff]) (by simp only [find_cons,reduceIte,Nat.reduceEqDiff]) (by simp only [find_cons,reduceIte,Nat.reduceEqDiff]) (by simp only [find_cons,reduceIte,Nat.reduceEqDiff]) (by simp only [find_cons,reduceIte,Nat.reduceEqDiff]) (by simp only [find_cons,reduceIte,Nat.reduceEqDiff])
  have q5:L1.find 5=.ptr u.n 0:=(j12 5 (by omega)).trans (by simp only [find_cons,reduceIte,Nat.reduceEqDiff])
  have q10:L1.find 10=.ptr (u.n+1) 0:=(j12 10 (by omega)).trans (by simp only [find_cons,reduceIte,Nat.reduceEqDiff])
  have t0:=(j5 u.n (by omega)).trans w0
  have t1:=(j5 (u.n+1) (by omega)).trans w1
  obtain ⟨y,y1,y2,y3,y4⟩:=sl_from (a:=a') hF (by rw [List.length_map];exact j1)
  rw [← List.map_drop] at y2 y3
  have sfl:scalars ((fs.drop a').map Fill.cells).flatten=true:=scalars_flatten (fill_scalars _)
  obtain ⟨v2',x,e8,r8,n8,k8,g8,m8,ml8⟩:=app_rows (bytes:=24) (y:=y) j2 y2 (y3 t fun c hc=>(j5 c (by omega)).trans (wg c (by omega))) (fill_wide _) sfl (by rw [List.length_map,List.length_map,List.length_drop];omega) (by kernel_rfl) (by omega) (by omega)
  obtain ⟨okO,cO,scO⟩:=j2.scalar
  obtain ⟨okx,cx',scx⟩:=r8.scalar
  have x0:=(g8 u.n (by omega)).trans t0
  have x1:=(g8 (u.n+1) (by omega)).trans t1
  have e3:∀ l,scalars (v1::l)=scalars l:=fun l=>by show (match v1.scalar with | true=>scalars l | false=>false)=_;rw [h1]
  have e4:scalars [v3]=true:=by show (match v3.scalar with | true=>scalars [] | false=>false)=_;rw [h3];rfl
  obtain ⟨z,hz⟩:∃ z:St,z=(x.put u.n (.cells [.int .i64 hl,.int .i64 hh,v1,v2',v3] (tag 31))).put (u.n+1) (.cells [.int .i64 hl,.int .i64 hh,v1,v2',v3] (tag 31)):=⟨_,rfl⟩
  simp (disch:=first|omega|(with_unfolding_all exact rfl)|(simp only[new_n,put_n,new_m];omega)|(refine put_m_le ?_;simp only[new_m];omega)) only [K32r13,K32r14,Abs.W,reduceIte,Nat.reduceEqDiff,Nat.reduceAdd,decide_true,decide_false,kLoop_def,Nat.reduceSub,List.cons_append,List.nil_append,List.append_nil,List.length_cons,List.length_nil,Env.find_set,q5,q10,j10,j11,t0,kSlice_def,optEv_some,optEv_none,ok2,y1,y4,e8,okO,okx,cx',scx,x0,x1,e3,e4,Nat.zero_add]
  rw [← hz,res32]
  have zx:∀ c,c≠u.n→c≠u.n+1→z.h.get c=x.h.get c:=fun c hc1 hc2=>by rw [hz,get_put_ne' _ _ _ _ hc2,get_put_ne' _ _ _ _ hc1]
  have z1:z.h.get (u.n+1)=some (.cells [.int .i64 hl,.int .i64 hh,v1,v2',v3] (tag 31)):=by rw [hz];exact get_put_eq _ _ _ _ rfl (by omega)
  have zn:z.n=x.n:=by rw [hz];rfl
  have zm:z.m=min (min x.m u.n) (u.n+1):=by rw [hz];simp only [St.put,minN_eq]
  have mm1:=j8 u.n (by omega) (by omega)
  have mm2:=m8 u.n (by omega) mm1
  refine ⟨_,_,leave_cell1 _ _ _ _ sh (v:=.agg [.int .i64 hl,.int .i64 hh,v1,v2',v3]) ?_,⟨fun c hc=>?_,by omega,by omega,by omega,by omega⟩,?_,v2',rfl,?_⟩
  ·rw [q10,load_ptr,z1]
   simp (disch:=first|omega|(with_unfolding_all exact rfl)|(simp only[new_n,put_n,new_m];omega)|(refine put_m_le ?_;simp only[new_m];omega)) only [Abs.W,reduceIte,Nat.reduceEqDiff,Nat.reduceAdd,decide_true,decide_false,kLoop_def,Nat.reduceSub,List.cons_append,List.nil_append,List.append_nil,List.length_cons,List.length_nil]
  ·rw [zx c (by omega) (by omega),g8 c (by omega),j5 c (by omega),wg c hc]
  ·show (match plain v1 with | true=>plains [v2',v3] | false=>false)=false
   rw [hp1]
  ·rw [j3,List.map_append]
   exact rows_lower (r8.mono (fun c hc hcn=>zx c (by omega) (by omega)) (by omega)) (by omega))
 exact ⟨v2',t,hr.symm.trans e,st,hq⟩
def staysB (c:Cellar) (b:Nat) (u:Nat):Bool:=decide (∀ h,h<u→0<c.iceLo b h)
theorem stays_ok (N:Nat) (hN:12≤N) {lo0 n0 bv:Nat} {s:St} {v1 v2 v3 vn:AV} {g:Int} {vs:List Int} {ns:List Nat} (c:Cellar) (ok:c.Ok) (b u:Nat) (hb:b<c.boxes.length) (hu:u≤240) (hC:CellarNew s.h lo0 n0 c v1 v2 v3) (hn0:n0≤s.n) (hS:RowsAt s.h s.n 1 (ints (numL ns)) vn) (hbv:bv<s.n) (gv:∃ sz,s.h.get bv=some (.cells (ints vs).flatten sz)) (hlen:vs.length=ns.length) (hv2:vs.length≤2) (hn5:∀ n ∈ ns,n≤5) (hfl:c.fills.length≤10) (hg:1≤g∧g≤100000) (hin:∀ w ∈ vs,0≤w∧w≤239) (hsort:vs.Pairwise (·<·)) (hs:s.n+400000≤far) :
  call Try.prog X N (.fn 13) [.agg [.int .i64 c.hl,.int .i64 c.hh,v1,v2,v3],.int .i64 (b:Int),.slice bv 0 vs.length vs.length true,vn,.int .i64 g,.int .i64 (u:Int)] s=.val (.bool (staysB (c.scooped b g vs ns) b u)) s:=by
 obtain ⟨n,rfl⟩:∃ n,N=n+1:=⟨N - 1,by omega⟩
 refine call_plain' Try.func13 (fun U uh un um=>?_) rfl
 have hf:far=1000000000:=rfl
 rw [← uh] at hC gv
 rw [← uh,← un] at hS
 have ok':=Cellar.scooped_ok ok hfl hb (g:=g) hg (vs:=vs) (ns:=ns) hv2 hin hsort hn5
 have hp1:plain v1=false:=by
  rcases hC.b.is with ⟨z,_⟩ | ⟨_,_,_,z,_⟩
  ·have:c.boxes.length=0:=by have:=congrArg List.length z;rwa [List.length_map] at this
   omega
  ·subst z;rfl
 have h1:=rows_scal hC.b
 have h2:=rows_scal hC.f
 have h3:=rows_scal hC.r
 have kvn:∀ t,okA (.val vn t)=.val vn t:=fun t=>okA_ne hS.ne
 have okS:∀ t,okA (.val (.slice bv 0 vs.length vs.length true) t)=.val (.slice bv 0 vs.length vs.length true) t:=fun _=>rfl
 have e3:∀ l,scalars (v1::l)=scalars l:=fun l=>by show (match v1.scalar with | true=>scalars l | false=>false)=_;rw [h1]
 have e4:scalars [v3]=true:=by show (match v3.scalar with | true=>scalars [] | false=>false)=_;rw [h3];rfl
 have e5:∀ l,scalars (v2::l)=scalars l:=fun l=>by show (match v2.scalar with | true=>scalars l | false=>false)=_;rw [h2]
 obtain ⟨w,hw⟩:∃ w:St,w=U.new (.cells [.int .i64 c.hl,.int .i64 c.hh,v1,v2,v3] (tag 31)):=⟨_,rfl⟩
 have wn:w.n=U.n+1:=by rw [hw];rfl
 have wm:w.m=far:=by rw [hw];exact um
 have wg:∀ c,c<U.n→w.h.get c=U.h.get c:=fun c hc=>by rw [hw,get_new_ne _ _ _ (by omega)]
 have w0:w.h.get U.n=some (.cells [.int .i64 c.hl,.int .i64 c.hh,v1,v2,v3] (tag 31)):=by rw [hw];exact get_new_eq _ _ _ rfl (by omega)
 rw [enter13]
 simp (disch:=first|omega|(with_unfolding_all exact rfl)|(simp only[new_n,put_n,new_m];omega)|(refine put_m_le ?_;simp only[new_m];omega)) only [K13,K13r0,Abs.W,reduceIte,Nat.reduceEqDiff,Nat.reduceAdd,decide_true,decide_false,kLoop_def,Nat.reduceSub,List.cons_append,List.nil_append,List.append_nil,List.length_cons,List.length_nil]
 rw [← hw]
 simp (disch:=first|omega|(with_unfolding_all exact rfl)|(simp only[new_n,put_n,new_m];omega)|(refine put_m_le ?_;simp only[new_m];omega)) only [K13r1,Abs.W,reduceIte,Nat.reduceEqDiff,Nat.reduceAdd,decide_true,decide_false,kLoop_def,Nat.reduceSub,List.cons_append,List.nil_append,List.append_nil,List.length_cons,List.length_nil,Env.find_set,find_cons,w0,okS,kvn,Nat.zero_add]
 generalize hc:call _ _ _ (.fn 32) _ _=r1
 have hCw:CellarNew w.h lo0 n0 c v1 v2 v3:=hC.mono (fun x h1 h2=>wg x (by omega)) (Nat.le_refl _)
 obtain ⟨v2',t1,rfl,st1,hR⟩:=Scooped_ex (b:=(b:Int)) (g:=g) hc (by omega) hCw.f (by omega) h1 hp1 h3 (hS.grow (fun x hx=>wg x hx) (by omega)) (by omega) (by rw [wg bv (by omega)];exact gv) hlen hv2 hn5 hfl (by omega)
 have t1n:=st1.n
 have t1l:=st1.le
 have t1m:t1.m=far:=st1.m.trans wm
 have t1g:=st1.same
 have hv2':=rows_scal hR
 have e6:∀ l,scalars (v2'::l)=scalars l:=fun l=>by show (match v2'.scalar with | true=>scalars l | false=>false)=_;rw [hv2']
 obtain ⟨y,hy⟩:∃ y:St,y=(t1.new (.cells [.int .i64 0,.int .i64 0,.nilslice,.nilslice,.nilslice] (tag 31))).put t1.n (.cells [.int .i64 c.hl,.int .i64 c.hh,v1,v2',v3] (tag 31)):=⟨_,rfl⟩
 have yn:y.n=t1.n+1:=by rw [hy];rfl
 have ym:y.m=t1.n:=by rw [hy];simp only [St.put,minN_eq,new_m];omega
 have yg:∀ c,c<t1.n→y.h.get c=t1.h.get c:=fun c hc=>by rw [hy,get_put_ne' _ _ _ _ (by omega),get_new_ne _ _ _ (by omega)]
 have y0:y.h.get t1.n=some (.cells [.int .i64 c.hl,.int .i64 c.hh,v1,v2',v3] (tag 31)):=by rw [hy];exact get_put_eq _ _ _ _ rfl (by omega)
 have hCy:CellarIn y.h y.n (c.scooped b g vs ns) v1 v2' v3:=by
  have hRy:Abs.Rows y.h w.n y.n 3 (tag 55) ((scoopF b g vs ns c.fills).map Fill.cells) v2':=hR.mono (fun x h1 h2=>yg x (by omega)) (by omega)
  have back:∀ x,x<n0→y.h.get x=U.h.get x:=fun x hx=>(yg x (by omega)).trans ((t1g x (by omega)).trans (wg x (by omega)))
  exact ⟨⟨hC.b.at_.grow back (by omega),hRy.at_,hC.r.at_.grow back (by omega)⟩,hRy.seq,h1,h3⟩
 simp (disch:=first|omega|(with_unfolding_all exact rfl)|(simp only[new_n,put_n,new_m];omega)|(refine put_m_le ?_;simp only[new_m];omega)) only [K13r2,Abs.W,reduceIte,Nat.reduceEqDiff,Nat.reduceAdd,decide_true,decide_false,kLoop_def,Nat.reduceSub,List.cons_append,List.nil_append,List.append_nil,List.length_cons,List.length_nil,Env.find_set,find_cons,e3,e4,e6]
 rw [← hy]
 generalize hlp:loopN _ rounds _ _ _ _ _=q1
 have ex0:∀ (a b:AV) (s:St),extA 0 s (.tup [a,b])=.val a s:=fun _ _ _=>rfl
 have ex1:∀ (a b:AV) (s:St),extA 1 s (.tup [a,b])=.val b s:=fun _ _ _=>rfl
 obtain ⟨e,L1,t,rfl,hee⟩:=loop_of hlp (fun k L t=>t=y∧L.find 1=.int .i64 (b:Int)∧L.find 5=.int .i64 (u:Int)∧L.find 13=.ptr t1.n 0∧L.find 14=.int .i64 (k:Int)∧∀ h,h<k→0<(c.scooped b g vs ns).iceLo b h)
  (fun e L t=>(t.m=y.m∧e=.exit 0∧∀ h,h<u→0<(c.scooped b g vs ns).iceLo b h)∨(t.m=y.m∧e=.ret∧L.find 12=.bool false∧¬ ∀ h,h<u→0<(c.scooped b g vs ns).iceLo b h)) u (by unfold rounds;omega)
  ⟨rfl,by simp only [find_cons,Env.find_set,reduceIte,Nat.reduceEqDiff],by simp only [find_cons,Env.find_set,reduceIte,Nat.reduceEqDiff],by simp only [find_cons,Env.find_set,reduceIte,Nat.reduceEqDiff],by simp only [find_cons,Env.find_set,reduceIte,Nat.reduceEqDiff];rfl,fun h hh=>absurd hh (Nat.not_lt_zero _)⟩
  (fun k L t hk ⟨ht,l1,l5,l13,l14,hall⟩=>by
   subst ht
   by_cases hlt:k<u
   ·have e0:decide ((k:Int)<(u:Int))=true:=decide_eq_true (by omega)
    have hcold:=Cold_ok (N:=n) (s:=t) (box:=(b:Int)) (hour:=(k:Int)) (c.scooped b g vs ns) ok' b k hb (by omega) rfl rfl (by omega) hCy (by omega)
    have ad:∀ s,aAdd s .i64 (k:Int) 1=.val (.int .i64 ((k+1:Nat):Int)) s:=fun s=>aAdd_i64 s _ _ (by omega)
    have hcc:((c.scooped b g vs ns).hl=c.hl)∧((c.scooped b g vs ns).hh=c.hh):=⟨rfl,rfl⟩
    rw [hcc.1,hcc.2] at hcold
    by_cases hpos:0<(c.scooped b g vs ns).iceLo b k
    ·rw [if_pos hpos] at hcold
     have n1:decide ((1:Int)=1)=true:=rfl
     have n0':decide ((0:Int)=0)=true:=rfl
     refine .inl ⟨hlt,_,_,by
      simp (disch:=first|omega|(with_unfolding_all exact rfl)|(simp only[new_n,put_n,new_m];omega)|(refine put_m_le ?_;simp only[new_m];omega)) only [K13l0,res13,K13r0,K13r1,K13r2,K13r3,K13r4,K13r5s5,K13r5s4,K13r5,K13r6,K13r7,K13r8,K13,Abs.W,reduceIte,Nat.reduceEqDiff,Nat.reduceAdd,decide_true,decide_false,kLoop_def,Nat.reduceSub,List.cons_append,List.nil_append,List.append_nil,List.length_cons,List.length_nil,Env.find_set,l1,l5,l13,l14,e0,y0,e3,e4,e6,hcold,ex0,ex1,n1,n0',ad,Nat.zero_add]
      rfl,rfl,?_,?_,?_,?_,fun h hh=>?_⟩
     ·simp only [Env.find_set,find_cons,l1,reduceIte,Nat.reduceEqDiff]
     ·simp only [Env.find_set,find_cons,l5,reduceIte,Nat.reduceEqDiff]
     ·simp only [Env.find_set,find_cons,l13,reduceIte,Nat.reduceEqDiff]
     ·simp only [Env.find_set,find_cons,reduceIte,Nat.reduceEqDiff]
     ·by_cases hk2:h=k
      ·subst hk2;exact hpos
      ·exact hall h (by omega)
    ·rw [if_neg hpos] at hcold
     obtain ⟨q,hq⟩:∃ q:Int,q=(if 0<(c.scooped b g vs ns).iceHi b k then 3 else 2):=⟨_,rfl⟩
     rw [← hq] at hcold
     have hq1:decide (q=1)=false:=decide_eq_false (by rw [hq];split<;>decide)
     have n0':decide ((0:Int)=0)=true:=rfl
     refine .inr ⟨.ret,_,_,by simp,by
      simp (disch:=first|omega|(with_unfolding_all exact rfl)|(simp only[new_n,put_n,new_m];omega)|(refine put_m_le ?_;simp only[new_m];omega)) only [K13l0,res13,K13r0,K13r1,K13r2,K13r3,K13r4,K13r5s5,K13r5s4,K13r5,K13r6,K13r7,K13r8,K13,Abs.W,reduceIte,Nat.reduceEqDiff,Nat.reduceAdd,decide_true,decide_false,kLoop_def,Nat.reduceSub,List.cons_append,List.nil_append,List.append_nil,List.length_cons,List.length_nil,Env.find_set,l1,l5,l13,l14,e0,y0,e3,e4,e6,hcold,ex0,ex1,hq1,n0',Nat.zero_add]
      rfl,.inr ⟨rfl,rfl,by simp only [Env.find_set,find_cons,reduceIte,Nat.reduceEqDiff],fun h=>hpos (h k hlt)⟩⟩
   ·obtain rfl:k=u:=by omega
    have e0:decide ((k:Int)<(k:Int))=false:=by simp
    refine .inr ⟨.exit 0,_,_,by simp,by
     simp (disch:=first|omega|(with_unfolding_all exact rfl)|(simp only[new_n,put_n,new_m];omega)|(refine put_m_le ?_;simp only[new_m];omega)) only [K13l0,res13,K13r0,K13r1,K13r2,K13r3,K13r4,K13r5s5,K13r5s4,K13r5,K13r6,K13r7,K13r8,K13,Abs.W,reduceIte,Nat.reduceEqDiff,Nat.reduceAdd,decide_true,decide_false,kLoop_def,Nat.reduceSub,List.cons_append,List.nil_append,List.append_nil,List.length_cons,List.length_nil,Env.find_set,l5,l14,e0]
     rfl,.inl ⟨rfl,rfl,hall⟩⟩)
 rcases hee with ⟨hm,rfl,hh⟩ | ⟨hm,rfl,l12,hh⟩
 ·have:staysB (c.scooped b g vs ns) b u=true:=decide_eq_true hh
  rw [this]
  simp (disch:=first|omega|(with_unfolding_all exact rfl)|(simp only[new_n,put_n,new_m];omega)|(refine put_m_le ?_;simp only[new_m];omega)) only [res13,K13r0,K13r1,K13r2,K13r3,K13r4,K13r5s5,K13r5s4,K13r5,K13r6,K13r7,K13r8,K13,Abs.W,reduceIte,Nat.reduceEqDiff,Nat.reduceAdd,decide_true,decide_false,kLoop_def,Nat.reduceSub,List.cons_append,List.nil_append,List.append_nil,List.length_cons,List.length_nil,Env.find_set]
  refine ⟨_,rfl,?_⟩
  omega
 ·have:staysB (c.scooped b g vs ns) b u=false:=decide_eq_false hh
  rw [this]
  simp (disch:=first|omega|(with_unfolding_all exact rfl)|(simp only[new_n,put_n,new_m];omega)|(refine put_m_le ?_;simp only[new_m];omega)) only [res13,K13r0,K13r1,K13r2,K13r3,K13r4,K13r5s5,K13r5s4,K13r5,K13r6,K13r7,K13r8,K13,Abs.W,reduceIte,Nat.reduceEqDiff,Nat.reduceAdd,decide_true,decide_false,kLoop_def,Nat.reduceSub,List.cons_append,List.nil_append,List.append_nil,List.length_cons,List.length_nil,Env.find_set,l12]
  refine ⟨_,rfl,?_⟩
  omega
end Go.Proofs.Ytkoefjgapmonaaa.walk
set_option maxRecDepth 10000
namespace Go.Proofs.Ytkoefjgapmonaaa.walk
open Go.Abs Go.Proofs.Ytkoefjgapmonaaa.code
def sufL:Nat→List (List Nat)
 | 0=>[[]]
 | k+1=>(List.range 6).flatMap fun n=>(sufL k).map (n::·)
theorem lists_suf:∀ (k:Nat) (b:List Nat),lists k b=(sufL k).map (b++·)
 | 0,b=>by show [b]=[b++[]];rw [List.append_nil]
 | k+1,b=>by
  show ((List.range 6).flatMap fun n=>lists k (b++[n]))=((List.range 6).flatMap fun n=>(sufL k).map (n::·)).map (b++·)
  rw [List.map_flatMap]
  congr 1
  funext n
  rw [lists_suf k,List.map_map]
  congr 1
  funext ns
  show b++[n]++ns=b++n::ns
  rw [List.append_assoc];rfl
theorem lists_nil (k:Nat):lists k []=sufL k:=by
 rw [lists_suf]
 have:(fun x:List Nat=>[]++x)=id:=by funext x;rfl
 rw [this,List.map_id]
theorem sufL_mem:∀ (k:Nat) (ns:List Nat),ns ∈ sufL k→ns.length=k∧∀ n ∈ ns,n≤5
 | 0,ns,h=>by
  have:ns=[]:=by simpa [sufL] using h
  subst this
  exact ⟨rfl,fun n hn=>by cases hn⟩
 | k+1,ns,h=>by
  obtain ⟨n,hn,hm⟩:=List.mem_flatMap.mp h
  obtain ⟨ms,hms,rfl⟩:=List.mem_map.mp hm
  obtain ⟨i1,i2⟩:=sufL_mem k ms hms
  refine ⟨by show ms.length+1=k+1;omega,fun x hx=>?_⟩
  rcases List.mem_cons.mp hx with rfl | hx
  ·have:=List.mem_range.mp hn;omega
  ·exact i2 x hx
def okX (g u:Int):List Int→List Nat→BoxNow→List (Int × Int)→Bool
 | _::vs,n::ns,x,fs=>match lstX g (nextOf u vs - x.hour).toNat n x fs with
  | none=>false
  | some y=>okX g u vs ns y.1 y.2
 | _,_,_,_=>true
def stepF (ok:List Nat→Bool) (pre:List Nat) (many:Nat) (b:Few) (ns:List Nat):Few:=if ok ns=true∧many+ns.sum<b.1 then (many+ns.sum,some (pre++ns)) else b
theorem fold_stay {ok:List Nat→Bool} {pre:List Nat} {many:Nat} {b:Few}:∀ {M:List (List Nat)},(∀ ns ∈ M,¬ (ok ns=true∧many+ns.sum<b.1))→M.foldl (stepF ok pre many) b=b
 | [],_=>rfl
 | a::M,h=>by
  rw [List.foldl_cons]
  have:stepF ok pre many b a=b:=if_neg (h a (by simp))
  rw [this]
  exact fold_stay fun ns hn=>h ns (List.mem_cons_of_mem _ hn)
theorem fold_flat {α β γ:Type} (f:γ→β→γ) (h:α→List β):∀ (l:List α) (b:γ),(l.flatMap h).foldl f b=l.foldl (fun b a=>(h a).foldl f b) b
 | [],_=>rfl
 | a::l,b=>by rw [List.flatMap_cons,List.foldl_append,List.foldl_cons,fold_flat f h l]
theorem fold_same {α β:Type} {f f':β→α→β} (h:∀ b a,f b a=f' b a):∀ (l:List α) (b:β),l.foldl f b=l.foldl f' b
 | [],_=>rfl
 | a::l,b=>by rw [List.foldl_cons,List.foldl_cons,h,fold_same h l]
theorem tryC_fold (g u:Int):∀ (vs:List Int) (pre:List Nat) (many:Nat) (x:BoxNow) (fs:List (Int × Int)) (b:Few),tryC g u vs pre many x fs b=(sufL vs.length).foldl (stepF (fun ns=>okX g u vs ns x fs) pre many) b
 | [],pre,many,x,fs,b=>by
  show (if b.1≤many then b else (many,some pre))=stepF (fun ns=>okX g u [] ns x fs) pre many b []
  unfold stepF
  by_cases h:b.1≤many
  ·rw [if_pos h,if_neg (fun hh=>by have:=hh.2;simp at this;omega)]
  ·rw [if_neg h,if_pos ⟨rfl,by simp;omega⟩,List.append_nil]
   simp
 | v::vs,pre,many,x,fs,b=>by
  rw [tryC_cons]
  by_cases h:b.1≤many
  ·rw [if_pos h,fold_stay (fun ns _ hh=>by have:=hh.2;omega)]
  ·rw [if_neg h]
   show _=((List.range 6).flatMap fun n=>(sufL vs.length).map (n::·)).foldl _ b
   rw [fold_flat]
   refine fold_same (fun b n=>?_) _ _
   rw [List.foldl_map]
   unfold tryStep
   cases hl:lstX g (nextOf u vs - x.hour).toNat n x fs with
   | none =>
    have e:∀ (b:Few) (ns:List Nat),stepF (fun ns=>okX g u (v::vs) ns x fs) pre many b (n::ns)=b:=fun b ns=>by
     unfold stepF
     rw [if_neg]
     rintro ⟨h1,_⟩
     have h1:(match lstX g (nextOf u vs - x.hour).toNat n x fs with | none=>false | some y=>okX g u vs ns y.1 y.2)=true:=h1
     rw [hl] at h1
     cases h1
    rw [fold_same e]
    have:∀ (l:List (List Nat)) (b:Few),l.foldl (fun b _=>b) b=b:=fun l=>by
     induction l with
     | nil=>intro b;rfl
     | cons a l ih=>intro b;exact ih b
    exact (this _ _).symm
   | some y =>
    show tryC g u vs (pre++[n]) (many+n) y.1 y.2 b=_
    rw [tryC_fold g u vs (pre++[n]) (many+n) y.1 y.2 b]
    refine fold_same (fun b ns=>?_) _ _
    have e1:okX g u (v::vs) (n::ns) x fs=okX g u vs ns y.1 y.2:=by
     show (match lstX g (nextOf u vs - x.hour).toNat n x fs with | none=>false | some y=>okX g u vs ns y.1 y.2)=_
     rw [hl]
    unfold stepF
    simp only [e1,List.sum_cons,List.append_assoc,List.cons_append,List.nil_append,Nat.add_assoc]
def Firsts (ok:List Nat→Bool) (B:Nat) (p:List (List Nat)) (r:Few):Prop:=match r.2 with
 | none=>r.1=B∧∀ c ∈ p,ok c=true→B≤c.sum
 | some l=>l ∈ p∧ok l=true∧l.sum=r.1∧r.1<B∧∀ a c d,p=a++c::d→ok c=true→l.sum<c.sum∨(l.sum=c.sum∧l ∈ a++[c])
theorem snoc_split {α:Type} {p a d:List α} {c z:α} (h:p++[z]=a++c::d):(d=[]∧a=p∧c=z)∨∃ d',p=a++c::d':=by
 rcases List.eq_nil_or_concat d with rfl | ⟨d',y,rfl⟩
 ·obtain ⟨h1,h2⟩:=List.append_inj' h rfl
  injection h2 with h2
  exact .inl ⟨rfl,h1.symm,h2.symm⟩
 ·rw [List.concat_eq_append] at h
  have h':p++[z]=(a++c::d')++[y]:=by rw [h,List.append_assoc];rfl
  exact .inr ⟨d',(List.append_inj' h' rfl).1⟩
theorem firsts_step {ok:List Nat→Bool} {B:Nat} {p:List (List Nat)} {r:Few} {z:List Nat} (h:Firsts ok B p r):Firsts ok B (p++[z]) (stepF ok [] 0 r z):=by
 unfold stepF
 by_cases hz:ok z=true∧0+z.sum<r.1
 ·rw [if_pos hz]
  rw [Nat.zero_add,List.nil_append] at *
  show z ∈ p++[z]∧ok z=true∧z.sum=z.sum∧z.sum<B∧_
  have hB:z.sum<B:=by
   unfold Firsts at h
   cases hr:r.2 with
   | none=>rw [hr] at h;have h:=h.1;omega
   | some l=>rw [hr] at h;have:=h.2.2.2.1;omega
  refine ⟨by simp,hz.1,rfl,hB,fun a c d he hc=>?_⟩
  rcases snoc_split he with ⟨rfl,rfl,rfl⟩ | ⟨d',hp⟩
  ·exact .inr ⟨rfl,by simp⟩
  ·left
   have hcp:c ∈ p:=by rw [hp];simp
   unfold Firsts at h
   cases hr:r.2 with
   | none=>rw [hr] at h;have:=h.2 c hcp hc;omega
   | some l =>
    rw [hr] at h
    obtain ⟨_,_,h3,_,h5⟩:=h
    rcases h5 a c d' hp hc with h | h<;>omega
 ·rw [if_neg hz]
  rw [Nat.zero_add] at hz
  unfold Firsts at *
  cases hr:r.2 with
  | none =>
   rw [hr] at h
   refine ⟨h.1,fun c hc hk=>?_⟩
   rcases List.mem_append.mp hc with hc | hc
   ·exact h.2 c hc hk
   ·rw [List.mem_singleton.mp hc] at hk ⊢
    have:=h.1
    rcases Nat.lt_or_ge z.sum B with h' | h'
    ·exact absurd ⟨hk,by omega⟩ hz
    ·exact h'
  | some l =>
   rw [hr] at h
   obtain ⟨h1,h2,h3,h4,h5⟩:=h
   refine ⟨List.mem_append_left _ h1,h2,h3,h4,fun a c d he hc=>?_⟩
   rcases snoc_split he with ⟨rfl,rfl,rfl⟩ | ⟨d',hp⟩
   ·rcases Nat.lt_or_ge c.sum r.1 with h' | h'
    ·exact absurd ⟨hc,h'⟩ hz
    ·rcases Nat.lt_or_ge l.sum c.sum with h'' | h''
     ·exact .inl h''
     ·exact .inr ⟨by omega,List.mem_append_left _ h1⟩
   ·exact h5 a c d' hp hc
theorem firsts_fold {ok:List Nat→Bool} {B:Nat}:∀ (q p:List (List Nat)) (r:Few),Firsts ok B p r→Firsts ok B (p++q) (q.foldl (stepF ok [] 0) r)
 | [],p,r,h=>by rw [List.append_nil];exact h
 | z::q,p,r,h=>by
  rw [List.foldl_cons,show p++z::q=(p++[z])++q by rw [List.append_assoc];rfl]
  exact firsts_fold q _ _ (firsts_step h)
def okF (g u:Int) (vs:List Int) (x:BoxNow) (fs:List (Int × Int)) (ns:List Nat):Bool:=match lstX g (nextOf u vs - x.hour).toNat 0 x fs with
 | none=>false
 | some y=>okX g u vs ns y.1 y.2
theorem fewC_firsts (g u:Int) (vs:List Int) (x:BoxNow) (fs:List (Int × Int)):∃ m,Firsts (okF g u vs x fs) (vs.length * 5+1) (sufL vs.length) (m,fewC g u vs x fs):=by
 unfold fewC
 cases hl:lstX g (nextOf u vs - x.hour).toNat 0 x fs with
 | none =>
  refine ⟨vs.length * 5+1,rfl,fun c _ hc=>?_⟩
  unfold okF at hc
  rw [hl] at hc
  cases hc
 | some y =>
  simp only
  rw [tryC_fold]
  have e:(fun ns=>okX g u vs ns y.1 y.2)=okF g u vs x fs:=by
   funext ns
   unfold okF
   rw [hl]
  rw [e]
  have:=firsts_fold (ok:=okF g u vs x fs) (B:=vs.length * 5+1) (sufL vs.length) [] (vs.length * 5+1,none) ⟨rfl,fun c hc=>by cases hc⟩
  rw [List.nil_append] at this
  exact ⟨_,this⟩
end Go.Proofs.Ytkoefjgapmonaaa.walk
set_option maxRecDepth 10000
namespace Go.Proofs.Ytkoefjgapmonaaa.walk
open Go.Abs Go.Proofs.Ytkoefjgapmonaaa.code
theorem lstX_keep {g:Int}:∀ (k n:Nat) (x:BoxNow) (fs:List (Int × Int)) (y:BoxNow × List (Int × Int)),lstX g k n x fs=some y→y.1.hour=x.hour+k∧y.1.room=x.room∧y.1.m1=x.m1
 | 0,_,x,fs,y,h=>by
  injection h with h
  subst h
  exact ⟨by show x.hour=x.hour+((0:Nat):Int);omega,rfl,rfl⟩
 | k+1,n,x,fs,y,h=>by
  rw [lstX_succ] at h
  split at h
  ·cases h
  ·obtain ⟨⟨q1,q2,q3,_⟩,q8⟩:=x.fill_like fs
   obtain ⟨⟨p1,p2,p3,_⟩,p8⟩:=puts_like g n (x.fill fs)
   generalize puts g n (x.fill fs)=w at *
   obtain ⟨r1,r2,r3⟩:=lstX_keep k 0 w.melt.tick (left x.hour fs) y h
   have e1:w.melt.tick.hour=w.hour+1:=rfl
   have e3:w.melt.tick.m1=w.m1:=rfl
   have e4:w.melt.tick.room=w.room:=rfl
   exact ⟨by omega,by omega,by omega⟩
theorem next_nat (uN:Nat) (vs:List Nat):nextOf (uN:Int) (numL vs)=((min (vs.headD uN) uN:Nat):Int):=by
 cases vs with
 | nil=>show min (uN:Int) (uN:Int)=((min uN uN:Nat):Int);omega
 | cons v vs=>show min (v:Int) (uN:Int)=((min v uN:Nat):Int);omega
theorem okX_chain (g:Int) (uN:Nat):∀ (vs ns:List Nat) (hour:Nat) (x:BoxNow) (fs:List (Int × Int)),x.hour=hour→okX g (uN:Int) (numL vs) ns x fs=Scoops.chain x.room x.m1 g uN vs ns hour x.i0 fs
 | [],ns,hour,x,fs,_=>by cases ns<;>rfl
 | v::vs,[],hour,x,fs,_=>rfl
 | v::vs,n::ns,hour,x,fs,hx=>by
  show (match lstX g (nextOf (uN:Int) (numL vs) - x.hour).toNat n x fs with | none=>false | some y=>okX g (uN:Int) (numL vs) ns y.1 y.2)=(match Scoops.lst x.room x.m1 g (min (vs.headD uN) uN - hour) n hour x.i0 fs with | none=>false | some y=>Scoops.chain x.room x.m1 g uN vs ns (max hour (min (vs.headD uN) uN)) y.1 y.2)
  have ek:(nextOf (uN:Int) (numL vs) - x.hour).toNat=min (vs.headD uN) uN - hour:=by rw [next_nat,hx];omega
  rw [ek]
  have hl:=lstX_lst g (min (vs.headD uN) uN - hour) n x fs
  rw [hx] at hl
  rw [← hl]
  cases hy:lstX g (min (vs.headD uN) uN - hour) n x fs with
  | none=>rfl
  | some y =>
   obtain ⟨k1,k2,k3⟩:=lstX_keep _ _ _ _ _ hy
   show okX g (uN:Int) (numL vs) ns y.1 y.2=Scoops.chain x.room x.m1 g uN vs ns (max hour (min (vs.headD uN) uN)) y.1.i0 y.2
   rw [okX_chain g uN vs ns (max hour (min (vs.headD uN) uN)) y.1 y.2 (by rw [k1,hx];omega),k2,k3]
theorem okF_good (g:Int) (uN:Nat) {vs ns:List Nat} {x:BoxNow} {fs:List (Int × Int)} (h0:x.hour=0) (hv0:vs≠[]) (hlen:vs.length=ns.length) (hsort:vs.Pairwise (·<·)) (hf:Scoops.From 0 fs):okF g (uN:Int) (numL vs) x fs ns=Scoops.good x.room x.m1 uN 0 x.i0 (Scoops.scoopL g (numL vs) ns fs):=by
 obtain ⟨v,r,rfl⟩:∃ v r,vs=v::r:=by
  cases vs with
  | nil=>exact absurd rfl hv0
  | cons v r=>exact ⟨v,r,rfl⟩
 obtain ⟨h1,h2⟩:=List.pairwise_cons.mp hsort
 have ek:(nextOf (uN:Int) (numL (v::r)) - x.hour).toNat=min v uN:=by rw [next_nat,h0];show (((min v uN:Nat):Int) - 0).toNat=_;omega
 have key:=Scoops.lst_before (g:=g) (room:=x.room) (mh:=x.m1) (vs:=numL (v::r)) (ns:=ns) (min v uN) (uN - min v uN) 0 x.i0 fs hf (fun w hw=>by
  have hw:w ∈ (v::r).map Int.ofNat:=hw
  obtain ⟨z,hz,rfl⟩:=List.mem_map.mp hw
  show (0:Int)+((min v uN:Nat):Int)≤(z:Int)
  rcases List.mem_cons.mp hz with rfl | hz
  ·omega
  ·have:=h1 z hz;omega)
 rw [show min v uN+(uN - min v uN)=uN by omega] at key
 rw [key]
 have hl:=lstX_lst g (min v uN) 0 x fs
 rw [h0] at hl
 rw [← hl]
 unfold okF
 rw [ek]
 cases hy:lstX g (min v uN) 0 x fs with
 | none=>rfl
 | some y =>
  obtain ⟨k1,k2,k3⟩:=lstX_keep _ _ _ _ _ hy
  show okX g (uN:Int) (numL (v::r)) ns y.1 y.2=Scoops.good x.room x.m1 (uN - min v uN) (0+((min v uN:Nat):Int)) y.1.i0 (Scoops.scoopL g (numL (v::r)) ns y.2)
  have hfr:=Scoops.lst_from (g:=g) (room:=x.room) (mh:=x.m1) (min v uN) 0 0 x.i0 fs (y.1.i0,y.2) hf (by rw [← hl,hy];rfl)
  have e0:(0:Int)+((min v uN:Nat):Int)=((min v uN:Nat):Int):=Int.zero_add _
  rw [e0] at hfr ⊢
  rw [okX_chain g uN (v::r) ns (min v uN) y.1 y.2 (by rw [k1,h0];omega),k2,k3]
  exact Scoops.chain_good (v::r) ns (min v uN) y.1.i0 y.2 hlen ⟨by omega,h1,h2⟩ hfr
theorem fill1_nonneg {room hour:Int} (hr:0≤room):∀ {fs:List (Int × Int)} {i:Int},0≤i→(∀ f ∈ fs,0≤f.2)→0≤fill1 room hour i fs
 | [],i,hi,_=>hi
 | (h,g)::r,i,hi,hf=>by
  unfold fill1
  split
  ·refine fill1_nonneg hr ?_ fun f hf'=>hf f (List.mem_cons_of_mem _ hf')
   have:0≤g:=hf (h,g) (by simp)
   omega
  ·exact hi
theorem lev_nonneg {room:Int} {melt:Int→Int} (hr:0≤room):∀ (k:Nat) (hour i:Int) (fs:List (Int × Int)),0≤i→(∀ f ∈ fs,0≤f.2)→0≤lev room melt k hour i fs
 | 0,_,_,_,hi,hf=>fill1_nonneg hr hi hf
 | k+1,hour,i,fs,_,hf=>lev_nonneg hr k _ _ _ (by omega) fun f hf'=>hf f (left_sub _ _ f hf')
theorem stays_okF {c:Cellar} (ok:c.Ok) (hfl:c.fills.length≤10) {b uN:Nat} (hb:b<c.boxes.length) {g:Int} (hg0:1≤g∧g≤100000) {vs ns:List Nat} (hv0:vs≠[]) (hv2:vs.length≤2) (hin:∀ w ∈ numL vs,0≤w∧w≤239) (hlen:vs.length=ns.length) (hn5:∀ n ∈ ns,n≤5) (hsort:vs.Pairwise (·<·)) (hsortI:(numL vs).Pairwise (·<·)):staysB (c.scooped b g (numL vs) ns) b uN=okF g (uN:Int) (numL vs) (c.box b).start (boxFills c b) ns:=by
 have hBok:(c.box b).Ok:=by
  unfold Cellar.box
  rw [List.getD_eq_getElem?_getD,List.getElem?_eq_getElem hb]
  exact ok.bok _ (List.getElem_mem hb)
 have hfs:=sort_of_before ok.fo
 have hfrom:Scoops.From 0 (boxFills c b):=by
  refine ⟨?_,fun f hf=>?_⟩
  ·have h1:(ofBox b c.fills).Pairwise (fun a b=>a.hour≤b.hour):=hfs.sublist List.filter_sublist
   exact List.pairwise_map.mpr h1
  ·obtain ⟨F,hF,rfl⟩:=List.mem_map.mp hf
   exact (ok.fok F (List.mem_filter.mp hF).1).h0
 have hof:(c.scooped b g (numL vs) ns).of b=Scoops.scoopL g (numL vs) ns (boxFills c b):=scoop_box hfs
 have ok':=Cellar.scooped_ok ok hfl hb hg0 (vs:=numL vs) (ns:=ns) (by unfold numL;rwa [List.length_map]) hin hsortI hn5
 have hgr:∀ f ∈ (c.scooped b g (numL vs) ns).of b,0≤f.2:=fun f hf=>by
  obtain ⟨F,hF,rfl⟩:=List.mem_map.mp hf
  exact (ok'.fok F (List.mem_filter.mp hF).1).g0
 rw [okF_good g uN rfl hv0 hlen hsort hfrom]
 have hice:∀ h,(c.scooped b g (numL vs) ns).iceLo b h=lev (c.box b).room (fun _=>(c.box b).mh) h 0 (c.box b).il ((c.scooped b g (numL vs) ns).of b):=fun h=>rfl
 have hst:(c.box b).start.room=(c.box b).room∧(c.box b).start.m1=(c.box b).mh∧(c.box b).start.i0=(c.box b).il:=⟨rfl,rfl,rfl⟩
 rw [hst.1,hst.2.1,hst.2.2]
 unfold staysB
 cases hgood:Scoops.good (c.box b).room (c.box b).mh uN 0 (c.box b).il (Scoops.scoopL g (numL vs) ns (boxFills c b)) with
 | true =>
  have:=(Scoops.good_iff _ _ _ _ _ _).mp hgood
  refine decide_eq_true fun h hh=>?_
  have h1:=this h hh
  have h2:=lev_nonneg (melt:=fun _=>(c.box b).mh) hBok.r0 h 0 (c.box b).il ((c.scooped b g (numL vs) ns).of b) hBok.i0 hgr
  rw [hice h]
  rw [hof] at h2 ⊢
  omega
 | false =>
  refine decide_eq_false fun hall=>?_
  have:Scoops.good (c.box b).room (c.box b).mh uN 0 (c.box b).il (Scoops.scoopL g (numL vs) ns (boxFills c b))=true:=(Scoops.good_iff _ _ _ _ _ _).mpr fun j hj hz=>by
   have:=hall j hj
   rw [hice j,hof] at this
   omega
  rw [this] at hgood
  cases hgood
end Go.Proofs.Ytkoefjgapmonaaa.walk
set_option maxRecDepth 10000
namespace Go.Proofs.Ytkoefjgapmonaaa.walk
open Go.Abs Go.Proofs.Ytkoefjgapmonaaa.code
noncomputable def awc (n:Nat):CallF:=knows 6 (call Try.prog X n)
noncomputable def cfTail:K:=(kSeq (kRegion K3r12 [13]) (kSeq (kRegion K3r13 [14]) (kSeq (kSeq (kRegion K3r14 [15]) (kBlock 0 (kLoop K3l0))) (kSeq (kRegion K3r22 [2]) kRet))))
noncomputable def cfRest:K:=(kSeq (kRegion K3r2 [4]) (kSeq (kSeq (kRegion K3r3 [25]) (kCond (.tmp 25) (kSeq (kRegion K3r4 [2]) kRet) kSkip)) (kSeq (kRegion K3r5 [5,6,7,8]) (kSeq (kRegion K3r6 [9,10]) (kSeq (kRegion K3r7 [11,12]) (kSeq (kSeq (kRegion K3r8 [84]) (kCond (.tmp 84) (kSeq (kRegion K3r9 [2]) kRet) kSkip)) (kSeq (kSeq (kRegion K3r10 [103]) (kCond (.tmp 103) (kSeq (kRegion K3r11 [2]) kRet) kSkip)) cfTail)))))))
theorem suf_sum:∀ (k:Nat) (ns:List Nat),ns ∈ sufL k→ns.sum≤k * 5:=fun k ns h=>by
 obtain ⟨h1,h2⟩:=sufL_mem k ns h
 subst h1
 clear h
 induction ns with
 | nil=>simp
 | cons a l ih =>
  rw [List.sum_cons,List.length_cons,Nat.succ_mul]
  have:=h2 a (by simp)
  have:=ih fun n hn=>h2 n (List.mem_cons_of_mem _ hn)
  omega
theorem few_none {g u:Int} {vs:List Int} {x:BoxNow} {fs:List (Int × Int)} (h:fewC g u vs x fs=none):∀ ns ∈ sufL vs.length,okF g u vs x fs ns=false:=fun ns hn=>by
 obtain ⟨m,hF⟩:=fewC_firsts g u vs x fs
 unfold Firsts at hF
 rw [h] at hF
 cases hk:okF g u vs x fs ns with
 | false=>rfl
 | true =>
  have:=hF.2 ns hn hk
  have:=suf_sum _ _ hn
  omega
theorem few_some {g u:Int} {vs:List Int} {x:BoxNow} {fs:List (Int × Int)} {l:List Nat} (h:fewC g u vs x fs=some l):l ∈ sufL vs.length∧okF g u vs x fs l=true∧∀ a c d,sufL vs.length=a++c::d→okF g u vs x fs c=true→l.sum<c.sum∨(l.sum=c.sum∧l ∈ a++[c]):=by
 obtain ⟨m,hF⟩:=fewC_firsts g u vs x fs
 unfold Firsts at hF
 rw [h] at hF
 exact ⟨hF.1,hF.2.1,hF.2.2.2.2⟩
theorem told_at {h:Heap} {lo n:Nat} {v:AV} {o:Option (List Nat)} (a:Told h lo n v o):RowsAt h n 1 (ints (numL (o.getD []))) v:=by
 cases o with
 | none =>
  have a':v=.nilslice:=a
  subst a'
  exact (Sl.nil (fun _=>True) h n 1).at_
 | some l =>
  obtain ⟨bc,rfl,h1,h2,h3⟩:=a
  have hl:(ints (numL l)).length=l.length:=by rw [ints_len];unfold numL;rw [List.length_map]
  by_cases e:l=[]
  ·subst e
   exact (⟨fun r hr=>(by cases hr),.inr ⟨bc,0,0,true,_,_,h2,rfl,h3,rfl⟩⟩:Seq h n 1 [] (.slice bc 0 0 0 true)).at_
  ·refine (⟨ints_wide _,.inr ⟨bc,0,l.length,true,_,_,h2,by rw [hl],h3,?_⟩⟩:Seq h n 1 (ints (numL l)) (.slice bc 0 l.length l.length true)).at_
   rw [cut_zero,← flatten_len (ints_wide (numL l)),cut1_all]
theorem numL_inj {a b:List Nat} (h:numL a=numL b):a=b:=by
 have h':=congrArg (List.map Int.toNat) h
 unfold numL at h'
 rw [List.map_map,List.map_map] at h'
 have:(Int.toNat ∘ Int.ofNat)=id:=by funext x;rfl
 rwa [this,List.map_id,List.map_id] at h'
structure CfEnv (L:Env) (p4 b bv K uN:Nat) (g:Int) (rv w:AV) (e:Int) (B:Bool) (i:Nat):Prop where
 l4:L.find 4=.ptr p4 0
 l5:L.find 5=.int .i64 (b:Int)
 l6:L.find 6=.slice bv 0 K K true
 l7:L.find 7=.int .i64 g
 l8:L.find 8=.int .i64 (uN:Int)
 l9:L.find 9=rv
 l10:L.find 10=.int .i64 e
 l13:L.find 13=w
 l14:L.find 14=.bool B
 l15:L.find 15=.int .i64 (i:Int)
theorem cf_round (n:Nat) (hn:30≤n) (cx:Ctx) {t:St} {L:Env} {p4 bv b uN b2 lo0 n0 i:Nat} {c:Cellar} {v1 v2 v3 rv w:AV} {vs:List Int} {g e:Int} {A:List Nat} {B:Bool} {M:List (List Nat)} {no:Nat→Prop} (ok:c.Ok) (hfl:c.fills.length≤10) (hb:b<c.boxes.length) (hC:CellarNew t.h lo0 n0 c v1 v2 v3) (hn0:n0≤t.n) (g4:t.h.get p4=some (.cells [.int .i64 c.hl,.int .i64 c.hh,v1,v2,v3] (tag 31))) (gv:∃ sz,t.h.get bv=some (.cells (ints vs).flatten sz)) (hbv:bv<t.n) (hv2:vs.length≤2) (hsort:vs.Pairwise (·<·)) (hin:∀ w ∈ vs,0≤w∧w≤239) (hg:1≤g∧g≤100000) (hu:uN≤240) (hA:RowsAt t.h t.n 1 (ints (numL A)) rv) (hAl:A.length≤2) (hA5:∀ x ∈ A,x≤5) (hs:t.n+1000000≤far) (hT:TabI t.h t.n b2 no (numT M) w) (hM:∀ l ∈ M,l.length=vs.length∧∀ x ∈ l,x≤5) (hMl:M.length≤100) (hi:i<M.length) (E:CfEnv L p4 b bv vs.length uN g rv w e B i) (he:e=0∨e=3)
  (hno:¬ (e=0∧(A.sum<(M[i]).sum∨(M[i]).sum=A.sum∧(B && !decide (M[i]=A))=false))→staysB (c.scooped b g vs M[i]) b uN=false) :
  ∃ L1,K3l0 (awc n) cx L [] t=.done .norm L1 [] t∧CfEnv L1 p4 b bv vs.length uN g rv w e (B && !decide (M[i]=A)) (i+1):=by
 have hff:far=1000000000:=rfl
 have knTot:∀ args s,awc n (.fn 12) args s=call Try.prog X n (.fn 12) args s:=fun _ _=>rfl
 have knStay:∀ args s,awc n (.fn 13) args s=call Try.prog X n (.fn 13) args s:=fun _ _=>rfl
 have knSame:∀ args s,awc n (.fn 15) args s=call Try.prog X n (.fn 15) args s:=fun _ _=>rfl
 obtain ⟨l4,l5,l6,l7,l8,l9,l10,l13,l14,l15⟩:=E
 have kvW:=hT.okA
 have hTl:(numT M).length=M.length:=by unfold numT;rw [List.length_map]
 have lvW:∀ s,lenSlA s w=.val (.int .i64 (M.length:Int)) s:=fun s=>by rw [hT.len s,hTl]
 have kvB:∀ t,okA (.val rv t)=.val rv t:=fun t=>okA_ne hA.ne
 have okV:∀ t,okA (.val (.slice bv 0 vs.length vs.length true) t)=.val (.slice bv 0 vs.length vs.length true) t:=fun _=>rfl
 obtain ⟨okc1,c1,sc1⟩:=hC.b.scalar
 obtain ⟨okc2,c2,sc2⟩:=hC.f.scalar
 obtain ⟨okc3,c3,sc3⟩:=hC.r.scalar
 have e0:decide ((i:Int)<(M.length:Int))=true:=decide_eq_true (by omega)
 obtain ⟨x,p,cc,sz,hx,ix,gx,nx⟩:=hT.get (j:=i) (by omega)
 have hmi:(numT M)[i]'(by omega)=numL M[i]:=by unfold numT;rw [List.getElem_map]
 rw [hmi] at hx
 have kvL:=hx.okA
 obtain ⟨m1,m2⟩:=hM M[i] (List.getElem_mem hi)
 have ad:∀ s,aAdd s .i64 (i:Int) 1=.val (.int .i64 ((i+1:Nat):Int)) s:=fun s=>aAdd_i64 s _ _ (by omega)
 have tot1:=total_ok n (by omega) M[i] x t hx.at_ (by omega) (fun y hy=>by have:=m2 y hy;omega) (by omega)
 have tot2:=total_ok n (by omega) A rv t hA (by omega) (fun y hy=>by have:=hA5 y hy;omega) (by omega)
 have hnl:(numL M[i]).length≤1000:=by unfold numL;rw [List.length_map];omega
 have hsm:=same_ok n (by omega) (numL M[i]) (numL A) x rv t hx.at_ hA hnl (by omega)
 have hdc:decide (numL M[i]=numL A)=decide (M[i]=A):=by
  by_cases h:M[i]=A
  ·rw [decide_eq_true h,decide_eq_true (by rw [h])]
  ·rw [decide_eq_false h,decide_eq_false (fun h'=>h (numL_inj h'))]
 rw [hdc] at hsm
 have stO:=stays_ok n (by omega) (g:=g) (vs:=vs) (ns:=M[i]) (vn:=x) c ok b uN hb hu hC hn0 hx.at_ hbv gv m1.symm hv2 m2 hfl hg hin hsort (by omega)
 have nT:∀ s,notA s (.bool true)=.val (.bool false) s:=fun _=>rfl
 have nF:∀ s,notA s (.bool false)=.val (.bool true) s:=fun _=>rfl
 generalize staysB (c.scooped b g vs M[i]) b uN=st at *
 generalize decide (M[i]=A)=S at *
 generalize (M[i]).sum=m at *
 generalize A.sum=mA at *
 have hno_lt:m<mA→st=false:=fun h=>hno (by
  rintro ⟨_,h1 | ⟨h1,_⟩⟩<;>omega)
 have hno_e:e=3→st=false:=fun h=>hno (by
  rintro ⟨h1,_⟩;omega)
 have hno_eq:m=mA→(B && !S)=true→st=false:=fun h hb=>hno (by
  rintro ⟨_,h1 | ⟨_,h2⟩⟩
  ·omega
  ·rw [hb] at h2;cases h2)
 clear hno
 cases B<;>cases S<;>rcases he with rfl | rfl
 all_goals simp only [Bool.not_false,Bool.not_true,Bool.and_true,Bool.and_false,Bool.false_and,Bool.true_and] at hno_eq ⊢
 all_goals have d00:decide ((0:Int)=0)=true:=rfl
 all_goals have d30:decide ((3:Int)=0)=false:=rfl
 all_goals rcases Nat.lt_trichotomy m mA with hlt | heq | hgt
 all_goals first
  | (
   have dgt:decide ((mA:Int)<(m:Int))=false:=decide_eq_false (by omega)
   have deq:decide ((m:Int)=(mA:Int))=false:=decide_eq_false (by omega)
   have hst:st=false:=hno_e rfl
   subst hst
   refine ⟨_,by
    simp (disch:=first|omega|(with_unfolding_all exact rfl)|(simp only[new_n,put_n,new_m];omega)|(refine put_m_le ?_;simp only[new_m];omega)) only [K3l0,res3,K3r0,K3r1,K3r2,K3r3,K3r4,K3r5,K3r6,K3r7,K3r8s24,K3r8s23,K3r8s22,K3r8s21,K3r8s20,K3r8s19,K3r8s18,K3r8s17,K3r8s16,K3r8s13,K3r8s12,K3r8s11,K3r8s10,K3r8s9,K3r8s8,K3r8s5,K3r8s4,K3r8,K3r9,K3r10s18,K3r10s17,K3r10s16,K3r10s15,K3r10s14,K3r10s13,K3r10s12,K3r10s11,K3r10s10,K3r10s9,K3r10s8,K3r10s7,K3r10s6,K3r10s5,K3r10s4,K3r10,K3r11,K3r12,K3r13,K3r14,K3r15,K3r16s9,K3r16s8,K3r16s7,K3r16s6,K3r16s5,K3r16s4,K3r16s3,K3r16,K3r17,K3r18s15,K3r18s14,K3r18s13,K3r18s12,K3r18s11,K3r18s10,K3r18s9,K3r18s8,K3r18s7,K3r18s6,K3r18s5,K3r18s4,K3r18,K3r19,K3r20,K3r21,K3r22s8,K3r22s5,K3r22s4,K3r22,K3,Abs.W,reduceIte,Nat.reduceEqDiff,Nat.reduceAdd,decide_true,decide_false,kLoop_def,Nat.reduceSub,List.cons_append,List.nil_append,List.append_nil,List.length_cons,List.length_nil,Env.find_set,l4,l5,l6,l7,l8,l9,l10,l13,l14,l15,e0,kvW,lvW,kvL,kvB,okV,ix,gx,nx,g4,sc1,sc2,sc3,scal_nil,okc1,okc2,okc3,knTot,knSame,knStay,tot1,tot2,hsm,stO,d00,d30,dgt,deq,ad,nT,nF,regD_ok,Nat.zero_add]
    rfl,?_,?_,?_,?_,?_,?_,?_,?_,?_,?_⟩
   all_goals simp only [Env.find_set,find_cons,l4,l5,l6,l7,l8,l9,l10,l13,l14,reduceIte,Nat.reduceEqDiff])
  | (
   have dgt:decide ((mA:Int)<(m:Int))=false:=decide_eq_false (by omega)
   have deq:decide ((m:Int)=(mA:Int))=true:=decide_eq_true (by omega)
   have hst:st=false:=hno_e rfl
   subst hst
   refine ⟨_,by
    simp (disch:=first|omega|(with_unfolding_all exact rfl)|(simp only[new_n,put_n,new_m];omega)|(refine put_m_le ?_;simp only[new_m];omega)) only [K3l0,res3,K3r0,K3r1,K3r2,K3r3,K3r4,K3r5,K3r6,K3r7,K3r8s24,K3r8s23,K3r8s22,K3r8s21,K3r8s20,K3r8s19,K3r8s18,K3r8s17,K3r8s16,K3r8s13,K3r8s12,K3r8s11,K3r8s10,K3r8s9,K3r8s8,K3r8s5,K3r8s4,K3r8,K3r9,K3r10s18,K3r10s17,K3r10s16,K3r10s15,K3r10s14,K3r10s13,K3r10s12,K3r10s11,K3r10s10,K3r10s9,K3r10s8,K3r10s7,K3r10s6,K3r10s5,K3r10s4,K3r10,K3r11,K3r12,K3r13,K3r14,K3r15,K3r16s9,K3r16s8,K3r16s7,K3r16s6,K3r16s5,K3r16s4,K3r16s3,K3r16,K3r17,K3r18s15,K3r18s14,K3r18s13,K3r18s12,K3r18s11,K3r18s10,K3r18s9,K3r18s8,K3r18s7,K3r18s6,K3r18s5,K3r18s4,K3r18,K3r19,K3r20,K3r21,K3r22s8,K3r22s5,K3r22s4,K3r22,K3,Abs.W,reduceIte,Nat.reduceEqDiff,Nat.reduceAdd,decide_true,decide_false,kLoop_def,Nat.reduceSub,List.cons_append,List.nil_append,List.append_nil,List.length_cons,List.length_nil,Env.find_set,l4,l5,l6,l7,l8,l9,l10,l13,l14,l15,e0,kvW,lvW,kvL,kvB,okV,ix,gx,nx,g4,sc1,sc2,sc3,scal_nil,okc1,okc2,okc3,knTot,knSame,knStay,tot1,tot2,hsm,stO,d00,d30,dgt,deq,ad,nT,nF,regD_ok,Nat.zero_add]
    rfl,?_,?_,?_,?_,?_,?_,?_,?_,?_,?_⟩
   all_goals simp only [Env.find_set,find_cons,l4,l5,l6,l7,l8,l9,l10,l13,l14,reduceIte,Nat.reduceEqDiff])
  | (
   have dgt:decide ((mA:Int)<(m:Int))=true:=decide_eq_true (by omega)
   have deq:decide ((m:Int)=(mA:Int))=false:=decide_eq_false (by omega)
   have hst:st=false:=hno_e rfl
   subst hst
   refine ⟨_,by
    simp (disch:=first|omega|(with_unfolding_all exact rfl)|(simp only[new_n,put_n,new_m];omega)|(refine put_m_le ?_;simp only[new_m];omega)) only [K3l0,res3,K3r0,K3r1,K3r2,K3r3,K3r4,K3r5,K3r6,K3r7,K3r8s24,K3r8s23,K3r8s22,K3r8s21,K3r8s20,K3r8s19,K3r8s18,K3r8s17,K3r8s16,K3r8s13,K3r8s12,K3r8s11,K3r8s10,K3r8s9,K3r8s8,K3r8s5,K3r8s4,K3r8,K3r9,K3r10s18,K3r10s17,K3r10s16,K3r10s15,K3r10s14,K3r10s13,K3r10s12,K3r10s11,K3r10s10,K3r10s9,K3r10s8,K3r10s7,K3r10s6,K3r10s5,K3r10s4,K3r10,K3r11,K3r12,K3r13,K3r14,K3r15,K3r16s9,K3r16s8,K3r16s7,K3r16s6,K3r16s5,K3r16s4,K3r16s3,K3r16,K3r17,K3r18s15,K3r18s14,K3r18s13,K3r18s12,K3r18s11,K3r18s10,K3r18s9,K3r18s8,K3r18s7,K3r18s6,K3r18s5,K3r18s4,K3r18,K3r19,K3r20,K3r21,K3r22s8,K3r22s5,K3r22s4,K3r22,K3,Abs.W,reduceIte,Nat.reduceEqDiff,Nat.reduceAdd,decide_true,decide_false,kLoop_def,Nat.reduceSub,List.cons_append,List.nil_append,List.append_nil,List.length_cons,List.length_nil,Env.find_set,l4,l5,l6,l7,l8,l9,l10,l13,l14,l15,e0,kvW,lvW,kvL,kvB,okV,ix,gx,nx,g4,sc1,sc2,sc3,scal_nil,okc1,okc2,okc3,knTot,knSame,knStay,tot1,tot2,hsm,stO,d00,d30,dgt,deq,ad,nT,nF,regD_ok,Nat.zero_add]
    rfl,?_,?_,?_,?_,?_,?_,?_,?_,?_,?_⟩
   all_goals simp only [Env.find_set,find_cons,l4,l5,l6,l7,l8,l9,l10,l13,l14,reduceIte,Nat.reduceEqDiff])
  | (
   have dgt:decide ((mA:Int)<(m:Int))=false:=decide_eq_false (by omega)
   have deq:decide ((m:Int)=(mA:Int))=false:=decide_eq_false (by omega)
   have hst:st=false:=hno_lt hlt
   subst hst
   refine ⟨_,by
    simp (disch:=first|omega|(with_unfolding_all exact rfl)|(simp only[new_n,put_n,new_m];omega)|(refine put_m_le ?_;simp only[new_m];omega)) only [K3l0,res3,K3r0,K3r1,K3r2,K3r3,K3r4,K3r5,K3r6,K3r7,K3r8s24,K3r8s23,K3r8s22,K3r8s21,K3r8s20,K3r8s19,K3r8s18,K3r8s17,K3r8s16,K3r8s13,K3r8s12,K3r8s11,K3r8s10,K3r8s9,K3r8s8,K3r8s5,K3r8s4,K3r8,K3r9,K3r10s18,K3r10s17,K3r10s16,K3r10s15,K3r10s14,K3r10s13,K3r10s12,K3r10s11,K3r10s10,K3r10s9,K3r10s8,K3r10s7,K3r10s6,K3r10s5,K3r10s4,K3r10,K3r11,K3r12,K3r13,K3r14,K3r15,K3r16s9,K3r16s8,K3r16s7,K3r16s6,K3r16s5,K3r16s4,K3r16s3,K3r16,K3r17,K3r18s15,K3r18s14,K3r18s13,K3r18s12,K3r18s11,K3r18s10,K3r18s9,K3r18s8,K3r18s7,K3r18s6,K3r18s5,K3r18s4,K3r18,K3r19,K3r20,K3r21,K3r22s8,K3r22s5,K3r22s4,K3r22,K3,Abs.W,reduceIte,Nat.reduceEqDiff,Nat.reduceAdd,decide_true,decide_false,kLoop_def,Nat.reduceSub,List.cons_append,List.nil_append,List.append_nil,List.length_cons,List.length_nil,Env.find_set,l4,l5,l6,l7,l8,l9,l10,l13,l14,l15,e0,kvW,lvW,kvL,kvB,okV,ix,gx,nx,g4,sc1,sc2,sc3,scal_nil,okc1,okc2,okc3,knTot,knSame,knStay,tot1,tot2,hsm,stO,d00,d30,dgt,deq,ad,nT,nF,regD_ok,Nat.zero_add]
    rfl,?_,?_,?_,?_,?_,?_,?_,?_,?_,?_⟩
   all_goals simp only [Env.find_set,find_cons,l4,l5,l6,l7,l8,l9,l10,l13,l14,reduceIte,Nat.reduceEqDiff])
  | (
   have dgt:decide ((mA:Int)<(m:Int))=false:=decide_eq_false (by omega)
   have deq:decide ((m:Int)=(mA:Int))=true:=decide_eq_true (by omega)
   have hst:st=false:=by first | exact hno_eq heq | exact hno_eq heq rfl | exact hno_eq heq trivial
   subst hst
   refine ⟨_,by
    simp (disch:=first|omega|(with_unfolding_all exact rfl)|(simp only[new_n,put_n,new_m];omega)|(refine put_m_le ?_;simp only[new_m];omega)) only [K3l0,res3,K3r0,K3r1,K3r2,K3r3,K3r4,K3r5,K3r6,K3r7,K3r8s24,K3r8s23,K3r8s22,K3r8s21,K3r8s20,K3r8s19,K3r8s18,K3r8s17,K3r8s16,K3r8s13,K3r8s12,K3r8s11,K3r8s10,K3r8s9,K3r8s8,K3r8s5,K3r8s4,K3r8,K3r9,K3r10s18,K3r10s17,K3r10s16,K3r10s15,K3r10s14,K3r10s13,K3r10s12,K3r10s11,K3r10s10,K3r10s9,K3r10s8,K3r10s7,K3r10s6,K3r10s5,K3r10s4,K3r10,K3r11,K3r12,K3r13,K3r14,K3r15,K3r16s9,K3r16s8,K3r16s7,K3r16s6,K3r16s5,K3r16s4,K3r16s3,K3r16,K3r17,K3r18s15,K3r18s14,K3r18s13,K3r18s12,K3r18s11,K3r18s10,K3r18s9,K3r18s8,K3r18s7,K3r18s6,K3r18s5,K3r18s4,K3r18,K3r19,K3r20,K3r21,K3r22s8,K3r22s5,K3r22s4,K3r22,K3,Abs.W,reduceIte,Nat.reduceEqDiff,Nat.reduceAdd,decide_true,decide_false,kLoop_def,Nat.reduceSub,List.cons_append,List.nil_append,List.append_nil,List.length_cons,List.length_nil,Env.find_set,l4,l5,l6,l7,l8,l9,l10,l13,l14,l15,e0,kvW,lvW,kvL,kvB,okV,ix,gx,nx,g4,sc1,sc2,sc3,scal_nil,okc1,okc2,okc3,knTot,knSame,knStay,tot1,tot2,hsm,stO,d00,d30,dgt,deq,ad,nT,nF,regD_ok,Nat.zero_add]
    rfl,?_,?_,?_,?_,?_,?_,?_,?_,?_,?_⟩
   all_goals simp only [Env.find_set,find_cons,l4,l5,l6,l7,l8,l9,l10,l13,l14,reduceIte,Nat.reduceEqDiff])
  | (
   have dgt:decide ((mA:Int)<(m:Int))=true:=decide_eq_true (by omega)
   have deq:decide ((m:Int)=(mA:Int))=false:=decide_eq_false (by omega)
   refine ⟨_,by
    simp (disch:=first|omega|(with_unfolding_all exact rfl)|(simp only[new_n,put_n,new_m];omega)|(refine put_m_le ?_;simp only[new_m];omega)) only [K3l0,res3,K3r0,K3r1,K3r2,K3r3,K3r4,K3r5,K3r6,K3r7,K3r8s24,K3r8s23,K3r8s22,K3r8s21,K3r8s20,K3r8s19,K3r8s18,K3r8s17,K3r8s16,K3r8s13,K3r8s12,K3r8s11,K3r8s10,K3r8s9,K3r8s8,K3r8s5,K3r8s4,K3r8,K3r9,K3r10s18,K3r10s17,K3r10s16,K3r10s15,K3r10s14,K3r10s13,K3r10s12,K3r10s11,K3r10s10,K3r10s9,K3r10s8,K3r10s7,K3r10s6,K3r10s5,K3r10s4,K3r10,K3r11,K3r12,K3r13,K3r14,K3r15,K3r16s9,K3r16s8,K3r16s7,K3r16s6,K3r16s5,K3r16s4,K3r16s3,K3r16,K3r17,K3r18s15,K3r18s14,K3r18s13,K3r18s12,K3r18s11,K3r18s10,K3r18s9,K3r18s8,K3r18s7,K3r18s6,K3r18s5,K3r18s4,K3r18,K3r19,K3r20,K3r21,K3r22s8,K3r22s5,K3r22s4,K3r22,K3,Abs.W,reduceIte,Nat.reduceEqDiff,Nat.reduceAdd,decide_true,decide_false,kLoop_def,Nat.reduceSub,List.cons_append,List.nil_append,List.append_nil,List.length_cons,List.length_nil,Env.find_set,l4,l5,l6,l7,l8,l9,l10,l13,l14,l15,e0,kvW,lvW,kvL,kvB,okV,ix,gx,nx,g4,sc1,sc2,sc3,scal_nil,okc1,okc2,okc3,knTot,knSame,knStay,tot1,tot2,hsm,d00,d30,dgt,deq,ad,nT,nF,regD_ok,Nat.zero_add]
    rfl,?_,?_,?_,?_,?_,?_,?_,?_,?_,?_⟩
   all_goals simp only [Env.find_set,find_cons,l4,l5,l6,l7,l8,l9,l10,l13,l14,reduceIte,Nat.reduceEqDiff])
  | (
   have dgt:decide ((mA:Int)<(m:Int))=false:=decide_eq_false (by omega)
   have deq:decide ((m:Int)=(mA:Int))=true:=decide_eq_true (by omega)
   refine ⟨_,by
    simp (disch:=first|omega|(with_unfolding_all exact rfl)|(simp only[new_n,put_n,new_m];omega)|(refine put_m_le ?_;simp only[new_m];omega)) only [K3l0,res3,K3r0,K3r1,K3r2,K3r3,K3r4,K3r5,K3r6,K3r7,K3r8s24,K3r8s23,K3r8s22,K3r8s21,K3r8s20,K3r8s19,K3r8s18,K3r8s17,K3r8s16,K3r8s13,K3r8s12,K3r8s11,K3r8s10,K3r8s9,K3r8s8,K3r8s5,K3r8s4,K3r8,K3r9,K3r10s18,K3r10s17,K3r10s16,K3r10s15,K3r10s14,K3r10s13,K3r10s12,K3r10s11,K3r10s10,K3r10s9,K3r10s8,K3r10s7,K3r10s6,K3r10s5,K3r10s4,K3r10,K3r11,K3r12,K3r13,K3r14,K3r15,K3r16s9,K3r16s8,K3r16s7,K3r16s6,K3r16s5,K3r16s4,K3r16s3,K3r16,K3r17,K3r18s15,K3r18s14,K3r18s13,K3r18s12,K3r18s11,K3r18s10,K3r18s9,K3r18s8,K3r18s7,K3r18s6,K3r18s5,K3r18s4,K3r18,K3r19,K3r20,K3r21,K3r22s8,K3r22s5,K3r22s4,K3r22,K3,Abs.W,reduceIte,Nat.reduceEqDiff,Nat.reduceAdd,decide_true,decide_false,kLoop_def,Nat.reduceSub,List.cons_append,List.nil_append,List.append_nil,List.length_cons,List.length_nil,Env.find_set,l4,l5,l6,l7,l8,l9,l10,l13,l14,l15,e0,kvW,lvW,kvL,kvB,okV,ix,gx,nx,g4,sc1,sc2,sc3,scal_nil,okc1,okc2,okc3,knTot,knSame,knStay,tot1,tot2,hsm,d00,d30,dgt,deq,ad,nT,nF,regD_ok,Nat.zero_add]
    rfl,?_,?_,?_,?_,?_,?_,?_,?_,?_,?_⟩
   all_goals simp only [Env.find_set,find_cons,l4,l5,l6,l7,l8,l9,l10,l13,l14,reduceIte,Nat.reduceEqDiff])
end Go.Proofs.Ytkoefjgapmonaaa.walk
