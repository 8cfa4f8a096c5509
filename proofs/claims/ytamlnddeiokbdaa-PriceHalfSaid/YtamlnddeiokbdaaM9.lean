/- A book audited. -/
import Derived.Test.YtamlnddeiokbdaaM5
import Derived.Test.YtamlnddeiokbdaaM8
import Derived.Test.YtamlnddeiokbdaaM4
import Derived.Test.YtamlnddeiokbdaaWalkAll
set_option linter.unusedSimpArgs false
set_option maxHeartbeats 16000000
set_option linter.unusedVariables false
set_option maxRecDepth 10000
namespace Go.Abs
theorem over_app:∀ (r:List AV) {p:Nat} {v rest c:List AV},over p v rest=some c→over (r.length+p) v (r++rest)=some (r++c)
 | [],p,v,rest,c,h=>by
  rw [List.length_nil,Nat.zero_add]
  exact h
 | a::r,p,v,rest,c,h=>by
  rw [List.cons_append,over_cons,if_neg (by rw [List.length_cons];omega)]
  rw [show (a::r).length+p - 1=r.length+p by rw [List.length_cons];omega,over_app r h]
  rfl
theorem over_hd {r rest v r':List AV} {o:Nat} (ho:o+v.length≤r.length) (h:over o v r=some r'):over o v (r++rest)=some (r'++rest):=by
 rw [over_eq _ _ _ ho] at h
 obtain rfl:=Option.some.inj h
 rw [over_eq _ _ _ (by rw [List.length_append];omega),List.take_append_of_le_length (by omega),List.drop_append_of_le_length (by omega)]
 simp only [List.append_assoc]
theorem over_row:∀ {rows:List (List AV)} {w i o:Nat} {v r':List AV},(∀ r ∈ rows,r.length=w)→(hi:i<rows.length)→o+v.length≤w→over o v rows[i]=some r'→over (i * w+o) v rows.flatten=some (rows.set i r').flatten
 | [],_,i,_,_,_,_,hi,_,_=>by simp at hi
 | r::rs,w,0,o,v,r',hw,_,ho,h=>by
  have:=hw r (List.mem_cons_self ..)
  rw [Nat.zero_mul,Nat.zero_add,List.flatten_cons,List.set_cons_zero,List.flatten_cons]
  exact over_hd (by omega) h
 | r::rs,w,i+1,o,v,r',hw,hi,ho,h=>by
  have hr:=hw r (List.mem_cons_self ..)
  rw [List.flatten_cons,List.set_cons_succ,List.flatten_cons,show (i+1) * w+o=r.length+(i * w+o) by rw [Nat.succ_mul,hr];omega]
  exact over_app r (over_row (fun x hx=>hw x (List.mem_cons_of_mem _ hx)) (by simpa using hi) ho h)
theorem make_48 (z:List AV) (s:St) (n:Nat) (hn:n≤1000):makeA z 48 s (.int .i64 (n:Int)) (.int .i64 (n:Int))=.val (.slice s.n 0 n n false) (s.new (.cells (zerosA z n) 0)):=by
 show (match Nat.ble n n with | false=>ARes.fail | true=>match Nat.ble (n * 48) limit with | false=>.fail | true=>match Nat.ble n limit with | false=>.fail | true=>.val (.slice s.n 0 n n false) (s.new (.cells (zerosA z n) 0)))=_
 rw [Nat.ble_eq_true_of_le (Nat.le_refl n),Nat.ble_eq_true_of_le (show n * 48≤limit by unfold limit;omega),Nat.ble_eq_true_of_le (show n≤limit by unfold limit;omega)]
theorem cut_all:∀ (l:List AV),cut 0 l.length l=some l:=fun l=>by
 have h:∀ l:List AV,cut1 l.length l=some l:=by
  intro l
  induction l with
  | nil=>rfl
  | cons a r ih=>rw [List.length_cons,cut1_cons,ih];rfl
 cases l with
 | nil=>rfl
 | cons a r=>rw [cut_cons];exact h _
theorem copy_rows {s:St} {q b w tg sz:Nat} {rows:List (List AV)} {v:AV} {c:List AV} (hI:IsAt s.h s.n b w tg rows v) (hsc:scalars rows.flatten=true) (hq:s.h.get q=some (.cells c sz)) (hc:c.length=rows.length * w) :
  copyA w s (.slice q 0 rows.length rows.length false) v=.val (.int .i64 (rows.length:Nat)) (s.put q (.cells rows.flatten sz)):=by
 have fl:=flatten_len hI.wide
 have hl:lenA v=some rows.length:=by
  rcases hI.is with ⟨h1,h2⟩ | ⟨_,_,h2,_⟩
  ·subst h1;subst h2;rfl
  ·subst h2;rfl
 have hf:firstA w (Nat.min rows.length rows.length) s v=some rows.flatten:=by
  rcases hI.is with ⟨h1,h2⟩ | ⟨_,_,h2,h3⟩
  ·subst h1;subst h2;rfl
  ·subst h2
   rw [show Nat.min rows.length rows.length=rows.length from Nat.min_self _]
   show (match s.h.get b with | some (.cells c _)=>cut 0 (rows.length * w) c | some (.fam c _ k _)=>cut 0 (rows.length * w) (c.take k) | _=>none)=_
   rw [h3]
   show cut 0 (rows.length * w) rows.flatten=_
   rw [← fl]
   exact cut_all _
 have hl2:lenA (.slice q 0 rows.length rows.length false)=some rows.length:=rfl
 unfold copyA
 rw [hl2,hl]
 simp only
 rw [hf]
 show (match scalars rows.flatten with | false=>ARes.fail | true=>match s.h.get q with | some (.cells c sz)=>(match over 0 rows.flatten c with | some c=>ARes.val (.int .i64 (Nat.min rows.length rows.length:Nat)) (s.put q (.cells c sz)) | none=>.fail) | _=>.fail)=_
 rw [hsc,hq]
 show (match over 0 rows.flatten c with | some c=>ARes.val (.int .i64 (Nat.min rows.length rows.length:Nat)) (s.put q (.cells c sz)) | none=>.fail)=_
 rw [over_zero _ _ (by rw [fl,hc]),show Nat.min rows.length rows.length=rows.length from Nat.min_self _]
end Go.Abs
namespace Go.Proofs.Ytamlnddeiokbdaa.walk
open Go.Abs Go.Proofs.Ytamlnddeiokbdaa.code
theorem checkFinds_ok (N:Nat) (hN:5≤N) {F:List Fnd} {b:Book} {fb:Nat} {vb fv:AV} {s:St} (ok:FindsOk b.sales F) (hl:F.length≤40) (hS:b.sales.length≤40) (hI:IsAt s.h s.n fb 3 (tag 66) (F.map Fnd.cells) fv) (RS:RowsAt s.h s.n 6 (b.sales.map Sale.cells) vb) (hs:s.n+3000≤far) :
  call Try.prog X N (.fn 55) [.agg (bookV b vb),fv] s=.val (.int .i64 0) s:=by
 obtain ⟨n,rfl⟩:∃ n,N=n+1:=⟨N - 1,by omega⟩
 have hf:far=1000000000:=rfl
 obtain ⟨vv,e,rfl⟩:=call_some (n:=n) (args:=[.agg (bookV b vb),fv]) (s:=s) (k:=100) (Q:=fun v=>v=.int .i64 0) Try.func55 (fun u uh un um=>by
  rw [← uh,← un] at hI RS
  rw [← un] at hs
  have kb:∀ t,okA (.val vb t)=.val vb t:=fun t=>okA_ne RS.ne
  have kf:=hI.okA
  have lf:∀ s,lenSlA s fv=.val (.int .i64 (F.length:Int)) s:=fun s=>by have:=hI.rows.at_.len s;rw [List.length_map] at this;exact this
  have sc:scalars (bookV b vb)=true:=by
   have hv:vb.scalar=true:=by
    have h:=RS.len u
    cases vb<;>first | rfl | cases h
   show scalars [vb]=true
   unfold scalars
   rw [hv]
   rfl
  obtain ⟨w,hw⟩:∃ w:St,w=u.new (.cells (bookV b vb) (tag 27)):=⟨_,rfl⟩
  have wn:w.n=u.n+1:=by rw [hw];rfl
  have wm:w.m=far:=by rw [hw];exact um
  have wg:∀ c,c<u.n→w.h.get c=u.h.get c:=fun c hc=>by rw [hw,get_new_ne _ _ _ (by omega)]
  have w0:w.h.get u.n=some (.cells (bookV b vb) (tag 27)):=by rw [hw];exact get_new_eq _ _ _ rfl (by omega)
  have RSw:=RS.grow wg (by omega:u.n≤w.n)
  have hIw:IsAt w.h u.n fb 3 (tag 66) (F.map Fnd.cells) fv:=hI.mono (fun h=>wg fb h) (Nat.le_refl _)
  have z0:decide ((0:Int)=0)=true:=rfl
  rw [enter55]
  simp (disch:=first|omega|(with_unfolding_all exact rfl)|(simp only[new_n,put_n,new_m];omega)|(refine put_m_le ?_;simp only[new_m];omega)) only [K55,K55r0,Abs.W,reduceIte,Nat.reduceEqDiff,Nat.reduceAdd,decide_true,decide_false,kLoop_def,Nat.reduceSub,List.cons_append,List.nil_append,List.append_nil,List.length_cons,List.length_nil,Env.find_set,sc]
  rw [← hw]
  clear hw
  unfold bookV at w0
  simp (disch:=first|omega|(with_unfolding_all exact rfl)|(simp only[new_n,put_n,new_m];omega)|(refine put_m_le ?_;simp only[new_m];omega)) only [K55r1,K55r2,K55r4,Abs.W,reduceIte,Nat.reduceEqDiff,Nat.reduceAdd,decide_true,decide_false,kLoop_def,Nat.reduceSub,List.cons_append,List.nil_append,List.append_nil,List.length_cons,List.length_nil,Env.find_set,kf,lf,counted_ok,z0]
  generalize hlp:loopN _ rounds _ _ _ _ _=rl
  obtain ⟨e,L1,t2,rfl,rfl,hP,hPm,hPl⟩:=loop_of hlp
   (fun j L' t'=>L'.find 1=fv∧L'.find 2=.ptr u.n 0∧L'.find 15=fv∧L'.find 16=.int .i64 (F.length:Int)∧L'.find 17=.int .i64 (j:Int)∧Past w t' (1 * j)∧u.n≤t'.m∧t'.m≤far)
   (fun e L' t'=>e=.exit 0∧Past w t' (1 * F.length)∧u.n≤t'.m∧t'.m≤far) F.length (by unfold rounds;omega)
   ⟨by simp only [find_cons,Env.find_set,reduceIte,Nat.reduceEqDiff],by simp only [find_cons,Env.find_set,reduceIte,Nat.reduceEqDiff],by simp only [find_cons,Env.find_set,reduceIte,Nat.reduceEqDiff],by simp only [find_cons,Env.find_set,reduceIte,Nat.reduceEqDiff],by simp only [find_cons,Env.find_set,reduceIte,Nat.reduceEqDiff];rfl,Past.refl w,by omega,by omega⟩
   (fun j L' t' hj ⟨q1,q2,q15,q16,q17,hE,hEm,hEl⟩=>by
    by_cases hlt:j<F.length
    ·have e0:decide ((j:Int)<(F.length:Int))=true:=decide_eq_true (by omega)
     have ad:∀ s,aAdd s .i64 (j:Int) 1=.val (.int .i64 ((j+1:Nat):Int)) s:=fun s=>by rw [aAdd_i64 s _ _ (by omega)];rfl
     have hn:=hE.n
     have hle:=hE.le
     rcases hIw.is with ⟨h1,_⟩ | ⟨_,hfb,hv,hfc⟩
     ·exfalso;have:=List.map_eq_nil_iff.mp h1;subst this;simp at hlt
     rw [List.length_map] at hv
     subst hv
     have ix:∀ s,ixsA 3 s (.slice fb 0 F.length F.length true) (.int .i64 (j:Int))=.val (.ptr fb (j * 3)) s:=fun s=>by rw [ixs_slice _ _ _ _ _ _ _ _ hlt,Nat.zero_add]
     have ct:cut (j * 3) 3 (F.map Fnd.cells).flatten=some [.int .i64 (F[j].sale:Int),.int .i64 F[j].gr,.int .i64 F[j].ce]:=fnd_cut hlt
     have t0:=(hE.same u.n (by omega)).trans w0
     have tf:=(hE.same fb (by omega)).trans hfc
     have sl:∀ s,sliceVal 3 none (some (.int .i64 (j:Int))) s (.slice fb 0 F.length F.length true)=.val (.slice fb 0 j F.length true) s:=fun s=>slice_to 3 s fb 0 F.length F.length j true (Nat.le_refl _) (by omega) (by omega)
     obtain ⟨x,hx⟩:∃ x:St,x=(t'.new (.cells [.int .i64 0,.int .i64 0,.int .i64 0] (tag 66))).put t'.n (.cells [.int .i64 (F[j].sale:Int),.int .i64 F[j].gr,.int .i64 F[j].ce] (tag 66)):=⟨_,rfl⟩
     have xn:x.n=t'.n+1:=by rw [hx];rfl
     have xm:x.m≤t'.m:=by rw [hx];simp only [St.put,minN_eq,new_m];omega
     have xm2:u.n≤x.m:=by rw [hx];simp only [St.put,minN_eq,new_m];omega
     have x7:x.h.get t'.n=some (.cells [.int .i64 (F[j].sale:Int),.int .i64 F[j].gr,.int .i64 F[j].ce] (tag 66)):=by rw [hx];exact get_put_eq _ _ _ _ rfl (by omega)
     have hX:Past w x (1 * (j+1)):=((by rw [hx];exact (hE.new _).put _ hn):Past w x (1 * j+1)).mono (by omega)
     have x0:=(hX.same u.n (by omega)).trans w0
     have xf:=(hX.same fb (by omega)).trans hfc
     have ck:call Try.prog X n (.fn 70) [vb,.agg F[j].cells,.slice fb 0 j F.length true] x=.val (.int .i64 0) x:=checkFind_ok n (by omega) ok hlt hl hS xf (by omega) (RSw.grow hX.same hX.n) (by omega)
     unfold Fnd.cells at ck
     refine .inl ⟨hlt,?_⟩
     simp (disch:=first|omega|(with_unfolding_all exact rfl)|(simp only[new_n,put_n,new_m];omega)|(refine put_m_le ?_;simp only[new_m];omega)) only [K55l0,K55r5,K55r6,Abs.W,reduceIte,Nat.reduceEqDiff,Nat.reduceAdd,decide_true,decide_false,kLoop_def,Nat.reduceSub,List.cons_append,List.nil_append,List.append_nil,List.length_cons,List.length_nil,Env.find_set,q1,q2,q15,q16,q17,e0,ix,tf,ct,Nat.zero_add]
     rw [← hx]
     clear hx
     simp (disch:=first|omega|(with_unfolding_all exact rfl)|(simp only[new_n,put_n,new_m];omega)|(refine put_m_le ?_;simp only[new_m];omega)) only [K55r7,K55r8,K55r10,Abs.W,reduceIte,Nat.reduceEqDiff,Nat.reduceAdd,decide_true,decide_false,kLoop_def,Nat.reduceSub,List.cons_append,List.nil_append,List.append_nil,List.length_cons,List.length_nil,Env.find_set,kSlice_def,optEv_none,optEv_some,q1,q2,q17,x0,x7,kb,sl,ck,z0,ad,endO_nil,Nat.zero_add]
     refine ⟨_,_,rfl,?_,?_,?_,?_,?_,hX,xm2,by omega⟩<;>simp only [Env.find_set,q1,q2,q15,q16,reduceIte,Nat.reduceEqDiff]
    ·obtain rfl:j=F.length:=by omega
     have e0:decide ((F.length:Int)<(F.length:Int))=false:=by simp
     refine .inr ⟨.exit 0,L'.set 18 (.bool false),t',by simp,?_,rfl,hE,hEm,hEl⟩
     simp (disch:=first|omega|(with_unfolding_all exact rfl)|(simp only[new_n,put_n,new_m];omega)|(refine put_m_le ?_;simp only[new_m];omega)) only [K55l0,K55r5,Abs.W,reduceIte,Nat.reduceEqDiff,Nat.reduceAdd,decide_true,decide_false,kLoop_def,Nat.reduceSub,List.cons_append,List.nil_append,List.append_nil,List.length_cons,List.length_nil,Env.find_set,q16,q17,e0])
  simp (disch:=first|omega|(with_unfolding_all exact rfl)|(simp only[new_n,put_n,new_m];omega)|(refine put_m_le ?_;simp only[new_m];omega)) only [K55r11,res55,Abs.W,reduceIte,Nat.reduceEqDiff,Nat.reduceAdd,decide_true,decide_false,kLoop_def,Nat.reduceSub,List.cons_append,List.nil_append,List.append_nil,List.length_cons,List.length_nil,Env.find_set]
  have pn:=hP.n
  have pl:=hP.le
  exact ⟨_,_,rfl,⟨fun c hc=>(hP.same c (by omega)).trans (wg c hc),by omega,by omega,hPm,hPl⟩,rfl,rfl⟩)
 exact e
def Sale.found (s:Sale) (f:Fnd):Sale:=⟨s.st,s.gd,f.gr,f.gr,f.ce,f.ce⟩
def foundIn (S:List Sale) (f:Fnd):List Sale:=match S[f.sale]? with
 | some M=>S.set f.sale (M.found f)
 | none=>S
def auditI (S:List Sale) (F:List Fnd):List Sale:=F.foldl foundIn S
theorem foundIn_len (S:List Sale) (f:Fnd):(foundIn S f).length=S.length:=by
 unfold foundIn
 split
 ·rw [List.length_set]
 ·rfl
theorem auditI_snoc (S:List Sale) (F:List Fnd) (f:Fnd):auditI S (F++[f])=foundIn (auditI S F) f:=by
 unfold auditI
 rw [List.foldl_append]
 rfl
theorem auditI_len (S:List Sale):∀ (F:List Fnd),(auditI S F).length=S.length
 | []=>rfl
 | f::F=>by
  show (auditI (foundIn S f) F).length=_
  rw [auditI_len _ F,foundIn_len]
theorem sales_wide (S:List Sale):∀ r ∈ S.map Sale.cells,r.length=6:=fun r hr=>by obtain ⟨M,_,rfl⟩:=List.mem_map.mp hr;rfl
theorem sale_flat:∀ (S:List Sale),scalars (S.map Sale.cells).flatten=true
 | []=>rfl
 | s::S=>by
  show scalars (S.map Sale.cells).flatten=true
  exact sale_flat S
theorem found_over {S:List Sale} {f:Fnd} (h:f.sale<S.length):∃ c1,over (f.sale * 6+2) [.int .i64 f.gr,.int .i64 f.gr] (S.map Sale.cells).flatten=some c1∧over (f.sale * 6+4) [.int .i64 f.ce,.int .i64 f.ce] c1=some ((foundIn S f).map Sale.cells).flatten:=by
 have h':f.sale<(S.map Sale.cells).length:=by rw [List.length_map];exact h
 have e1:=over_row (rows:=S.map Sale.cells) (w:=6) (i:=f.sale) (o:=2) (v:=[.int .i64 f.gr,.int .i64 f.gr]) (r':=(⟨S[f.sale].st,S[f.sale].gd,f.gr,f.gr,S[f.sale].cl,S[f.sale].ch⟩:Sale).cells) (sales_wide S) h' (by simp) (by rw [List.getElem_map];rfl)
 refine ⟨_,e1,?_⟩
 have h2:f.sale<((S.map Sale.cells).set f.sale (⟨S[f.sale].st,S[f.sale].gd,f.gr,f.gr,S[f.sale].cl,S[f.sale].ch⟩:Sale).cells).length:=by rw [List.length_set];exact h'
 have e2:=over_row (rows:=(S.map Sale.cells).set f.sale (⟨S[f.sale].st,S[f.sale].gd,f.gr,f.gr,S[f.sale].cl,S[f.sale].ch⟩:Sale).cells) (w:=6) (i:=f.sale) (o:=4) (v:=[.int .i64 f.ce,.int .i64 f.ce]) (r':=(S[f.sale].found f).cells) (fun r hr=>by
   rcases List.mem_or_eq_of_mem_set hr with h | rfl
   ·exact sales_wide S r h
   ·rfl) h2 (by simp) (by rw [List.getElem_set_self];rfl)
 rw [e2,List.set_set]
 unfold foundIn
 rw [List.getElem?_eq_getElem h]
 show _=some (List.map Sale.cells (S.set f.sale (S[f.sale].found f))).flatten
 rw [List.map_set]
theorem Audited_ex {N fb bl1:Nat} {F:List Fnd} {b:Book} {vb fv:AV} {s:St} {r:ARes} (hr:call Try.prog X N (.fn 27) [.agg (bookV b vb),fv] s=r) (hN:7≤N) (okb:b.Ok) (ok:FindsOk b.sales F) (hl:F.length≤40) (hI:IsAt s.h s.n fb 3 (tag 66) (F.map Fnd.cells) fv) (hB:IsAt s.h s.n bl1 6 (tag 51) (b.sales.map Sale.cells) vb) (hs:s.n+6000≤far) :
  ∃ q t,r=.val (.tup [.agg [.int .i64 b.stalls,.int .i64 b.goods,.slice q 0 b.sales.length b.sales.length false],.int .i64 0]) t∧New s t 100∧s.n≤q∧q<t.n∧t.h.get q=some (.cells ((auditI b.sales F).map Sale.cells).flatten 0):=by
 obtain ⟨n,rfl⟩:∃ n,N=n+1:=⟨N - 1,by omega⟩
 have hf:far=1000000000:=rfl
 obtain ⟨v,t,e,st,q,rfl,y1,y2,y3⟩:=call_new' (n:=n) (args:=[.agg (bookV b vb),fv]) (s:=s) (k:=100) (Q:=fun v h m=>∃ q,v=.tup [.agg [.int .i64 b.stalls,.int .i64 b.goods,.slice q 0 b.sales.length b.sales.length false],.int .i64 0]∧s.n≤q∧q<m∧h.get q=some (.cells ((auditI b.sales F).map Sale.cells).flatten 0)) Try.func27 rfl (fun u uh un um=>by
  rw [← uh,← un] at hI hB
  rw [← un] at hs ⊢
  have hS:=okb.l
  have sh3:shapeT Try.prog 27=some (some 3):=by kernel_rfl
  have kb:=hB.okA
  have kf:=hI.okA
  have lb:∀ s,lenSlA s vb=.val (.int .i64 (b.sales.length:Int)) s:=fun s=>by have:=hB.rows.at_.len s;rw [List.length_map] at this;exact this
  have lf:∀ s,lenSlA s fv=.val (.int .i64 (F.length:Int)) s:=fun s=>by have:=hI.rows.at_.len s;rw [List.length_map] at this;exact this
  have sc:scalars (bookV b vb)=true:=by show scalars [vb]=true;exact hB.scal.1
  obtain ⟨w,hw⟩:∃ w:St,w=(u.new (.cells (bookV b vb) (tag 27))).new (.cells [.int .i64 0,.int .i64 0,.nilslice] (tag 27)):=⟨_,rfl⟩
  have wn:w.n=u.n+2:=by rw [hw];rfl
  have wm:w.m=far:=by rw [hw];exact um
  have wg:∀ c,c<u.n→w.h.get c=u.h.get c:=fun c hc=>by rw [hw,get_new_ne _ _ _ (by rw [new_n];omega),get_new_ne _ _ _ (by omega)]
  have w0:w.h.get u.n=some (.cells (bookV b vb) (tag 27)):=by rw [hw,get_new_ne _ _ _ (by rw [new_n];omega)];exact get_new_eq _ _ _ rfl (by omega)
  have w1:w.h.get (u.n+1)=some (.cells [.int .i64 0,.int .i64 0,.nilslice] (tag 27)):=by rw [hw];exact get_new_eq _ _ _ rfl (by rw [new_n];omega)
  have hBw:IsAt w.h u.n bl1 6 (tag 51) (b.sales.map Sale.cells) vb:=hB.mono (fun h=>wg bl1 h) (Nat.le_refl _)
  have hIw:IsAt w.h u.n fb 3 (tag 66) (F.map Fnd.cells) fv:=hI.mono (fun h=>wg fb h) (Nat.le_refl _)
  have hBw':IsAt w.h w.n bl1 6 (tag 51) (b.sales.map Sale.cells) vb:=hBw.mono (fun _=>rfl) (by omega)
  have hIw':IsAt w.h w.n fb 3 (tag 66) (F.map Fnd.cells) fv:=hIw.mono (fun _=>rfl) (by omega)
  have hck:∀ m,call Try.prog X n (.fn 36) [.agg (bookV b vb)] ⟨w.h,w.n,m⟩=.val (.int .i64 0) ⟨w.h,w.n,m⟩:=fun m=>check_ok n (by omega) b okb vb ⟨w.h,w.n,m⟩ hBw'.rows.at_ (by show w.n+4000≤far;omega)
  have hcf:call Try.prog X n (.fn 55) [.agg (bookV b vb),fv] w=.val (.int .i64 0) w:=checkFinds_ok n (by omega) ok hl hS hIw' hBw'.rows.at_ (by omega)
  have z0:decide ((0:Int)=0)=true:=rfl
  unfold bookV at w0 hw sc hck hcf
  rw [enter27]
  unfold bookV
  simp (disch:=first|omega|(with_unfolding_all exact rfl)|(simp only[new_n,put_n,new_m];omega)|(refine put_m_le ?_;simp only[new_m];omega)) only [K27,K27r0,Abs.W,reduceIte,Nat.reduceEqDiff,Nat.reduceAdd,decide_true,decide_false,kLoop_def,Nat.reduceSub,List.cons_append,List.nil_append,List.append_nil,List.length_cons,List.length_nil,Env.find_set,sc]
  rw [← hw]
  clear hw
  obtain ⟨x,hx⟩:∃ x:St,x=w.new (.cells [.int .i64 0,.int .i64 0] 0):=⟨_,rfl⟩
  have xn:x.n=w.n+1:=by rw [hx];rfl
  have xm:x.m=far:=by rw [hx];exact wm
  have xg:∀ c,c<w.n→x.h.get c=w.h.get c:=fun c hc=>by rw [hx,get_new_ne _ _ _ (by omega)]
  have or2:call Try.prog X n (.fn 35) [.slice w.n 0 2 2 false] x=.val (.int .i64 0) x:=by rw [hx];exact or_new2 n (by omega) w (by omega)
  simp (disch:=first|omega|(with_unfolding_all exact rfl)|(simp only[new_n,put_n,new_m];omega)|(refine put_m_le ?_;simp only[new_m];omega)) only [K27r1,Abs.W,reduceIte,Nat.reduceEqDiff,Nat.reduceAdd,decide_true,decide_false,kLoop_def,Nat.reduceSub,List.cons_append,List.nil_append,List.append_nil,List.length_cons,List.length_nil,Env.find_set,w0,kb,kf,hck,hcf,← hx,or2,endO_nil,Nat.zero_add]
  have x0:=(xg u.n (by omega)).trans w0
  have mk:makeA [.int .i64 0,.int .i64 0,.int .i64 0,.int .i64 0,.int .i64 0,.int .i64 0] 48 x (.int .i64 (b.sales.length:Int)) (.int .i64 (b.sales.length:Int))=.val (.slice x.n 0 b.sales.length b.sales.length false) (x.new (.cells (zerosA [.int .i64 0,.int .i64 0,.int .i64 0,.int .i64 0,.int .i64 0,.int .i64 0] b.sales.length) 0)):=make_48 _ x _ (by omega)
  obtain ⟨y,hy⟩:∃ y:St,y=x.new (.cells (zerosA [.int .i64 0,.int .i64 0,.int .i64 0,.int .i64 0,.int .i64 0,.int .i64 0] b.sales.length) 0):=⟨_,rfl⟩
  rw [← hy] at mk
  have yn:y.n=x.n+1:=by rw [hy];rfl
  have ym:y.m=far:=by rw [hy];exact xm
  have yg:∀ c,c<x.n→y.h.get c=x.h.get c:=fun c hc=>by rw [hy,get_new_ne _ _ _ (by omega)]
  have yq:y.h.get x.n=some (.cells (zerosA [.int .i64 0,.int .i64 0,.int .i64 0,.int .i64 0,.int .i64 0,.int .i64 0] b.sales.length) 0):=by rw [hy];exact get_new_eq _ _ _ rfl (by omega)
  have y0:=(yg u.n (by omega)).trans x0
  have gu:∀ c,c<w.n→y.h.get c=w.h.get c:=fun c hc=>(yg c (by omega)).trans (xg c hc)
  have cp:=copy_rows (s:=y) (q:=x.n) (hBw.mono (h':=y.h) (n':=y.n) (fun h=>gu bl1 (by omega)) (by omega)) (sale_flat b.sales) yq (by rw [zeros_len,List.length_map];rfl)
  rw [List.length_map] at cp
  obtain ⟨z,hz⟩:∃ z:St,z=y.put x.n (.cells (b.sales.map Sale.cells).flatten 0):=⟨_,rfl⟩
  rw [← hz] at cp
  have zn:z.n=y.n:=by rw [hz];rfl
  have zm:u.n≤z.m∧z.m≤far:=by rw [hz];simp only [St.put,minN_eq];omega
  have zg:∀ c,c<x.n→z.h.get c=y.h.get c:=fun c hc=>by rw [hz,get_put_ne' _ _ _ _ (by omega)]
  have zq:z.h.get x.n=some (.cells (b.sales.map Sale.cells).flatten 0):=by rw [hz];exact get_put_eq _ _ _ _ rfl (by omega)
  clear hx hy hz
  have z0':=(zg u.n (by omega)).trans y0
  have gz:∀ c,c<w.n→z.h.get c=w.h.get c:=fun c hc=>(zg c (by omega)).trans (gu c hc)
  have hIz:IsAt z.h u.n fb 3 (tag 66) (F.map Fnd.cells) fv:=hIw.mono (fun h=>gz fb (by omega)) (Nat.le_refl _)
  simp (disch:=first|omega|(with_unfolding_all exact rfl)|(simp only[new_n,put_n,new_m];omega)|(refine put_m_le ?_;simp only[new_m];omega)) only [K27r2,K27r4,K27r5,K27r6,Abs.W,reduceIte,Nat.reduceEqDiff,Nat.reduceAdd,decide_true,decide_false,kLoop_def,Nat.reduceSub,List.cons_append,List.nil_append,List.append_nil,List.length_cons,List.length_nil,Env.find_set,z0,x0,y0,kb,kf,lb,lf,kMake_def,mk,cp,Nat.zero_add]
  generalize hlp:loopN _ rounds _ _ _ _ _=rl
  obtain ⟨e,L1,t2,rfl,rfl,q2,q4,q7,hsame,hn2,hle2,hm2,hml2,hq2⟩:=loop_of hlp
   (fun j L' t'=>L'.find 2=.ptr u.n 0∧L'.find 4=.ptr (u.n+1) 0∧L'.find 7=.slice x.n 0 b.sales.length b.sales.length false∧L'.find 29=fv∧L'.find 30=.int .i64 (F.length:Int)∧L'.find 31=.int .i64 (j:Int)∧(∀ c,c<z.n→c≠x.n→t'.h.get c=z.h.get c)∧z.n≤t'.n∧t'.n≤z.n+j∧u.n≤t'.m∧t'.m≤far∧t'.h.get x.n=some (.cells ((auditI b.sales (F.take j)).map Sale.cells).flatten 0))
   (fun e L' t'=>e=.exit 0∧L'.find 2=.ptr u.n 0∧L'.find 4=.ptr (u.n+1) 0∧L'.find 7=.slice x.n 0 b.sales.length b.sales.length false∧(∀ c,c<z.n→c≠x.n→t'.h.get c=z.h.get c)∧z.n≤t'.n∧t'.n≤z.n+F.length∧u.n≤t'.m∧t'.m≤far∧t'.h.get x.n=some (.cells ((auditI b.sales F).map Sale.cells).flatten 0)) F.length (by unfold rounds;omega)
   ⟨by simp only [find_cons,Env.find_set,reduceIte,Nat.reduceEqDiff],by simp only [find_cons,Env.find_set,reduceIte,Nat.reduceEqDiff];rfl,by simp only [find_cons,Env.find_set,reduceIte,Nat.reduceEqDiff],by simp only [find_cons,Env.find_set,reduceIte,Nat.reduceEqDiff],by simp only [find_cons,Env.find_set,reduceIte,Nat.reduceEqDiff],by simp only [find_cons,Env.find_set,reduceIte,Nat.reduceEqDiff];rfl,fun _ _ _=>rfl,Nat.le_refl _,Nat.le_refl _,zm.1,zm.2,zq⟩
   (fun j L' t' hj ⟨q2,q4,q7,q29,q30,q31,hsame,hn,hle,hm,hml,hq⟩=>by
    by_cases hlt:j<F.length
    ·have e0:decide ((j:Int)<(F.length:Int))=true:=decide_eq_true (by omega)
     have ad:∀ s,aAdd s .i64 (j:Int) 1=.val (.int .i64 ((j+1:Nat):Int)) s:=fun s=>by rw [aAdd_i64 s _ _ (by omega)];rfl
     obtain ⟨a0,o0,cs,csz,r1,r2,r3,r4⟩:=hIz.rows.at_.at_ j (by rw [List.length_map];exact hlt)
     rw [List.getElem_map] at r4
     have hft:F.take (j+1)=F.take j++[F[j]]:=List.take_succ_eq_append_getElem hlt
     have hlS:=ok.lt j hlt
     rw [hft,auditI_snoc]
     obtain ⟨c1,v1,v2⟩:=found_over (S:=auditI b.sales (F.take j)) (f:=F[j]) (by rw [auditI_len];exact hlS)
     generalize auditI b.sales (F.take j)=A at *
     generalize F[j]=f at *
     unfold Fnd.cells at r4
     have ta:=(hsame a0 (by omega) (by omega)).trans r3
     have iq:∀ s,ixsA 6 s (.slice x.n 0 b.sales.length b.sales.length false) (.int .i64 (f.sale:Int))=.val (.ptr x.n (f.sale * 6)) s:=fun s=>by rw [ixs_slice _ _ _ _ _ _ _ _ hlS,Nat.zero_add]
     obtain ⟨p,hp⟩:∃ p:St,p=(t'.new (.cells [.int .i64 0,.int .i64 0,.int .i64 0] (tag 66))).put t'.n (.cells [.int .i64 (f.sale:Int),.int .i64 f.gr,.int .i64 f.ce] (tag 66)):=⟨_,rfl⟩
     have pn:p.n=t'.n+1:=by rw [hp];rfl
     have pm:p.m≤t'.m:=by rw [hp];simp only [St.put,minN_eq,new_m];omega
     have pm2:u.n≤p.m:=by rw [hp];simp only [St.put,minN_eq,new_m];omega
     have pg:∀ c,c<t'.n→p.h.get c=t'.h.get c:=fun c hc=>by rw [hp,get_put_ne' _ _ _ _ (by omega),get_new_ne _ _ _ (by omega)]
     have p9:p.h.get t'.n=some (.cells [.int .i64 (f.sale:Int),.int .i64 f.gr,.int .i64 f.ce] (tag 66)):=by rw [hp];exact get_put_eq _ _ _ _ rfl (by omega)
     have pq:=(pg x.n (by omega)).trans hq
     obtain ⟨p1,hp1⟩:∃ p1:St,p1=p.put x.n (.cells c1 0):=⟨_,rfl⟩
     have p1n:p1.n=p.n:=by rw [hp1];rfl
     have p1m:u.n≤p1.m∧p1.m≤p.m:=by rw [hp1];simp only [St.put,minN_eq];omega
     have p1g:∀ c,c≠x.n→p1.h.get c=p.h.get c:=fun c hc=>by rw [hp1,get_put_ne' _ _ _ _ hc]
     have p1q:p1.h.get x.n=some (.cells c1 0):=by rw [hp1];exact get_put_eq _ _ _ _ rfl (by omega)
     have p19:=(p1g t'.n (by omega)).trans p9
     refine .inl ⟨hlt,?_⟩
     simp (disch:=first|omega|(with_unfolding_all exact rfl)|(simp only[new_n,put_n,new_m];omega)|(refine put_m_le ?_;simp only[new_m];omega)) only [K27l0,K27r7,K27r8,Abs.W,reduceIte,Nat.reduceEqDiff,Nat.reduceAdd,decide_true,decide_false,kLoop_def,Nat.reduceSub,List.cons_append,List.nil_append,List.append_nil,List.length_cons,List.length_nil,Env.find_set,q29,q30,q31,e0,r2,ta,r4,kf,Nat.zero_add]
     rw [← hp]
     clear hp
     simp (disch:=first|omega|(with_unfolding_all exact rfl)|(simp only[new_n,put_n,new_m];omega)|(refine put_m_le ?_;simp only[new_m];omega)) only [K27r9,Abs.W,reduceIte,Nat.reduceEqDiff,Nat.reduceAdd,decide_true,decide_false,kLoop_def,Nat.reduceSub,List.cons_append,List.nil_append,List.append_nil,List.length_cons,List.length_nil,Env.find_set,q7,p9,iq,pq,v1,Nat.zero_add]
     rw [← hp1]
     clear hp1
     simp (disch:=first|omega|(with_unfolding_all exact rfl)|(simp only[new_n,put_n,new_m];omega)|(refine put_m_le ?_;simp only[new_m];omega)) only [K27r10,K27r11,Abs.W,reduceIte,Nat.reduceEqDiff,Nat.reduceAdd,decide_true,decide_false,kLoop_def,Nat.reduceSub,List.cons_append,List.nil_append,List.append_nil,List.length_cons,List.length_nil,Env.find_set,q7,p19,iq,p1q,v2,q31,ad,Nat.zero_add]
     refine ⟨_,_,rfl,?_,?_,?_,?_,?_,?_,fun c hc hcq=>?_,?_,?_,?_,?_,?_⟩
     ·simp only [Env.find_set,q2,reduceIte,Nat.reduceEqDiff]
     ·simp only [Env.find_set,q4,reduceIte,Nat.reduceEqDiff]
     ·simp only [Env.find_set,q7,reduceIte,Nat.reduceEqDiff]
     ·simp only [Env.find_set,q29,reduceIte,Nat.reduceEqDiff]
     ·simp only [Env.find_set,q30,reduceIte,Nat.reduceEqDiff]
     ·simp only [Env.find_set,reduceIte,Nat.reduceEqDiff]
     ·rw [get_put_ne' _ _ _ _ hcq,p1g c hcq,pg c (by omega)];exact hsame c hc hcq
     ·simp only [put_n];omega
     ·simp only [put_n];omega
     ·simp only [St.put,minN_eq];omega
     ·simp only [St.put,minN_eq];omega
     ·exact get_put_eq _ _ _ _ rfl (by omega)
    ·obtain rfl:j=F.length:=by omega
     have e0:decide ((F.length:Int)<(F.length:Int))=false:=by simp
     rw [List.take_length] at hq
     refine .inr ⟨.exit 0,L'.set 32 (.bool false),t',by simp,?_,rfl,?_,?_,?_,hsame,hn,hle,hm,hml,hq⟩
     ·simp (disch:=first|omega|(with_unfolding_all exact rfl)|(simp only[new_n,put_n,new_m];omega)|(refine put_m_le ?_;simp only[new_m];omega)) only [K27l0,K27r7,Abs.W,reduceIte,Nat.reduceEqDiff,Nat.reduceAdd,decide_true,decide_false,kLoop_def,Nat.reduceSub,List.cons_append,List.nil_append,List.append_nil,List.length_cons,List.length_nil,Env.find_set,q30,q31,e0]
     all_goals simp only [Env.find_set,q2,q4,q7,reduceIte,Nat.reduceEqDiff])
  have a0:=(hsame u.n (by omega) (by omega)).trans z0'
  have a1:=(hsame (u.n+1) (by omega) (by omega)).trans ((gz (u.n+1) (by omega)).trans w1)
  obtain ⟨d1,hd1⟩:∃ d1:St,d1=t2.put u.n (.cells [.int .i64 b.stalls,.int .i64 b.goods,.slice x.n 0 b.sales.length b.sales.length false] (tag 27)):=⟨_,rfl⟩
  have d1n:d1.n=t2.n:=by rw [hd1];rfl
  have d1m:u.n≤d1.m∧d1.m≤far:=by rw [hd1];simp only [St.put,minN_eq];omega
  have d1g:∀ c,c≠u.n→d1.h.get c=t2.h.get c:=fun c hc=>by rw [hd1,get_put_ne' _ _ _ _ hc]
  have d10:d1.h.get u.n=some (.cells [.int .i64 b.stalls,.int .i64 b.goods,.slice x.n 0 b.sales.length b.sales.length false] (tag 27)):=by rw [hd1];exact get_put_eq _ _ _ _ rfl (by omega)
  have d11:=(d1g (u.n+1) (by omega)).trans a1
  simp (disch:=first|omega|(with_unfolding_all exact rfl)|(simp only[new_n,put_n,new_m];omega)|(refine put_m_le ?_;simp only[new_m];omega)) only [K27r12,Abs.W,reduceIte,Nat.reduceEqDiff,Nat.reduceAdd,decide_true,decide_false,kLoop_def,Nat.reduceSub,List.cons_append,List.nil_append,List.append_nil,List.length_cons,List.length_nil,Env.find_set,q2,q7,a0,Nat.zero_add]
  rw [← hd1]
  clear hd1
  obtain ⟨d2,hd2⟩:∃ d2:St,d2=d1.put (u.n+1) (.cells [.int .i64 b.stalls,.int .i64 b.goods,.slice x.n 0 b.sales.length b.sales.length false] (tag 27)):=⟨_,rfl⟩
  have d2n:d2.n=d1.n:=by rw [hd2];rfl
  have d2m:u.n≤d2.m∧d2.m≤far:=by rw [hd2];simp only [St.put,minN_eq];omega
  have d2g:∀ c,c≠u.n+1→d2.h.get c=d1.h.get c:=fun c hc=>by rw [hd2,get_put_ne' _ _ _ _ hc]
  have d21:d2.h.get (u.n+1)=some (.cells [.int .i64 b.stalls,.int .i64 b.goods,.slice x.n 0 b.sales.length b.sales.length false] (tag 27)):=by rw [hd2];exact get_put_eq _ _ _ _ rfl (by omega)
  simp (disch:=first|omega|(with_unfolding_all exact rfl)|(simp only[new_n,put_n,new_m];omega)|(refine put_m_le ?_;simp only[new_m];omega)) only [K27r13,res27,Abs.W,reduceIte,Nat.reduceEqDiff,Nat.reduceAdd,decide_true,decide_false,kLoop_def,Nat.reduceSub,List.cons_append,List.nil_append,List.append_nil,List.length_cons,List.length_nil,Env.find_set,q2,q4,d10,d11,Nat.zero_add]
  rw [← hd2]
  clear hd2
  refine ⟨.tup [.agg [.int .i64 b.stalls,.int .i64 b.goods,.slice x.n 0 b.sales.length b.sales.length false],.int .i64 0],d2,(leave_ct 4 _ 5 _ _ sh3 (v:=.agg [.int .i64 b.stalls,.int .i64 b.goods,.slice x.n 0 b.sales.length b.sales.length false]) ?_).trans (by simp only [Env.find_set,reduceIte,Nat.reduceEqDiff]),⟨fun c hc=>?_,by omega,by omega,d2m.1,d2m.2⟩,⟨x.n,rfl,by omega,by omega,?_⟩,fun hp=>?_⟩
  ·simp only [Env.find_set,find_cons,q4,reduceIte,Nat.reduceEqDiff]
   rw [load_ptr,d21,loadO_cells,partS_some]
   rfl
  ·rw [d2g c (by omega),d1g c (by omega),hsame c (by omega) (by omega)]
   exact (gz c (by omega)).trans (wg c hc)
  ·rw [d2g x.n (by omega),d1g x.n (by omega)];exact hq2
  ·first | cases hp | simp [plain,plains] at hp)
 exact ⟨q,t,hr.symm.trans e,st,y1,y2,y3⟩
end Go.Proofs.Ytamlnddeiokbdaa.walk
namespace Go.Proofs.Ytamlnddeiokbdaa.walk
open Go.Abs Go.Proofs.Ytamlnddeiokbdaa.code
def exactOf (z:Sold):Sold:=(⟨z.1.st,z.1.gd,z.2.1,z.2.1,z.2.2,z.2.2⟩,z.2)
def exZ (Z:List Sold):List Sold:=Z.map exactOf
theorem exZ_ok {Z:List Sold} (ok:AllOk Z):AllOk (exZ Z):=fun z hz=>by
 obtain ⟨x,hx,rfl⟩:=List.mem_map.mp hz
 obtain ⟨g0,g1,g2,g3,c0,c1,c2,c3⟩:=ok x hx
 exact ⟨Int.le_trans g0 g1,Int.le_refl _,Int.le_refl _,Int.le_trans g2 g3,Int.le_trans c0 c1,Int.le_refl _,Int.le_refl _,Int.le_trans c2 c3⟩
theorem all_ex (g:Int):∀ Z:List Sold,allG g (exZ Z)=allG g Z
 | []=>rfl
 | z::r=>by
  show (if z.1.gd=g then z.2.1 else 0)+allG g (exZ r)=_
  rw [all_ex g r]
  rfl
theorem upto_ex (g p:Int):∀ Z:List Sold,uptoZ g p (exZ Z)=uptoZ g p Z
 | []=>rfl
 | z::r=>by
  show (if z.1.gd=g∧z.2.2≤p then z.2.1 else 0)+uptoZ g p (exZ r)=_
  rw [upto_ex g p r]
  rfl
def Exact (T:List Sale):Prop:=∀ s ∈ T,s.gl=s.gh∧s.cl=s.ch
theorem Exact.tail {s:Sale} {T:List Sale} (h:Exact (s::T)):Exact T:=fun x hx=>h x (List.mem_cons_of_mem _ hx)
theorem cheap_exact (p:Int):∀ T:List Sale,Exact T→cheapI false p T=cheapI true p T∧dearI false p T=dearI true p T
 | [],_=>⟨rfl,rfl⟩
 | s::r,h=>by
  obtain ⟨a,b⟩:=cheap_exact p r h.tail
  obtain ⟨e1,e2⟩:=h s (List.mem_cons_self ..)
  unfold cheapI dearI
  simp only [spanAt,Bool.not_false,Bool.not_true]
  rw [a,b,e1,e2]
  exact ⟨rfl,rfl⟩
theorem weigh_exact:∀ T:List Sale,Exact T→weighI false T=weighI true T
 | [],_=>rfl
 | s::r,h=>by
  have a:=weigh_exact r h.tail
  obtain ⟨e1,e2⟩:=h s (List.mem_cons_self ..)
  unfold weighI
  simp only [spanAt]
  rw [a,e1]
theorem enough_exact {T:List Sale} (h:Exact T) (p:Int):enoughI false T p=enoughI true T p:=by
 unfold enoughI
 rw [(cheap_exact p T h).1,(cheap_exact p T h).2]
theorem fold_exact (T:List Sale) (hT:Exact T):∀ (r:List Sale) (st:Bool × Int),Exact r→r.foldl (tryI false T) st=r.foldl (tryI true T) st
 | [],_,_=>rfl
 | s::r,st,h=>by
  obtain ⟨e1,e2⟩:=h s (List.mem_cons_self ..)
  have es:spanAt false s.cl s.ch=spanAt true s.cl s.ch:=e2
  have e:tryI false T st s=tryI true T st s:=by
   unfold tryI
   rw [es,enough_exact hT]
  rw [List.foldl_cons,List.foldl_cons,e]
  exact fold_exact T hT r _ h.tail
theorem price_exact {T:List Sale} (h:Exact T):priceI false T=priceI true T:=by
 unfold priceI
 rw [fold_exact T h T _ h]
theorem exact_sold (Z:List Sold) (g:Int):Exact (soldOf (salesZ (exZ Z)) g):=fun s hs=>by
 obtain ⟨h1,_⟩:=List.mem_filter.mp hs
 obtain ⟨z,hz,rfl⟩:=List.mem_map.mp h1
 obtain ⟨x,hx,rfl⟩:=List.mem_map.mp hz
 exact ⟨rfl,rfl⟩
theorem half_is {Z:List Sold} (ok:AllOk Z) (g:Int) :
  priceI true (soldOf (salesZ (exZ Z)) g)=priceI false (soldOf (salesZ (exZ Z)) g) ∧
  (0<allG g Z→verdOf (soldOf (salesZ (exZ Z)) g)=1∧allG g Z≤2 * uptoZ g (priceI false (soldOf (salesZ (exZ Z)) g)) Z∧2 * uptoZ g (priceI false (soldOf (salesZ (exZ Z)) g) - 1) Z<allG g Z) ∧
  (allG g Z=0→verdOf (soldOf (salesZ (exZ Z)) g)=2):=by
 have okx:=exZ_ok ok
 have hx:=exact_sold Z g
 have hp:=price_exact hx
 have hw:=weigh_exact _ hx
 obtain ⟨_,_,_,_,w1,w2⟩:=low_high g 0 (exZ Z) okx
 rw [all_ex] at w1 w2
 refine ⟨hp.symm,fun ha=>?_,fun ha=>?_⟩
 ·have ha':0<allG g (exZ Z):=by rw [all_ex];exact ha
  obtain ⟨f1,f2⟩:=fair_between okx ha'
  obtain ⟨_,f3⟩:=fair_is okx ha'
  have fp:(fairI g (exZ Z)).1=priceI false (soldOf (salesZ (exZ Z)) g):=by omega
  rw [fp,all_ex,upto_ex] at f3
  refine ⟨?_,f3,?_⟩
  ·unfold verdOf verdI
   rw [if_pos (decide_eq_true (by omega))]
  ·by_cases hq:allG g Z≤2 * uptoZ g (priceI false (soldOf (salesZ (exZ Z)) g) - 1) Z
   ·have:=(fair_upTo okx ha' (q:=priceI false (soldOf (salesZ (exZ Z)) g) - 1) (by rw [all_ex,upto_ex];exact hq)).2
    omega
   ·omega
 ·unfold verdOf verdI
  have h1:¬ 0<weighI false (soldOf (salesZ (exZ Z)) g):=by omega
  have h2:¬ 0<weighI true (soldOf (salesZ (exZ Z)) g):=by omega
  rw [if_neg (by simpa using h1),if_neg (by simpa using h2)]
def fAll (Z:List Sold):List Fnd:=Z.mapIdx fun i z=>⟨i,z.2.1,z.2.2⟩
theorem fAll_len (Z:List Sold):(fAll Z).length=Z.length:=List.length_mapIdx
theorem fAll_at (Z:List Sold) (i:Nat) (h:i<(fAll Z).length) (h':i<Z.length):(fAll Z)[i]=⟨i,Z[i].2.1,Z[i].2.2⟩:=List.getElem_mapIdx
theorem fAll_snoc (Z:List Sold) (z:Sold):fAll (Z++[z])=fAll Z++[⟨Z.length,z.2.1,z.2.2⟩]:=by unfold fAll;rw [List.mapIdx_concat]
theorem fAll_ok {Z:List Sold} (ok:AllOk Z):FindsOk (salesZ Z) (fAll Z):=by
 refine ⟨fun i h=>?_,fun i h h'=>?_,fun i h h'=>?_,fun i j hi hj=>?_⟩
 ·have hz:i<Z.length:=by rw [fAll_len] at h;exact h
  rw [fAll_at Z i h hz,List.length_map]
  exact hz
 ·have hz:i<Z.length:=by rw [fAll_len] at h;exact h
  obtain ⟨g0,g1,g2,g3,c0,c1,c2,c3⟩:=ok _ (List.getElem_mem hz)
  simp only [fAll_at Z i h hz,List.getElem_map]
  exact ⟨g1,g2⟩
 ·have hz:i<Z.length:=by rw [fAll_len] at h;exact h
  obtain ⟨g0,g1,g2,g3,c0,c1,c2,c3⟩:=ok _ (List.getElem_mem hz)
  simp only [fAll_at Z i h hz,List.getElem_map]
  exact ⟨c1,c2⟩
 ·have hz:i<Z.length:=by rw [fAll_len] at hi;exact hi
  rw [fAll_at Z i hi hz,fAll_at Z j (by omega) (by omega)]
  show j≠i
  omega
theorem exZ_snoc (A:List Sold) (z:Sold):salesZ (exZ (A++[z]))=salesZ (exZ A)++[(exactOf z).1]:=by
 show ((A++[z]).map exactOf).map Prod.fst=(A.map exactOf).map Prod.fst++[(exactOf z).1]
 rw [List.map_append,List.map_append]
 rfl
theorem audit_to (Z:List Sold):∀ j,j≤Z.length→auditI (salesZ Z) (fAll (Z.take j))=salesZ (exZ (Z.take j))++(salesZ Z).drop j
 | 0,_=>rfl
 | j+1,hj=>by
  have ih:=audit_to Z j (by omega)
  have hlt:j<(salesZ Z).length:=by rw [List.length_map];omega
  have hd:=List.drop_eq_getElem_cons hlt
  have hA:(salesZ (exZ (Z.take j))).length=j:=by unfold exZ;rw [List.length_map,List.length_map,List.length_take];omega
  rw [show Z.take (j+1)=Z.take j++[Z[j]] from List.take_succ_eq_append_getElem (by omega),fAll_snoc,auditI_snoc,ih,hd]
  have hl:(Z.take j).length=j:=by rw [List.length_take];omega
  unfold foundIn
  simp only [hl]
  rw [List.getElem?_append_right (by omega),hA,Nat.sub_self]
  simp only [List.getElem?_cons_zero]
  rw [List.set_append_right _ _ (by omega),hA,Nat.sub_self,List.set_cons_zero]
  rw [exZ_snoc,List.append_assoc,List.getElem_map]
  rfl
theorem audit_all (Z:List Sold):auditI (salesZ Z) (fAll Z)=salesZ (exZ Z):=by
 have:=audit_to Z Z.length (Nat.le_refl _)
 rw [List.take_length] at this
 rw [this,List.drop_of_length_le (by rw [List.length_map];exact Nat.le_refl _),List.append_nil]
theorem exZ_book {ks kg:Nat} {Z:List Sold} (okb:(⟨ks,kg,salesZ Z⟩:Book).Ok) (ok:AllOk Z):(⟨ks,kg,salesZ (exZ Z)⟩:Book).Ok:=by
 obtain ⟨k0,k1,g0,g1,l,o⟩:=okb
 refine ⟨k0,k1,g0,g1,?_,fun s hs=>?_⟩
 ·have l:(salesZ Z).length≤40:=l
  show (salesZ (exZ Z)).length≤40
  unfold exZ
  rw [List.length_map] at l ⊢
  rw [List.length_map]
  exact l
 ·obtain ⟨z,hz,rfl⟩:=List.mem_map.mp hs
  obtain ⟨x,hx,rfl⟩:=List.mem_map.mp hz
  obtain ⟨s0,s1,d0,d1,_,_,_,_,_,_⟩:=o x.1 (List.mem_map.mpr ⟨x,hx,rfl⟩)
  obtain ⟨g0,g1,g2,g3,c0,c1,c2,c3⟩:=ok x hx
  exact ⟨s0,s1,d0,d1,Int.le_trans g0 g1,Int.le_refl _,Int.le_trans g2 g3,Int.le_trans c0 c1,Int.le_refl _,Int.le_trans c2 c3⟩
end Go.Proofs.Ytamlnddeiokbdaa.walk
set_option maxRecDepth 10000
namespace Go.Proofs.Ytamlnddeiokbdaa.walk
open Go.Abs Go.Proofs.Ytamlnddeiokbdaa.code
theorem truthRows_ex (Z:List Sold):truthRows (exZ Z)=truthRows Z:=by
 unfold truthRows exZ
 rw [List.map_map]
 rfl
structure FndJ (u t:St) (F:List Fnd) (v:AV) (bl kk:Nat):Prop where
 is:IsAt t.h t.n bl 3 (tag 66) (F.map Fnd.cells) v
 lo:u.n≤bl
 same:∀ c,c<u.n→t.h.get c=u.h.get c
 n:u.n≤t.n
 le:t.n≤u.n+kk
 mle:t.m≤far
theorem fnd_round (cl:CallF) (cx:Ctx) {Z:List Sold} {vt v:AV} {u t:St} {L:Env} {bl kk j:Nat} (J:FndJ u t (fAll (Z.take j)) v bl kk) (RT:RowsAt u.h u.n 2 (truthRows Z) vt) (hl:Z.length≤40) (hj:j<Z.length) (hs:u.n+kk+2000≤far)
  (q5:L.find 5=vt) (q6:L.find 6=v) (q7:L.find 7=.int .i64 (j:Int)) :
  ∃ L1 t1 v1 bl1,K8l0 cl cx L [] t=.done .norm L1 [] t1∧FndJ u t1 (fAll (Z.take (j+1))) v1 bl1 (kk+6)∧L1.find 6=v1∧L1.find 7=.int .i64 ((j+1:Nat):Int)∧∀ c,c<6→L1.find c=L.find c:=by
 have hf:far=1000000000:=rfl
 obtain ⟨ji,jlo,js,jn,jle,jm⟩:=J
 have e0:decide ((j:Int)<(Z.length:Int))=true:=decide_eq_true (by omega)
 have kv:∀ t,okA (.val v t)=.val v t:=ji.okA
 have kt:∀ t,okA (.val vt t)=.val vt t:=fun t=>okA_ne RT.ne
 have lt:=RT.len
 rw [truthRows_len] at lt
 have ad:∀ s,aAdd s .i64 (j:Int) 1=.val (.int .i64 ((j+1:Nat):Int)) s:=fun s=>by rw [aAdd_i64 s _ _ (by omega)];rfl
 obtain ⟨y0,p0,ct,st,r1,t2,t3,t4⟩:=RT.at_ j (by rw [truthRows_len];exact hj)
 have e2:(truthRows Z)[j]'(by rw [truthRows_len];exact hj)=[.int .i64 Z[j].2.1,.int .i64 Z[j].2.2]:=by simp [truthRows]
 rw [e2] at t4
 have n0:nth ct p0=.int .i64 Z[j].2.1:=nth_cut t4 (j:=0) (by simp)
 have n1:nth ct (p0+1)=.int .i64 Z[j].2.2:=nth_cut t4 (j:=1) (by simp)
 have ty:=(js y0 r1).trans t3
 have hst:fAll (Z.take (j+1))=fAll (Z.take j)++[⟨j,Z[j].2.1,Z[j].2.2⟩]:=by
  rw [show Z.take (j+1)=Z.take j++[Z[j]] from List.take_succ_eq_append_getElem hj,fAll_snoc]
  rw [show (Z.take j).length=j by rw [List.length_take];omega]
 have fl:(fAll (Z.take j)).length=j:=by rw [fAll_len,List.length_take];omega
 generalize Z[j]=z at *
 obtain ⟨y2,hy2⟩:∃ y2:St,y2=t.new (.cells [.int .i64 (j:Int),.int .i64 z.2.1,.int .i64 z.2.2] 0):=⟨_,rfl⟩
 have y2n:y2.n=t.n+1:=by rw [hy2];rfl
 have y2m:y2.m=t.m:=by rw [hy2];rfl
 have y2g:∀ c,c<t.n→y2.h.get c=t.h.get c:=fun c hc=>by rw [hy2,get_new_ne _ _ _ (by omega)]
 have y2p:y2.h.get t.n=some (.cells [.int .i64 (j:Int),.int .i64 z.2.1,.int .i64 z.2.2] 0):=by rw [hy2];exact get_new_eq _ _ _ rfl (by omega)
 obtain ⟨s7,e7,l7,s7n,s7g,s7m,s7l⟩:=append_at (bytes:=24) (ji.mono (h':=y2.h) (n':=y2.n) (fun h=>y2g bl (by omega)) (by omega)) y2p rfl rfl (by rw [List.length_map,fl];omega) (by kernel_rfl) (by omega)
 rw [List.length_map,fl] at e7 l7
 obtain ⟨v7,hv7⟩:∃ v7,v7=AV.slice y2.n 0 (j+1) (j+1) true:=⟨_,rfl⟩
 rw [← hv7] at e7 l7
 have kv7:∀ t,okA (.val v7 t)=.val v7 t:=fun t=>by rw [hv7];rfl
 simp (config:={ maxSteps:=3000000 }) (disch:=first|omega|(with_unfolding_all exact rfl)|(simp only[new_n,put_n,new_m];omega)|(refine put_m_le ?_;simp only[new_m];omega)) only [K8l0,K8r6,K8r7,K8r8,Abs.W,reduceIte,Nat.reduceEqDiff,Nat.reduceAdd,decide_true,decide_false,kLoop_def,Nat.reduceSub,List.cons_append,List.nil_append,List.append_nil,List.length_cons,List.length_nil,Env.find_set,q5,q6,q7,kv,kt,lt,e0,t2,ty,n0,n1,← hy2,e7,kv7,ad,endO_nil,Nat.zero_add,Nat.add_zero]
 have hrow:(fAll (Z.take j)++[(⟨j,z.2.1,z.2.2⟩:Fnd)]).map Fnd.cells=(fAll (Z.take j)).map Fnd.cells++[[.int .i64 (j:Int),.int .i64 z.2.1,.int .i64 z.2.2]]:=by rw [List.map_append];rfl
 refine ⟨_,_,v7,y2.n,rfl,⟨by rw [hst,hrow];exact l7,by omega,fun c hc=>?_,by omega,by omega,by omega⟩,?_,?_,fun c hc=>?_⟩
 ·rw [s7g c (by omega) (by omega),y2g c (by omega)];exact js c hc
 ·simp only [Env.find_set,reduceIte,Nat.reduceEqDiff]
 ·simp only [Env.find_set,reduceIte,Nat.reduceEqDiff]
 ·simp only [Env.find_set]
  repeat rw [if_neg (by omega)]
theorem half_sum (cl:CallF) (cx:Ctx) {Z:List Sold} {ks kg v1 vt:AV} {p4 p11 i j:Nat} {p p':Int} {w:St} {L:Env} (ok:AllOk Z) (hl:Z.length≤40) (w4:w.h.get p4=some (.cells [ks,kg,v1] (tag 27))) (RS:RowsAt w.h w.n 6 ((salesZ Z).map Sale.cells) v1) (RT:RowsAt w.h w.n 2 (truthRows Z) vt) (w11:w.h.get p11=some (.cells [.int .i64 p,.int .i64 p'] (tag 38))) (hj:j<Z.length) (hwf:w.n≤far)
  (k4:L.find 4=.ptr p4 0) (k5:L.find 5=vt) (k9:L.find 9=.int .i64 (i:Int)) (k11:L.find 11=.ptr p11 0) (k13:L.find 13=.int .i64 (allG i (Z.take j))) (k14:L.find 14=.int .i64 (uptoZ i p (Z.take j))) (k15:L.find 15=.int .i64 (uptoZ i (p - 1) (Z.take j))) (k16:L.find 16=.int .i64 (j:Int)) :
  ∃ L1,K8l1 cl cx L [] w=.done .norm L1 [] w∧(∀ c,c<13→L1.find c=L.find c)∧L1.find 13=.int .i64 (allG i (Z.take (j+1)))∧L1.find 14=.int .i64 (uptoZ i p (Z.take (j+1)))∧L1.find 15=.int .i64 (uptoZ i (p - 1) (Z.take (j+1)))∧L1.find 16=.int .i64 ((j+1:Nat):Int):=by
 have hf:far=1000000000:=rfl
 have kv:∀ t,okA (.val v1 t)=.val v1 t:=fun t=>okA_ne RS.ne
 have kt:∀ t,okA (.val vt t)=.val vt t:=fun t=>okA_ne RT.ne
 have lt:=RT.len
 rw [truthRows_len] at lt
 have e0:decide ((j:Int)<(Z.length:Int))=true:=decide_eq_true (by omega)
 have ad:∀ s,aAdd s .i64 (j:Int) 1=.val (.int .i64 ((j+1:Nat):Int)) s:=fun s=>by rw [aAdd_i64 s _ _ (by omega)];rfl
 obtain ⟨x0,o0,cs,sz,y0,p0,ct,st,r2,r3,r4,r5,t2,t3,t4,t5⟩:=sold_read RS RT hj
 have hz:=ok _ (List.getElem_mem hj)
 have ha:=allG_snoc i Z[j] (Z.take j)
 have hu:=uptoZ_snoc i p Z[j] (Z.take j)
 have hv:=uptoZ_snoc i (p - 1) Z[j] (Z.take j)
 rw [← List.take_succ_eq_append_getElem hj] at ha hu hv
 have okt:AllOk (Z.take j):=fun z hz=>ok z (List.mem_of_mem_take hz)
 have a0:=all_range i (Z.take j) okt
 have a1:=upto_range i p (Z.take j) okt
 have a2:=upto_range i (p - 1) (Z.take j) okt
 have al:(Z.take j).length≤40:=by rw [List.length_take];omega
 generalize Z[j]=z at *
 obtain ⟨g0,g1,g2,g3,c0,c1,c2,c3⟩:=hz
 by_cases hgd:z.1.gd=i
 ·have e1:decide (z.1.gd=(i:Int))=true:=decide_eq_true hgd
  rw [if_pos hgd] at ha
  have ad1:∀ s,aAdd s .i64 (allG i (Z.take j)) z.2.1=.val (.int .i64 (allG i (Z.take (j+1)))) s:=fun s=>by rw [ha];exact aAdd_i64 s _ _ (by omega)
  by_cases hlt:z.2.2<p
  ·have e2:decide (z.2.2≤p)=true:=decide_eq_true (by omega)
   have e3:decide (z.2.2<p)=true:=decide_eq_true hlt
   rw [if_pos ⟨hgd,by omega⟩] at hu
   rw [if_pos ⟨hgd,by omega⟩] at hv
   have ad2:∀ s,aAdd s .i64 (uptoZ i p (Z.take j)) z.2.1=.val (.int .i64 (uptoZ i p (Z.take (j+1)))) s:=fun s=>by rw [hu];exact aAdd_i64 s _ _ (by omega)
   have ad3:∀ s,aAdd s .i64 (uptoZ i (p - 1) (Z.take j)) z.2.1=.val (.int .i64 (uptoZ i (p - 1) (Z.take (j+1)))) s:=fun s=>by rw [hv];exact aAdd_i64 s _ _ (by omega)
   refine ⟨_,by
    simp (config:={ maxSteps:=3000000 }) (disch:=first|omega|(with_unfolding_all exact rfl)|(simp only[new_n,put_n,new_m];omega)|(refine put_m_le ?_;simp only[new_m];omega)) only [K8l1,K8r17,K8r18,K8r19,K8r20,K8r21,K8r22,K8r23,K8r24,Abs.W,reduceIte,Nat.reduceEqDiff,Nat.reduceAdd,decide_true,decide_false,kLoop_def,Nat.reduceSub,List.cons_append,List.nil_append,List.append_nil,List.length_cons,List.length_nil,Env.find_set,k4,k5,k9,k11,k13,k14,k15,k16,kv,kt,lt,e0,e1,e2,e3,w4,w11,r2,r3,r5,t2,t3,t4,t5,ad,ad1,ad2,ad3,endO_nil,Nat.zero_add,Nat.add_zero]
    rfl,fun c hc=>?_,?_,?_,?_,?_⟩
   ·simp only [Env.find_set]
    repeat rw [if_neg (by omega)]
   all_goals simp only [Env.find_set,reduceIte,Nat.reduceEqDiff]
  ·have e3:decide (z.2.2<p)=false:=decide_eq_false hlt
   rw [if_neg (by omega),Int.add_zero] at hv
   by_cases hle:z.2.2≤p
   ·have e2:decide (z.2.2≤p)=true:=decide_eq_true hle
    rw [if_pos ⟨hgd,hle⟩] at hu
    have ad2:∀ s,aAdd s .i64 (uptoZ i p (Z.take j)) z.2.1=.val (.int .i64 (uptoZ i p (Z.take (j+1)))) s:=fun s=>by rw [hu];exact aAdd_i64 s _ _ (by omega)
    refine ⟨_,by
     simp (config:={ maxSteps:=3000000 }) (disch:=first|omega|(with_unfolding_all exact rfl)|(simp only[new_n,put_n,new_m];omega)|(refine put_m_le ?_;simp only[new_m];omega)) only [K8l1,K8r17,K8r18,K8r19,K8r20,K8r21,K8r22,K8r24,Abs.W,reduceIte,Nat.reduceEqDiff,Nat.reduceAdd,decide_true,decide_false,kLoop_def,Nat.reduceSub,List.cons_append,List.nil_append,List.append_nil,List.length_cons,List.length_nil,Env.find_set,k4,k5,k9,k11,k13,k14,k15,k16,kv,kt,lt,e0,e1,e2,e3,w4,w11,r2,r3,r5,t2,t3,t4,t5,ad,ad1,ad2,endO_nil,Nat.zero_add,Nat.add_zero]
     rfl,fun c hc=>?_,?_,?_,?_,?_⟩
    ·simp only [Env.find_set]
     repeat rw [if_neg (by omega)]
    all_goals simp only [Env.find_set,k15,hv,reduceIte,Nat.reduceEqDiff]
   ·have e2:decide (z.2.2≤p)=false:=decide_eq_false hle
    rw [if_neg (by omega),Int.add_zero] at hu
    refine ⟨_,by
     simp (config:={ maxSteps:=3000000 }) (disch:=first|omega|(with_unfolding_all exact rfl)|(simp only[new_n,put_n,new_m];omega)|(refine put_m_le ?_;simp only[new_m];omega)) only [K8l1,K8r17,K8r18,K8r19,K8r20,K8r22,K8r24,Abs.W,reduceIte,Nat.reduceEqDiff,Nat.reduceAdd,decide_true,decide_false,kLoop_def,Nat.reduceSub,List.cons_append,List.nil_append,List.append_nil,List.length_cons,List.length_nil,Env.find_set,k4,k5,k9,k11,k13,k14,k15,k16,kv,kt,lt,e0,e1,e2,e3,w4,w11,r2,r3,r5,t2,t3,t4,t5,ad,ad1,endO_nil,Nat.zero_add,Nat.add_zero]
     rfl,fun c hc=>?_,?_,?_,?_,?_⟩
    ·simp only [Env.find_set]
     repeat rw [if_neg (by omega)]
    all_goals simp only [Env.find_set,k14,k15,hu,hv,reduceIte,Nat.reduceEqDiff]
 ·have e1:decide (z.1.gd=(i:Int))=false:=decide_eq_false hgd
  rw [if_neg hgd,Int.add_zero] at ha
  rw [if_neg (fun h=>hgd h.1),Int.add_zero] at hu hv
  refine ⟨_,by
   simp (config:={ maxSteps:=3000000 }) (disch:=first|omega|(with_unfolding_all exact rfl)|(simp only[new_n,put_n,new_m];omega)|(refine put_m_le ?_;simp only[new_m];omega)) only [K8l1,K8r17,K8r18,K8r24,Abs.W,reduceIte,Nat.reduceEqDiff,Nat.reduceAdd,decide_true,decide_false,kLoop_def,Nat.reduceSub,List.cons_append,List.nil_append,List.append_nil,List.length_cons,List.length_nil,Env.find_set,k4,k5,k9,k11,k13,k14,k15,k16,kv,kt,lt,e0,e1,w4,r2,r3,r5,ad,Nat.zero_add,Nat.add_zero]
   rfl,fun c hc=>?_,?_,?_,?_,?_⟩
  ·simp only [Env.find_set]
   repeat rw [if_neg (by omega)]
  all_goals simp only [Env.find_set,k13,k14,k15,ha,hu,hv,reduceIte,Nat.reduceEqDiff]
theorem half_goods (n:Nat) (hn:16≤n) (cx:Ctx) {Z:List Sold} {ks kg:Nat} {v1 vt:AV} {u t:St} {L:Env} {p4 i kk:Nat} (okS:(⟨ks,kg,salesZ (exZ Z)⟩:Book).Ok) (ok:AllOk Z)
  (g4:u.h.get p4=some (.cells [.int .i64 ks,.int .i64 kg,v1] (tag 27))) (b4:p4<u.n) (R1:RowsAt u.h u.n 6 ((salesZ (exZ Z)).map Sale.cells) v1) (RT:RowsAt u.h u.n 2 (truthRows Z) vt) (hE:Past u t kk) (htm:t.m≤far) (hs:u.n+kk+4000000≤far) (hi:i<kg)
  (q4:L.find 4=.ptr p4 0) (q5:L.find 5=vt) (q9:L.find 9=.int .i64 (i:Int)) :
  ∃ L1 t1,K8l2 (knows 20 (call Try.prog X n)) cx L [] t=.done .norm L1 [] t1∧Past u t1 (kk+1)∧t1.m≤far∧L1.find 9=.int .i64 ((i+1:Nat):Int)∧∀ c,c<9→L1.find c=L.find c:=by
 have hf:far=1000000000:=rfl
 have knP:∀ args s,knows 20 (call Try.prog X n) (.fn 14) args s=call Try.prog X n (.fn 14) args s:=fun _ _=>rfl
 have tn:=hE.n
 have tl:=hE.le
 have hkg:kg≤8:=okS.g1
 have hl:Z.length≤40:=by
  have h:(salesZ (exZ Z)).length≤40:=okS.l
  unfold exZ at h
  rw [List.length_map,List.length_map] at h
  exact h
 have e0:decide ((i:Int)<(kg:Int))=true:=decide_eq_true (by omega)
 have z0:decide ((0:Int)=0)=true:=rfl
 have ad:∀ s,aAdd s .i64 (i:Int) 1=.val (.int .i64 ((i+1:Nat):Int)) s:=fun s=>by rw [aAdd_i64 s _ _ (by omega)];rfl
 have ov1:∀ t,okA (.val v1 t)=.val v1 t:=fun t=>okA_ne R1.ne
 have ovt:∀ t,okA (.val vt t)=.val vt t:=fun t=>okA_ne RT.ne
 have T1:call Try.prog X n (.fn 14) [.agg [.int .i64 ks,.int .i64 kg,v1],.int .i64 (i:Int)] t=.val (priceV (soldOf (salesZ (exZ Z)) i)) t:=Price_ok (b:=⟨ks,kg,salesZ (exZ Z)⟩) hn okS hi (R1.grow hE.same hE.n) (by omega)
 obtain ⟨hph,hpos,hzero⟩:=half_is ok (i:Int)
 have ar:=all_range (i:Int) Z ok
 have ur:=upto_range (i:Int) (priceI false (soldOf (salesZ (exZ Z)) i)) Z ok
 have lr:=upto_range (i:Int) (priceI false (soldOf (salesZ (exZ Z)) i) - 1) Z ok
 obtain ⟨vd,hvd⟩:∃ vd,vd=verdOf (soldOf (salesZ (exZ Z)) i):=⟨_,rfl⟩
 obtain ⟨pl,hpl⟩:∃ pl,pl=priceI false (soldOf (salesZ (exZ Z)) i):=⟨_,rfl⟩
 have hV:priceV (soldOf (salesZ (exZ Z)) i)=.tup [.int .i64 vd,.agg [.int .i64 pl,.int .i64 pl],.int .i64 0]:=by unfold priceV;rw [hvd,hpl,hph]
 rw [hV] at T1
 rw [← hpl,← hvd] at hpos
 rw [← hvd] at hzero
 rw [← hpl] at ur lr
 have t4:=(hE.same p4 b4).trans g4
 obtain ⟨x,hx⟩:∃ x:St,x=(t.new (.cells [.int .i64 0,.int .i64 0] (tag 38))).put t.n (.cells [.int .i64 pl,.int .i64 pl] (tag 38)):=⟨_,rfl⟩
 have xn:x.n=t.n+1:=by rw [hx];rfl
 have xm:x.m≤t.m:=by rw [hx];simp only [St.put,minN_eq,new_m];omega
 have xt:x.h.get t.n=some (.cells [.int .i64 pl,.int .i64 pl] (tag 38)):=by rw [hx];exact get_put_eq _ _ _ _ rfl (by omega)
 have hX:Past u x (kk+1):=by rw [hx];exact (hE.new _).put _ tn
 have x4:=(hX.same p4 b4).trans g4
 have RX:RowsAt x.h x.n 2 (truthRows (exZ Z)) vt:=by rw [truthRows_ex];exact RT.grow hX.same hX.n
 have xl:(exZ Z).length=Z.length:=by unfold exZ;rw [List.length_map]
 have lt:=RT.len
 rw [truthRows_len] at lt
 simp (disch:=first|omega|(with_unfolding_all exact rfl)|(simp only[new_n,put_n,new_m];omega)|(refine put_m_le ?_;simp only[new_m];omega)) only [K8l2,K8r13,K8r14,Abs.W,reduceIte,Nat.reduceEqDiff,Nat.reduceAdd,decide_true,decide_false,kLoop_def,Nat.reduceSub,List.cons_append,List.nil_append,List.append_nil,List.length_cons,List.length_nil,Env.find_set,q4,q9,e0,t4,knP,T1,ov1,extT0,extT1,extT2,okA_tupT,Nat.zero_add]
 rw [← hx]
 clear hx T1
 simp (disch:=first|omega|(with_unfolding_all exact rfl)|(simp only[new_n,put_n,new_m];omega)|(refine put_m_le ?_;simp only[new_m];omega)) only [K8r15,K8r16,Abs.W,reduceIte,Nat.reduceEqDiff,Nat.reduceAdd,decide_true,decide_false,kLoop_def,Nat.reduceSub,List.cons_append,List.nil_append,List.append_nil,List.length_cons,List.length_nil,Env.find_set,Nat.zero_add]
 generalize hlp:loopN _ rounds _ _ _ _ _=rl
 obtain ⟨e,L2,t2,rfl,rfl,rfl,k7,k9,k10,k11,k12,k13,k14,k15⟩:=loop_of hlp
  (fun j L' t'=>t'=x∧(∀ c,c<9→L'.find c=L.find c)∧L'.find 9=.int .i64 (i:Int)∧L'.find 10=.int .i64 vd∧L'.find 11=.ptr t.n 0∧L'.find 12=.int .i64 0∧L'.find 13=.int .i64 (allG i ((exZ Z).take j))∧L'.find 14=.int .i64 (uptoZ i pl ((exZ Z).take j))∧L'.find 15=.int .i64 (uptoZ i (pl - 1) ((exZ Z).take j))∧L'.find 16=.int .i64 (j:Int))
  (fun e L' t'=>e=.exit 4∧t'=x∧(∀ c,c<9→L'.find c=L.find c)∧L'.find 9=.int .i64 (i:Int)∧L'.find 10=.int .i64 vd∧L'.find 11=.ptr t.n 0∧L'.find 12=.int .i64 0∧L'.find 13=.int .i64 (allG i Z)∧L'.find 14=.int .i64 (uptoZ i pl Z)∧L'.find 15=.int .i64 (uptoZ i (pl - 1) Z))
  (exZ Z).length (by unfold rounds;omega)
  ⟨rfl,fun c hc=>by
    simp only [Env.find_set]
    repeat rw [if_neg (by omega)],by simp only [Env.find_set,q9,reduceIte,Nat.reduceEqDiff],by simp only [Env.find_set,reduceIte,Nat.reduceEqDiff],by simp only [Env.find_set,reduceIte,Nat.reduceEqDiff],by simp only [Env.find_set,reduceIte,Nat.reduceEqDiff],by simp only [Env.find_set,reduceIte,Nat.reduceEqDiff];rfl,by simp only [Env.find_set,reduceIte,Nat.reduceEqDiff];rfl,by simp only [Env.find_set,reduceIte,Nat.reduceEqDiff];rfl,by simp only [Env.find_set,reduceIte,Nat.reduceEqDiff];rfl⟩
  (fun j L' t' hj ⟨h1,h7,h9,h10,h11,h12,h13,h14,h15,h16⟩=>by
   subst h1
   have h4:L'.find 4=.ptr p4 0:=(h7 4 (by omega)).trans q4
   have h5:L'.find 5=vt:=(h7 5 (by omega)).trans q5
   by_cases hlt:j<(exZ Z).length
   ·obtain ⟨L3,z1,z2,z3,z4,z5,z6⟩:=half_sum (knows 20 (call Try.prog X n)) cx (exZ_ok ok) (by omega) x4 (R1.grow hX.same hX.n) RX xt hlt (by omega) h4 h5 h9 h11 h13 h14 h15 h16
    exact .inl ⟨hlt,L3,_,z1,rfl,fun c hc=>(z2 c (by omega)).trans (h7 c hc),(z2 9 (by omega)).trans h9,(z2 10 (by omega)).trans h10,(z2 11 (by omega)).trans h11,(z2 12 (by omega)).trans h12,z3,z4,z5,z6⟩
   ·obtain rfl:j=(exZ Z).length:=by omega
    have e1:decide (((exZ Z).length:Int)<(Z.length:Int))=false:=decide_eq_false (by omega)
    rw [List.take_length,all_ex] at h13
    rw [List.take_length,upto_ex] at h14 h15
    refine .inr ⟨.exit 4,L'.set 77 (.bool false),_,by simp,?_,rfl,rfl,fun c hc=>?_,?_,?_,?_,?_,?_,?_,?_⟩
    ·simp (disch:=first|omega|(with_unfolding_all exact rfl)|(simp only[new_n,put_n,new_m];omega)|(refine put_m_le ?_;simp only[new_m];omega)) only [K8l1,K8r17,Abs.W,reduceIte,Nat.reduceEqDiff,Nat.reduceAdd,decide_true,decide_false,kLoop_def,Nat.reduceSub,List.cons_append,List.nil_append,List.append_nil,List.length_cons,List.length_nil,Env.find_set,h5,h16,ovt,lt,e1,Nat.zero_add]
    ·rw [Env.find_set,if_neg (by omega)];exact h7 c hc
    all_goals simp only [Env.find_set,h9,h10,h11,h12,h13,h14,h15,reduceIte,Nat.reduceEqDiff])
 have pe:decide (pl=pl)=true:=decide_eq_true rfl
 have m1:∀ s,aMul s .i64 2 (uptoZ i pl Z)=.val (.int .i64 (2 * uptoZ i pl Z)) s:=fun s=>by
  rw [aMul_def,wrapA_eq]
  congr 2
  exact IntWalk.i64_in _ (by show -9223372036854775808≤2 * uptoZ i pl Z∧2 * uptoZ i pl Z≤9223372036854775807;omega)
 have m2:∀ s,aMul s .i64 2 (uptoZ i (pl - 1) Z)=.val (.int .i64 (2 * uptoZ i (pl - 1) Z)) s:=fun s=>by
  rw [aMul_def,wrapA_eq]
  congr 2
  exact IntWalk.i64_in _ (by show -9223372036854775808≤2 * uptoZ i (pl - 1) Z∧2 * uptoZ i (pl - 1) Z≤9223372036854775807;omega)
 have u25s4:=fun cl L s=>congrFun (congrFun (congrFun K8r25s4.eq_1 cl) L) s
 have u25s5:=fun cl L s=>congrFun (congrFun (congrFun K8r25s5.eq_1 cl) L) s
 have u25s6:=fun cl L s=>congrFun (congrFun (congrFun K8r25s6.eq_1 cl) L) s
 have u25s7:=fun cl L s=>congrFun (congrFun (congrFun K8r25s7.eq_1 cl) L) s
 have u25s8:=fun cl L s=>congrFun (congrFun (congrFun K8r25s8.eq_1 cl) L) s
 have u25s11:=fun cl L s=>congrFun (congrFun (congrFun K8r25s11.eq_1 cl) L) s
 have u25s12:=fun cl L s=>congrFun (congrFun (congrFun K8r25s12.eq_1 cl) L) s
 have u25s13:=fun cl L s=>congrFun (congrFun (congrFun K8r25s13.eq_1 cl) L) s
 have u25s14:=fun cl L s=>congrFun (congrFun (congrFun K8r25s14.eq_1 cl) L) s
 have u25s15:=fun cl L s=>congrFun (congrFun (congrFun K8r25s15.eq_1 cl) L) s
 have u25s18:=fun cl L s=>congrFun (congrFun (congrFun K8r25s18.eq_1 cl) L) s
 have u25s19:=fun cl L s=>congrFun (congrFun (congrFun K8r25s19.eq_1 cl) L) s
 have u25s22:=fun cl L s=>congrFun (congrFun (congrFun K8r25s22.eq_1 cl) L) s
 have u25s23:=fun cl L s=>congrFun (congrFun (congrFun K8r25s23.eq_1 cl) L) s
 have u25s24:=fun cl L s=>congrFun (congrFun (congrFun K8r25s24.eq_1 cl) L) s
 have u25s25:=fun cl L s=>congrFun (congrFun (congrFun K8r25s25.eq_1 cl) L) s
 have u25s26:=fun cl L s=>congrFun (congrFun (congrFun K8r25s26.eq_1 cl) L) s
 have u25s27:=fun cl L s=>congrFun (congrFun (congrFun K8r25s27.eq_1 cl) L) s
 have u25s28:=fun cl L s=>congrFun (congrFun (congrFun K8r25s28.eq_1 cl) L) s
 have u25s29:=fun cl L s=>congrFun (congrFun (congrFun K8r25s29.eq_1 cl) L) s
 have u25s30:=fun cl L s=>congrFun (congrFun (congrFun K8r25s30.eq_1 cl) L) s
 have u25s31:=fun cl L s=>congrFun (congrFun (congrFun K8r25s31.eq_1 cl) L) s
 have u25s32:=fun cl L s=>congrFun (congrFun (congrFun K8r25s32.eq_1 cl) L) s
 have u25s33:=fun cl L s=>congrFun (congrFun (congrFun K8r25s33.eq_1 cl) L) s
 have u25s34:=fun cl L s=>congrFun (congrFun (congrFun K8r25s34.eq_1 cl) L) s
 have u25s35:=fun cl L s=>congrFun (congrFun (congrFun K8r25s35.eq_1 cl) L) s
 by_cases ha:allG (i:Int) Z=0
 ·obtain rfl:=hzero ha
  have w0:decide (allG (i:Int) Z=0)=true:=decide_eq_true ha
  have w1:decide ((2:Int)=2)=true:=rfl
  have w2:decide ((2:Int)=3)=false:=rfl
  have w3:decide (0<allG (i:Int) Z)=false:=decide_eq_false (by omega)
  have w4:(!(true == true))=false:=rfl
  simp (config:={ maxSteps:=3000000 }) (disch:=first|omega|(with_unfolding_all exact rfl)|(simp only[new_n,put_n,new_m];omega)|(refine put_m_le ?_;simp only[new_m];omega)) only [K8r25,u25s4,u25s5,u25s6,u25s7,u25s8,u25s11,u25s12,u25s13,u25s14,u25s15,u25s18,u25s19,u25s22,u25s23,u25s24,u25s25,u25s26,u25s27,u25s28,u25s29,u25s30,u25s31,u25s32,u25s33,u25s34,u25s35,K8r27,Abs.W,reduceIte,Nat.reduceEqDiff,Nat.reduceAdd,decide_true,decide_false,kLoop_def,Nat.reduceSub,List.cons_append,List.nil_append,List.append_nil,List.length_cons,List.length_nil,Env.find_set,k9,k10,k11,k12,k13,k14,k15,xt,z0,pe,w0,w1,w2,w3,w4,kEql_def,neqBool,ad,Nat.zero_add]
  refine ⟨_,_,rfl,hX,by omega,by simp only [Env.find_set,reduceIte,Nat.reduceEqDiff],fun c hc=>?_⟩
  simp only [Env.find_set]
  repeat rw [if_neg (by omega)]
  exact k7 c hc
 ·obtain ⟨h1,h2,h3⟩:=hpos (by omega)
  subst h1
  have w0:decide (allG (i:Int) Z=0)=false:=decide_eq_false ha
  have w1:decide ((1:Int)=2)=false:=rfl
  have w2:decide ((1:Int)=3)=false:=rfl
  have w3:decide (0<allG (i:Int) Z)=true:=decide_eq_true (by omega)
  have w4:(!(false == false))=false:=rfl
  have w5:decide (2 * uptoZ i pl Z<allG i Z)=false:=decide_eq_false (by omega)
  have w6:decide (allG i Z≤2 * uptoZ i (pl - 1) Z)=false:=decide_eq_false (by omega)
  simp (config:={ maxSteps:=3000000 }) (disch:=first|omega|(with_unfolding_all exact rfl)|(simp only[new_n,put_n,new_m];omega)|(refine put_m_le ?_;simp only[new_m];omega)) only [K8r25,u25s4,u25s5,u25s6,u25s7,u25s8,u25s11,u25s12,u25s13,u25s14,u25s15,u25s18,u25s19,u25s22,u25s23,u25s24,u25s25,u25s26,u25s27,u25s28,u25s29,u25s30,u25s31,u25s32,u25s33,u25s34,u25s35,K8r27,Abs.W,reduceIte,Nat.reduceEqDiff,Nat.reduceAdd,decide_true,decide_false,kLoop_def,Nat.reduceSub,List.cons_append,List.nil_append,List.append_nil,List.length_cons,List.length_nil,Env.find_set,k9,k10,k11,k12,k13,k14,k15,xt,z0,pe,w0,w1,w2,w3,w4,w5,w6,m1,m2,aGeq_def,kEql_def,neqBool,ad,Nat.zero_add]
  refine ⟨_,_,rfl,hX,by omega,by simp only [Env.find_set,reduceIte,Nat.reduceEqDiff],fun c hc=>?_⟩
  simp only [Env.find_set]
  repeat rw [if_neg (by omega)]
  exact k7 c hc
end Go.Proofs.Ytamlnddeiokbdaa.walk
