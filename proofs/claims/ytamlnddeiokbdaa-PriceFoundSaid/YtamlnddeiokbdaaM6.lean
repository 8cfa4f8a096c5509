/- The law PriceEnds: its goods. -/
import Derived.Test.YtamlnddeiokbdaaM5
import Derived.Test.YtamlnddeiokbdaaM3
import Derived.Test.YtamlnddeiokbdaaM4
import Derived.Test.YtamlnddeiokbdaaWalkAll
set_option linter.unusedSimpArgs false
set_option maxHeartbeats 16000000
set_option linter.unusedVariables false
set_option maxRecDepth 10000
namespace Go.Proofs.Ytamlnddeiokbdaa.walk
open Go.Abs Go.Proofs.Ytamlnddeiokbdaa.code
end Go.Proofs.Ytamlnddeiokbdaa.walk
set_option maxRecDepth 10000
namespace Go.Abs
theorem over_app:∀ (r:List AV) {p:Nat} {v rest c:List AV},over p v rest=some c→over (r.length+p) v (r++rest)=some (r++c)
 | [],p,v,rest,c,h=>by
  rw [List.length_nil,Nat.zero_add]
  exact h
 | a::r,p,v,rest,c,h=>by
  rw [List.cons_append,over_cons,if_neg (by rw [List.length_cons];omega)]
  rw [show (a::r).length+p - 1=r.length+p by rw [List.length_cons];omega,over_app r h]
  rfl
theorem over_hd {r rest v r':List AV} {o:Nat} (ho:o+v.length≤r.length) (h:over o v r=some r'):over o v (r++rest)=some (r'++rest):=by
 rw [over_eq _ _ _ ho] at h
 obtain rfl:=Option.some.inj h
 rw [over_eq _ _ _ (by rw [List.length_append];omega),List.take_append_of_le_length (by omega),List.drop_append_of_le_length (by omega)]
 simp only [List.append_assoc]
theorem over_row:∀ {rows:List (List AV)} {w i o:Nat} {v r':List AV},(∀ r ∈ rows,r.length=w)→(hi:i<rows.length)→o+v.length≤w→over o v rows[i]=some r'→over (i * w+o) v rows.flatten=some (rows.set i r').flatten
 | [],_,i,_,_,_,_,hi,_,_=>by simp at hi
 | r::rs,w,0,o,v,r',hw,_,ho,h=>by
  have:=hw r (List.mem_cons_self ..)
  rw [Nat.zero_mul,Nat.zero_add,List.flatten_cons,List.set_cons_zero,List.flatten_cons]
  exact over_hd (by omega) h
 | r::rs,w,i+1,o,v,r',hw,hi,ho,h=>by
  have hr:=hw r (List.mem_cons_self ..)
  rw [List.flatten_cons,List.set_cons_succ,List.flatten_cons,show (i+1) * w+o=r.length+(i * w+o) by rw [Nat.succ_mul,hr];omega]
  exact over_app r (over_row (fun x hx=>hw x (List.mem_cons_of_mem _ hx)) (by simpa using hi) ho h)
theorem make_48 (z:List AV) (s:St) (n:Nat) (hn:n≤1000):makeA z 48 s (.int .i64 (n:Int)) (.int .i64 (n:Int))=.val (.slice s.n 0 n n false) (s.new (.cells (zerosA z n) 0)):=by
 show (match Nat.ble n n with | false=>ARes.fail | true=>match Nat.ble (n * 48) limit with | false=>.fail | true=>match Nat.ble n limit with | false=>.fail | true=>.val (.slice s.n 0 n n false) (s.new (.cells (zerosA z n) 0)))=_
 rw [Nat.ble_eq_true_of_le (Nat.le_refl n),Nat.ble_eq_true_of_le (show n * 48≤limit by unfold limit;omega),Nat.ble_eq_true_of_le (show n≤limit by unfold limit;omega)]
theorem cut_all:∀ (l:List AV),cut 0 l.length l=some l:=fun l=>by
 have h:∀ l:List AV,cut1 l.length l=some l:=by
  intro l
  induction l with
  | nil=>rfl
  | cons a r ih=>rw [List.length_cons,cut1_cons,ih];rfl
 cases l with
 | nil=>rfl
 | cons a r=>rw [cut_cons];exact h _
theorem copy_rows {s:St} {q b w tg sz:Nat} {rows:List (List AV)} {v:AV} {c:List AV} (hI:IsAt s.h s.n b w tg rows v) (hsc:scalars rows.flatten=true) (hq:s.h.get q=some (.cells c sz)) (hc:c.length=rows.length * w) :
  copyA w s (.slice q 0 rows.length rows.length false) v=.val (.int .i64 (rows.length:Nat)) (s.put q (.cells rows.flatten sz)):=by
 have fl:=flatten_len hI.wide
 have hl:lenA v=some rows.length:=by
  rcases hI.is with ⟨h1,h2⟩ | ⟨_,_,h2,_⟩
  ·subst h1;subst h2;rfl
  ·subst h2;rfl
 have hf:firstA w (Nat.min rows.length rows.length) s v=some rows.flatten:=by
  rcases hI.is with ⟨h1,h2⟩ | ⟨_,_,h2,h3⟩
  ·subst h1;subst h2;rfl
  ·subst h2
   rw [show Nat.min rows.length rows.length=rows.length from Nat.min_self _]
   show (match s.h.get b with | some (.cells c _)=>cut 0 (rows.length * w) c | some (.fam c _ k _)=>cut 0 (rows.length * w) (c.take k) | _=>none)=_
   rw [h3]
   show cut 0 (rows.length * w) rows.flatten=_
   rw [← fl]
   exact cut_all _
 have hl2:lenA (.slice q 0 rows.length rows.length false)=some rows.length:=rfl
 unfold copyA
 rw [hl2,hl]
 simp only
 rw [hf]
 show (match scalars rows.flatten with | false=>ARes.fail | true=>match s.h.get q with | some (.cells c sz)=>(match over 0 rows.flatten c with | some c=>ARes.val (.int .i64 (Nat.min rows.length rows.length:Nat)) (s.put q (.cells c sz)) | none=>.fail) | _=>.fail)=_
 rw [hsc,hq]
 show (match over 0 rows.flatten c with | some c=>ARes.val (.int .i64 (Nat.min rows.length rows.length:Nat)) (s.put q (.cells c sz)) | none=>.fail)=_
 rw [over_zero _ _ (by rw [fl,hc]),show Nat.min rows.length rows.length=rows.length from Nat.min_self _]
end Go.Abs
namespace Go.Proofs.Ytamlnddeiokbdaa.walk
open Go.Abs Go.Proofs.Ytamlnddeiokbdaa.code
theorem checkFinds_ok (N:Nat) (hN:5≤N) {F:List Fnd} {b:Book} {fb:Nat} {vb fv:AV} {s:St} (ok:FindsOk b.sales F) (hl:F.length≤40) (hS:b.sales.length≤40) (hI:IsAt s.h s.n fb 3 (tag 66) (F.map Fnd.cells) fv) (RS:RowsAt s.h s.n 6 (b.sales.map Sale.cells) vb) (hs:s.n+3000≤far) :
  call Try.prog X N (.fn 55) [.agg (bookV b vb),fv] s=.val (.int .i64 0) s:=by
 obtain ⟨n,rfl⟩:∃ n,N=n+1:=⟨N - 1,by omega⟩
 have hf:far=1000000000:=rfl
 obtain ⟨vv,e,rfl⟩:=call_some (n:=n) (args:=[.agg (bookV b vb),fv]) (s:=s) (k:=100) (Q:=fun v=>v=.int .i64 0) Try.func55 (fun u uh un um=>by
  rw [← uh,← un] at hI RS
  rw [← un] at hs
  have kb:∀ t,okA (.val vb t)=.val vb t:=fun t=>okA_ne RS.ne
  have kf:=hI.okA
  have lf:∀ s,lenSlA s fv=.val (.int .i64 (F.length:Int)) s:=fun s=>by have:=hI.rows.at_.len s;rw [List.length_map] at this;exact this
  have sc:scalars (bookV b vb)=true:=by
   have hv:vb.scalar=true:=by
    have h:=RS.len u
    cases vb<;>first | rfl | cases h
   show scalars [vb]=true
   unfold scalars
   rw [hv]
   rfl
  obtain ⟨w,hw⟩:∃ w:St,w=u.new (.cells (bookV b vb) (tag 27)):=⟨_,rfl⟩
  have wn:w.n=u.n+1:=by rw [hw];rfl
  have wm:w.m=far:=by rw [hw];exact um
  have wg:∀ c,c<u.n→w.h.get c=u.h.get c:=fun c hc=>by rw [hw,get_new_ne _ _ _ (by omega)]
  have w0:w.h.get u.n=some (.cells (bookV b vb) (tag 27)):=by rw [hw];exact get_new_eq _ _ _ rfl (by omega)
  have RSw:=RS.grow wg (by omega:u.n≤w.n)
  have hIw:IsAt w.h u.n fb 3 (tag 66) (F.map Fnd.cells) fv:=hI.mono (fun h=>wg fb h) (Nat.le_refl _)
  have z0:decide ((0:Int)=0)=true:=rfl
  rw [enter55]
  simp (disch:=first|omega|(with_unfolding_all exact rfl)|(simp only[new_n,put_n,new_m];omega)|(refine put_m_le ?_;simp only[new_m];omega)) only [K55,K55r0,Abs.W,reduceIte,Nat.reduceEqDiff,Nat.reduceAdd,decide_true,decide_false,kLoop_def,Nat.reduceSub,List.cons_append,List.nil_append,List.append_nil,List.length_cons,List.length_nil,Env.find_set,sc]
  rw [← hw]
  clear hw
  unfold bookV at w0
  simp (disch:=first|omega|(with_unfolding_all exact rfl)|(simp only[new_n,put_n,new_m];omega)|(refine put_m_le ?_;simp only[new_m];omega)) only [K55r1,K55r2,K55r4,Abs.W,reduceIte,Nat.reduceEqDiff,Nat.reduceAdd,decide_true,decide_false,kLoop_def,Nat.reduceSub,List.cons_append,List.nil_append,List.append_nil,List.length_cons,List.length_nil,Env.find_set,kf,lf,counted_ok,z0]
  generalize hlp:loopN _ rounds _ _ _ _ _=rl
  obtain ⟨e,L1,t2,rfl,rfl,hP,hPm,hPl⟩:=loop_of hlp
   (fun j L' t'=>L'.find 1=fv∧L'.find 2=.ptr u.n 0∧L'.find 15=fv∧L'.find 16=.int .i64 (F.length:Int)∧L'.find 17=.int .i64 (j:Int)∧Past w t' (1 * j)∧u.n≤t'.m∧t'.m≤far)
   (fun e L' t'=>e=.exit 0∧Past w t' (1 * F.length)∧u.n≤t'.m∧t'.m≤far) F.length (by unfold rounds;omega)
   ⟨by simp only [find_cons,Env.find_set,reduceIte,Nat.reduceEqDiff],by simp only [find_cons,Env.find_set,reduceIte,Nat.reduceEqDiff],by simp only [find_cons,Env.find_set,reduceIte,Nat.reduceEqDiff],by simp only [find_cons,Env.find_set,reduceIte,Nat.reduceEqDiff],by simp only [find_cons,Env.find_set,reduceIte,Nat.reduceEqDiff];rfl,Past.refl w,by omega,by omega⟩
   (fun j L' t' hj ⟨q1,q2,q15,q16,q17,hE,hEm,hEl⟩=>by
    by_cases hlt:j<F.length
    ·have e0:decide ((j:Int)<(F.length:Int))=true:=decide_eq_true (by omega)
     have ad:∀ s,aAdd s .i64 (j:Int) 1=.val (.int .i64 ((j+1:Nat):Int)) s:=fun s=>by rw [aAdd_i64 s _ _ (by omega)];rfl
     have hn:=hE.n
     have hle:=hE.le
     rcases hIw.is with ⟨h1,_⟩ | ⟨_,hfb,hv,hfc⟩
     ·exfalso;have:=List.map_eq_nil_iff.mp h1;subst this;simp at hlt
     rw [List.length_map] at hv
     subst hv
     have ix:∀ s,ixsA 3 s (.slice fb 0 F.length F.length true) (.int .i64 (j:Int))=.val (.ptr fb (j * 3)) s:=fun s=>by rw [ixs_slice _ _ _ _ _ _ _ _ hlt,Nat.zero_add]
     have ct:cut (j * 3) 3 (F.map Fnd.cells).flatten=some [.int .i64 (F[j].sale:Int),.int .i64 F[j].gr,.int .i64 F[j].ce]:=fnd_cut hlt
     have t0:=(hE.same u.n (by omega)).trans w0
     have tf:=(hE.same fb (by omega)).trans hfc
     have sl:∀ s,sliceVal 3 none (some (.int .i64 (j:Int))) s (.slice fb 0 F.length F.length true)=.val (.slice fb 0 j F.length true) s:=fun s=>slice_to 3 s fb 0 F.length F.length j true (Nat.le_refl _) (by omega) (by omega)
     obtain ⟨x,hx⟩:∃ x:St,x=(t'.new (.cells [.int .i64 0,.int .i64 0,.int .i64 0] (tag 66))).put t'.n (.cells [.int .i64 (F[j].sale:Int),.int .i64 F[j].gr,.int .i64 F[j].ce] (tag 66)):=⟨_,rfl⟩
     have xn:x.n=t'.n+1:=by rw [hx];rfl
     have xm:x.m≤t'.m:=by rw [hx];simp only [St.put,minN_eq,new_m];omega
     have xm2:u.n≤x.m:=by rw [hx];simp only [St.put,minN_eq,new_m];omega
     have x7:x.h.get t'.n=some (.cells [.int .i64 (F[j].sale:Int),.int .i64 F[j].gr,.int .i64 F[j].ce] (tag 66)):=by rw [hx];exact get_put_eq _ _ _ _ rfl (by omega)
     have hX:Past w x (1 * (j+1)):=((by rw [hx];exact (hE.new _).put _ hn):Past w x (1 * j+1)).mono (by omega)
     have x0:=(hX.same u.n (by omega)).trans w0
     have xf:=(hX.same fb (by omega)).trans hfc
     have ck:call Try.prog X n (.fn 70) [vb,.agg F[j].cells,.slice fb 0 j F.length true] x=.val (.int .i64 0) x:=checkFind_ok n (by omega) ok hlt hl hS xf (by omega) (RSw.grow hX.same hX.n) (by omega)
     unfold Fnd.cells at ck
     refine .inl ⟨hlt,?_⟩
     simp (disch:=first|omega|(with_unfolding_all exact rfl)|(simp only[new_n,put_n,new_m];omega)|(refine put_m_le ?_;simp only[new_m];omega)) only [K55l0,K55r5,K55r6,Abs.W,reduceIte,Nat.reduceEqDiff,Nat.reduceAdd,decide_true,decide_false,kLoop_def,Nat.reduceSub,List.cons_append,List.nil_append,List.append_nil,List.length_cons,List.length_nil,Env.find_set,q1,q2,q15,q16,q17,e0,ix,tf,ct,Nat.zero_add]
     rw [← hx]
     clear hx
     simp (disch:=first|omega|(with_unfolding_all exact rfl)|(simp only[new_n,put_n,new_m];omega)|(refine put_m_le ?_;simp only[new_m];omega)) only [K55r7,K55r8,K55r10,Abs.W,reduceIte,Nat.reduceEqDiff,Nat.reduceAdd,decide_true,decide_false,kLoop_def,Nat.reduceSub,List.cons_append,List.nil_append,List.append_nil,List.length_cons,List.length_nil,Env.find_set,kSlice_def,optEv_none,optEv_some,q1,q2,q17,x0,x7,kb,sl,ck,z0,ad,endO_nil,Nat.zero_add]
     refine ⟨_,_,rfl,?_,?_,?_,?_,?_,hX,xm2,by omega⟩<;>simp only [Env.find_set,q1,q2,q15,q16,reduceIte,Nat.reduceEqDiff]
    ·obtain rfl:j=F.length:=by omega
     have e0:decide ((F.length:Int)<(F.length:Int))=false:=by simp
     refine .inr ⟨.exit 0,L'.set 18 (.bool false),t',by simp,?_,rfl,hE,hEm,hEl⟩
     simp (disch:=first|omega|(with_unfolding_all exact rfl)|(simp only[new_n,put_n,new_m];omega)|(refine put_m_le ?_;simp only[new_m];omega)) only [K55l0,K55r5,Abs.W,reduceIte,Nat.reduceEqDiff,Nat.reduceAdd,decide_true,decide_false,kLoop_def,Nat.reduceSub,List.cons_append,List.nil_append,List.append_nil,List.length_cons,List.length_nil,Env.find_set,q16,q17,e0])
  simp (disch:=first|omega|(with_unfolding_all exact rfl)|(simp only[new_n,put_n,new_m];omega)|(refine put_m_le ?_;simp only[new_m];omega)) only [K55r11,res55,Abs.W,reduceIte,Nat.reduceEqDiff,Nat.reduceAdd,decide_true,decide_false,kLoop_def,Nat.reduceSub,List.cons_append,List.nil_append,List.append_nil,List.length_cons,List.length_nil,Env.find_set]
  have pn:=hP.n
  have pl:=hP.le
  exact ⟨_,_,rfl,⟨fun c hc=>(hP.same c (by omega)).trans (wg c hc),by omega,by omega,hPm,hPl⟩,rfl,rfl⟩)
 exact e
def Sale.found (s:Sale) (f:Fnd):Sale:=⟨s.st,s.gd,f.gr,f.gr,f.ce,f.ce⟩
def foundIn (S:List Sale) (f:Fnd):List Sale:=match S[f.sale]? with
 | some M=>S.set f.sale (M.found f)
 | none=>S
def auditI (S:List Sale) (F:List Fnd):List Sale:=F.foldl foundIn S
theorem foundIn_len (S:List Sale) (f:Fnd):(foundIn S f).length=S.length:=by
 unfold foundIn
 split
 ·rw [List.length_set]
 ·rfl
theorem auditI_snoc (S:List Sale) (F:List Fnd) (f:Fnd):auditI S (F++[f])=foundIn (auditI S F) f:=by
 unfold auditI
 rw [List.foldl_append]
 rfl
theorem auditI_len (S:List Sale):∀ (F:List Fnd),(auditI S F).length=S.length
 | []=>rfl
 | f::F=>by
  show (auditI (foundIn S f) F).length=_
  rw [auditI_len _ F,foundIn_len]
theorem sales_wide (S:List Sale):∀ r ∈ S.map Sale.cells,r.length=6:=fun r hr=>by obtain ⟨M,_,rfl⟩:=List.mem_map.mp hr;rfl
theorem sale_flat:∀ (S:List Sale),scalars (S.map Sale.cells).flatten=true
 | []=>rfl
 | s::S=>by
  show scalars (S.map Sale.cells).flatten=true
  exact sale_flat S
theorem found_over {S:List Sale} {f:Fnd} (h:f.sale<S.length):∃ c1,over (f.sale * 6+2) [.int .i64 f.gr,.int .i64 f.gr] (S.map Sale.cells).flatten=some c1∧over (f.sale * 6+4) [.int .i64 f.ce,.int .i64 f.ce] c1=some ((foundIn S f).map Sale.cells).flatten:=by
 have h':f.sale<(S.map Sale.cells).length:=by rw [List.length_map];exact h
 have e1:=over_row (rows:=S.map Sale.cells) (w:=6) (i:=f.sale) (o:=2) (v:=[.int .i64 f.gr,.int .i64 f.gr]) (r':=(⟨S[f.sale].st,S[f.sale].gd,f.gr,f.gr,S[f.sale].cl,S[f.sale].ch⟩:Sale).cells) (sales_wide S) h' (by simp) (by rw [List.getElem_map];rfl)
 refine ⟨_,e1,?_⟩
 have h2:f.sale<((S.map Sale.cells).set f.sale (⟨S[f.sale].st,S[f.sale].gd,f.gr,f.gr,S[f.sale].cl,S[f.sale].ch⟩:Sale).cells).length:=by rw [List.length_set];exact h'
 have e2:=over_row (rows:=(S.map Sale.cells).set f.sale (⟨S[f.sale].st,S[f.sale].gd,f.gr,f.gr,S[f.sale].cl,S[f.sale].ch⟩:Sale).cells) (w:=6) (i:=f.sale) (o:=4) (v:=[.int .i64 f.ce,.int .i64 f.ce]) (r':=(S[f.sale].found f).cells) (fun r hr=>by
   rcases List.mem_or_eq_of_mem_set hr with h | rfl
   ·exact sales_wide S r h
   ·rfl) h2 (by simp) (by rw [List.getElem_set_self];rfl)
 rw [e2,List.set_set]
 unfold foundIn
 rw [List.getElem?_eq_getElem h]
 show _=some (List.map Sale.cells (S.set f.sale (S[f.sale].found f))).flatten
 rw [List.map_set]
theorem Audited_ex {N fb bl1:Nat} {F:List Fnd} {b:Book} {vb fv:AV} {s:St} {r:ARes} (hr:call Try.prog X N (.fn 27) [.agg (bookV b vb),fv] s=r) (hN:7≤N) (okb:b.Ok) (ok:FindsOk b.sales F) (hl:F.length≤40) (hI:IsAt s.h s.n fb 3 (tag 66) (F.map Fnd.cells) fv) (hB:IsAt s.h s.n bl1 6 (tag 51) (b.sales.map Sale.cells) vb) (hs:s.n+6000≤far) :
  ∃ q t,r=.val (.tup [.agg [.int .i64 b.stalls,.int .i64 b.goods,.slice q 0 b.sales.length b.sales.length false],.int .i64 0]) t∧New s t 100∧s.n≤q∧q<t.n∧t.h.get q=some (.cells ((auditI b.sales F).map Sale.cells).flatten 0):=by
 obtain ⟨n,rfl⟩:∃ n,N=n+1:=⟨N - 1,by omega⟩
 have hf:far=1000000000:=rfl
 obtain ⟨v,t,e,st,q,rfl,y1,y2,y3⟩:=call_new' (n:=n) (args:=[.agg (bookV b vb),fv]) (s:=s) (k:=100) (Q:=fun v h m=>∃ q,v=.tup [.agg [.int .i64 b.stalls,.int .i64 b.goods,.slice q 0 b.sales.length b.sales.length false],.int .i64 0]∧s.n≤q∧q<m∧h.get q=some (.cells ((auditI b.sales F).map Sale.cells).flatten 0)) Try.func27 rfl (fun u uh un um=>by
  rw [← uh,← un] at hI hB
  rw [← un] at hs ⊢
  have hS:=okb.l
  have sh3:shapeT Try.prog 27=some (some 3):=by kernel_rfl
  have kb:=hB.okA
  have kf:=hI.okA
  have lb:∀ s,lenSlA s vb=.val (.int .i64 (b.sales.length:Int)) s:=fun s=>by have:=hB.rows.at_.len s;rw [List.length_map] at this;exact this
  have lf:∀ s,lenSlA s fv=.val (.int .i64 (F.length:Int)) s:=fun s=>by have:=hI.rows.at_.len s;rw [List.length_map] at this;exact this
  have sc:scalars (bookV b vb)=true:=by show scalars [vb]=true;exact hB.scal.1
  obtain ⟨w,hw⟩:∃ w:St,w=(u.new (.cells (bookV b vb) (tag 27))).new (.cells [.int .i64 0,.int .i64 0,.nilslice] (tag 27)):=⟨_,rfl⟩
  have wn:w.n=u.n+2:=by rw [hw];rfl
  have wm:w.m=far:=by rw [hw];exact um
  have wg:∀ c,c<u.n→w.h.get c=u.h.get c:=fun c hc=>by rw [hw,get_new_ne _ _ _ (by rw [new_n];omega),get_new_ne _ _ _ (by omega)]
  have w0:w.h.get u.n=some (.cells (bookV b vb) (tag 27)):=by rw [hw,get_new_ne _ _ _ (by rw [new_n];omega)];exact get_new_eq _ _ _ rfl (by omega)
  have w1:w.h.get (u.n+1)=some (.cells [.int .i64 0,.int .i64 0,.nilslice] (tag 27)):=by rw [hw];exact get_new_eq _ _ _ rfl (by rw [new_n];omega)
  have hBw:IsAt w.h u.n bl1 6 (tag 51) (b.sales.map Sale.cells) vb:=hB.mono (fun h=>wg bl1 h) (Nat.le_refl _)
  have hIw:IsAt w.h u.n fb 3 (tag 66) (F.map Fnd.cells) fv:=hI.mono (fun h=>wg fb h) (Nat.le_refl _)
  have hBw':IsAt w.h w.n bl1 6 (tag 51) (b.sales.map Sale.cells) vb:=hBw.mono (fun _=>rfl) (by omega)
  have hIw':IsAt w.h w.n fb 3 (tag 66) (F.map Fnd.cells) fv:=hIw.mono (fun _=>rfl) (by omega)
  have hck:∀ m,call Try.prog X n (.fn 36) [.agg (bookV b vb)] ⟨w.h,w.n,m⟩=.val (.int .i64 0) ⟨w.h,w.n,m⟩:=fun m=>check_ok n (by omega) b okb vb ⟨w.h,w.n,m⟩ hBw'.rows.at_ (by show w.n+4000≤far;omega)
  have hcf:call Try.prog X n (.fn 55) [.agg (bookV b vb),fv] w=.val (.int .i64 0) w:=checkFinds_ok n (by omega) ok hl hS hIw' hBw'.rows.at_ (by omega)
  have z0:decide ((0:Int)=0)=true:=rfl
  unfold bookV at w0 hw sc hck hcf
  rw [enter27]
  unfold bookV
  simp (disch:=first|omega|(with_unfolding_all exact rfl)|(simp only[new_n,put_n,new_m];omega)|(refine put_m_le ?_;simp only[new_m];omega)) only [K27,K27r0,Abs.W,reduceIte,Nat.reduceEqDiff,Nat.reduceAdd,decide_true,decide_false,kLoop_def,Nat.reduceSub,List.cons_append,List.nil_append,List.append_nil,List.length_cons,List.length_nil,Env.find_set,sc]
  rw [← hw]
  clear hw
  obtain ⟨x,hx⟩:∃ x:St,x=w.new (.cells [.int .i64 0,.int .i64 0] 0):=⟨_,rfl⟩
  have xn:x.n=w.n+1:=by rw [hx];rfl
  have xm:x.m=far:=by rw [hx];exact wm
  have xg:∀ c,c<w.n→x.h.get c=w.h.get c:=fun c hc=>by rw [hx,get_new_ne _ _ _ (by omega)]
  have or2:call Try.prog X n (.fn 35) [.slice w.n 0 2 2 false] x=.val (.int .i64 0) x:=by rw [hx];exact or_new2 n (by omega) w (by omega)
  simp (disch:=first|omega|(with_unfolding_all exact rfl)|(simp only[new_n,put_n,new_m];omega)|(refine put_m_le ?_;simp only[new_m];omega)) only [K27r1,Abs.W,reduceIte,Nat.reduceEqDiff,Nat.reduceAdd,decide_true,decide_false,kLoop_def,Nat.reduceSub,List.cons_append,List.nil_append,List.append_nil,List.length_cons,List.length_nil,Env.find_set,w0,kb,kf,hck,hcf,← hx,or2,endO_nil,Nat.zero_add]
  have x0:=(xg u.n (by omega)).trans w0
  have mk:makeA [.int .i64 0,.int .i64 0,.int .i64 0,.int .i64 0,.int .i64 0,.int .i64 0] 48 x (.int .i64 (b.sales.length:Int)) (.int .i64 (b.sales.length:Int))=.val (.slice x.n 0 b.sales.length b.sales.length false) (x.new (.cells (zerosA [.int .i64 0,.int .i64 0,.int .i64 0,.int .i64 0,.int .i64 0,.int .i64 0] b.sales.length) 0)):=make_48 _ x _ (by omega)
  obtain ⟨y,hy⟩:∃ y:St,y=x.new (.cells (zerosA [.int .i64 0,.int .i64 0,.int .i64 0,.int .i64 0,.int .i64 0,.int .i64 0] b.sales.length) 0):=⟨_,rfl⟩
  rw [← hy] at mk
  have yn:y.n=x.n+1:=by rw [hy];rfl
  have ym:y.m=far:=by rw [hy];exact xm
  have yg:∀ c,c<x.n→y.h.get c=x.h.get c:=fun c hc=>by rw [hy,get_new_ne _ _ _ (by omega)]
  have yq:y.h.get x.n=some (.cells (zerosA [.int .i64 0,.int .i64 0,.int .i64 0,.int .i64 0,.int .i64 0,.int .i64 0] b.sales.length) 0):=by rw [hy];exact get_new_eq _ _ _ rfl (by omega)
  have y0:=(yg u.n (by omega)).trans x0
  have gu:∀ c,c<w.n→y.h.get c=w.h.get c:=fun c hc=>(yg c (by omega)).trans (xg c hc)
  have cp:=copy_rows (s:=y) (q:=x.n) (hBw.mono (h':=y.h) (n':=y.n) (fun h=>gu bl1 (by omega)) (by omega)) (sale_flat b.sales) yq (by rw [zeros_len,List.length_map];rfl)
  rw [List.length_map] at cp
  obtain ⟨z,hz⟩:∃ z:St,z=y.put x.n (.cells (b.sales.map Sale.cells).flatten 0):=⟨_,rfl⟩
  rw [← hz] at cp
  have zn:z.n=y.n:=by rw [hz];rfl
  have zm:u.n≤z.m∧z.m≤far:=by rw [hz];simp only [St.put,minN_eq];omega
  have zg:∀ c,c<x.n→z.h.get c=y.h.get c:=fun c hc=>by rw [hz,get_put_ne' _ _ _ _ (by omega)]
  have zq:z.h.get x.n=some (.cells (b.sales.map Sale.cells).flatten 0):=by rw [hz];exact get_put_eq _ _ _ _ rfl (by omega)
  clear hx hy hz
  have z0':=(zg u.n (by omega)).trans y0
  have gz:∀ c,c<w.n→z.h.get c=w.h.get c:=fun c hc=>(zg c (by omega)).trans (gu c hc)
  have hIz:IsAt z.h u.n fb 3 (tag 66) (F.map Fnd.cells) fv:=hIw.mono (fun h=>gz fb (by omega)) (Nat.le_refl _)
  simp (disch:=first|omega|(with_unfolding_all exact rfl)|(simp only[new_n,put_n,new_m];omega)|(refine put_m_le ?_;simp only[new_m];omega)) only [K27r2,K27r4,K27r5,K27r6,Abs.W,reduceIte,Nat.reduceEqDiff,Nat.reduceAdd,decide_true,decide_false,kLoop_def,Nat.reduceSub,List.cons_append,List.nil_append,List.append_nil,List.length_cons,List.length_nil,Env.find_set,z0,x0,y0,kb,kf,lb,lf,kMake_def,mk,cp,Nat.zero_add]
  generalize hlp:loopN _ rounds _ _ _ _ _=rl
  obtain ⟨e,L1,t2,rfl,rfl,q2,q4,q7,hsame,hn2,hle2,hm2,hml2,hq2⟩:=loop_of hlp
   (fun j L' t'=>L'.find 2=.ptr u.n 0∧L'.find 4=.ptr (u.n+1) 0∧L'.find 7=.slice x.n 0 b.sales.length b.sales.length false∧L'.find 29=fv∧L'.find 30=.int .i64 (F.length:Int)∧L'.find 31=.int .i64 (j:Int)∧(∀ c,c<z.n→c≠x.n→t'.h.get c=z.h.get c)∧z.n≤t'.n∧t'.n≤z.n+j∧u.n≤t'.m∧t'.m≤far∧t'.h.get x.n=some (.cells ((auditI b.sales (F.take j)).map Sale.cells).flatten 0))
   (fun e L' t'=>e=.exit 0∧L'.find 2=.ptr u.n 0∧L'.find 4=.ptr (u.n+1) 0∧L'.find 7=.slice x.n 0 b.sales.length b.sales.length false∧(∀ c,c<z.n→c≠x.n→t'.h.get c=z.h.get c)∧z.n≤t'.n∧t'.n≤z.n+F.length∧u.n≤t'.m∧t'.m≤far∧t'.h.get x.n=some (.cells ((auditI b.sales F).map Sale.cells).flatten 0)) F.length (by unfold rounds;omega)
   ⟨by simp only [find_cons,Env.find_set,reduceIte,Nat.reduceEqDiff],by simp only [find_cons,Env.find_set,reduceIte,Nat.reduceEqDiff];rfl,by simp only [find_cons,Env.find_set,reduceIte,Nat.reduceEqDiff],by simp only [find_cons,Env.find_set,reduceIte,Nat.reduceEqDiff],by simp only [find_cons,Env.find_set,reduceIte,Nat.reduceEqDiff],by simp only [find_cons,Env.find_set,reduceIte,Nat.reduceEqDiff];rfl,fun _ _ _=>rfl,Nat.le_refl _,Nat.le_refl _,zm.1,zm.2,zq⟩
   (fun j L' t' hj ⟨q2,q4,q7,q29,q30,q31,hsame,hn,hle,hm,hml,hq⟩=>by
    by_cases hlt:j<F.length
    ·have e0:decide ((j:Int)<(F.length:Int))=true:=decide_eq_true (by omega)
     have ad:∀ s,aAdd s .i64 (j:Int) 1=.val (.int .i64 ((j+1:Nat):Int)) s:=fun s=>by rw [aAdd_i64 s _ _ (by omega)];rfl
     obtain ⟨a0,o0,cs,csz,r1,r2,r3,r4⟩:=hIz.rows.at_.at_ j (by rw [List.length_map];exact hlt)
     rw [List.getElem_map] at r4
     have hft:F.take (j+1)=F.take j++[F[j]]:=List.take_succ_eq_append_getElem hlt
     have hlS:=ok.lt j hlt
     rw [hft,auditI_snoc]
     obtain ⟨c1,v1,v2⟩:=found_over (S:=auditI b.sales (F.take j)) (f:=F[j]) (by rw [auditI_len];exact hlS)
     generalize auditI b.sales (F.take j)=A at *
     generalize F[j]=f at *
     unfold Fnd.cells at r4
     have ta:=(hsame a0 (by omega) (by omega)).trans r3
     have iq:∀ s,ixsA 6 s (.slice x.n 0 b.sales.length b.sales.length false) (.int .i64 (f.sale:Int))=.val (.ptr x.n (f.sale * 6)) s:=fun s=>by rw [ixs_slice _ _ _ _ _ _ _ _ hlS,Nat.zero_add]
     obtain ⟨p,hp⟩:∃ p:St,p=(t'.new (.cells [.int .i64 0,.int .i64 0,.int .i64 0] (tag 66))).put t'.n (.cells [.int .i64 (f.sale:Int),.int .i64 f.gr,.int .i64 f.ce] (tag 66)):=⟨_,rfl⟩
     have pn:p.n=t'.n+1:=by rw [hp];rfl
     have pm:p.m≤t'.m:=by rw [hp];simp only [St.put,minN_eq,new_m];omega
     have pm2:u.n≤p.m:=by rw [hp];simp only [St.put,minN_eq,new_m];omega
     have pg:∀ c,c<t'.n→p.h.get c=t'.h.get c:=fun c hc=>by rw [hp,get_put_ne' _ _ _ _ (by omega),get_new_ne _ _ _ (by omega)]
     have p9:p.h.get t'.n=some (.cells [.int .i64 (f.sale:Int),.int .i64 f.gr,.int .i64 f.ce] (tag 66)):=by rw [hp];exact get_put_eq _ _ _ _ rfl (by omega)
     have pq:=(pg x.n (by omega)).trans hq
     obtain ⟨p1,hp1⟩:∃ p1:St,p1=p.put x.n (.cells c1 0):=⟨_,rfl⟩
     have p1n:p1.n=p.n:=by rw [hp1];rfl
     have p1m:u.n≤p1.m∧p1.m≤p.m:=by rw [hp1];simp only [St.put,minN_eq];omega
     have p1g:∀ c,c≠x.n→p1.h.get c=p.h.get c:=fun c hc=>by rw [hp1,get_put_ne' _ _ _ _ hc]
     have p1q:p1.h.get x.n=some (.cells c1 0):=by rw [hp1];exact get_put_eq _ _ _ _ rfl (by omega)
     have p19:=(p1g t'.n (by omega)).trans p9
     refine .inl ⟨hlt,?_⟩
     simp (disch:=first|omega|(with_unfolding_all exact rfl)|(simp only[new_n,put_n,new_m];omega)|(refine put_m_le ?_;simp only[new_m];omega)) only [K27l0,K27r7,K27r8,Abs.W,reduceIte,Nat.reduceEqDiff,Nat.reduceAdd,decide_true,decide_false,kLoop_def,Nat.reduceSub,List.cons_append,List.nil_append,List.append_nil,List.length_cons,List.length_nil,Env.find_set,q29,q30,q31,e0,r2,ta,r4,kf,Nat.zero_add]
     rw [← hp]
     clear hp
     simp (disch:=first|omega|(with_unfolding_all exact rfl)|(simp only[new_n,put_n,new_m];omega)|(refine put_m_le ?_;simp only[new_m];omega)) only [K27r9,Abs.W,reduceIte,Nat.reduceEqDiff,Nat.reduceAdd,decide_true,decide_false,kLoop_def,Nat.reduceSub,List.cons_append,List.nil_append,List.append_nil,List.length_cons,List.length_nil,Env.find_set,q7,p9,iq,pq,v1,Nat.zero_add]
     rw [← hp1]
     clear hp1
     simp (disch:=first|omega|(with_unfolding_all exact rfl)|(simp only[new_n,put_n,new_m];omega)|(refine put_m_le ?_;simp only[new_m];omega)) only [K27r10,K27r11,Abs.W,reduceIte,Nat.reduceEqDiff,Nat.reduceAdd,decide_true,decide_false,kLoop_def,Nat.reduceSub,List.cons_append,List.nil_append,List.append_nil,List.length_cons,List.length_nil,Env.find_set,q7,p19,iq,p1q,v2,q31,ad,Nat.zero_add]
     refine ⟨_,_,rfl,?_,?_,?_,?_,?_,?_,fun c hc hcq=>?_,?_,?_,?_,?_,?_⟩
     ·simp only [Env.find_set,q2,reduceIte,Nat.reduceEqDiff]
     ·simp only [Env.find_set,q4,reduceIte,Nat.reduceEqDiff]
     ·simp only [Env.find_set,q7,reduceIte,Nat.reduceEqDiff]
     ·simp only [Env.find_set,q29,reduceIte,Nat.reduceEqDiff]
     ·simp only [Env.find_set,q30,reduceIte,Nat.reduceEqDiff]
     ·simp only [Env.find_set,reduceIte,Nat.reduceEqDiff]
     ·rw [get_put_ne' _ _ _ _ hcq,p1g c hcq,pg c (by omega)];exact hsame c hc hcq
     ·simp only [put_n];omega
     ·simp only [put_n];omega
     ·simp only [St.put,minN_eq];omega
     ·simp only [St.put,minN_eq];omega
     ·exact get_put_eq _ _ _ _ rfl (by omega)
    ·obtain rfl:j=F.length:=by omega
     have e0:decide ((F.length:Int)<(F.length:Int))=false:=by simp
     rw [List.take_length] at hq
     refine .inr ⟨.exit 0,L'.set 32 (.bool false),t',by simp,?_,rfl,?_,?_,?_,hsame,hn,hle,hm,hml,hq⟩
     ·simp (disch:=first|omega|(with_unfolding_all exact rfl)|(simp only[new_n,put_n,new_m];omega)|(refine put_m_le ?_;simp only[new_m];omega)) only [K27l0,K27r7,Abs.W,reduceIte,Nat.reduceEqDiff,Nat.reduceAdd,decide_true,decide_false,kLoop_def,Nat.reduceSub,List.cons_append,List.nil_append,List.append_nil,List.length_cons,List.length_nil,Env.find_set,q30,q31,e0]
     all_goals simp only [Env.find_set,q2,q4,q7,reduceIte,Nat.reduceEqDiff])
  have a0:=(hsame u.n (by omega) (by omega)).trans z0'
  have a1:=(hsame (u.n+1) (by omega) (by omega)).trans ((gz (u.n+1) (by omega)).trans w1)
  obtain ⟨d1,hd1⟩:∃ d1:St,d1=t2.put u.n (.cells [.int .i64 b.stalls,.int .i64 b.goods,.slice x.n 0 b.sales.length b.sales.length false] (tag 27)):=⟨_,rfl⟩
  have d1n:d1.n=t2.n:=by rw [hd1];rfl
  have d1m:u.n≤d1.m∧d1.m≤far:=by rw [hd1];simp only [St.put,minN_eq];omega
  have d1g:∀ c,c≠u.n→d1.h.get c=t2.h.get c:=fun c hc=>by rw [hd1,get_put_ne' _ _ _ _ hc]
  have d10:d1.h.get u.n=some (.cells [.int .i64 b.stalls,.int .i64 b.goods,.slice x.n 0 b.sales.length b.sales.length false] (tag 27)):=by rw [hd1];exact get_put_eq _ _ _ _ rfl (by omega)
  have d11:=(d1g (u.n+1) (by omega)).trans a1
  simp (disch:=first|omega|(with_unfolding_all exact rfl)|(simp only[new_n,put_n,new_m];omega)|(refine put_m_le ?_;simp only[new_m];omega)) only [K27r12,Abs.W,reduceIte,Nat.reduceEqDiff,Nat.reduceAdd,decide_true,decide_false,kLoop_def,Nat.reduceSub,List.cons_append,List.nil_append,List.append_nil,List.length_cons,List.length_nil,Env.find_set,q2,q7,a0,Nat.zero_add]
  rw [← hd1]
  clear hd1
  obtain ⟨d2,hd2⟩:∃ d2:St,d2=d1.put (u.n+1) (.cells [.int .i64 b.stalls,.int .i64 b.goods,.slice x.n 0 b.sales.length b.sales.length false] (tag 27)):=⟨_,rfl⟩
  have d2n:d2.n=d1.n:=by rw [hd2];rfl
  have d2m:u.n≤d2.m∧d2.m≤far:=by rw [hd2];simp only [St.put,minN_eq];omega
  have d2g:∀ c,c≠u.n+1→d2.h.get c=d1.h.get c:=fun c hc=>by rw [hd2,get_put_ne' _ _ _ _ hc]
  have d21:d2.h.get (u.n+1)=some (.cells [.int .i64 b.stalls,.int .i64 b.goods,.slice x.n 0 b.sales.length b.sales.length false] (tag 27)):=by rw [hd2];exact get_put_eq _ _ _ _ rfl (by omega)
  simp (disch:=first|omega|(with_unfolding_all exact rfl)|(simp only[new_n,put_n,new_m];omega)|(refine put_m_le ?_;simp only[new_m];omega)) only [K27r13,res27,Abs.W,reduceIte,Nat.reduceEqDiff,Nat.reduceAdd,decide_true,decide_false,kLoop_def,Nat.reduceSub,List.cons_append,List.nil_append,List.append_nil,List.length_cons,List.length_nil,Env.find_set,q2,q4,d10,d11,Nat.zero_add]
  rw [← hd2]
  clear hd2
  refine ⟨.tup [.agg [.int .i64 b.stalls,.int .i64 b.goods,.slice x.n 0 b.sales.length b.sales.length false],.int .i64 0],d2,(leave_ct 4 _ 5 _ _ sh3 (v:=.agg [.int .i64 b.stalls,.int .i64 b.goods,.slice x.n 0 b.sales.length b.sales.length false]) ?_).trans (by simp only [Env.find_set,reduceIte,Nat.reduceEqDiff]),⟨fun c hc=>?_,by omega,by omega,d2m.1,d2m.2⟩,⟨x.n,rfl,by omega,by omega,?_⟩,fun hp=>?_⟩
  ·simp only [Env.find_set,find_cons,q4,reduceIte,Nat.reduceEqDiff]
   rw [load_ptr,d21,loadO_cells,partS_some]
   rfl
  ·rw [d2g c (by omega),d1g c (by omega),hsame c (by omega) (by omega)]
   exact (gz c (by omega)).trans (wg c hc)
  ·rw [d2g x.n (by omega),d1g x.n (by omega)];exact hq2
  ·first | cases hp | simp [plain,plains] at hp)
 exact ⟨q,t,hr.symm.trans e,st,y1,y2,y3⟩
end Go.Proofs.Ytamlnddeiokbdaa.walk
namespace Go.Proofs.Ytamlnddeiokbdaa.walk
open Go.Abs Go.Proofs.Ytamlnddeiokbdaa.code
def Exact (T:List Sale):Prop:=∀ s ∈ T,s.gl=s.gh∧s.cl=s.ch
theorem Exact.tail {s:Sale} {T:List Sale} (h:Exact (s::T)):Exact T:=fun x hx=>h x (List.mem_cons_of_mem _ hx)
theorem cheap_exact (p:Int):∀ T:List Sale,Exact T→cheapI false p T=cheapI true p T∧dearI false p T=dearI true p T
 | [],_=>⟨rfl,rfl⟩
 | s::r,h=>by
  obtain ⟨a,b⟩:=cheap_exact p r h.tail
  obtain ⟨e1,e2⟩:=h s (List.mem_cons_self ..)
  unfold cheapI dearI
  simp only [spanAt,Bool.not_false,Bool.not_true]
  rw [a,b,e1,e2]
  exact ⟨rfl,rfl⟩
theorem weigh_exact:∀ T:List Sale,Exact T→weighI false T=weighI true T
 | [],_=>rfl
 | s::r,h=>by
  have a:=weigh_exact r h.tail
  obtain ⟨e1,e2⟩:=h s (List.mem_cons_self ..)
  unfold weighI
  simp only [spanAt]
  rw [a,e1]
theorem enough_exact {T:List Sale} (h:Exact T) (p:Int):enoughI false T p=enoughI true T p:=by
 unfold enoughI
 rw [(cheap_exact p T h).1,(cheap_exact p T h).2]
theorem fold_exact (T:List Sale) (hT:Exact T):∀ (r:List Sale) (st:Bool × Int),Exact r→r.foldl (tryI false T) st=r.foldl (tryI true T) st
 | [],_,_=>rfl
 | s::r,st,h=>by
  obtain ⟨e1,e2⟩:=h s (List.mem_cons_self ..)
  have es:spanAt false s.cl s.ch=spanAt true s.cl s.ch:=e2
  have e:tryI false T st s=tryI true T st s:=by
   unfold tryI
   rw [es,enough_exact hT]
  rw [List.foldl_cons,List.foldl_cons,e]
  exact fold_exact T hT r _ h.tail
theorem price_exact {T:List Sale} (h:Exact T):priceI false T=priceI true T:=by
 unfold priceI
 rw [fold_exact T h T _ h]
end Go.Proofs.Ytamlnddeiokbdaa.walk
namespace Go.Proofs.Ytamlnddeiokbdaa.walk
open Go.Abs Go.Proofs.Ytamlnddeiokbdaa.code
structure Nar (s t:Sale):Prop where
 st:t.st=s.st
 gd:t.gd=s.gd
 g0:s.gl≤t.gl
 g1:t.gl≤t.gh
 g2:t.gh≤s.gh
 c0:s.cl≤t.cl
 c1:t.cl≤t.ch
 c2:t.ch≤s.ch
def NarAll:List Sale→List Sale→Prop
 | [],[]=>True
 | s::S,t::T=>Nar s t∧NarAll S T
 | [],_::_=>False
 | _::_,[]=>False
theorem narAll_of:∀ (S T:List Sale),S.length=T.length→(∀ i (h:i<S.length) (h':i<T.length),Nar S[i] T[i])→NarAll S T
 | [],[],_,_=>trivial
 | s::S,t::T,hl,h=>⟨h 0 (by simp) (by simp),narAll_of S T (by simpa using hl) fun i a b=>h (i+1) (by simpa using a) (by simpa using b)⟩
 | [],_::_,hl,_=>by simp at hl
 | _::_,[],hl,_=>by simp at hl
def retag:List Sale→List Sold→List Sold
 | s::S,z::Z=>(s,z.2)::retag S Z
 | _,_=>[]
theorem retag_sales:∀ (S:List Sale) (Z:List Sold),NarAll S (salesZ Z)→salesZ (retag S Z)=S
 | [],[],_=>rfl
 | s::S,z::Z,h=>by
  show s::salesZ (retag S Z)=s::S
  rw [retag_sales S Z h.2]
 | [],_::_,h=>h.elim
 | _::_,[],h=>h.elim
theorem retag_ok:∀ (S:List Sale) (Z:List Sold),NarAll S (salesZ Z)→Fine S→AllOk Z→AllOk (retag S Z)
 | [],[],_,_,_=>fun z hz=>by cases hz
 | s::S,z::Z,h,hF,ok=>fun x hx=>by
  rcases List.mem_cons.mp hx with rfl | hx
  ·obtain ⟨g0,g1,g2,g3,c0,c1,c2,c3⟩:=ok z (List.mem_cons_self ..)
   obtain ⟨f0,f1,f2,f3,f4,f5⟩:=hF s (List.mem_cons_self ..)
   obtain ⟨_,_,n0,n1,n2,n3,n4,n5⟩:=h.1
   exact ⟨f0,Int.le_trans n0 g1,Int.le_trans g2 n2,f2,f3,Int.le_trans n3 c1,Int.le_trans c2 n5,f5⟩
  ·exact retag_ok S Z h.2 hF.tail ok.tail x hx
 | [],_::_,h,_,_=>h.elim
 | _::_,[],h,_,_=>h.elim
theorem all_retag (g:Int):∀ (S:List Sale) (Z:List Sold),NarAll S (salesZ Z)→allG g (retag S Z)=allG g Z
 | [],[],_=>rfl
 | s::S,z::Z,h=>by
  show (if s.gd=g then z.2.1 else 0)+allG g (retag S Z)=(if z.1.gd=g then z.2.1 else 0)+allG g Z
  rw [all_retag g S Z h.2,show z.1.gd=s.gd from h.1.gd]
 | [],_::_,h=>h.elim
 | _::_,[],h=>h.elim
theorem upto_retag (g p:Int):∀ (S:List Sale) (Z:List Sold),NarAll S (salesZ Z)→uptoZ g p (retag S Z)=uptoZ g p Z
 | [],[],_=>rfl
 | s::S,z::Z,h=>by
  show (if s.gd=g∧z.2.2≤p then z.2.1 else 0)+uptoZ g p (retag S Z)=(if z.1.gd=g∧z.2.2≤p then z.2.1 else 0)+uptoZ g p Z
  rw [upto_retag g p S Z h.2,show z.1.gd=s.gd from h.1.gd]
 | [],_::_,h=>h.elim
 | _::_,[],h=>h.elim
theorem take_retag (k:Int):∀ (S:List Sale) (Z:List Sold),NarAll S (salesZ Z)→takeZ k (retag S Z)=takeZ k Z
 | [],[],_=>rfl
 | s::S,z::Z,h=>by
  show (if s.st=k then z.2.1 * z.2.2 / 1000 else 0)+takeZ k (retag S Z)=(if z.1.st=k then z.2.1 * z.2.2 / 1000 else 0)+takeZ k Z
  rw [take_retag k S Z h.2,show z.1.st=s.st from h.1.st]
 | [],_::_,h=>h.elim
 | _::_,[],h=>h.elim
theorem fold_retag (g all:Int) {A B:List Sold} (hU:∀ p,uptoZ g p A=uptoZ g p B):∀ (S:List Sale) (Z:List Sold) (st:Int × Bool),NarAll S (salesZ Z)→(retag S Z).foldl (fairStep g all A) st=Z.foldl (fairStep g all B) st
 | [],[],_,_=>rfl
 | s::S,z::Z,st,h=>by
  have e:fairStep g all A st (s,z.2)=fairStep g all B st z:=by
   unfold fairStep
   rw [hU,show z.1.gd=s.gd from h.1.gd]
  show (retag S Z).foldl (fairStep g all A) (fairStep g all A st (s,z.2))=Z.foldl (fairStep g all B) (fairStep g all B st z)
  rw [e]
  exact fold_retag g all hU S Z _ h.2
 | [],_::_,_,h=>h.elim
 | _::_,[],_,h=>h.elim
theorem fair_retag (g:Int) {S:List Sale} {Z:List Sold} (h:NarAll S (salesZ Z)):fairI g (retag S Z)=fairI g Z:=by
 unfold fairI fairTo
 rw [all_retag g S Z h,fold_retag g (allG g Z) (fun p=>upto_retag g p S Z h) S Z _ h]
theorem fairI_pos {g p:Int} {Z:List Sold} (ok:AllOk Z) (h:fairI g Z=(p,true)):0<allG g Z:=by
 obtain ⟨a,_⟩:=all_range g Z ok
 by_cases h0:allG g Z=0
 ·unfold fairI at h
  rw [if_pos h0] at h
  cases h
 ·omega
theorem price_nar {S T:List Sale} (h:NarAll S T) (hS:Fine S) (hT:Fine T) {g:Int} (hne:soldOf T g≠[]) :
  priceI false (soldOf S g)≤priceI false (soldOf T g)∧priceI true (soldOf T g)≤priceI true (soldOf S g):=by
 have key:∀ (hi:Bool) (p:Int),fairI g (pushZ hi p T)=(p,true)→priceI false (soldOf S g)≤p∧p≤priceI true (soldOf S g):=fun hi p hp=>by
  have hN:NarAll S (salesZ (pushZ hi p T)):=by rw [pushZ_sales];exact h
  have okZ:=retag_ok S _ hN hS (pushZ_ok hT hi p)
  have hf:fairI g (retag S (pushZ hi p T))=(p,true):=by rw [fair_retag g hN];exact hp
  have hb:=fair_between okZ (fairI_pos okZ hf)
  rw [hf,retag_sales S _ hN] at hb
  exact hb
 exact ⟨(key false _ (fair_low hT hne)).1,(key true _ (fair_high hT hne)).2⟩
theorem turn_nar {S T:List Sale} (h:NarAll S T) (hS:Fine S) (hT:Fine T) (k:Int):turnOf false S k≤turnOf false T k∧turnOf true T k≤turnOf true S k:=by
 have key:∀ hi:Bool,turnOf false S k≤turnOf hi T k∧turnOf hi T k≤turnOf true S k:=fun hi=>by
  have hN:NarAll S (salesZ (pushZ hi (-1) T)):=by rw [pushZ_sales];exact h
  have hb:=take_between k _ (retag_ok S _ hN hS (pushZ_ok hT hi (-1)))
  rw [take_retag k S _ hN,retag_sales S _ hN,take_push hi k T hT] at hb
  exact hb
 exact ⟨(key false).1,(key true).2⟩
theorem sum_nar (g:Int):∀ (S T:List Sale),NarAll S T→sumG false g S≤sumG false g T∧sumG true g T≤sumG true g S
 | [],[],_=>⟨Int.le_refl _,Int.le_refl _⟩
 | s::S,t::T,h=>by
  obtain ⟨a,b⟩:=sum_nar g S T h.2
  obtain ⟨e1,e2,n0,n1,n2,n3,n4,n5⟩:=h.1
  unfold sumG
  rw [e2]
  simp only [spanAt]
  split<;>omega
 | [],_::_,h=>h.elim
 | _::_,[],h=>h.elim
theorem turn_exact (k:Int):∀ T:List Sale,Exact T→turnOf false T k=turnOf true T k
 | [],_=>rfl
 | s::r,h=>by
  have a:=turn_exact k r h.tail
  obtain ⟨e1,e2⟩:=h s (List.mem_cons_self ..)
  show (if s.st=k then spanAt false s.gl s.gh * spanAt false s.cl s.ch / 1000 else 0)+turnOf false r k=(if s.st=k then spanAt true s.gl s.gh * spanAt true s.cl s.ch / 1000 else 0)+turnOf true r k
  simp only [spanAt]
  rw [a,e1,e2]
theorem foundIn_eq {S:List Sale} {f:Fnd} (h:f.sale<S.length):foundIn S f=S.set f.sale (S[f.sale].found f):=by
 unfold foundIn
 rw [List.getElem?_eq_getElem h]
theorem audit_nar {S:List Sale} {F:List Fnd} (hS:Fine S) (ok:FindsOk S F):∀ j,j≤F.length→∀ i (h:i<S.length) (h':i<(auditI S (F.take j)).length),Nar S[i] (auditI S (F.take j))[i]∧(i ∈ (F.take j).map Fnd.sale→(auditI S (F.take j))[i].gl=(auditI S (F.take j))[i].gh∧(auditI S (F.take j))[i].cl=(auditI S (F.take j))[i].ch)
 | 0,_=>fun i h h'=>by
  obtain ⟨f0,f1,f2,f3,f4,f5⟩:=hS S[i] (List.getElem_mem h)
  exact ⟨⟨rfl,rfl,Int.le_refl _,f1,Int.le_refl _,Int.le_refl _,f4,Int.le_refl _⟩,fun hm=>by simp at hm⟩
 | j+1,hj=>fun i h h'=>by
  have ih:=audit_nar hS ok j (by omega)
  have hlt:j<F.length:=by omega
  have e1:F.take (j+1)=F.take j++[F[j]]:=List.take_succ_eq_append_getElem hlt
  have k1:=ok.lt j hlt
  have k2:=ok.gr j hlt k1
  have k3:=ok.ce j hlt k1
  have hl:(auditI S (F.take j)).length=S.length:=auditI_len S _
  have e2:auditI S (F.take (j+1))=(auditI S (F.take j)).set F[j].sale ((auditI S (F.take j))[F[j].sale]'(by omega) |>.found F[j]):=by
   rw [e1,auditI_snoc,foundIn_eq (by omega)]
  have e3:(F.take (j+1)).map Fnd.sale=(F.take j).map Fnd.sale++[F[j].sale]:=by rw [e1,List.map_append];rfl
  rw [e3]
  simp only [e2,List.getElem_set]
  by_cases hi:F[j].sale=i
  ·subst hi
   rw [if_pos rfl]
   have hA:=(ih F[j].sale k1 (by omega)).1
   exact ⟨⟨hA.st,hA.gd,k2.1,Int.le_refl _,k2.2,k3.1,Int.le_refl _,k3.2⟩,fun _=>⟨rfl,rfl⟩⟩
  ·rw [if_neg hi]
   obtain ⟨a,b⟩:=ih i h (by omega)
   refine ⟨a,fun hm=>b ?_⟩
   rcases List.mem_append.mp hm with hm | hm
   ·exact hm
   ·exact absurd (List.mem_singleton.mp hm).symm hi
theorem audit_narrow {S:List Sale} {F:List Fnd} (hS:Fine S) (ok:FindsOk S F):NarAll S (auditI S F)∧((∀ i,i<S.length→i ∈ F.map Fnd.sale)→Exact (auditI S F)):=by
 have h:=audit_nar hS ok F.length (Nat.le_refl _)
 rw [List.take_length] at h
 have hl:=auditI_len S F
 refine ⟨narAll_of _ _ hl.symm fun i a b=>(h i a b).1,fun hm s hs=>?_⟩
 obtain ⟨i,hi,rfl⟩:=List.mem_iff_getElem.mp hs
 exact (h i (by omega) hi).2 (hm i (by omega))
theorem nar_fine:∀ (S T:List Sale),NarAll S T→Fine S→Fine T
 | [],[],_,_=>fun s hs=>by cases hs
 | s::S,t::T,h,hS=>fun x hx=>by
  rcases List.mem_cons.mp hx with rfl | hx
  ·obtain ⟨f0,f1,f2,f3,f4,f5⟩:=hS s (List.mem_cons_self ..)
   obtain ⟨_,_,n0,n1,n2,n3,n4,n5⟩:=h.1
   omega
  ·exact nar_fine S T h.2 hS.tail x hx
 | [],_::_,h,_=>h.elim
 | _::_,[],h,_=>h.elim
theorem nar_book {ks kg:Nat} {S T:List Sale} (okS:(⟨ks,kg,S⟩:Book).Ok) (hl:T.length=S.length) (h:NarAll S T):(⟨ks,kg,T⟩:Book).Ok:=by
 have key:∀ (S T:List Sale),NarAll S T→(∀ s ∈ S,s.Ok ks kg)→∀ t ∈ T,t.Ok ks kg:=by
  intro S
  induction S with
  | nil=>intro T h _ t ht;cases T with
   | nil=>cases ht
   | cons a b=>exact h.elim
  | cons s S ih=>intro T h ho t ht;cases T with
   | nil=>cases ht
   | cons a b =>
    rcases List.mem_cons.mp ht with rfl | ht
    ·obtain ⟨s0,s1,d0,d1,g0,g1,g2,c0,c1,c2⟩:=ho s (List.mem_cons_self ..)
     obtain ⟨e1,e2,n0,n1,n2,n3,n4,n5⟩:=h.1
     exact ⟨by rw [e1];exact s0,by rw [e1];exact s1,by rw [e2];exact d0,by rw [e2];exact d1,by omega,n1,by omega,by omega,n4,by omega⟩
    ·exact ih b h.2 (fun x hx=>ho x (List.mem_cons_of_mem _ hx)) t ht
 obtain ⟨k0,k1,g0,g1,l,o⟩:=okS
 exact ⟨k0,k1,g0,g1,by show T.length≤40;rw [hl];exact l,key S T h o⟩
theorem weigh_le:∀ T:List Sale,Fine T→weighI false T≤weighI true T
 | [],_=>Int.le_refl _
 | s::r,h=>by
  have a:=weigh_le r h.tail
  obtain ⟨f0,f1,f2,f3,f4,f5⟩:=h s (List.mem_cons_self ..)
  show spanAt false s.gl s.gh+weighI false r≤spanAt true s.gl s.gh+weighI true r
  simp only [spanAt]
  omega
theorem found_is {S T:List Sale} (h:NarAll S T) (hS:Fine S) (g:Int) :
  (verdOf (soldOf S g)=1→verdOf (soldOf T g)=1)∧(verdOf (soldOf S g)=2→verdOf (soldOf T g)=2) ∧
  (verdOf (soldOf T g)≠2→priceI false (soldOf S g)≤priceI false (soldOf T g)∧priceI true (soldOf T g)≤priceI true (soldOf S g)) ∧
  (Exact T→verdOf (soldOf T g)≠3∧priceI false (soldOf T g)=priceI true (soldOf T g)):=by
 have hT:=nar_fine S T h hS
 obtain ⟨s1,s2⟩:=sum_nar g S T h
 rw [sumG_weigh false g S hS,sumG_weigh false g T hT] at s1
 rw [sumG_weigh true g S hS,sumG_weigh true g T hT] at s2
 have v1:∀ R:List Sale,0<weighI false (soldOf R g)→verdOf (soldOf R g)=1:=fun R h=>by unfold verdOf verdI;rw [if_pos (decide_eq_true h)]
 have v2:∀ R:List Sale,¬ 0<weighI false (soldOf R g)→¬ 0<weighI true (soldOf R g)→verdOf (soldOf R g)=2:=fun R h h2=>by unfold verdOf verdI;rw [if_neg (by simpa using h),if_neg (by simpa using h2)]
 have v3:∀ R:List Sale,¬ 0<weighI false (soldOf R g)→0<weighI true (soldOf R g)→verdOf (soldOf R g)=3:=fun R h h2=>by unfold verdOf verdI;rw [if_neg (by simpa using h),if_pos (decide_eq_true h2)]
 refine ⟨fun e=>?_,fun e=>?_,fun e=>?_,fun e=>?_⟩
 ·by_cases h1:0<weighI false (soldOf S g)
  ·exact v1 T (by omega)
  ·by_cases h2:0<weighI true (soldOf S g)
   ·rw [v3 S h1 h2] at e;omega
   ·rw [v2 S h1 h2] at e;omega
 ·by_cases h1:0<weighI false (soldOf S g)
  ·rw [v1 S h1] at e;omega
  ·by_cases h2:0<weighI true (soldOf S g)
   ·rw [v3 S h1 h2] at e;omega
   ·have w:=(weigh_range false (soldOf T g) (sold_fineS hT g))
    have w':=(weigh_range true (soldOf T g) (sold_fineS hT g))
    by_cases h3:0<weighI false (soldOf T g)
    ·exfalso
     have:=weigh_le _ (sold_fineS hT g)
     omega
    ·exact v2 T h3 (by omega)
 ·refine price_nar h hS hT fun h0=>e ?_
  rw [h0]
  rfl
 ·have hx:Exact (soldOf T g):=fun s hs=>e s (List.mem_filter.mp hs).1
  have hw:=weigh_exact _ hx
  refine ⟨?_,price_exact hx⟩
  by_cases h1:0<weighI false (soldOf T g)
  ·rw [v1 T h1];omega
  ·rw [v2 T h1 (by omega)];omega
end Go.Proofs.Ytamlnddeiokbdaa.walk
set_option maxRecDepth 10000
namespace Go.Proofs.Ytamlnddeiokbdaa.walk
open Go.Abs Go.Proofs.Ytamlnddeiokbdaa.code
end Go.Proofs.Ytamlnddeiokbdaa.walk
set_option maxRecDepth 10000
namespace Go.Proofs.Ytamlnddeiokbdaa.walk
open Go.Abs Go.Proofs.Ytamlnddeiokbdaa.code
structure Rest (w t:St) (d kk:Nat):Prop where
 same:∀ c,c<w.n→c≠d→t.h.get c=w.h.get c
 n:w.n≤t.n
 le:t.n≤w.n+kk
 die:Die d t.h
 mle:t.m≤far
end Go.Proofs.Ytamlnddeiokbdaa.walk
