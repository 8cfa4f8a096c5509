/- The draw: stall.Draw of any valid letting. -/
import Derived.Test.YtbcjojljiochfaaM3
import Derived.Test.YtbcjojljiochfaaM4
import Derived.Test.YtbcjojljiochfaaCodes
import Derived.Test.YtbcjojljiochfaaM5
import Derived.Test.YtbcjojljiochfaaWalkAll
set_option linter.unusedSimpArgs false
set_option maxHeartbeats 16000000
set_option linter.unusedVariables false
set_option maxRecDepth 10000
namespace Go.Proofs.Ytbcjojljiochfaa.walk
open Go.Abs Go.Proofs.Ytbcjojljiochfaa.code
def tok:List Appl→Nat
 | []=>0
 | a::r=>a.token.toNat+tok r
theorem tok_snoc (l:List Appl) (a:Appl):tok (l++[a])=tok l+a.token.toNat:=by
 induction l with
 | nil=>simp [tok]
 | cons b l ih=>rw [List.cons_append];show b.token.toNat+tok (l++[a])=b.token.toNat+tok l+_;omega
theorem tok_le:∀ {l:List Appl},(∀ a ∈ l,a.token≤1000000000)→tok l≤l.length * 1000000000
 | [],_=>by simp [tok]
 | a::l,h=>by
  have h1:=h a (List.mem_cons_self ..)
  have h2:=tok_le (l:=l) fun x hx=>h x (List.mem_cons_of_mem _ hx)
  show a.token.toNat+tok l≤(l.length+1) * 1000000000
  omega
def leftF (i:Nat):List Nat:=List.range i++List.replicate (8 - i) 0
theorem set_rep {d:List Nat} {k x:Nat}:(d++List.replicate (k+1) 0).set d.length x=(d++[x])++List.replicate k 0:=by
 rw [List.set_append_right _ _ (Nat.le_refl _),Nat.sub_self,List.replicate_succ,List.set_cons_zero,List.append_assoc]
 rfl
theorem leftF_set {i:Nat} (h:i<8):(leftF i).set i i=leftF (i+1):=by
 unfold leftF
 obtain ⟨k,hk⟩:∃ k,8 - i=k+1:=⟨7 - i,by omega⟩
 have:=set_rep (d:=List.range i) (k:=k) (x:=i)
 rw [List.length_range] at this
 rw [hk,this,List.range_succ,show 8 - (i+1)=k by omega]
theorem leftF_len {i:Nat} (h:i≤8):(leftF i).length=8:=by unfold leftF;rw [List.length_append,List.length_range,List.length_replicate];omega
theorem take_erase:∀ {l:List Nat} {p k:Nat},p≤k→(l.eraseIdx p).take k=(l.take (k+1)).eraseIdx p
 | [],p,k,_=>by simp
 | a::l,0,k,_=>by simp
 | a::l,p+1,k,h=>by
  obtain ⟨k',rfl⟩:∃ k',k=k'+1:=⟨k - 1,by omega⟩
  rw [List.eraseIdx_cons_succ,List.take_succ_cons,List.take_succ_cons,List.eraseIdx_cons_succ,take_erase (by omega)]
theorem drop8_take {f:List Nat} {p k:Nat} (h:f.length=8) (hp:p≤k) (hk:k≤7):(drop8 f p).take k=(f.take (k+1)).eraseIdx p:=by
 unfold drop8
 rw [List.take_append_of_le_length (by rw [List.length_eraseIdx_of_lt (by omega)];omega),take_erase hp]
structure DrawJ (w t:St) (b:Nat) (lf df:List Nat) (kk:Nat):Prop where
 g3:t.h.get (b+2)=some (.cells (arr lf) (tag 69))
 g4:t.h.get (b+3)=some (.cells (arr df) (tag 69))
 same:∀ c,c<w.n→c≠b+2→c≠b+3→t.h.get c=w.h.get c
 n:w.n≤t.n
 le:t.n≤w.n+kk
 m:b≤t.m
 mle:t.m≤far
theorem draw_round1 (N:Nat) (cx:Ctx) {no na:Nat→Prop} {w t:St} {b i kk:Nat} {l:Letting} {vS vA:AV} {L:Env} {df:List Nat} (J:DrawJ w t b (leftF i) df kk) (ok:l.Ok) (hL:LetAt no na w.h b l vS vA) (hw:w.n=b+4) (hi:i<l.appls.length) (hs:w.n+kk+100≤far)
  (q3:L.find 3=.ptr (b+2) 0) (q5:L.find 5=.int .i64 (tok (l.appls.take i):Nat)) (q12:L.find 12=vA) (q13:L.find 13=.int .i64 l.appls.length) (q14:L.find 14=.int .i64 (i:Nat)) :
  ∃ L1 t1,K36l0 (call Try.prog X N) cx L [] t=.done .norm L1 [] t1∧DrawJ w t1 b (leftF (i+1)) df (kk+1)∧L1.find 5=.int .i64 (tok (l.appls.take (i+1)):Nat)∧L1.find 14=.int .i64 (i+1:Nat)∧(∀ c,c<5→L1.find c=L.find c)∧L1.find 12=vA∧L1.find 13=.int .i64 l.appls.length:=by
 have hf:far=1000000000:=rfl
 obtain ⟨j3,j4,js,jn,jle,jm,jml⟩:=J
 have m1:=ok.m1
 have e0:decide ((i:Int)<(l.appls.length:Int))=true:=decide_eq_true (by omega)
 have hT:LetAt no na t.h b l vS vA:=hL.grow (fun c hc=>js c (by omega) (by omega) (by omega)) (Nat.le_refl _)
 obtain ⟨ww,p,o,cs,sz,r1,r2,r3,r4,r5,r6⟩:=hT.getA hi
 obtain ⟨y0,y1,t0,t1,wk,nd,wl,bl,bb⟩:=ok.ap _ (List.getElem_mem hi)
 have hk:tok (l.appls.take (i+1))=tok (l.appls.take i)+(l.appls[i]).token.toNat:=by rw [take_snoc hi,tok_snoc]
 have hle:=tok_le (l:=l.appls.take i) (fun a ha=>(ok.ap a (List.mem_of_mem_take ha)).t1)
 rw [List.length_take,Nat.min_eq_left (by omega)] at hle
 obtain ⟨w1,w2⟩:=ww
 simp only at r4 r5 r6
 generalize l.appls[i]=M at *
 have ad:∀ s,aAdd s .i64 (i:Int) 1=.val (.int .i64 ((i:Int)+1)) s:=fun s=>aAdd_i64 s _ _ (by omega)
 have at_:∀ s,aAdd s .i64 ((tok (l.appls.take i):Nat):Int) M.token=.val (.int .i64 ((tok (l.appls.take (i+1)):Nat):Int)) s:=fun s=>by rw [aAdd_i64 s _ _ (by omega)];congr 2;omega
 have sc:scalars [.int .i64 M.years,.int .i64 M.token,w1,w2]=true:=by
  rw [scal_int,scal_int,r5.scal.2.2];exact r6.scal.1
 obtain ⟨y,hy⟩:∃ y:St,y=(t.new (.cells [.int .i64 0,.int .i64 0,.nilslice,.nilslice] (tag 37))).put t.n (.cells [.int .i64 M.years,.int .i64 M.token,w1,w2] (tag 37)):=⟨_,rfl⟩
 have yn:y.n=t.n+1:=by rw [hy];rfl
 have ym:y.m=min t.m t.n:=by rw [hy];simp only [St.put,minN_eq,new_m]
 have yg:∀ c,c<t.n→y.h.get c=t.h.get c:=fun c hc=>by rw [hy,get_put_ne' _ _ _ _ (by omega),get_new_ne _ _ _ (by omega)]
 have yp:y.h.get t.n=some (.cells [.int .i64 M.years,.int .i64 M.token,w1,w2] (tag 37)):=by rw [hy];exact get_put_eq _ _ _ _ rfl (by omega)
 have y3:=(yg (b+2) (by omega)).trans j3
 have ix:=fun s=>ixa8 s (b+2) i (by omega)
 have ov:=arr_over (f:=leftF i) (k:=i) (by rw [leftF_len (by omega)];omega) i
 rw [leftF_set (by omega)] at ov
 simp (disch:=first|omega|(with_unfolding_all exact rfl)|(simp only[new_n,put_n,new_m];omega)|(refine put_m_le ?_;simp only[new_m];omega)) only [res36,K36r0,K36r1,K36r2,K36r3,K36r4,K36r5,K36r6,K36r7,K36r8,K36r9,K36r10,K36r11,K36r12,K36r13,K36r14,K36r15,K36r16,K36r17,K36r18,K36,K36l0,Abs.W,reduceIte,Nat.reduceEqDiff,Nat.reduceAdd,decide_true,decide_false,kLoop_def,Nat.reduceSub,List.cons_append,List.nil_append,List.append_nil,List.length_cons,List.length_nil,Env.find_set,q3,q5,q12,q13,q14,e0,r2,r3,r4,sc,Nat.zero_add]
 rw [← hy]
 simp (disch:=first|omega|(with_unfolding_all exact rfl)|(simp only[new_n,put_n,new_m];omega)|(refine put_m_le ?_;simp only[new_m];omega)) only [res36,K36r0,K36r1,K36r2,K36r3,K36r4,K36r5,K36r6,K36r7,K36r8,K36r9,K36r10,K36r11,K36r12,K36r13,K36r14,K36r15,K36r16,K36r17,K36r18,K36,Abs.W,reduceIte,Nat.reduceEqDiff,Nat.reduceAdd,decide_true,decide_false,kLoop_def,Nat.reduceSub,List.cons_append,List.nil_append,List.append_nil,List.length_cons,List.length_nil,Env.find_set,q3,q5,q14,y3,ix,ov,yp,at_,ad,Nat.zero_add]
 refine ⟨_,_,rfl,⟨get_put_eq _ _ _ _ rfl (by omega),?_,fun c h1 h2 h3=>?_,by simp only [put_n];omega,by simp only [put_n];omega,?_,?_⟩,by simp only [Env.find_set,reduceIte,Nat.reduceEqDiff],by simp only [Env.find_set,reduceIte,Nat.reduceEqDiff];rfl,fun c hc=>?_,by simp only [Env.find_set,q12,reduceIte,Nat.reduceEqDiff],by simp only [Env.find_set,q13,reduceIte,Nat.reduceEqDiff]⟩
 ·rw [get_put_ne' _ _ _ _ (by omega),yg _ (by omega)];exact j4
 ·rw [get_put_ne' _ _ _ _ (by omega),yg _ (by omega)];exact js c h1 h2 h3
 ·simp only [St.put,minN_eq];omega
 ·simp only [St.put,minN_eq];omega
 ·simp only [Env.find_set]
  repeat rw [if_neg (by omega)]
theorem draw_round2 (N:Nat) (hN:1≤N) (cx:Ctx) {w t:St} {b i kk n T:Nat} {l:Letting} {vS vA:AV} {L:Env} {lf R done:List Nat} (J:DrawJ w t b lf (done++List.replicate (8 - i) 0) kk) (hw:w.n=b+4) (g1:w.h.get b=some (.cells [vS,vA] (tag 28))) (hl:∀ s,lenSlA s vA=.val (.int .i64 (n:Int)) s) (kA:∀ t,okA (.val vA t)=.val vA t)
  (hi:i<n) (hn:n≤8) (hlf:lf.length=8) (hd:done.length=i) (hR:R.length=n - i) (hlR:lf.take (n - i)=R) (hT:T≤9000000000) (hs:w.n+kk+100≤far)
  (q1:L.find 1=.ptr b 0) (q3:L.find 3=.ptr (b+2) 0) (q4:L.find 4=.ptr (b+3) 0) (q5:L.find 5=.int .i64 (T:Nat)) (q29:L.find 29=.int .i64 (n:Int)) (q30:L.find 30=.int .i64 (i:Nat)) :
  ∃ L1 t1,K36l1 (call Try.prog X N) cx L [] t=.done .norm L1 [] t1∧DrawJ w t1 b (drop8 lf (T % (n - i))) ((done++[R.getD (T % (n - i)) 0])++List.replicate (8 - (i+1)) 0) kk∧(drop8 lf (T % (n - i))).take (n - (i+1))=R.eraseIdx (T % (n - i))∧L1.find 5=.int .i64 (T / (n - i):Nat)∧L1.find 30=.int .i64 (i+1:Nat)∧(∀ c,c<5→L1.find c=L.find c)∧L1.find 29=.int .i64 (n:Int):=by
 have hf:far=1000000000:=rfl
 obtain ⟨j3,j4,js,jn,jle,jm,jml⟩:=J
 have e0:decide ((i:Int)<(n:Int))=true:=decide_eq_true (by omega)
 have gb:=(js b (by omega) (by omega) (by omega)).trans g1
 obtain ⟨m,hm⟩:∃ m,m=n - i:=⟨_,rfl⟩
 rw [← hm] at hR hlR ⊢
 have sb:∀ s,aSub s .i64 (n:Int) (i:Int)=.val (.int .i64 (m:Int)) s:=fun s=>by rw [aSub_i64 s _ _ (by omega)];congr 2;omega
 have rm:∀ s,aRem s .i64 (T:Int) (m:Int)=.val (.int .i64 ((T % m:Nat):Int)) s:=fun s=>aRem_nat s T m (by omega)
 have qm:∀ s,aQuo s .i64 (T:Int) (m:Int)=.val (.int .i64 ((T / m:Nat):Int)) s:=fun s=>aQuo_nat s T m (by omega) (by omega)
 have hlt:T % m<m:=Nat.mod_lt _ (by omega)
 generalize T / m=T2 at *
 generalize T % m=p at *
 have ad:∀ s,aAdd s .i64 (i:Int) 1=.val (.int .i64 ((i:Int)+1)) s:=fun s=>aAdd_i64 s _ _ (by omega)
 have ixl:=fun s=>ixa8 s (b+2) p (by omega)
 have ixd:=fun s=>ixa8 s (b+3) i (by omega)
 have nl:=arr_nth (f:=lf) (k:=p) (by omega)
 have eR:R.getD p 0=lf.getD p 0:=by rw [← hlR];simp [List.getD,List.getElem?_take,hlt]
 obtain ⟨k8,hk8⟩:∃ k8,8 - i=k8+1:=⟨7 - i,by omega⟩
 have dl:(done++List.replicate (8 - i) 0).length=8:=by rw [List.length_append,List.length_replicate];omega
 have ov:=arr_over (f:=done++List.replicate (8 - i) 0) (k:=i) (by omega) (lf.getD p 0)
 have ov2:(done++List.replicate (8 - i) 0).set i (lf.getD p 0)=(done++[R.getD p 0])++List.replicate (8 - (i+1)) 0:=by
  rw [hk8,eR,← hd,set_rep,show 8 - (done.length+1)=k8 by omega]
 rw [ov2] at ov
 have al:=arr_all hlf
 have wo:=without_ok N hN (f:=lf) (p:=p) hlf (by omega)
 have l8:=drop8_len (f:=lf) (p:=p) hlf (by omega)
 have ao:=arr_overAll (f:=lf) (g:=drop8 lf p) hlf l8
 have asx:=arr_scal (drop8 lf p)
 have aln:=arr_len (drop8 lf p)
 simp (disch:=first|omega|(with_unfolding_all exact rfl)|(simp only[new_n,put_n,new_m];omega)|(refine put_m_le ?_;simp only[new_m];omega)) only [res36,K36r0,K36r1,K36r2,K36r3,K36r4,K36r5,K36r6,K36r7,K36r8,K36r9,K36r10,K36r11,K36r12,K36r13,K36r14,K36r15,K36r16,K36r17,K36r18,K36,K36l1,Abs.W,reduceIte,Nat.reduceEqDiff,Nat.reduceAdd,decide_true,decide_false,kLoop_def,Nat.reduceSub,List.cons_append,List.nil_append,List.append_nil,List.length_cons,List.length_nil,Env.find_set,q1,q3,q4,q5,q29,q30,gb,hl,kA,e0,sb,rm,qm,ixl,ixd,j3,j4,nl,ov,al,wo,ao,asx,aln,l8,ad,Nat.zero_add]
 refine ⟨_,_,rfl,⟨get_put_eq _ _ _ _ rfl (by omega),?_,fun c h1 h2 h3=>?_,by simp only [put_n];omega,by simp only [put_n];omega,?_,?_⟩,?_,by simp only [Env.find_set,reduceIte,Nat.reduceEqDiff],by simp only [Env.find_set,reduceIte,Nat.reduceEqDiff];rfl,fun c hc=>?_,by simp only [Env.find_set,q29,reduceIte,Nat.reduceEqDiff]⟩
 ·rw [get_put_ne' _ _ _ _ (by omega)];exact get_put_eq _ _ _ _ rfl (by omega)
 ·rw [get_put_ne' _ _ _ _ (by omega),get_put_ne' _ _ _ _ (by omega)];exact js c h1 h2 h3
 ·simp only [St.put,minN_eq];omega
 ·simp only [St.put,minN_eq];omega
 ·rw [drop8_take hlf (by omega) (by omega),show n - (i+1)+1=m by omega,hlR]
 ·simp only [Env.find_set]
  repeat rw [if_neg (by omega)]
def drawL (l:Letting):List Nat:=pickL l.appls.length (tok l.appls) (List.range l.appls.length)
theorem drawL_len (l:Letting):(drawL l).length=l.appls.length:=pickL_len _ _ _
theorem draw_ok (N:Nat) (hN:2≤N) {no na:Nat→Prop} (l:Letting) (ok:l.Ok) (vS vA:AV) (s:St) (hL:LetAt no na s.h s.n l vS vA) (hs:s.n+1000≤far) :
  call Try.prog X N (.fn 36) [.agg (letV vS vA)] s=.val (.agg (arr (drawL l++List.replicate (8 - l.appls.length) 0))) s:=by
 obtain ⟨n,rfl⟩:∃ n,N=n+1:=⟨N - 1,by omega⟩
 refine call_plain' Try.func36 (fun u uh un um=>?_) (arr_plains _)
 have hf:far=1000000000:=rfl
 rw [← uh,← un] at hL
 have kA:=hL.okV
 have lA:=hL.lenA
 have m1:=ok.m1
 obtain ⟨w,hw⟩:∃ w:St,w=(((u.new (.cells [vS,vA] (tag 28))).new (.cells (arr (List.replicate 8 0)) (tag 69))).new (.cells (arr (List.replicate 8 0)) (tag 69))).new (.cells (arr (List.replicate 8 0)) (tag 69)):=⟨_,rfl⟩
 have wn:w.n=u.n+4:=by rw [hw];rfl
 have wm:w.m=far:=by rw [hw];exact um
 have wg:∀ c,c<u.n→w.h.get c=u.h.get c:=fun c hc=>by rw [hw,get_new_ne _ _ _ (by simp only [new_n];omega),get_new_ne _ _ _ (by simp only [new_n];omega),get_new_ne _ _ _ (by simp only [new_n];omega),get_new_ne _ _ _ (by omega)]
 have w0:w.h.get u.n=some (.cells [vS,vA] (tag 28)):=by rw [hw,get_new_ne _ _ _ (by simp only [new_n];omega),get_new_ne _ _ _ (by simp only [new_n];omega),get_new_ne _ _ _ (by simp only [new_n];omega)];exact get_new_eq _ _ _ rfl (by omega)
 have w1:w.h.get (u.n+1)=some (.cells (arr (List.replicate 8 0)) (tag 69)):=by rw [hw,get_new_ne _ _ _ (by simp only [new_n];omega),get_new_ne _ _ _ (by simp only [new_n];omega)];exact get_new_eq _ _ _ rfl (by simp only [new_n];omega)
 have w2:w.h.get (u.n+2)=some (.cells (arr (List.replicate 8 0)) (tag 69)):=by rw [hw,get_new_ne _ _ _ (by simp only [new_n];omega)];exact get_new_eq _ _ _ rfl (by simp only [new_n];omega)
 have w3:w.h.get (u.n+3)=some (.cells (arr (List.replicate 8 0)) (tag 69)):=by rw [hw];exact get_new_eq _ _ _ rfl (by simp only [new_n];omega)
 have hM:=hL.grow wg (Nat.le_refl _)
 rw [enter36]
 simp (disch:=first|omega|(with_unfolding_all exact rfl)|(simp only[new_n,put_n,new_m];omega)|(refine put_m_le ?_;simp only[new_m];omega)) only [K36,K36r0,K36r1,K36r2,K36r3,Abs.W,reduceIte,Nat.reduceEqDiff,Nat.reduceAdd,decide_true,decide_false,kLoop_def,Nat.reduceSub,List.cons_append,List.nil_append,List.append_nil,List.length_cons,List.length_nil,Env.find_set,arr_zero]
 rw [← hw]
 simp (disch:=first|omega|(with_unfolding_all exact rfl)|(simp only[new_n,put_n,new_m];omega)|(refine put_m_le ?_;simp only[new_m];omega)) only [new_n,Abs.W,reduceIte,Nat.reduceEqDiff,Nat.reduceAdd,decide_true,decide_false,kLoop_def,Nat.reduceSub,List.cons_append,List.nil_append,List.append_nil,List.length_cons,List.length_nil,Env.find_set,w0,kA,lA,Nat.zero_add]
 generalize hl1:loopN _ rounds _ _ _ _ _=q1
 obtain ⟨e,L1,t1,rfl,rfl,J1,f5,fc⟩:=loop_of hl1
  (fun i L' t=>DrawJ w t u.n (leftF i) (List.replicate 8 0) i∧L'.find 5=.int .i64 (tok (l.appls.take i):Nat)∧L'.find 14=.int .i64 (i:Nat)∧(L'.find 1=.ptr u.n 0∧L'.find 2=.ptr (u.n+1) 0∧L'.find 3=.ptr (u.n+2) 0∧L'.find 4=.ptr (u.n+3) 0)∧L'.find 12=vA∧L'.find 13=.int .i64 l.appls.length)
  (fun e L' t=>e=.exit 0∧DrawJ w t u.n (leftF l.appls.length) (List.replicate 8 0) l.appls.length∧L'.find 5=.int .i64 (tok l.appls:Nat)∧(L'.find 1=.ptr u.n 0∧L'.find 2=.ptr (u.n+1) 0∧L'.find 3=.ptr (u.n+2) 0∧L'.find 4=.ptr (u.n+3) 0))
  l.appls.length (by unfold rounds;omega) ⟨⟨w2,w3,fun _ _ _ _=>rfl,Nat.le_refl _,Nat.le_refl _,by omega,by omega⟩,by simp only [find_cons,Env.find_set,reduceIte,Nat.reduceEqDiff];rfl,by simp only [find_cons,Env.find_set,reduceIte,Nat.reduceEqDiff];rfl,⟨by simp only [find_cons,Env.find_set,reduceIte,Nat.reduceEqDiff],by simp only [find_cons,Env.find_set,reduceIte,Nat.reduceEqDiff],by simp only [find_cons,Env.find_set,reduceIte,Nat.reduceEqDiff],by simp only [find_cons,Env.find_set,reduceIte,Nat.reduceEqDiff]⟩,by simp only [find_cons,Env.find_set,reduceIte,Nat.reduceEqDiff],by simp only [find_cons,Env.find_set,reduceIte,Nat.reduceEqDiff]⟩
  (fun i L' t hi ⟨hJ,q5,q14,⟨q1,q2,q3,q4⟩,q12,q13⟩=>by
   by_cases hlt:i<l.appls.length
   ·obtain ⟨L2,t2,z1,z2,z3,z4,z5,z6,z7⟩:=draw_round1 n _ hJ ok hM wn hlt (by omega) q3 q5 q12 q13 q14
    exact .inl ⟨hlt,L2,t2,z1,z2,z3,z4,⟨(z5 1 (by omega)).trans q1,(z5 2 (by omega)).trans q2,(z5 3 (by omega)).trans q3,(z5 4 (by omega)).trans q4⟩,z6,z7⟩
   ·obtain rfl:i=l.appls.length:=by omega
    have e0:decide ((l.appls.length:Int)<(l.appls.length:Int))=false:=by simp
    rw [List.take_length] at q5
    refine .inr ⟨.exit 0,L'.set 15 (.bool false),t,by simp,?_,rfl,hJ,?_,?_,?_,?_,?_⟩
    ·simp (disch:=first|omega|(with_unfolding_all exact rfl)|(simp only[new_n,put_n,new_m];omega)|(refine put_m_le ?_;simp only[new_m];omega)) only [res36,K36r0,K36r1,K36r2,K36r3,K36r4,K36r5,K36r6,K36r7,K36r8,K36r9,K36r10,K36r11,K36r12,K36r13,K36r14,K36r15,K36r16,K36r17,K36r18,K36,K36l0,Abs.W,reduceIte,Nat.reduceEqDiff,Nat.reduceAdd,decide_true,decide_false,kLoop_def,Nat.reduceSub,List.cons_append,List.nil_append,List.append_nil,List.length_cons,List.length_nil,Env.find_set,q13,q14,e0]
    all_goals simp only [Env.find_set,q1,q2,q3,q4,q5,reduceIte,Nat.reduceEqDiff])
 obtain ⟨f1,f2,f3,f4⟩:=fc
 have gb1:=(J1.same u.n (by omega) (by omega) (by omega)).trans w0
 simp (disch:=first|omega|(with_unfolding_all exact rfl)|(simp only[new_n,put_n,new_m];omega)|(refine put_m_le ?_;simp only[new_m];omega)) only [K36r9,Abs.W,reduceIte,Nat.reduceEqDiff,Nat.reduceAdd,decide_true,decide_false,kLoop_def,Nat.reduceSub,List.cons_append,List.nil_append,List.append_nil,List.length_cons,List.length_nil,Env.find_set,f1,gb1,kA,lA,Nat.zero_add]
 generalize hl2:loopN _ rounds _ _ _ _ _=q2
 have tl:=tok_le (l:=l.appls) (fun a ha=>(ok.ap a ha).t1)
 obtain ⟨e,L2,t2,rfl,rfl,lf,J2,h2,h4⟩:=loop_of hl2
  (fun i L' t=>∃ lf R done T,DrawJ w t u.n lf (done++List.replicate (8 - i) 0) l.appls.length∧lf.length=8∧done.length=i∧R.length=l.appls.length - i∧lf.take (l.appls.length - i)=R∧T≤9000000000∧done++pickL (l.appls.length - i) T R=drawL l∧L'.find 5=.int .i64 (T:Nat)∧L'.find 30=.int .i64 (i:Nat)∧(L'.find 1=.ptr u.n 0∧L'.find 2=.ptr (u.n+1) 0∧L'.find 3=.ptr (u.n+2) 0∧L'.find 4=.ptr (u.n+3) 0)∧L'.find 29=.int .i64 l.appls.length)
  (fun e L' t=>e=.exit 2∧∃ lf,DrawJ w t u.n lf (drawL l++List.replicate (8 - l.appls.length) 0) l.appls.length∧L'.find 2=.ptr (u.n+1) 0∧L'.find 4=.ptr (u.n+3) 0)
  l.appls.length (by unfold rounds;omega) ⟨leftF l.appls.length,List.range l.appls.length,[],tok l.appls,J1,leftF_len (by omega),rfl,List.length_range,by
    unfold leftF
    rw [Nat.sub_zero,List.take_append_of_le_length (by rw [List.length_range];omega),List.take_of_length_le (by rw [List.length_range];omega)],by omega,rfl,by simp only [Env.find_set,f5,reduceIte,Nat.reduceEqDiff],by simp only [Env.find_set,reduceIte,Nat.reduceEqDiff];rfl,⟨by simp only [Env.find_set,f1,reduceIte,Nat.reduceEqDiff],by simp only [Env.find_set,f2,reduceIte,Nat.reduceEqDiff],by simp only [Env.find_set,f3,reduceIte,Nat.reduceEqDiff],by simp only [Env.find_set,f4,reduceIte,Nat.reduceEqDiff]⟩,by simp only [Env.find_set,reduceIte,Nat.reduceEqDiff]⟩
  (fun i L' t hi ⟨lf,R,done,T,hJ,c1,c2,c3,c4,c5,c6,q5,q30,⟨q1,q2,q3,q4⟩,q29⟩=>by
   by_cases hlt:i<l.appls.length
   ·obtain ⟨L3,t3,z1,z2,z3,z4,z5,z6,z7⟩:=draw_round2 n (by omega) ⟨36,none,Try.f36.ntmps,X 36⟩ (l:=l) hJ wn w0 lA kA hlt (by omega) c1 c2 c3 c4 c5 (by omega) q1 q3 q4 q5 q29 q30
    have hp:T % (l.appls.length - i)<l.appls.length - i:=Nat.mod_lt _ (by omega)
    refine .inl ⟨hlt,L3,t3,z1,_,R.eraseIdx (T % (l.appls.length - i)),done++[R.getD (T % (l.appls.length - i)) 0],_,z2,drop8_len c1 (by omega),by simp [c2],by rw [List.length_eraseIdx_of_lt (by omega)];omega,z3,Nat.le_trans (Nat.div_le_self ..) c5,?_,z4,z5,⟨(z6 1 (by omega)).trans q1,(z6 2 (by omega)).trans q2,(z6 3 (by omega)).trans q3,(z6 4 (by omega)).trans q4⟩,z7⟩
    rw [← c6,show l.appls.length - i=(l.appls.length - (i+1))+1 by omega]
    conv=>rhs;unfold pickL
    rw [c3,show l.appls.length - (i+1)+1=l.appls.length - i by omega,List.append_assoc]
    rfl
   ·obtain rfl:i=l.appls.length:=by omega
    have e0:decide ((l.appls.length:Int)<(l.appls.length:Int))=false:=by simp
    have c6':done=drawL l:=by rw [← c6,Nat.sub_self];show done=done++[];rw [List.append_nil]
    subst c6'
    refine .inr ⟨.exit 2,L'.set 31 (.bool false),t,by simp,?_,rfl,lf,hJ,?_,?_⟩
    ·simp (disch:=first|omega|(with_unfolding_all exact rfl)|(simp only[new_n,put_n,new_m];omega)|(refine put_m_le ?_;simp only[new_m];omega)) only [res36,K36r0,K36r1,K36r2,K36r3,K36r4,K36r5,K36r6,K36r7,K36r8,K36r9,K36r10,K36r11,K36r12,K36r13,K36r14,K36r15,K36r16,K36r17,K36r18,K36,K36l1,Abs.W,reduceIte,Nat.reduceEqDiff,Nat.reduceAdd,decide_true,decide_false,kLoop_def,Nat.reduceSub,List.cons_append,List.nil_append,List.append_nil,List.length_cons,List.length_nil,Env.find_set,q29,q30,e0]
    all_goals simp only [Env.find_set,q2,q4,reduceIte,Nat.reduceEqDiff])
 have l8:(drawL l++List.replicate (8 - l.appls.length) 0).length=8:=by rw [List.length_append,List.length_replicate,drawL_len];omega
 have al:=arr_all l8
 have ao:=arr_overAll (f:=List.replicate 8 0) (g:=drawL l++List.replicate (8 - l.appls.length) 0) rfl l8
 have asx:=arr_scal (drawL l++List.replicate (8 - l.appls.length) 0)
 have aln:=arr_len (drawL l++List.replicate (8 - l.appls.length) 0)
 have g4:=J2.g4
 have g2:=(J2.same (u.n+1) (by omega) (by omega) (by omega)).trans w1
 have tn:=J2.n
 have tl2:=J2.le
 have tm:=J2.m
 generalize drawL l++List.replicate (8 - l.appls.length) 0=df at *
 simp (disch:=first|omega|(with_unfolding_all exact rfl)|(simp only[new_n,put_n,new_m];omega)|(refine put_m_le ?_;simp only[new_m];omega)) only [K36r18,res36,Abs.W,reduceIte,Nat.reduceEqDiff,Nat.reduceAdd,decide_true,decide_false,kLoop_def,Nat.reduceSub,List.cons_append,List.nil_append,List.append_nil,List.length_cons,List.length_nil,Env.find_set,h2,h4,g4,g2,al,ao,asx,aln,l8]
 have sh8:shapeT Try.prog 69=some (some 8):=by kernel_rfl
 refine ⟨_,leave_cell _ _ _ _ sh8 ?_,?_⟩
 ·simp only [Env.find_set,find_cons,h2,reduceIte,Nat.reduceEqDiff]
  rw [load_ptr,get_put_eq _ _ _ _ rfl (by omega),loadO_cells,partS_some,al]
  rfl
 ·simp only [St.put,minN_eq];omega
end Go.Proofs.Ytbcjojljiochfaa.walk
set_option maxRecDepth 10000
namespace Go.Proofs.Ytbcjojljiochfaa.walk
open Go.Abs Go.Proofs.Ytbcjojljiochfaa.code
theorem has_ok (N:Nat) (hN:1≤N) (l:List Int) (x:Int) (v:AV) (s:St) (hR:RowsAt s.h s.n 1 (intRows l) v) (hl:l.length≤1000) (hs:s.n+10≤far) :
  call Try.prog X N (.fn 16) [v,.int .i64 x] s=.val (.bool (decide (x ∈ l))) s:=by
 obtain ⟨n,rfl⟩:∃ n,N=n+1:=⟨N - 1,by omega⟩
 refine call_plain' Try.func16 (fun u uh un um=>?_) rfl
 rw [← uh,← un] at hR
 have kv:∀ t,okA (.val v t)=.val v t:=fun t=>okA_ne hR.ne
 have lv:=rowLen hR
 have hf:far=1000000000:=rfl
 rw [enter16]
 simp (disch:=first|omega|(with_unfolding_all exact rfl)|(simp only[new_n,put_n,new_m];omega)|(refine put_m_le ?_;simp only[new_m];omega)) only [res16,K16r0,K16r1,K16r2,K16r3,K16r4,K16r5,K16r6,K16,Abs.W,reduceIte,Nat.reduceEqDiff,Nat.reduceAdd,decide_true,decide_false,kLoop_def,Nat.reduceSub,List.cons_append,List.nil_append,List.append_nil,List.length_cons,List.length_nil,Env.find_set,kv,lv]
 generalize hlp:loopN _ rounds _ _ _ _ _=q1
 obtain ⟨e,L1,s1,rfl,rfl,hQ⟩:=loop_of hlp (fun i L t=>t=u∧L.find 0=v∧L.find 1=.int .i64 x∧L.find 5=.int .i64 i∧x ∉ l.take i)
  (fun e L t=>t=u∧((e=.ret∧L.find 4=.bool true∧x ∈ l)∨(e=.exit 0∧x ∉ l))) l.length (by unfold rounds;omega)
  ⟨rfl,by simp only [find_cons,Env.find_set,reduceIte,Nat.reduceEqDiff],by simp only [find_cons,Env.find_set,reduceIte,Nat.reduceEqDiff],by simp only [find_cons,Env.find_set,reduceIte,Nat.reduceEqDiff];rfl,by simp⟩
  (fun i L t hi ⟨ht,q0,q1,q5,hx⟩=>by
   subst ht
   by_cases hlt:i<l.length
   ·have e0:decide ((i:Int)<(l.length:Int))=true:=decide_eq_true (by omega)
    obtain ⟨b,p,c,sz,r1,r2,r3,r4⟩:=rowInt hR hlt
    have ad:∀ s,aAdd s .i64 (i:Int) 1=.val (.int .i64 ((i:Int)+1)) s:=fun s=>aAdd_i64 s _ _ (by omega)
    by_cases he:l[i]=x
    ·have e1:decide (l[i]=x)=true:=decide_eq_true he
     refine .inr ⟨.ret,_,t,by simp,by
      simp (disch:=first|omega|(with_unfolding_all exact rfl)|(simp only[new_n,put_n,new_m];omega)|(refine put_m_le ?_;simp only[new_m];omega)) only [res16,K16r0,K16r1,K16r2,K16r3,K16r4,K16r5,K16r6,K16,K16l0,Abs.W,reduceIte,Nat.reduceEqDiff,Nat.reduceAdd,decide_true,decide_false,kLoop_def,Nat.reduceSub,List.cons_append,List.nil_append,List.append_nil,List.length_cons,List.length_nil,Env.find_set,q0,q1,q5,e0,kv,lv,r2,r3,r4,e1]
      rfl,rfl,.inl ⟨rfl,by simp only [Env.find_set,reduceIte,Nat.reduceEqDiff],by rw [← he];exact List.getElem_mem hlt⟩⟩
    ·have e1:decide (l[i]=x)=false:=decide_eq_false he
     refine .inl ⟨hlt,_,t,by
      simp (disch:=first|omega|(with_unfolding_all exact rfl)|(simp only[new_n,put_n,new_m];omega)|(refine put_m_le ?_;simp only[new_m];omega)) only [res16,K16r0,K16r1,K16r2,K16r3,K16r4,K16r5,K16r6,K16,K16l0,Abs.W,reduceIte,Nat.reduceEqDiff,Nat.reduceAdd,decide_true,decide_false,kLoop_def,Nat.reduceSub,List.cons_append,List.nil_append,List.append_nil,List.length_cons,List.length_nil,Env.find_set,q0,q1,q5,e0,kv,lv,r2,r3,r4,e1,ad]
      rfl,rfl,?_,?_,?_,?_⟩
     ·simp only [Env.find_set,q0,reduceIte,Nat.reduceEqDiff]
     ·simp only [Env.find_set,q1,reduceIte,Nat.reduceEqDiff]
     ·simp only [Env.find_set,reduceIte,Nat.reduceEqDiff];rfl
     ·rw [take_snoc hlt,List.mem_append,List.mem_singleton]
      exact fun h=>h.elim hx fun h=>he h.symm
   ·obtain rfl:i=l.length:=by omega
    have e0:decide ((l.length:Int)<(l.length:Int))=false:=by simp
    refine .inr ⟨.exit 0,L.set 9 (.bool false),t,by simp,?_,rfl,.inr ⟨rfl,by rwa [List.take_length] at hx⟩⟩
    simp (disch:=first|omega|(with_unfolding_all exact rfl)|(simp only[new_n,put_n,new_m];omega)|(refine put_m_le ?_;simp only[new_m];omega)) only [res16,K16r0,K16r1,K16r2,K16r3,K16r4,K16r5,K16r6,K16,K16l0,Abs.W,reduceIte,Nat.reduceEqDiff,Nat.reduceAdd,decide_true,decide_false,kLoop_def,Nat.reduceSub,List.cons_append,List.nil_append,List.append_nil,List.length_cons,List.length_nil,Env.find_set,q0,q5,kv,lv,e0])
 rcases hQ with ⟨rfl,h4,hx⟩ | ⟨rfl,hx⟩
 ·rw [decide_eq_true hx]
  simp (disch:=first|omega|(with_unfolding_all exact rfl)|(simp only[new_n,put_n,new_m];omega)|(refine put_m_le ?_;simp only[new_m];omega)) only [res16,K16r0,K16r1,K16r2,K16r3,K16r4,K16r5,K16r6,K16,Abs.W,reduceIte,Nat.reduceEqDiff,Nat.reduceAdd,decide_true,decide_false,kLoop_def,Nat.reduceSub,List.cons_append,List.nil_append,List.append_nil,List.length_cons,List.length_nil,Env.find_set,h4]
  exact ⟨_,rfl,by omega⟩
 ·rw [decide_eq_false hx]
  simp (disch:=first|omega|(with_unfolding_all exact rfl)|(simp only[new_n,put_n,new_m];omega)|(refine put_m_le ?_;simp only[new_m];omega)) only [res16,K16r0,K16r1,K16r2,K16r3,K16r4,K16r5,K16r6,K16,Abs.W,reduceIte,Nat.reduceEqDiff,Nat.reduceAdd,decide_true,decide_false,kLoop_def,Nat.reduceSub,List.cons_append,List.nil_append,List.append_nil,List.length_cons,List.length_nil,Env.find_set]
  exact ⟨_,rfl,by omega⟩
/-! ### Tokens that are changed -/
def Appl.withT (a:Appl) (x:Int):Appl:=⟨a.years,x,a.wishes,a.bids⟩
theorem rowsOf_get {l:List Appl} {ws:List (AV × AV)} {k:Nat} (h:k<(rowsOf l ws).length) (h1:k<l.length) (h2:k<ws.length):(rowsOf l ws)[k]=l[k].row ws[k]:=List.getElem_zipWith ..
theorem rowsOf_wide {l:List Appl} {ws:List (AV × AV)} (h:ws.length=l.length):∀ r ∈ rowsOf l ws,r.length=4:=fun r hr=>by
 obtain ⟨k,hk,rfl⟩:=List.getElem_of_mem hr
 have:=hk
 rw [rowsOf_len h] at this
 rw [rowsOf_get hk this (by omega)]
 rfl
def Letting.withTok (l:Letting) (i:Nat) (x:Int):Letting:=⟨l.stalls,if h:i<l.appls.length then l.appls.set i (l.appls[i].withT x) else l.appls⟩
theorem withTok_len (l:Letting) (i:Nat) (x:Int):(l.withTok i x).appls.length=l.appls.length:=by unfold Letting.withTok;split<;>simp
theorem over_cell:∀ {c:List AV} {i:Nat} (x:AV),i<c.length→over i [x] c=some (c.set i x)
 | [],_,_,h=>by simp at h
 | a::r,0,x,_=>by cases r<;>rfl
 | a::r,i+1,x,h=>by
  have ih:=over_cell (c:=r) (i:=i) x (by simpa using h)
  rw [over_cons,if_neg (by omega),show i+1 - 1=i by omega,ih]
  rfl
theorem flat_setA (x:AV):∀ {rows:List (List AV)} {w i j:Nat},(∀ r ∈ rows,r.length=w)→(hi:i<rows.length)→j<w→rows.flatten.set (i * w+j) x=(rows.set i (rows[i].set j x)).flatten
 | [],_,_,_,_,hi,_=>by simp at hi
 | a::r,w,0,j,h,hi,hj=>by
  have ha:=h a (List.mem_cons_self ..)
  rw [List.flatten_cons,Nat.zero_mul,Nat.zero_add,List.set_append_left _ _ (by omega)]
  rfl
 | a::r,w,i+1,j,h,hi,hj=>by
  have ha:=h a (List.mem_cons_self ..)
  have hm:(i+1) * w=i * w+w:=Nat.succ_mul i w
  have ih:=flat_setA x (rows:=r) (w:=w) (i:=i) (j:=j) (fun r hr=>h r (List.mem_cons_of_mem _ hr)) (by simpa using hi) hj
  rw [List.flatten_cons,List.set_append_right _ _ (by omega),show (i+1) * w+j - a.length=i * w+j by omega,ih]
  rfl
theorem rowsOf_tok {l:List Appl} {ws:List (AV × AV)} {i:Nat} (x:Int) (h:ws.length=l.length) (hi:i<l.length):(rowsOf l ws).flatten.set (i * 4+1) (.int .i64 x)=(rowsOf (l.set i (l[i].withT x)) ws).flatten:=by
 rw [flat_setA _ (rowsOf_wide h) (by rw [rowsOf_len h];exact hi) (by omega)]
 congr 1
 have hs:ws.length=(l.set i (l[i].withT x)).length:=by rw [List.length_set];exact h
 apply List.ext_getElem
 ·rw [List.length_set,rowsOf_len h,rowsOf_len hs,List.length_set]
 ·intro k h1 h2
  have hk:k<l.length:=by rw [rowsOf_len hs,List.length_set] at h2;exact h2
  rw [List.getElem_set,rowsOf_get h2 (by rw [List.length_set];exact hk) (by omega),List.getElem_set]
  by_cases e:i=k
  ·subst e
   rw [if_pos rfl,if_pos rfl,rowsOf_get _ hi (by omega)]
   rfl
  ·rw [if_neg e,if_neg e,rowsOf_get _ hk (by omega)]
theorem LetOwn.token {t:St} {n lo bS bA who:Nat} {l:Letting} {vS vA:AV} (r:LetOwn t.h n lo bS bA l vS vA) (hw:who<l.appls.length) (x:Int) (hn:n≤far) :
  ∃ c c' sz,t.h.get bA=some (.cells c sz)∧(∀ s,ixsA 4 s vA (.int .i64 (who:Int))=.val (.ptr bA (who * 4)) s)∧over (who * 4+1) [.int .i64 x] c=some c'∧bA<n∧LetOwn (t.put bA (.cells c' sz)).h n lo bS bA (l.withTok who x) vS vA:=by
 have hf:far=1000000000:=rfl
 obtain ⟨s,⟨ws,q1,q2,q3⟩,l1,l2,l3⟩:=r
 have lr:=rowsOf_len q1
 rcases q2.is with ⟨z,_⟩ | ⟨_,z1,z2,z3⟩
 ·rw [z] at lr;simp at lr;omega
 ·have hlen:(rowsOf l.appls ws).flatten.length=l.appls.length * 4:=by rw [flatten_len q2.wide,lr]
  refine ⟨_,_,_,z3,fun s=>by rw [z2,ixs_slice _ _ _ _ _ _ _ _ (by rw [lr];exact hw),Nat.zero_add],over_cell _ (by rw [hlen];omega),z1,s.mono (fun _=>get_put_ne' _ _ _ _ l3) (Nat.le_refl _),⟨ws,by rw [withTok_len];exact q1,?_,fun i h1 h2=>?_⟩,l1,l2,l3⟩
  ·have ew:(l.withTok who x).appls=l.appls.set who (l.appls[who].withT x):=by unfold Letting.withTok;rw [dif_pos hw]
   rw [ew,rowsOf_tok x q1 hw]
   refine ⟨rowsOf_wide (by rw [List.length_set];exact q1),.inr ⟨fun e=>?_,z1,by rw [z2,lr,rowsOf_len (by rw [List.length_set];exact q1),List.length_set],get_put_eq _ _ _ _ rfl (by omega)⟩⟩
   ·have:=rowsOf_len (l:=l.appls.set who (l.appls[who].withT x)) (ws:=ws) (by rw [List.length_set];exact q1)
    rw [e] at this
    simp at this
    omega
  ·have h2':i<l.appls.length:=by rw [withTok_len] at h2;exact h2
   have e1:(l.withTok who x).appls[i].wishes=l.appls[i].wishes∧(l.withTok who x).appls[i].bids=l.appls[i].bids:=by
    unfold Letting.withTok
    simp only [hw,dite_true,List.getElem_set]
    by_cases e:who=i
    ·subst e;simp [Appl.withT]
    ·simp [e]
   rw [e1.1,e1.2]
   exact ⟨(q3 i h1 h2').1.move (fun b h3 h4=>⟨get_put_ne' _ _ _ _ h4.2,h4⟩) (Nat.le_refl _),(q3 i h1 h2').2.move (fun b h3 h4=>⟨get_put_ne' _ _ _ _ h4.2,h4⟩) (Nat.le_refl _)⟩
end Go.Proofs.Ytbcjojljiochfaa.walk
set_option maxRecDepth 10000
namespace Go.Proofs.Ytbcjojljiochfaa.walk
open Go.Abs Go.Proofs.Ytbcjojljiochfaa.code
def TabS (h:Heap) (n b:Nat) (no:Nat→Prop) (M:List (List Nat)) (v:AV):Prop :=
 ∃ (vs:List AV) (e:Bool) (sz:Nat),vs.length=M.length∧0<M.length∧b<n∧v=.slice b 0 vs.length vs.length e∧h.get b=some (.cells vs sz)∧(e=true→szOf sz=1)∧scalars vs=true∧∀ j (h1:j<vs.length) (h2:j<M.length),Sl (fun x=>x≠b∧no x) h n 1 (natRows M[j]) vs[j]
section
variable {h h':Heap} {n n' b:Nat} {no no':Nat→Prop} {M:List (List Nat)} {v:AV}
theorem TabS.move (a:TabS h n b no M v) (hb:h'.get b=h.get b) (hh:∀ c,c<n→no c→h'.get c=h.get c∧no' c) (hn:n≤n'):TabS h' n' b no' M v:=by
 obtain ⟨vs,e,sz,h1,h2,h3,h4,h5,h6,h7,h8⟩:=a
 exact ⟨vs,e,sz,h1,h2,by omega,h4,hb.trans h5,h6,h7,fun j j1 j2=>(h8 j j1 j2).move (fun c hc hl=>⟨(hh c hc hl.2).1,hl.1,(hh c hc hl.2).2⟩) hn⟩
theorem TabS.okA (a:TabS h n b no M v) (t:St):Abs.okA (.val v t)=.val v t:=by obtain ⟨vs,e,sz,h1,h2,h3,rfl,_⟩:=a;rfl
theorem TabS.plain (a:TabS h n b no M v):Abs.plain v=false:=by obtain ⟨vs,e,sz,h1,h2,h3,rfl,_⟩:=a;rfl
theorem TabS.len (a:TabS h n b no M v) (s:St):lenSlA s v=.val (.int .i64 (M.length:Int)) s:=by obtain ⟨vs,e,sz,h1,h2,h3,rfl,_⟩:=a;rw [← h1];rfl
theorem nth_get:∀ {l:List AV} {i:Nat} (h:i<l.length),nth l i=l[i]
 | x::l,0,_=>rfl
 | x::l,i+1,h=>nth_get (l:=l) (i:=i) (by simpa using h)
theorem TabS.get (a:TabS h n b no M v) {j:Nat} (hj:j<M.length):∃ w p c sz,Sl (fun x=>x≠b∧no x) h n 1 (natRows M[j]) w∧(∀ s,ixsA 1 s v (.int .i64 (j:Int))=.val (.ptr b p) s)∧h.get b=some (.cells c sz)∧nth c p=w:=by
 obtain ⟨vs,e,sz,h1,h2,h3,rfl,h5,h6,h7,h8⟩:=a
 have hr:j<vs.length:=by omega
 exact ⟨vs[j],0+j * 1,vs,sz,h8 j hr hj,fun s=>ixs_slice 1 s b 0 _ _ e j hr,h5,by rw [Nat.zero_add,Nat.mul_one];exact nth_get hr⟩
end
theorem scalars_app:∀ {a b:List AV},scalars a=true→scalars b=true→scalars (a++b)=true
 | [],_,_,h=>h
 | x::a,b,h1,h2=>by
  have e:∀ (x:AV) (l:List AV),scalars (x::l)=(match x.scalar with | true=>scalars l | false=>false):=fun _ _=>rfl
  rw [List.cons_append,e]
  rw [e] at h1
  cases hx:x.scalar with
  | true=>rw [hx] at h1;exact scalars_app h1 h2
  | false=>rw [hx] at h1;cases h1
theorem TabS.app {s:St} {b b':Nat} {no no':Nat→Prop} {M M':List (List Nat)} {v v':AV} (a:TabS s.h s.n b no M v) (a':TabS s.h s.n b' no' M' v') (hno:∀ x,no' x→x≠b'→x≠b∧no x) (hl:M.length+M'.length≤1000) (hs:s.n+10≤far) :
  ∃ w s',appendA false 1 24 (tag 22) s v v'=.val w s'∧TabS s'.h s'.n s.n no (M++M') w∧s'.n=s.n+1∧(∀ c,c<s.n→c≠b→s'.h.get c=s.h.get c)∧min s.m b≤s'.m∧s'.m≤s.m:=by
 have hf:far=1000000000:=rfl
 obtain ⟨vs,e,sz,h1,h2,h3,rfl,h5,h6,h7,h8⟩:=a
 obtain ⟨ws,e',sz',k1,k2,k3,rfl,k5,k6,k7,k8⟩:=a'
 have e1:firstA 1 ws.length s (.slice b' 0 ws.length ws.length e')=some ws:=by
  show (match s.h.get b' with | some (.cells c _)=>Abs.cut 0 (ws.length * 1) c | some (.fam c _ q _)=>Abs.cut 0 (ws.length * 1) (c.take q) | _=>none)=_
  rw [k5]
  simp only [Nat.mul_one]
  rw [cut_zero,cut1_all]
 have hA:∀ x,appendA false 1 24 (tag 22) s x (.slice b' 0 ws.length ws.length e')=growA 1 24 (tag 22) ws.length ws s x:=fun x=>by
  unfold appendA
  simp only [lenA,e1,Nat.mul_one,Nat.beq_refl,k7]
 have e2:Nat.ble (vs.length+ws.length) vs.length=false:=by
  cases h:Nat.ble (vs.length+ws.length) vs.length with
  | false=>rfl
  | true=>have:=Nat.le_of_ble_eq_true h;omega
 have e3:Nat.ble ((vs.length+ws.length) * 24) limit=true:=Nat.ble_eq_true_of_le (by unfold limit;omega)
 have fin:∀ s':St,s'.n=s.n+1→(∀ c,c<s.n→c≠b→s'.h.get c=s.h.get c)→(∃ z,s'.h.get s.n=some (.cells (vs++ws) z)∧szOf z=1)→TabS s'.h s'.n s.n no (M++M') (.slice s.n 0 (vs.length+ws.length) (vs.length+ws.length) true):=fun s' q1 q2 ⟨z,q3,q4⟩=>by
  refine ⟨vs++ws,true,z,by simp [h1,k1],by simp;omega,by omega,by rw [List.length_append],q3,fun _=>q4,scalars_app h7 k7,fun j j1 j2=>?_⟩
  by_cases ej:j<vs.length
  ·rw [List.getElem_append_left ej,List.getElem_append_left (by omega)]
   exact (h8 j ej (by omega)).move (fun c hc hl=>⟨q2 c hc hl.1,by omega,hl.2⟩) (by omega)
  ·rw [List.getElem_append_right (by omega),List.getElem_append_right (by omega)]
   have:=k8 (j - vs.length) (by rw [List.length_append] at j1;omega) (by rw [List.length_append] at j2;omega)
   simp only [h1] at this ⊢
   exact this.move (fun c hc hl=>⟨q2 c hc (hno c hl.2 hl.1).1,by omega,(hno c hl.2 hl.1).2⟩) (by omega)
 rw [hA]
 cases e with
 | false =>
  refine ⟨.slice s.n 0 (vs.length+ws.length) (vs.length+ws.length) true,s.new (.cells (vs++ws) (1+tag 22)),?_,fin _ rfl (fun c hc _=>get_new_ne _ _ _ (by omega)) ⟨_,get_new_eq _ _ _ rfl (by omega),by kernel_rfl⟩,rfl,fun c hc _=>get_new_ne _ _ _ (by omega),by rw [new_m];omega,by rw [new_m];omega⟩
  unfold growA
  simp only [h5,e2,e3,Nat.mul_one]
  rw [cut_zero,cut1_all]
 | true =>
  refine ⟨.slice s.n 0 (vs.length+ws.length) (vs.length+ws.length) true,(s.kill b).new (.cells (vs++ws) (if 0=0∧sz=1+tag 22 then sz else 1)),?_,fin _ rfl (fun c hc hb=>?_) ⟨_,get_new_eq _ _ _ rfl (by show s.n<_;omega),?_⟩,rfl,fun c hc hb=>?_,?_,?_⟩
  ·unfold growA
   simp only [h5,e2,e3,Nat.mul_one,h6 rfl,Nat.zero_add,true_and,and_self,if_true,List.drop_zero]
  ·rw [get_new_ne _ _ _ (by show c≠s.n;omega),get_kill_ne _ _ _ hb]
  ·split
   ·exact h6 rfl
   ·kernel_rfl
  ·rw [get_new_ne _ _ _ (by show c≠s.n;omega),get_kill_ne _ _ _ hb]
  ·rw [new_m];simp only [St.kill,minN_eq];omega
  ·rw [new_m];simp only [St.kill,minN_eq];omega
theorem QAt.sl {h:Heap} {n b:Nat} {q:List Nat} {v:AV} (a:QAt h n b q v) (h0:q≠[]):Sl (fun x=>x=b) h n 1 (natRows q) v:=by
 obtain ⟨h1,o,c,sz,h2,h3⟩:=a
 have hl:0<q.length:=List.length_pos_iff.mpr h0
 rcases h3 with ⟨rfl,h4⟩ | ⟨_,rfl,h4,h5,h6⟩ | ⟨h4,_⟩
 ·exact ⟨natRows_wide q,.inr ⟨b,o,q.length,false,c,sz,h1,rfl,⟨by rw [natRows_len];omega,fun h=>(by cases h)⟩,by rw [natRows_len],h2,by rw [natRows_len,Nat.mul_one];exact h4⟩⟩
 ·refine ⟨natRows_wide q,.inr ⟨b,o,q.length,true,c,sz,h1,rfl,⟨by rw [natRows_len];omega,fun _=>hl⟩,by rw [natRows_len],h2,?_⟩⟩
  rw [natRows_len,Nat.mul_one]
  have e1:=cut_skip (c.take o) (c.drop o) 0 q.length
  rw [Nat.add_zero,List.length_take,Nat.min_eq_left (by omega),List.take_append_drop] at e1
  have e2:=cut1_all (arr q)
  rw [arr_len] at e2
  rw [e1,h5,cut_zero]
  exact e2
 ·exact absurd h4 h0
end Go.Proofs.Ytbcjojljiochfaa.walk
set_option maxRecDepth 10000
namespace Go.Proofs.Ytbcjojljiochfaa.walk
open Go.Abs Go.Proofs.Ytbcjojljiochfaa.code
def lsz:Nat→Nat
 | 0=>50
 | k+1=>10+4 * (10+lsz k)
def lszp:Nat→Nat
 | 0=>0
 | k+1=>lsz k
def lbd:Nat→Nat
 | 0=>1
 | k+1=>1+4 * lbd k
def lbdp:Nat→Nat
 | 0=>0
 | k+1=>lbd k
theorem lsz_eq (k:Nat):lsz k=10+4 * (10+lszp k):=by cases k<;>rfl
theorem lbd_eq (k:Nat):lbd k=1+4 * lbdp k:=by cases k<;>rfl
def Subs (n:Nat) (M:List (List Nat)):Prop:=∀ g ∈ M,g.Nodup∧∀ x ∈ g,x<n
def ListsAt (k:Nat):Prop:=∀ {N n:Nat} {no:Nat→Prop} {f:List Nat} {v:AV} {s:St} {r:ARes},call Try.prog X N (.fn 24) [v,.int .i64 (n:Int)] s=r→k+3≤N→f.Nodup→(∀ x ∈ f,x<n)→f.length+k=n→n≤4→Sl no s.h s.n 1 (natRows f) v→s.n+2 * lsz k+1000≤far→lbd k≤800 →
  ∃ b M w t,r=.val w t∧New s t (lsz k)∧TabS t.h t.n b (fun x=>(no x∧x<s.n)∨s.n≤x) M w∧s.n≤b∧M.length≤lbd k∧Subs n M
theorem copy_queue {h:Heap} {n a:Nat} {f:List Nat} {w:AV} (hI:f.map Int.ofNat≠[]→IsAt h n (a+1) 1 (tag 3) (intRows (f.map Int.ofNat)) w) (h0:f.map Int.ofNat=[]→∃ sz,w=.slice a 0 0 0 false∧h.get a=some (.cells [] sz)) (ha:a<n):∃ b,(b=a∨b=a+1)∧QAt h n b f w:=by
 by_cases e:f=[]
 ·subst e
  obtain ⟨sz,h1,h2⟩:=h0 rfl
  exact ⟨a,.inl rfl,ha,0,_,_,h2,.inl ⟨h1,rfl⟩⟩
 ·have hne:f.map Int.ofNat≠[]:=fun h=>e (List.map_eq_nil_iff.mp h)
  rcases (hI hne).is with ⟨z,_⟩ | ⟨_,z1,z2,z3⟩
  ·exact absurd (List.map_eq_nil_iff.mp z) hne
  ·have hl:(intRows (f.map Int.ofNat)).length=f.length:=natRows_len f
   rw [hl] at z2
   refine ⟨a+1,.inr rfl,z1,0,_,_,z3,.inr (.inl ⟨e,z2,?_,rfl,by kernel_rfl⟩)⟩
   have:=arr_len f
   rw [Nat.zero_add]
   exact this
theorem lists_step (k:Nat) (ih:∀ j,j+1=k→ListsAt j):ListsAt k:=by
 intro N n no f v s r hr hN hd hf hk hn hR hs hlb
 obtain ⟨N,rfl⟩:∃ m,N=m+1:=⟨N - 1,by omega⟩
 have hff:far=1000000000:=rfl
 have es:=lsz_eq k
 have eb:=lbd_eq k
 obtain ⟨w',t,e,st,b,M,hq⟩:=call_new (n:=N) (args:=[v,.int .i64 (n:Int)]) (s:=s) (k:=lsz k) (Q:=fun w h m=>∃ b M,TabS h m b (fun x=>(no x∧x<s.n)∨s.n≤x) M w∧s.n≤b∧M.length≤lbd k∧Subs n M) Try.func24 rfl (fun u uh un um=>by
  rw [← uh,← un] at hR
  rw [← un]
  have kv:=hR.okA
  have sv:=hR.scal
  obtain ⟨w,hw⟩:∃ w:St,w=u.new (.cells [v] 0):=⟨_,rfl⟩
  have wn:w.n=u.n+1:=by rw [hw];rfl
  have wm:w.m=far:=by rw [hw];exact um
  have wg:∀ c,c<u.n→w.h.get c=u.h.get c:=fun c hc=>by rw [hw,get_new_ne _ _ _ (by omega)]
  have w0:w.h.get u.n=some (.cells [v] 0):=by rw [hw];exact get_new_eq _ _ _ rfl (by omega)
  have T0:TabS w.h w.n u.n (fun x=>(no x∧x<u.n)∨u.n≤x) [f] (.slice u.n 0 1 1 false):=⟨[v],false,0,rfl,by simp,by omega,rfl,w0,fun h=>(by cases h),sv.1,fun j h1 h2=>by
   have:j=0:=by simpa using h1
   subst this
   exact hR.move (fun b hb h=>⟨wg b hb,by omega,.inl ⟨h,hb⟩⟩) (by omega)⟩
  rw [enter24]
  simp (disch:=first|omega|(with_unfolding_all exact rfl)|(simp only[new_n,put_n,new_m];omega)|(refine put_m_le ?_;simp only[new_m];omega)) only [K24,K24r0,K24r1,K24r2,Abs.W,reduceIte,Nat.reduceEqDiff,Nat.reduceAdd,decide_true,decide_false,kLoop_def,Nat.reduceSub,List.cons_append,List.nil_append,List.append_nil,List.length_cons,List.length_nil,Env.find_set,sv.1,sv.2.1,sv.2.2]
  rw [← hw]
  generalize hlp:loopN _ rounds _ _ _ _ _=q1
  obtain ⟨e,L1,s1,rfl,rfl,b,M,v5,f5,hT,hb,hM,hS,hn1,hn2,hs1,hm1,hm2⟩:=loop_of hlp (fun i L t=>∃ b M v5,L.find 0=v∧L.find 1=.int .i64 (n:Int)∧L.find 5=v5∧L.find 6=.int .i64 (i:Nat)∧TabS t.h t.n b (fun x=>(no x∧x<u.n)∨u.n≤x) M v5∧u.n≤b∧M.length≤1+i * lbdp k∧Subs n M∧w.n≤t.n∧t.n≤w.n+i * (10+lszp k)∧(∀ c,c<u.n→t.h.get c=u.h.get c)∧u.n≤t.m∧t.m≤far)
   (fun e L t=>e=.exit 0∧∃ b M v5,L.find 5=v5∧TabS t.h t.n b (fun x=>(no x∧x<u.n)∨u.n≤x) M v5∧u.n≤b∧M.length≤1+n * lbdp k∧Subs n M∧w.n≤t.n∧t.n≤w.n+n * (10+lszp k)∧(∀ c,c<u.n→t.h.get c=u.h.get c)∧u.n≤t.m∧t.m≤far) n (by unfold rounds;omega)
   ⟨u.n,[f],.slice u.n 0 1 1 false,by simp only [find_cons,Env.find_set,reduceIte,Nat.reduceEqDiff],by simp only [find_cons,Env.find_set,reduceIte,Nat.reduceEqDiff],by simp only [find_cons,Env.find_set,reduceIte,Nat.reduceEqDiff],by simp only [find_cons,Env.find_set,reduceIte,Nat.reduceEqDiff];rfl,T0,Nat.le_refl _,by simp,fun g hg=>by rw [List.mem_singleton.mp hg];exact ⟨hd,hf⟩,Nat.le_refl _,by omega,wg,by omega,by omega⟩
   (fun i L t hi ⟨b,M,v5,q0,q1,q5,q6,hT,hb,hM,hS,hn1,hn2,hsm,hm1,hm2⟩=>by
    have b4:=Nat.mul_le_mul_right (lbdp k) (show i≤4 by omega)
    have c4:=Nat.mul_le_mul_right (10+lszp k) (show i≤4 by omega)
    have sb:(i+1) * lbdp k=i * lbdp k+lbdp k:=Nat.succ_mul _ _
    have sc:(i+1) * (10+lszp k)=i * (10+lszp k)+(10+lszp k):=Nat.succ_mul _ _
    by_cases hlt:i<n
    ·have e0:decide ((i:Int)<(n:Int))=true:=decide_eq_true (by omega)
     have hRt:Sl no t.h u.n 1 (natRows f) v:=hR.move (fun b hb h=>⟨hsm b hb,h⟩) (Nat.le_refl _)
     have ho:=has_ok N (by omega) (f.map Int.ofNat) (i:Int) v t (hRt.move (fun _ _ h=>⟨rfl,h⟩) (by omega:u.n≤t.n)).at_ (by rw [List.length_map];omega) (by omega)
     have hmem:((i:Int) ∈ f.map Int.ofNat)↔i ∈ f:=by
      rw [List.mem_map]
      constructor
      ·rintro ⟨x,h1,h2⟩
       have:x=i:=by
        have:(x:Int)=(i:Int):=h2
        omega
       rw [← this];exact h1
      ·exact fun h=>⟨i,h,rfl⟩
     have ad:∀ s,aAdd s .i64 (i:Int) 1=.val (.int .i64 ((i:Int)+1)) s:=fun s=>aAdd_i64 s _ _ (by omega)
     have n1:∀ s (c:Bool),notA s (.bool c)=.val (.bool !c) s:=fun _ _=>rfl
     by_cases him:i ∈ f
     ·have e1:decide ((i:Int) ∈ f.map Int.ofNat)=true:=decide_eq_true (hmem.mpr him)
      rw [e1] at ho
      refine .inl ⟨hlt,_,t,by
       simp (disch:=first|omega|(with_unfolding_all exact rfl)|(simp only[new_n,put_n,new_m];omega)|(refine put_m_le ?_;simp only[new_m];omega)) only [K24l0,K24r3,K24r4,K24r6,Abs.W,reduceIte,Nat.reduceEqDiff,Nat.reduceAdd,decide_true,decide_false,kLoop_def,Nat.reduceSub,List.cons_append,List.nil_append,List.append_nil,List.length_cons,List.length_nil,Env.find_set,q0,q1,q5,q6,e0,ho,n1,ad]
       rfl,b,M,v5,?_,?_,?_,?_,hT,hb,by omega,hS,hn1,by omega,hsm,hm1,hm2⟩
      ·simp only [Env.find_set,q0,reduceIte,Nat.reduceEqDiff]
      ·simp only [Env.find_set,q1,reduceIte,Nat.reduceEqDiff]
      ·simp only [Env.find_set,q5,reduceIte,Nat.reduceEqDiff]
      ·simp only [Env.find_set,reduceIte,Nat.reduceEqDiff];rfl
     ·have e1:decide ((i:Int) ∈ f.map Int.ofNat)=false:=decide_eq_false fun h=>him (hmem.mp h)
      rw [e1] at ho
      -- one is left out, so that the list may grow
      have hk0:0<k:=by
       rcases Nat.eq_zero_or_pos k with h | h
       ·exfalso
        exact him (sub_back (k:=List.range n) hd (fun x hx=>List.mem_range.mpr (hf x hx)) (by rw [List.length_range];omega) (List.mem_range.mpr hlt))
       ·exact h
      obtain ⟨j,rfl⟩:∃ j,k=j+1:=⟨k - 1,by omega⟩
      have ep:lszp (j+1)=lsz j:=rfl
      have eq':lbdp (j+1)=lbd j:=rfl
      rw [ep] at es hn2 sc c4
      rw [eq'] at eb hM sb b4
      have kv5:=hT.okA
      simp (disch:=first|omega|(with_unfolding_all exact rfl)|(simp only[new_n,put_n,new_m];omega)|(refine put_m_le ?_;simp only[new_m];omega)) only [K24l0,K24r3,K24r4,K24r5,K24r6,Abs.W,reduceIte,Nat.reduceEqDiff,Nat.reduceAdd,decide_true,decide_false,kLoop_def,Nat.reduceSub,List.cons_append,List.nil_append,List.append_nil,List.length_cons,List.length_nil,Env.find_set,q0,q1,q5,q6,e0,ho,n1]
      generalize hc:call _ _ _ (.fn 28) _ _=rc
      obtain ⟨v1,t1,rfl,s1,S1,I1,Z1⟩:=copyInts_ex (l:=f.map Int.ofNat) hc (by omega) (hRt.move (fun _ _ h=>⟨rfl,h⟩) (by omega:u.n≤t.n)) (by rw [List.length_map];omega) (by omega)
      have s1n:=s1.n
      have s1l:=s1.le
      have s1m:=s1.m
      have t1b:t.n<t1.n:=by
       by_cases ef:f.map Int.ofNat=[]
       ·obtain ⟨sz,h1,h2⟩:=Z1 ef
        rcases S1.is with ⟨_,z⟩ | ⟨bb,o,cap,e,c,sz,z1,z2,z3,z4,_⟩
        ·rw [h1] at z;cases z
        ·rw [h1] at z4
         injection z4 with z5
         omega
       ·rcases (I1 ef).is with ⟨z,_⟩ | ⟨_,z1,_⟩
        ·exact absurd (List.map_eq_nil_iff.mp z) ef
        ·omega
      obtain ⟨b1,hb1,Q1⟩:=copy_queue I1 Z1 t1b
      obtain ⟨x,hx⟩:∃ x:St,x=t1.new (.cells [.int .i64 (i:Int)] 0):=⟨_,rfl⟩
      have xn:x.n=t1.n+1:=by rw [hx];rfl
      have xm:x.m=t1.m:=by rw [hx];rfl
      have xg:∀ c,c<t1.n→x.h.get c=t1.h.get c:=fun c hc=>by rw [hx,get_new_ne _ _ _ (by omega)]
      have xp:x.h.get t1.n=some (.cells [.int .i64 (i:Int)] 0):=by rw [hx];exact get_new_eq _ _ _ rfl (by omega)
      have bq:=Q1.1
      obtain ⟨v2,t2,e2,Q2,n2,g2,m2,m2'⟩:=(Q1.move (h':=x.h) (n':=x.n) (xg b1 bq) (by omega)).push xp (by omega) (by omega)
      rw [hx] at e2
      simp (disch:=first|omega|(with_unfolding_all exact rfl)|(simp only[new_n,put_n,new_m];omega)|(refine put_m_le ?_;simp only[new_m];omega)) only [Abs.W,reduceIte,Nat.reduceEqDiff,Nat.reduceAdd,decide_true,decide_false,kLoop_def,Nat.reduceSub,List.cons_append,List.nil_append,List.append_nil,List.length_cons,List.length_nil,Env.find_set,e2,q1,q6]
      generalize hc2:call _ _ _ (.fn 24) _ _=rc
      have hnd:(f++[i]).Nodup:=List.nodup_append.mpr ⟨hd,by simp,fun a ha c hc e=>him (by rw [List.mem_singleton] at hc;rw [← hc,← e];exact ha)⟩
      have hlf:∀ y ∈ f++[i],y<n:=fun y hy=>by
       rcases List.mem_append.mp hy with h | h
       ·exact hf y h
       ·rw [List.mem_singleton.mp h];exact hlt
      obtain ⟨b3,M3,w3,t3,rfl,s3,T3,hb3,hM3,hS3⟩:=ih j rfl hc2 (by omega) hnd hlf (by rw [List.length_append,List.length_singleton];omega) hn (Q2.sl (by simp)) (by omega) (by omega)
      have s3n:=s3.n
      have s3l:=s3.le
      have s3m:=s3.m
      have t3t:∀ c,c<t.n→t3.h.get c=t.h.get c:=fun c hc=>(s3.same c (by omega)).trans ((g2 c (by omega) (by omega)).trans ((xg c (by omega)).trans (s1.same c hc)))
      have bt:b<t.n:=by obtain ⟨vs,ee,sz,_,_,h3,_⟩:=hT;exact h3
      have hT3:TabS t3.h t3.n b (fun y=>(no y∧y<u.n)∨u.n≤y) M v5:=hT.move (t3t b bt) (fun c hc h=>⟨t3t c hc,h⟩) (by omega)
      obtain ⟨w4,s4,e4,T4,n4,g4,m4,m4'⟩:=hT3.app T3 (fun y hy hne=>by
       rcases hy with ⟨h1,_⟩ | h1
       ·exact ⟨by omega,.inr (by omega)⟩
       ·exact ⟨by omega,.inr (by omega)⟩) (by omega) (by omega)
      refine .inl ⟨hlt,_,s4,by
       simp (disch:=first|omega|(with_unfolding_all exact rfl)|(simp only[new_n,put_n,new_m];omega)|(refine put_m_le ?_;simp only[new_m];omega)) only [Abs.W,reduceIte,Nat.reduceEqDiff,Nat.reduceAdd,decide_true,decide_false,kLoop_def,Nat.reduceSub,List.cons_append,List.nil_append,List.append_nil,List.length_cons,List.length_nil,Env.find_set,e4,q6,ad]
       rfl,t3.n,M++M3,w4,?_,?_,?_,?_,T4,by omega,by rw [List.length_append,eq'];omega,fun g hg=>?_,by omega,by rw [ep];omega,fun c hc=>?_,by omega,by omega⟩
      ·simp only [Env.find_set,q0,reduceIte,Nat.reduceEqDiff]
      ·simp only [Env.find_set,q1,reduceIte,Nat.reduceEqDiff]
      ·simp only [Env.find_set,reduceIte,Nat.reduceEqDiff]
      ·simp only [Env.find_set,reduceIte,Nat.reduceEqDiff];rfl
      ·rcases List.mem_append.mp hg with h | h
       ·exact hS g h
       ·exact hS3 g h
      ·rw [g4 c (by omega) (by omega),t3t c (by omega)]
       exact hsm c hc
    ·obtain rfl:i=n:=by omega
     have e0:decide ((i:Int)<(i:Int))=false:=by simp
     refine .inr ⟨.exit 0,L.set 11 (.bool false),t,by simp,?_,rfl,b,M,v5,?_,hT,hb,hM,hS,hn1,hn2,hsm,hm1,hm2⟩
     ·simp (disch:=first|omega|(with_unfolding_all exact rfl)|(simp only[new_n,put_n,new_m];omega)|(refine put_m_le ?_;simp only[new_m];omega)) only [K24l0,K24r3,Abs.W,reduceIte,Nat.reduceEqDiff,Nat.reduceAdd,decide_true,decide_false,kLoop_def,Nat.reduceSub,List.cons_append,List.nil_append,List.append_nil,List.length_cons,List.length_nil,Env.find_set,q1,q6,e0]
     ·simp only [Env.find_set,q5,reduceIte,Nat.reduceEqDiff])
  have kv5:=hT.okA
  have b4:=Nat.mul_le_mul_right (lbdp k) hn
  have c4:=Nat.mul_le_mul_right (10+lszp k) hn
  simp (disch:=first|omega|(with_unfolding_all exact rfl)|(simp only[new_n,put_n,new_m];omega)|(refine put_m_le ?_;simp only[new_m];omega)) only [K24r7,res24,Abs.W,reduceIte,Nat.reduceEqDiff,Nat.reduceAdd,decide_true,decide_false,kLoop_def,Nat.reduceSub,List.cons_append,List.nil_append,List.append_nil,List.length_cons,List.length_nil,Env.find_set,f5,kv5]
  exact ⟨_,_,rfl,⟨hs1,by omega,by omega,hm1,hm2⟩,hT.plain,b,M,hT,hb,by omega,hS⟩)
 exact ⟨b,M,w',t,hr.symm.trans e,st,hq⟩
theorem lists_ex:∀ k,ListsAt k
 | 0=>lists_step 0 fun j h=>by omega
 | k+1=>lists_step (k+1) fun j h=>by
  obtain rfl:j=k:=by omega
  exact lists_ex j
end Go.Proofs.Ytbcjojljiochfaa.walk
