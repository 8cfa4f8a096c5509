/- Seals of books. -/
import Derived.Test.YtkoaddhhnijdpaaM1
import Derived.Test.YtkoaddhhnijdpaaM2
import Derived.Test.YtkoaddhhnijdpaaCodes
import Derived.Test.YtkoaddhhnijdpaaProg
import Derived.Tactics
import Derived.Tactics2
import Derived.WalkKit
import Derived.OpenShut
import Derived.Below
import Derived.Lib.Hide
import Derived.KernelRfl
import Derived.Deep.RegionHeld3
import Derived.OwnWalk
import Derived.StillTailTactics
import Derived.Test.YtkoaddhhnijdpaaWalkAll
set_option linter.unusedSimpArgs false
set_option maxHeartbeats 16000000
set_option linter.unusedVariables false
set_option maxRecDepth 10000
namespace Go.Abs
theorem call_put {P:Program} {X:FuncId→List Nat} {n:Nat} {f:FuncId} {args:List AV} {s:St} {fn:Func} {d k:Nat} {Q:AV→Heap→Nat→Prop} (hf:P.funcs[f]? = some fn)
  (h:∀ u:St,u.h=s.h→u.n=s.n→u.m=far→∃ v s',enterA P X (Abs.call P X n) f args u fn=.val v s'∧Stir d u s' k∧Q v s'.h s'.n∧s'.m≤d) (hds:d<s.n) (hd:d≤far) :
  ∃ v t,Abs.call P X (n+1) (.fn f) args s=.val v t∧Stir d s t k∧Q v t.h t.n∧t.m≤d:=by
 obtain ⟨v,s',h1,h2,h3,h4⟩:=h ⟨s.h,s.n,far⟩ rfl rfl rfl
 have hb:Nat.ble s.n s'.m=false:=by
  cases hb:Nat.ble s.n s'.m with
  | false=>rfl
  | true=>have:=Nat.le_of_ble_eq_true hb;omega
 refine ⟨v,⟨s'.h,s'.n,minN s.m s'.m⟩,?_,Stir.draw (s:=s) h2 hd,h3,?_⟩
 ·show callStep P X (Abs.call P X n) (.fn f) args s=_
  unfold callStep
  simp only [hf,h1]
  unfold Abs.settle
  simp only [hb]
  rfl
 ·show minN s.m s'.m≤d
  rw [minN_eq]
  omega
theorem mul31_i64 (s:St) (a:Int) (h:0≤a∧a≤10000):aMul s .i64 a 31=.val (.int .i64 (a * 31)) s:=by
 rw [aMul_def,wrapA_eq]
 congr 2
 exact IntWalk.i64_in _ (by show -9223372036854775808≤a * 31∧a * 31≤9223372036854775807;omega)
end Go.Abs
namespace Go.Proofs.Ytkoaddhhnijdpaa.walk
open Go.Abs Go.Proofs.Ytkoaddhhnijdpaa.code
def pressI (s n:Int):Int:=(s * 31+n) % 9973
def sealI (s:Int) (l:List Int):Int:=l.foldl pressI s
theorem press_range (s n:Int):0≤pressI s n∧pressI s n<9973:=by unfold pressI;omega
theorem seal_range:∀ (l:List Int) (s:Int),0≤s∧s<9973→0≤sealI s l∧sealI s l<9973
 | [],s,h=>h
 | n::l,s,_=>seal_range l (pressI s n) (press_range s n)
theorem press_inj {a b n:Int} (ha:0≤a∧a<9973) (hb:0≤b∧b<9973):pressI a n=pressI b n↔a=b:=by unfold pressI;omega
theorem seal_inj:∀ (l:List Int) {a b:Int},0≤a∧a<9973→0≤b∧b<9973→(sealI a l=sealI b l↔a=b)
 | [],a,b,_,_=>Iff.rfl
 | n::l,a,b,ha,hb=>(seal_inj l (press_range a n) (press_range b n)).trans (press_inj ha hb)
theorem press_other {s n m:Int}:pressI s n=pressI s m↔(m - n) % 9973=0:=by unfold pressI;omega
theorem seal_set:∀ (l:List Int) (i:Nat) (s m:Int),i<l.length→(sealI s l=sealI s (l.set i m)↔(m - l.getD i 0) % 9973=0)
 | [],i,_,_,h=>by simp at h
 | n::l,0,s,m,_=>(seal_inj l (press_range s n) (press_range s m)).trans press_other
 | n::l,i+1,s,m,h=>seal_set l i (pressI s n) m (by simpa using h)
theorem sealI_snoc (s:Int) (l:List Int) (x:Int):sealI s (l++[x])=pressI (sealI s l) x:=by unfold sealI;rw [List.foldl_append];rfl
theorem sealI_app (s:Int) (l m:List Int):sealI s (l++m)=sealI (sealI s l) m:=by unfold sealI;rw [List.foldl_append]
theorem press_tmod (a x:Int) (h:0≤a * 31+x):(a * 31+x).tmod 9973=pressI a x:=by unfold pressI;exact Int.tmod_eq_emod_of_nonneg h
theorem nth_map_int:∀ {l:List Int} {i:Nat} (h:i<l.length),nth (l.map fun x=>AV.int .i64 x) i=.int .i64 l[i]
 | [],_,h=>by simp at h
 | a::r,0,_=>by rw [List.map_cons,nth_cons];rfl
 | a::r,i+1,h=>by
  rw [List.map_cons,nth_cons,if_neg (by omega)]
  exact nth_map_int (l:=r) (i:=i) (by simpa using h)
theorem press_ex {N p q k sz sq:Nat} {a:Int} {e:Bool} {w:AV} (l:List Int) {s:St} {r:ARes} (hr:call Try.prog X N (.fn 41) [.ptr p 0,w,.slice q 0 k k e] s=r) (hN:1≤N)
  (hp:s.h.get p=some (.cells [.int .i64 a] sz)) (hq:s.h.get q=some (.cells (l.map fun x=>AV.int .i64 x) sq)) (hpn:p<s.n) (hqp:q≠p) (hl:l.length=k) (hk:0<k∧k≤1000) (ha:0≤a∧a<9973) (hx:∀ x ∈ l,0≤x∧x≤1000000) (hs:s.n≤far) :
  ∃ t,r=.val (.tup []) t∧Stir p s t 0∧t.h.get p=some (.cells [.int .i64 (sealI a l)] sz)∧t.m≤p:=by
 obtain ⟨n,rfl⟩:∃ n,N=n+1:=⟨N - 1,by omega⟩
 have hf:far=1000000000:=rfl
 obtain ⟨v,t,e1,st,⟨rfl,h2⟩,h3⟩:=call_put (n:=n) (args:=[.ptr p 0,w,.slice q 0 k k e]) (d:=p) (s:=s) (k:=0) (Q:=fun v h _=>v=.tup []∧h.get p=some (.cells [.int .i64 (sealI a l)] sz)) Try.func41 (fun u uh un um=>by
  rw [← uh] at hp hq
  rw [← un] at hpn hs
  rw [enter41]
  simp (disch:=first|omega|(with_unfolding_all exact rfl)|(simp only[new_n,put_n,new_m];omega)|(refine put_m_le ?_;simp only[new_m];omega)) only [res41,K41r0,K41r1,K41r2,K41r3,K41r4,K41,Abs.W,reduceIte,Nat.reduceEqDiff,Nat.reduceAdd,decide_true,decide_false,kLoop_def,Nat.reduceSub,List.cons_append,List.nil_append,List.append_nil,List.length_cons,List.length_nil,Env.find_set]
  generalize hl1:loopN _ rounds _ _ _ _ _=q1
  obtain ⟨e',L1,t1,rfl,rfl,g1,g2,g3,g4,g5,g6⟩:=loop_of hl1 (fun i L' t=>L'.find 0=.ptr p 0∧L'.find 8=.slice q 0 k k e∧L'.find 9=.int .i64 (k:Int)∧L'.find 10=.int .i64 (i:Int)∧t.h.get p=some (.cells [.int .i64 (sealI a (l.take i))] sz)∧t.n=u.n∧(∀ c,c≠p→t.h.get c=u.h.get c)∧p≤t.m∧t.m≤u.m∧(i=0∨t.m≤p))
   (fun e' L' t=>e'=.exit 0∧t.h.get p=some (.cells [.int .i64 (sealI a l)] sz)∧t.n=u.n∧(∀ c,c≠p→t.h.get c=u.h.get c)∧p≤t.m∧t.m≤u.m∧t.m≤p) k (by unfold rounds;omega)
   ⟨by simp only [find_cons,Env.find_set,reduceIte,Nat.reduceEqDiff],by simp only [find_cons,Env.find_set,reduceIte,Nat.reduceEqDiff],by simp only [find_cons,Env.find_set,reduceIte,Nat.reduceEqDiff],by simp only [find_cons,Env.find_set,reduceIte,Nat.reduceEqDiff];rfl,by rw [List.take_zero];exact hp,rfl,fun _ _=>rfl,by omega,Nat.le_refl _,.inl rfl⟩
   (fun i L' t hi ⟨p0,p8,p9,p10,pg,pn,ps,pm,pl,pz⟩=>by
    by_cases hlt:i<k
    ·have e0:decide ((i:Int)<(k:Int))=true:=decide_eq_true (by omega)
     have hil:i<l.length:=by omega
     have ix:∀ s,ixsA 1 s (.slice q 0 k k e) (.int .i64 (i:Int))=.val (.ptr q i) s:=fun s=>by rw [ixs_slice _ _ _ _ _ _ _ _ hlt,Nat.zero_add,Nat.mul_one]
     have nx:=nth_map_int hil
     have gq:=(ps q hqp).trans hq
     obtain ⟨r0,r1⟩:=seal_range (l.take i) a ha
     obtain ⟨x0,x1⟩:=hx l[i] (List.getElem_mem hil)
     have hT:sealI a (l.take (i+1))=pressI (sealI a (l.take i)) l[i]:=by rw [List.take_succ_eq_append_getElem hil,sealI_snoc]
     generalize sealI a (l.take i)=A at *
     generalize l[i]=x at *
     have mu:∀ s,aMul s .i64 A 31=.val (.int .i64 (A * 31)) s:=fun s=>mul31_i64 s A (by omega)
     have ad:∀ s,aAdd s .i64 (A * 31) x=.val (.int .i64 (A * 31+x)) s:=fun s=>aAdd_i64 s _ _ (by omega)
     have rm:∀ s,aRem s .i64 (A * 31+x) 9973=.val (.int .i64 (pressI A x)) s:=fun s=>by rw [aRem_ne s _ _ _ (by decide),press_tmod _ _ (by omega)]
     have ad1:∀ s,aAdd s .i64 (i:Int) 1=.val (.int .i64 ((i:Int)+1)) s:=fun s=>aAdd_i64 s _ _ (by omega)
     refine .inl ⟨hlt,_,t.put p (.cells [.int .i64 (pressI A x)] sz),by
      simp (disch:=first|omega|(with_unfolding_all exact rfl)|(simp only[new_n,put_n,new_m];omega)|(refine put_m_le ?_;simp only[new_m];omega)) only [res41,K41r0,K41r1,K41r2,K41r3,K41r4,K41,K41l0,Abs.W,reduceIte,Nat.reduceEqDiff,Nat.reduceAdd,decide_true,decide_false,kLoop_def,Nat.reduceSub,List.cons_append,List.nil_append,List.append_nil,List.length_cons,List.length_nil,Env.find_set,Nat.zero_add,Nat.add_zero,p0,p8,p9,p10,e0,ix,gq,nx,pg,mu,ad,rm,ad1]
      rfl,?_,?_,?_,?_,?_,pn,fun c hc=>(get_put_ne' _ _ _ _ hc).trans (ps c hc),?_,?_,.inr ?_⟩
     ·simp only [Env.find_set,p0,reduceIte,Nat.reduceEqDiff]
     ·simp only [Env.find_set,p8,reduceIte,Nat.reduceEqDiff]
     ·simp only [Env.find_set,p9,reduceIte,Nat.reduceEqDiff]
     ·simp only [Env.find_set,reduceIte,Nat.reduceEqDiff];rfl
     ·rw [hT];exact get_put_eq _ _ _ _ rfl (by omega)
     ·simp only [St.put,minN_eq];omega
     ·simp only [St.put,minN_eq];omega
     ·simp only [St.put,minN_eq];omega
    ·obtain rfl:i=k:=by omega
     have e0:decide ((i:Int)<(i:Int))=false:=by simp
     rw [← hl,List.take_length] at pg
     refine .inr ⟨.exit 0,L'.set 11 (.bool false),t,by simp,?_,rfl,pg,pn,ps,pm,pl,by omega⟩
     simp (disch:=first|omega|(with_unfolding_all exact rfl)|(simp only[new_n,put_n,new_m];omega)|(refine put_m_le ?_;simp only[new_m];omega)) only [res41,K41r0,K41r1,K41r2,K41r3,K41r4,K41,K41l0,Abs.W,reduceIte,Nat.reduceEqDiff,Nat.reduceAdd,decide_true,decide_false,kLoop_def,Nat.reduceSub,List.cons_append,List.nil_append,List.append_nil,List.length_cons,List.length_nil,Env.find_set,p9,p10,e0])
  simp (disch:=first|omega|(with_unfolding_all exact rfl)|(simp only[new_n,put_n,new_m];omega)|(refine put_m_le ?_;simp only[new_m];omega)) only [res41,K41r0,K41r1,K41r2,K41r3,K41r4,K41,Abs.W,reduceIte,Nat.reduceEqDiff,Nat.reduceAdd,decide_true,decide_false,kLoop_def,Nat.reduceSub,List.cons_append,List.nil_append,List.append_nil,List.length_cons,List.length_nil,Env.find_set]
  exact ⟨_,t1,rfl,⟨fun c _ hcd=>g3 c hcd,by omega,by omega,fun _=>g4,g5⟩,⟨rfl,g1⟩,g6⟩) hpn (by omega)
 exact ⟨t,hr.symm.trans e1,st,h2,h3⟩
def Sale.ints (s:Sale):List Int:=[s.st,s.gd,s.gl,s.gh,s.cl,s.ch]
def Book.nums (b:Book):List Int:=[(b.stalls:Int),(b.goods:Int)]++(b.sales.map Sale.ints).flatten
def numsTo (b:Book) (i:Nat):List Int:=[(b.stalls:Int),(b.goods:Int)]++((b.sales.take i).map Sale.ints).flatten
theorem nums_snoc (b:Book) {i:Nat} (h:i<b.sales.length):numsTo b (i+1)=numsTo b i++b.sales[i].ints:=by
 unfold numsTo
 rw [List.take_succ_eq_append_getElem h,List.map_append,List.flatten_append,List.append_assoc]
 congr 2
theorem nums_all (b:Book):numsTo b b.sales.length=b.nums:=by unfold numsTo;rw [List.take_length];rfl
theorem kFuncE (f:FuncId) (x y:List Arg) (L:Env) (s:St):kFunc f x y L s=.val (.func f (evs x L) (evs y L)) s:=Eq.trans (Eq.refl _) (Eq.refl _)
theorem okA_fn (f:FuncId) (x y:List AV) (s:St):okA (.val (.func f x y) s)=.val (.func f x y) s:=Eq.trans (Eq.refl _) (Eq.refl _)
theorem tell_ex {N p lo sz:Nat} {a:Int} {b:Book} {v:AV} {s:St} {r:ARes} (hr:call Try.prog X N (.fn 40) [.agg (bookV b v),.func 41 [.ptr p 0] []] s=r) (hN:2≤N) (ok:b.Loose) (hB:RowsAt s.h lo 6 (b.sales.map Sale.cells) v) (hlo:lo≤p) (hp:s.h.get p=some (.cells [.int .i64 a] sz)) (hpn:p<s.n) (ha:0≤a∧a<9973) (hs:s.n+4000≤far) :
  ∃ t,r=.val (.tup []) t∧Stir p s t 200∧t.h.get p=some (.cells [.int .i64 (sealI a b.nums)] sz)∧t.m≤p:=by
 obtain ⟨n,rfl⟩:∃ n,N=n+1:=⟨N - 1,by omega⟩
 have hf:far=1000000000:=rfl
 have ok':=ok
 obtain ⟨k0,k1,g0,g1,hl,hok⟩:=ok'
 obtain ⟨v',t,e1,st,⟨rfl,h2⟩,h3⟩:=call_put (n:=n) (args:=[.agg (bookV b v),.func 41 [.ptr p 0] []]) (d:=p) (s:=s) (k:=200) (Q:=fun v h _=>v=.tup []∧h.get p=some (.cells [.int .i64 (sealI a b.nums)] sz)) Try.func40 (fun u uh un um=>by
  rw [← uh] at hp hB
  rw [← un] at hpn hs
  have kv:∀ t,okA (.val v t)=.val v t:=fun t=>okA_ne hB.ne
  have lv:=hB.len
  rw [List.length_map] at lv
  obtain ⟨w,hw⟩:∃ w:St,w=u.new (.cells (bookV b v) (tag 27)):=⟨_,rfl⟩
  have wn:w.n=u.n+1:=by rw [hw];rfl
  have wm:w.m=far:=by rw [hw];exact um
  have wg:∀ c,c<u.n→w.h.get c=u.h.get c:=fun c hc=>by rw [hw,get_new_ne _ _ _ (by omega)]
  have w0:w.h.get u.n=some (.cells (bookV b v) (tag 27)):=by rw [hw];exact get_new_eq _ _ _ rfl (by omega)
  unfold bookV at w0 hw
  rw [enter40]
  unfold bookV
  simp (disch:=first|omega|(with_unfolding_all exact rfl)|(simp only[new_n,put_n,new_m];omega)|(refine put_m_le ?_;simp only[new_m];omega)) only [res40,K40,K40r0,Abs.W,reduceIte,Nat.reduceEqDiff,Nat.reduceAdd,decide_true,decide_false,kLoop_def,Nat.reduceSub,List.cons_append,List.nil_append,List.append_nil,List.length_cons,List.length_nil]
  rw [← hw]
  clear hw
  simp (disch:=first|omega|(with_unfolding_all exact rfl)|(simp only[new_n,put_n,new_m];omega)|(refine put_m_le ?_;simp only[new_m];omega)) only [K40r1,Abs.W,reduceIte,Nat.reduceEqDiff,Nat.reduceAdd,decide_true,decide_false,kLoop_def,Nat.reduceSub,List.cons_append,List.nil_append,List.append_nil,List.length_cons,List.length_nil,Env.find_set,w0,okA_fn,Nat.zero_add]
  generalize hc1:call _ _ _ (.fn 41) _ _=r1
  obtain ⟨t1,rfl,st1,g1',m1'⟩:=press_ex (p:=p) (q:=w.n) (sz:=sz) (sq:=0) [(b.stalls:Int),(b.goods:Int)] hc1 (by omega) ((get_new_ne _ _ _ (by omega)).trans ((wg p hpn).trans hp)) (get_new_eq _ _ _ rfl (by omega)) (by rw [new_n];omega) (by omega) rfl (by omega) ha (fun x hx=>by
   rcases List.mem_cons.mp hx with rfl | hx
   ·omega
   ·rw [List.mem_singleton.mp hx];omega) (by rw [new_n];omega)
  have n1:=st1.n
  have le1:=st1.le
  rw [new_n] at n1 le1
  have s1g:∀ c,c<w.n→c≠p→t1.h.get c=w.h.get c:=fun c hc hcp=>(st1.same c (by rw [new_n];omega) hcp).trans (get_new_ne _ _ _ (by omega))
  have m1:p≤t1.m:=st1.m (by show p≤w.m;omega)
  have x0:=(s1g u.n (by omega) (by omega)).trans w0
  simp (disch:=first|omega|(with_unfolding_all exact rfl)|(simp only[new_n,put_n,new_m];omega)|(refine put_m_le ?_;simp only[new_m];omega)) only [K40r2,Abs.W,reduceIte,Nat.reduceEqDiff,Nat.reduceAdd,decide_true,decide_false,kLoop_def,Nat.reduceSub,List.cons_append,List.nil_append,List.append_nil,List.length_cons,List.length_nil,Env.find_set,x0,kv,lv,okA_fn,Nat.zero_add]
  generalize hl1:loopN _ rounds _ _ _ _ _=q1
  obtain ⟨y,L0,hy,hL0,hl1'⟩:=loop_start hl1
  have ym:y.m≤p∧p≤y.m:=by rw [hy];exact ⟨by first | exact m1' | (simp only [minN_eq];omega),by first | exact m1 | (simp only [minN_eq];omega)⟩
  have yn:y.n=t1.n:=by rw [hy]
  have yh:y.h=t1.h:=by rw [hy]
  clear hy hl1
  obtain ⟨e',L1,t2,rfl,rfl,g4,g5,g6,g7,g8⟩:=loop_of hl1' (fun i L' t=>L'.find 1=.func 41 [.ptr p 0] []∧L'.find 14=v∧L'.find 15=.int .i64 (b.sales.length:Int)∧L'.find 16=.int .i64 (i:Int)∧t.h.get p=some (.cells [.int .i64 (sealI a (numsTo b i))] sz)∧y.n≤t.n∧t.n≤y.n+4 * i∧(∀ c,c<u.n→c≠p→t.h.get c=u.h.get c)∧p≤t.m∧t.m≤p)
   (fun e' L' t=>e'=.exit 0∧t.h.get p=some (.cells [.int .i64 (sealI a b.nums)] sz)∧(y.n≤t.n∧t.n≤y.n+160)∧(∀ c,c<u.n→c≠p→t.h.get c=u.h.get c)∧p≤t.m∧t.m≤p) b.sales.length (by unfold rounds;omega)
   ⟨by rw [hL0];simp only [find_cons,Env.find_set,reduceIte,Nat.reduceEqDiff],by rw [hL0];simp only [find_cons,Env.find_set,reduceIte,Nat.reduceEqDiff],by rw [hL0];simp only [find_cons,Env.find_set,reduceIte,Nat.reduceEqDiff],by rw [hL0];simp only [find_cons,Env.find_set,reduceIte,Nat.reduceEqDiff];rfl,by rw [yh];exact g1',Nat.le_refl _,by omega,fun c hc hcp=>by rw [yh];exact (s1g c (by omega) hcp).trans (wg c hc),ym.2,ym.1⟩
   (fun i L' t hi ⟨q1,q14,q15,q16,pg,pn,pl,ps,pm,pz⟩=>by
    by_cases hlt:i<b.sales.length
    ·have e0:decide ((i:Int)<(b.sales.length:Int))=true:=decide_eq_true (by omega)
     obtain ⟨pb,o,cs,cz,r1,r2,r3,r4⟩:=(hB.grow (h':=t.h) (n':=lo) (fun c hc=>ps c (by omega) (by omega)) (Nat.le_refl _)).at_ i (by simpa using hlt)
     rw [List.getElem_map] at r4
     obtain ⟨s0,s1,d0,d1,a0,a1,a2,a3,c0,c1,c2,c3⟩:=hok _ (List.getElem_mem hlt)
     have hS:=sealI_app a (numsTo b i) b.sales[i].ints
     rw [← nums_snoc b hlt] at hS
     generalize hM:b.sales[i]=M at *
     unfold Sale.cells at r4
     have sr:0≤sealI a (numsTo b i)∧sealI a (numsTo b i)<9973:=seal_range _ _ ha
     have ad1:∀ s,aAdd s .i64 (i:Int) 1=.val (.int .i64 ((i:Int)+1)) s:=fun s=>aAdd_i64 s _ _ (by omega)
     have ov:over 0 ([.int .i64 M.st,.int .i64 M.gd,.int .i64 M.gl,.int .i64 M.gh,.int .i64 M.cl,.int .i64 M.ch]:List AV) [.int .i64 0,.int .i64 0,.int .i64 0,.int .i64 0,.int .i64 0,.int .i64 0]=some [.int .i64 M.st,.int .i64 M.gd,.int .i64 M.gl,.int .i64 M.gh,.int .i64 M.cl,.int .i64 M.ch]:=rfl
     obtain ⟨x,hx⟩:∃ x:St,x=(t.new (.cells [.int .i64 0,.int .i64 0,.int .i64 0,.int .i64 0,.int .i64 0,.int .i64 0] (tag 37))).put t.n (.cells [.int .i64 M.st,.int .i64 M.gd,.int .i64 M.gl,.int .i64 M.gh,.int .i64 M.cl,.int .i64 M.ch] (tag 37)):=⟨_,rfl⟩
     have xn:x.n=t.n+1:=by rw [hx];rfl
     have xg:∀ c,c<t.n→x.h.get c=t.h.get c:=fun c hc=>by rw [hx,get_put_ne' _ _ _ _ (by omega),get_new_ne _ _ _ (by omega)]
     have xt:x.h.get t.n=some (.cells [.int .i64 M.st,.int .i64 M.gd,.int .i64 M.gl,.int .i64 M.gh,.int .i64 M.cl,.int .i64 M.ch] (tag 37)):=by rw [hx];exact get_put_eq _ _ _ _ rfl (by omega)
     have xm:p≤x.m∧x.m≤p:=by rw [hx];simp only [St.put,minN_eq,new_m];omega
     suffices hgo:∃ L1 t9,K40l0 (call Try.prog X n) ⟨40,none,Try.f40.ntmps,X 40⟩ L' [] t=.done .norm L1 [] t9∧(L1.find 1=.func 41 [.ptr p 0] []∧L1.find 14=v∧L1.find 15=.int .i64 (b.sales.length:Int)∧L1.find 16=.int .i64 ((i+1:Nat):Int)∧t9.h.get p=some (.cells [.int .i64 (sealI a (numsTo b (i+1)))] sz)∧y.n≤t9.n∧t9.n≤y.n+4 * (i+1)∧(∀ c,c<u.n→c≠p→t9.h.get c=u.h.get c)∧p≤t9.m∧t9.m≤p) from by
      obtain ⟨L9,t9,z1,z2⟩:=hgo
      exact .inl ⟨hlt,L9,t9,z1,z2⟩
     simp (disch:=first|omega|(with_unfolding_all exact rfl)|(simp only[new_n,put_n,new_m];omega)|(refine put_m_le ?_;simp only[new_m];omega)) only [res40,K40r0,K40r1,K40r2,K40r3,K40r4,K40r5,K40r6,K40,K40l0,Abs.W,reduceIte,Nat.reduceEqDiff,Nat.reduceAdd,decide_true,decide_false,kLoop_def,Nat.reduceSub,List.cons_append,List.nil_append,List.append_nil,List.length_cons,List.length_nil,Env.find_set,Nat.zero_add,Nat.add_zero,q1,q14,q15,q16,e0,r2,r3,r4,okA_fn,ov]
     rw [← hx]
     generalize hc2:call _ _ _ (.fn 41) _ _=r2'
     obtain ⟨t3,rfl,st3,g3',m3'⟩:=press_ex (p:=p) (q:=x.n) (sz:=sz) (sq:=0) M.ints hc2 (by omega) ((get_new_ne _ _ _ (by omega)).trans ((xg p (by omega)).trans pg)) (get_new_eq _ _ _ rfl (by omega)) (by rw [new_n];omega) (by omega) rfl (by omega) sr (fun x hx=>by
      unfold Sale.ints at hx
      simp only [List.mem_cons,List.not_mem_nil,or_false] at hx
      rcases hx with rfl | rfl | rfl | rfl | rfl | rfl<;>omega) (by rw [new_n];omega)
     have n3:=st3.n
     have le3:=st3.le
     rw [new_n] at n3 le3
     have m3:p≤t3.m:=st3.m (by show p≤x.m;omega)
     simp (disch:=first|omega|(with_unfolding_all exact rfl)|(simp only[new_n,put_n,new_m];omega)|(refine put_m_le ?_;simp only[new_m];omega)) only [res40,K40r0,K40r1,K40r2,K40r3,K40r4,K40r5,K40r6,K40,Abs.W,reduceIte,Nat.reduceEqDiff,Nat.reduceAdd,decide_true,decide_false,kLoop_def,Nat.reduceSub,List.cons_append,List.nil_append,List.append_nil,List.length_cons,List.length_nil,Env.find_set,q16,ad1,Nat.zero_add]
     refine ⟨_,_,rfl,?_,?_,?_,?_,?_,?_,?_,?_,?_,?_⟩
     ·simp only [Env.find_set,q1,reduceIte,Nat.reduceEqDiff]
     ·simp only [Env.find_set,q14,reduceIte,Nat.reduceEqDiff]
     ·simp only [Env.find_set,q15,reduceIte,Nat.reduceEqDiff]
     ·simp only [Env.find_set,reduceIte,Nat.reduceEqDiff];rfl
     ·rw [hS];exact g3'
     ·omega
     ·omega
     ·exact fun c hc hcp=>(st3.same c (by rw [new_n];omega) hcp).trans ((get_new_ne _ _ _ (by omega)).trans ((xg c (by omega)).trans (ps c hc hcp)))
     ·exact m3
     ·exact m3'
    ·obtain rfl:i=b.sales.length:=by omega
     have e0:decide ((b.sales.length:Int)<(b.sales.length:Int))=false:=by simp
     rw [nums_all] at pg
     refine .inr ⟨.exit 0,L'.set 17 (.bool false),t,by simp,?_,rfl,pg,⟨pn,by omega⟩,ps,pm,pz⟩
     simp (disch:=first|omega|(with_unfolding_all exact rfl)|(simp only[new_n,put_n,new_m];omega)|(refine put_m_le ?_;simp only[new_m];omega)) only [res40,K40r0,K40r1,K40r2,K40r3,K40r4,K40r5,K40r6,K40,K40l0,Abs.W,reduceIte,Nat.reduceEqDiff,Nat.reduceAdd,decide_true,decide_false,kLoop_def,Nat.reduceSub,List.cons_append,List.nil_append,List.append_nil,List.length_cons,List.length_nil,Env.find_set,q15,q16,e0])
  simp (disch:=first|omega|(with_unfolding_all exact rfl)|(simp only[new_n,put_n,new_m];omega)|(refine put_m_le ?_;simp only[new_m];omega)) only [res40,K40r0,K40r1,K40r2,K40r3,K40r4,K40r5,K40r6,K40,Abs.W,reduceIte,Nat.reduceEqDiff,Nat.reduceAdd,decide_true,decide_false,kLoop_def,Nat.reduceSub,List.cons_append,List.nil_append,List.append_nil,List.length_cons,List.length_nil,Env.find_set]
  exact ⟨_,t2,rfl,⟨fun c hc hcd=>g6 c hc hcd,by omega,by omega,fun _=>g7,by omega⟩,⟨rfl,g4⟩,g8⟩) hpn (by omega)
 exact ⟨t,hr.symm.trans e1,st,h2,h3⟩
theorem sealOf_ok {N:Nat} (hN:3≤N) {b:Book} (ok:b.Loose) {v:AV} {s:St} (hB:RowsAt s.h s.n 6 (b.sales.map Sale.cells) v) (hs:s.n+5000≤far) :
  call Try.prog X N (.fn 23) [.agg (bookV b v)] s=.val (.int .i64 (sealI 7 b.nums)) s:=by
 obtain ⟨n,rfl⟩:∃ n,N=n+1:=⟨N - 1,by omega⟩
 refine call_plain' Try.func23 (fun u uh un um=>?_) rfl
 have hff:far=1000000000:=rfl
 rw [← uh,← un] at hB
 have kv:∀ t,okA (.val v t)=.val v t:=fun t=>okA_ne hB.ne
 have scB:scalars (bookV b v)=true:=by
  have hv:=scal_ln (hB.len u)
  show scalars [v]=true
  unfold scalars
  rw [hv]
  rfl
 obtain ⟨w,hw⟩:∃ w:St,w=u.new (.cells (bookV b v) (tag 27)):=⟨_,rfl⟩
 have wn:w.n=u.n+1:=by rw [hw];rfl
 have wm:w.m=far:=by rw [hw];exact um
 have wg:∀ c,c<u.n→w.h.get c=u.h.get c:=fun c hc=>by rw [hw,get_new_ne _ _ _ (by omega)]
 have w0:w.h.get u.n=some (.cells (bookV b v) (tag 27)):=by rw [hw];exact get_new_eq _ _ _ rfl (by omega)
 unfold bookV at w0 hw scB
 rw [enter23]
 unfold bookV
 simp (disch:=first|omega|(with_unfolding_all exact rfl)|(simp only[new_n,put_n,new_m];omega)|(refine put_m_le ?_;simp only[new_m];omega)) only [res23,K23,K23r0,Abs.W,reduceIte,Nat.reduceEqDiff,Nat.reduceAdd,decide_true,decide_false,kLoop_def,Nat.reduceSub,List.cons_append,List.nil_append,List.append_nil,List.length_cons,List.length_nil,scB]
 rw [← hw]
 clear hw
 simp (disch:=first|omega|(with_unfolding_all exact rfl)|(simp only[new_n,put_n,new_m];omega)|(refine put_m_le ?_;simp only[new_m];omega)) only [K23r1,Abs.W,reduceIte,Nat.reduceEqDiff,Nat.reduceAdd,decide_true,decide_false,kLoop_def,Nat.reduceSub,List.cons_append,List.nil_append,List.append_nil,List.length_cons,List.length_nil,Env.find_set,Nat.zero_add]
 obtain ⟨x,hx⟩:∃ x:St,x=(w.new (.cells [.int .i64 0] (tag 83))).put w.n (.cells [.int .i64 7] (tag 83)):=⟨_,rfl⟩
 rw [← hx]
 have xn:x.n=w.n+1:=by rw [hx];rfl
 have xg:∀ c,c<w.n→x.h.get c=w.h.get c:=fun c hc=>by rw [hx,get_put_ne' _ _ _ _ (by omega),get_new_ne _ _ _ (by omega)]
 have xt:x.h.get w.n=some (.cells [.int .i64 7] (tag 83)):=by rw [hx];exact get_put_eq _ _ _ _ rfl (by omega)
 have xm:w.n≤x.m:=by rw [hx];simp only [St.put,minN_eq,new_m];omega
 clear hx
 have x0:=(xg u.n (by omega)).trans w0
 simp (disch:=first|omega|(with_unfolding_all exact rfl)|(simp only[new_n,put_n,new_m];omega)|(refine put_m_le ?_;simp only[new_m];omega)) only [K23r2,Abs.W,reduceIte,Nat.reduceEqDiff,Nat.reduceAdd,decide_true,decide_false,kLoop_def,Nat.reduceSub,List.cons_append,List.nil_append,List.append_nil,List.length_cons,List.length_nil,Env.find_set,x0,kv,scB,kFuncE,okA_fn,Nat.zero_add]
 generalize hc1:call _ _ _ (.fn 40) _ _=r1
 obtain ⟨t,rfl,st,g1,m1⟩:=tell_ex (p:=w.n) (lo:=u.n) (a:=7) hc1 (by omega) ok (hB.grow (fun c hc=>(xg c (by omega)).trans (wg c hc)) (Nat.le_refl _)) (by omega) xt (by omega) (by omega) (by omega)
 have tm:=st.m (by omega)
 simp (disch:=first|omega|(with_unfolding_all exact rfl)|(simp only[new_n,put_n,new_m];omega)|(refine put_m_le ?_;simp only[new_m];omega)) only [K23r3,Abs.W,reduceIte,Nat.reduceEqDiff,Nat.reduceAdd,decide_true,decide_false,kLoop_def,Nat.reduceSub,List.cons_append,List.nil_append,List.append_nil,List.length_cons,List.length_nil,Env.find_set,g1,Nat.zero_add]
 refine ⟨_,rfl,?_⟩
 first | omega | (simp only [minN_eq];omega)
theorem leave_two {P:Program} (a b:Nat) (L:Env) (s:St):leaveA P [.tmp a,.tmp b] L [] s=.val (.tup [L.find a,L.find b]) s:=rfl
theorem Seal_ok {N:Nat} (hN:8≤N) {b:Book} (ok:b.Loose) {v:AV} {s:St} (hB:RowsAt s.h s.n 6 (b.sales.map Sale.cells) v) (hs:s.n+6000≤far) :
  call Try.prog X N (.fn 11) [.agg (bookV b v)] s=.val (.tup [.int .i64 (if b.err=0 then sealI 7 b.nums else 0),.int .i64 b.err]) s:=by
 obtain ⟨n,rfl⟩:∃ n,N=n+1:=⟨N - 1,by omega⟩
 refine call_plain' Try.func11 (fun u uh un um=>?_) rfl
 have hff:far=1000000000:=rfl
 rw [← uh,← un] at hB
 have kv:∀ t,okA (.val v t)=.val v t:=fun t=>okA_ne hB.ne
 have scB:scalars (bookV b v)=true:=by
  have hv:=scal_ln (hB.len u)
  show scalars [v]=true
  unfold scalars
  rw [hv]
  rfl
 obtain ⟨w,hw⟩:∃ w:St,w=u.new (.cells (bookV b v) (tag 27)):=⟨_,rfl⟩
 have wn:w.n=u.n+1:=by rw [hw];rfl
 have wm:w.m=far:=by rw [hw];exact um
 have wg:∀ c,c<u.n→w.h.get c=u.h.get c:=fun c hc=>by rw [hw,get_new_ne _ _ _ (by omega)]
 have w0:w.h.get u.n=some (.cells (bookV b v) (tag 27)):=by rw [hw];exact get_new_eq _ _ _ rfl (by omega)
 have hR:=hB.grow wg (by omega:u.n≤w.n)
 have hck:=check_err n (by omega) b ok v w hR (by omega)
 have hsl:=sealOf_ok (N:=n) (by omega) ok hR (by omega)
 unfold bookV at w0 hw scB hck hsl
 rw [enter11]
 unfold bookV
 simp (disch:=first|omega|(with_unfolding_all exact rfl)|(simp only[new_n,put_n,new_m];omega)|(refine put_m_le ?_;simp only[new_m];omega)) only [res11,K11,K11r0,Abs.W,reduceIte,Nat.reduceEqDiff,Nat.reduceAdd,decide_true,decide_false,kLoop_def,Nat.reduceSub,List.cons_append,List.nil_append,List.append_nil,List.length_cons,List.length_nil,scB]
 rw [← hw]
 clear hw
 rcases b.err_or with h | h
 ·rw [if_pos h]
  rw [h] at hck ⊢
  have z0:decide ((0:Int)=0)=true:=rfl
  simp (disch:=first|omega|(with_unfolding_all exact rfl)|(simp only[new_n,put_n,new_m];omega)|(refine put_m_le ?_;simp only[new_m];omega)) only [res11,K11r0,K11r1,K11r2,K11r3,K11r4,K11,Abs.W,reduceIte,Nat.reduceEqDiff,Nat.reduceAdd,decide_true,decide_false,kLoop_def,Nat.reduceSub,List.cons_append,List.nil_append,List.append_nil,List.length_cons,List.length_nil,Env.find_set,w0,kv,hck,hsl,z0,leave_two,Nat.zero_add]
  exact ⟨_,rfl,by first | omega | (simp only [minN_eq];omega)⟩
 ·rw [if_neg (by omega)]
  rw [h] at hck ⊢
  have z0:decide ((5:Int)=0)=false:=rfl
  simp (disch:=first|omega|(with_unfolding_all exact rfl)|(simp only[new_n,put_n,new_m];omega)|(refine put_m_le ?_;simp only[new_m];omega)) only [res11,K11r0,K11r1,K11r2,K11r3,K11r4,K11,Abs.W,reduceIte,Nat.reduceEqDiff,Nat.reduceAdd,decide_true,decide_false,kLoop_def,Nat.reduceSub,List.cons_append,List.nil_append,List.append_nil,List.length_cons,List.length_nil,Env.find_set,w0,kv,hck,z0,leave_two,Nat.zero_add]
  exact ⟨_,rfl,by first | omega | (simp only [minN_eq];omega)⟩
end Go.Proofs.Ytkoaddhhnijdpaa.walk
set_option maxRecDepth 10000
namespace Go.Abs
theorem flat_set {α:Type} (x:α):∀ {rows:List (List α)} {w i j:Nat},(∀ r ∈ rows,r.length=w)→(hi:i<rows.length)→j<w→rows.flatten.set (i * w+j) x=(rows.set i (rows[i].set j x)).flatten
 | [],_,_,_,_,hi,_=>by simp at hi
 | a::r,w,0,j,h,hi,hj=>by
  have ha:=h a (List.mem_cons_self ..)
  rw [List.flatten_cons,Nat.zero_mul,Nat.zero_add,List.set_append_left _ _ (by omega)]
  rfl
 | a::r,w,i+1,j,h,hi,hj=>by
  have ha:=h a (List.mem_cons_self ..)
  have hm:(i+1) * w=i * w+w:=Nat.succ_mul i w
  have ih:=flat_set x (rows:=r) (w:=w) (i:=i) (j:=j) (fun r hr=>h r (List.mem_cons_of_mem _ hr)) (by simpa using hi) hj
  rw [List.flatten_cons,List.set_append_right _ _ (by omega),show (i+1) * w+j - a.length=i * w+j by omega,ih]
  rfl
theorem flat_at {α:Type}:∀ {rows:List (List α)} {w i j:Nat},(∀ r ∈ rows,r.length=w)→(hi:i<rows.length)→j<w→rows.flatten[i * w+j]? = rows[i][j]?
 | [],_,_,_,_,hi,_=>by simp at hi
 | a::r,w,0,j,h,hi,hj=>by
  have ha:=h a (List.mem_cons_self ..)
  rw [List.flatten_cons,Nat.zero_mul,Nat.zero_add,List.getElem?_append_left (by omega)]
  rfl
 | a::r,w,i+1,j,h,hi,hj=>by
  have ha:=h a (List.mem_cons_self ..)
  have hm:(i+1) * w=i * w+w:=Nat.succ_mul i w
  have ih:=flat_at (rows:=r) (w:=w) (i:=i) (j:=j) (fun r hr=>h r (List.mem_cons_of_mem _ hr)) (by simpa using hi) hj
  rw [List.flatten_cons,List.getElem?_append_right (by omega),show (i+1) * w+j - a.length=i * w+j by omega,ih]
  rfl
theorem nth_of:∀ {c:List AV} {i:Nat} {v:AV},c[i]? = some v→nth c i=v
 | [],_,_,h=>by simp at h
 | a::r,0,v,h=>by rw [nth_cons];simpa using h
 | a::r,i+1,v,h=>by rw [nth_cons,if_neg (by omega)];exact nth_of (c:=r) (i:=i) (by simpa using h)
theorem over_one:∀ {c:List AV} {i:Nat} (x:AV),i<c.length→over i [x] c=some (c.set i x)
 | [],_,_,h=>by simp at h
 | a::r,0,x,_=>by cases r<;>rfl
 | a::r,i+1,x,h=>by
  rw [over_cons]
  have ih:=over_one (c:=r) (i:=i) x (by simpa using h)
  first | (rw [ih];rfl) | (rw [if_neg (by omega),show i+1 - 1=i by omega,ih];rfl)
theorem call_same {P:Program} {X:FuncId→List Nat} {n:Nat} {f:FuncId} {args:List AV} {s:St} {fn:Func} {v:AV} (hf:P.funcs[f]? = some fn) (hk:keepAll=true)
  (h:∀ u:St,u.h=s.h→u.n=s.n→u.m=far→enterA P X (Abs.call P X n) f args u fn=.val v u) (hs:s.n≤far):Abs.call P X (n+1) (.fn f) args s=.val v s:=by
 have h1:=h ⟨s.h,s.n,far⟩ rfl rfl rfl
 have hb:Nat.ble s.n far=true:=Nat.ble_eq_true_of_le hs
 show callStep P X (Abs.call P X n) (.fn f) args s=_
 unfold callStep
 simp only [hf,h1]
 unfold Abs.settle
 cases hp:plain v with
 | true =>
  simp only [hb,hp]
  rfl
 | false =>
  simp only [hb,hp,hk]
  rfl
theorem Own.move {h h':Heap} {lo lo' n n' w tg:Nat} {rows:List (List AV)} {v:AV} (r:Own h lo n w tg rows v) (hh:∀ b,lo≤b→b<n→h'.get b=h.get b) (hl:lo'≤lo) (hn:n≤n'):Own h' lo' n' w tg rows v:=by
 refine ⟨r.wide,?_⟩
 rcases r.is with ⟨h1,h2 | ⟨b,h0,h3,h4,h5⟩⟩ | ⟨h1,b,h0,h3,h4,h5⟩
 ·exact .inl ⟨h1,.inl h2⟩
 ·exact .inl ⟨h1,.inr ⟨b,by omega,by omega,h4,by rw [hh b h0 h3];exact h5⟩⟩
 ·exact .inr ⟨h1,b,by omega,by omega,h4,by rw [hh b h0 h3];exact h5⟩
theorem Own.none {h h':Heap} {lo lo' n n' w tg:Nat} {rows:List (List AV)} {v:AV} (r:Own h lo n w tg rows v) (hp:plain v=true):Own h' lo' n' w tg rows v:=by
 rcases r.is with ⟨h1,h2 | ⟨b,_,_,h4,_⟩⟩ | ⟨_,b,_,_,h4,_⟩
 ·subst h1;subst h2;exact ⟨fun x hx=>(by cases hx),.inl ⟨rfl,.inl rfl⟩⟩
 ·subst h4;cases hp
 ·subst h4;cases hp
end Go.Abs
namespace Go.Proofs.Ytkoaddhhnijdpaa.walk
open Go.Abs Go.Proofs.Ytkoaddhhnijdpaa.code
theorem sale_scalars (l:List Sale):∀ r ∈ l.map Sale.cells,scalars r=true:=by
 intro r hr
 obtain ⟨f,_,rfl⟩:=List.mem_map.mp hr
 rfl
theorem sale_wide (l:List Sale):∀ r ∈ l.map Sale.cells,r.length=6:=by
 intro r hr
 obtain ⟨f,_,rfl⟩:=List.mem_map.mp hr
 rfl
theorem ints_wide (l:List Sale):∀ r ∈ l.map Sale.ints,r.length=6:=by
 intro r hr
 obtain ⟨f,_,rfl⟩:=List.mem_map.mp hr
 rfl
theorem CopyBook_ex {N:Nat} {b:Book} {v:AV} {s:St} {r:ARes} (hr:call Try.prog X N (.fn 7) [.agg (bookV b v)] s=r) (hN:1≤N) (hv:Seq s.h s.n 6 (b.sales.map Sale.cells) v) (hl:b.sales.length≤1000) (hs:s.n+100≤far) :
  ∃ v' t,r=.val (.agg (bookV b v')) t∧New s t 10∧Own t.h s.n t.n 6 (tag 37) (b.sales.map Sale.cells) v':=by
 obtain ⟨n,rfl⟩:∃ n,N=n+1:=⟨N - 1,by omega⟩
 have hf:far=1000000000:=rfl
 obtain ⟨w',t,e,st,v',rfl,hq⟩:=call_new' (n:=n) (args:=[.agg (bookV b v)]) (s:=s) (k:=10) (Q:=fun w' h m=>∃ v',w'=.agg (bookV b v')∧Own h s.n m 6 (tag 37) (b.sales.map Sale.cells) v') Try.func7 rfl (fun u uh un um=>by
  rw [← uh,← un] at hv
  rw [← un]
  obtain ⟨kv,qv,yv⟩:=hv.scalar
  have scB:scalars (bookV b v)=true:=by show scalars [v]=true;rw [yv];rfl
  obtain ⟨w,hw⟩:∃ w:St,w=(u.new (.cells (bookV b v) (tag 27))).new (.cells [.int .i64 0,.int .i64 0,.nilslice] (tag 27)):=⟨_,rfl⟩
  have wn:w.n=u.n+2:=by rw [hw];rfl
  have wm:w.m=far:=by rw [hw];exact um
  have wg:∀ c,c<u.n→w.h.get c=u.h.get c:=fun c hc=>by rw [hw,get_new_ne _ _ _ (by rw [new_n];omega),get_new_ne _ _ _ (by omega)]
  have w0:w.h.get u.n=some (.cells (bookV b v) (tag 27)):=by rw [hw,get_new_ne _ _ _ (by rw [new_n];omega)];exact get_new_eq _ _ _ rfl (by omega)
  have w1:w.h.get (u.n+1)=some (.cells [.int .i64 0,.int .i64 0,.nilslice] (tag 27)):=by rw [hw];exact get_new_eq _ _ _ rfl (by rw [new_n];omega)
  obtain ⟨x,hx⟩:∃ x:St,x=w.new (.cells [] 0):=⟨_,rfl⟩
  have xn:x.n=w.n+1:=by rw [hx];rfl
  have xm:x.m=far:=by rw [hx];exact wm
  have xg:∀ c,c<w.n→x.h.get c=w.h.get c:=fun c hc=>by rw [hx,get_new_ne _ _ _ (by omega)]
  obtain ⟨a1,s1,e1,own1,ln1,le1,same1,m1,mm1⟩:=append_copy (bytes:=48) (tg:=tag 37) (p:=w.n) (hv.grow (h':=x.h) (n':=x.n) (fun c hc=>(xg c (by omega)).trans (wg c hc)) (by omega)) (by rw [hx];exact get_new_eq _ _ _ rfl (by omega)) (by omega) (sale_scalars b.sales) (by rw [List.length_map];omega) (by omega)
  obtain ⟨p1,q1,z1⟩:=own1.seq.scalar
  have y0:=(same1 u.n (by omega)).trans ((xg u.n (by omega)).trans w0)
  have y1:=(same1 (u.n+1) (by omega)).trans ((xg (u.n+1) (by omega)).trans w1)
  have z1':scalars [a1]=true:=by rw [z1];rfl
  have mw:=m1 w.n (Nat.le_refl _) (by omega)
  have sh3:shapeT Try.prog 27=some (some 3):=by kernel_rfl
  have w0':=w0
  unfold bookV at w0 hw scB y0
  rw [hx] at e1
  rw [enter7]
  unfold bookV
  simp (disch:=first|omega|(with_unfolding_all exact rfl)|(simp only[new_n,put_n,new_m];omega)|(refine put_m_le ?_;simp only[new_m];omega)) only [res7,K7,K7r0,Abs.W,reduceIte,Nat.reduceEqDiff,Nat.reduceAdd,decide_true,decide_false,kLoop_def,Nat.reduceSub,List.cons_append,List.nil_append,List.append_nil,List.length_cons,List.length_nil,scB]
  rw [← hw]
  clear hw
  simp (disch:=first|omega|(with_unfolding_all exact rfl)|(simp only[new_n,put_n,new_m];omega)|(refine put_m_le ?_;simp only[new_m];omega)) only [K7r1,Abs.W,reduceIte,Nat.reduceEqDiff,Nat.reduceAdd,decide_true,decide_false,kLoop_def,Nat.reduceSub,List.cons_append,List.nil_append,List.append_nil,List.length_cons,List.length_nil,Env.find_set,w0,kv,e1,p1,y0,z1',q1,Nat.zero_add]
  have scA:scalars [AV.int .i64 b.stalls,.int .i64 b.goods,a1]=true:=by show scalars [a1]=true;exact z1'
  simp (disch:=first|omega|(with_unfolding_all exact rfl)|(simp only[new_n,put_n,new_m];omega)|(refine put_m_le ?_;simp only[new_m];omega)) only [K7r2,Abs.W,reduceIte,Nat.reduceEqDiff,Nat.reduceAdd,decide_true,decide_false,kLoop_def,Nat.reduceSub,List.cons_append,List.nil_append,List.append_nil,List.length_cons,List.length_nil,Env.find_set,new_n,y0,y1,scA,z1',p1,Nat.zero_add]
  refine ⟨.agg (bookV b a1),_,leave_cell _ _ _ _ sh3 ?_,⟨fun c hc=>?_,by simp only [put_n];omega,by simp only [put_n];omega,?_,?_⟩,⟨a1,rfl,?_⟩,fun hp=>?_⟩
  ·simp only [Env.find_set,find_cons,reduceIte,Nat.reduceEqDiff]
   rw [load_ptr,get_put_eq _ _ _ _ rfl (by omega),loadO_cells,partS_some]
   rfl
  ·rw [get_put_ne' _ _ _ _ (by omega),get_put_ne' _ _ _ _ (by omega)]
   exact (same1 c (by omega)).trans ((xg c (by omega)).trans (wg c hc))
  ·simp only [St.put,minN_eq];omega
  ·simp only [St.put,minN_eq];omega
  ·exact own1.move (fun c hc1 hc2=>by rw [get_put_ne' _ _ _ _ (by omega),get_put_ne' _ _ _ _ (by omega)]) (by omega) (Nat.le_refl _)
  ·have hp:(match plain a1 with | true=>plains [] | false=>false)=true:=hp
   have ha:plain a1=true:=by
    cases h:plain a1 with
    | true=>rfl
    | false=>rw [h] at hp;cases hp
   exact ⟨a1,rfl,own1.none ha⟩)
 exact ⟨v',t,hr.symm.trans e,st,hq⟩
theorem numberAt_ok {N:Nat} (hN:1≤N) (p o w:Nat) (hw:w<4) (s:St) (hs:s.n≤far) :
  call Try.prog X N (.fn 8) [.ptr p o,.int .i64 (w:Int)] s=.val (.ptr p (o+2+w)) s:=by
 obtain ⟨n,rfl⟩:∃ n,N=n+1:=⟨N - 1,by omega⟩
 refine call_same Try.func8 rfl (fun u uh un um=>?_) hs
 rw [enter8]
 have t0:decide ((0:Int)=0)=true:=rfl
 have t1:decide ((1:Int)=0)=false:=rfl
 have t2:decide ((1:Int)=1)=true:=rfl
 have t3:decide ((2:Int)=0)=false:=rfl
 have t4:decide ((2:Int)=1)=false:=rfl
 have t5:decide ((2:Int)=2)=true:=rfl
 have t6:decide ((3:Int)=0)=false:=rfl
 have t7:decide ((3:Int)=1)=false:=rfl
 have t8:decide ((3:Int)=2)=false:=rfl
 rcases (by omega:w=0∨w=1∨w=2∨w=3) with rfl | rfl | rfl | rfl
 ·show finA _ _ (K8 _ _ (paramsEnv 0 [.ptr p o,.int .i64 0] .nil) [] u)=_
  simp (disch:=first|omega|(with_unfolding_all exact rfl)|(simp only[new_n,put_n,new_m];omega)|(refine put_m_le ?_;simp only[new_m];omega)) only [res8,K8r0,K8r1,K8r2,K8r3,K8r4,K8r5,K8r6,K8r7,K8r8,K8,Abs.W,reduceIte,Nat.reduceEqDiff,Nat.reduceAdd,decide_true,decide_false,kLoop_def,Nat.reduceSub,List.cons_append,List.nil_append,List.append_nil,List.length_cons,List.length_nil,Env.find_set,t0,Nat.add_zero]
 ·show finA _ _ (K8 _ _ (paramsEnv 0 [.ptr p o,.int .i64 1] .nil) [] u)=_
  simp (disch:=first|omega|(with_unfolding_all exact rfl)|(simp only[new_n,put_n,new_m];omega)|(refine put_m_le ?_;simp only[new_m];omega)) only [res8,K8r0,K8r1,K8r2,K8r3,K8r4,K8r5,K8r6,K8r7,K8r8,K8,Abs.W,reduceIte,Nat.reduceEqDiff,Nat.reduceAdd,decide_true,decide_false,kLoop_def,Nat.reduceSub,List.cons_append,List.nil_append,List.append_nil,List.length_cons,List.length_nil,Env.find_set,t1,t2]
 ·show finA _ _ (K8 _ _ (paramsEnv 0 [.ptr p o,.int .i64 2] .nil) [] u)=_
  simp (disch:=first|omega|(with_unfolding_all exact rfl)|(simp only[new_n,put_n,new_m];omega)|(refine put_m_le ?_;simp only[new_m];omega)) only [res8,K8r0,K8r1,K8r2,K8r3,K8r4,K8r5,K8r6,K8r7,K8r8,K8,Abs.W,reduceIte,Nat.reduceEqDiff,Nat.reduceAdd,decide_true,decide_false,kLoop_def,Nat.reduceSub,List.cons_append,List.nil_append,List.append_nil,List.length_cons,List.length_nil,Env.find_set,t3,t4,t5,Nat.add_zero,Nat.add_assoc]
 ·show finA _ _ (K8 _ _ (paramsEnv 0 [.ptr p o,.int .i64 3] .nil) [] u)=_
  simp (disch:=first|omega|(with_unfolding_all exact rfl)|(simp only[new_n,put_n,new_m];omega)|(refine put_m_le ?_;simp only[new_m];omega)) only [res8,K8r0,K8r1,K8r2,K8r3,K8r4,K8r5,K8r6,K8r7,K8r8,K8,Abs.W,reduceIte,Nat.reduceEqDiff,Nat.reduceAdd,decide_true,decide_false,kLoop_def,Nat.reduceSub,List.cons_append,List.nil_append,List.append_nil,List.length_cons,List.length_nil,Env.find_set,t6,t7,t8,Nat.add_assoc]
def Sale.num (s:Sale):Nat→Int
 | 0=>s.gl
 | 1=>s.gh
 | 2=>s.cl
 | _=>s.ch
def Sale.setN (s:Sale) (x:Int):Nat→Sale
 | 0=>{ s with gl:=x }
 | 1=>{ s with gh:=x }
 | 2=>{ s with cl:=x }
 | _=>{ s with ch:=x }
theorem Sale.setN_cells (s:Sale) (x:Int) {w:Nat} (hw:w<4):(s.setN x w).cells=s.cells.set (2+w) (.int .i64 x):=by
 rcases (by omega:w=0∨w=1∨w=2∨w=3) with rfl | rfl | rfl | rfl<;>rfl
theorem Sale.setN_ints (s:Sale) (x:Int) {w:Nat} (hw:w<4):(s.setN x w).ints=s.ints.set (2+w) x:=by
 rcases (by omega:w=0∨w=1∨w=2∨w=3) with rfl | rfl | rfl | rfl<;>rfl
theorem Sale.num_cells (s:Sale) {w:Nat} (hw:w<4):s.cells[2+w]? = some (.int .i64 (s.num w)):=by
 rcases (by omega:w=0∨w=1∨w=2∨w=3) with rfl | rfl | rfl | rfl<;>rfl
theorem Sale.num_ints (s:Sale) {w:Nat} (hw:w<4):s.ints[2+w]? = some (s.num w):=by
 rcases (by omega:w=0∨w=1∨w=2∨w=3) with rfl | rfl | rfl | rfl<;>rfl
theorem Sale.num_range {k g:Nat} {s:Sale} (h:s.Ok k g) {w:Nat} (hw:w<4):0≤s.num w∧s.num w≤5000:=by
 obtain ⟨s0,s1,d0,d1,g0,g1,g2,c0,c1,c2⟩:=h
 rcases (by omega:w=0∨w=1∨w=2∨w=3) with rfl | rfl | rfl | rfl<;>simp only [Sale.num]<;>omega
theorem Sale.setN_loose {k g:Nat} {s:Sale} (h:s.Ok k g) {w:Nat} (hw:w<4) {x:Int} (hx:0≤x∧x≤100000):(s.setN x w).Loose k g:=by
 obtain ⟨⟨s0,s1,d0,d1,g0,g1,g2,g3,c0,c1,c2,c3⟩,_⟩:=h.loose
 obtain ⟨x0,x1⟩:=hx
 rcases (by omega:w=0∨w=1∨w=2∨w=3) with rfl | rfl | rfl | rfl
 ·exact ⟨s0,s1,d0,d1,x0,x1,g2,g3,c0,c1,c2,c3⟩
 ·exact ⟨s0,s1,d0,d1,g0,g1,x0,x1,c0,c1,c2,c3⟩
 ·exact ⟨s0,s1,d0,d1,g0,g1,g2,g3,x0,x1,c2,c3⟩
 ·exact ⟨s0,s1,d0,d1,g0,g1,g2,g3,c0,c1,x0,x1⟩
def Book.setN (b:Book) (i w:Nat) (x:Int) (hi:i<b.sales.length):Book:={ b with sales:=b.sales.set i (b.sales[i].setN x w) }
theorem Book.setN_loose {b:Book} (h:b.Ok) {i w:Nat} (hi:i<b.sales.length) (hw:w<4) {x:Int} (hx:0≤x∧x≤100000):(b.setN i w x hi).Loose:=by
 refine ⟨h.k0,h.k1,h.g0,h.g1,by show (b.sales.set i _).length≤40;rw [List.length_set];exact h.l,fun s hs=>?_⟩
 rcases List.mem_or_eq_of_mem_set hs with hs | rfl
 ·exact (h.ok s hs).loose.1
 ·exact Sale.setN_loose (h.ok _ (List.getElem_mem hi)) hw hx
theorem Book.setN_rows (b:Book) {i w:Nat} (x:Int) (hi:i<b.sales.length) (hw:w<4):(b.sales.map Sale.cells).flatten.set (i * 6+(2+w)) (.int .i64 x)=((b.setN i w x hi).sales.map Sale.cells).flatten:=by
 rw [flat_set _ (sale_wide _) (by rw [List.length_map];exact hi) (by omega)]
 show _=((b.sales.set i _).map _).flatten
 rw [List.map_set,Sale.setN_cells _ _ hw,List.getElem_map]
theorem Book.setN_nums (b:Book) {i w:Nat} (x:Int) (hi:i<b.sales.length) (hw:w<4):(b.setN i w x hi).nums=b.nums.set (2+(i * 6+(2+w))) x:=by
 unfold Book.nums
 rw [List.set_append_right _ _ (by simp),show 2+(i * 6+(2+w)) - [(b.stalls:Int),(b.goods:Int)].length=i * 6+(2+w) by simp,flat_set _ (ints_wide _) (by rw [List.length_map];exact hi) (by omega)]
 show _++((b.sales.set i _).map _).flatten=_
 rw [List.map_set,Sale.setN_ints _ _ hw,List.getElem_map]
 rfl
theorem Book.num_cells (b:Book) {i w:Nat} (hi:i<b.sales.length) (hw:w<4):nth (b.sales.map Sale.cells).flatten (i * 6+(2+w))=.int .i64 (b.sales[i].num w):=by
 refine nth_of ?_
 rw [flat_at (sale_wide _) (by rw [List.length_map];exact hi) (by omega),List.getElem_map]
 exact Sale.num_cells _ hw
theorem Book.num_nums (b:Book) {i w:Nat} (hi:i<b.sales.length) (hw:w<4):b.nums[2+(i * 6+(2+w))]? = some (b.sales[i].num w):=by
 unfold Book.nums
 rw [List.getElem?_append_right (by simp),show 2+(i * 6+(2+w)) - [(b.stalls:Int),(b.goods:Int)].length=i * 6+(2+w) by simp,flat_at (ints_wide _) (by rw [List.length_map];exact hi) (by omega),List.getElem_map]
 exact Sale.num_ints _ hw
theorem Book.setN_seal (b:Book) {i w:Nat} (x:Int) (hi:i<b.sales.length) (hw:w<4):sealI 7 b.nums=sealI 7 (b.setN i w x hi).nums↔(x - b.sales[i].num w) % 9973=0:=by
 have h:=b.num_nums hi hw
 have hlt:2+(i * 6+(2+w))<b.nums.length:=by
  by_cases hlt:2+(i * 6+(2+w))<b.nums.length
  ·exact hlt
  ·rw [List.getElem?_eq_none (by omega)] at h
   cases h
 rw [b.setN_nums x hi hw,seal_set _ _ _ _ hlt,List.getD_eq_getElem?_getD,h]
 rfl
end Go.Proofs.Ytkoaddhhnijdpaa.walk
set_option maxRecDepth 10000
namespace Go.Proofs.Ytkoaddhhnijdpaa.walk
open Go.Abs Go.Proofs.Ytkoaddhhnijdpaa.code
theorem kEqlE (c:Cmp) (neg:Bool) (x y:Arg) (L:Env) (s:St):kEql c neg x y L s=eqlA c neg s (x.ev L) (y.ev L):=Eq.trans (Eq.refl _) (Eq.refl _)
theorem eql_bools (a b:Bool) (s:St):eqlA .bool false s (.bool a) (.bool b)=.val (.bool (decide (a=b))) s:=by cases a<;>cases b<;>rfl
theorem extE0 (a b:AV) (s:St):extA 0 s (.tup [a,b])=.val a s:=Eq.trans (Eq.refl _) (Eq.refl _)
theorem extE1 (a b:AV) (s:St):extA 1 s (.tup [a,b])=.val b s:=Eq.trans (Eq.refl _) (Eq.refl _)
theorem okA_tup2 (a b:Int) (s:St):okA (.val (.tup [.int .i64 a,.int .i64 b]) s)=.val (.tup [.int .i64 a,.int .i64 b]) s:=Eq.trans (Eq.refl _) (Eq.refl _)
theorem tmod_zero (a:Int):a.tmod 9973=0↔a % 9973=0:=by rw [← Int.dvd_iff_tmod_eq_zero,← Int.dvd_iff_emod_eq_zero]
noncomputable def seaTail:K:=kSeq (kSeq (kRegion K3r11 [76]) (kCond (.tmp 76) (kSeq (kRegion K3r12 [2]) kRet) kSkip)) (kSeq (kRegion K3r13 [2]) kRet)
theorem sea_tail (cl:CallF) (cx:Ctx) (kA:∀ s,cl (.fn 6) [] s=.val (.bool true) s) {L:Env} {s:St} {x y err was xn:Int} {bq o sz:Nat} {c:List AV} {r:R} (hr:seaTail cl cx L [] s=r) (q6:L.find 6=.ptr bq o) (q7:L.find 7=.int .i64 was) (q8:L.find 8=.int .i64 x) (q9:L.find 9=.int .i64 0) (q10:L.find 10=.int .i64 y) (q11:L.find 11=.int .i64 err)
  (hg:s.h.get bq=some (.cells c sz)) (hn:nth c o=.int .i64 xn) (hx:0≤x∧x<9973) (herr:err=0∨err=5) (hw:0≤was∧was≤1000000) (hxn:0≤xn∧xn≤1000000) (hiff:err=0→(x=y↔(xn - was) % 9973=0)) :
  ∃ L1 s1,r=.done .ret L1 [] s1∧L1.find 2=.bool true:=by
 subst hr
 have z0:decide ((0:Int)=0)=true:=rfl
 have z1:decide ((5:Int)=0)=false:=rfl
 have z2:decide ((5:Int)=5)=true:=rfl
 have z3:decide (x<0)=false:=decide_eq_false (by omega)
 have z4:decide ((9973:Int)≤x)=false:=decide_eq_false (by omega)
 have sb:∀ s,aSub s .i64 xn was=.val (.int .i64 (xn - was)) s:=fun s=>aSub_i64 s _ _ (by omega)
 have rm:∀ s,aRem s .i64 (xn - was) 9973=.val (.int .i64 ((xn - was).tmod 9973)) s:=fun s=>aRem_ne s _ _ _ (by decide)
 have gt:∀ s:St,s.h.get bq=some (.cells c sz)→okA (loadA none s (.ptr bq o))=.val (.int .i64 xn) s:=fun s hs=>by rw [load_ptr,hs,loadO_cells,partS_one,hn];rfl
 have u11s17:=fun cl L s=>congrFun (congrFun (congrFun K3r11s17.eq_1 cl) L) s
 have u11s16:=fun cl L s=>congrFun (congrFun (congrFun K3r11s16.eq_1 cl) L) s
 have u11s13:=fun cl L s=>congrFun (congrFun (congrFun K3r11s13.eq_1 cl) L) s
 have u11s12:=fun cl L s=>congrFun (congrFun (congrFun K3r11s12.eq_1 cl) L) s
 have u11s9:=fun cl L s=>congrFun (congrFun (congrFun K3r11s9.eq_1 cl) L) s
 have u11s8:=fun cl L s=>congrFun (congrFun (congrFun K3r11s8.eq_1 cl) L) s
 have u11s7:=fun cl L s=>congrFun (congrFun (congrFun K3r11s7.eq_1 cl) L) s
 have u11s6:=fun cl L s=>congrFun (congrFun (congrFun K3r11s6.eq_1 cl) L) s
 have u11s5:=fun cl L s=>congrFun (congrFun (congrFun K3r11s5.eq_1 cl) L) s
 have u11s4:=fun cl L s=>congrFun (congrFun (congrFun K3r11s4.eq_1 cl) L) s
 have u13s17:=fun cl L s=>congrFun (congrFun (congrFun K3r13s17.eq_1 cl) L) s
 have u13s14:=fun cl L s=>congrFun (congrFun (congrFun K3r13s14.eq_1 cl) L) s
 have u13s13:=fun cl L s=>congrFun (congrFun (congrFun K3r13s13.eq_1 cl) L) s
 have u13s12:=fun cl L s=>congrFun (congrFun (congrFun K3r13s12.eq_1 cl) L) s
 have u13s11:=fun cl L s=>congrFun (congrFun (congrFun K3r13s11.eq_1 cl) L) s
 have u13s10:=fun cl L s=>congrFun (congrFun (congrFun K3r13s10.eq_1 cl) L) s
 have u13s9:=fun cl L s=>congrFun (congrFun (congrFun K3r13s9.eq_1 cl) L) s
 have u13s8:=fun cl L s=>congrFun (congrFun (congrFun K3r13s8.eq_1 cl) L) s
 have u13s7:=fun cl L s=>congrFun (congrFun (congrFun K3r13s7.eq_1 cl) L) s
 have u13s6:=fun cl L s=>congrFun (congrFun (congrFun K3r13s6.eq_1 cl) L) s
 have u13s5:=fun cl L s=>congrFun (congrFun (congrFun K3r13s5.eq_1 cl) L) s
 have u13s4:=fun cl L s=>congrFun (congrFun (congrFun K3r13s4.eq_1 cl) L) s
 unfold seaTail
 rcases herr with rfl | rfl
 ·have hb:decide (decide (x=y)=decide ((xn - was).tmod 9973=0))=true:=by
   rw [decide_eq_true_eq,decide_eq_decide,tmod_zero]
   exact hiff rfl
  simp (config:={ maxSteps:=3000000 }) (disch:=first|omega|(with_unfolding_all exact rfl)|(simp only[new_n,put_n,new_m];omega)|(refine put_m_le ?_;simp only[new_m];omega)) only [K3r11,u11s17,u11s16,u11s13,u11s12,u11s9,u11s8,u11s7,u11s6,u11s5,u11s4,Abs.W,reduceIte,Nat.reduceEqDiff,Nat.reduceAdd,decide_true,decide_false,kLoop_def,Nat.reduceSub,List.cons_append,List.nil_append,List.append_nil,List.length_cons,List.length_nil,Env.find_set,q6,q7,q8,q9,q10,q11,z0,z1,z2,z3,z4]
  simp (config:={ maxSteps:=3000000 }) (disch:=first|omega|(with_unfolding_all exact rfl)|(simp only[new_n,put_n,new_m];omega)|(refine put_m_le ?_;simp only[new_m];omega)) only [K3r13,u13s17,u13s14,u13s13,u13s12,u13s11,u13s10,u13s9,u13s8,u13s7,u13s6,u13s5,u13s4,Abs.W,reduceIte,Nat.reduceEqDiff,Nat.reduceAdd,decide_true,decide_false,kLoop_def,Nat.reduceSub,List.cons_append,List.nil_append,List.append_nil,List.length_cons,List.length_nil,Env.find_set,q6,q7,q8,q9,q10,q11,z0,z1,z2,hg,hn,sb,rm,kEqlE,eql_bools,hb,kA]
  exact ⟨_,_,rfl,by simp only [Env.find_set,reduceIte,Nat.reduceEqDiff]⟩
 ·simp (config:={ maxSteps:=3000000 }) (disch:=first|omega|(with_unfolding_all exact rfl)|(simp only[new_n,put_n,new_m];omega)|(refine put_m_le ?_;simp only[new_m];omega)) only [K3r11,u11s17,u11s16,u11s13,u11s12,u11s9,u11s8,u11s7,u11s6,u11s5,u11s4,Abs.W,reduceIte,Nat.reduceEqDiff,Nat.reduceAdd,decide_true,decide_false,kLoop_def,Nat.reduceSub,List.cons_append,List.nil_append,List.append_nil,List.length_cons,List.length_nil,Env.find_set,q6,q7,q8,q9,q10,q11,z0,z1,z2,z3,z4]
  simp (config:={ maxSteps:=3000000 }) (disch:=first|omega|(with_unfolding_all exact rfl)|(simp only[new_n,put_n,new_m];omega)|(refine put_m_le ?_;simp only[new_m];omega)) only [K3r13,u13s17,u13s14,u13s13,u13s12,u13s11,u13s10,u13s9,u13s8,u13s7,u13s6,u13s5,u13s4,Abs.W,reduceIte,Nat.reduceEqDiff,Nat.reduceAdd,decide_true,decide_false,kLoop_def,Nat.reduceSub,List.cons_append,List.nil_append,List.append_nil,List.length_cons,List.length_nil,Env.find_set,q6,q7,q8,q9,q10,q11,z0,z1,z2,kA]
  exact ⟨_,_,rfl,by simp only [Env.find_set,reduceIte,Nat.reduceEqDiff]⟩
noncomputable def seaRest:K:=(kSeq (kRegion K3r2 [4]) (kSeq (kSeq (kRegion K3r3 [19]) (kCond (.tmp 19) (kSeq (kRegion K3r4 [2]) kRet) kSkip)) (kSeq (kRegion K3r5 [5]) (kSeq (kRegionD K3r6 [6]) (kSeq (kRegion K3r7 [7]) (kSeq (kRegion K3r8 []) (kSeq (kRegion K3r9 [8,9]) (kSeq (kRegion K3r10 [10,11]) seaTail))))))))
theorem sea_body (n:Nat) (hn:13≤n) (cx:Ctx) (s:St) (d:Nat) (hd:Die d s.h) (hdn:d<s.n) (hs:s.n+9000000≤far) (hm:s.m=far) :
  ∃ s',finA Try.prog Try.f3 (seaRest (knows 6 (call Try.prog X n)) cx (.cons 3 (.ptr d 0) .nil) [] s)=.val (.bool true) s':=by
 have hf:far=1000000000:=rfl
 have knB:∀ args s,knows 6 (call Try.prog X n) (.fn 5) args s=call Try.prog X n (.fn 5) args s:=fun _ _=>rfl
 have knC:∀ args s,knows 6 (call Try.prog X n) (.fn 9) args s=call Try.prog X n (.fn 9) args s:=fun _ _=>rfl
 have knO:∀ args s,knows 6 (call Try.prog X n) (.fn 10) args s=call Try.prog X n (.fn 10) args s:=fun _ _=>rfl
 have knY:∀ args s,knows 6 (call Try.prog X n) (.fn 7) args s=call Try.prog X n (.fn 7) args s:=fun _ _=>rfl
 have knN:∀ args s,knows 6 (call Try.prog X n) (.fn 8) args s=call Try.prog X n (.fn 8) args s:=fun _ _=>rfl
 have knS:∀ args s,knows 6 (call Try.prog X n) (.fn 11) args s=call Try.prog X n (.fn 11) args s:=fun _ _=>rfl
 have knA:∀ s,knows 6 (call Try.prog X n) (.fn 6) [] s=.val (.bool true) s:=fun _=>rfl
 unfold seaRest
 simp (disch:=first|omega|(with_unfolding_all exact rfl)|(simp only[new_n,put_n,new_m];omega)|(refine put_m_le ?_;simp only[new_m];omega)) only [K3r2,Abs.W,reduceIte,Nat.reduceEqDiff,Nat.reduceAdd,decide_true,decide_false,kLoop_def,Nat.reduceSub,List.cons_append,List.nil_append,List.append_nil,List.length_cons,List.length_nil,Env.find_set,knB]
 generalize hc1:call _ _ _ (.fn 5) _ _=r1
 obtain ⟨b,v,bl,t1,rfl,st1,d1,ok,hlen,hbl,hI⟩:=BookOf_ex (k:=3) (g:=3) (n:=8) hc1 (by omega) hd hdn (by omega) (by omega) (by omega) (by omega)
 have n1:=st1.n
 have k1:=st1.le
 have scB:scalars (bookV b v)=true:=by show scalars [v]=true;exact hI.scal.1
 have kv:∀ t,okA (.val v t)=.val v t:=hI.okA
 have lv:∀ s,lenSlA s v=.val (.int .i64 (b.sales.length:Int)) s:=fun s=>by have:=hI.rows.at_.len s;rw [List.length_map] at this;exact this
 unfold bookV at scB
 simp (disch:=first|omega|(with_unfolding_all exact rfl)|(simp only[new_n,put_n,new_m];omega)|(refine put_m_le ?_;simp only[new_m];omega)) only [Abs.W,reduceIte,Nat.reduceEqDiff,Nat.reduceAdd,decide_true,decide_false,kLoop_def,Nat.reduceSub,List.cons_append,List.nil_append,List.append_nil,List.length_cons,List.length_nil,Env.find_set,scB,Nat.zero_add]
 obtain ⟨y,hy⟩:∃ y:St,y=(t1.new (.cells [.int .i64 0,.int .i64 0,.nilslice] (tag 27))).put t1.n (.cells (bookV b v) (tag 27)):=⟨_,rfl⟩
 have yn:y.n=t1.n+1:=by rw [hy];rfl
 have yg:∀ c,c<t1.n→y.h.get c=t1.h.get c:=fun c hc=>by rw [hy,get_put_ne' _ _ _ _ (by omega),get_new_ne _ _ _ (by omega)]
 have y4:y.h.get t1.n=some (.cells (bookV b v) (tag 27)):=by rw [hy];exact get_put_eq _ _ _ _ rfl (by omega)
 have dy:Die d y.h:=Die.keep d1 (yg d (by omega))
 have hIy:=hI.mono (h':=y.h) (n':=y.n) (fun h=>yg bl h) (by omega)
 have hy':=hy
 unfold bookV at hy'
 rw [← hy']
 clear hy hy'
 have y4':=y4
 unfold bookV at y4'
 by_cases h0:b.sales.length=0
 ·have e0:decide ((b.sales.length:Int)=0)=true:=decide_eq_true (by omega)
  simp (disch:=first|omega|(with_unfolding_all exact rfl)|(simp only[new_n,put_n,new_m];omega)|(refine put_m_le ?_;simp only[new_m];omega)) only [K3r3,K3r4,res3,Abs.W,reduceIte,Nat.reduceEqDiff,Nat.reduceAdd,decide_true,decide_false,kLoop_def,Nat.reduceSub,List.cons_append,List.nil_append,List.append_nil,List.length_cons,List.length_nil,Env.find_set,y4',kv,lv,e0,knA,Nat.zero_add]
  exact ⟨_,rfl⟩
 have e0:decide ((b.sales.length:Int)=0)=false:=decide_eq_false (by omega)
 simp (disch:=first|omega|(with_unfolding_all exact rfl)|(simp only[new_n,put_n,new_m];omega)|(refine put_m_le ?_;simp only[new_m];omega)) only [K3r3,K3r5,Abs.W,reduceIte,Nat.reduceEqDiff,Nat.reduceAdd,decide_true,decide_false,kLoop_def,Nat.reduceSub,List.cons_append,List.nil_append,List.append_nil,List.length_cons,List.length_nil,Env.find_set,y4',kv,lv,e0,scB,knY,Nat.zero_add]
 generalize hc2:call _ _ _ (.fn 7) _ _=r2
 obtain ⟨v',t2,rfl,st2,own⟩:=CopyBook_ex (b:=b) (v:=v) hc2 (by omega) hIy.rows.seq (by omega) (by omega)
 have n2:=st2.n
 have k2:=st2.le
 have hne:b.sales.map Sale.cells≠[]:=fun h=>h0 (by rw [← List.length_map (f:=Sale.cells),h];rfl)
 obtain ⟨bq,hq0,hq1,rfl,hq2⟩:∃ bq,y.n≤bq∧bq<t2.n∧v'=.slice bq 0 b.sales.length b.sales.length true∧t2.h.get bq=some (.cells (b.sales.map Sale.cells).flatten (6+tag 37)):=by
  rcases own.is with ⟨h1,_⟩ | ⟨_,bq,h1,h2,h3,h4⟩
  ·exact absurd h1 hne
  ·rw [List.length_map] at h3
   exact ⟨bq,h1,h2,h3,h4⟩
 clear own
 unfold bookV
 simp (disch:=first|omega|(with_unfolding_all exact rfl)|(simp only[new_n,put_n,new_m];omega)|(refine put_m_le ?_;simp only[new_m];omega)) only [Abs.W,reduceIte,Nat.reduceEqDiff,Nat.reduceAdd,decide_true,decide_false,kLoop_def,Nat.reduceSub,List.cons_append,List.nil_append,List.append_nil,List.length_cons,List.length_nil,Env.find_set,Nat.zero_add]
 obtain ⟨x,hx⟩:∃ x:St,x=(t2.new (.cells [.int .i64 0,.int .i64 0,.nilslice] (tag 27))).put t2.n (.cells [.int .i64 b.stalls,.int .i64 b.goods,.slice bq 0 b.sales.length b.sales.length true] (tag 27)):=⟨_,rfl⟩
 rw [← hx]
 have xn:x.n=t2.n+1:=by rw [hx];rfl
 have xg:∀ c,c<t2.n→x.h.get c=t2.h.get c:=fun c hc=>by rw [hx,get_put_ne' _ _ _ _ (by omega),get_new_ne _ _ _ (by omega)]
 have x5:x.h.get t2.n=some (.cells [.int .i64 b.stalls,.int .i64 b.goods,.slice bq 0 b.sales.length b.sales.length true] (tag 27)):=by rw [hx];exact get_put_eq _ _ _ _ rfl (by omega)
 clear hx
 have xy:∀ c,c<y.n→x.h.get c=y.h.get c:=fun c hc=>(xg c (by omega)).trans (st2.same c hc)
 have x4:=(xy t1.n (by omega)).trans y4
 have x4':=(xy t1.n (by omega)).trans y4'
 have xq:=(xg bq hq1).trans hq2
 have dx:Die d x.h:=Die.keep dy (xy d (by omega))
 simp (disch:=first|omega|(with_unfolding_all exact rfl)|(simp only[new_n,put_n,new_m];omega)|(refine put_m_le ?_;simp only[new_m];omega)) only [K3r6,thenT_turn,Abs.W,reduceIte,Nat.reduceEqDiff,Nat.reduceAdd,decide_true,decide_false,kLoop_def,Nat.reduceSub,List.cons_append,List.nil_append,List.append_nil,List.length_cons,List.length_nil,Env.find_set,x5,x4',kv,lv,knC,Nat.zero_add]
 generalize hc3:call _ _ _ (.fn 9) _ _=r3
 obtain ⟨i',t3,rfl,st3,d3,i0,i1⟩:=cast_ex hc3 (by omega) dx (by show d<x.n;omega) (by show x.n+100≤far;omega) (by omega)
 obtain ⟨i,rfl⟩:∃ n:Nat,i'=n:=⟨i'.toNat,by omega⟩
 have hi:i<b.sales.length:=by omega
 have n3:x.n≤t3.n:=st3.n
 have k3:t3.n≤x.n+0:=st3.le
 have g3:∀ c,c<x.n→c≠d→t3.h.get c=x.h.get c:=fun c hc hcd=>st3.same c hc hcd
 have ix:∀ s,ixsA 6 s (.slice bq 0 b.sales.length b.sales.length true) (.int .i64 (i:Int))=.val (.ptr bq (i * 6)) s:=fun s=>by rw [ixs_slice _ _ _ _ _ _ _ _ hi,Nat.zero_add]
 simp (disch:=first|omega|(with_unfolding_all exact rfl)|(simp only[new_n,put_n,new_m];omega)|(refine put_m_le ?_;simp only[new_m];omega)) only [thenT_turn,Abs.W,reduceIte,Nat.reduceEqDiff,Nat.reduceAdd,decide_true,decide_false,kLoop_def,Nat.reduceSub,List.cons_append,List.nil_append,List.append_nil,List.length_cons,List.length_nil,Env.find_set,ix,knC,Nat.zero_add]
 generalize hc4:call _ _ _ (.fn 9) _ _=r4
 obtain ⟨w',t4,rfl,st4,d4,w0,w1⟩:=cast_ex hc4 (by omega) d3 (by show d<t3.n;omega) (by show t3.n+100≤far;omega) (by omega)
 obtain ⟨w,rfl⟩:∃ n:Nat,w'=n:=⟨w'.toNat,by omega⟩
 have hw:w<4:=by omega
 have n4:t3.n≤t4.n:=st4.n
 have k4:t4.n≤t3.n+0:=st4.le
 have g4:∀ c,c<x.n→c≠d→t4.h.get c=t3.h.get c:=fun c hc hcd=>st4.same c (by show c<t3.n;omega) hcd
 have hNo:∀ s:St,s.n≤far→call Try.prog X n (.fn 8) [.ptr bq (i * 6),.int .i64 (w:Int)] s=.val (.ptr bq (i * 6+2+w)) s:=fun s hs=>numberAt_ok (by omega) bq (i * 6) w hw s hs
 simp (disch:=first|omega|(with_unfolding_all exact rfl)|(simp only[new_n,put_n,new_m];omega)|(refine put_m_le ?_;simp only[new_m];omega)) only [thenT_turn,Abs.W,reduceIte,Nat.reduceEqDiff,Nat.reduceAdd,decide_true,decide_false,kLoop_def,Nat.reduceSub,List.cons_append,List.nil_append,List.append_nil,List.length_cons,List.length_nil,Env.find_set,knN,hNo,Nat.zero_add]
 rw [endT_kept (l:=[23]) (s':=t4) (by simp only [keptAll_cons,keptAll_nil,find_cons,Env.find_set,keptV_ptr,(g3 t2.n (by omega) (by omega)).trans x5,(g4 t2.n (by omega) (by omega)).trans ((g3 t2.n (by omega) (by omega)).trans x5),sameO_cells,reduceIte,Nat.reduceEqDiff,Bool.and_self])]
 rw [endT_kept (l:=[23]) (s':=t3) (by simp only [keptAll_cons,keptAll_nil,find_cons,Env.find_set,keptV_ptr,x5,(g3 t2.n (by omega) (by omega)).trans x5,sameO_cells,reduceIte,Nat.reduceEqDiff,Bool.and_self])]
 rw [endO_ok _ (endOk_nil _)]
 have a4:=(g4 t1.n (by omega) (by omega)).trans ((g3 t1.n (by omega) (by omega)).trans x4')
 have a5:=(g4 t2.n (by omega) (by omega)).trans ((g3 t2.n (by omega) (by omega)).trans x5)
 have aq:=(g4 bq (by omega) (by omega)).trans ((g3 bq (by omega) (by omega)).trans xq)
 have hnum:=b.num_cells hi hw
 rw [show i * 6+(2+w)=i * 6+2+w by omega] at hnum
 obtain ⟨nu0,nu1⟩:=Sale.num_range (ok.ok _ (List.getElem_mem hi)) hw
 simp (disch:=first|omega|(with_unfolding_all exact rfl)|(simp only[new_n,put_n,new_m];omega)|(refine put_m_le ?_;simp only[new_m];omega)) only [K3r7,Abs.W,reduceIte,Nat.reduceEqDiff,Nat.reduceAdd,decide_true,decide_false,kLoop_def,Nat.reduceSub,List.cons_append,List.nil_append,List.append_nil,List.length_cons,List.length_nil,Env.find_set,aq,hnum,Nat.zero_add]
 have ad1:∀ s,aAdd s .i64 (b.sales[i].num w) 1=.val (.int .i64 (b.sales[i].num w+1)) s:=fun s=>aAdd_i64 s _ _ (by omega)
 have sb1:∀ s,aSub s .i64 (b.sales[i].num w) 1=.val (.int .i64 (b.sales[i].num w - 1)) s:=fun s=>aSub_i64 s _ _ (by omega)
 simp (disch:=first|omega|(with_unfolding_all exact rfl)|(simp only[new_n,put_n,new_m];omega)|(refine put_m_le ?_;simp only[new_m];omega)) only [K3r8,Abs.W,reduceIte,Nat.reduceEqDiff,Nat.reduceAdd,decide_true,decide_false,kLoop_def,Nat.reduceSub,List.cons_append,List.nil_append,List.append_nil,List.length_cons,List.length_nil,Env.find_set,ad1,sb1,kFold_def,foldA_nil,foldA_cons,maxA_i64,knC,Nat.zero_add]
 generalize hc5:call _ _ _ (.fn 9) _ _=r5
 obtain ⟨x3,t5,rfl,st5,d5,x30,x31⟩:=cast_ex hc5 (by omega) d4 (by show d<t4.n;omega) (by show t4.n+100≤far;omega) (by omega)
 have n5:t4.n≤t5.n:=st5.n
 have k5:t5.n≤t4.n+0:=st5.le
 have g5:∀ c,c<x.n→c≠d→t5.h.get c=t4.h.get c:=fun c hc hcd=>st5.same c (by show c<t4.n;omega) hcd
 simp (disch:=first|omega|(with_unfolding_all exact rfl)|(simp only[new_n,put_n,new_m];omega)|(refine put_m_le ?_;simp only[new_m];omega)) only [Abs.W,reduceIte,Nat.reduceEqDiff,Nat.reduceAdd,decide_true,decide_false,kLoop_def,Nat.reduceSub,List.cons_append,List.nil_append,List.append_nil,List.length_cons,List.length_nil,Env.find_set,knO,Nat.zero_add]
 generalize hc6:call _ _ _ (.fn 10) _ _=r6
 obtain ⟨xn',t6,rfl,st6,d6,hx6⟩:=one_ex [b.sales[i].num w+1,max 0 (b.sales[i].num w - 1),x3] (b:=t5.n) (sz:=0) hc6 (by omega) (Die.keep d5 (get_new_ne _ _ _ (by omega))) (by simp only [new_n];omega) (by simp only [new_n];omega) (get_new_eq _ _ _ rfl (by omega)) (by simp only [new_n];omega) (by omega) rfl (by omega) (by omega)
 have hxr:0≤xn'∧xn'≤100000:=by simp at hx6;omega
 have n6:t5.n+1≤t6.n:=st6.n
 have k6:t6.n≤t5.n+1+0:=st6.le
 have g6:∀ c,c<x.n→c≠d→t6.h.get c=t5.h.get c:=fun c hc hcd=>(st6.same c (by rw [new_n];omega) hcd).trans (get_new_ne _ _ _ (by omega))
 have ga:∀ c,c<x.n→c≠d→t6.h.get c=x.h.get c:=fun c hc hcd=>(g6 c hc hcd).trans ((g5 c hc hcd).trans ((g4 c hc hcd).trans (g3 c hc hcd)))
 have bq6:=(ga bq (by omega) (by omega)).trans xq
 have ov:over (i * 6+2+w) [.int .i64 xn'] (b.sales.map Sale.cells).flatten=some ((b.setN i w xn' hi).sales.map Sale.cells).flatten:=by
  have hl:=flatten_len (sale_wide b.sales)
  rw [List.length_map] at hl
  rw [over_one _ (by omega),← b.setN_rows xn' hi hw,show i * 6+(2+w)=i * 6+2+w by omega]
 simp (disch:=first|omega|(with_unfolding_all exact rfl)|(simp only[new_n,put_n,new_m];omega)|(refine put_m_le ?_;simp only[new_m];omega)) only [Abs.W,reduceIte,Nat.reduceEqDiff,Nat.reduceAdd,decide_true,decide_false,kLoop_def,Nat.reduceSub,List.cons_append,List.nil_append,List.append_nil,List.length_cons,List.length_nil,Env.find_set,bq6,ov,Nat.zero_add]
 obtain ⟨z,hz⟩:∃ z:St,z=t6.put bq (.cells ((b.setN i w xn' hi).sales.map Sale.cells).flatten (6+tag 37)):=⟨_,rfl⟩
 rw [← hz]
 have zn:z.n=t6.n:=by rw [hz];rfl
 have zg:∀ c,c≠bq→z.h.get c=t6.h.get c:=fun c hc=>by rw [hz,get_put_ne' _ _ _ _ hc]
 have zq:z.h.get bq=some (.cells ((b.setN i w xn' hi).sales.map Sale.cells).flatten (6+tag 37)):=by rw [hz];exact get_put_eq _ _ _ _ rfl (by omega)
 clear hz
 have z4:=(zg t1.n (by omega)).trans ((ga t1.n (by omega) (by omega)).trans x4')
 have z5:=(zg t2.n (by omega)).trans ((ga t2.n (by omega) (by omega)).trans x5)
 have hIz:IsAt z.h z.n bl 6 (tag 37) (b.sales.map Sale.cells) v:=hIy.mono (fun h=>(zg bl (by omega)).trans ((ga bl (by omega) (by omega)).trans (xy bl h))) (by omega)
 have hl2:(b.setN i w xn' hi).sales.length=b.sales.length:=List.length_set
 have hR2:RowsAt z.h z.n 6 ((b.setN i w xn' hi).sales.map Sale.cells) (.slice bq 0 b.sales.length b.sales.length true):=by
  have o2:Own z.h 0 z.n 6 (tag 37) ((b.setN i w xn' hi).sales.map Sale.cells) (.slice bq 0 b.sales.length b.sales.length true):=⟨sale_wide _,.inr ⟨fun h=>h0 (by rw [← hl2,← List.length_map (f:=Sale.cells),h];rfl),bq,Nat.zero_le _,by omega,by rw [List.length_map,hl2],zq⟩⟩
  exact o2.seq.at_
 obtain ⟨lo1,er1⟩:=ok.loose
 have lo2:=Book.setN_loose ok hi hw hxr
 have S1:=fun s' (hs':s'=z)=>Seal_ok (N:=n) (by omega) lo1 (s:=z) hIz.rows.at_ (by omega)
 have S1:=Seal_ok (N:=n) (by omega) lo1 (s:=z) hIz.rows.at_ (by omega)
 have S2:=Seal_ok (N:=n) (by omega) lo2 (s:=z) hR2 (by omega)
 rw [er1,if_pos rfl] at S1
 have S2:call Try.prog X n (.fn 11) [.agg [.int .i64 b.stalls,.int .i64 b.goods,.slice bq 0 b.sales.length b.sales.length true]] z=_:=S2
 unfold bookV at S1
 simp (disch:=first|omega|(with_unfolding_all exact rfl)|(simp only[new_n,put_n,new_m];omega)|(refine put_m_le ?_;simp only[new_m];omega)) only [K3r9,Abs.W,reduceIte,Nat.reduceEqDiff,Nat.reduceAdd,decide_true,decide_false,kLoop_def,Nat.reduceSub,List.cons_append,List.nil_append,List.append_nil,List.length_cons,List.length_nil,Env.find_set,z4,kv,scB,knS,S1,extE0,extE1,okA_tup2,Nat.zero_add]
 simp (disch:=first|omega|(with_unfolding_all exact rfl)|(simp only[new_n,put_n,new_m];omega)|(refine put_m_le ?_;simp only[new_m];omega)) only [K3r10,Abs.W,reduceIte,Nat.reduceEqDiff,Nat.reduceAdd,decide_true,decide_false,kLoop_def,Nat.reduceSub,List.cons_append,List.nil_append,List.append_nil,List.length_cons,List.length_nil,Env.find_set,z5,knS,S2,extE0,extE1,okA_tup2,Nat.zero_add]
 have sr:=seal_range b.nums 7 (by omega)
 generalize hr9:seaTail _ _ _ _ _=r9
 have hiff:(b.setN i w xn' hi).err=0→(sealI 7 b.nums=(if (b.setN i w xn' hi).err=0 then sealI 7 (b.setN i w xn' hi).nums else 0)↔(xn' - b.sales[i].num w) % 9973=0):=fun h=>by
  rw [if_pos h]
  exact b.setN_seal xn' hi hw
 have hn2:nth ((b.setN i w xn' hi).sales.map Sale.cells).flatten (i * 6+2+w)=.int .i64 xn':=by
  have hl:=flatten_len (sale_wide b.sales)
  rw [List.length_map] at hl
  refine nth_of ?_
  rw [← b.setN_rows xn' hi hw,show i * 6+(2+w)=i * 6+2+w by omega,List.getElem?_set_self (by omega)]
 obtain ⟨L9,s9,rfl,hL⟩:=sea_tail _ cx knA (x:=sealI 7 b.nums) (y:=if (b.setN i w xn' hi).err=0 then sealI 7 (b.setN i w xn' hi).nums else 0) (err:=(b.setN i w xn' hi).err) (was:=b.sales[i].num w) (xn:=xn') (bq:=bq) (o:=i * 6+2+w) hr9 (by simp only [find_cons,Env.find_set,reduceIte,Nat.reduceEqDiff]) (by simp only [find_cons,Env.find_set,reduceIte,Nat.reduceEqDiff]) (by simp only [find_cons,Env.find_set,reduceIte,Nat.reduceEqDiff]) (by simp only [find_cons,Env.find_set,reduceIte,Nat.reduceEqDiff]) (by simp only [find_cons,Env.find_set,reduceIte,Nat.reduceEqDiff]) (by simp only [find_cons,Env.find_set,reduceIte,Nat.reduceEqDiff]) zq hn2 sr (Book.err_or _) (by omega) (by omega) hiff
 simp (disch:=first|omega|(with_unfolding_all exact rfl)|(simp only[new_n,put_n,new_m];omega)|(refine put_m_le ?_;simp only[new_m];omega)) only [res3,Abs.W,reduceIte,Nat.reduceEqDiff,Nat.reduceAdd,decide_true,decide_false,kLoop_def,Nat.reduceSub,List.cons_append,List.nil_append,List.append_nil,List.length_cons,List.length_nil,hL]
 exact ⟨_,rfl⟩
end Go.Proofs.Ytkoaddhhnijdpaa.walk
set_option maxRecDepth 10000
namespace Go.Proofs.Ytkoaddhhnijdpaa.walk
open Go.Abs Go.Proofs.Ytkoaddhhnijdpaa.code
end Go.Proofs.Ytkoaddhhnijdpaa.walk
namespace Go.Proofs.Ytkoaddhhnijdpaa.mdie
open Go.RowKit
def Die (b:Nat) (w:World):Prop:=∃ s,w.heap[b]? = some (.cells #[.int .u64 s] 46 (0,0))
theorem Die.old {b:Nat} {w:World} (h:Die b w):(∃ s,w.cell? ⟨b,0,none⟩=some (.int .u64 s))∧w.frozen? ⟨b,0,none⟩=false:=by
 obtain ⟨s,hs⟩:=h
 refine ⟨⟨s,?_⟩,?_⟩
 ·unfold World.cell?;simp [hs]
 ·unfold World.frozen?;simp [hs]
structure Stir (b:Nat) (w w':World):Prop where
 below:Below b w w'
 rest:∀ p:Addr,p.block≠b→p.block<w.heap.size→w'.cell? p=w.cell? p∧w'.frozen? p=w.frozen? p
 die:Die b w'
def Gives (b:Nat) (k:IntKind) (Q:Int→Prop) (w:World) (e:Ending) (w':World):Prop:=∃ r,Q r∧e=.returned (.int k r)∧Stir b w w'
theorem bits_nonneg (op:BinOp) (x y:Int):0≤bits op .u64 x y:=by
 have:=bounds_u64 (wf_bits (k:=.u64) (op:=op) (x:=x) (y:=y))
 exact this.1
theorem Stir.set {b:Nat} {w:World} (h:Die b w) (s:Int):Stir b w (w.setCell ⟨b,0,none⟩ (.int .u64 s)):=by
 obtain ⟨t,ht⟩:=h
 refine ⟨(Below.refl b w).setCell (p:=⟨b,0,none⟩) (Nat.le_refl b) _,fun p hp _=>⟨World.cell?_of_block (Below.heap_setCell _ _ _ _ hp),World.frozen?_of_block (Below.heap_setCell _ _ _ _ hp)⟩,⟨s,?_⟩⟩
 unfold World.setCell
 simp [Array.getElem?_modify,ht]
theorem roll (b:Nat) (w:World) (h:Die b w):Calls Try.prog 12 #[.pointer (some ⟨b,0,none⟩)] w (Gives b .u64 (fun r=>0≤r) w):=by
 have h':=Lib.hid h
 obtain ⟨⟨s,hs⟩,hf⟩:=h.old
 clear h
 go_enter Try.func12,Try.ntmps12
 go_wp2
 go_ret
 exact ⟨_,bits_nonneg _ _ _,rfl,Stir.set h'.out _⟩
theorem Stir.refl {b:Nat} {w:World} (h:Die b w):Stir b w w:=⟨Below.refl _ _,fun _ _ _=>⟨rfl,rfl⟩,h⟩
theorem Stir.trans {b:Nat} {u v w:World} (h:Stir b u v) (k:Stir b v w):Stir b u w :=
 ⟨h.below.trans k.below,fun p hp hb=>⟨(k.rest p hp (Nat.lt_of_lt_of_le hb h.below.size)).1.trans (h.rest p hp hb).1,(k.rest p hp (Nat.lt_of_lt_of_le hb h.below.size)).2.trans (h.rest p hp hb).2⟩,k.die⟩
theorem Die.lt {b:Nat} {w:World} (h:Die b w):b<w.heap.size:=by obtain ⟨⟨s,hs⟩,_⟩:=h.old;exact World.block_lt_of_cell? w _ hs
theorem Stir.drew {b:Nat} {w w':World} (h:Stir b w w'):Stir b w w'.drew:=h.trans ⟨⟨rfl,rfl,rfl,Nat.le_refl _,fun _ _=>rfl⟩,fun _ _ _=>⟨rfl,rfl⟩,h.die⟩
def Born (w:World) (e:Ending) (w':World):Prop:=e=.returned (.pointer (some ⟨w.heap.size,0,none⟩))∧Below w.heap.size w w'∧Die w.heap.size w'∧w.heap.size<w'.heap.size
theorem Die.born (w:World) (s:Int):Die w.heap.size (w.alloc (.cells #[.int .u64 s] 46)):=⟨s,by show (w.heap.push _)[w.heap.size]? = _;rw [Array.getElem?_push,if_pos rfl]⟩
set_option maxRecDepth 100000 in
theorem born (x:Option Addr) (n c:Nat) (w:World) (hn:n≤maxLen) (hc:∀ i,i<n→∃ b o,x=some ⟨b,o,none⟩∧∃ v,w.cell? ⟨b,o+i,none⟩=some (.int .i64 v)) :
  Calls Try.prog 4 #[.slice x n c] w (Born w):=by
 unfold maxLen at hn
 have HC:=Lib.hid hc
 clear hc
 have hdie:=Lib.hid (Die.born w 2611923443488327891)
 go_enter Try.func4,Try.ntmps4
 go_wp2
 go_loopw [4] (fun i wr=>∃ k:Nat,k≤n∧i=.int .i64 k∧Stir w.heap.size (w.alloc (.cells #[.int .u64 2611923443488327891] 46)) wr) (fun i _=>n - (intOf i).toNat)
 case atStart=>exact ⟨0,Nat.zero_le _,rfl,Stir.refl hdie.out⟩
 case round =>
  obtain ⟨k,hk,rfl,hs⟩:=hrel
  by_cases hlt:k<n
  ·obtain ⟨b,o,rfl,v,hv⟩:=HC.out k hlt
   have hb:=World.block_lt_of_cell? _ _ hv
   simp only at hb
   have hv1:wr.cell? ⟨b,o+k,none⟩=some (.int .i64 v):=((hs.rest ⟨b,o+k,none⟩ (Nat.ne_of_lt hb) (by simp;omega)).1.trans (World.cell?_of_block (Below.heap_alloc _ _ _ hb))).trans hv
   clear hv
   obtain ⟨⟨s,hd⟩,hf⟩:=hs.die.old
   have hst:=Lib.hid (fun s1:Int=>(hs.drew).trans (Stir.set hs.drew.die s1))
   have hlt':(k:Int)<(n:Int):=by omega
   have hk0:(0:Int)≤(k:Int):=by omega
   go_wp2
   go_still_tail 12,(by kernel_rfl)
   change wpList _ _ _ _ _ wr.drew
   go_wp2_with (go_at_call 12;refine (roll _ _ ?_).mono ?_;exact (hst.out _).die;rintro e w1 ⟨r,hr,rfl,hs1⟩;(have hs2:=(hst.out _).trans hs1))
   go_roundw
   case rel=>exact ⟨k+1,by omega,by go_num,hs2⟩
   case measure=>simp [intOf];omega
  ·go_wp2
   go_ret
   exact ⟨rfl,((Below.refl w.heap.size w).alloc (Nat.le_refl _) _).trans hs.below,hs.die,by have:=hs.below.size;simp at this;omega⟩
end Go.Proofs.Ytkoaddhhnijdpaa.mdie
