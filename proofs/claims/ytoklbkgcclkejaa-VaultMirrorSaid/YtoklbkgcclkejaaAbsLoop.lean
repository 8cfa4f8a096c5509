/- The blocks of the loops over functions. -/
import Derived.Test.YtoklbkgcclkejaaAbsCode
noncomputable section
namespace Go.Abs
variable {P:Program}
theorem yzA {s:St} {l:Nat} {r:ALoop} (h:yv s l=some r):s.h.get l=some (.loop r):=by
 unfold yv at h
 split at h
 ·rename_i h';cases h;exact h'
 ·cases h
theorem zzA {ρ:Rho} {s:St} {W:World} (hs:SRel ρ s W) {l x:Nat} {e:Ext} {r:ALoop} (h:yv s l=some r) (hr:ρ l=some (x,e)) :
  ∃ R,W.heap[x]? = some (.loop R)∧LoopRel ρ r R:=by
 obtain ⟨c,e',O,h1,h2,h3⟩:=hs.heap.obj l l _ (.lone (yzA h) trivial)
 rw [hr] at h1
 cases h1
 cases h3 with
 | loop h3=>exact ⟨_,h2,h3⟩
theorem gT {W:World} {x:Nat} {R:Loop} (h:W.heap[x]? = some (.loop R)):(Instr.getLoop x).run P W=.ok R W:=by
 have:(getObj x).run P W=.ok (.loop R) W:=by simp [getObj,Sem.run,h]
 simp [Instr.getLoop,Sem.run_bind,this]
theorem VC {W:World} {x:Nat} {R R':Loop} (h:W.heap[x]? = some (.loop R)):(setObj x (.loop R')).run P W=.ok () { W with heap:=W.heap.setIfInBounds x (.loop R') }:=by
 simp [setObj,Sem.run,h]
theorem After.setLoop {ρ:Rho} {s:St} {W:World} (hs:SRel ρ s W) {l x:Nat} {e:Ext} {r r':ALoop} {R R':Loop} (h:yv s l=some r) (hr:ρ l=some (x,e))
  (hx:W.heap[x]? = some (.loop R)) (hR:LoopRel ρ r' R'):After ρ s W ρ (s.put l (.loop r')) { W with heap:=W.heap.setIfInBounds x (.loop R') }:=by
 have hlt:x<W.heap.size:=(Array.getElem?_eq_some_iff.mp hx).1
 refine After.put (e:=e) (O:=.loop R') hs (yzA h) hr (by simp) ?_ ?_ rfl rfl rfl (.loop hR)
 ·exact Array.getElem?_setIfInBounds_self_of_lt hlt
 ·intro i hi
  exact Array.getElem?_setIfInBounds_ne (fun z=>hi z.symm)
theorem zzJ {ρ:Rho} {s:St} {W:World} (hs:SRel ρ s W) {l x:Nat} {e:Ext} {r:ALoop} (h:yv s l=some r) (hr:ρ l=some (x,e)) (hb:r.state≠.busy) :
  ∃ W',(Instr.endLoop x).run P W=.ok r.pending W'∧After ρ s W ρ (s.put l (.loop { r with state:=.exhausted })) W':=by
 obtain ⟨R,hx,hR⟩:=zzA hs h hr
 refine ⟨_,?_,After.setLoop hs h hr hx (R':={ R with state:=.exhausted }) ⟨rfl,hR.pending,hR.fn,hR.tmps,hR.params,hR.assign,hR.body,hR.defers,hR.nt,hR.clean,hR.ps⟩⟩
 have hnb:R.state≠.busy:=by rw [hR.state];exact hb
 simp [Instr.endLoop,Sem.run_bind,gT hx,hnb,VC hx,hR.pending]
theorem ghA {ρ:Rho} {s:St} {W:World} (hs:SRel ρ s W) {l x:Nat} {e:Ext} {r:ALoop} (h:yv s l=some r) (hr:ρ l=some (x,e)) (hb:r.state=.ready) :
  ∃ W',(Instr.beginRound x).run P W=.ok () W'∧After ρ s W ρ (s.put l (.loop { r with state:=.busy })) W':=by
 obtain ⟨R,hx,hR⟩:=zzA hs h hr
 refine ⟨_,?_,After.setLoop hs h hr hx (R':={ R with state:=.busy }) ⟨rfl,hR.pending,hR.fn,hR.tmps,hR.params,hR.assign,hR.body,hR.defers,hR.nt,hR.clean,hR.ps⟩⟩
 have hst:R.state=.ready:=hR.state.trans hb
 simp [Instr.beginRound,Sem.run_bind,gT hx,hst,VC hx]
theorem VdA {ρ:Rho} {s s':St} {W:World} (hs:SRel ρ s W) {l x:Nat} {e:Ext} {q:Ex} {v:AV} (hr:ρ l=some (x,e)) (h:YB l q s=.val v s') :
  ∃ V W',(Instr.endRound x (YZ q)).run P W=.ok V W'∧After ρ s W ρ s' W'∧VRel ρ v V:=by
 unfold YB at h
 split at h
 ·rename_i r hl
  cases h
  obtain ⟨R,hx,hR⟩:=zzA hs hl hr
  have e1:(YZ q).isNone=VW q:=by cases q<;>rfl
  refine ⟨.bool (VW q),_,?_,After.setLoop hs hl hr hx (R':={ R with state:=if VW q then .ready else .done,pending:=YZ q })
   ⟨rfl,rfl,hR.fn,hR.tmps,hR.params,hR.assign,hR.body,hR.defers,hR.nt,hR.clean,hR.ps⟩,.bool _⟩
  simp [Instr.endRound,Sem.run_bind,gT hx,e1,VC hx]
 ·cases h
theorem ZvA {ρ:Rho} {c:Ctx} {b:Frame} {L:Env} {d d':List Nat} {s s':St} {a:Act} {W:World} {ps:Array Tmp} {x y:Code}
  (hb:CtxRel ρ c b) (ha:ActRel ρ c.nt L d a) (hL:Clean c.xs L) (hs:SRel ρ s W) (hps:∀ t ∈ ps.toList,t<c.nt∧c.xs.contains t=true) (h:gD c L d ps.toList x y s=some (d',s')) :
  ∃ l m ρ' W',(Instr.enterLoop b.fn a.tmps ps x y b.roundOf).run P W=.ok (l,m) W'∧After ρ s W ρ' s' W'∧ρ' (Nat.sub s'.n 1)=some (l,(0,0)) ∧
   DRel ρ' d' (m++a.defers)∧(c.rnd≠none→d'=d):=by
 unfold gD at h
 split at h
 ·rename_i l0 h0
  split at h
  ·rename_i r hr
   cases h
   obtain ⟨z,e,hz,hro⟩:=hb.some l0 h0
   obtain ⟨R,hx,hR⟩:=zzA hs hr hz
   have hle:=Rho.put_le (W.heap.size,(0,0)) (hs.fresh _ (Nat.le_refl _))
   have af:=After.new (e:=(0,0)) (o:=.loop ⟨.ready,none,c.fn,L,ps.toList,x,y,r.defers,c.nt,c.xs⟩)
    (O:=.loop { state:=.ready,pending:=none,fn:=b.fn,tmps:=a.tmps,params:=ps,assign:=x,body:=y,defers:=R.defers }) hs rfl
    (.loop ⟨rfl,rfl,hb.fn,ha.env.mono hle,rfl,rfl,rfl,hR.defers.imp fun _ q=>hle _ _ q,ha.size,hL,hps⟩)
   refine ⟨_,[],_,_,?_,af,Rho.put_same _ _ _,ha.defers.mono hle,fun _=>rfl⟩
   rw [hro]
   simp [Instr.enterLoop,Sem.run_bind,gT hx]
  ·cases h
 ·rename_i h0
  cases h
  have a1:=After.new (e:=(0,0)) (o:=.dfr) (O:=.deferred (some [])) hs rfl .dfr
  have hle:=a1.le
  have hle2:=Rho.put_le ((W.heap.push (.deferred (some []))).size,(0,0)) (a1.rel.fresh _ (Nat.le_refl _))
  have a2:=After.new (e:=(0,0)) (o:=.loop ⟨.ready,none,c.fn,L,ps.toList,x,y,s.n,c.nt,c.xs⟩)
   (O:=.loop { state:=.ready,pending:=none,fn:=b.fn,tmps:=a.tmps,params:=ps,assign:=x,body:=y,defers:=W.heap.size }) a1.rel rfl
   (.loop ⟨rfl,rfl,hb.fn,(ha.env.mono hle).mono hle2,rfl,rfl,rfl,⟨(0,0),hle2 _ _ (Rho.put_same _ _ _)⟩,ha.size,hL,hps⟩)
  refine ⟨_,[{ target:=.collected W.heap.size,args:=#[] }],_,_,?_,a1.trans a2,Rho.put_same _ _ _,.cons (hle2 _ _ (Rho.put_same _ _ _)) ((ha.defers.mono hle).mono hle2),fun q=>absurd h0 q⟩
  rw [hb.none h0]
  simp [Instr.enterLoop,Sem.run_bind]
  rfl
end Go.Abs
end
