/- The machine's steps at any frame, whether of a function or of a round of a range over a function: what Derived/AtR leaves out. -/
import Derived.AtR
import Derived.Test.YtoklbkgcclkejaaAbsOps
noncomputable section
namespace Go.Abs
variable {P:Program} {b:Frame} {a:Act} {k:List Item} {cs:List Frame} {w:World} {ops:Array Oper}
theorem WYA {c:Code}:step P (lone (b.atR a (.code (.scope c)::k)) cs w)=.next (lone (b.atR a (.code c::.inScope c::k)) cs w) :=
 step_lone_go (by simp [stepG,stepG.exec,Frame.atR])
theorem ZfA {c:Code}:step P (lone (b.atR a (.inScope c::k)) cs w)=.next (lone (b.atR a k) cs w) :=
 step_lone_go (by simp [stepG,stepG.exec,Frame.atR])
theorem yfA {i:Nat} {rest:List Nat} {o:Oper} (ho:ops[i]? = some o) (hw:Region.wanted o (yielded ops a.tmps)=true) (hd:∀ c,o.op≠.defer c)
  {v:Value} {w':World} (hr:(execOp a.eval o).run P w=.ok (.value v) w') :
  step P (lone (b.atR a (.inRegion ops (i::rest)::k)) cs w)=.next (lone (b.atR (a.put o.dst v) (.inRegion ops rest::k)) cs w'):=by
 have hf:=Frame.finish_atR b a ops i rest k v
 simp only [ho,Option.bind_some] at hf
 rw [← hf]
 refine step_lone_go ?_
 rw [stepGR_op ho hw,Oper.semAt_eq _ _ _ hd]
 simp [stepG.apply,Sem.runT_eq,hr]
theorem WX {i:Nat} {rest:List Nat} {o:Oper} (ho:ops[i]? = some o) (hw:Region.wanted o (yielded ops a.tmps)=true) (hd:∀ c,o.op≠.defer c)
  {w':World} (hr:(execOp a.eval o).run P w=.ok .skip w') :
  step P (lone (b.atR a (.inRegion ops (i::rest)::k)) cs w)=.next (lone (b.atR (a.put o.dst undef) (.inRegion ops rest::k)) cs w'):=by
 have hf:=Frame.finish_atR b a ops i rest k undef
 simp only [ho,Option.bind_some] at hf
 rw [← hf]
 refine step_lone_go ?_
 rw [stepGR_op ho hw,Oper.semAt_eq _ _ _ hd]
 simp [stepG.apply,Sem.runT_eq,hr]
theorem yhA {i:Nat} {rest:List Nat} {o:Oper} (ho:ops[i]? = some o) (hw:Region.wanted o (yielded ops a.tmps)=true) (hd:∀ c,o.op≠.defer c)
  {f:FuncId} {A:Array Value} {w':World} (hr:(execOp a.eval o).run P w=.ok (.enter f A) w') :
  step P (lone (b.atR a (.inRegion ops (i::rest)::k)) cs w)=.next (lone (Frame.enter P f A .normal) (b.atR a (.inRegion ops (i::rest)::k)::cs) w'):=by
 refine step_lone_go ?_
 rw [stepGR_op ho hw,Oper.semAt_eq _ _ _ hd]
 simp [stepG.apply,Sem.runT_eq,hr,Frame.atR]
theorem ygA {i:Nat} {rest:List Nat} {o:Oper} (ho:ops[i]? = some o) (hw:Region.wanted o (yielded ops a.tmps)=true) (hd:∀ c,o.op≠.defer c)
  {l:Nat} {f:FuncId} {T:Array Value} {x y:Code} {w':World} (hr:(execOp a.eval o).run P w=.ok (.round l f T x y) w') :
  step P (lone (b.atR a (.inRegion ops (i::rest)::k)) cs w) =
   .next (lone (Frame.round l f T x y .normal) (b.atR a (.inRegion ops (i::rest)::k)::cs) w'):=by
 refine step_lone_go ?_
 rw [stepGR_op ho hw,Oper.semAt_eq _ _ _ hd]
 simp [stepG.apply,Sem.runT_eq,hr,Frame.atR]
def Vv (ρ:Operand→Value) (f:Operand) (l:Nat):Sem Next:=do
 let d ← resolve ρ { callee:=.value f,args:=#[.const (.func (.yield l) #[] #[])],argTypes:=#[] } 0
 invoke d.target d.args
section range
variable {f:Operand} {ps:Array Tmp} {x y:Code} {l:Nat} {m:List Deferred} {w₁ w₂:World}
def vb (a:Act) (m:List Deferred):Act:={ a with defers:=m++a.defers }
theorem zYA {g:FuncId} {A:Array Value} (he:(Instr.enterLoop b.fn a.tmps ps x y b.roundOf).run P w=.ok (l,m) w₁)
  (hr:(Vv a.eval f l).run P w₁=.ok (.enter g A) w₂) :
  step P (lone (b.atR a (.code (.rangeFunc f ps x y)::k)) cs w) =
   .next (lone (Frame.enter P g A .normal) (b.atR (vb a m) (.inRangeFunc l::k)::cs) w₂):=by
 refine step_lone_go ?_
 have hv:=Frame.eval_atR b (vb a m) (.inRangeFunc l::k)
 simp only [Frame.atR,vb] at hv
 have ha:Act.eval { tmps:=a.tmps,defers:=m++a.defers }=a.eval:=by funext z;cases z<;>rfl
 rw [ha] at hv
 unfold Vv at hr
 simp [stepG,stepG.exec,Frame.atR,vb,Sem.runT_eq,he,stepG.apply,hv,hr]
theorem zXA {l':Nat} {g:FuncId} {T:Array Value} {x' y':Code} (he:(Instr.enterLoop b.fn a.tmps ps x y b.roundOf).run P w=.ok (l,m) w₁)
  (hr:(Vv a.eval f l).run P w₁=.ok (.round l' g T x' y') w₂) :
  step P (lone (b.atR a (.code (.rangeFunc f ps x y)::k)) cs w) =
   .next (lone (Frame.round l' g T x' y' .normal) (b.atR (vb a m) (.inRangeFunc l::k)::cs) w₂):=by
 refine step_lone_go ?_
 have hv:=Frame.eval_atR b (vb a m) (.inRangeFunc l::k)
 simp only [Frame.atR,vb] at hv
 have ha:Act.eval { tmps:=a.tmps,defers:=m++a.defers }=a.eval:=by funext z;cases z<;>rfl
 rw [ha] at hv
 unfold Vv at hr
 simp [stepG,stepG.exec,Frame.atR,vb,Sem.runT_eq,he,stepG.apply,hv,hr]
theorem VXA {v:Value}:(b.atR a (.inRangeFunc l::k)).finish v=b.atR a (.endRangeFunc l::k):=rfl
theorem wAA {j:Option Code} (he:(Instr.endLoop l).run P w=.ok j w₁) :
  step P (lone (b.atR a (.endRangeFunc l::k)) cs w)=.next (lone (b.atR a ((j.map Item.code).toList++k)) cs w₁):=by
 refine step_lone_go ?_
 simp [stepG,stepG.exec,Frame.atR,Sem.runT_eq,he]
end range
section leaving
variable {fn:Func} {c:Frame} {v:Value} {w₁:World} {t:List Item}
def back (b:Frame) (a:Act) (t:List Item):Frame:={ b.atR a t with mode:=.returning }
theorem gJJ {n:Nat} {A:Array Value} {D ds:List Deferred} (hd:a.defers={ target:=.collected n,args:=A }::D)
  (ht:(Instr.takeDeferred n).run P w=.ok ds w₁) :
  step P (lone (back b a t) cs w)=.next (lone (back b { a with defers:=ds++D } t) cs w₁):=by
 refine step_lone_go ?_
 simp [stepG,unwind,back,Frame.atR,Sem.runT_eq,hd,ht]
theorem gKJ (hd:a.defers=[]) (hk:b.kind=.normal) (hf:P.funcs[b.fn]? = some fn) (hr:(results fn a.tmps).run P w=.ok v w₁) :
  step P (lone (back b a t) (c::cs) w)=.next (lone (c.finish v) cs w₁):=by
 refine step_lone_go ?_
 simp [stepG,unwind,back,Frame.atR,Sem.runT_eq,hd,hf,hr,doReturn,hk]
end leaving
end Go.Abs
end
