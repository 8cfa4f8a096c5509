/- An interpreter of the model's code over abstract values and an abstract heap, meant to be run by the kernel at closed inputs: the code is turned into closures once. Its soundness is proved in the texts behind this one. -/
import Derived.Test.YtoklbkgcclkejaaAbsGlob
import GoSem.Dispatch
set_option linter.unusedVariables false
noncomputable section
namespace Go.Abs
inductive AV where
 | bad
 | int (k:IntKind) (n:Int)
 | bool (b:Bool)
 | str (s:ByteArray)
 | ptr (b o:Nat)
 | nilptr
 | slice (b o len cap:Nat) (ext:Bool)
 | nilslice
 | map (b:Nat)
 | nilmap
 | func (f:FuncId) (first cap:List AV)
 | yield (l:Nat)
 | nilfunc
 | nilif
 | agg (l:List AV)
 | tup (l:List AV)
 | ge (k:IntKind) (n:Int)
 | tail (b o:Nat)
 | gptr (g o:Nat)
 | vs (b v len:Nat)
 | vp (b v o:Nat)
 deriving Inhabited
def AV.undef:AV:=.tup []
def AV.scalar:AV→Bool
 | .agg _ | .tup _ | .bad=>false
 | _=>true
inductive Env where
 | nil
 | cons (t:Nat) (v:AV) (r:Env)
def Env.find (t:Nat) (L:Env):AV :=
 Env.rec (motive:=fun _=>AV) AV.bad (fun u v _ ih=>Bool.rec (motive:=fun _=>AV) ih v (Nat.beq u t)) L
def Env.set (t:Nat) (v:AV) (L:Env):Env :=
 Env.rec (motive:=fun _=>Env) (Env.cons t v Env.nil) (fun u w r ih=>Bool.rec (motive:=fun _=>Env) (Env.cons u w ih) (Env.cons u v r) (Nat.beq u t)) L
structure ALoop where
 state:LoopState
 pending:Option Code
 fn:FuncId
 tmps:Env
 params:List Tmp
 assign:Code
 body:Code
 defers:Nat
 nt:Nat
 xs:List Nat
inductive AObj where
 | cells (c:List AV) (sz:Nat)
 | map (es:List (AV × AV))
 | loop (r:ALoop)
 | dfr
 | fam (c:List AV) (sz k:Nat) (vs:List (Nat × Nat))
inductive Heap where
 | nil
 | node (l:Heap) (v:Option AObj) (r:Heap)
def Heap.get (h:Heap):Nat→Option AObj :=
 Heap.rec (motive:=fun _=>Nat→Option AObj) (fun _=>none)
  (fun _ v _ gl gr n=>Bool.rec (motive:=fun _=>Option AObj) (Bool.rec (motive:=fun _=>Option AObj) (gr (Nat.div n 2)) (gl (Nat.div n 2)) (Nat.beq (Nat.mod n 2) 0)) v (Nat.beq n 0)) h
def Heap.set1 (x:Option AObj) (ih:Heap→Nat→Heap) (t:Heap) (n:Nat):Heap :=
 Heap.rec (motive:=fun _=>Heap)
  (Bool.rec (motive:=fun _=>Heap) (Bool.rec (motive:=fun _=>Heap) (Heap.node Heap.nil none (ih Heap.nil (Nat.div n 2))) (Heap.node (ih Heap.nil (Nat.div n 2)) none Heap.nil) (Nat.beq (Nat.mod n 2) 0)) (Heap.node Heap.nil x Heap.nil) (Nat.beq n 0))
  (fun l v r _ _=>Bool.rec (motive:=fun _=>Heap) (Bool.rec (motive:=fun _=>Heap) (Heap.node l v (ih r (Nat.div n 2))) (Heap.node (ih l (Nat.div n 2)) v r) (Nat.beq (Nat.mod n 2) 0)) (Heap.node l x r) (Nat.beq n 0)) t
def Heap.set (x:Option AObj) (f:Nat):Heap→Nat→Heap :=
 Nat.rec (motive:=fun _=>Heap→Nat→Heap) (fun t _=>t) (fun _ ih=>Heap.set1 x ih) f
structure St where
 h:Heap
 n:Nat
 m:Nat
def depth:Nat:=40
def yA (a b:Nat):Nat:=Bool.casesOn (motive:=fun _=>Nat) (Nat.ble a b) b a
def St.new (s:St) (o:AObj):St:=⟨Heap.set (some o) depth s.h s.n,Nat.succ s.n,s.m⟩
def St.put (s:St) (b:Nat) (o:AObj):St:=⟨Heap.set (some o) depth s.h b,s.n,yA s.m b⟩
def St.kill (s:St) (b:Nat):St:=⟨Heap.set none depth s.h b,s.n,yA s.m b⟩
def VI:Value→Option AV
 | .int k n=>some (.int k n)
 | .bool b=>some (.bool b)
 | .string s=>some (.str s)
 | .pointer none=>some .nilptr
 | .slice none n m=>if n=0∧m=0 then some .nilslice else none
 | .map none=>some .nilmap
 | .nilFunc=>some .nilfunc
 | .nilIface=>some .nilif
 | .func (.func f) a b=>match a.toList,b.toList with
  | [],[]=>some (.func f [] [])
  | _,_=>none
 | _=>none
def ZY:List Value→Option (List AV)
 | []=>some []
 | v::r=>match VI v,ZY r with
  | some a,some l=>some (a::l)
  | _,_=>none
def zsA:Value→Option AV
 | .agg cs=>match ZY cs.toList with
  | some l=>some (.agg l)
  | none=>none
 | v=>VI v
def vD (x:Nat):Nat:=Nat.mod x 1048576
def tag (t:Nat):Nat:=Nat.mul 1048576 (Nat.succ t)
def jv (P:Program) (t:TypeId):Option Nat:=match P.info? t with
 | some i=>some i.size
 | none=>none
def Yk (P:Program) (t:TypeId):Option Nat:=match P.info? t with
 | some i=>some i.bytes
 | none=>none
def Za (P:Program) (t:TypeId):Option (List AV):=match P.info? t with
 | some i=>match i.zero with
  | some z=>ZY z.cells.toList
  | none=>none
 | none=>none
def WOA (P:Program) (t:TypeId):Option AV:=match P.info? t with
 | some i=>match i.zero with
  | some z=>zsA z
  | none=>none
 | none=>none
def VfJ (P:Program) (t:TypeId):Option Bool:=match P.underlying t with
 | some (.struct _)=>some true
 | some (.array _ _)=>some true
 | some _=>some false
 | none=>none
def yH (P:Program) (t:TypeId):Option (Option Nat):=match VfJ P t,jv P t with
 | some true,some k=>some (some k)
 | some false,_=>some none
 | _,_=>none
def nth (l:List AV):Nat→AV :=
 List.rec (motive:=fun _=>Nat→AV) (fun _=>AV.bad) (fun a _ ih n=>Bool.rec (motive:=fun _=>AV) (ih (Nat.sub n 1)) a (Nat.beq n 0)) l
def YE:Nat→List AV→Option (List AV)
 | 0,_=>some []
 | _+1,[]=>none
 | n+1,a::l=>match YE n l with
  | some r=>some (a::r)
  | none=>none
def cut (o k:Nat):List AV→Option (List AV)
 | []=>match Nat.beq o 0 with
  | true=>YE k []
  | false=>none
 | a::l=>match Nat.beq o 0 with
  | true=>YE k (a::l)
  | false=>cut (Nat.sub o 1) k l
def wP:List AV→List AV→Option (List AV)
 | [],c=>some c
 | _::_,[]=>none
 | v::vs,_::c=>match wP vs c with
  | some r=>some (v::r)
  | none=>none
def over (o:Nat) (vs:List AV):List AV→Option (List AV)
 | []=>match Nat.beq o 0 with
  | true=>wP vs []
  | false=>none
 | a::c=>match Nat.beq o 0 with
  | true=>wP vs (a::c)
  | false=>match over (Nat.sub o 1) vs c with
   | some r=>some (a::r)
   | none=>none
def yW (sh:Option Nat) (cs:List AV) (off:Nat):AV:=match sh with
 | none=>nth cs off
 | some k=>match cut off k cs with
  | some l=>.agg l
  | none=>.bad
def jtQ (g:Nat):List (Nat × List Value)→Option (List Value)
 | []=>none
 | (a,l)::r=>match Nat.beq g a with
  | true=>some l
  | false=>jtQ g r
def Yd (g:Nat):Option (List Value):=jtQ g globs
def YgJ (g:Nat):Option (List AV):=match Yd g with
 | some l=>ZY l
 | none=>none
inductive ATarget where
 | fn (f:FuncId)
 | yield (l:Nat)
inductive ARes where
 | fail
 | val (v:AV) (s:St)
inductive Arg where
 | tmp (t:Nat)
 | con (v:AV)
def Arg.ev (a:Arg) (L:Env):AV:=Arg.casesOn (motive:=fun _=>AV) a (fun t=>L.find t) (fun v=>v)
def jL:Operand→Option Arg
 | .tmp t=>some (.tmp t)
 | .const v=>match zsA v with
  | some a=>some (.con a)
  | none=>none
 | .global g=>some (.con (.gptr g 0))
 | .func f=>some (.con (.func f [] []))
def jz:List Operand→Option (List Arg)
 | []=>some []
 | x::r=>match jL x,jz r with
  | some a,some l=>some (a::l)
  | _,_=>none
def evs:List Arg→Env→List AV
 | [],_=>[]
 | a::r,L=>a.ev L::evs r L
abbrev OpF:=Env→St→ARes
def wJJ (f:Nat→Nat→ARes) (h:Nat→Nat→ARes) (w:Nat→Nat→Nat→ARes) (v:AV):ARes :=
 AV.casesOn (motive_1:=fun _=>ARes) v ARes.fail (fun _ _=>ARes.fail) (fun _=>ARes.fail) (fun _=>ARes.fail) f ARes.fail (fun _ _ _ _ _=>ARes.fail) ARes.fail
  (fun _=>ARes.fail) ARes.fail (fun _ _ _=>ARes.fail) (fun _=>ARes.fail) ARes.fail ARes.fail (fun _=>ARes.fail) (fun _=>ARes.fail) (fun _ _=>ARes.fail) (fun _ _=>ARes.fail) h (fun _ _ _=>ARes.fail) w
def wZA (f:IntKind→Int→ARes) (v:AV):ARes :=
 AV.casesOn (motive_1:=fun _=>ARes) v ARes.fail f (fun _=>ARes.fail) (fun _=>ARes.fail) (fun _ _=>ARes.fail) ARes.fail (fun _ _ _ _ _=>ARes.fail) ARes.fail
  (fun _=>ARes.fail) ARes.fail (fun _ _ _=>ARes.fail) (fun _=>ARes.fail) ARes.fail ARes.fail (fun _=>ARes.fail) (fun _=>ARes.fail) (fun _ _=>ARes.fail) (fun _ _=>ARes.fail) (fun _ _=>ARes.fail) (fun _ _ _=>ARes.fail) (fun _ _ _=>ARes.fail)
def ygJ (f:Bool→ARes) (v:AV):ARes :=
 AV.casesOn (motive_1:=fun _=>ARes) v ARes.fail (fun _ _=>ARes.fail) f (fun _=>ARes.fail) (fun _ _=>ARes.fail) ARes.fail (fun _ _ _ _ _=>ARes.fail) ARes.fail
  (fun _=>ARes.fail) ARes.fail (fun _ _ _=>ARes.fail) (fun _=>ARes.fail) ARes.fail ARes.fail (fun _=>ARes.fail) (fun _=>ARes.fail) (fun _ _=>ARes.fail) (fun _ _=>ARes.fail) (fun _ _=>ARes.fail) (fun _ _ _=>ARes.fail) (fun _ _ _=>ARes.fail)
def wIJ (f:Nat→Nat→Nat→ARes) (w:Nat→Nat→Nat→ARes) (v:AV):ARes :=
 AV.casesOn (motive_1:=fun _=>ARes) v ARes.fail (fun _ _=>ARes.fail) (fun _=>ARes.fail) (fun _=>ARes.fail) (fun _ _=>ARes.fail) ARes.fail (fun b o n _ _=>f b o n) ARes.fail
  (fun _=>ARes.fail) ARes.fail (fun _ _ _=>ARes.fail) (fun _=>ARes.fail) ARes.fail ARes.fail (fun _=>ARes.fail) (fun _=>ARes.fail) (fun _ _=>ARes.fail) (fun _ _=>ARes.fail) (fun _ _=>ARes.fail) w (fun _ _ _=>ARes.fail)
def jsQ (f:List AV→ARes) (v:AV):ARes :=
 AV.casesOn (motive_1:=fun _=>ARes) v ARes.fail (fun _ _=>ARes.fail) (fun _=>ARes.fail) (fun _=>ARes.fail) (fun _ _=>ARes.fail) ARes.fail (fun _ _ _ _ _=>ARes.fail) ARes.fail
  (fun _=>ARes.fail) ARes.fail (fun _ _ _=>ARes.fail) (fun _=>ARes.fail) ARes.fail ARes.fail f (fun _=>ARes.fail) (fun _ _=>ARes.fail) (fun _ _=>ARes.fail) (fun _ _=>ARes.fail) (fun _ _ _=>ARes.fail) (fun _ _ _=>ARes.fail)
def vi (k:IntKind):Nat:=IntKind.casesOn (motive:=fun _=>Nat) k 0 1 2 3 4 5 6 7
def yo (k k':IntKind) (r:ARes):ARes:=Bool.casesOn (motive:=fun _=>ARes) (Nat.beq (vi k) (vi k')) ARes.fail r
def ints (f:IntKind→Int→Int→ARes) (x y:AV):ARes :=
 wZA (fun k a=>wZA (fun k' b=>yo k k' (f k a b)) y) x
def small (n:Int):Bool :=
 Int.casesOn (motive:=fun _=>Bool) n (fun m=>Nat.ble m 9223372036854775807) (fun m=>Nat.ble m 9223372036854775807)
def gR (k:IntKind) (n:Int):Int :=
 Bool.casesOn (motive:=fun _=>Int) (Nat.beq (vi k) 3) (k.wrap n) (Bool.casesOn (motive:=fun _=>Int) (small n) (k.wrap n) n)
def jI (s:St) (k:IntKind) (a b:Int):ARes:=.val (.int k (gR k (Int.add a b))) s
def yK (s:St) (k:IntKind) (a b:Int):ARes:=.val (.int k (gR k (Int.sub a b))) s
def yOA (s:St) (k:IntKind) (a b:Int):ARes:=.val (.int k (gR k (Int.mul a b))) s
def JI (s:St) (k:IntKind) (a b:Int):ARes:=if b=0 then .fail else .val (.int k (gR k (a.tdiv b))) s
def vZA (s:St) (k:IntKind) (a b:Int):ARes:=if b=0 then .fail else .val (.int k (a.tmod b)) s
def aAnd (s:St) (k:IntKind) (a b:Int):ARes:=.val (.int k (k.wrap (BitVec.ofInt k.bits a &&& BitVec.ofInt k.bits b).toNat)) s
def aOr (s:St) (k:IntKind) (a b:Int):ARes:=.val (.int k (k.wrap (BitVec.ofInt k.bits a ||| BitVec.ofInt k.bits b).toNat)) s
def VhJ (s:St) (k:IntKind) (a b:Int):ARes:=.val (.int k (k.wrap (BitVec.ofInt k.bits a ^^^ BitVec.ofInt k.bits b).toNat)) s
def jiQ (s:St) (k:IntKind) (a b:Int):ARes:=.val (.int k (k.wrap (BitVec.ofInt k.bits a &&& ~~~ BitVec.ofInt k.bits b).toNat)) s
def leI (a b:Int):Bool :=
 Int.casesOn (motive:=fun _=>Bool) a (fun m=>Int.casesOn (motive:=fun _=>Bool) b (fun n=>Nat.ble m n) (fun _=>false))
  (fun m=>Int.casesOn (motive:=fun _=>Bool) b (fun _=>true) (fun n=>Nat.ble n m))
def eqI (a b:Int):Bool :=
 Int.casesOn (motive:=fun _=>Bool) a (fun m=>Int.casesOn (motive:=fun _=>Bool) b (fun n=>Nat.beq m n) (fun _=>false))
  (fun m=>Int.casesOn (motive:=fun _=>Bool) b (fun _=>false) (fun n=>Nat.beq m n))
def YH (s:St) (_:IntKind) (a b:Int):ARes:=.val (.bool (eqI a b)) s
def wj (s:St) (_:IntKind) (a b:Int):ARes:=.val (.bool (!eqI a b)) s
def yR (s:St) (_:IntKind) (a b:Int):ARes:=.val (.bool (!leI b a)) s
def VlJ (s:St) (_:IntKind) (a b:Int):ARes:=.val (.bool (leI a b)) s
def VmJ (s:St) (_:IntKind) (a b:Int):ARes:=.val (.bool (!leI a b)) s
def viJ (s:St) (_:IntKind) (a b:Int):ARes:=.val (.bool (leI b a)) s
def JvA:BinOp→Option (St→IntKind→Int→Int→ARes)
 | .add=>some jI
 | .sub=>some yK
 | .mul=>some yOA
 | .quo=>some JI
 | .rem=>some vZA
 | .and=>some aAnd
 | .or=>some aOr
 | .xor=>some VhJ
 | .andNot=>some jiQ
 | .eql=>some YH
 | .neq=>some wj
 | .lss=>some yR
 | .leq=>some VlJ
 | .gtr=>some VmJ
 | .geq=>some viJ
 | _=>none
def zV (f:St→IntKind→Int→Int→ARes) (x y:Arg):OpF:=fun L s=>ints (f s) (x.ev L) (y.ev L)
def WvJ (s:St) (k:IntKind) (a:Int) (v:AV):ARes :=
 AV.casesOn (motive_1:=fun _=>ARes) v ARes.fail (fun k' b=>yo k k' (VmJ s k a b)) (fun _=>ARes.fail) (fun _=>ARes.fail) (fun _ _=>ARes.fail) ARes.fail (fun _ _ _ _ _=>ARes.fail) ARes.fail
  (fun _=>ARes.fail) ARes.fail (fun _ _ _=>ARes.fail) (fun _=>ARes.fail) ARes.fail ARes.fail (fun _=>ARes.fail) (fun _=>ARes.fail)
  (fun k' b=>yo k k' (Bool.casesOn (motive:=fun _=>ARes) (leI a b) ARes.fail (.val (.bool false) s))) (fun _ _=>ARes.fail) (fun _ _=>ARes.fail) (fun _ _ _=>ARes.fail) (fun _ _ _=>ARes.fail)
def JB (x y:Arg):OpF:=fun L s=>wZA (fun k a=>WvJ s k a (y.ev L)) (x.ev L)
def WYJ (s:St):AV→AV→ARes
 | .int k a,.int _ (.ofNat b)=>.val (.int k (k.wrap (a * 2 ^ (min b k.bits)))) s
 | _,_=>.fail
def gcJ (s:St):AV→AV→ARes
 | .int k a,.int _ (.ofNat b)=>.val (.int k (a.fdiv (2 ^ (min b k.bits)))) s
 | _,_=>.fail
def YUJ (x y:Arg):OpF:=fun L s=>WYJ s (x.ev L) (y.ev L)
def ZsA (x y:Arg):OpF:=fun L s=>gcJ s (x.ev L) (y.ev L)
def ZR:List UInt8→List UInt8→Bool
 | [],[]=>true
 | a::l,b::m=>match Nat.beq a.toNat b.toNat with
  | true=>ZR l m
  | false=>false
 | _,_=>false
def Yl (x y:ByteArray):Bool:=ZR x.data.toList y.data.toList
def vfQ (x y:ByteArray):ByteArray:=⟨⟨x.data.toList++y.data.toList⟩⟩
def ZyJ (op:BinOp) (s:St):AV→AV→ARes
 | .str x,.str y =>
  match op with
  | .add=>if x.size+y.size > 1000000 then .fail else .val (.str (vfQ x y)) s
  | .eql=>.val (.bool (Yl x y)) s
  | .neq=>.val (.bool !(Yl x y)) s
  | .lss=>.val (.bool (Op.bytesLess x.toList y.toList)) s
  | .leq=>.val (.bool (Op.bytesLess x.toList y.toList || x.toList == y.toList)) s
  | .gtr=>.val (.bool !(Op.bytesLess x.toList y.toList || x.toList == y.toList)) s
  | .geq=>.val (.bool !(Op.bytesLess x.toList y.toList)) s
  | _=>.fail
 | _,_=>.fail
def YTJ (op:BinOp) (x y:Arg):OpF:=fun L s=>ZyJ op s (x.ev L) (y.ev L)
inductive Cmp where
 | int
 | bool
 | str
 | nilP
 | nilS
 | nilM
 | nilF
 | row (l:List (Nat × Option Nat × Cmp))
def ZE (P:Program):Nat→TypeId→Option Cmp
 | 0,_=>none
 | d+1,t =>
  match P.underlying t with
  | some .bool=>some .bool
  | some (.int _)=>some .int
  | some .string=>some .str
  | some (.pointer e)=>match jv P e with
   | some (_+1)=>some .nilP
   | _=>none
  | some (.slice _)=>some .nilS
  | some (.map _ _)=>some .nilM
  | some (.func _ _ _)=>some .nilF
  | some (.struct fields) =>
   if P.stoodInHeld t then none else
   match fields.toList.foldr (fun f k=>match k with
    | none=>none
    | some l=>if f.name = "_" then none else match yH P f.type,ZE P d f.type with
     | some sh,some c=>some ((f.offset,sh,c)::l)
     | _,_=>none) (some []) with
   | some l=>some (.row l)
   | none=>none
  | some (.array len elem) =>
   match jv P elem,yH P elem,ZE P d elem with
   | some n,some sh,some c=>some (.row ((List.range len).map fun i=>(i * n,sh,c)))
   | _,_,_=>none
  | _=>none
mutual
def Cmp.eq:Cmp→AV→AV→Option Bool
 | .int,.int k a,.int k' b=>if k=k' then some (eqI a b) else none
 | .bool,.bool a,.bool b=>some (a == b)
 | .str,.str a,.str b=>some (a == b)
 | .nilP,.nilptr,.nilptr=>some true
 | .nilP,.ptr _ _,.nilptr=>some false
 | .nilP,.nilptr,.ptr _ _=>some false
 | .nilP,.ptr b o,.ptr b' o'=>match Nat.beq b b' with
  | true=>some (Nat.beq o o')
  | false=>none
 | .nilS,.nilslice,.nilslice=>some true
 | .nilS,.nilslice,.slice _ _ _ _ _=>some false
 | .nilS,.slice _ _ _ _ _,.nilslice=>some false
 | .nilS,.nilslice,.tail _ _=>some false
 | .nilS,.nilslice,.vs _ _ _=>some false
 | .nilS,.vs _ _ _,.nilslice=>some false
 | .nilS,.tail _ _,.nilslice=>some false
 | .nilM,.nilmap,.nilmap=>some true
 | .nilM,.nilmap,.map _=>some false
 | .nilM,.map _,.nilmap=>some false
 | .nilF,.nilfunc,.nilfunc=>some true
 | .nilF,.func _ _ _,.nilfunc=>some false
 | .nilF,.nilfunc,.func _ _ _=>some false
 | .nilF,.yield _,.nilfunc=>some false
 | .nilF,.nilfunc,.yield _=>some false
 | .row l,.agg xs,.agg ys=>Cmp.eqs l xs ys
 | _,_,_=>none
def Cmp.eqs:List (Nat × Option Nat × Cmp)→List AV→List AV→Option Bool
 | [],_,_=>some true
 | (o,sh,c)::l,xs,ys=>match Cmp.eq c (yW sh xs o) (yW sh ys o) with
  | some true=>Cmp.eqs l xs ys
  | r=>r
end
def vl:Nat:=12
def vVA (c:Cmp) (neg:Bool) (s:St) (x y:AV):ARes:=match Cmp.eq c x y with
 | some r=>.val (.bool (if neg then !r else r)) s
 | none=>.fail
def wuA (c:Cmp) (neg:Bool) (x y:Arg):OpF:=fun L s=>vVA c neg s (x.ev L) (y.ev L)
def veJ (P:Program) (op:BinOp) (t:TypeId) (x y:Arg):Option OpF :=
 match op,P.underlying t with
 | .shl,_=>some (YUJ x y)
 | .shr,_=>some (ZsA x y)
 | .gtr,some (.int _)=>some (JB x y)
 | op,some (.int _)=>match JvA op with
  | some f=>some (zV f x y)
  | none=>none
 | op,some .string=>some (YTJ op x y)
 | .eql,some _=>if P.eqGuardType P.depth t then none else match ZE P vl t with
  | some c=>some (wuA c false x y)
  | none=>none
 | .neq,some _=>if P.eqGuardType P.depth t then none else match ZE P vl t with
  | some c=>some (wuA c true x y)
  | none=>none
 | _,_=>none
def Zs (s:St) (v:AV):ARes:=ygJ (fun b=>.val (.bool !b) s) v
def YFJ (s:St):AV→ARes
 | .int k n=>.val (.int k (gR k (0 - n))) s
 | _=>.fail
def ZqJ (s:St):AV→ARes
 | .int k n=>.val (.int k (k.wrap (BitVec.ofInt k.bits (if k.signed then -1 else k.max) ^^^ BitVec.ofInt k.bits n).toNat)) s
 | _=>.fail
def kUn (f:St→AV→ARes) (x:Arg):OpF:=fun L s=>f s (x.ev L)
def unK (op:UnOp) (x:Arg):Option OpF:=match op with
 | .neg=>some (kUn YFJ x)
 | .xor=>some (kUn ZqJ x)
 | .not=>some (kUn Zs x)
 | _=>none
def jFJ (k:IntKind) (s:St):AV→ARes
 | .int _ n=>.val (.int k (gR k n)) s
 | _=>.fail
def VGJ (s:St):AV→ARes
 | .str b=>.val (.str b) s
 | _=>.fail
def wSJ (a b:Nat):List (Nat × Nat)→Bool
 | []=>false
 | (c,d)::r=>match Nat.beq a c,Nat.beq b d with
  | true,true=>true
  | _,_=>wSJ a b r
def JR (a b:Nat):Bool:=wSJ a b convs
def juQ (_s:St) (_v:AV):ARes:=.fail
def waJ (_k _tg:Nat) (_s:St) (_v:AV):ARes:=.fail
def jGJ (_s:St) (_v:AV):ARes:=.fail
def gVA (P:Program) (src dst:TypeId) (x:Arg):Option OpF :=
 match P.underlying src,P.underlying dst with
 | some (.pointer t),some .unsafePointer=>match jv P t with
  | some (_+1)=>some (kUn juQ x)
  | _=>none
 | some .unsafePointer,some (.pointer u)=>match jv P u with
  | some k=>match liesAt P P.depth u (k / P.cellsOf u) 0 u 1 with
   | true=>some (kUn (waJ k (tag u)) x)
   | false=>none
  | none=>none
 | some (.slice e),some .string=>match P.underlying e with
  | some (.int .u8)=>some (kUn jGJ x)
  | _=>none
 | _,_=>none
def weJ (P:Program) (src dst:TypeId) (x:Arg):Option OpF :=
 match P.underlying src,P.underlying dst with
 | some (.int _),some (.int k)=>some (kUn (jFJ k) x)
 | some .string,some .string=>some (kUn VGJ x)
 | _,_=>none
def zE (x:Arg):OpF:=fun L s=>.val (x.ev L) s
def JYA (s:St) (a b v:AV):ARes:=ygJ (fun c=>.val (Bool.casesOn (motive:=fun _=>AV) c b a) s) v
def yY (c a b:Arg):OpF:=fun L s=>JYA s (a.ev L) (b.ev L) (c.ev L)
def ZCJ (c:List AV) (sz:Nat) (s:St):ARes:=.val (.ptr s.n 0) (s.new (.cells c sz))
def jQ (z:List AV) (sz:Nat):OpF:=fun _ s=>ZCJ z sz s
def vXA (sz:Nat) (s:St):AV→ARes
 | .agg l=>ZCJ l sz s
 | .tup _=>.fail
 | .bad=>.fail
 | v=>ZCJ [v] sz s
def yF (sz:Nat) (x:Arg):OpF:=fun L s=>vXA sz s (x.ev L)
def cellsOf (k:Nat):AV→Option (List AV)
 | .agg l=>match Nat.beq l.length k with
  | true=>some l
  | false=>none
 | .tup _=>none
 | .bad=>none
 | v=>match Nat.beq k 1 with
  | true=>some [v]
  | false=>none
def ga:List (Nat × Nat × Arg)→Env→List AV→Option (List AV)
 | [],_,c=>some c
 | (o,k,x)::r,L,c=>match cellsOf k (x.ev L) with
  | none=>none
  | some vs=>match over o vs c with
   | some c=>ga r L c
   | none=>none
def yd (z:List AV) (parts:List (Nat × Nat × Arg)):OpF:=fun L s=>match ga parts L z with
 | some c=>.val (.agg c) s
 | none=>.fail
def zz (z:List AV) (len:Nat) (parts:List (Nat × Nat × Arg)):OpF:=fun L s=>match ga parts L z with
 | some c=>.val (.slice s.n 0 len len false) (s.new (.cells c 0))
 | none=>.fail
def gM (s:St) (b:Nat) (f:List AV→Nat→ARes):ARes:=match s.h.get b with
 | some (.cells c sz)=>f c sz
 | some (.fam c sz k _)=>f (c.take k) sz
 | _=>.fail
def zVA (v:Nat):List (Nat × Nat)→Option Nat
 | []=>none
 | (w,k)::r=>match Nat.beq v w with
  | true=>some k
  | false=>zVA v r
def gS (s:St) (b v:Nat):Option (List AV):=match s.h.get b with
 | some (.fam c _ _ vs)=>match zVA v vs with
  | some k=>some (c.take k)
  | none=>none
 | _=>none
def vAA (sh:Option Nat) (s:St) (b v o:Nat):ARes:=match gS s b v with
 | some c=>.val (yW sh c o) s
 | none=>.fail
def JmA (sh:Option Nat) (s:St) (g o:Nat):ARes:=match YgJ g with
 | some c=>.val (yW sh c o) s
 | none=>.fail
def Jx (sh:Option Nat) (s:St) (v:AV):ARes:=wJJ (fun b o=>gM s b fun c _=>.val (yW sh c o) s) (JmA sh s) (vAA sh s) v
def YDJ (v:AV) (r:ARes):ARes :=
 AV.casesOn (motive_1:=fun _=>ARes) v ARes.fail (fun _ _=>r) (fun _=>r) (fun _=>r) (fun _ _=>r) r (fun _ _ _ _ _=>r) r
  (fun _=>r) r (fun _ _ _=>r) (fun _=>r) r r (fun _=>r) (fun _=>r) (fun _ _=>r) (fun _ _=>r) (fun _ _=>r) (fun _ _ _=>r) (fun _ _ _=>r)
def okA (r:ARes):ARes:=ARes.casesOn (motive:=fun _=>ARes) r ARes.fail (fun v s=>YDJ v (.val v s))
def zI (sh:Option Nat) (a:Arg):OpF:=fun L s=>okA (Jx sh s (a.ev L))
def scalars:List AV→Bool
 | []=>true
 | v::r=>match v.scalar with
  | true=>scalars r
  | false=>false
def jM (k:Nat) (s:St) (v:AV):AV→ARes
 | .ptr b o=>match s.h.get b with
  | some (.cells c sz)=>match cellsOf k v with
   | none=>.fail
   | some vs=>match scalars vs with
    | false=>.fail
    | true=>match over o vs c with
     | some c=>.val .undef (s.put b (.cells c sz))
     | none=>.fail
  | _=>.fail
 | _=>.fail
def jD (k:Nat) (a x:Arg):OpF:=fun L s=>jM k s (x.ev L) (a.ev L)
def Zw (s:St):AV→ARes
 | .ptr b o=>.val (.ptr b o) s
 | .func f a b=>.val (.func f a b) s
 | .yield l=>.val (.yield l) s
 | .gptr g o=>.val (.gptr g o) s
 | .vp b w o=>.val (.vp b w o) s
 | _=>.fail
def JQ (f:FuncId) (first cap:List Arg):OpF:=fun L s=>.val (.func f (evs first L) (evs cap L)) s
def ZRJ:OpF:=fun _ s=>.val (.map s.n) (s.new (.map []))
def Jv (s:St):AV→ARes
 | .int _ _=>.val (.map s.n) (s.new (.map []))
 | _=>.fail
def vV (zero:List AV):Nat→List AV
 | 0=>[]
 | n+1=>zero++vV zero n
def limit:Nat:=1000000
def VO (z:List AV) (bytes:Nat) (s:St):AV→AV→ARes
 | .int _ (.ofNat l),.int _ (.ofNat c)=>match Nat.ble l c with
  | false=>.fail
  | true=>match Nat.ble (c * bytes) limit with
   | false=>.fail
   | true=>match Nat.ble c limit with
    | false=>.fail
    | true=>.val (.slice s.n 0 l c false) (s.new (.cells (vV z c) 0))
 | _,_=>.fail
def Wi (z:List AV) (bytes:Nat) (l c:Arg):OpF:=fun L s=>VO z bytes s (l.ev L) (c.ev L)
def gTA (P:Program) (src dst:TypeId) (x:Arg):Option OpF:=match JR src dst with
 | true=>gVA P src dst x
 | false=>weJ P src dst x
def Yo (y:Nat):AV→Option Nat
 | .int _ (.ofNat i)=>match Nat.ble i y with
  | true=>some i
  | false=>none
 | _=>none
def loA (h:Nat):Option AV→Option Nat
 | none=>some 0
 | some v=>Yo h v
def hiA (len m:Nat):Option AV→Option Nat
 | none=>some len
 | some v=>Yo m v
def ZN (len cap:Nat) (lo hi:Option AV):Option (Nat × Nat):=match hiA len cap hi with
 | none=>none
 | some h=>match loA h lo with
  | none=>none
  | some l=>some (l,h)
def Ze (lo hi:Option AV) (s:St):AV→ARes
 | .str b=>match ZN b.size b.size lo hi with
  | some (l,h)=>.val (.str (b.extract l h)) s
  | none=>.fail
 | _=>.fail
def yT (size:Nat) (lo hi:Option AV) (s:St):AV→ARes
 | .slice b o len cap ext=>match Nat.ble len cap with
  | false=>.fail
  | true=>match ZN len cap lo hi with
   | some (l,h)=>match Nat.beq cap l with
    | true=>if ext then .val (.tail b (o+l * size)) s else .val (.slice b o (h - l) 0 false) s
    | false=>.val (.slice b (o+l * size) (h - l) (cap - l) ext) s
   | none=>.fail
 | .nilslice=>match ZN 0 0 lo hi with
  | some _=>.val .nilslice s
  | none=>.fail
 | .tail b o=>match ZN 0 0 lo hi with
  | some _=>.val (.tail b o) s
  | none=>.fail
 | _=>.fail
def Zf (n size:Nat) (lo hi:Option AV) (s:St):AV→ARes
 | .ptr b o=>match ZN n n lo hi with
  | some (l,h)=>.val (.slice b (if n=l then o else o+l * size) (h - l) (n - l) false) s
  | none=>.fail
 | _=>.fail
def vx:Option Arg→Env→Option AV
 | none,_=>none
 | some a,L=>some (a.ev L)
def ZC (f:Option AV→Option AV→St→AV→ARes) (x:Arg) (lo hi:Option Arg):OpF:=fun L s=>f (vx lo L) (vx hi L) s (x.ev L)
def vr:Option Operand→Option (Option Arg)
 | none=>some none
 | some x=>match jL x with
  | some a=>some (some a)
  | none=>none
def YL (lo:Option AV) (hi mx:AV) (s:St):AV→ARes
 | .slice _ _ len cap _=>match Nat.ble len cap with
  | false=>.fail
  | true=>match Yo len mx with
   | none=>.fail
   | some m=>match Yo m hi with
    | none=>.fail
    | some h=>match loA h lo with
     | none=>.fail
     | some _=>.val .bad s
 | _=>.fail
def VOA (x:Arg) (lo:Option Arg) (hi mx:Arg):OpF:=fun L s=>YL (vx lo L) (hi.ev L) (mx.ev L) s (x.ev L)
def VdJ:Option Operand→Option Arg
 | none=>none
 | some x=>jL x
def zcA (P:Program) (t:TypeId) (x:Arg) (lo:Option Arg) (hi mx:Arg):Option OpF :=
 match P.underlying t with
 | some (.slice elem)=>match jv P elem with
  | some _=>some (VOA x lo hi mx)
  | none=>none
 | _=>none
def wIA (P:Program) (t:TypeId) (x:Arg) (lo hi:Option Arg):Option OpF :=
 match P.underlying t with
 | some .string=>some (ZC Ze x lo hi)
 | some (.slice elem)=>match jv P elem with
  | some size=>some (ZC (yT size) x lo hi)
  | none=>none
 | some (.array n elem)=>match jv P elem with
  | some size=>some (ZC (Zf n size) x lo hi)
  | none=>none
 | _=>none
def zS (off:Nat) (s:St) (v:AV):ARes:=wJJ (fun b o=>.val (.ptr b (Nat.add o off)) s) (fun g o=>.val (.gptr g (Nat.add o off)) s) (fun b w o=>.val (.vp b w (Nat.add o off)) s) v
def WS (sh:Option Nat) (off:Nat) (s:St) (v:AV):ARes:=jsQ (fun cs=>okA (.val (yW sh cs off) s)) v
def JyJ (f:Nat→ARes) (v:AV):ARes:=wZA (fun _ i=>Int.casesOn (motive:=fun _=>ARes) i f (fun _=>ARes.fail)) v
def Zo (s:St) (b o len size i:Nat):ARes:=Bool.casesOn (motive:=fun _=>ARes) (Nat.ble (Nat.succ i) len) ARes.fail (.val (.ptr b (Nat.add o (Nat.mul i size))) s)
def jqA (s:St) (g o len size i:Nat):ARes:=Bool.casesOn (motive:=fun _=>ARes) (Nat.ble (Nat.succ i) len) ARes.fail (.val (.gptr g (Nat.add o (Nat.mul i size))) s)
def jpA (s:St) (b w len size i:Nat):ARes:=Bool.casesOn (motive:=fun _=>ARes) (Nat.ble (Nat.succ i) len) ARes.fail (.val (.vp b w (Nat.mul i size)) s)
def jX (size:Nat) (s:St) (x v:AV):ARes:=JyJ (fun i=>wIJ (fun b o len=>Zo s b o len size i) (fun b w len=>jpA s b w len size i) x) v
def jHA (n size:Nat) (s:St) (x v:AV):ARes:=JyJ (fun i=>wJJ (fun b o=>Zo s b o n size i) (fun g o=>jqA s g o n size i) (fun _ _ _=>.fail) x) v
def vCJ (n size:Nat) (sh:Option Nat) (s:St) (x:AV):AV→ARes
 | .int _ (.ofNat i)=>match x with
  | .agg cs=>match Nat.ble (Nat.succ i) n with
   | true=>okA (.val (yW sh cs (Nat.mul i size)) s)
   | false=>.fail
  | _=>.fail
 | _=>.fail
def vBJ (s:St) (x:AV):AV→ARes
 | .int _ (.ofNat i)=>match x with
  | .str b=>match b[i]? with
   | some c=>.val (.int .u8 c.toNat) s
   | none=>.fail
  | _=>.fail
 | _=>.fail
def jJ (f:St→AV→AV→ARes) (x y:Arg):OpF:=fun L s=>f s (x.ev L) (y.ev L)
def VNA (P:Program):Nat→TypeId→Bool
 | 0,_=>false
 | d+1,t=>match P.underlying t with
  | some .bool | some (.int _) | some .string=>true
  | some (.struct fs)=>fs.all fun f=>VNA P d f.type
  | some (.array _ e)=>VNA P d e
  | _=>false
def wqA (P:Program) (t:TypeId):Option Cmp:=match VNA P vl t with
 | true=>ZE P vl t
 | false=>none
def ZG (c:Cmp) (k:AV):List (AV × AV)→Nat→Option (Option (Nat × AV))
 | [],_=>some none
 | (k',v)::es,i=>match Cmp.eq c k k' with
  | some true=>some (some (i,v))
  | some false=>ZG c k es (Nat.succ i)
  | none=>none
def JQA:AV→AV→Bool
 | .int k a,.int k' b=>Nat.beq (vi k) (vi k') && eqI a b
 | .bool a,.bool b=>a == b
 | .str a,.str b=>a == b
 | _,_=>false
def Zi:List AV→List AV→Bool
 | [],[]=>true
 | a::l,b::m=>JQA a b && Zi l m
 | _,_=>false
def JaJ (a b:AV):Bool:=match a with
 | .agg l=>match b with
  | .agg m=>Zi l m
  | _=>false
 | a=>JQA a b
def Wh (c:Cmp) (k:AV):Bool:=match Cmp.eq c k k with
 | some true=>true
 | _=>false
def Ye (ok:Bool) (zero:AV) (s:St):Option (Option (Nat × AV))→ARes
 | none=>.fail
 | some none=>.val (if ok then .tup [zero,.bool false] else zero) s
 | some (some (_,v))=>.val (if ok then .tup [v,.bool true] else v) s
def jBA (c:Cmp) (zero:AV) (ok:Bool) (s:St) (k:AV):AV→ARes
 | .nilmap=>match Wh c k with
  | true=>Ye ok zero s (some none)
  | false=>.fail
 | .map b=>match s.h.get b with
  | some (.map es)=>match Wh c k with
   | true=>Ye ok zero s (ZG c k es 0)
   | false=>.fail
  | _=>.fail
 | _=>.fail
def jGA (c:Cmp) (zero:AV) (ok:Bool) (m k:Arg):OpF:=fun L s=>jBA c zero ok s (k.ev L) (m.ev L)
def jhA:List (AV × AV)→Nat→AV × AV→List (AV × AV)
 | [],_,_=>[]
 | _::l,0,x=>x::l
 | a::l,n+1,x=>a::jhA l n x
def zdJ:List (AV × AV)→Nat→AV
 | [],_=>.bad
 | (k,_)::_,0=>k
 | _::l,n+1=>zdJ l n
def YdA (c:Cmp) (s:St) (k v:AV):AV→ARes
 | .map b=>match s.h.get b with
  | some (.map es)=>match Wh c k with
   | false=>.fail
   | true=>match ZG c k es 0 with
    | some (some (i,_))=>match JaJ (zdJ es i) k with
     | true=>.val .undef (s.put b (.map (jhA es i (k,v))))
     | false=>.fail
    | some none=>.val .undef (s.put b (.map (es++[(k,v)])))
    | none=>.fail
  | _=>.fail
 | _=>.fail
def known:AV→Bool
 | .bad=>false
 | _=>true
def wsA (c:Cmp) (m k v:Arg):OpF:=fun L s=>match known (v.ev L) with
 | true=>YdA c s (k.ev L) (v.ev L) (m.ev L)
 | false=>.fail
def delA (_c:Cmp) (_s:St) (_k:AV) (_m:AV):ARes:=.fail
def YXJ (c:Cmp) (m k:Arg):OpF:=fun L s=>delA c s (k.ev L) (m.ev L)
def WkJ:List AV→Nat→Option AV
 | [],_=>none
 | a::_,0=>some a
 | _::l,n+1=>WkJ l n
def Jo (i:Nat) (s:St):AV→ARes
 | .tup vs=>match WkJ vs i with
  | some v=>.val v s
  | none=>.fail
 | _=>.fail
def JC (size n:Nat) (s:St):AV→Option (List AV)
 | .slice b o _ _ _=>match s.h.get b with
  | some (.cells c _)=>cut o (n * size) c
  | some (.fam c _ k _)=>cut o (n * size) (c.take k)
  | _=>none
 | .vs b w _=>match gS s b w with
  | some c=>cut 0 (n * size) c
  | none=>none
 | .nilslice=>match Nat.beq n 0 with
  | true=>some []
  | false=>none
 | .tail _ _=>match Nat.beq n 0 with
  | true=>some []
  | false=>none
 | .str b=>some ((b.extract 0 n).data.toList.map fun x=>.int .u8 x.toNat)
 | _=>none
def YPJ:AV→Option Nat
 | .slice _ _ n _ _=>some n
 | .nilslice=>some 0
 | .tail _ _=>some 0
 | .str s=>some s.size
 | .vs _ _ n=>some n
 | _=>none
def wD (size bytes tg n:Nat) (new:List AV) (s:St):AV→ARes
 | .nilslice=>match Nat.beq n 0 with
  | true=>.val .nilslice s
  | false=>match Nat.ble (n * bytes) limit with
   | false=>.fail
   | true=>.val (.slice s.n 0 n n true) (s.new (.cells new (size+tg)))
 | .slice b o len cap ext=>match s.h.get b with
  | some (.cells c sz)=>match Nat.ble (len+n) cap with
   | true=>match over (o+len * size) new c with
    | some c=>.val (.slice b o (len+n) cap ext) (s.put b (.cells c sz))
    | none=>.fail
   | false=>match Nat.ble ((len+n) * bytes) limit with
    | false=>.fail
    | true=>match ext with
     | true =>
      if len=cap∧c.length=o+len * size∧vD sz=size then
       .val (.slice s.n 0 (len+n) (len+n) true) ((s.kill b).new (.cells (c.drop o++new) (if o=0∧sz=size+tg then sz else size)))
      else .fail
     | false=>match cut o (len * size) c with
      | some old=>.val (.slice s.n 0 (len+n) (len+n) true) (s.new (.cells (old++new) (size+tg)))
      | none=>.fail
  | _=>.fail
 | .tail b o=>match Nat.beq n 0 with
  | true=>.val (.tail b o) s
  | false=>match Nat.ble (n * bytes) limit with
   | false=>.fail
   | true=>match s.h.get b with
    | some (.cells c sz)=>if c.length=o∧vD sz=size then .val (.slice s.n 0 n n true) ((s.kill b).new (.cells new size)) else .fail
    | _=>.fail
 | _=>.fail
def St.bump (s:St):St:=⟨s.h,Nat.succ s.n,s.m⟩
def gG (v:Nat):List (Nat × Nat)→Option (Nat × List (Nat × Nat))
 | []=>none
 | (w,k)::r=>match Nat.beq v w with
  | true=>some (k,(w,k)::r)
  | false=>gG v r
def Wd (k:Nat):List (Nat × Nat)→Bool
 | []=>true
 | (_,j)::r=>match Nat.ble j k with
  | true=>Wd k r
  | false=>false
def yIA (size b k0 k len n:Nat) (c new:List AV) (rest:List (Nat × Nat)) (s:St):ARes :=
 if k=len * size∧k≤c.length∧0<n∧Wd k ((b,k0)::rest)=true then .val (.vs b s.n (len+n)) (s.put b (.fam (c.take k++new) size k0 ((s.n,k+new.length)::rest))).bump else .fail
def jLA (size bytes tg n:Nat) (new:List AV) (s:St) (x:AV):ARes:=match x with
 | .slice b o len cap true=>match Nat.ble ((len+n) * bytes) limit,Nat.beq o 0,Nat.beq len cap with
  | true,true,true=>match s.h.get b with
   | some (.cells c sz)=>if c.length=len * size∧vD sz=size then yIA size b c.length c.length len n c new [] s else .fail
   | some (.fam c sz k _)=>if sz=size then yIA size b k k len n c new [] s else .fail
   | _=>.fail
  | _,_,_=>.fail
 | .vs b v len=>match Nat.ble ((len+n) * bytes) limit with
  | true=>match s.h.get b with
   | some (.fam c sz k0 vs)=>match gG v vs with
    | some (k,rest)=>if sz=size then yIA size b k0 k len n c new rest s else .fail
    | none=>.fail
   | _=>.fail
  | false=>.fail
 | x=>wD size bytes tg n new s x
def YeJ (x y t:Nat):List (Nat × Nat × Nat)→Bool
 | []=>false
 | (a,b,c)::r=>match Nat.beq x a,Nat.beq y b,Nat.beq t c with
  | true,true,true=>true
  | _,_,_=>YeJ x y t r
def vTQ (t:TypeId) (x y:Arg):Bool:=match x,y with
 | .tmp a,.tmp b=>YeJ a b t fams
 | _,_=>false
def jT (fm:Bool) (size bytes tg:Nat) (s:St) (x y:AV):ARes:=match YPJ y with
 | none=>.fail
 | some n=>match JC size n s y with
  | none=>.fail
  | some new=>match Nat.beq new.length (n * size) with
   | false=>.fail
   | true=>match scalars new with
    | true=>match fm with
     | true=>jLA size bytes tg n new s x
     | false=>wD size bytes tg n new s x
    | false=>.fail
def JX (z:List AV) (size bytes tg:Nat) (s:St) (x:AV):AV→ARes
 | .int _ (.ofNat n)=>match Nat.ble (n * bytes) limit with
  | false=>.fail
  | true=>match scalars (vV z n) with
   | true=>wD size bytes tg n (vV z n) s x
   | false=>.fail
 | _=>.fail
def wdJ (_size:Nat) (_s:St) (_x _y:AV):ARes:=.fail
def VfA (_z:List AV) (_s:St) (_x:AV):ARes:=.fail
def zq (s:St):AV→ARes
 | .slice _ _ n _ _=>.val (.int .i64 (Int.ofNat n)) s
 | .nilslice=>.val (.int .i64 0) s
 | .tail _ _=>.val (.int .i64 0) s
 | .vs _ _ n=>.val (.int .i64 (Int.ofNat n)) s
 | _=>.fail
def jCA (s:St):AV→ARes
 | .str b=>.val (.int .i64 (Int.ofNat b.size)) s
 | _=>.fail
def YW (s:St):AV→ARes
 | .nilmap=>.val (.int .i64 0) s
 | .map b=>match s.h.get b with
  | some (.map es)=>.val (.int .i64 (Int.ofNat es.length)) s
  | _=>.fail
 | _=>.fail
def YTA (s:St):AV→ARes
 | .slice _ _ _ c false=>.val (.int .i64 (Int.ofNat c)) s
 | .slice _ _ _ c true=>.val (.ge .i64 (Int.ofNat c)) s
 | .tail _ _=>.val (.ge .i64 0) s
 | .nilslice=>.val (.int .i64 0) s
 | _=>.fail
def yjJ:AV→AV→AV
 | .int k x,.int _ y=>.int k (match leI x y with | true=>x | false=>y)
 | _,_=>.bad
def jvA:AV→AV→AV
 | .int k x,.int _ y=>.int k (match leI y x with | true=>x | false=>y)
 | _,_=>.bad
def VX (f:AV→AV→AV):AV→List AV→AV
 | x,[]=>x
 | x,y::r=>VX f (f x y) r
def gY (f:AV→AV→AV) (x:Arg) (r:List Arg):OpF:=fun L s=>okA (.val (VX f (x.ev L) (evs r L)) s)
def Wo (_s:St) (_v:AV):ARes:=.fail
def Zc (_tsz:Nat) (_s:St) (_x _n:AV):ARes:=.fail
def Zb (P:Program) (ts:Array TypeId) (x n:Arg):Option OpF:=match ts.toList with
 | [pt,_]=>match P.underlying pt with
  | some (.pointer u)=>match Nat.beq (P.cellsOf u) 1 with
   | true=>some (jJ (Zc (1+tag u)) x n)
   | false=>none
  | _=>none
 | _=>none
def ZJ (P:Program) (t:Option TypeId):Option Bool:=match t with
 | some t=>match P.underlying t with
  | some (.int _)=>some true
  | some (.slice _)=>some false
  | some .string=>some false
  | _=>none
 | none=>some false
def WpJ (P:Program) (t:TypeId) (x:Arg):Option OpF:=match P.underlying t with
 | some .string=>some (kUn jCA x)
 | some (.slice _)=>some (kUn zq x)
 | some (.map _ _)=>some (kUn YW x)
 | some (.array n _)=>some (zE (.con (.int .i64 n)))
 | _=>none
def jcQ (P:Program) (t:TypeId) (x:Arg):Option OpF:=match P.underlying t with
 | some (.slice _)=>some (kUn YTA x)
 | some (.array n _)=>some (zE (.con (.int .i64 n)))
 | _=>none
def jUA (P:Program) (ts:Array TypeId) (x y:Arg):Option OpF:=match ts[0]? with
 | none=>none
 | some t=>match P.underlying t with
  | some (.slice elem)=>match jv P elem,Yk P elem,Za P elem with
   | some size,some bytes,some zero =>
    if size=0∨bytes=0∨zero.length≠size∨1048576≤size then none else
    match ZJ P ts[1]? with
    | some false=>some (jJ (jT (vTQ t x y) size bytes (tag elem)) x y)
    | some true=>some (jJ (JX zero size bytes (tag elem)) x y)
    | none=>none
   | _,_,_=>none
  | _=>none
def jIJ (P:Program) (ts:Array TypeId) (x y:Arg):Option OpF:=match ts[0]? with
 | none=>none
 | some t=>match P.underlying t with
  | some (.slice elem)=>match jv P elem with
   | some size=>some (jJ (wdJ size) x y)
   | none=>none
  | _=>none
def gZA (P:Program) (ts:Array TypeId) (x:Arg):Option OpF:=match ts[0]? with
 | none=>none
 | some t=>match P.underlying t with
  | some (.slice elem)=>match Za P elem with
   | some z=>some (kUn (VfA z) x)
   | none=>none
  | _=>none
def vn (P:Program) (b:Builtin) (ts:Array TypeId) (args:List Arg):Option OpF :=
 match b,args with
 | .len,[x]=>match ts[0]? with
  | some t=>WpJ P t x
  | none=>none
 | .cap,[x]=>match ts[0]? with
  | some t=>jcQ P t x
  | none=>none
 | .append,[x,y]=>jUA P ts x y
 | .copy,[x,y]=>jIJ P ts x y
 | .clear,[x]=>gZA P ts x
 | .unsafeSliceData,[x]=>some (kUn Wo x)
 | .unsafeString,[x,n]=>Zb P ts x n
 | .min,x::r=>some (gY yjJ x r)
 | .max,x::r=>some (gY jvA x r)
 | .delete,[m,k]=>match ts[0]? with
  | some t=>match P.underlying t with
   | some (.map key _)=>match wqA P key with
    | some c=>some (YXJ c m k)
    | none=>none
   | _=>none
  | none=>none
 | _,_=>none
def VG (place:Nat→Option (Nat × Nat)):List (Nat × Operand)→Option (List (Nat × Nat × Arg))
 | []=>some []
 | (i,x)::r=>match place i,jL x,VG place r with
  | some (o,k),some a,some l=>some ((o,k,a)::l)
  | _,_,_=>none
def fieldPlace (P:Program) (fields:Array Field) (i:Nat):Option (Nat × Nat):=match fields[i]? with
 | some f=>match jv P f.type with
  | some n=>some (f.offset,n)
  | none=>none
 | none=>none
def gfA (P:Program) (t:TypeId) (parts:List (Nat × Operand)):Option OpF :=
 match Za P t,P.underlying t with
 | some z,some (.struct fields)=>if fields.toList.all (fun f=>(jv P f.type).isSome) then
   match VG (fieldPlace P fields) parts with
   | some l=>some (yd z l)
   | none=>none
  else none
 | some z,some (.array _ elem)=>match jv P elem with
  | some size=>match VG (fun i=>some (i * size,size)) parts with
   | some l=>some (yd z l)
   | none=>none
  | none=>none
 | _,_=>none
def gm (P:Program) (t:TypeId) (len:Nat) (parts:List (Nat × Operand)):Option OpF :=
 match P.underlying t with
 | some (.slice elem)=>match jv P elem,Za P elem with
  | some size,some z =>
   if len * size > limit∨z.length≠size then none else
   match VG (fun i=>some (i * size,size)) parts with
   | some l=>some (zz (vV z len) len l)
   | none=>none
  | _,_=>none
 | _=>none
def zyA (P:Program) (t:TypeId):Option (Cmp × Option AV):=match P.underlying t with
 | some (.map key elem)=>match wqA P key with
  | some c=>some (c,WOA P elem)
  | none=>none
 | _=>none
def one (f:Arg→Option OpF) (x:Operand):Option OpF:=match jL x with
 | some a=>f a
 | none=>none
def two (f:Arg→Arg→Option OpF) (x y:Operand):Option OpF:=match jL x,jL y with
 | some a,some b=>f a b
 | _,_=>none
def three (f:Arg→Arg→Arg→Option OpF) (x y z:Operand):Option OpF:=match jL x,jL y,jL z with
 | some a,some b,some c=>f a b c
 | _,_,_=>none
def Vy (_size:Nat) (_s:St) (_x _y:AV):ARes:=.fail
def vfA (_sz:Nat) (_s:St) (_x:AV):ARes:=.fail
def WJ (P:Program) (f:FuncId) (args:List Operand):Option OpF:=match P.funcs[f]? with
 | none=>none
 | some fn=>match fn.body with
  | some _=>none
  | none=>if fn.name = "slices.overlaps[int]"∧fn.origin = "slices.overlaps" then
    match fn.params[0]?,jz args with
    | some t,some [x,y]=>match P.underlying t with
     | some (.slice elem)=>match jv P elem with
      | some size=>some (jJ (Vy size) x y)
      | none=>none
     | _=>none
    | _,_=>none
   else if fn.name = "internal/abi.NoEscape"∧fn.origin = "" then match jz args with
    | some [x]=>some (zE x)
    | _=>none
   else if fn.name = "internal/bytealg.MakeNoZero"∧fn.origin = "" then match fn.resultTypes.toList,jz args with
    | [t],some [x]=>match P.underlying t with
     | some (.slice elem)=>some (kUn (vfA (1+tag elem)) x)
     | _=>none
    | _,_=>none
   else none
def Jm:Op→Bool
 | .call { callee:=.value _,.. }=>true
 | _=>false
def opK (P:Program) (op:Op):Option OpF :=
 match op with
 | .move x | .assign x=>one (fun a=>some (zE a)) x
 | .pick c a b=>three (fun c a b=>some (yY c a b)) c a b
 | .alloc t=>match Za P t with
  | some z=>some (jQ z (tag t))
  | none=>none
 | .box t x=>one (fun a=>some (yF (tag t) a)) x
 | .build t parts=>gfA P t parts.toList
 | .buildSlice t len parts=>gm P t len parts.toList
 | .load t a=>match yH P t with
  | some sh=>one (fun a=>some (zI sh a)) a
  | none=>none
 | .store t a x=>match jv P t with
  | some k=>two (fun a x=>some (jD k a x)) a x
  | none=>none
 | .nilCheck x=>one (fun a=>some (kUn Zw a)) x
 | .binOp op t x y _=>two (veJ P op t) x y
 | .unOp op _ x=>one (unK op) x
 | .convert a b x=>one (gTA P a b) x
 | .makeFunc (.func f) first cap=>match jz first.toList,jz cap.toList with
  | some l,some r=>some (JQ f l r)
  | _,_=>none
 | .makeMap _ none=>some ZRJ
 | .makeMap t (some r)=>match P.underlying t with
  | some (.map _ _)=>one (fun a=>some (kUn Jv a)) r
  | _=>none
 | .makeSlice t l c=>match P.underlying t with
  | some (.slice elem)=>match jv P elem,Yk P elem,Za P elem with
   | some size,some bytes,some z=>if z.length≠size then none else two (fun l c=>some (Wi z bytes l c)) l c
   | _,_,_=>none
  | _=>none
 | .slice t x lo hi mx=>match mx with
  | none=>match jL x,vr lo,vr hi with
   | some x,some lo,some hi=>wIA P t x lo hi
   | _,_,_=>none
  | some m=>match jL x,vr lo,VdJ hi,jL m with
   | some x,some lo,some hi,some m=>zcA P t x lo hi m
   | _,_,_,_=>none
 | .fieldAddr t x i=>match P.underlying t with
  | some (.struct fs)=>match fieldPlace P fs i with
   | some (off,_+1)=>one (fun a=>some (kUn (zS off) a)) x
   | _=>none
  | _=>none
 | .field t x i=>match P.underlying t with
  | some (.struct fs)=>match fs[i]? with
   | some f=>match yH P f.type with
    | some sh=>one (fun a=>some (kUn (WS sh f.offset) a)) x
    | none=>none
   | none=>none
  | _=>none
 | .indexAddr t x ix=>match P.underlying t with
  | some (.slice elem)=>match jv P elem with
   | some size=>two (fun x i=>some (jJ (jX size) x i)) x ix
   | none=>none
  | some (.array n elem)=>match jv P elem with
   | some size=>two (fun x i=>some (jJ (jHA n size) x i)) x ix
   | none=>none
  | _=>none
 | .index t x ix=>match P.underlying t with
  | some .string=>two (fun x i=>some (jJ vBJ x i)) x ix
  | some (.array n elem)=>match jv P elem,yH P elem with
   | some size,some sh=>two (fun x i=>some (jJ (vCJ n size sh) x i)) x ix
   | _,_=>none
  | _=>none
 | .lookup t m k ok=>match zyA P t with
  | some (c,some z)=>two (fun m k=>some (jGA c z ok m k)) m k
  | _=>none
 | .mapUpdate t m k v | .insert t m k v=>match zyA P t with
  | some (c,_)=>three (fun m k v=>some (wsA c m k v)) m k v
  | none=>none
 | .extract t i=>one (fun a=>some (kUn (Jo i) a)) t
 | .call { callee:=.builtin b,args,argTypes }=>match jz args.toList with
  | some l=>vn P b argTypes l
  | none=>none
 | .call { callee:=.value (.func f),args,.. }=>WJ P f args.toList
 | _=>none
inductive Ex where
 | norm
 | exit (id:Nat)
 | ret
structure Ctx where
 fn:FuncId
 rnd:Option Nat
 nt:Nat
 xs:List Nat
inductive CRes where
 | fail
 | val (v:AV) (s:St)
abbrev zR:=ATarget→List AV→St→ARes
inductive ORes where
 | fail
 | ok (L:Env) (s:St)
abbrev zF:=zR→Env→St→ORes
def zJ:zF:=fun _ L s=>.ok L s
def VDA (no:Unit→ORes) (f:Bool→ORes) (v:AV):ORes :=
 AV.casesOn (motive_1:=fun _=>ORes) v ORes.fail (fun _ _=>ORes.fail) f (fun _=>ORes.fail) (fun _ _=>ORes.fail) ORes.fail (fun _ _ _ _ _=>ORes.fail) ORes.fail
  (fun _=>ORes.fail) ORes.fail (fun _ _ _=>ORes.fail) (fun _=>ORes.fail) ORes.fail ORes.fail (fun _=>ORes.fail) (fun l=>List.casesOn (motive:=fun _=>ORes) l (no ()) (fun _ _=>ORes.fail)) (fun _ _=>ORes.fail) (fun _ _=>ORes.fail) (fun _ _=>ORes.fail) (fun _ _ _=>ORes.fail) (fun _ _ _=>ORes.fail)
def oIf (t:Nat) (want:Bool) (o:zF) (skip:zF):zF:=fun cl L s =>
 VDA (fun _=>skip cl L s) (fun b=>Bool.casesOn (motive:=fun _=>ORes) (b == want) (skip cl L s) (o cl L s)) (L.find t)
inductive Dst where
 | none
 | tmp (t:Nat)
def vWA (nt:Nat):Option Tmp→Option Dst
 | .none=>some .none
 | .some t=>if t<nt then some (.tmp t) else .none
def Dst.put (d:Dst) (v:AV) (L:Env):Env:=Dst.casesOn (motive:=fun _=>Env) d L (fun t=>.cons t v L)
def zC (d:Dst) (f:OpF) (rest:zF):zF:=fun cl L s =>
 ARes.casesOn (motive:=fun _=>ORes) (f L s) ORes.fail (fun v s=>rest cl (d.put v L) s)
def wh (cl:zR) (args:List AV) (s:St):AV→ARes
 | .func f first cap=>cl (.fn f) (first++args++cap) s
 | .yield l=>cl (.yield l) args s
 | _=>.fail
def zo (d:Dst) (f:Arg) (args:List Arg) (rest:zF):zF:=fun cl L s =>
 ARes.casesOn (motive:=fun _=>ORes) (wh cl (evs args L) s (f.ev L)) ORes.fail (fun v s=>rest cl (d.put v L) s)
def jE (d:Dst) (rest:zF):zF:=fun cl L s=>rest cl (d.put .undef L) s
def zKJ:zF:=fun _ _ _=>.fail
def geA (d:Dst) (rest:zF):Op→Option zF
 | .call { callee:=.value f,args,.. }=>match jL f,jz args.toList with
  | some f,some l=>some (zo d f l rest)
  | _,_=>some zKJ
 | _=>some zKJ
def zHJ (P:Program) (d:Dst) (op:Op) (rest:zF):Option zF:=match opK P op with
 | some f=>some (zC d f rest)
 | none=>geA d rest op
def VU (ops:Array Oper) (d:Dst) (k rest:zF):Option (Nat × Bool)→Option zF
 | none=>some k
 | some (j,want)=>match (ops[j]?).bind (·.dst) with
  | some t=>some (oIf t want k (jE d rest))
  | none=>none
def yZJ (P:Program) (nt:Nat) (ops:Array Oper):List Oper→Option zF
 | []=>some zJ
 | o::r=>match yZJ P nt ops r with
  | none=>none
  | some rest=>match vWA nt o.dst with
   | none=>none
   | some d=>match zHJ P d o.op rest with
    | none=>none
    | some k=>VU ops d k rest o.guard
def far:Nat:=1000000000
def ye:List Operand→List Nat
 | []=>[]
 | .tmp t::r=>t::ye r
 | _::r=>ye r
def yD:Op→Nat
 | .convert a b _=>match JR a b with
  | true=>3
  | false=>0
 | .move _ | .assign _ | .pick _ _ _ | .build _ _ | .nilCheck _ | .binOp _ _ _ _ _ | .unOp _ _ _ | .makeFunc _ _ _ | .slice _ _ _ _ _ | .fieldAddr _ _ _
 | .field _ _ _ | .indexAddr _ _ _ | .index _ _ _ | .extract _ _=>0
 | .alloc _ | .box _ _ | .buildSlice _ _ _ | .makeMap _ _ | .makeSlice _ _ _=>1
 | .load _ _ | .lookup _ _ _ _=>2
 | .call { callee:=.builtin .cap,.. } | .call { callee:=.builtin .min,.. } | .call { callee:=.builtin .max,.. }=>0
 | .call { callee:=.builtin .len,.. }=>2
 | .call { callee:=.builtin .unsafeSliceData,.. }=>0
 | _=>3
def yf (ops:Array Oper) (o:Oper):List Nat:=match o.guard with
 | none=>ye o.op.operands.toList
 | some (j,_)=>match (ops[j]?).bind (·.dst) with
  | some t=>t::ye o.op.operands.toList
  | none=>ye o.op.operands.toList
structure DOp where
 dst:Option Nat
 looks:List Nat
 cls:Nat
 mask:Nat
 call:Bool
 ad:Option Nat
def vYA (op:Op):Option Nat:=match op.operands.toList with
 | .tmp t::_=>some t
 | _=>none
def Jg:List DOp→Nat→Nat
 | [],_=>0
 | d::_,0=>d.mask
 | _::r,n+1=>Jg r n
def always (e:Edge):Bool:=match e.ground with
 | .textOnly _=>false
 | .gcOnly _=>false
 | _=>true
def VN (ds:List DOp):List Edge→Nat
 | []=>0
 | e::r=>match always e with
  | true=>Nat.lor (Nat.lor (Nat.pow 2 e.on) (Jg ds e.on)) (VN ds r)
  | false=>VN ds r
def inGc (e:Edge):Bool:=match e.ground with
 | .textOnly _=>false
 | _=>true
def Yh (i:Nat):List Edge→Bool
 | []=>true
 | e::r=>match e.ground with
  | .gcOnly _=>Yh i r
  | _=>match Nat.ble (Nat.succ e.on) i with
   | true=>Yh i r
   | false=>false
def glA (i:Nat):List Edge→Bool
 | []=>true
 | e::r=>match Nat.ble (Nat.succ e.on) i with
  | true=>glA i r
  | false=>false
def vlA:Nat→List Oper→Bool
 | _,[]=>true
 | i,o::r=>match glA i o.after.toList with
  | true=>vlA (Nat.succ i) r
  | false=>false
def wV (l:List Nat):List Edge→Bool
 | []=>true
 | e::r=>match inGc e with
  | false=>wV l r
  | true=>match l.contains e.on with
   | true=>wV l r
   | false=>false
def WI (l:List Nat):Nat→List Oper→Option Nat
 | _,[]=>none
 | i,o::r=>match l.contains i with
  | true=>WI l (Nat.succ i) r
  | false=>match wV l o.after.toList with
   | true=>some i
   | false=>WI l (Nat.succ i) r
def jNA (ops:List Oper):Nat→List Nat→List Nat
 | 0,l=>l
 | n+1,l=>match WI l 0 ops with
  | some i=>jNA ops n (l++[i])
  | none=>l
def jaJ:Nat→List Nat→Bool
 | 0,_=>true
 | n+1,l=>match l.contains n with
  | true=>jaJ n l
  | false=>false
def WwJ (ops:List Oper):Bool:=match vlA 0 ops with
 | true=>true
 | false=>jaJ ops.length (jNA ops ops.length [])
def Yi (ops:Array Oper):Nat→List Oper→List DOp→Option (List DOp)
 | _,[],ds=>some ds
 | i,o::r,ds=>match Yh i o.after.toList with
  | true=>Yi ops (Nat.succ i) r (ds++[⟨o.dst,yf ops o,yD o.op,VN ds o.after.toList,Jm o.op,vYA o.op⟩])
  | false=>none
def YdJ (t:Nat):List Nat→Bool
 | []=>false
 | u::r=>match Nat.beq t u with
  | true=>true
  | false=>YdJ t r
def seen:Option Nat→List Nat→Bool
 | none,_=>false
 | some t,l=>YdJ t l
def WZJ:Option Nat→Option Nat→Bool
 | some t,some u=>Nat.beq t u
 | _,_=>false
def jOA (a b:DOp):Bool:=match seen a.dst b.looks with
 | true=>false
 | false=>match seen b.dst a.looks with
  | true=>false
  | false=>match Nat.beq b.cls 3 with
   | false=>true
   | true=>match Nat.beq a.cls 3 with
    | true=>false
    | false=>match Nat.beq a.cls 1 with
     | true=>false
     | false=>true
def jrA (i:Nat) (a b:DOp):Bool:=match WZJ a.dst b.dst with
 | true=>false
 | false=>match Nat.testBit b.mask i with
  | true=>true
  | false=>jOA a b
def WQ (i:Nat) (a:DOp):List DOp→Bool
 | []=>true
 | b::r=>match jrA i a b with
  | true=>WQ i a r
  | false=>false
def zmA:Nat→List DOp→Bool
 | _,[]=>true
 | i,a::r=>match WQ i a r with
  | true=>zmA (Nat.succ i) r
  | false=>false
def vHA (j:Nat) (h:DOp):Nat→List DOp→Bool
 | _,[]=>false
 | i,a::r=>match Nat.beq a.cls 2 with
  | false=>vHA j h (Nat.succ i) r
  | true=>match Nat.testBit h.mask i with
   | true=>vHA j h (Nat.succ i) r
   | false=>match Nat.testBit a.mask j with
    | true=>vHA j h (Nat.succ i) r
    | false=>true
def Yf (ds:List DOp) (j:Nat) (o:Op):Bool:=match Jm o with
 | false=>false
 | true=>vHA j ⟨none,[],3,Jg ds j,true,none⟩ 0 ds
def early (t j:Nat):Nat→List DOp→Bool
 | _,[]=>true
 | k,d::r=>match Nat.ble j k with
  | false=>early t j (Nat.succ k) r
  | true=>match d.dst with
   | none=>early t j (Nat.succ k) r
   | some u=>match Nat.beq t u with
    | true=>false
    | false=>early t j (Nat.succ k) r
def YA (ds:List DOp) (j t mask:Nat):Nat→List DOp→Option (List (Nat × Nat))
 | _,[]=>some []
 | i,a::r=>match Nat.beq a.cls 2 with
  | false=>YA ds j t mask (Nat.succ i) r
  | true=>match Nat.testBit mask i with
   | true=>YA ds j t mask (Nat.succ i) r
   | false=>match Nat.testBit a.mask j with
    | true=>YA ds j t mask (Nat.succ i) r
    | false=>match a.ad with
     | none=>YA ds j t mask (Nat.succ i) r
     | some u=>match early t j 0 ds,early u i 0 ds,YA ds j t mask (Nat.succ i) r with
      | true,true,some l=>some ((t,u)::l)
      | _,_,_=>none
def VZ (ds:List DOp):Nat→List DOp→Option (List (Nat × Nat))
 | _,[]=>some []
 | j,d::r=>match Nat.beq d.cls 3,d.call,d.ad with
  | true,false,some t=>match YA ds j t d.mask 0 ds,VZ ds (Nat.succ j) r with
   | some l,some m=>some (l++m)
   | _,_=>none
  | _,_,_=>VZ ds (Nat.succ j) r
def jN:AV→Option Nat
 | .ptr b _=>some b
 | .slice b _ _ _ _=>some b
 | .map b=>some b
 | .tail b _=>some b
 | .vs b _ _=>some b
 | .vp b _ _=>some b
 | _=>none
def vX (x y:AV):Bool:=match jN x,jN y with
 | some b,some c=>!Nat.beq b c
 | _,_=>true
def Ys (M:Env):List (Nat × Nat)→Bool
 | []=>true
 | (t,u)::r=>match vX (M.find t) (M.find u) with
  | true=>Ys M r
  | false=>false
def yQ (l:List (Nat × Nat)) (f:zF):zF:=fun cl L s=>match f cl L s with
 | .ok M s=>match Ys M l with
  | true=>.ok M s
  | false=>.fail
 | .fail=>.fail
def YI (ds:List DOp) (j mask:Nat):Nat→List DOp→Option (List Nat)
 | _,[]=>some []
 | i,a::r=>match Nat.beq a.cls 2 with
  | false=>YI ds j mask (Nat.succ i) r
  | true=>match Nat.testBit mask i with
   | true=>YI ds j mask (Nat.succ i) r
   | false=>match Nat.testBit a.mask j with
    | true=>YI ds j mask (Nat.succ i) r
    | false=>match a.ad with
     | none=>YI ds j mask (Nat.succ i) r
     | some u=>match early u i 0 ds,YI ds j mask (Nat.succ i) r with
      | true,some l=>some (u::l)
      | _,_=>none
def vaA (ds:List DOp) (j:Nat):Option (List Nat):=YI ds j (Jg ds j) 0 ds
mutual
def eqV:AV→AV→Bool
 | .bad,.bad=>true
 | .int k n,.int k' n'=>Nat.beq (vi k) (vi k') && eqI n n'
 | .bool a,.bool b=>(a && b) || (!a && !b)
 | .str a,.str b=>Yl a b
 | .ptr b o,.ptr c p=>Nat.beq b c && Nat.beq o p
 | .nilptr,.nilptr=>true
 | .slice b o l c e,.slice b' o' l' c' e'=>Nat.beq b b' && (Nat.beq o o' && (Nat.beq l l' && (Nat.beq c c' && ((e && e') || (!e && !e')))))
 | .nilslice,.nilslice=>true
 | .map b,.map c=>Nat.beq b c
 | .nilmap,.nilmap=>true
 | .func f x y,.func g u v=>Nat.beq f g && (VaA x u && VaA y v)
 | .yield b,.yield c=>Nat.beq b c
 | .nilfunc,.nilfunc=>true
 | .nilif,.nilif=>true
 | .agg x,.agg y=>VaA x y
 | .tup x,.tup y=>VaA x y
 | .ge k n,.ge k' n'=>Nat.beq (vi k) (vi k') && eqI n n'
 | .tail b o,.tail c p=>Nat.beq b c && Nat.beq o p
 | .gptr b o,.gptr c p=>Nat.beq b c && Nat.beq o p
 | .vs b o l,.vs c p k=>Nat.beq b c && (Nat.beq o p && Nat.beq l k)
 | .vp b o l,.vp c p k=>Nat.beq b c && (Nat.beq o p && Nat.beq l k)
 | _,_=>false
def VaA:List AV→List AV→Bool
 | [],[]=>true
 | a::l,b::m=>eqV a b && VaA l m
 | _,_=>false
end
def ynA (x y:Option AObj):Bool:=match x,y with
 | some (.cells c sz),some (.cells c' sz')=>VaA c c' && Nat.beq sz sz'
 | _,_=>false
def gn (L:Env) (m:Nat) (h h':Heap):List Nat→Bool
 | []=>true
 | u::r=>match jN (L.find u) with
  | some b=>match Nat.ble (Nat.succ b) m with
   | true=>gn L m h h' r
   | false=>match ynA (h.get b) (h'.get b) with
    | true=>gn L m h h' r
    | false=>false
  | none=>gn L m h h' r
def VIA (w:Option (List Nat)) (L:Env) (s s':St):Bool:=match Nat.ble s.n s'.m with
 | true=>true
 | false=>match w with
  | none=>false
  | some l=>gn L s'.m s.h s'.h l
def ZwA (w:Option (List Nat)) (s s':St) (r:ORes):ORes:=match r with
 | .ok M s2=>match VIA w M s s' with
  | true=>.ok M s2
  | false=>.fail
 | .fail=>.fail
def wLJ (w:Option (List Nat)) (d:Dst) (f:OpF) (rest:zF):zF:=fun cl L s =>
 ARes.casesOn (motive:=fun _=>ORes) (f L ⟨s.h,s.n,far⟩) ORes.fail (fun v s'=>ZwA w s s' (rest cl (d.put v L) ⟨s'.h,s'.n,yA s.m s'.m⟩))
def jf (w:Option (List Nat)) (d:Dst) (f:Arg) (args:List Arg) (rest:zF):zF:=fun cl L s =>
 ARes.casesOn (motive:=fun _=>ORes) (wh cl (evs args L) ⟨s.h,s.n,far⟩ (f.ev L)) ORes.fail (fun v s'=>ZwA w s s' (rest cl (d.put v L) ⟨s'.h,s'.n,yA s.m s'.m⟩))
def viA (w:Option (List Nat)) (d:Dst) (rest:zF):Op→Option zF
 | .call { callee:=.value f,args,.. }=>match jL f,jz args.toList with
  | some f,some l=>some (jf w d f l rest)
  | _,_=>some zKJ
 | _=>some zKJ
def zGJ (P:Program) (w:Option (List Nat)) (d:Dst) (op:Op) (rest:zF):Option zF:=match opK P op with
 | some f=>some (wLJ w d f rest)
 | none=>viA w d rest op
def gvJ (P:Program) (nt:Nat) (ops:Array Oper) (ds:List DOp):Nat→List Oper→Option zF
 | _,[]=>some zJ
 | i,o::r=>match gvJ P nt ops ds (Nat.succ i) r with
  | none=>none
  | some rest=>match vWA nt o.dst with
   | none=>none
   | some d=>match Yf ds i o.op with
    | true=>match zGJ P (vaA ds i) d o.op rest with
     | none=>none
     | some k=>VU ops d k rest o.guard
    | false=>match zHJ P d o.op rest with
     | none=>none
     | some k=>VU ops d k rest o.guard
def JK (i:Nat):List Nat→Nat
 | []=>0
 | x::r=>match Nat.beq x i with
  | true=>0
  | false=>Nat.succ (JK i r)
def wUJ (m n:Nat):Nat→List Nat→List Nat
 | 0,l=>l
 | k+1,l=>match Nat.testBit m (Nat.sub n (Nat.succ k)),l.contains (Nat.sub n (Nat.succ k)) with
  | true,false=>wUJ m n k (l++[Nat.sub n (Nat.succ k)])
  | _,_=>wUJ m n k l
def oneM (i:Nat) (l:List Nat):List Nat:=match l.contains i with
 | true=>l
 | false=>l++[i]
def JoJ (n:Nat):Nat→List DOp→List Nat→List Nat
 | _,[],l=>wUJ (Nat.sub (Nat.pow 2 n) 1) n n l
 | i,d::r,l=>match Nat.beq d.cls 3 with
  | true=>JoJ n (Nat.succ i) r (oneM i (wUJ d.mask n n l))
  | false=>JoJ n (Nat.succ i) r l
def jlA (ord:List Nat):List Edge→List Edge
 | []=>[]
 | e::r=>match always e with
  | true=>{ e with on:=JK e.on ord }::jlA ord r
  | false=>jlA ord r
def relab (ord:List Nat) (o:Oper):Oper:={ o with after:=(jlA ord o.after.toList).toArray,guard:=match o.guard with
 | none=>none
 | some (j,b)=>some (JK j ord,b) }
def wEJ (ops:Array Oper) (ord:List Nat):List Nat→Option (List Oper)
 | []=>some []
 | i::r=>match ops[i]?,wEJ ops ord r with
  | some o,some l=>some (relab ord o::l)
  | _,_=>none
def wfA:List Nat→Bool
 | []=>true
 | x::r=>match YdJ x r with
  | true=>false
  | false=>wfA r
def JqJ (ops:Array Oper) (ord:List Nat):Option (Array Oper):=match jaJ ops.size ord,wfA ord,wEJ ops ord ord with
 | true,true,some l=>some l.toArray
 | _,_,_=>none
def YLA (P:Program) (nt:Nat) (ops:Array Oper) (ds:List DOp):Option zF:=match zmA 0 ds,VZ ds 0 ds,gvJ P nt ops ds 0 ops.toList with
 | true,some l,some f=>some (yQ l f)
 | _,_,_=>none
def wZJ (P:Program) (nt:Nat) (ops:Array Oper):Option zF:=match Yi ops 0 ops.toList [] with
 | none=>none
 | some ds=>YLA P nt ops ds
def YKA (P:Program) (nt:Nat) (ops:Array Oper):Option zF:=match Yi ops 0 ops.toList [],WwJ ops.toList with
 | some ds,true=>match YLA P nt ops ds with
  | some f=>some f
  | none=>match JqJ ops (JoJ ops.size 0 ds []) with
   | some o=>wZJ P nt o
   | none=>none
 | _,_=>none
inductive R where
 | fail
 | done (e:Ex) (L:Env) (d:List Nat) (s:St)
abbrev K:=zR→Ctx→Env→List Nat→St→R
def Zz (l:List Nat) (M L:Env):Env :=
 List.rec (motive:=fun _=>Env→Env) (fun L=>L) (fun t _ ih L=>ih (L.set t (M.find t))) l L
def zd:K:=fun _ _ L d s=>.done .norm L d s
def zD (ops:zF) (keep:List Nat):K:=fun cl _ L d s=>match ops cl L s with
 | .ok M s=>.done .norm (Zz keep M L) d s
 | .fail=>.fail
def zv (ops:zF) (keep:List Nat):K:=fun cl _ L d s=>match ops cl L s with
 | .ok M s=>match Nat.ble s.n 549755813888 with
  | true=>.done .norm (Zz keep M L) d s
  | false=>.fail
 | .fail=>.fail
def kSeq1 (b:K) (cl:zR) (c:Ctx) (e:Ex) (L:Env) (d:List Nat) (s:St):R :=
 Ex.casesOn (motive:=fun _=>R) e (b cl c L d s) (fun id=>.done (.exit id) L d s) (.done .ret L d s)
def zG (a b:K):K:=fun cl c L d s=>R.casesOn (motive:=fun _=>R) (a cl c L d s) R.fail (kSeq1 b cl c)
def VFA (f:Bool→R) (v:AV):R :=
 AV.casesOn (motive_1:=fun _=>R) v R.fail (fun _ _=>R.fail) f (fun _=>R.fail) (fun _ _=>R.fail) R.fail (fun _ _ _ _ _=>R.fail) R.fail
  (fun _=>R.fail) R.fail (fun _ _ _=>R.fail) (fun _=>R.fail) R.fail R.fail (fun _=>R.fail) (fun _=>R.fail) (fun _ _=>R.fail) (fun _ _=>R.fail) (fun _ _=>R.fail) (fun _ _ _=>R.fail) (fun _ _ _=>R.fail)
def ze (x:Arg) (a b:K):K:=fun cl c L d s=>VFA (fun t=>Bool.casesOn (motive:=fun _=>R) t (b cl c L d s) (a cl c L d s)) (x.ev L)
def zU (id:Nat) (b:K):K:=fun cl c L d s=>match b cl c L d s with
 | .done (.exit id') L d s=>match Nat.beq id' id with
  | true=>.done .norm L d s
  | false=>.done (.exit id') L d s
 | r=>r
def jK (b:K) (n:Nat):K:=Nat.rec (motive:=fun _=>K) (fun _ _ _ _ _=>R.fail) (fun _ ih=>zG b ih) n
def rounds:Nat:=9223372036854775808
def ju (b:K):K:=jK b rounds
def jy (id:Nat):K:=fun _ _ L d s=>.done (.exit id) L d s
def jG:K:=fun _ _ L d s=>.done .ret L d s
def wtA:K:=fun _ _ _ _ _=>.fail
def yv (s:St) (l:Nat):Option ALoop:=match s.h.get l with
 | some (.loop r)=>some r
 | _=>none
def gD (c:Ctx) (L:Env) (d:List Nat) (params:List Tmp) (assign body:Code) (s:St):Option (List Nat × St) :=
 match c.rnd with
 | some l0=>match yv s l0 with
  | some r=>some (d,s.new (.loop ⟨.ready,none,c.fn,L,params,assign,body,r.defers,c.nt,c.xs⟩))
  | none=>none
 | none=>some (s.n::d,(s.new .dfr).new (.loop ⟨.ready,none,c.fn,L,params,assign,body,s.n,c.nt,c.xs⟩))
def JuA (L:Env) (d:List Nat) (s:St):Option Code→R
 | none=>.done .norm L d s
 | some .ret=>.done .ret L d s
 | some (.exit id)=>.done (.exit id) L d s
 | _=>.fail
def wx (f:Arg) (params:List Tmp) (assign body:Code):K:=fun cl c L d s =>
 match gD c L d params assign body s with
 | none=>.fail
 | some (d,s)=>match wh cl [AV.yield (Nat.sub s.n 1)] s (f.ev L) with
  | .fail=>.fail
  | .val _ s'=>match yv s' (Nat.sub s.n 1) with
   | some r=>match r.state with
    | .busy=>.fail
    | _=>JuA L d (s'.put (Nat.sub s.n 1) (.loop { r with state:=.exhausted })) r.pending
   | none=>.fail
def Jk (X:List Nat) (ops:List Oper):List Nat:=ops.filterMap fun o=>match o.dst with
 | some t=>if X.contains t then some t else none
 | none=>none
def jh (P:Program) (X:List Nat) (nt:Nat):Code→Option K
 | .skip=>some zd
 | .label _=>some zd
 | .region _ ops false=>match yZJ P nt ops ops.toList with
  | some k=>some (zD k (Jk X ops.toList))
  | none=>some wtA
 | .region _ ops true=>match YKA P nt ops with
  | some k=>some (zv k (Jk X ops.toList))
  | none=>some wtA
 | .seq a b=>match jh P X nt a,jh P X nt b with
  | some a,some b=>some (zG a b)
  | _,_=>none
 | .cond x a b=>match jL x,jh P X nt a,jh P X nt b with
  | some x,some a,some b=>some (ze x a b)
  | _,_,_=>none
 | .block id b=>match jh P X nt b with
  | some b=>some (zU id b)
  | none=>none
 | .loop b=>match jh P X nt b with
  | some b=>some (ju b)
  | none=>none
 | .scope b=>jh P X nt b
 | .exit id=>some (jy id)
 | .ret=>some jG
 | .rangeFunc f params assign body=>match jL f with
  | some f=>if params.toList.all (fun t=>decide (t<nt) && X.contains t) then some (wx f params.toList assign body) else some wtA
  | none=>some wtA
 | _=>some wtA
def zO:Nat→List AV→Env→Env
 | _,[],L=>L
 | i,a::r,L=>.cons i a (zO (Nat.succ i) r L)
def wN (P:Program) (L:Env) (s:St):List ResultVar→Option (List AV)
 | []=>some []
 | .tmp t::r=>match wN P L s r with
  | some l=>some (L.find t::l)
  | none=>none
 | .cell a t::r=>match yH P t with
  | some sh=>match okA (Jx sh s (L.find a)),wN P L s r with
   | .val v _,some l=>some (v::l)
   | _,_=>none
  | none=>none
def oneA:List AV→AV
 | [v]=>v
 | l=>.tup l
def gL (s:St):List Nat→Option St
 | []=>some s
 | b::r=>match s.h.get b with
  | some .dfr=>gL (s.kill b) r
  | _=>none
def vE:Env→List Tmp→List AV→Env
 | L,t::ts,a::as=>vE (L.set t a) ts as
 | L,_,_=>L
def yL (P:Program) (rs:List ResultVar) (L:Env) (d:List Nat) (s:St):ARes:=match gL s d with
 | none=>.fail
 | some s=>match wN P L s rs with
  | some l=>.val (oneA l) s
  | none=>.fail
def YZ:Ex→Option Code
 | .norm=>none
 | .exit id=>some (.exit id)
 | .ret=>some .ret
def VW:Ex→Bool
 | .norm=>true
 | _=>false
def YB (l:Nat) (e:Ex) (s:St):ARes:=match yv s l with
 | some r=>.val (.bool (VW e)) (s.put l (.loop { r with state:=if VW e then .ready else .done,pending:=YZ e }))
 | none=>.fail
def jkA (P:Program) (cl:zR) (l:Nat) (args:List AV) (s:St) (r:ALoop):ARes :=
 if args.length≠r.params.length then .fail else
 match jh P r.xs r.nt r.assign,jh P r.xs r.nt r.body with
 | some a,some b=>match a cl ⟨r.fn,some l,r.nt,r.xs⟩ (vE r.tmps r.params args) [] s with
  | .done .norm L _ s=>match yv s l with
   | some r'=>match r'.state with
    | .ready=>match b cl ⟨r.fn,some l,r.nt,r.xs⟩ L [] (s.put l (.loop { r' with state:=.busy })) with
     | .done e _ _ s=>YB l e s
     | .fail=>.fail
    | _=>.fail
   | none=>.fail
  | _=>.fail
 | _,_=>.fail
def lead (X:List Nat):Nat→Nat→Nat
 | 0,i=>i
 | n+1,i=>match X.contains i with
  | true=>lead X n (i+1)
  | false=>i
def zZ (P:Program) (X:FuncId→List Nat) (cl:zR) (f:FuncId) (args:List AV) (s:St) (fn:Func):ARes :=
 match fn.body with
 | none=>.fail
 | some body =>
  if fn.name == "runtime.NumGoroutine" then .fail else
  match Nat.ble args.length fn.ntmps,Nat.ble args.length (lead (X f) 100 0) with
  | true,true=>match jh P (X f) fn.ntmps body with
   | none=>.fail
   | some k=>match k cl ⟨f,none,fn.ntmps,X f⟩ (zO 0 args .nil) [] s with
    | .done .norm L d s=>yL P fn.results.toList L d s
    | .done .ret L d s=>yL P fn.results.toList L d s
    | _=>.fail
  | _,_=>.fail
mutual
def plain:AV→Bool
 | .int _ _=>true
 | .bool _=>true
 | .str _=>true
 | .nilptr=>true
 | .nilslice=>true
 | .nilmap=>true
 | .nilfunc=>true
 | .nilif=>true
 | .gptr _ _=>true
 | .agg l=>plains l
 | .tup l=>plains l
 | _=>false
def plains:List AV→Bool
 | []=>true
 | v::r=>match plain v with
  | true=>plains r
  | false=>false
end
def inside:AObj→Option (List AV)
 | .cells c _=>some c
 | .fam c _ _ _=>some c
 | .map es=>some (es.foldr (fun e l=>e.1::e.2::l) [])
 | _=>none
def VF (n0:Nat) (all:Heap) (ih:List AV→Heap→Heap) (r:List AV) (h:Heap) (b:Nat):Heap:=match Nat.ble n0 b with
 | false=>ih r h
 | true=>match h.get b with
  | some _=>ih r h
  | none=>match all.get b with
   | none=>ih r h
   | some o=>match inside o with
    | some l=>ih (l++r) (Heap.set (some o) depth h b)
    | none=>all
def yRJ (n0:Nat) (all:Heap) (ih:List AV→Heap→Heap) (r:List AV) (h:Heap):AV→Heap
 | .ptr b _=>VF n0 all ih r h b
 | .slice b _ _ _ _=>VF n0 all ih r h b
 | .tail b _=>VF n0 all ih r h b
 | .map b=>VF n0 all ih r h b
 | .vs b _ _=>VF n0 all ih r h b
 | .vp b _ _=>VF n0 all ih r h b
 | .func _ l m=>ih (l++(m++r)) h
 | .agg l=>ih (l++r) h
 | .tup l=>ih (l++r) h
 | .yield _=>all
 | _=>ih r h
def ySJ (n0:Nat) (all:Heap) (ih:List AV→Heap→Heap) (l:List AV) (h:Heap):Heap:=List.casesOn (motive:=fun _=>Heap) l h (fun v r=>yRJ n0 all ih r h v)
def reach (n0:Nat) (all:Heap) (n:Nat):List AV→Heap→Heap:=Nat.rec (motive:=fun _=>List AV→Heap→Heap) (fun _ _=>all) (fun _ ih=>ySJ n0 all ih) n
def kept (k:Bool) (all some:Heap):Heap:=Bool.casesOn (motive:=fun _=>Heap) k some all
def settle (s:St):ARes→ARes
 | .fail=>.fail
 | .val v s'=>match Nat.ble s.n s'.m with
  | true=>match plain v with
   | true=>.val v s
   | false=>.val v ⟨kept JP s'.h (reach s.n s'.h 4000 [v] s.h),s'.n,s.m⟩
  | false=>.val v ⟨s'.h,s'.n,yA s.m s'.m⟩
def roomy (s:St) (b:Nat) (c:List AV) (sz:Nat):St:=⟨((St.kill ⟨s.h,s.n,far⟩ b).new (.cells (c++List.replicate (vD sz) .bad) sz)).h,Nat.succ s.n,far⟩
def ziJ (s:St) (b sz:Nat):ARes→ARes→ARes
 | .val (.slice bA 0 k kA true) sA,.val (.slice bB 0 k' kB true) sB=>match sA.h.get bA,sB.h.get bB with
  | some (.cells lA zA),some (.cells lB zB) =>
   if k=kA∧k'=k∧kB=k∧zA=sz∧zB=sz∧lA.length=k * vD sz∧Zi lA lB=true∧s.n≤bA∧s.n≤bB∧s.n≤sA.m∧s.n≤sB.m∧s.n<549755813888 then
    .val (.slice s.n 0 k k true) ((s.kill b).new (.cells lA sz))
   else .fail
  | _,_=>.fail
 | _,_=>.fail
def zsJ (P:Program) (X:FuncId→List Nat) (cl:zR) (f:FuncId) (s:St) (fn:Func):List AV→ARes
 | .slice b 0 len cap true::rest=>match s.h.get b with
  | some (.cells c sz) =>
   if len=cap∧c.length=len * vD sz then
    ziJ s b sz (zZ P X cl f (.slice b 0 len len false::rest) ⟨s.h,s.n,far⟩ fn)
     (zZ P X cl f (.slice s.n 0 len (len+1) true::rest) (roomy s b c sz) fn)
   else .fail
  | _=>.fail
 | _=>.fail
def JrJ (r:ARes) (k:ARes):ARes:=ARes.casesOn (motive:=fun _=>ARes) r k (fun v s=>.val v s)
def jP (P:Program) (X:FuncId→List Nat) (cl:zR):zR
 | .fn f,args,s=>match P.funcs[f]? with
  | none=>.fail
  | some fn=>JrJ (settle s (zZ P X cl f args ⟨s.h,s.n,far⟩ fn)) (zsJ P X cl f s fn args)
 | .yield l,args,s=>match yv s l with
  | some r=>jkA P cl l args s r
  | none=>.fail
def call (P:Program) (X:FuncId→List Nat):Nat→zR
 | 0=>fun _ _ _=>.fail
 | n+1=>jP P X (call P X n)
end Go.Abs
end
