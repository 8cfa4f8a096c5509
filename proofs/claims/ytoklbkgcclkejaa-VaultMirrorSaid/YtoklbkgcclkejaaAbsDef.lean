/- An interpreter of the model's code over abstract values and an abstract heap, meant to be run by the kernel at closed inputs: the code is turned into closures once. Its soundness is proved in the texts behind this one. -/
import Derived.Test.YtoklbkgcclkejaaAbsGlob
import GoSem.Dispatch
noncomputable section
namespace Go.Abs
inductive AV where
 | bad
 | int (k:IntKind) (n:Int)
 | bool (b:Bool)
 | str (s:ByteArray)
 | ptr (b o:Nat)
 | nilptr
 | slice (b o len cap:Nat) (ext:Bool)
 | nilslice
 | map (b:Nat)
 | nilmap
 | func (f:FuncId) (first cap:List AV)
 | yield (l:Nat)
 | nilfunc
 | nilif
 | agg (l:List AV)
 | tup (l:List AV)
 | ge (k:IntKind) (n:Int)
 | tail (b o:Nat)
 | gptr (g o:Nat)
 | vs (b v len:Nat)
 | vp (b v o:Nat)
 deriving Inhabited
def AV.undef:AV:=.tup []
def AV.scalar:AV→Bool
 | .agg _ | .tup _ | .bad=>false
 | _=>true
inductive Env where
 | nil
 | cons (t:Nat) (v:AV) (r:Env)
def Env.find (t:Nat) (L:Env):AV :=
 Env.rec (motive:=fun _=>AV) AV.bad (fun u v _ ih=>Bool.rec (motive:=fun _=>AV) ih v (Nat.beq u t)) L
def Env.set (t:Nat) (v:AV) (L:Env):Env :=
 Env.rec (motive:=fun _=>Env) (Env.cons t v Env.nil) (fun u w r ih=>Bool.rec (motive:=fun _=>Env) (Env.cons u w ih) (Env.cons u v r) (Nat.beq u t)) L
structure ALoop where
 state:LoopState
 pending:Option Code
 fn:FuncId
 tmps:Env
 params:List Tmp
 assign:Code
 body:Code
 defers:Nat
 nt:Nat
 xs:List Nat
inductive AObj where
 | cells (c:List AV) (sz:Nat)
 | map (es:List (AV × AV))
 | loop (r:ALoop)
 | dfr
 | fam (c:List AV) (sz k:Nat) (vs:List (Nat × Nat))
inductive Heap where
 | nil
 | node (l:Heap) (v:Option AObj) (r:Heap)
def Heap.get (h:Heap):Nat→Option AObj :=
 Heap.rec (motive:=fun _=>Nat→Option AObj) (fun _=>none)
  (fun _ v _ gl gr n=>Bool.rec (motive:=fun _=>Option AObj) (Bool.rec (motive:=fun _=>Option AObj) (gr (Nat.div n 2)) (gl (Nat.div n 2)) (Nat.beq (Nat.mod n 2) 0)) v (Nat.beq n 0)) h
def Heap.set1 (x:Option AObj) (ih:Heap→Nat→Heap) (t:Heap) (n:Nat):Heap :=
 Heap.rec (motive:=fun _=>Heap)
  (Bool.rec (motive:=fun _=>Heap) (Bool.rec (motive:=fun _=>Heap) (Heap.node Heap.nil none (ih Heap.nil (Nat.div n 2))) (Heap.node (ih Heap.nil (Nat.div n 2)) none Heap.nil) (Nat.beq (Nat.mod n 2) 0)) (Heap.node Heap.nil x Heap.nil) (Nat.beq n 0))
  (fun l v r _ _=>Bool.rec (motive:=fun _=>Heap) (Bool.rec (motive:=fun _=>Heap) (Heap.node l v (ih r (Nat.div n 2))) (Heap.node (ih l (Nat.div n 2)) v r) (Nat.beq (Nat.mod n 2) 0)) (Heap.node l x r) (Nat.beq n 0)) t
def Heap.set (x:Option AObj) (f:Nat):Heap→Nat→Heap :=
 Nat.rec (motive:=fun _=>Heap→Nat→Heap) (fun t _=>t) (fun _ ih=>Heap.set1 x ih) f
structure St where
 h:Heap
 n:Nat
 m:Nat
def depth:Nat:=40
def yA (a b:Nat):Nat:=Bool.casesOn (motive:=fun _=>Nat) (Nat.ble a b) b a
def St.new (s:St) (o:AObj):St:=⟨Heap.set (some o) depth s.h s.n,Nat.succ s.n,s.m⟩
def St.put (s:St) (b:Nat) (o:AObj):St:=⟨Heap.set (some o) depth s.h b,s.n,yA s.m b⟩
def St.kill (s:St) (b:Nat):St:=⟨Heap.set none depth s.h b,s.n,yA s.m b⟩
def ofConst1:Value→Option AV
 | .int k n=>some (.int k n)
 | .bool b=>some (.bool b)
 | .string s=>some (.str s)
 | .pointer none=>some .nilptr
 | .slice none n m=>if n=0∧m=0 then some .nilslice else none
 | .map none=>some .nilmap
 | .nilFunc=>some .nilfunc
 | .nilIface=>some .nilif
 | .func (.func f) a b=>match a.toList,b.toList with
  | [],[]=>some (.func f [] [])
  | _,_=>none
 | _=>none
def ZX:List Value→Option (List AV)
 | []=>some []
 | v::r=>match ofConst1 v,ZX r with
  | some a,some l=>some (a::l)
  | _,_=>none
def ofConst:Value→Option AV
 | .agg cs=>match ZX cs.toList with
  | some l=>some (.agg l)
  | none=>none
 | v=>ofConst1 v
def vC (x:Nat):Nat:=Nat.mod x 1048576
def tag (t:Nat):Nat:=Nat.mul 1048576 (Nat.succ t)
def jv (P:Program) (t:TypeId):Option Nat:=match P.info? t with
 | some i=>some i.size
 | none=>none
def Yf (P:Program) (t:TypeId):Option Nat:=match P.info? t with
 | some i=>some i.bytes
 | none=>none
def ZZ (P:Program) (t:TypeId):Option (List AV):=match P.info? t with
 | some i=>match i.zero with
  | some z=>ZX z.cells.toList
  | none=>none
 | none=>none
def zeroV (P:Program) (t:TypeId):Option AV:=match P.info? t with
 | some i=>match i.zero with
  | some z=>ofConst z
  | none=>none
 | none=>none
def aggT (P:Program) (t:TypeId):Option Bool:=match P.underlying t with
 | some (.struct _)=>some true
 | some (.array _ _)=>some true
 | some _=>some false
 | none=>none
def yJ (P:Program) (t:TypeId):Option (Option Nat):=match aggT P t,jv P t with
 | some true,some k=>some (some k)
 | some false,_=>some none
 | _,_=>none
def nth (l:List AV):Nat→AV :=
 List.rec (motive:=fun _=>Nat→AV) (fun _=>AV.bad) (fun a _ ih n=>Bool.rec (motive:=fun _=>AV) (ih (Nat.sub n 1)) a (Nat.beq n 0)) l
def YD:Nat→List AV→Option (List AV)
 | 0,_=>some []
 | _+1,[]=>none
 | n+1,a::l=>match YD n l with
  | some r=>some (a::r)
  | none=>none
def cut (o k:Nat):List AV→Option (List AV)
 | []=>match Nat.beq o 0 with
  | true=>YD k []
  | false=>none
 | a::l=>match Nat.beq o 0 with
  | true=>YD k (a::l)
  | false=>cut (Nat.sub o 1) k l
def wQ:List AV→List AV→Option (List AV)
 | [],c=>some c
 | _::_,[]=>none
 | v::vs,_::c=>match wQ vs c with
  | some r=>some (v::r)
  | none=>none
def over (o:Nat) (vs:List AV):List AV→Option (List AV)
 | []=>match Nat.beq o 0 with
  | true=>wQ vs []
  | false=>none
 | a::c=>match Nat.beq o 0 with
  | true=>wQ vs (a::c)
  | false=>match over (Nat.sub o 1) vs c with
   | some r=>some (a::r)
   | none=>none
def yW (sh:Option Nat) (cs:List AV) (off:Nat):AV:=match sh with
 | none=>nth cs off
 | some k=>match cut off k cs with
  | some l=>.agg l
  | none=>.bad
def findG (g:Nat):List (Nat × List Value)→Option (List Value)
 | []=>none
 | (a,l)::r=>match Nat.beq g a with
  | true=>some l
  | false=>findG g r
def YZ (g:Nat):Option (List Value):=findG g globs
def globA (g:Nat):Option (List AV):=match YZ g with
 | some l=>ZX l
 | none=>none
inductive ATarget where
 | fn (f:FuncId)
 | yield (l:Nat)
inductive ARes where
 | fail
 | val (v:AV) (s:St)
inductive Arg where
 | tmp (t:Nat)
 | con (v:AV)
def Arg.ev (a:Arg) (L:Env):AV:=Arg.casesOn (motive:=fun _=>AV) a (fun t=>L.find t) (fun v=>v)
def jM:Operand→Option Arg
 | .tmp t=>some (.tmp t)
 | .const v=>match ofConst v with
  | some a=>some (.con a)
  | none=>none
 | .global g=>some (.con (.gptr g 0))
 | .func f=>some (.con (.func f [] []))
def jz:List Operand→Option (List Arg)
 | []=>some []
 | x::r=>match jM x,jz r with
  | some a,some l=>some (a::l)
  | _,_=>none
def evs:List Arg→Env→List AV
 | [],_=>[]
 | a::r,L=>a.ev L::evs r L
abbrev OpF:=Env→St→ARes
def onLoc (f:Nat→Nat→ARes) (h:Nat→Nat→ARes) (w:Nat→Nat→Nat→ARes) (v:AV):ARes :=
 AV.casesOn (motive_1:=fun _=>ARes) v ARes.fail (fun _ _=>ARes.fail) (fun _=>ARes.fail) (fun _=>ARes.fail) f ARes.fail (fun _ _ _ _ _=>ARes.fail) ARes.fail
  (fun _=>ARes.fail) ARes.fail (fun _ _ _=>ARes.fail) (fun _=>ARes.fail) ARes.fail ARes.fail (fun _=>ARes.fail) (fun _=>ARes.fail) (fun _ _=>ARes.fail) (fun _ _=>ARes.fail) h (fun _ _ _=>ARes.fail) w
def onInt (f:IntKind→Int→ARes) (v:AV):ARes :=
 AV.casesOn (motive_1:=fun _=>ARes) v ARes.fail f (fun _=>ARes.fail) (fun _=>ARes.fail) (fun _ _=>ARes.fail) ARes.fail (fun _ _ _ _ _=>ARes.fail) ARes.fail
  (fun _=>ARes.fail) ARes.fail (fun _ _ _=>ARes.fail) (fun _=>ARes.fail) ARes.fail ARes.fail (fun _=>ARes.fail) (fun _=>ARes.fail) (fun _ _=>ARes.fail) (fun _ _=>ARes.fail) (fun _ _=>ARes.fail) (fun _ _ _=>ARes.fail) (fun _ _ _=>ARes.fail)
def onBool (f:Bool→ARes) (v:AV):ARes :=
 AV.casesOn (motive_1:=fun _=>ARes) v ARes.fail (fun _ _=>ARes.fail) f (fun _=>ARes.fail) (fun _ _=>ARes.fail) ARes.fail (fun _ _ _ _ _=>ARes.fail) ARes.fail
  (fun _=>ARes.fail) ARes.fail (fun _ _ _=>ARes.fail) (fun _=>ARes.fail) ARes.fail ARes.fail (fun _=>ARes.fail) (fun _=>ARes.fail) (fun _ _=>ARes.fail) (fun _ _=>ARes.fail) (fun _ _=>ARes.fail) (fun _ _ _=>ARes.fail) (fun _ _ _=>ARes.fail)
def onSlice (f:Nat→Nat→Nat→ARes) (w:Nat→Nat→Nat→ARes) (v:AV):ARes :=
 AV.casesOn (motive_1:=fun _=>ARes) v ARes.fail (fun _ _=>ARes.fail) (fun _=>ARes.fail) (fun _=>ARes.fail) (fun _ _=>ARes.fail) ARes.fail (fun b o n _ _=>f b o n) ARes.fail
  (fun _=>ARes.fail) ARes.fail (fun _ _ _=>ARes.fail) (fun _=>ARes.fail) ARes.fail ARes.fail (fun _=>ARes.fail) (fun _=>ARes.fail) (fun _ _=>ARes.fail) (fun _ _=>ARes.fail) (fun _ _=>ARes.fail) w (fun _ _ _=>ARes.fail)
def onAgg (f:List AV→ARes) (v:AV):ARes :=
 AV.casesOn (motive_1:=fun _=>ARes) v ARes.fail (fun _ _=>ARes.fail) (fun _=>ARes.fail) (fun _=>ARes.fail) (fun _ _=>ARes.fail) ARes.fail (fun _ _ _ _ _=>ARes.fail) ARes.fail
  (fun _=>ARes.fail) ARes.fail (fun _ _ _=>ARes.fail) (fun _=>ARes.fail) ARes.fail ARes.fail f (fun _=>ARes.fail) (fun _ _=>ARes.fail) (fun _ _=>ARes.fail) (fun _ _=>ARes.fail) (fun _ _ _=>ARes.fail) (fun _ _ _=>ARes.fail)
def vi (k:IntKind):Nat:=IntKind.casesOn (motive:=fun _=>Nat) k 0 1 2 3 4 5 6 7
def yo (k k':IntKind) (r:ARes):ARes:=Bool.casesOn (motive:=fun _=>ARes) (Nat.beq (vi k) (vi k')) ARes.fail r
def ints (f:IntKind→Int→Int→ARes) (x y:AV):ARes :=
 onInt (fun k a=>onInt (fun k' b=>yo k k' (f k a b)) y) x
def small (n:Int):Bool :=
 Int.casesOn (motive:=fun _=>Bool) n (fun m=>Nat.ble m 9223372036854775807) (fun m=>Nat.ble m 9223372036854775807)
def gQ (k:IntKind) (n:Int):Int :=
 Bool.casesOn (motive:=fun _=>Int) (Nat.beq (vi k) 3) (k.wrap n) (Bool.casesOn (motive:=fun _=>Int) (small n) (k.wrap n) n)
def jI (s:St) (k:IntKind) (a b:Int):ARes:=.val (.int k (gQ k (Int.add a b))) s
def yK (s:St) (k:IntKind) (a b:Int):ARes:=.val (.int k (gQ k (Int.sub a b))) s
def aMul (s:St) (k:IntKind) (a b:Int):ARes:=.val (.int k (gQ k (Int.mul a b))) s
def JG (s:St) (k:IntKind) (a b:Int):ARes:=if b=0 then .fail else .val (.int k (gQ k (a.tdiv b))) s
def aRem (s:St) (k:IntKind) (a b:Int):ARes:=if b=0 then .fail else .val (.int k (a.tmod b)) s
def aAnd (s:St) (k:IntKind) (a b:Int):ARes:=.val (.int k (k.wrap (BitVec.ofInt k.bits a &&& BitVec.ofInt k.bits b).toNat)) s
def aOr (s:St) (k:IntKind) (a b:Int):ARes:=.val (.int k (k.wrap (BitVec.ofInt k.bits a ||| BitVec.ofInt k.bits b).toNat)) s
def aXor (s:St) (k:IntKind) (a b:Int):ARes:=.val (.int k (k.wrap (BitVec.ofInt k.bits a ^^^ BitVec.ofInt k.bits b).toNat)) s
def aAndNot (s:St) (k:IntKind) (a b:Int):ARes:=.val (.int k (k.wrap (BitVec.ofInt k.bits a &&& ~~~ BitVec.ofInt k.bits b).toNat)) s
def leI (a b:Int):Bool :=
 Int.casesOn (motive:=fun _=>Bool) a (fun m=>Int.casesOn (motive:=fun _=>Bool) b (fun n=>Nat.ble m n) (fun _=>false))
  (fun m=>Int.casesOn (motive:=fun _=>Bool) b (fun _=>true) (fun n=>Nat.ble n m))
def eqI (a b:Int):Bool :=
 Int.casesOn (motive:=fun _=>Bool) a (fun m=>Int.casesOn (motive:=fun _=>Bool) b (fun n=>Nat.beq m n) (fun _=>false))
  (fun m=>Int.casesOn (motive:=fun _=>Bool) b (fun _=>false) (fun n=>Nat.beq m n))
def YF (s:St) (_:IntKind) (a b:Int):ARes:=.val (.bool (eqI a b)) s
def wk (s:St) (_:IntKind) (a b:Int):ARes:=.val (.bool (!eqI a b)) s
def yS (s:St) (_:IntKind) (a b:Int):ARes:=.val (.bool (!leI b a)) s
def aLeq (s:St) (_:IntKind) (a b:Int):ARes:=.val (.bool (leI a b)) s
def aGtr (s:St) (_:IntKind) (a b:Int):ARes:=.val (.bool (!leI a b)) s
def aGeq (s:St) (_:IntKind) (a b:Int):ARes:=.val (.bool (leI b a)) s
def intOp:BinOp→Option (St→IntKind→Int→Int→ARes)
 | .add=>some jI
 | .sub=>some yK
 | .mul=>some aMul
 | .quo=>some JG
 | .rem=>some aRem
 | .and=>some aAnd
 | .or=>some aOr
 | .xor=>some aXor
 | .andNot=>some aAndNot
 | .eql=>some YF
 | .neq=>some wk
 | .lss=>some yS
 | .leq=>some aLeq
 | .gtr=>some aGtr
 | .geq=>some aGeq
 | _=>none
def zV (f:St→IntKind→Int→Int→ARes) (x y:Arg):OpF:=fun L s=>ints (f s) (x.ev L) (y.ev L)
def gtrA (s:St) (k:IntKind) (a:Int) (v:AV):ARes :=
 AV.casesOn (motive_1:=fun _=>ARes) v ARes.fail (fun k' b=>yo k k' (aGtr s k a b)) (fun _=>ARes.fail) (fun _=>ARes.fail) (fun _ _=>ARes.fail) ARes.fail (fun _ _ _ _ _=>ARes.fail) ARes.fail
  (fun _=>ARes.fail) ARes.fail (fun _ _ _=>ARes.fail) (fun _=>ARes.fail) ARes.fail ARes.fail (fun _=>ARes.fail) (fun _=>ARes.fail)
  (fun k' b=>yo k k' (Bool.casesOn (motive:=fun _=>ARes) (leI a b) ARes.fail (.val (.bool false) s))) (fun _ _=>ARes.fail) (fun _ _=>ARes.fail) (fun _ _ _=>ARes.fail) (fun _ _ _=>ARes.fail)
def Zz (x y:Arg):OpF:=fun L s=>onInt (fun k a=>gtrA s k a (y.ev L)) (x.ev L)
def shlA (s:St):AV→AV→ARes
 | .int k a,.int _ (.ofNat b)=>.val (.int k (k.wrap (a * 2 ^ (min b k.bits)))) s
 | _,_=>.fail
def shrA (s:St):AV→AV→ARes
 | .int k a,.int _ (.ofNat b)=>.val (.int k (a.fdiv (2 ^ (min b k.bits)))) s
 | _,_=>.fail
def kShl (x y:Arg):OpF:=fun L s=>shlA s (x.ev L) (y.ev L)
def kShr (x y:Arg):OpF:=fun L s=>shrA s (x.ev L) (y.ev L)
def ZO:List UInt8→List UInt8→Bool
 | [],[]=>true
 | a::l,b::m=>match Nat.beq a.toNat b.toNat with
  | true=>ZO l m
  | false=>false
 | _,_=>false
def Yh (x y:ByteArray):Bool:=ZO x.data.toList y.data.toList
def catA (x y:ByteArray):ByteArray:=⟨⟨x.data.toList++y.data.toList⟩⟩
def strA (op:BinOp) (s:St):AV→AV→ARes
 | .str x,.str y =>
  match op with
  | .add=>if x.size+y.size > 1000000 then .fail else .val (.str (catA x y)) s
  | .eql=>.val (.bool (Yh x y)) s
  | .neq=>.val (.bool !(Yh x y)) s
  | .lss=>.val (.bool (Op.bytesLess x.toList y.toList)) s
  | .leq=>.val (.bool (Op.bytesLess x.toList y.toList || x.toList == y.toList)) s
  | .gtr=>.val (.bool !(Op.bytesLess x.toList y.toList || x.toList == y.toList)) s
  | .geq=>.val (.bool !(Op.bytesLess x.toList y.toList)) s
  | _=>.fail
 | _,_=>.fail
def kStr (op:BinOp) (x y:Arg):OpF:=fun L s=>strA op s (x.ev L) (y.ev L)
inductive Cmp where
 | int
 | bool
 | str
 | nilP
 | nilS
 | nilM
 | nilF
 | row (l:List (Nat × Option Nat × Cmp))
def cmpT (P:Program):Nat→TypeId→Option Cmp
 | 0,_=>none
 | d+1,t =>
  match P.underlying t with
  | some .bool=>some .bool
  | some (.int _)=>some .int
  | some .string=>some .str
  | some (.pointer e)=>match jv P e with
   | some (_+1)=>some .nilP
   | _=>none
  | some (.slice _)=>some .nilS
  | some (.map _ _)=>some .nilM
  | some (.func _ _ _)=>some .nilF
  | some (.struct fields) =>
   if P.stoodInHeld t then none else
   match fields.toList.foldr (fun f k=>match k with
    | none=>none
    | some l=>if f.name = "_" then none else match yJ P f.type,cmpT P d f.type with
     | some sh,some c=>some ((f.offset,sh,c)::l)
     | _,_=>none) (some []) with
   | some l=>some (.row l)
   | none=>none
  | some (.array len elem) =>
   match jv P elem,yJ P elem,cmpT P d elem with
   | some n,some sh,some c=>some (.row ((List.range len).map fun i=>(i * n,sh,c)))
   | _,_,_=>none
  | _=>none
mutual
def Cmp.eq:Cmp→AV→AV→Option Bool
 | .int,.int k a,.int k' b=>if k=k' then some (eqI a b) else none
 | .bool,.bool a,.bool b=>some (a == b)
 | .str,.str a,.str b=>some (a == b)
 | .nilP,.nilptr,.nilptr=>some true
 | .nilP,.ptr _ _,.nilptr=>some false
 | .nilP,.nilptr,.ptr _ _=>some false
 | .nilP,.ptr b o,.ptr b' o'=>match Nat.beq b b' with
  | true=>some (Nat.beq o o')
  | false=>none
 | .nilS,.nilslice,.nilslice=>some true
 | .nilS,.nilslice,.slice _ _ _ _ _=>some false
 | .nilS,.slice _ _ _ _ _,.nilslice=>some false
 | .nilS,.nilslice,.tail _ _=>some false
 | .nilS,.nilslice,.vs _ _ _=>some false
 | .nilS,.vs _ _ _,.nilslice=>some false
 | .nilS,.tail _ _,.nilslice=>some false
 | .nilM,.nilmap,.nilmap=>some true
 | .nilM,.nilmap,.map _=>some false
 | .nilM,.map _,.nilmap=>some false
 | .nilF,.nilfunc,.nilfunc=>some true
 | .nilF,.func _ _ _,.nilfunc=>some false
 | .nilF,.nilfunc,.func _ _ _=>some false
 | .nilF,.yield _,.nilfunc=>some false
 | .nilF,.nilfunc,.yield _=>some false
 | .row l,.agg xs,.agg ys=>Cmp.eqs l xs ys
 | _,_,_=>none
def Cmp.eqs:List (Nat × Option Nat × Cmp)→List AV→List AV→Option Bool
 | [],_,_=>some true
 | (o,sh,c)::l,xs,ys=>match Cmp.eq c (yW sh xs o) (yW sh ys o) with
  | some true=>Cmp.eqs l xs ys
  | r=>r
end
def JC:Nat:=12
def eqlA (c:Cmp) (neg:Bool) (s:St) (x y:AV):ARes:=match Cmp.eq c x y with
 | some r=>.val (.bool (if neg then !r else r)) s
 | none=>.fail
def kEql (c:Cmp) (neg:Bool) (x y:Arg):OpF:=fun L s=>eqlA c neg s (x.ev L) (y.ev L)
def binK (P:Program) (op:BinOp) (t:TypeId) (x y:Arg):Option OpF :=
 match op,P.underlying t with
 | .shl,_=>some (kShl x y)
 | .shr,_=>some (kShr x y)
 | .gtr,some (.int _)=>some (Zz x y)
 | op,some (.int _)=>match intOp op with
  | some f=>some (zV f x y)
  | none=>none
 | op,some .string=>some (kStr op x y)
 | .eql,some _=>if P.eqGuardType P.depth t then none else match cmpT P JC t with
  | some c=>some (kEql c false x y)
  | none=>none
 | .neq,some _=>if P.eqGuardType P.depth t then none else match cmpT P JC t with
  | some c=>some (kEql c true x y)
  | none=>none
 | _,_=>none
def Zq (s:St) (v:AV):ARes:=onBool (fun b=>.val (.bool !b) s) v
def negA (s:St):AV→ARes
 | .int k n=>.val (.int k (gQ k (0 - n))) s
 | _=>.fail
def xorA (s:St):AV→ARes
 | .int k n=>.val (.int k (k.wrap (BitVec.ofInt k.bits (if k.signed then -1 else k.max) ^^^ BitVec.ofInt k.bits n).toNat)) s
 | _=>.fail
def kUn (f:St→AV→ARes) (x:Arg):OpF:=fun L s=>f s (x.ev L)
def unK (op:UnOp) (x:Arg):Option OpF:=match op with
 | .neg=>some (kUn negA x)
 | .xor=>some (kUn xorA x)
 | .not=>some (kUn Zq x)
 | _=>none
def cviA (k:IntKind) (s:St):AV→ARes
 | .int _ n=>.val (.int k (gQ k n)) s
 | _=>.fail
def cvsA (s:St):AV→ARes
 | .str b=>.val (.str b) s
 | _=>.fail
def hasPair (a b:Nat):List (Nat × Nat)→Bool
 | []=>false
 | (c,d)::r=>match Nat.beq a c,Nat.beq b d with
  | true,true=>true
  | _,_=>hasPair a b r
def JP (a b:Nat):Bool:=hasPair a b convs
def cvToA (_s:St) (_v:AV):ARes:=.fail
def cvFromA (_k _tg:Nat) (_s:St) (_v:AV):ARes:=.fail
def cvBytesA (_s:St) (_v:AV):ARes:=.fail
def convH (P:Program) (src dst:TypeId) (x:Arg):Option OpF :=
 match P.underlying src,P.underlying dst with
 | some (.pointer t),some .unsafePointer=>match jv P t with
  | some (_+1)=>some (kUn cvToA x)
  | _=>none
 | some .unsafePointer,some (.pointer u)=>match jv P u with
  | some k=>match liesAt P P.depth u (k / P.cellsOf u) 0 u 1 with
   | true=>some (kUn (cvFromA k (tag u)) x)
   | false=>none
  | none=>none
 | some (.slice e),some .string=>match P.underlying e with
  | some (.int .u8)=>some (kUn cvBytesA x)
  | _=>none
 | _,_=>none
def convL (P:Program) (src dst:TypeId) (x:Arg):Option OpF :=
 match P.underlying src,P.underlying dst with
 | some (.int _),some (.int k)=>some (kUn (cviA k) x)
 | some .string,some .string=>some (kUn cvsA x)
 | _,_=>none
def zE (x:Arg):OpF:=fun L s=>.val (x.ev L) s
def pickA (s:St) (a b v:AV):ARes:=onBool (fun c=>.val (Bool.casesOn (motive:=fun _=>AV) c b a) s) v
def yY (c a b:Arg):OpF:=fun L s=>pickA s (a.ev L) (b.ev L) (c.ev L)
def newA (c:List AV) (sz:Nat) (s:St):ARes:=.val (.ptr s.n 0) (s.new (.cells c sz))
def jR (z:List AV) (sz:Nat):OpF:=fun _ s=>newA z sz s
def boxA (sz:Nat) (s:St):AV→ARes
 | .agg l=>newA l sz s
 | .tup _=>.fail
 | .bad=>.fail
 | v=>newA [v] sz s
def yF (sz:Nat) (x:Arg):OpF:=fun L s=>boxA sz s (x.ev L)
def cellsOf (k:Nat):AV→Option (List AV)
 | .agg l=>match Nat.beq l.length k with
  | true=>some l
  | false=>none
 | .tup _=>none
 | .bad=>none
 | v=>match Nat.beq k 1 with
  | true=>some [v]
  | false=>none
def gZ:List (Nat × Nat × Arg)→Env→List AV→Option (List AV)
 | [],_,c=>some c
 | (o,k,x)::r,L,c=>match cellsOf k (x.ev L) with
  | none=>none
  | some vs=>match over o vs c with
   | some c=>gZ r L c
   | none=>none
def ye (z:List AV) (parts:List (Nat × Nat × Arg)):OpF:=fun L s=>match gZ parts L z with
 | some c=>.val (.agg c) s
 | none=>.fail
def zz (z:List AV) (len:Nat) (parts:List (Nat × Nat × Arg)):OpF:=fun L s=>match gZ parts L z with
 | some c=>.val (.slice s.n 0 len len false) (s.new (.cells c 0))
 | none=>.fail
def gL (s:St) (b:Nat) (f:List AV→Nat→ARes):ARes:=match s.h.get b with
 | some (.cells c sz)=>f c sz
 | some (.fam c sz k _)=>f (c.take k) sz
 | _=>.fail
def verAt (v:Nat):List (Nat × Nat)→Option Nat
 | []=>none
 | (w,k)::r=>match Nat.beq v w with
  | true=>some k
  | false=>verAt v r
def gR (s:St) (b v:Nat):Option (List AV):=match s.h.get b with
 | some (.fam c _ _ vs)=>match verAt v vs with
  | some k=>some (c.take k)
  | none=>none
 | _=>none
def loadV (sh:Option Nat) (s:St) (b v o:Nat):ARes:=match gR s b v with
 | some c=>.val (yW sh c o) s
 | none=>.fail
def loadG (sh:Option Nat) (s:St) (g o:Nat):ARes:=match globA g with
 | some c=>.val (yW sh c o) s
 | none=>.fail
def Jw (sh:Option Nat) (s:St) (v:AV):ARes:=onLoc (fun b o=>gL s b fun c _=>.val (yW sh c o) s) (loadG sh s) (loadV sh s) v
def notBad (v:AV) (r:ARes):ARes :=
 AV.casesOn (motive_1:=fun _=>ARes) v ARes.fail (fun _ _=>r) (fun _=>r) (fun _=>r) (fun _ _=>r) r (fun _ _ _ _ _=>r) r
  (fun _=>r) r (fun _ _ _=>r) (fun _=>r) r r (fun _=>r) (fun _=>r) (fun _ _=>r) (fun _ _=>r) (fun _ _=>r) (fun _ _ _=>r) (fun _ _ _=>r)
def okA (r:ARes):ARes:=ARes.casesOn (motive:=fun _=>ARes) r ARes.fail (fun v s=>notBad v (.val v s))
def zI (sh:Option Nat) (a:Arg):OpF:=fun L s=>okA (Jw sh s (a.ev L))
def scalars:List AV→Bool
 | []=>true
 | v::r=>match v.scalar with
  | true=>scalars r
  | false=>false
def jN (k:Nat) (s:St) (v:AV):AV→ARes
 | .ptr b o=>match s.h.get b with
  | some (.cells c sz)=>match cellsOf k v with
   | none=>.fail
   | some vs=>match scalars vs with
    | false=>.fail
    | true=>match over o vs c with
     | some c=>.val .undef (s.put b (.cells c sz))
     | none=>.fail
  | _=>.fail
 | _=>.fail
def jD (k:Nat) (a x:Arg):OpF:=fun L s=>jN k s (x.ev L) (a.ev L)
def Zs (s:St):AV→ARes
 | .ptr b o=>.val (.ptr b o) s
 | .func f a b=>.val (.func f a b) s
 | .yield l=>.val (.yield l) s
 | .gptr g o=>.val (.gptr g o) s
 | .vp b w o=>.val (.vp b w o) s
 | _=>.fail
def JO (f:FuncId) (first cap:List Arg):OpF:=fun L s=>.val (.func f (evs first L) (evs cap L)) s
def kMap:OpF:=fun _ s=>.val (.map s.n) (s.new (.map []))
def Ju (s:St):AV→ARes
 | .int _ _=>.val (.map s.n) (s.new (.map []))
 | _=>.fail
def vE (zero:List AV):Nat→List AV
 | 0=>[]
 | n+1=>zero++vE zero n
def limit:Nat:=1000000
def makeA (z:List AV) (bytes:Nat) (s:St):AV→AV→ARes
 | .int _ (.ofNat l),.int _ (.ofNat c)=>match Nat.ble l c with
  | false=>.fail
  | true=>match Nat.ble (c * bytes) limit with
   | false=>.fail
   | true=>match Nat.ble c limit with
    | false=>.fail
    | true=>.val (.slice s.n 0 l c false) (s.new (.cells (vE z c) 0))
 | _,_=>.fail
def kMake (z:List AV) (bytes:Nat) (l c:Arg):OpF:=fun L s=>makeA z bytes s (l.ev L) (c.ev L)
def convK (P:Program) (src dst:TypeId) (x:Arg):Option OpF:=match JP src dst with
 | true=>convH P src dst x
 | false=>convL P src dst x
def Yi (y:Nat):AV→Option Nat
 | .int _ (.ofNat i)=>match Nat.ble i y with
  | true=>some i
  | false=>none
 | _=>none
def loA (h:Nat):Option AV→Option Nat
 | none=>some 0
 | some v=>Yi h v
def hiA (len m:Nat):Option AV→Option Nat
 | none=>some len
 | some v=>Yi m v
def ZK (len cap:Nat) (lo hi:Option AV):Option (Nat × Nat):=match hiA len cap hi with
 | none=>none
 | some h=>match loA h lo with
  | none=>none
  | some l=>some (l,h)
def Zd (lo hi:Option AV) (s:St):AV→ARes
 | .str b=>match ZK b.size b.size lo hi with
  | some (l,h)=>.val (.str (b.extract l h)) s
  | none=>.fail
 | _=>.fail
def yT (size:Nat) (lo hi:Option AV) (s:St):AV→ARes
 | .slice b o len cap ext=>match Nat.ble len cap with
  | false=>.fail
  | true=>match ZK len cap lo hi with
   | some (l,h)=>match Nat.beq cap l with
    | true=>if ext then .val (.tail b (o+l * size)) s else .val (.slice b o (h - l) 0 false) s
    | false=>.val (.slice b (o+l * size) (h - l) (cap - l) ext) s
   | none=>.fail
 | .nilslice=>match ZK 0 0 lo hi with
  | some _=>.val .nilslice s
  | none=>.fail
 | .tail b o=>match ZK 0 0 lo hi with
  | some _=>.val (.tail b o) s
  | none=>.fail
 | _=>.fail
def Ze (n size:Nat) (lo hi:Option AV) (s:St):AV→ARes
 | .ptr b o=>match ZK n n lo hi with
  | some (l,h)=>.val (.slice b (if n=l then o else o+l * size) (h - l) (n - l) false) s
  | none=>.fail
 | _=>.fail
def vy:Option Arg→Env→Option AV
 | none,_=>none
 | some a,L=>some (a.ev L)
def ZB (f:Option AV→Option AV→St→AV→ARes) (x:Arg) (lo hi:Option Arg):OpF:=fun L s=>f (vy lo L) (vy hi L) s (x.ev L)
def vr:Option Operand→Option (Option Arg)
 | none=>some none
 | some x=>match jM x with
  | some a=>some (some a)
  | none=>none
def YJ (lo:Option AV) (hi mx:AV) (s:St):AV→ARes
 | .slice _ _ len cap _=>match Nat.ble len cap with
  | false=>.fail
  | true=>match Yi len mx with
   | none=>.fail
   | some m=>match Yi m hi with
    | none=>.fail
    | some h=>match loA h lo with
     | none=>.fail
     | some _=>.val .bad s
 | _=>.fail
def kSlice3 (x:Arg) (lo:Option Arg) (hi mx:Arg):OpF:=fun L s=>YJ (vy lo L) (hi.ev L) (mx.ev L) s (x.ev L)
def argOf:Option Operand→Option Arg
 | none=>none
 | some x=>jM x
def slice3K (P:Program) (t:TypeId) (x:Arg) (lo:Option Arg) (hi mx:Arg):Option OpF :=
 match P.underlying t with
 | some (.slice elem)=>match jv P elem with
  | some _=>some (kSlice3 x lo hi mx)
  | none=>none
 | _=>none
def sliceK (P:Program) (t:TypeId) (x:Arg) (lo hi:Option Arg):Option OpF :=
 match P.underlying t with
 | some .string=>some (ZB Zd x lo hi)
 | some (.slice elem)=>match jv P elem with
  | some size=>some (ZB (yT size) x lo hi)
  | none=>none
 | some (.array n elem)=>match jv P elem with
  | some size=>some (ZB (Ze n size) x lo hi)
  | none=>none
 | _=>none
def zS (off:Nat) (s:St) (v:AV):ARes:=onLoc (fun b o=>.val (.ptr b (Nat.add o off)) s) (fun g o=>.val (.gptr g (Nat.add o off)) s) (fun b w o=>.val (.vp b w (Nat.add o off)) s) v
def fldA (sh:Option Nat) (off:Nat) (s:St) (v:AV):ARes:=onAgg (fun cs=>okA (.val (yW sh cs off) s)) v
def onNat (f:Nat→ARes) (v:AV):ARes:=onInt (fun _ i=>Int.casesOn (motive:=fun _=>ARes) i f (fun _=>ARes.fail)) v
def Zk (s:St) (b o len size i:Nat):ARes:=Bool.casesOn (motive:=fun _=>ARes) (Nat.ble (Nat.succ i) len) ARes.fail (.val (.ptr b (Nat.add o (Nat.mul i size))) s)
def placeG (s:St) (g o len size i:Nat):ARes:=Bool.casesOn (motive:=fun _=>ARes) (Nat.ble (Nat.succ i) len) ARes.fail (.val (.gptr g (Nat.add o (Nat.mul i size))) s)
def placeV (s:St) (b w len size i:Nat):ARes:=Bool.casesOn (motive:=fun _=>ARes) (Nat.ble (Nat.succ i) len) ARes.fail (.val (.vp b w (Nat.mul i size)) s)
def jX (size:Nat) (s:St) (x v:AV):ARes:=onNat (fun i=>onSlice (fun b o len=>Zk s b o len size i) (fun b w len=>placeV s b w len size i) x) v
def ixaA (n size:Nat) (s:St) (x v:AV):ARes:=onNat (fun i=>onLoc (fun b o=>Zk s b o n size i) (fun g o=>placeG s g o n size i) (fun _ _ _=>.fail) x) v
def indA (n size:Nat) (sh:Option Nat) (s:St) (x:AV):AV→ARes
 | .int _ (.ofNat i)=>match x with
  | .agg cs=>match Nat.ble (Nat.succ i) n with
   | true=>okA (.val (yW sh cs (Nat.mul i size)) s)
   | false=>.fail
  | _=>.fail
 | _=>.fail
def insA (s:St) (x:AV):AV→ARes
 | .int _ (.ofNat i)=>match x with
  | .str b=>match b[i]? with
   | some c=>.val (.int .u8 c.toNat) s
   | none=>.fail
  | _=>.fail
 | _=>.fail
def jJ (f:St→AV→AV→ARes) (x y:Arg):OpF:=fun L s=>f s (x.ev L) (y.ev L)
def keyT (P:Program):Nat→TypeId→Bool
 | 0,_=>false
 | d+1,t=>match P.underlying t with
  | some .bool | some (.int _) | some .string=>true
  | some (.struct fs)=>fs.all fun f=>keyT P d f.type
  | some (.array _ e)=>keyT P d e
  | _=>false
def keyK (P:Program) (t:TypeId):Option Cmp:=match keyT P JC t with
 | true=>cmpT P JC t
 | false=>none
def findA (c:Cmp) (k:AV):List (AV × AV)→Nat→Option (Option (Nat × AV))
 | [],_=>some none
 | (k',v)::es,i=>match Cmp.eq c k k' with
  | some true=>some (some (i,v))
  | some false=>findA c k es (Nat.succ i)
  | none=>none
def sameS:AV→AV→Bool
 | .int k a,.int k' b=>Nat.beq (vi k) (vi k') && eqI a b
 | .bool a,.bool b=>a == b
 | .str a,.str b=>a == b
 | _,_=>false
def samesS:List AV→List AV→Bool
 | [],[]=>true
 | a::l,b::m=>sameS a b && samesS l m
 | _,_=>false
def keyOk (c:Cmp) (k:AV):Bool:=match Cmp.eq c k k with
 | some true=>true
 | _=>false
def lookA (_c:Cmp) (_z:AV) (_ok:Bool) (_s:St) (_k:AV) (_m:AV):ARes:=.fail
def kLook (c:Cmp) (zero:AV) (ok:Bool) (m k:Arg):OpF:=fun L s=>lookA c zero ok s (k.ev L) (m.ev L)
def keyAt:List (AV × AV)→Nat→AV
 | [],_=>.bad
 | (k,_)::_,0=>k
 | _::l,n+1=>keyAt l n
def updA (_c:Cmp) (_s:St) (_k _v:AV) (_m:AV):ARes:=.fail
def known:AV→Bool
 | .bad=>false
 | _=>true
def kUpd (c:Cmp) (m k v:Arg):OpF:=fun L s=>match known (v.ev L) with
 | true=>updA c s (k.ev L) (v.ev L) (m.ev L)
 | false=>.fail
def delA (_c:Cmp) (_s:St) (_k:AV) (_m:AV):ARes:=.fail
def kDel (c:Cmp) (m k:Arg):OpF:=fun L s=>delA c s (k.ev L) (m.ev L)
def nthO:List AV→Nat→Option AV
 | [],_=>none
 | a::_,0=>some a
 | _::l,n+1=>nthO l n
def Jm (i:Nat) (s:St):AV→ARes
 | .tup vs=>match nthO vs i with
  | some v=>.val v s
  | none=>.fail
 | _=>.fail
def ZC (size n:Nat) (s:St):AV→Option (List AV)
 | .slice b o _ _ _=>match s.h.get b with
  | some (.cells c _)=>cut o (n * size) c
  | some (.fam c _ k _)=>cut o (n * size) (c.take k)
  | _=>none
 | .vs b w _=>match gR s b w with
  | some c=>cut 0 (n * size) c
  | none=>none
 | .nilslice=>match Nat.beq n 0 with
  | true=>some []
  | false=>none
 | .tail _ _=>match Nat.beq n 0 with
  | true=>some []
  | false=>none
 | .str b=>some ((b.extract 0 n).data.toList.map fun x=>.int .u8 x.toNat)
 | _=>none
def lenA:AV→Option Nat
 | .slice _ _ n _ _=>some n
 | .nilslice=>some 0
 | .tail _ _=>some 0
 | .str s=>some s.size
 | .vs _ _ n=>some n
 | _=>none
def wE (size bytes tg n:Nat) (new:List AV) (s:St):AV→ARes
 | .nilslice=>match Nat.beq n 0 with
  | true=>.val .nilslice s
  | false=>match Nat.ble (n * bytes) limit with
   | false=>.fail
   | true=>.val (.slice s.n 0 n n true) (s.new (.cells new (size+tg)))
 | .slice b o len cap ext=>match s.h.get b with
  | some (.cells c sz)=>match Nat.ble (len+n) cap with
   | true=>match over (o+len * size) new c with
    | some c=>.val (.slice b o (len+n) cap ext) (s.put b (.cells c sz))
    | none=>.fail
   | false=>match Nat.ble ((len+n) * bytes) limit with
    | false=>.fail
    | true=>match ext with
     | true =>
      if len=cap∧c.length=o+len * size∧vC sz=size then
       .val (.slice s.n 0 (len+n) (len+n) true) ((s.kill b).new (.cells (c.drop o++new) (if o=0∧sz=size+tg then sz else size)))
      else .fail
     | false=>match cut o (len * size) c with
      | some old=>.val (.slice s.n 0 (len+n) (len+n) true) (s.new (.cells (old++new) (size+tg)))
      | none=>.fail
  | _=>.fail
 | .tail b o=>match Nat.beq n 0 with
  | true=>.val (.tail b o) s
  | false=>match Nat.ble (n * bytes) limit with
   | false=>.fail
   | true=>match s.h.get b with
    | some (.cells c sz)=>if c.length=o∧vC sz=size then .val (.slice s.n 0 n n true) ((s.kill b).new (.cells new size)) else .fail
    | _=>.fail
 | _=>.fail
def St.bump (s:St):St:=⟨s.h,Nat.succ s.n,s.m⟩
def gG (v:Nat):List (Nat × Nat)→Option (Nat × List (Nat × Nat))
 | []=>none
 | (w,k)::r=>match Nat.beq v w with
  | true=>some (k,(w,k)::r)
  | false=>gG v r
def leAll (k:Nat):List (Nat × Nat)→Bool
 | []=>true
 | (_,j)::r=>match Nat.ble j k with
  | true=>leAll k r
  | false=>false
def famA (size b k0 k len n:Nat) (c new:List AV) (rest:List (Nat × Nat)) (s:St):ARes :=
 if k=len * size∧k≤c.length∧0<n∧leAll k ((b,k0)::rest)=true then .val (.vs b s.n (len+n)) (s.put b (.fam (c.take k++new) size k0 ((s.n,k+new.length)::rest))).bump else .fail
def growF (size bytes tg n:Nat) (new:List AV) (s:St) (x:AV):ARes:=match x with
 | .slice b o len cap true=>match Nat.ble ((len+n) * bytes) limit,Nat.beq o 0,Nat.beq len cap with
  | true,true,true=>match s.h.get b with
   | some (.cells c sz)=>if c.length=len * size∧vC sz=size then famA size b c.length c.length len n c new [] s else .fail
   | some (.fam c sz k _)=>if sz=size then famA size b k k len n c new [] s else .fail
   | _=>.fail
  | _,_,_=>.fail
 | .vs b v len=>match Nat.ble ((len+n) * bytes) limit with
  | true=>match s.h.get b with
   | some (.fam c sz k0 vs)=>match gG v vs with
    | some (k,rest)=>if sz=size then famA size b k0 k len n c new rest s else .fail
    | none=>.fail
   | _=>.fail
  | false=>.fail
 | x=>wE size bytes tg n new s x
def hasFam (x y t:Nat):List (Nat × Nat × Nat)→Bool
 | []=>false
 | (a,b,c)::r=>match Nat.beq x a,Nat.beq y b,Nat.beq t c with
  | true,true,true=>true
  | _,_,_=>hasFam x y t r
def inFams (t:TypeId) (x y:Arg):Bool:=match x,y with
 | .tmp a,.tmp b=>hasFam a b t fams
 | _,_=>false
def jT (fm:Bool) (size bytes tg:Nat) (s:St) (x y:AV):ARes:=match lenA y with
 | none=>.fail
 | some n=>match ZC size n s y with
  | none=>.fail
  | some new=>match Nat.beq new.length (n * size) with
   | false=>.fail
   | true=>match scalars new with
    | true=>match fm with
     | true=>growF size bytes tg n new s x
     | false=>wE size bytes tg n new s x
    | false=>.fail
def JV (z:List AV) (size bytes tg:Nat) (s:St) (x:AV):AV→ARes
 | .int _ (.ofNat n)=>match Nat.ble (n * bytes) limit with
  | false=>.fail
  | true=>match scalars (vE z n) with
   | true=>wE size bytes tg n (vE z n) s x
   | false=>.fail
 | _=>.fail
def copyA (size:Nat) (s:St) (x y:AV):ARes:=match lenA x,lenA y with
 | some dl,some sl=>match ZC size (Nat.min sl dl) s y with
  | none=>.fail
  | some new=>match scalars new with
   | false=>.fail
   | true=>match x with
    | .nilslice=>.val (.int .i64 (Nat.min sl dl:Nat)) s
    | .slice b o _ _ _=>match s.h.get b with
     | some (.cells c sz)=>match over o new c with
      | some c=>.val (.int .i64 (Nat.min sl dl:Nat)) (s.put b (.cells c sz))
      | none=>.fail
     | _=>.fail
    | _=>.fail
 | _,_=>.fail
def clearA (z:List AV) (s:St):AV→ARes
 | .nilslice=>.val .undef s
 | .slice b o n _ _=>match Nat.beq n 0 with
  | true=>.val .undef s
  | false=>match scalars (vE z n) with
   | false=>.fail
   | true=>match s.h.get b with
    | some (.cells c sz)=>match over o (vE z n) c with
     | some c=>.val .undef (s.put b (.cells c sz))
     | none=>.fail
    | _=>.fail
 | _=>.fail
def zq (s:St):AV→ARes
 | .slice _ _ n _ _=>.val (.int .i64 (Int.ofNat n)) s
 | .nilslice=>.val (.int .i64 0) s
 | .tail _ _=>.val (.int .i64 0) s
 | .vs _ _ n=>.val (.int .i64 (Int.ofNat n)) s
 | _=>.fail
def lenStrA (s:St):AV→ARes
 | .str b=>.val (.int .i64 (Int.ofNat b.size)) s
 | _=>.fail
def YU (s:St):AV→ARes
 | .nilmap=>.val (.int .i64 0) s
 | .map b=>match s.h.get b with
  | some (.map es)=>.val (.int .i64 (Int.ofNat es.length)) s
  | _=>.fail
 | _=>.fail
def capsA (s:St):AV→ARes
 | .slice _ _ _ c false=>.val (.int .i64 (Int.ofNat c)) s
 | .slice _ _ _ c true=>.val (.ge .i64 (Int.ofNat c)) s
 | .tail _ _=>.val (.ge .i64 0) s
 | .nilslice=>.val (.int .i64 0) s
 | _=>.fail
def minA:AV→AV→AV
 | .int k x,.int _ y=>.int k (match leI x y with | true=>x | false=>y)
 | _,_=>.bad
def maxA:AV→AV→AV
 | .int k x,.int _ y=>.int k (match leI y x with | true=>x | false=>y)
 | _,_=>.bad
def foldA (f:AV→AV→AV):AV→List AV→AV
 | x,[]=>x
 | x,y::r=>foldA f (f x y) r
def gX (f:AV→AV→AV) (x:Arg) (r:List Arg):OpF:=fun L s=>okA (.val (foldA f (x.ev L) (evs r L)) s)
def sliceDataA (_s:St) (_v:AV):ARes:=.fail
def Zb (_tsz:Nat) (_s:St) (_x _n:AV):ARes:=.fail
def Za (P:Program) (ts:Array TypeId) (x n:Arg):Option OpF:=match ts.toList with
 | [pt,_]=>match P.underlying pt with
  | some (.pointer u)=>match Nat.beq (P.cellsOf u) 1 with
   | true=>some (jJ (Zb (1+tag u)) x n)
   | false=>none
  | _=>none
 | _=>none
def ZG (P:Program) (t:Option TypeId):Option Bool:=match t with
 | some t=>match P.underlying t with
  | some (.int _)=>some true
  | some (.slice _)=>some false
  | some .string=>some false
  | _=>none
 | none=>some false
def lenK (P:Program) (t:TypeId) (x:Arg):Option OpF:=match P.underlying t with
 | some .string=>some (kUn lenStrA x)
 | some (.slice _)=>some (kUn zq x)
 | some (.map _ _)=>some (kUn YU x)
 | some (.array n _)=>some (zE (.con (.int .i64 n)))
 | _=>none
def capK (P:Program) (t:TypeId) (x:Arg):Option OpF:=match P.underlying t with
 | some (.slice _)=>some (kUn capsA x)
 | some (.array n _)=>some (zE (.con (.int .i64 n)))
 | _=>none
def appendK (P:Program) (ts:Array TypeId) (x y:Arg):Option OpF:=match ts[0]? with
 | none=>none
 | some t=>match P.underlying t with
  | some (.slice elem)=>match jv P elem,Yf P elem,ZZ P elem with
   | some size,some bytes,some zero =>
    if size=0∨bytes=0∨zero.length≠size∨1048576≤size then none else
    match ZG P ts[1]? with
    | some false=>some (jJ (jT (inFams t x y) size bytes (tag elem)) x y)
    | some true=>some (jJ (JV zero size bytes (tag elem)) x y)
    | none=>none
   | _,_,_=>none
  | _=>none
def copyK (P:Program) (ts:Array TypeId) (x y:Arg):Option OpF:=match ts[0]? with
 | none=>none
 | some t=>match P.underlying t with
  | some (.slice elem)=>match jv P elem with
   | some size=>some (jJ (copyA size) x y)
   | none=>none
  | _=>none
def clearK (P:Program) (ts:Array TypeId) (x:Arg):Option OpF:=match ts[0]? with
 | none=>none
 | some t=>match P.underlying t with
  | some (.slice elem)=>match ZZ P elem with
   | some z=>some (kUn (clearA z) x)
   | none=>none
  | _=>none
def vm (P:Program) (b:Builtin) (ts:Array TypeId) (args:List Arg):Option OpF :=
 match b,args with
 | .len,[x]=>match ts[0]? with
  | some t=>lenK P t x
  | none=>none
 | .cap,[x]=>match ts[0]? with
  | some t=>capK P t x
  | none=>none
 | .append,[x,y]=>appendK P ts x y
 | .copy,[x,y]=>copyK P ts x y
 | .clear,[x]=>clearK P ts x
 | .unsafeSliceData,[x]=>some (kUn sliceDataA x)
 | .unsafeString,[x,n]=>Za P ts x n
 | .min,x::r=>some (gX minA x r)
 | .max,x::r=>some (gX maxA x r)
 | .delete,[m,k]=>match ts[0]? with
  | some t=>match P.underlying t with
   | some (.map key _)=>match keyK P key with
    | some c=>some (kDel c m k)
    | none=>none
   | _=>none
  | none=>none
 | _,_=>none
def partsK (place:Nat→Option (Nat × Nat)):List (Nat × Operand)→Option (List (Nat × Nat × Arg))
 | []=>some []
 | (i,x)::r=>match place i,jM x,partsK place r with
  | some (o,k),some a,some l=>some ((o,k,a)::l)
  | _,_,_=>none
def fieldPlace (P:Program) (fields:Array Field) (i:Nat):Option (Nat × Nat):=match fields[i]? with
 | some f=>match jv P f.type with
  | some n=>some (f.offset,n)
  | none=>none
 | none=>none
def buildK (P:Program) (t:TypeId) (parts:List (Nat × Operand)):Option OpF :=
 match ZZ P t,P.underlying t with
 | some z,some (.struct fields)=>if fields.toList.all (fun f=>(jv P f.type).isSome) then
   match partsK (fieldPlace P fields) parts with
   | some l=>some (ye z l)
   | none=>none
  else none
 | some z,some (.array _ elem)=>match jv P elem with
  | some size=>match partsK (fun i=>some (i * size,size)) parts with
   | some l=>some (ye z l)
   | none=>none
  | none=>none
 | _,_=>none
def gi (P:Program) (t:TypeId) (len:Nat) (parts:List (Nat × Operand)):Option OpF :=
 match P.underlying t with
 | some (.slice elem)=>match jv P elem,ZZ P elem with
  | some size,some z =>
   if len * size > limit∨z.length≠size then none else
   match partsK (fun i=>some (i * size,size)) parts with
   | some l=>some (zz (vE z len) len l)
   | none=>none
  | _,_=>none
 | _=>none
def mapTypes (P:Program) (t:TypeId):Option (Cmp × Option AV):=match P.underlying t with
 | some (.map key elem)=>match keyK P key with
  | some c=>some (c,zeroV P elem)
  | none=>none
 | _=>none
def one (f:Arg→Option OpF) (x:Operand):Option OpF:=match jM x with
 | some a=>f a
 | none=>none
def two (f:Arg→Arg→Option OpF) (x y:Operand):Option OpF:=match jM x,jM y with
 | some a,some b=>f a b
 | _,_=>none
def three (f:Arg→Arg→Arg→Option OpF) (x y z:Operand):Option OpF:=match jM x,jM y,jM z with
 | some a,some b,some c=>f a b c
 | _,_,_=>none
def ZR (size:Nat) (s:St):AV→AV→ARes
 | .slice a p la _ _,.slice b q lb _ _=>match Nat.beq la 0 with
  | true=>.val (.bool false) s
  | false=>match Nat.beq lb 0 with
   | true=>.val (.bool false) s
   | false=>match s.h.get a,s.h.get b with
    | some (.cells _ _),some (.cells _ _)=>match Nat.beq size 0 with
     | true=>.val (.bool false) s
     | false=>match Nat.beq a b with
      | true=>.val (.bool (decide (p<q+lb * size) && decide (q<p+la * size))) s
      | false=>.val (.bool false) s
    | _,_=>.fail
 | .nilslice,.slice _ _ _ _ _=>.val (.bool false) s
 | .slice _ _ _ _ _,.nilslice=>.val (.bool false) s
 | .nilslice,.nilslice=>.val (.bool false) s
 | _,_=>.fail
def noZeroA (sz:Nat) (s:St):AV→ARes
 | .int .i64 (.ofNat n)=>match Nat.ble n limit with
  | true=>.val (.slice s.n 0 n n true) (s.new (.cells (List.replicate n .bad) sz))
  | false=>.fail
 | _=>.fail
def externK (P:Program) (f:FuncId) (args:List Operand):Option OpF:=match P.funcs[f]? with
 | none=>none
 | some fn=>match fn.body with
  | some _=>none
  | none=>if fn.name = "slices.overlaps[int]"∧fn.origin = "slices.overlaps" then
    match fn.params[0]?,jz args with
    | some t,some [x,y]=>match P.underlying t with
     | some (.slice elem)=>match jv P elem with
      | some size=>some (jJ (ZR size) x y)
      | none=>none
     | _=>none
    | _,_=>none
   else if fn.name = "internal/abi.NoEscape"∧fn.origin = "" then match jz args with
    | some [x]=>some (zE x)
    | _=>none
   else if fn.name = "internal/bytealg.MakeNoZero"∧fn.origin = "" then match fn.resultTypes.toList,jz args with
    | [t],some [x]=>match P.underlying t with
     | some (.slice elem)=>some (kUn (noZeroA (1+tag elem)) x)
     | _=>none
    | _,_=>none
   else none
def Jk:Op→Bool
 | .call { callee:=.value _,.. }=>true
 | _=>false
def opK (P:Program) (op:Op):Option OpF :=
 match op with
 | .move x | .assign x=>one (fun a=>some (zE a)) x
 | .pick c a b=>three (fun c a b=>some (yY c a b)) c a b
 | .alloc t=>match ZZ P t with
  | some z=>some (jR z (tag t))
  | none=>none
 | .box t x=>one (fun a=>some (yF (tag t) a)) x
 | .build t parts=>buildK P t parts.toList
 | .buildSlice t len parts=>gi P t len parts.toList
 | .load t a=>match yJ P t with
  | some sh=>one (fun a=>some (zI sh a)) a
  | none=>none
 | .store t a x=>match jv P t with
  | some k=>two (fun a x=>some (jD k a x)) a x
  | none=>none
 | .nilCheck x=>one (fun a=>some (kUn Zs a)) x
 | .binOp op t x y _=>two (binK P op t) x y
 | .unOp op _ x=>one (unK op) x
 | .convert a b x=>one (convK P a b) x
 | .makeFunc (.func f) first cap=>match jz first.toList,jz cap.toList with
  | some l,some r=>some (JO f l r)
  | _,_=>none
 | .makeMap _ none=>some kMap
 | .makeMap t (some r)=>match P.underlying t with
  | some (.map _ _)=>one (fun a=>some (kUn Ju a)) r
  | _=>none
 | .makeSlice t l c=>match P.underlying t with
  | some (.slice elem)=>match jv P elem,Yf P elem,ZZ P elem with
   | some size,some bytes,some z=>if z.length≠size then none else two (fun l c=>some (kMake z bytes l c)) l c
   | _,_,_=>none
  | _=>none
 | .slice t x lo hi mx=>match mx with
  | none=>match jM x,vr lo,vr hi with
   | some x,some lo,some hi=>sliceK P t x lo hi
   | _,_,_=>none
  | some m=>match jM x,vr lo,argOf hi,jM m with
   | some x,some lo,some hi,some m=>slice3K P t x lo hi m
   | _,_,_,_=>none
 | .fieldAddr t x i=>match P.underlying t with
  | some (.struct fs)=>match fieldPlace P fs i with
   | some (off,_+1)=>one (fun a=>some (kUn (zS off) a)) x
   | _=>none
  | _=>none
 | .field t x i=>match P.underlying t with
  | some (.struct fs)=>match fs[i]? with
   | some f=>match yJ P f.type with
    | some sh=>one (fun a=>some (kUn (fldA sh f.offset) a)) x
    | none=>none
   | none=>none
  | _=>none
 | .indexAddr t x ix=>match P.underlying t with
  | some (.slice elem)=>match jv P elem with
   | some size=>two (fun x i=>some (jJ (jX size) x i)) x ix
   | none=>none
  | some (.array n elem)=>match jv P elem with
   | some size=>two (fun x i=>some (jJ (ixaA n size) x i)) x ix
   | none=>none
  | _=>none
 | .index t x ix=>match P.underlying t with
  | some .string=>two (fun x i=>some (jJ insA x i)) x ix
  | some (.array n elem)=>match jv P elem,yJ P elem with
   | some size,some sh=>two (fun x i=>some (jJ (indA n size sh) x i)) x ix
   | _,_=>none
  | _=>none
 | .lookup t m k ok=>match mapTypes P t with
  | some (c,some z)=>two (fun m k=>some (kLook c z ok m k)) m k
  | _=>none
 | .mapUpdate t m k v | .insert t m k v=>match mapTypes P t with
  | some (c,_)=>three (fun m k v=>some (kUpd c m k v)) m k v
  | none=>none
 | .extract t i=>one (fun a=>some (kUn (Jm i) a)) t
 | .call { callee:=.builtin b,args,argTypes }=>match jz args.toList with
  | some l=>vm P b argTypes l
  | none=>none
 | .call { callee:=.value (.func f),args,.. }=>externK P f args.toList
 | _=>none
inductive Ex where
 | norm
 | exit (id:Nat)
 | ret
structure Ctx where
 fn:FuncId
 rnd:Option Nat
 nt:Nat
 xs:List Nat
inductive CRes where
 | fail
 | val (v:AV) (s:St)
abbrev zR:=ATarget→List AV→St→ARes
inductive ORes where
 | fail
 | ok (L:Env) (s:St)
abbrev zF:=zR→Env→St→ORes
def zJ:zF:=fun _ L s=>.ok L s
def onGuard (no:Unit→ORes) (f:Bool→ORes) (v:AV):ORes :=
 AV.casesOn (motive_1:=fun _=>ORes) v ORes.fail (fun _ _=>ORes.fail) f (fun _=>ORes.fail) (fun _ _=>ORes.fail) ORes.fail (fun _ _ _ _ _=>ORes.fail) ORes.fail
  (fun _=>ORes.fail) ORes.fail (fun _ _ _=>ORes.fail) (fun _=>ORes.fail) ORes.fail ORes.fail (fun _=>ORes.fail) (fun l=>List.casesOn (motive:=fun _=>ORes) l (no ()) (fun _ _=>ORes.fail)) (fun _ _=>ORes.fail) (fun _ _=>ORes.fail) (fun _ _=>ORes.fail) (fun _ _ _=>ORes.fail) (fun _ _ _=>ORes.fail)
def oIf (t:Nat) (want:Bool) (o:zF) (skip:zF):zF:=fun cl L s =>
 onGuard (fun _=>skip cl L s) (fun b=>Bool.casesOn (motive:=fun _=>ORes) (b == want) (skip cl L s) (o cl L s)) (L.find t)
inductive Dst where
 | none
 | tmp (t:Nat)
def dstA (nt:Nat):Option Tmp→Option Dst
 | .none=>some .none
 | .some t=>if t<nt then some (.tmp t) else .none
def Dst.put (d:Dst) (v:AV) (L:Env):Env:=Dst.casesOn (motive:=fun _=>Env) d L (fun t=>.cons t v L)
def zC (d:Dst) (f:OpF) (rest:zF):zF:=fun cl L s =>
 ARes.casesOn (motive:=fun _=>ORes) (f L s) ORes.fail (fun v s=>rest cl (d.put v L) s)
def wi (cl:zR) (args:List AV) (s:St):AV→ARes
 | .func f first cap=>cl (.fn f) (first++args++cap) s
 | .yield l=>cl (.yield l) args s
 | _=>.fail
def zo (d:Dst) (f:Arg) (args:List Arg) (rest:zF):zF:=fun cl L s =>
 ARes.casesOn (motive:=fun _=>ORes) (wi cl (evs args L) s (f.ev L)) ORes.fail (fun v s=>rest cl (d.put v L) s)
def jE (d:Dst) (rest:zF):zF:=fun cl L s=>rest cl (d.put .undef L) s
def oFail:zF:=fun _ _ _=>.fail
def callK1 (d:Dst) (rest:zF):Op→Option zF
 | .call { callee:=.value f,args,.. }=>match jM f,jz args.toList with
  | some f,some l=>some (zo d f l rest)
  | _,_=>some oFail
 | _=>some oFail
def opK1 (P:Program) (d:Dst) (op:Op) (rest:zF):Option zF:=match opK P op with
 | some f=>some (zC d f rest)
 | none=>callK1 d rest op
def guardK (ops:Array Oper) (d:Dst) (k rest:zF):Option (Nat × Bool)→Option zF
 | none=>some k
 | some (j,want)=>match (ops[j]?).bind (·.dst) with
  | some t=>some (oIf t want k (jE d rest))
  | none=>none
def opsK (P:Program) (nt:Nat) (ops:Array Oper):List Oper→Option zF
 | []=>some zJ
 | o::r=>match opsK P nt ops r with
  | none=>none
  | some rest=>match dstA nt o.dst with
   | none=>none
   | some d=>match opK1 P d o.op rest with
    | none=>none
    | some k=>guardK ops d k rest o.guard
def far:Nat:=1000000000
def yf:List Operand→List Nat
 | []=>[]
 | .tmp t::r=>t::yf r
 | _::r=>yf r
def yD:Op→Nat
 | .convert a b _=>match JP a b with
  | true=>3
  | false=>0
 | .move _ | .assign _ | .pick _ _ _ | .build _ _ | .nilCheck _ | .binOp _ _ _ _ _ | .unOp _ _ _ | .makeFunc _ _ _ | .slice _ _ _ _ _ | .fieldAddr _ _ _
 | .field _ _ _ | .indexAddr _ _ _ | .index _ _ _ | .extract _ _=>0
 | .alloc _ | .box _ _ | .buildSlice _ _ _ | .makeMap _ _ | .makeSlice _ _ _=>1
 | .load _ _ | .lookup _ _ _ _=>2
 | .call { callee:=.builtin .cap,.. } | .call { callee:=.builtin .min,.. } | .call { callee:=.builtin .max,.. }=>0
 | .call { callee:=.builtin .len,.. }=>2
 | .call { callee:=.builtin .unsafeSliceData,.. }=>0
 | _=>3
def yi (ops:Array Oper) (o:Oper):List Nat:=match o.guard with
 | none=>yf o.op.operands.toList
 | some (j,_)=>match (ops[j]?).bind (·.dst) with
  | some t=>t::yf o.op.operands.toList
  | none=>yf o.op.operands.toList
structure DOp where
 dst:Option Nat
 looks:List Nat
 cls:Nat
 mask:Nat
 call:Bool
 ad:Option Nat
def adOf (op:Op):Option Nat:=match op.operands.toList with
 | .tmp t::_=>some t
 | _=>none
def Je:List DOp→Nat→Nat
 | [],_=>0
 | d::_,0=>d.mask
 | _::r,n+1=>Je r n
def always (e:Edge):Bool:=match e.ground with
 | .textOnly _=>false
 | .gcOnly _=>false
 | _=>true
def maskOf (ds:List DOp):List Edge→Nat
 | []=>0
 | e::r=>match always e with
  | true=>Nat.lor (Nat.lor (Nat.pow 2 e.on) (Je ds e.on)) (maskOf ds r)
  | false=>maskOf ds r
def inGc (e:Edge):Bool:=match e.ground with
 | .textOnly _=>false
 | _=>true
def Yc (i:Nat):List Edge→Bool
 | []=>true
 | e::r=>match e.ground with
  | .gcOnly _=>Yc i r
  | _=>match Nat.ble (Nat.succ e.on) i with
   | true=>Yc i r
   | false=>false
def backOk (i:Nat):List Edge→Bool
 | []=>true
 | e::r=>match Nat.ble (Nat.succ e.on) i with
  | true=>backOk i r
  | false=>false
def allBack:Nat→List Oper→Bool
 | _,[]=>true
 | i,o::r=>match backOk i o.after.toList with
  | true=>allBack (Nat.succ i) r
  | false=>false
def wX (l:List Nat):List Edge→Bool
 | []=>true
 | e::r=>match inGc e with
  | false=>wX l r
  | true=>match l.contains e.on with
   | true=>wX l r
   | false=>false
def firstGc (l:List Nat):Nat→List Oper→Option Nat
 | _,[]=>none
 | i,o::r=>match l.contains i with
  | true=>firstGc l (Nat.succ i) r
  | false=>match wX l o.after.toList with
   | true=>some i
   | false=>firstGc l (Nat.succ i) r
def gcOrder (ops:List Oper):Nat→List Nat→List Nat
 | 0,l=>l
 | n+1,l=>match firstGc l 0 ops with
  | some i=>gcOrder ops n (l++[i])
  | none=>l
def allIn:Nat→List Nat→Bool
 | 0,_=>true
 | n+1,l=>match l.contains n with
  | true=>allIn n l
  | false=>false
def gcOk (ops:List Oper):Bool:=match allBack 0 ops with
 | true=>true
 | false=>allIn ops.length (gcOrder ops ops.length [])
def Yd (ops:Array Oper):Nat→List Oper→List DOp→Option (List DOp)
 | _,[],ds=>some ds
 | i,o::r,ds=>match Yc i o.after.toList with
  | true=>Yd ops (Nat.succ i) r (ds++[⟨o.dst,yi ops o,yD o.op,maskOf ds o.after.toList,Jk o.op,adOf o.op⟩])
  | false=>none
def hasN (t:Nat):List Nat→Bool
 | []=>false
 | u::r=>match Nat.beq t u with
  | true=>true
  | false=>hasN t r
def seen:Option Nat→List Nat→Bool
 | none,_=>false
 | some t,l=>hasN t l
def sameDst:Option Nat→Option Nat→Bool
 | some t,some u=>Nat.beq t u
 | _,_=>false
def freePair (a b:DOp):Bool:=match seen a.dst b.looks with
 | true=>false
 | false=>match seen b.dst a.looks with
  | true=>false
  | false=>match Nat.beq b.cls 3 with
   | false=>true
   | true=>match Nat.beq a.cls 3 with
    | true=>false
    | false=>match Nat.beq a.cls 1 with
     | true=>false
     | false=>true
def pairOk (i:Nat) (a b:DOp):Bool:=match sameDst a.dst b.dst with
 | true=>false
 | false=>match Nat.testBit b.mask i with
  | true=>true
  | false=>freePair a b
def againstOk (i:Nat) (a:DOp):List DOp→Bool
 | []=>true
 | b::r=>match pairOk i a b with
  | true=>againstOk i a r
  | false=>false
def pairsOk:Nat→List DOp→Bool
 | _,[]=>true
 | i,a::r=>match againstOk i a r with
  | true=>pairsOk (Nat.succ i) r
  | false=>false
def flag1 (j:Nat) (h:DOp):Nat→List DOp→Bool
 | _,[]=>false
 | i,a::r=>match Nat.beq a.cls 2 with
  | false=>flag1 j h (Nat.succ i) r
  | true=>match Nat.testBit h.mask i with
   | true=>flag1 j h (Nat.succ i) r
   | false=>match Nat.testBit a.mask j with
    | true=>flag1 j h (Nat.succ i) r
    | false=>true
def Ya (ds:List DOp) (j:Nat) (o:Op):Bool:=match Jk o with
 | false=>false
 | true=>flag1 j ⟨none,[],3,Je ds j,true,none⟩ 0 ds
def early (t j:Nat):Nat→List DOp→Bool
 | _,[]=>true
 | k,d::r=>match Nat.ble j k with
  | false=>early t j (Nat.succ k) r
  | true=>match d.dst with
   | none=>early t j (Nat.succ k) r
   | some u=>match Nat.beq t u with
    | true=>false
    | false=>early t j (Nat.succ k) r
def Jz (ds:List DOp) (j t mask:Nat):Nat→List DOp→Option (List (Nat × Nat))
 | _,[]=>some []
 | i,a::r=>match Nat.beq a.cls 2 with
  | false=>Jz ds j t mask (Nat.succ i) r
  | true=>match Nat.testBit mask i with
   | true=>Jz ds j t mask (Nat.succ i) r
   | false=>match Nat.testBit a.mask j with
    | true=>Jz ds j t mask (Nat.succ i) r
    | false=>match a.ad with
     | none=>Jz ds j t mask (Nat.succ i) r
     | some u=>match early t j 0 ds,early u i 0 ds,Jz ds j t mask (Nat.succ i) r with
      | true,true,some l=>some ((t,u)::l)
      | _,_,_=>none
def endsOf (ds:List DOp):Nat→List DOp→Option (List (Nat × Nat))
 | _,[]=>some []
 | j,d::r=>match Nat.beq d.cls 3,d.call,d.ad with
  | true,false,some t=>match Jz ds j t d.mask 0 ds,endsOf ds (Nat.succ j) r with
   | some l,some m=>some (l++m)
   | _,_=>none
  | _,_,_=>endsOf ds (Nat.succ j) r
def jO:AV→Option Nat
 | .ptr b _=>some b
 | .slice b _ _ _ _=>some b
 | .map b=>some b
 | .tail b _=>some b
 | .vs b _ _=>some b
 | .vp b _ _=>some b
 | _=>none
def vX (x y:AV):Bool:=match jO x,jO y with
 | some b,some c=>!Nat.beq b c
 | _,_=>true
def endOk (M:Env):List (Nat × Nat)→Bool
 | []=>true
 | (t,u)::r=>match vX (M.find t) (M.find u) with
  | true=>endOk M r
  | false=>false
def yR (l:List (Nat × Nat)) (f:zF):zF:=fun cl L s=>match f cl L s with
 | .ok M s=>match endOk M l with
  | true=>.ok M s
  | false=>.fail
 | .fail=>.fail
def YG (ds:List DOp) (j mask:Nat):Nat→List DOp→Option (List Nat)
 | _,[]=>some []
 | i,a::r=>match Nat.beq a.cls 2 with
  | false=>YG ds j mask (Nat.succ i) r
  | true=>match Nat.testBit mask i with
   | true=>YG ds j mask (Nat.succ i) r
   | false=>match Nat.testBit a.mask j with
    | true=>YG ds j mask (Nat.succ i) r
    | false=>match a.ad with
     | none=>YG ds j mask (Nat.succ i) r
     | some u=>match early u i 0 ds,YG ds j mask (Nat.succ i) r with
      | true,some l=>some (u::l)
      | _,_=>none
def watchOf (ds:List DOp) (j:Nat):Option (List Nat):=YG ds j (Je ds j) 0 ds
mutual
def eqV:AV→AV→Bool
 | .bad,.bad=>true
 | .int k n,.int k' n'=>Nat.beq (vi k) (vi k') && eqI n n'
 | .bool a,.bool b=>(a && b) || (!a && !b)
 | .str a,.str b=>Yh a b
 | .ptr b o,.ptr c p=>Nat.beq b c && Nat.beq o p
 | .nilptr,.nilptr=>true
 | .slice b o l c e,.slice b' o' l' c' e'=>Nat.beq b b' && (Nat.beq o o' && (Nat.beq l l' && (Nat.beq c c' && ((e && e') || (!e && !e')))))
 | .nilslice,.nilslice=>true
 | .map b,.map c=>Nat.beq b c
 | .nilmap,.nilmap=>true
 | .func f x y,.func g u v=>Nat.beq f g && (eqVs x u && eqVs y v)
 | .yield b,.yield c=>Nat.beq b c
 | .nilfunc,.nilfunc=>true
 | .nilif,.nilif=>true
 | .agg x,.agg y=>eqVs x y
 | .tup x,.tup y=>eqVs x y
 | .ge k n,.ge k' n'=>Nat.beq (vi k) (vi k') && eqI n n'
 | .tail b o,.tail c p=>Nat.beq b c && Nat.beq o p
 | .gptr b o,.gptr c p=>Nat.beq b c && Nat.beq o p
 | .vs b o l,.vs c p k=>Nat.beq b c && (Nat.beq o p && Nat.beq l k)
 | .vp b o l,.vp c p k=>Nat.beq b c && (Nat.beq o p && Nat.beq l k)
 | _,_=>false
def eqVs:List AV→List AV→Bool
 | [],[]=>true
 | a::l,b::m=>eqV a b && eqVs l m
 | _,_=>false
end
def sameO (x y:Option AObj):Bool:=match x,y with
 | some (.cells c sz),some (.cells c' sz')=>eqVs c c' && Nat.beq sz sz'
 | _,_=>false
def gj (L:Env) (m:Nat) (h h':Heap):List Nat→Bool
 | []=>true
 | u::r=>match jO (L.find u) with
  | some b=>match Nat.ble (Nat.succ b) m with
   | true=>gj L m h h' r
   | false=>match sameO (h.get b) (h'.get b) with
    | true=>gj L m h h' r
    | false=>false
  | none=>gj L m h h' r
def mayA (w:Option (List Nat)) (L:Env) (s s':St):Bool:=match Nat.ble s.n s'.m with
 | true=>true
 | false=>match w with
  | none=>false
  | some l=>gj L s'.m s.h s'.h l
def endT (w:Option (List Nat)) (s s':St) (r:ORes):ORes:=match r with
 | .ok M s2=>match mayA w M s s' with
  | true=>.ok M s2
  | false=>.fail
 | .fail=>.fail
def oValT (w:Option (List Nat)) (d:Dst) (f:OpF) (rest:zF):zF:=fun cl L s =>
 ARes.casesOn (motive:=fun _=>ORes) (f L ⟨s.h,s.n,far⟩) ORes.fail (fun v s'=>endT w s s' (rest cl (d.put v L) ⟨s'.h,s'.n,yA s.m s'.m⟩))
def jf (w:Option (List Nat)) (d:Dst) (f:Arg) (args:List Arg) (rest:zF):zF:=fun cl L s =>
 ARes.casesOn (motive:=fun _=>ORes) (wi cl (evs args L) ⟨s.h,s.n,far⟩ (f.ev L)) ORes.fail (fun v s'=>endT w s s' (rest cl (d.put v L) ⟨s'.h,s'.n,yA s.m s'.m⟩))
def callK1T (w:Option (List Nat)) (d:Dst) (rest:zF):Op→Option zF
 | .call { callee:=.value f,args,.. }=>match jM f,jz args.toList with
  | some f,some l=>some (jf w d f l rest)
  | _,_=>some oFail
 | _=>some oFail
def opK1T (P:Program) (w:Option (List Nat)) (d:Dst) (op:Op) (rest:zF):Option zF:=match opK P op with
 | some f=>some (oValT w d f rest)
 | none=>callK1T w d rest op
def opsT (P:Program) (nt:Nat) (ops:Array Oper) (ds:List DOp):Nat→List Oper→Option zF
 | _,[]=>some zJ
 | i,o::r=>match opsT P nt ops ds (Nat.succ i) r with
  | none=>none
  | some rest=>match dstA nt o.dst with
   | none=>none
   | some d=>match Ya ds i o.op with
    | true=>match opK1T P (watchOf ds i) d o.op rest with
     | none=>none
     | some k=>guardK ops d k rest o.guard
    | false=>match opK1 P d o.op rest with
     | none=>none
     | some k=>guardK ops d k rest o.guard
def JH (i:Nat):List Nat→Nat
 | []=>0
 | x::r=>match Nat.beq x i with
  | true=>0
  | false=>Nat.succ (JH i r)
def fillM (m n:Nat):Nat→List Nat→List Nat
 | 0,l=>l
 | k+1,l=>match Nat.testBit m (Nat.sub n (Nat.succ k)),l.contains (Nat.sub n (Nat.succ k)) with
  | true,false=>fillM m n k (l++[Nat.sub n (Nat.succ k)])
  | _,_=>fillM m n k l
def oneM (i:Nat) (l:List Nat):List Nat:=match l.contains i with
 | true=>l
 | false=>l++[i]
def permL (n:Nat):Nat→List DOp→List Nat→List Nat
 | _,[],l=>fillM (Nat.sub (Nat.pow 2 n) 1) n n l
 | i,d::r,l=>match Nat.beq d.cls 3 with
  | true=>permL n (Nat.succ i) r (oneM i (fillM d.mask n n l))
  | false=>permL n (Nat.succ i) r l
def relabE (ord:List Nat):List Edge→List Edge
 | []=>[]
 | e::r=>match always e with
  | true=>{ e with on:=JH e.on ord }::relabE ord r
  | false=>relabE ord r
def relab (ord:List Nat) (o:Oper):Oper:={ o with after:=(relabE ord o.after.toList).toArray,guard:=match o.guard with
 | none=>none
 | some (j,b)=>some (JH j ord,b) }
def pickP (ops:Array Oper) (ord:List Nat):List Nat→Option (List Oper)
 | []=>some []
 | i::r=>match ops[i]?,pickP ops ord r with
  | some o,some l=>some (relab ord o::l)
  | _,_=>none
def nodupN:List Nat→Bool
 | []=>true
 | x::r=>match hasN x r with
  | true=>false
  | false=>nodupN r
def permK (ops:Array Oper) (ord:List Nat):Option (Array Oper):=match allIn ops.size ord,nodupN ord,pickP ops ord ord with
 | true,true,some l=>some l.toArray
 | _,_,_=>none
def drawC (P:Program) (nt:Nat) (ops:Array Oper) (ds:List DOp):Option zF:=match pairsOk 0 ds,endsOf ds 0 ds,opsT P nt ops ds 0 ops.toList with
 | true,some l,some f=>some (yR l f)
 | _,_,_=>none
def drawP (P:Program) (nt:Nat) (ops:Array Oper):Option zF:=match Yd ops 0 ops.toList [] with
 | none=>none
 | some ds=>drawC P nt ops ds
def drawK (P:Program) (nt:Nat) (ops:Array Oper):Option zF:=match Yd ops 0 ops.toList [],gcOk ops.toList with
 | some ds,true=>match drawC P nt ops ds with
  | some f=>some f
  | none=>match permK ops (permL ops.size 0 ds []) with
   | some o=>drawP P nt o
   | none=>none
 | _,_=>none
inductive R where
 | fail
 | done (e:Ex) (L:Env) (d:List Nat) (s:St)
abbrev K:=zR→Ctx→Env→List Nat→St→R
def Zx (l:List Nat) (M L:Env):Env :=
 List.rec (motive:=fun _=>Env→Env) (fun L=>L) (fun t _ ih L=>ih (L.set t (M.find t))) l L
def zd:K:=fun _ _ L d s=>.done .norm L d s
def zD (ops:zF) (keep:List Nat):K:=fun cl _ L d s=>match ops cl L s with
 | .ok M s=>.done .norm (Zx keep M L) d s
 | .fail=>.fail
def zv (ops:zF) (keep:List Nat):K:=fun cl _ L d s=>match ops cl L s with
 | .ok M s=>match Nat.ble s.n 549755813888 with
  | true=>.done .norm (Zx keep M L) d s
  | false=>.fail
 | .fail=>.fail
def kSeq1 (b:K) (cl:zR) (c:Ctx) (e:Ex) (L:Env) (d:List Nat) (s:St):R :=
 Ex.casesOn (motive:=fun _=>R) e (b cl c L d s) (fun id=>.done (.exit id) L d s) (.done .ret L d s)
def zG (a b:K):K:=fun cl c L d s=>R.casesOn (motive:=fun _=>R) (a cl c L d s) R.fail (kSeq1 b cl c)
def onBoolR (f:Bool→R) (v:AV):R :=
 AV.casesOn (motive_1:=fun _=>R) v R.fail (fun _ _=>R.fail) f (fun _=>R.fail) (fun _ _=>R.fail) R.fail (fun _ _ _ _ _=>R.fail) R.fail
  (fun _=>R.fail) R.fail (fun _ _ _=>R.fail) (fun _=>R.fail) R.fail R.fail (fun _=>R.fail) (fun _=>R.fail) (fun _ _=>R.fail) (fun _ _=>R.fail) (fun _ _=>R.fail) (fun _ _ _=>R.fail) (fun _ _ _=>R.fail)
def ze (x:Arg) (a b:K):K:=fun cl c L d s=>onBoolR (fun t=>Bool.casesOn (motive:=fun _=>R) t (b cl c L d s) (a cl c L d s)) (x.ev L)
def zU (id:Nat) (b:K):K:=fun cl c L d s=>match b cl c L d s with
 | .done (.exit id') L d s=>match Nat.beq id' id with
  | true=>.done .norm L d s
  | false=>.done (.exit id') L d s
 | r=>r
def jL (b:K) (n:Nat):K:=Nat.rec (motive:=fun _=>K) (fun _ _ _ _ _=>R.fail) (fun _ ih=>zG b ih) n
def rounds:Nat:=9223372036854775808
def ju (b:K):K:=jL b rounds
def jy (id:Nat):K:=fun _ _ L d s=>.done (.exit id) L d s
def jG:K:=fun _ _ L d s=>.done .ret L d s
def kFail:K:=fun _ _ _ _ _=>.fail
def yv (s:St) (l:Nat):Option ALoop:=match s.h.get l with
 | some (.loop r)=>some r
 | _=>none
def gD (c:Ctx) (L:Env) (d:List Nat) (params:List Tmp) (assign body:Code) (s:St):Option (List Nat × St) :=
 match c.rnd with
 | some l0=>match yv s l0 with
  | some r=>some (d,s.new (.loop ⟨.ready,none,c.fn,L,params,assign,body,r.defers,c.nt,c.xs⟩))
  | none=>none
 | none=>some (s.n::d,(s.new .dfr).new (.loop ⟨.ready,none,c.fn,L,params,assign,body,s.n,c.nt,c.xs⟩))
def jumpA (L:Env) (d:List Nat) (s:St):Option Code→R
 | none=>.done .norm L d s
 | some .ret=>.done .ret L d s
 | some (.exit id)=>.done (.exit id) L d s
 | _=>.fail
def wy (f:Arg) (params:List Tmp) (assign body:Code):K:=fun cl c L d s =>
 match gD c L d params assign body s with
 | none=>.fail
 | some (d,s)=>match wi cl [AV.yield (Nat.sub s.n 1)] s (f.ev L) with
  | .fail=>.fail
  | .val _ s'=>match yv s' (Nat.sub s.n 1) with
   | some r=>match r.state with
    | .busy=>.fail
    | _=>jumpA L d (s'.put (Nat.sub s.n 1) (.loop { r with state:=.exhausted })) r.pending
   | none=>.fail
def Ji (X:List Nat) (ops:List Oper):List Nat:=ops.filterMap fun o=>match o.dst with
 | some t=>if X.contains t then some t else none
 | none=>none
def jh (P:Program) (X:List Nat) (nt:Nat):Code→Option K
 | .skip=>some zd
 | .label _=>some zd
 | .region _ ops false=>match opsK P nt ops ops.toList with
  | some k=>some (zD k (Ji X ops.toList))
  | none=>some kFail
 | .region _ ops true=>match drawK P nt ops with
  | some k=>some (zv k (Ji X ops.toList))
  | none=>some kFail
 | .seq a b=>match jh P X nt a,jh P X nt b with
  | some a,some b=>some (zG a b)
  | _,_=>none
 | .cond x a b=>match jM x,jh P X nt a,jh P X nt b with
  | some x,some a,some b=>some (ze x a b)
  | _,_,_=>none
 | .block id b=>match jh P X nt b with
  | some b=>some (zU id b)
  | none=>none
 | .loop b=>match jh P X nt b with
  | some b=>some (ju b)
  | none=>none
 | .scope b=>jh P X nt b
 | .exit id=>some (jy id)
 | .ret=>some jG
 | .rangeFunc f params assign body=>match jM f with
  | some f=>if params.toList.all (fun t=>decide (t<nt) && X.contains t) then some (wy f params.toList assign body) else some kFail
  | none=>some kFail
 | _=>some kFail
def zO:Nat→List AV→Env→Env
 | _,[],L=>L
 | i,a::r,L=>.cons i a (zO (Nat.succ i) r L)
def wO (P:Program) (L:Env) (s:St):List ResultVar→Option (List AV)
 | []=>some []
 | .tmp t::r=>match wO P L s r with
  | some l=>some (L.find t::l)
  | none=>none
 | .cell a t::r=>match yJ P t with
  | some sh=>match okA (Jw sh s (L.find a)),wO P L s r with
   | .val v _,some l=>some (v::l)
   | _,_=>none
  | none=>none
def oneA:List AV→AV
 | [v]=>v
 | l=>.tup l
def gK (s:St):List Nat→Option St
 | []=>some s
 | b::r=>match s.h.get b with
  | some .dfr=>gK (s.kill b) r
  | _=>none
def vF:Env→List Tmp→List AV→Env
 | L,t::ts,a::as=>vF (L.set t a) ts as
 | L,_,_=>L
def yL (P:Program) (rs:List ResultVar) (L:Env) (d:List Nat) (s:St):ARes:=match gK s d with
 | none=>.fail
 | some s=>match wO P L s rs with
  | some l=>.val (oneA l) s
  | none=>.fail
def YW:Ex→Option Code
 | .norm=>none
 | .exit id=>some (.exit id)
 | .ret=>some .ret
def goesOn:Ex→Bool
 | .norm=>true
 | _=>false
def YA (l:Nat) (e:Ex) (s:St):ARes:=match yv s l with
 | some r=>.val (.bool (goesOn e)) (s.put l (.loop { r with state:=if goesOn e then .ready else .done,pending:=YW e }))
 | none=>.fail
def roundA (P:Program) (cl:zR) (l:Nat) (args:List AV) (s:St) (r:ALoop):ARes :=
 if args.length≠r.params.length then .fail else
 match jh P r.xs r.nt r.assign,jh P r.xs r.nt r.body with
 | some a,some b=>match a cl ⟨r.fn,some l,r.nt,r.xs⟩ (vF r.tmps r.params args) [] s with
  | .done .norm L _ s=>match yv s l with
   | some r'=>match r'.state with
    | .ready=>match b cl ⟨r.fn,some l,r.nt,r.xs⟩ L [] (s.put l (.loop { r' with state:=.busy })) with
     | .done e _ _ s=>YA l e s
     | .fail=>.fail
    | _=>.fail
   | none=>.fail
  | _=>.fail
 | _,_=>.fail
def lead (X:List Nat):Nat→Nat→Nat
 | 0,i=>i
 | n+1,i=>match X.contains i with
  | true=>lead X n (i+1)
  | false=>i
def zZ (P:Program) (X:FuncId→List Nat) (cl:zR) (f:FuncId) (args:List AV) (s:St) (fn:Func):ARes :=
 match fn.body with
 | none=>.fail
 | some body =>
  if fn.name == "runtime.NumGoroutine" then .fail else
  match Nat.ble args.length fn.ntmps,Nat.ble args.length (lead (X f) 100 0) with
  | true,true=>match jh P (X f) fn.ntmps body with
   | none=>.fail
   | some k=>match k cl ⟨f,none,fn.ntmps,X f⟩ (zO 0 args .nil) [] s with
    | .done .norm L d s=>yL P fn.results.toList L d s
    | .done .ret L d s=>yL P fn.results.toList L d s
    | _=>.fail
  | _,_=>.fail
mutual
def plain:AV→Bool
 | .int _ _=>true
 | .bool _=>true
 | .str _=>true
 | .nilptr=>true
 | .nilslice=>true
 | .nilmap=>true
 | .nilfunc=>true
 | .nilif=>true
 | .gptr _ _=>true
 | .agg l=>plains l
 | .tup l=>plains l
 | _=>false
def plains:List AV→Bool
 | []=>true
 | v::r=>match plain v with
  | true=>plains r
  | false=>false
end
def inside:AObj→Option (List AV)
 | .cells c _=>some c
 | .fam c _ _ _=>some c
 | .map es=>some (es.foldr (fun e l=>e.1::e.2::l) [])
 | _=>none
def reachB (n0:Nat) (all:Heap) (ih:List AV→Heap→Heap) (r:List AV) (h:Heap) (b:Nat):Heap:=match Nat.ble n0 b with
 | false=>ih r h
 | true=>match h.get b with
  | some _=>ih r h
  | none=>match all.get b with
   | none=>ih r h
   | some o=>match inside o with
    | some l=>ih (l++r) (Heap.set (some o) depth h b)
    | none=>all
def reachV (n0:Nat) (all:Heap) (ih:List AV→Heap→Heap) (r:List AV) (h:Heap):AV→Heap
 | .ptr b _=>reachB n0 all ih r h b
 | .slice b _ _ _ _=>reachB n0 all ih r h b
 | .tail b _=>reachB n0 all ih r h b
 | .map b=>reachB n0 all ih r h b
 | .vs b _ _=>reachB n0 all ih r h b
 | .vp b _ _=>reachB n0 all ih r h b
 | .func _ l m=>ih (l++(m++r)) h
 | .agg l=>ih (l++r) h
 | .tup l=>ih (l++r) h
 | .yield _=>all
 | _=>ih r h
def reach1 (n0:Nat) (all:Heap) (ih:List AV→Heap→Heap) (l:List AV) (h:Heap):Heap:=List.casesOn (motive:=fun _=>Heap) l h (fun v r=>reachV n0 all ih r h v)
def reach (n0:Nat) (all:Heap) (n:Nat):List AV→Heap→Heap:=Nat.rec (motive:=fun _=>List AV→Heap→Heap) (fun _ _=>all) (fun _ ih=>reach1 n0 all ih) n
def kept (k:Bool) (all some:Heap):Heap:=Bool.casesOn (motive:=fun _=>Heap) k some all
def settle (s:St):ARes→ARes
 | .fail=>.fail
 | .val v s'=>match Nat.ble s.n s'.m with
  | true=>match plain v with
   | true=>.val v s
   | false=>.val v ⟨kept JN s'.h (reach s.n s'.h 4000 [v] s.h),s'.n,s.m⟩
  | false=>.val v ⟨s'.h,s'.n,yA s.m s'.m⟩
def roomy (s:St) (b:Nat) (c:List AV) (sz:Nat):St:=⟨((St.kill ⟨s.h,s.n,far⟩ b).new (.cells (c++List.replicate (vC sz) .bad) sz)).h,Nat.succ s.n,far⟩
def joinA (s:St) (b sz:Nat):ARes→ARes→ARes
 | .val (.slice bA 0 k kA true) sA,.val (.slice bB 0 k' kB true) sB=>match sA.h.get bA,sB.h.get bB with
  | some (.cells lA zA),some (.cells lB zB) =>
   if k=kA∧k'=k∧kB=k∧zA=sz∧zB=sz∧lA.length=k * vC sz∧samesS lA lB=true∧s.n≤bA∧s.n≤bB∧s.n≤sA.m∧s.n≤sB.m∧s.n<549755813888 then
    .val (.slice s.n 0 k k true) ((s.kill b).new (.cells lA sz))
   else .fail
  | _,_=>.fail
 | _,_=>.fail
def forkA (P:Program) (X:FuncId→List Nat) (cl:zR) (f:FuncId) (s:St) (fn:Func):List AV→ARes
 | .slice b 0 len cap true::rest=>match s.h.get b with
  | some (.cells c sz) =>
   if len=cap∧c.length=len * vC sz then
    joinA s b sz (zZ P X cl f (.slice b 0 len len false::rest) ⟨s.h,s.n,far⟩ fn)
     (zZ P X cl f (.slice s.n 0 len (len+1) true::rest) (roomy s b c sz) fn)
   else .fail
  | _=>.fail
 | _=>.fail
def orFork (r:ARes) (k:ARes):ARes:=ARes.casesOn (motive:=fun _=>ARes) r k (fun v s=>.val v s)
def jQ (P:Program) (X:FuncId→List Nat) (cl:zR):zR
 | .fn f,args,s=>match P.funcs[f]? with
  | none=>.fail
  | some fn=>orFork (settle s (zZ P X cl f args ⟨s.h,s.n,far⟩ fn)) (forkA P X cl f s fn args)
 | .yield l,args,s=>match yv s l with
  | some r=>roundA P cl l args s r
  | none=>.fail
def call (P:Program) (X:FuncId→List Nat):Nat→zR
 | 0=>fun _ _ _=>.fail
 | n+1=>jQ P X (call P X n)
end Go.Abs
end
