/- Of each function of the translation, the slots that the interpreter keeps from region to region. Any table would do: this one was read off the functions. -/
import Derived.Test.YtkoaddhhnijdpaaAbsTop
import Derived.Test.YtkoaddhhnijdpaaProg
namespace Go.Proofs.Ytkoaddhhnijdpaa
open Go.Abs
noncomputable section
def slots:List (List Nat):=[[],[],[],[0,2,3,4,5,6,7,8,9,10,11,19,76],[0,2,3,4,10],[0,1,2,3,8,9,10,11,12,31],[0,1,2,3,4,5,6,7],[0,1,2],[0,1,4,5,6,12,18],[0,1,4,6],[0,1,4,7],[0,1,2,3,4,8],[0,2,3],[0,1,2,6],[0,1,2,6,7,8],[0,1,2,4,5,6,7,8,9,19],[0],[0,1,2,3,4,5,6,7,8,16,22,23,24],[0],[0],[0,1,4],[0,1,4,5,6,18],[0,1,2],[0,1,2,3],[0,2,3,5,6,7,8,9,14],[0,1,4,11],[0,1,2,3,4],[0,2,3,4],[0,1,2,3],[0,1,2,4,5,6,7,8],[0,1,2,3],[0,1,2,3,4,5],[0,1,4,5,7],[0,2],[0,2,3,4,5,6,11,13,14,15,16,35],[0,1,2,3,4,5],[0,1,4,5,6,7,8,9,10,11,12,21],[0,1,2,4,5,7,9,10,11,12],[0,1,2,6,14],[0,1,2,3,5,6,12,15,16,17,18,40],[0,1,2,5,14,15,16,17],[0,1,2,7,8,9,10,11],[0,1,2,5,7,8,9,10,28],[0,1,2],[0,1,2],[0,1,2,3,4],[0,1,2,3,4,5,6,7,8,9,10,18],[0,1,2,3,4,6,7,14],[0,2,3,4,5,6,7,14],[0,1,2,3,4,5,6,7,8,21],[0,1,2,6,7,11],[0,1,4,7],[0,1,2],[0,1,2,3,6,7,21,27],[0,1,4,5]]
def slotsAt (l:List (List Nat)):Nat→List Nat:=List.rec (motive:=fun _=>Nat→List Nat) (fun _=>[]) (fun a _ ih n=>Bool.rec (motive:=fun _=>List Nat) (ih (Nat.sub n 1)) a (Nat.beq n 0)) l
def X (f:FuncId):List Nat:=slotsAt slots f
end
end Go.Proofs.Ytkoaddhhnijdpaa
