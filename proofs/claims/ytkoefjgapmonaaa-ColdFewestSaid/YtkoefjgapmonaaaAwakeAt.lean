/- The interpreter's run of a closed function, at the places where its pieces meet. -/
import Derived.Test.YtkoefjgapmonaaaAbsTab
import Derived.Test.YtkoefjgapmonaaaAbsPiece
namespace Go.Proofs.Ytkoefjgapmonaaa.awake
open Go.Abs
noncomputable section
abbrev l (c:List AV)(z:Nat):Heap:=.node .nil (some (.cells c z)) .nil
abbrev f (a b:Heap):Heap:=.node a none b
abbrev i (n:Nat):AV:=.int .i64 (.ofNat n)
abbrev j (n:Nat):AV:=.int .i64 (.negSucc n)
def env0:Env:=(.cons 0 (.bool false) (.cons 1 (.ptr 4 0) (.cons 2 (i 0) (.cons 3 (.ptr 11 0) (.cons 4 (i 0) .nil)))))
def st0:St:=⟨(.node (f (f (f .nil (l [j 49,i 1,i 20,i 5,i 100,i 20] 0)) (l [i 0,i 200] 28311552)) (.node (f .nil (l [i 0,i 0,i 6] 0)) (some (.cells [i 0,i 4,i 300] 0)) (l [i 1000,i 500,i 600,i 200,i 250,j 9,i 10,i 50,i 80] 0))) (some (.cells [i 100,i 150,.slice 1 0 1 1 false,.slice 2 0 1 1 false,.slice 3 0 3 3 false] 33554432)) (.node (f (f .nil (l [i 0,i 60,.slice 10 0 1 1 false] 68157440)) (l [i 100,i 150,.slice 6 0 1 1 false,.slice 7 0 1 1 false,.slice 8 0 3 3 false] 33554432)) (some (.cells [i 1000,i 500,i 600,i 200,i 250,j 9,i 10,i 50,i 80] 0)) (.node (f .nil (l [i 50,i 54] 28311552)) (some (.cells [j 49,i 1,i 20,i 5,i 100,i 20] 0)) (l [i 0,i 4,i 300] 0)))),12,4⟩
def env1:Env:=(.cons 0 (.bool false) (.cons 1 (.ptr 4 0) (.cons 2 (i 0) (.cons 3 (.ptr 11 0) (.cons 4 (i 0) (.cons 5 (i 8) (.cons 6 (i 0) .nil)))))))
def st1:St:=⟨(.node (f (f (f (f .nil (l [i 0,i 60,.slice 17 0 1 1 false] 68157440)) (l [j 49,i 1,i 20,i 5,i 100,i 20] 0)) (.node .nil (some (.cells [i 0,i 200] 28311552)) (l [i 100,i 150,.slice 13 0 1 1 false,.slice 14 0 1 1 false,.slice 15 0 3 3 false] 33554432))) (.node (f .nil (l [i 0,i 0,i 6] 0)) (some (.cells [i 0,i 4,i 300] 0)) (.node .nil (some (.cells [i 1000,i 500,i 600,i 200,i 250,j 9,i 10,i 50,i 80] 0)) (l [i 0,i 4,i 300] 0)))) (some (.cells [i 100,i 150,.slice 1 0 1 1 false,.slice 2 0 1 1 false,.slice 3 0 3 3 false] 33554432)) (.node (f (f (f .nil (l [i 0,i 0,i 6] 0)) (l [i 0,i 60,.slice 10 0 1 1 false] 68157440)) (.node .nil (some (.cells [i 100,i 150,.slice 6 0 1 1 false,.slice 7 0 1 1 false,.slice 8 0 3 3 false] 33554432)) (l [i 1000,i 500,i 600,i 200,i 250,j 9,i 10,i 50,i 80] 0))) (some (.cells [i 1000,i 500,i 600,i 200,i 250,j 9,i 10,i 50,i 80] 0)) (.node (f .nil (l [i 50,i 54] 28311552)) (some (.cells [j 49,i 1,i 20,i 5,i 100,i 20] 0)) (.node .nil (some (.cells [i 0,i 4,i 300] 0)) (l [j 49,i 1,i 20,i 5,i 100,i 20] 0))))),18,4⟩
end
end Go.Proofs.Ytkoefjgapmonaaa.awake
