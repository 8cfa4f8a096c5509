/- The interpreter's run of a closed function, at the places where its pieces meet. -/
import Derived.Test.YtamlnddeiokbdaaAbsTab
import Derived.Test.YtamlnddeiokbdaaAbsPiece
namespace Go.Proofs.Ytamlnddeiokbdaa.awake
open Go.Abs
noncomputable section
abbrev i (n:Nat):AV:=.int .i64 (.ofNat n)
abbrev j (n:Nat):AV:=.int .i64 (.negSucc n)
def env0:Env:=(.cons 0 (.bool false) (.cons 2 (.ptr 2 0) (.cons 1 (i 1) (.cons 3 (i 0) (.cons 4 (.slice 9 0 2 2 false) (.cons 5 (i 0) (.cons 6 (i 4069) (.cons 7 (i 0) .nil))))))))
def st0:St:=⟨(.node (.node (.node (.node .nil none (.node .nil (some (.cells [(i 0),(i 0)] 0)) .nil)) none (.node .nil (some (.cells [(i 0),(i 0),(i 1000),(i 1000),(i 500),(i 500),(i 1),(i 0),(i 2000),(i 3000),(i 600),(i 700),(i 0),(i 0),(i 0),(i 500),(i 900),(i 900),(i 1),(i 1),(i 0),(i 100),(i 50),(i 60)] 0)) (.node .nil (some (.cells [(i 1),(i 1),(.slice 13 0 1 1 false)] 29360128)) .nil))) none (.node (.node .nil none (.node .nil (some (.cells [(i 0)] 4194304)) .nil)) (some (.cells [(i 600),(i 700)] 40894464)) (.node .nil (some (.cells [(i 2),(i 2),(.slice 4 0 4 4 false)] 29360128)) .nil))) (some (.cells [(i 2),(i 2),(.slice 1 0 4 4 false)] 29360128)) (.node (.node (.node .nil none (.node .nil (some (.cells [(i 50),(i 95),(i 140),(i 321)] 0)) .nil)) none (.node .nil (some (.cells [(i 0),(i 100),(i 1000),(i 200)] 0)) (.node .nil (some (.cells [(i 0),(i 0),(i 5),(i 5),(i 20),(i 20)] 0)) .nil))) (some (.cells [(i 0),(i 0),(i 1000),(i 1000),(i 500),(i 500),(i 1),(i 0),(i 2000),(i 3000),(i 600),(i 700),(i 0),(i 0),(i 0),(i 500),(i 900),(i 900),(i 1),(i 1),(i 0),(i 100),(i 50),(i 60)] 0)) (.node (.node .nil none (.node .nil (some (.cells [(i 1)] 4194304)) .nil)) (some (.cells [(i 2),(i 2),(.slice 4 0 4 4 false)] 29360128)) (.node .nil (some (.cells [(.slice 5 0 2 2 false)] 31457280)) .nil)))),14,2⟩
end
end Go.Proofs.Ytamlnddeiokbdaa.awake
