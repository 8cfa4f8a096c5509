/- What the listed package variables hold when a call begins, and the conversions that look into memory: any lists would do; what the first one says is asked of the world. -/
import GoSem.Step
namespace Go.Abs
def globs : List (Nat × List Value) := []
def convs : List (Nat × Nat) := [(1000000007, 1000000007)]
end Go.Abs
