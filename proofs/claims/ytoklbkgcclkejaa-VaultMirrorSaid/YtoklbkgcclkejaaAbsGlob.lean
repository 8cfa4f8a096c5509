/- What the listed package variables hold when a call begins, and the conversions that look into memory: any lists would do; what the first one says is asked of the world. -/
import GoSem.Step
namespace Go.Abs
def globs:List (Nat × List Value):=[]
def convs:List (Nat × Nat):=[(1000000007,1000000007)]
/-- Appends (both operands' temporaries, the slice's type) behind which the slice goes on being used: any list would do. -/
def fams:List (Nat × Nat × Nat):=[(52,54,32),(1000000007,1000000007,1000000007)]
/-- Whether all new blocks are kept behind a call, or those alone that can be reached. -/
def JP:Bool:=true
end Go.Abs
