/- A region that draws its order: a head, each operation of it looked at once, whatever the order; behind it the others, whose order is forced. -/
import Derived.Test.YtodoenimlhldjaaQMPut
import Derived.Test.YtodoenimlhldjaaQMAI
namespace Go.Proofs.Ytodoenimlhldjaa
open Go Go.RowKit
set_option linter.unusedVariables false
section
variable {P : Program}
def headOkB (ops : Array Oper) (n : Nat) : Bool :=
  decide (n < ops.size) && Region.sinkB .any ops n && Region.chainB .any ops n && edgesB .any ops && Region.seqB .any ops (ops.size - n) n (headDone n (ops.size - n))
end
end Go.Proofs.Ytodoenimlhldjaa
