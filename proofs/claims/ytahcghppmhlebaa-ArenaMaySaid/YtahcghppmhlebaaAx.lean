/- Arena: the reference's Take. -/
import Derived.Test.YtahcghppmhlebaaAw
namespace Go.Proofs
set_option maxRecDepth 100000
open Go.RowKit Go.Shelf
attribute [local go_sem] Oper.semAt_some

/-- What the reference says of what is taken. -/
def RtkQ (w : World) (R : Int × List Pr × List Pr) (e : Ending) (w' : World) : Prop := ∃ a n c b m d, e = .returned (.tuple #[.agg #[.slice a n c], .slice b m d, .int .i64 R.1]) ∧ PAt w' (.slice a n c) (if R.1 = 0 then R.2.1 else []) ∧ PAt w' (.slice b m d) (if R.1 = 0 then R.2.2 else []) ∧ Below w.heap.size w w'
end Go.Proofs
