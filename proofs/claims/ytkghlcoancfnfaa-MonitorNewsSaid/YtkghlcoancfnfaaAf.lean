/- Arena: Counts. -/
import Derived.Test.YtkghlcoancfnfaaAe
namespace Go.Proofs
set_option maxRecDepth 100000
open Go.RowKit Go.Shelf
attribute [local go_sem] Oper.semAt_some

end Go.Proofs
