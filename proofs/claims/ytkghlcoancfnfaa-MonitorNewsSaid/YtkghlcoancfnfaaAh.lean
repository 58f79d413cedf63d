/- Arena: the entries of a tag, collected. -/
import Derived.Test.YtkghlcoancfnfaaAg
namespace Go.Proofs
set_option maxRecDepth 100000
open Go.RowKit Go.Shelf
attribute [local go_sem] Oper.semAt_some

def EntQ (l : List Pr) (w : World) (e : Ending) (w' : World) : Prop := ∃ v, e = .returned v ∧ OwnsP 38 w.heap.size l v w' ∧ Below w.heap.size w w'
end Go.Proofs
