/- Arena: how many there are of each tag. -/
import Derived.Test.YtkghlcoancfnfaaAd
namespace Go.Proofs
set_option maxRecDepth 100000
open Go.RowKit Go.Shelf
attribute [local go_sem] Oper.semAt_some

def arr3 (f : Nat → Nat) : Array Value := #[.int .i64 (f 0 : Nat), .int .i64 (f 1 : Nat), .int .i64 (f 2 : Nat)]
theorem arr3_get (f : Nat → Nat) (k : Nat) (h : k < 3) : (arr3 f)[k]? = some (.int .i64 (f k : Nat)) := by
  rcases (by omega : k = 0 ∨ k = 1 ∨ k = 2) with rfl | rfl | rfl <;> rfl
theorem arr3_set (f : Nat → Nat) (k : Nat) (h : k < 3) : (arr3 f).setIfInBounds k (.int .i64 ((f k : Nat) + 1)) = arr3 (fun n => f n + if n = k then 1 else 0) := by
  rcases (by omega : k = 0 ∨ k = 1 ∨ k = 2) with rfl | rfl | rfl <;> simp [arr3]
end Go.Proofs
