/- All of lanes, and how many bits a byte has. -/
import Derived.Test.YtmjlaienklheiaaH
import Derived.Maps.AppendAt
import Derived.Lib.BitFns
import Derived.Lib.Strings
import Derived.Lib.Walk
namespace Go.Proofs
set_option maxRecDepth 100000
open Go.RowKit Go.Shelf
attribute [local go_sem] Oper.semAt_some

theorem Try.infoInt : (Try.prog.info? 3).map (fun i => (i.zero, i.size, i.bytes)) = some (some (.int .i64 0), 1, 8) := by kernel_rfl

/-- The value of the slice of lanes. -/
def laneVals (l : List (Fin 8)) : List Value := l.map fun (y : Fin 8) => Value.int .i64 ((y : Nat) : Int)
theorem laneVals_length (l : List (Fin 8)) : (laneVals l).length = l.length := by simp [laneVals]
theorem laneVals_snoc (l : List (Fin 8)) (y : Fin 8) : laneVals (l ++ [y]) = laneVals l ++ [.int .i64 ((y : Nat) : Int)] := by simp [laneVals]
def OwnsLanes (n₀ : Nat) (l : List (Fin 8)) (v : Value) (W : World) : Prop := W.ownsRow n₀ 3 1 v l.length (laneVals l) ∧ (v = .slice none 0 0 ↔ l = [])
def AllQ (l : List (Fin 8)) (w : World) (e : Ending) (w' : World) : Prop := ∃ v, e = .returned v ∧ OwnsLanes w.heap.size l v w' ∧ Below w.heap.size w w'

/-- How many lanes a mask has. -/
theorem ones_lanes : ∀ m : Fin 256, Lib.onesCount (m : Nat) = (lanesOf m).length := by decide +kernel
theorem wrap64_eq (n : Int) : (n + 9223372036854775808) % 18446744073709551616 - 9223372036854775808 = wrap64 n := by unfold wrap64; rfl
/-- The lanes of a mask that is said lane by lane. -/
theorem lanesOf_filter : ∀ m : Fin 256, lanesOf m = all8.filter fun (k : Fin 8) => (m : Nat).testBit (k : Nat) := by decide +kernel
theorem lanesOf_maskB (g : Nat → Bool) : lanesOf (maskB g) = all8.filter fun (k : Fin 8) => g k := by
  rw [lanesOf_filter ⟨maskB g, maskB_lt g⟩]
  exact List.filter_congr fun k _ => testBit_maskB g k
/-- How many lanes of x have a byte less than k. -/
def cnt (x k : Nat) : Nat := (all8.filter fun (n : Fin 8) => decide (byt x n < k)).length
theorem filter_split (f : Fin 8 → Nat) (k : Nat) (l : List (Fin 8)) : (l.filter fun n => decide (f n < k + 1)).length = (l.filter fun n => decide (f n < k)).length + (l.filter fun n => f n == k).length := by
  induction l with
  | nil => rfl
  | cons a l ih =>
    simp only [List.filter_cons]
    by_cases h1 : f a < k
    · have h2 : ¬ f a = k := by omega
      have h3 : f a < k + 1 := by omega
      simp [h1, h2, h3]
      omega
    · by_cases h2 : f a = k
      · subst h2
        simp
        omega
      · have h3 : ¬ f a < k + 1 := by omega
        simp [h1, h2, h3]
        omega
theorem cnt_succ (x k : Nat) : cnt x (k + 1) = cnt x k + (lanesOf (maskB fun n => byt x n == k)).length := by
  rw [lanesOf_maskB]
  exact filter_split (fun n => byt x n) k all8
theorem cnt_zero (x : Nat) : cnt x 0 = 0 := by simp [cnt]
theorem cnt_all (x : Nat) : cnt x 256 = 8 := by
  unfold cnt
  rw [List.filter_eq_self.2 (fun (n : Fin 8) _ => decide_eq_true (byt_lt x n))]
  rfl
theorem cnt_le (x k : Nat) : cnt x k ≤ 8 := List.length_filter_le _ all8
end Go.Proofs
