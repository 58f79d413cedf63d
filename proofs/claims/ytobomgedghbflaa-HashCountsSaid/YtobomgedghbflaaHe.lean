/- LeadingZeros64, Parts. -/
import Derived.Test.YtobomgedghbflaaHd
import Derived.Test.YtobomgedghbflaaVl
namespace Go.Proofs
open Go.RowKit Go.Shelf
attribute [local go_sem] Oper.semAt_some
set_option maxRecDepth 100000 in
set_option maxHeartbeats 1000000 in
theorem Try.LeadingZeros64_any (x : Nat) (hx : x < 18446744073709551616) (w : World) :
    Calls Try.prog 47 #[.int .u64 (x : Int)] w fun e w' => e = .returned (.int .i64 ((64 - Lib.bitLen x : Nat) : Int)) ∧ w = w' := by
  have hl := Try.Len64_any x hx w
  have hle := bitLen_le64 hx
  generalize Lib.bitLen x = n at *
  have e := sub64 n hle
  go_enter Try.func47, Try.ntmps47
  go_wp2_with fail
  refine hl.mono ?_
  rintro e' w' ⟨rfl, rfl⟩
  go_wp2_with fail
  go_ret
  exact ⟨rfl, rfl⟩
set_option maxRecDepth 100000 in
set_option maxHeartbeats 1000000 in
theorem Try.parts_any (a b : Nat) (ha : a < 18446744073709551616) (hb : b < 18446744073709551616) (w : World) :
    Calls Try.prog 28 #[.int .u64 (a : Int), .int .u64 (b : Int)] w fun e w' => e = .returned (.int .i64 (partsB a b : Int)) ∧ w = w' := by
  have hz := Try.LeadingZeros64_any (a ^^^ b) (xor_lt ha hb) w
  have hr : Hid ((64 - Lib.bitLen (a ^^^ b) : Nat) = partsB a b) := Lib.hid rfl
  rw [hr.out] at hz
  have hx := xor_walk ha hb rfl
  generalize a ^^^ b = x at *
  generalize partsB a b = n at *
  go_enter Try.func28, Try.ntmps28
  go_wp2_with fail
  refine hz.mono ?_
  rintro e' w' ⟨rfl, rfl⟩
  go_wp2_with fail
  go_ret
  exact ⟨rfl, rfl⟩
set_option maxRecDepth 100000 in
set_option maxHeartbeats 1000000 in
theorem Try.Parts_any (a b : Nat) (ha : a < 18446744073709551616) (hb : b < 18446744073709551616) (w : World) :
    Calls Try.prog 15 #[.int .u64 (a : Int), .int .u64 (b : Int)] w fun e w' => e = .returned (.int .i64 (partsB a b : Int)) ∧ w = w' := by
  have hz := Try.parts_any a b ha hb w
  generalize partsB a b = n at *
  go_enter Try.func15, Try.ntmps15
  go_wp2_with fail
  refine hz.mono ?_
  rintro e' w' ⟨rfl, rfl⟩
  go_wp2_with fail
  go_ret
  exact ⟨rfl, rfl⟩
end Go.Proofs
