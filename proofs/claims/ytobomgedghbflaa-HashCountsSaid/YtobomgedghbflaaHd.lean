/- Of, Key, H1, H2, Prefix, Parts. -/
import Derived.Test.YtobomgedghbflaaHc
namespace Go.Proofs
open Go.RowKit Go.Shelf
attribute [local go_sem] Oper.semAt_some

set_option maxRecDepth 100000 in
set_option maxHeartbeats 1000000 in
theorem Try.number_any (x : Int) (w : World) : Calls Try.prog 24 #[.int .u64 x] w fun e w' => e = .returned (.int .u64 x) ∧ w = w' := by
  go_enter Try.func24, Try.ntmps24
  go_wp2
  go_ret
  exact ⟨rfl, rfl⟩
theorem Try.fieldDraft (x : Int) (w : World) : (Instr.field 52 (.agg #[.int .u64 x]) 0).run Try.prog w = .ok (.int .u64 x) w := by kernel_rfl
set_option maxRecDepth 100000 in
set_option maxHeartbeats 1000000 in
theorem Try.Of_any (s k : Nat) (hs : s < 18446744073709551616) (hk : k < 18446744073709551616) (w : World) :
    Calls Try.prog 11 #[.int .u64 (s : Int), .int .u64 (k : Int)] w fun e w' => e = .returned (.int .u64 (ofB s k : Int)) ∧ Below w.heap.size w w' := by
  have hm := Try.made_any s k hs hk w
  generalize ofB s k = r at *
  go_enter Try.func11, Try.ntmps11
  go_wp2_with fail
  refine hm.mono ?_
  rintro e w' ⟨rfl, hB⟩
  unfold draftV
  have hfl := Try.fieldDraft
  go_wp2_with (go_at_call 24; refine (Try.number_any _ _).mono ?_; rintro e w'' ⟨rfl, rfl⟩)
  go_ret
  exact ⟨rfl, hB⟩
set_option maxRecDepth 100000 in
set_option maxHeartbeats 1000000 in
theorem Try.Key_any (s h : Nat) (hs : s < 18446744073709551616) (hh : h < 18446744073709551616) (w : World) :
    Calls Try.prog 12 #[.int .u64 (s : Int), .int .u64 (h : Int)] w fun e w' => e = .returned (.int .u64 (keyB s h : Int)) ∧ Below w.heap.size w w' := by
  have hm := Try.unmade_any h hh w
  have hx : bits .xor .u64 (unmixB h : Int) (s : Int) = ((keyB s h : Nat) : Int) := xor_walk (unmixB_lt h) hs rfl
  generalize keyB s h = r at *
  generalize unmixB h = q at *
  go_enter Try.func12, Try.ntmps12
  go_wp2_with fail
  refine hm.mono ?_
  rintro e w' ⟨rfl, hB⟩
  unfold draftV
  have hfl := Try.fieldDraft
  go_wp2_with (go_at_call 24; refine (Try.number_any _ _).mono ?_; rintro e w'' ⟨rfl, rfl⟩)
  go_ret
  exact ⟨rfl, hB⟩
set_option maxRecDepth 100000 in
set_option maxHeartbeats 1000000 in
theorem Try.h1_any (x : Nat) (w : World) : Calls Try.prog 26 #[.int .u64 (x : Int)] w fun e w' => e = .returned (.int .u64 ((x / 128 : Nat) : Int)) ∧ w = w' := by
  go_enter Try.func26, Try.ntmps26
  go_wp2
  go_ret
  exact ⟨by simp, rfl⟩
set_option maxRecDepth 100000 in
set_option maxHeartbeats 1000000 in
theorem Try.H1_any (x : Nat) (w : World) : Calls Try.prog 13 #[.int .u64 (x : Int)] w fun e w' => e = .returned (.int .u64 ((x / 128 : Nat) : Int)) ∧ w = w' := by
  go_enter Try.func13, Try.ntmps13
  go_wp2_with (go_at_call 26; refine (Try.h1_any _ _).mono ?_; rintro e w'' ⟨rfl, rfl⟩)
  go_ret
  exact ⟨rfl, rfl⟩
theorem and_127 (x : Nat) (hx : x < 18446744073709551616) : bits .and .u64 (x : Int) 127 = ((x % 128 : Nat) : Int) := by
  rw [show (127 : Int) = ((127 : Nat) : Int) from rfl, u64_and_nat _ _ hx (by decide)]
  exact congrArg _ (Nat.and_two_pow_sub_one_eq_mod x 7)
theorem wrap_u8s (n : Nat) (h : n < 128) : IntKind.u8.wrap (n : Int) = (n : Int) := by
  have e : ∀ n : Int, IntKind.u8.wrap n = n % 256 := fun n => by simp [IntKind.wrap, IntKind.bits, IntKind.signed]
  rw [e]; omega
set_option maxRecDepth 100000 in
set_option maxHeartbeats 1000000 in
theorem Try.h2_any (x : Nat) (hx : x < 18446744073709551616) (w : World) : Calls Try.prog 27 #[.int .u64 (x : Int)] w fun e w' => e = .returned (.int .u8 ((x % 128 : Nat) : Int)) ∧ w = w' := by
  have e := and_127 x hx
  have e2 := wrap_u8s (x % 128) (Nat.mod_lt _ (by decide))
  generalize x % 128 = y at *
  go_enter Try.func27, Try.ntmps27
  go_wp2
  go_ret
  exact ⟨rfl, rfl⟩
set_option maxRecDepth 100000 in
set_option maxHeartbeats 1000000 in
theorem Try.H2_any (x : Nat) (hx : x < 18446744073709551616) (w : World) : Calls Try.prog 14 #[.int .u64 (x : Int)] w fun e w' => e = .returned (.int .u8 ((x % 128 : Nat) : Int)) ∧ w = w' := by
  go_enter Try.func14, Try.ntmps14
  go_wp2_with (go_at_call 27; refine (Try.h2_any _ hx _).mono ?_; rintro e w'' ⟨rfl, rfl⟩)
  go_ret
  exact ⟨rfl, rfl⟩
def noBitsB (n : Int) : Bool := decide (n < 0) || decide (64 < n)
set_option maxRecDepth 100000 in
set_option maxHeartbeats 1000000 in
theorem Try.noBits_any (n : Int) (w : World) : Calls Try.prog 20 #[.int .i64 n] w fun e w' => e = .returned (.bool (noBitsB n)) ∧ w = w' := by
  by_cases h : n < 0
  · have hr : Hid (noBitsB n = true) := Lib.hid (by simp [noBitsB, h])
    have hd : decide (n < 0) = true := by simp [h]
    go_enter Try.func20, Try.ntmps20
    go_wp2
    go_ret
    exact ⟨by rw [hr.out]; rfl, rfl⟩
  · have hd : decide (n < 0) = false := by simp [h]
    by_cases h2 : 64 < n
    · have hr : Hid (noBitsB n = true) := Lib.hid (by simp [noBitsB, h2])
      have hd2 : decide (64 < n) = true := by simp [h2]
      go_enter Try.func20, Try.ntmps20
      go_wp2
      go_ret
      exact ⟨by rw [hr.out]; rfl, rfl⟩
    · have hr : Hid (noBitsB n = false) := Lib.hid (by simp [noBitsB, h, h2])
      have hd2 : decide (64 < n) = false := by simp [h2]
      go_enter Try.func20, Try.ntmps20
      go_wp2
      go_ret
      exact ⟨by rw [hr.out]; rfl, rfl⟩
theorem sub64 (n : Nat) (hn : n ≤ 64) : (64 : Int) - (n : Int) = ((64 - n : Nat) : Int) := by omega
set_option maxRecDepth 100000 in
set_option maxHeartbeats 1000000 in
theorem Try.prefix_any (x n : Nat) (hn : n ≤ 64) (w : World) : Calls Try.prog 22 #[.int .u64 (x : Int), .int .i64 (n : Int)] w fun e w' => e = .returned (.int .u64 (prefixB x n : Int)) ∧ w = w' := by
  have hr : Hid (prefixB x n = x / 2 ^ (64 - n)) := Lib.hid rfl
  have h1 : (64 : Int) - (n : Int) = ((64 - n : Nat) : Int) := sub64 n hn
  have h0 : (0 : Int) ≤ ((64 - n : Nat) : Int) := by omega
  have h3 : ((64 - n : Nat) : Int) ≤ 64 := by omega
  generalize prefixB x n = p at *
  generalize 64 - n = m at *
  go_enter Try.func22, Try.ntmps22
  go_wp2
  go_ret
  exact ⟨by rw [hr.out]; simp, rfl⟩
/-- What Prefix comes to: the prefix, and the error. -/
def prefE (x : Nat) (n : Int) : Nat × Int := if noBitsB n = true then (0, 2) else (prefixB x n.toNat, 0)
set_option maxRecDepth 100000 in
set_option maxHeartbeats 1000000 in
theorem Try.Prefix_any (x : Nat) (n : Int) (w : World) : Calls Try.prog 10 #[.int .u64 (x : Int), .int .i64 n] w fun e w' => e = .returned (.tuple #[.int .u64 ((prefE x n).1 : Int), .int .i64 (prefE x n).2]) ∧ w = w' := by
  have hb := Try.noBits_any n
  cases h : noBitsB n with
  | true =>
    have hr : Hid (prefE x n = (0, 2)) := Lib.hid (by unfold prefE; rw [if_pos h])
    rw [h] at hb
    go_enter Try.func10, Try.ntmps10
    go_wp2_with (go_at_call 20; refine (hb _).mono ?_; rintro e w'' ⟨rfl, rfl⟩)
    go_ret2
    exact ⟨by rw [hr.out]; rfl, rfl⟩
  | false =>
    have hr : Hid (prefE x n = (prefixB x n.toNat, 0)) := Lib.hid (by unfold prefE; rw [if_neg (by rw [h]; decide)])
    rw [h] at hb
    have hn : 0 ≤ n ∧ n ≤ 64 := by simp [noBitsB] at h; omega
    obtain ⟨m, rfl⟩ : ∃ m : Nat, n = (m : Int) := ⟨n.toNat, by omega⟩
    rw [Int.toNat_natCast] at hr
    go_enter Try.func10, Try.ntmps10
    go_wp2_with (first | (go_at_call 20; refine (hb _).mono ?_; rintro e w'' ⟨rfl, rfl⟩) | (go_at_call 22; refine (Try.prefix_any x m (by omega) _).mono ?_; rintro e w'' ⟨rfl, rfl⟩))
    go_ret2
    exact ⟨by rw [hr.out]; rfl, rfl⟩
end Go.Proofs
