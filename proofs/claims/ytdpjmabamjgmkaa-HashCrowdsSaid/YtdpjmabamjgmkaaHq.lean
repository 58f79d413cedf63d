/- The reference's hashes. -/
import Derived.Test.YtdpjmabamjgmkaaHe
import Derived.Test.YtdpjmabamjgmkaaHp
namespace Go.Proofs
open Go.RowKit Go.Shelf
attribute [local go_sem] Oper.semAt_some

theorem pow_lt64 {n : Nat} (h : n < 64) : 2 ^ n < 18446744073709551616 := Nat.pow_lt_pow_right (by decide) (show n < 64 from h)
set_option maxRecDepth 100000 in
set_option maxHeartbeats 1000000 in
theorem Try.Bit_any (n : Nat) (hn : n < 64) (w : World) : Calls Try.prog 53 #[.int .i64 (n : Int)] w fun e w' => e = .returned (.int .u64 ((2 ^ n : Nat) : Int)) ∧ w = w' := by
  go_enter Try.func53, Try.ntmps53
  go_wp2_with fail
  go_loopw [3, 5] (fun o j wr => ∃ (k p : Nat), k ≤ n ∧ j = .int .i64 (k : Int) ∧ o = .int .u64 (p : Int) ∧ Hid (p = 2 ^ k) ∧ w = wr) (fun _ j _ => n - (intOf j).toNat)
  case atStart => exact ⟨0, 1, Nat.zero_le _, rfl, rfl, Lib.hid rfl, rfl⟩
  case round =>
    obtain ⟨k, p, hk, rfl, rfl, hp, rfl⟩ := hrel
    by_cases hlt : k < n
    · have hki : (k : Int) < (n : Int) := by omega
      have hp2 := pow_lt64 (show k + 1 < 64 by omega)
      rw [Nat.pow_succ, ← hp.out] at hp2
      have hw : IntKind.u64.wrap (2 * (p : Int)) = ((p * 2 : Nat) : Int) := by rw [wrap_u64m]; omega
      have hq : Hid (p * 2 = 2 ^ (k + 1)) := Lib.hid (by rw [Nat.pow_succ, ← hp.out])
      generalize p * 2 = q at *
      go_wp2_with fail
      exact ⟨⟨k + 1, q, by omega, by go_num, rfl, hq, by first | trivial | rfl⟩, by simp [intOf]; omega⟩
    · obtain rfl : k = n := by omega
      go_wp2_with fail
      go_ret
      exact ⟨by rw [← hp.out]; rfl, rfl⟩
theorem has_walk (x n : Nat) : ((((x / 2 ^ n % 2 : Nat)) : Int) == 1) = x.testBit n := by
  rw [Nat.testBit_eq_decide_div_mod_eq]
  rw [Bool.eq_iff_iff]
  simp only [beq_iff_eq, decide_eq_true_eq]
  omega
set_option maxRecDepth 100000 in
set_option maxHeartbeats 1000000 in
theorem Try.has_any (x n : Nat) (hx : x < 18446744073709551616) (w : World) : Calls Try.prog 42 #[.int .u64 (x : Int), .int .i64 (n : Int)] w fun e w' => e = .returned (.bool (x.testBit n)) ∧ w = w' := by
  by_cases hn : n < 64
  · have hb := Try.Bit_any n hn w
    have hp := Nat.two_pow_pos n
    have he : (x : Int) / ((2 ^ n : Nat) : Int) = ((x / 2 ^ n : Nat) : Int) := by simp
    have hh := has_walk x n
    have hdl := Nat.div_le_self x (2 ^ n)
    have hq0 : ¬ ((2 ^ n : Nat) : Int) = 0 := by omega
    have hd1 : decide ((n : Int) < 64) = true := by simp; omega
    generalize x / 2 ^ n = d at *
    have hw1 : IntKind.u64.wrap (d : Int) = (d : Int) := by rw [wrap_u64m]; omega
    have hw2 : IntKind.u64.wrap ((x : Int) / ((2 ^ n : Nat) : Int)) = (d : Int) := by rw [he, hw1]
    have hmd : (d : Int).tmod 2 = ((d % 2 : Nat) : Int) := by rw [Int.tmod_eq_emod_of_nonneg (by omega)]; omega
    have hme : (d : Int) % 2 = ((d % 2 : Nat) : Int) := by omega
    have hw3 : IntKind.u64.wrap ((d % 2 : Nat) : Int) = ((d % 2 : Nat) : Int) := by rw [wrap_u64m]; omega
    generalize d % 2 = d2 at *
    generalize ((2 ^ n : Nat) : Int) = p at *
    generalize x.testBit n = b at *
    clear hn hdl
    go_enter Try.func42, Try.ntmps42
    go_wp2_with fail
    refine hb.mono ?_
    rintro e w' ⟨rfl, rfl⟩
    go_wp2_with fail
    go_ret
    exact ⟨rfl, rfl⟩
  · have hb : x.testBit n = false := bit_big hx (by omega)
    rw [hb]
    have hd1 : decide ((n : Int) < 64) = false := by simp; omega
    clear hb hn
    go_enter Try.func42, Try.ntmps42
    go_wp2_with fail
    go_ret
    exact ⟨rfl, rfl⟩
set_option maxRecDepth 100000 in
set_option maxHeartbeats 1000000 in
theorem Try.turned_any (x y : Nat) (hx : x < 18446744073709551616) (hy : y < 18446744073709551616) (w : World) : Calls Try.prog 34 #[.int .u64 (x : Int), .int .u64 (y : Int)] w fun e w' => e = .returned (.int .u64 ((x ^^^ y : Nat) : Int)) ∧ w = w' := by
  obtain ⟨z, hz⟩ : ∃ z, z = x ^^^ y := ⟨_, rfl⟩
  have hzl : z < 18446744073709551616 := by rw [hz]; exact xor_lt hx hy
  have hbit : ∀ k, z.testBit k = (x.testBit k ^^ y.testBit k) := fun k => by rw [hz, Nat.testBit_xor]
  rw [← hz]
  have HBIT := Lib.hid hbit
  clear hz hbit
  go_enter Try.func34, Try.ntmps34
  go_wp2_with fail
  go_loopw [5, 7] (fun o j wr => ∃ (k p : Nat), k ≤ 64 ∧ j = .int .i64 (k : Int) ∧ o = .int .u64 (p : Int) ∧ Hid (p = z % 2 ^ k) ∧ w = wr) (fun _ j _ => 64 - (intOf j).toNat)
  case atStart => exact ⟨0, 0, Nat.zero_le _, rfl, rfl, Lib.hid (by rw [Nat.pow_zero, Nat.mod_one]), rfl⟩
  case round =>
    obtain ⟨k, p, hk, rfl, rfl, hp, rfl⟩ := hrel
    by_cases hlt : k < 64
    · have hki : (k : Int) < 64 := by omega
      have cx := fun W => Try.has_any x k hx W
      have cy := fun W => Try.has_any y k hy W
      have cb := fun W => Try.Bit_any k hlt W
      have hzb := HBIT.out k
      cases hb : z.testBit k with
      | true =>
        rw [hb] at hzb
        have hp2 : p + 2 ^ k = z % 2 ^ (k + 1) := by rw [low_yes hb, hp.out]
        have hlt2 : p + 2 ^ k < 18446744073709551616 := by rw [hp2]; exact Nat.lt_of_le_of_lt (Nat.mod_le _ _) hzl
        replace hp2 := Lib.hid hp2
        generalize 2 ^ k = pk at *
        have hw : IntKind.u64.wrap ((p : Int) + (pk : Int)) = ((p + pk : Nat) : Int) := by rw [wrap_u64m]; omega
        have hne : (x.testBit k == y.testBit k) = false := by cases hxx : x.testBit k <;> cases hyy : y.testBit k <;> rw [hxx, hyy] at hzb <;> first | rfl | cases hzb
        generalize x.testBit k = bx at *
        generalize y.testBit k = by' at *
        generalize p + pk = q at *
        clear hb hzb
        go_wp2_with fail
        refine (cx _).mono ?_
        rintro e w' ⟨rfl, rfl⟩
        go_wp2_with fail
        refine (cy _).mono ?_
        rintro e w' ⟨rfl, rfl⟩
        go_wp2_with fail
        refine (cb _).mono ?_
        rintro e w' ⟨rfl, rfl⟩
        go_wp2_with fail
        exact ⟨⟨k + 1, q, by omega, by go_num, rfl, hp2, by first | trivial | rfl⟩, by simp [intOf]; omega⟩
      | false =>
        rw [hb] at hzb
        have hp2 : Hid (p = z % 2 ^ (k + 1)) := Lib.hid (by rw [low_no hb, hp.out])
        have hne : (x.testBit k == y.testBit k) = true := by cases hxx : x.testBit k <;> cases hyy : y.testBit k <;> rw [hxx, hyy] at hzb <;> first | rfl | cases hzb
        generalize x.testBit k = bx at *
        generalize y.testBit k = by' at *
        clear hb hzb
        go_wp2_with fail
        refine (cx _).mono ?_
        rintro e w' ⟨rfl, rfl⟩
        go_wp2_with fail
        refine (cy _).mono ?_
        rintro e w' ⟨rfl, rfl⟩
        go_wp2_with fail
        exact ⟨⟨k + 1, p, by omega, by go_num, rfl, hp2, by first | trivial | rfl⟩, by simp [intOf]; omega⟩
    · obtain rfl : k = 64 := by omega
      have hfin : Hid (p = z) := Lib.hid (by rw [hp.out]; exact low_64 hzl)
      go_wp2_with fail
      go_ret
      exact ⟨by rw [← hfin.out]; rfl, rfl⟩
end Go.Proofs
