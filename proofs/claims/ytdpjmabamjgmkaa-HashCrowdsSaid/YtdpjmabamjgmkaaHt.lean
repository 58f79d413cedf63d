/- The reference's May, Prefix, Parts. -/
import Derived.Test.YtdpjmabamjgmkaaHs
import Derived.Test.YtdpjmabamjgmkaaIb
namespace Go.Proofs
open Go.RowKit Go.Shelf
attribute [local go_sem] Oper.semAt_some

set_option maxRecDepth 100000 in
set_option maxHeartbeats 1000000 in
theorem Try.May_any (n : Int) (w : World) : Calls Try.prog 19 #[.int .i64 n] w fun e w' => e = .returned (.bool (!noBitsB n)) ∧ w = w' := by
  by_cases h : 0 ≤ n
  · have hd : decide (0 ≤ n) = true := by simp [h]
    by_cases h2 : n ≤ 64
    · have hr : Hid (noBitsB n = false) := Lib.hid (by simp [noBitsB]; omega)
      have hd2 : decide (n ≤ 64) = true := by simp [h2]
      go_enter Try.func19, Try.ntmps19
      go_wp2_with fail
      go_ret
      exact ⟨by rw [hr.out]; rfl, rfl⟩
    · have hr : Hid (noBitsB n = true) := Lib.hid (by simp [noBitsB]; omega)
      have hd2 : decide (n ≤ 64) = false := by simp; omega
      go_enter Try.func19, Try.ntmps19
      go_wp2_with fail
      go_ret
      exact ⟨by rw [hr.out]; rfl, rfl⟩
  · have hr : Hid (noBitsB n = true) := Lib.hid (by simp [noBitsB]; omega)
    have hd : decide (0 ≤ n) = false := by simp; omega
    go_enter Try.func19, Try.ntmps19
    go_wp2_with fail
    go_ret
    exact ⟨by rw [hr.out]; rfl, rfl⟩
theorem prefix_next {x k : Nat} (hk : k < 64) : prefixB x (k + 1) = 2 * prefixB x k + (if x.testBit (63 - k) = true then 1 else 0) := by
  have h1 := prefix_half (a := x) hk
  have h2 : prefixB x (k + 1) % 2 = if x.testBit (63 - k) = true then 1 else 0 := by
    unfold prefixB
    rw [show 64 - (k + 1) = 63 - k by omega, ← Nat.toNat_testBit]
    cases x.testBit (63 - k) <;> rfl
  omega
set_option maxRecDepth 100000 in
set_option maxHeartbeats 2000000 in
theorem Try.refPrefix_any (x n : Nat) (hx : x < 18446744073709551616) (hn : n ≤ 64) (w : World) : Calls Try.prog 20 #[.int .u64 (x : Int), .int .i64 (n : Int)] w fun e w' => e = .returned (.int .u64 (prefixB x n : Int)) ∧ w = w' := by
  go_enter Try.func20, Try.ntmps20
  go_wp2_with fail
  go_loopw [5, 8] (fun o j wr => ∃ (k p : Nat), k ≤ n ∧ j = .int .i64 (k : Int) ∧ o = .int .u64 (p : Int) ∧ Hid (p = prefixB x k) ∧ w = wr) (fun _ j _ => n - (intOf j).toNat)
  case atStart => exact ⟨0, 0, Nat.zero_le _, rfl, rfl, Lib.hid (Nat.div_eq_of_lt hx).symm, rfl⟩
  case round =>
    obtain ⟨k, p, hk, rfl, rfl, hp, rfl⟩ := hrel
    by_cases hlt : k < n
    · have hki : (k : Int) < (n : Int) := by omega
      have hk64 : k < 64 := by omega
      have hnx := prefix_next (x := x) hk64
      rw [← hp.out] at hnx
      have hlt1 : prefixB x (k + 1) < 18446744073709551616 := prefixB_lt hx
      have hw1 : IntKind.u64.wrap (2 * (p : Int)) = ((2 * p : Nat) : Int) := by
        rw [wrap_u64m]
        have : 2 * p ≤ prefixB x (k + 1) := by omega
        omega
      have hw0 : IntKind.i64.wrap (63 - (k : Int)) = ((63 - k : Nat) : Int) := by
        rw [show (63 : Int) - (k : Int) = ((63 - k : Nat) : Int) by omega]
        exact IntWalk.i64_in _ (by omega)
      have c1 := fun W => Try.has_any x (63 - k) hx W
      generalize ((63 - k : Nat) : Int) = kk at *
      cases hb : x.testBit (63 - k) with
      | true =>
        rw [hb] at c1 hnx
        rw [if_pos rfl] at hnx
        have hw2 : IntKind.u64.wrap (((2 * p : Nat) : Int) + 1) = ((prefixB x (k + 1) : Nat) : Int) := by rw [wrap_u64m]; omega
        have hq : Hid (prefixB x (k + 1) = prefixB x (k + 1)) := Lib.hid rfl
        have hw3 : IntKind.u64.wrap (2 * (p : Int) + 1) = ((prefixB x (k + 1) : Nat) : Int) := by rw [wrap_u64m]; omega
        clear hnx hb
        generalize hy : prefixB x (k + 1) = y at hw2 hw3 hlt1
        have HY := Lib.hid hy.symm
        clear hq hy
        generalize ((2 * p : Nat) : Int) = pp at *
        go_wp2_with fail
        refine (c1 _).mono ?_
        rintro e w' ⟨rfl, rfl⟩
        go_wp2_with fail
        exact ⟨⟨k + 1, y, by omega, by go_num, rfl, HY, by first | trivial | rfl⟩, by simp [intOf]; omega⟩
      | false =>
        rw [hb] at c1 hnx
        rw [if_neg (by decide), Nat.add_zero] at hnx
        have HY := Lib.hid hnx.symm
        clear hnx hb hlt1
        generalize 2 * p = pp at *
        go_wp2_with fail
        refine (c1 _).mono ?_
        rintro e w' ⟨rfl, rfl⟩
        go_wp2_with fail
        exact ⟨⟨k + 1, pp, by omega, by go_num, rfl, HY, by first | trivial | rfl⟩, by simp [intOf]; omega⟩
    · obtain rfl : k = n := by omega
      go_wp2_with fail
      go_ret
      exact ⟨by rw [← hp.out]; rfl, rfl⟩
set_option maxRecDepth 100000 in
set_option maxHeartbeats 2000000 in
theorem Try.refParts_any (a b : Nat) (ha : a < 18446744073709551616) (hb : b < 18446744073709551616) (w : World) : Calls Try.prog 22 #[.int .u64 (a : Int), .int .u64 (b : Int)] w fun e w' => e = .returned (.int .i64 (partsB a b : Int)) ∧ w = w' := by
  have hpl := parts_le a b
  go_enter Try.func22, Try.ntmps22
  go_wp2_with fail
  go_loopw [5] (fun j wr => ∃ (k : Nat), k ≤ 64 ∧ j = .int .i64 (k : Int) ∧ Hid (k ≤ partsB a b) ∧ w = wr) (fun j _ => 64 - (intOf j).toNat)
  case atStart => exact ⟨0, Nat.zero_le _, rfl, Lib.hid (Nat.zero_le _), rfl⟩
  case round =>
    obtain ⟨k, hk, rfl, hp, rfl⟩ := hrel
    by_cases hlt : k < 64
    · have hki : decide ((k : Int) < 64) = true := by simp; omega
      have hkj : decide (k < 64) = true := by simp; omega
      have hw0 : IntKind.i64.wrap (63 - (k : Int)) = ((63 - k : Nat) : Int) := by
        rw [show (63 : Int) - (k : Int) = ((63 - k : Nat) : Int) by omega]
        exact IntWalk.i64_in _ (by omega)
      have c1 := fun W => Try.has_any a (63 - k) ha W
      have c2 := fun W => Try.has_any b (63 - k) hb W
      have h1 := prefix_eq_iff ha hb (show k ≤ 64 by omega)
      have h2 := prefix_eq_iff ha hb (show k + 1 ≤ 64 by omega)
      have e1 := h1.2 hp.out
      rw [prefix_next hlt, prefix_next hlt, e1] at h2
      generalize ((63 - k : Nat) : Int) = kk at *
      cases hxa : a.testBit (63 - k) <;> cases hxb : b.testBit (63 - k) <;> rw [hxa] at c1 h2 <;> rw [hxb] at c2 h2 <;> simp only [if_pos, Bool.false_eq_true, ite_false] at h2
      all_goals first
        | (have hp2 : Hid (k + 1 ≤ partsB a b) := Lib.hid (h2.1 (by first | trivial | omega))
           clear h1 h2 e1 hxa hxb hpl
           go_wp2_with fail
           refine (c1 _).mono ?_
           rintro e w' ⟨rfl, rfl⟩
           go_wp2_with fail
           refine (c2 _).mono ?_
           rintro e w' ⟨rfl, rfl⟩
           go_wp2_with fail
           exact ⟨⟨k + 1, by omega, by go_num, hp2, by first | trivial | rfl⟩, by simp [intOf]; omega⟩)
        | (have hfin : Hid ((k : Int) = (partsB a b : Int)) := Lib.hid (by have := hp.out; omega)
           clear h1 h2 e1 hxa hxb hpl
           go_wp2_with fail
           refine (c1 _).mono ?_
           rintro e w' ⟨rfl, rfl⟩
           go_wp2_with fail
           refine (c2 _).mono ?_
           rintro e w' ⟨rfl, rfl⟩
           go_wp2_with fail
           go_ret
           exact ⟨by rw [← hfin.out]; rfl, rfl⟩)
    · obtain rfl : k = 64 := by omega
      have hki : decide (((64 : Nat) : Int) < 64) = false := by decide
      have hfin : Hid (((64 : Nat) : Int) = (partsB a b : Int)) := Lib.hid (by have := hp.out; omega)
      go_wp2_with fail
      go_ret
      exact ⟨by rw [← hfin.out]; rfl, rfl⟩
end Go.Proofs
