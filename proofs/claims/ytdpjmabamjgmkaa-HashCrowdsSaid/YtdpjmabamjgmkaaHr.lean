/- The reference's folded, unfolded, over, Of, Key. -/
import Derived.Test.YtdpjmabamjgmkaaHq
namespace Go.Proofs
open Go.RowKit Go.Shelf
attribute [local go_sem] Oper.semAt_some

set_option maxRecDepth 100000 in
set_option maxHeartbeats 1000000 in
theorem Try.folded_any (x p : Nat) (hx : x < 18446744073709551616) (hp : p < 64) (w : World) : Calls Try.prog 33 #[.int .u64 (x : Int), .int .i64 (p : Int)] w fun e w' => e = .returned (.int .u64 (turnB p x : Int)) ∧ w = w' := by
  have hb := Try.Bit_any p hp w
  have hd := div_lt64 p hx
  have ht := Try.turned_any x (x / 2 ^ p) hx hd w
  have hr : Hid (x ^^^ (x / 2 ^ p) = turnB p x) := Lib.hid rfl
  rw [hr.out] at ht
  have he : (x : Int) / ((2 ^ p : Nat) : Int) = ((x / 2 ^ p : Nat) : Int) := by simp
  have hpos := Nat.two_pow_pos p
  have hq0 : ¬ ((2 ^ p : Nat) : Int) = 0 := by omega
  generalize turnB p x = r at *
  generalize x / 2 ^ p = d at *
  have hw1 : IntKind.u64.wrap (d : Int) = (d : Int) := by rw [wrap_u64m]; omega
  have hw2 : IntKind.u64.wrap ((x : Int) / ((2 ^ p : Nat) : Int)) = (d : Int) := by rw [he, hw1]
  generalize ((2 ^ p : Nat) : Int) = pp at *
  go_enter Try.func33, Try.ntmps33
  go_wp2_with fail
  refine hb.mono ?_
  rintro e w' ⟨rfl, rfl⟩
  go_wp2_with fail
  refine ht.mono ?_
  rintro e w' ⟨rfl, rfl⟩
  go_wp2_with fail
  go_ret
  exact ⟨rfl, rfl⟩
set_option maxRecDepth 100000 in
set_option maxHeartbeats 2000000 in
theorem Try.unfolded_any (x p : Nat) (hx : x < 18446744073709551616) (hp0 : 0 < p) (hp : p < 64) (w : World) : Calls Try.prog 37 #[.int .u64 (x : Int), .int .i64 (p : Int)] w fun e w' => (∃ q : Nat, UnB x p 0 q ∧ e = .returned (.int .u64 ((q * 2 ^ 0 : Nat) : Int))) ∧ w = w' := by
  go_enter Try.func37, Try.ntmps37
  go_wp2_with fail
  go_loopw [5, 6] (fun o j wr => ∃ (m q u : Nat) (z : Int), m ≤ 64 ∧ j = .int .i64 z ∧ Hid (z = (m : Int) - 1) ∧ o = .int .u64 (u : Int) ∧ Hid (u = q * 2 ^ m) ∧ Hid (UnB x p m q) ∧ w = wr) (fun _ j _ => (intOf j + 1).toNat)
  case atStart => exact ⟨64, 0, 0, 63, by omega, rfl, Lib.hid (by decide), rfl, Lib.hid (by simp), Lib.hid (UnB.start x p), rfl⟩
  case round =>
    obtain ⟨m, q, u, z, hm, rfl, hz, rfl, hu, hU, rfl⟩ := hrel
    cases m with
    | zero =>
      have hz' : z = -1 := hz.out
      subst hz'
      have hd : decide ((0 : Int) ≤ -1) = false := by decide
      have hfin : Hid ((u : Int) = ((q * 2 ^ 0 : Nat) : Int)) := Lib.hid (by rw [hu.out])
      go_wp2_with fail
      go_ret
      exact ⟨⟨q, hU.out, by rw [← hfin.out]; rfl⟩, rfl⟩
    | succ m =>
      have hz' : z = (m : Int) := by have := hz.out; omega
      subst hz'
      have hd : decide ((0 : Int) ≤ (m : Int)) = true := by simp
      have hul : u < 18446744073709551616 := by rw [hu.out]; exact hU.out.1
      have cx := fun W => Try.has_any x m hx W
      have co := fun W => Try.has_any u (m + p) hul W
      have cb := fun W => Try.Bit_any m (by omega) W
      have hw : IntKind.i64.wrap ((m : Int) + (p : Int)) = ((m + p : Nat) : Int) := by
        rw [show (m : Int) + (p : Int) = ((m + p : Nat) : Int) by omega]
        exact IntWalk.i64_in _ (by omega)
      have hwm : IntKind.i64.wrap ((m : Int) - 1) = (m : Int) - 1 := IntWalk.i64_in _ (by omega)
      have hm1 : m < 64 := by omega
      by_cases hb : x.testBit m = u.testBit (m + p)
      · have hU2 : Hid (UnB x p m (2 * q)) := Lib.hid (hU.out.no (by rw [← hu.out]; exact hb))
        have hu2 : Hid (u = (2 * q) * 2 ^ m) := Lib.hid (by rw [hu.out, un_even])
        have hne : (x.testBit m == u.testBit (m + p)) = true := by simp [hb]
        generalize x.testBit m = bx at *
        generalize u.testBit (m + p) = bu at *
        generalize ((m + p : Nat) : Int) = mp at *
        clear hb
        go_wp2_with fail
        refine (cx _).mono ?_
        rintro e w' ⟨rfl, rfl⟩
        go_wp2_with fail
        refine (co _).mono ?_
        rintro e w' ⟨rfl, rfl⟩
        go_wp2_with fail
        exact ⟨⟨m, 2 * q, u, (m : Int) - 1, by omega, rfl, Lib.hid rfl, rfl, hu2, hU2, by first | trivial | rfl⟩, by simp [intOf]⟩
      · have hU1 := hU.out.yes hp0 hm1 (by rw [← hu.out]; exact hb)
        have hsum : u + 2 ^ m = (2 * q + 1) * 2 ^ m := by rw [hu.out, un_odd]
        have hlt : u + 2 ^ m < 18446744073709551616 := by rw [hsum]; exact hU1.1
        have hU2 := Lib.hid hU1
        have hu2 := Lib.hid hsum
        have hne : (x.testBit m == u.testBit (m + p)) = false := by simpa using hb
        clear hsum hU1 hb
        generalize x.testBit m = bx at *
        generalize u.testBit (m + p) = bu at *
        generalize ((m + p : Nat) : Int) = mp at *
        obtain ⟨pk, hpk⟩ : ∃ pk, pk = 2 ^ m := ⟨_, rfl⟩
        rw [← hpk] at cb hlt
        have hw3 : IntKind.u64.wrap ((u : Int) + (pk : Int)) = ((u + pk : Nat) : Int) := by rw [wrap_u64m]; omega
        obtain ⟨u2, hu3⟩ : ∃ u2, u2 = u + pk := ⟨_, rfl⟩
        rw [← hu3] at hw3
        have hu4 : Hid (u2 = (2 * q + 1) * 2 ^ m) := Lib.hid (by rw [hu3, hpk, hu2.out])
        clear hu3 hpk
        go_wp2_with fail
        refine (cx _).mono ?_
        rintro e w' ⟨rfl, rfl⟩
        go_wp2_with fail
        refine (co _).mono ?_
        rintro e w' ⟨rfl, rfl⟩
        go_wp2_with fail
        refine (cb _).mono ?_
        rintro e w' ⟨rfl, rfl⟩
        go_wp2_with fail
        exact ⟨⟨m, 2 * q + 1, u2, (m : Int) - 1, by omega, rfl, Lib.hid rfl, rfl, hu4, hU2, by first | trivial | rfl⟩, by simp [intOf]⟩
set_option maxRecDepth 100000 in
set_option maxHeartbeats 2000000 in
theorem Try.over_any (x f c : Nat) (hx : x < 18446744073709551616) (hfc : f * c % 18446744073709551616 = 1) (hodd : f % 2 = 1) (w : World) : Calls Try.prog 36 #[.int .u64 (x : Int), .int .u64 (f : Int)] w fun e w' => e = .returned (.int .u64 (mulB c x : Int)) ∧ w = w' := by
  have HFC := Lib.hid hfc
  have HODD := Lib.hid hodd
  clear hfc hodd
  go_enter Try.func36, Try.ntmps36
  go_wp2_with fail
  go_loopw [5, 7] (fun o j wr => ∃ (k u : Nat), k ≤ 64 ∧ j = .int .i64 (k : Int) ∧ o = .int .u64 (u : Int) ∧ Hid (OvB x f k u) ∧ w = wr) (fun _ j _ => 64 - (intOf j).toNat)
  case atStart => exact ⟨0, 0, by omega, rfl, rfl, Lib.hid (OvB.start x f), rfl⟩
  case round =>
    obtain ⟨k, u, hk, rfl, rfl, hO, rfl⟩ := hrel
    by_cases hlt : k < 64
    · have hki : (k : Int) < 64 := by omega
      have hm : IntKind.u64.wrap ((u : Int) * (f : Int)) = ((u * f % 18446744073709551616 : Nat) : Int) := wrap_mul u f
      have co := fun W => Try.has_any (u * f % 18446744073709551616) k (Nat.mod_lt _ (by decide)) W
      rw [bit_mod64 hlt] at co
      have cx := fun W => Try.has_any x k hx W
      have cb := fun W => Try.Bit_any k hlt W
      by_cases hb : (u * f).testBit k = x.testBit k
      · have hO2 := Lib.hid (hO.out.no hb)
        have hne : ((u * f).testBit k == x.testBit k) = true := by simp [hb]
        generalize x.testBit k = bx at *
        generalize (u * f).testBit k = bu at *
        generalize u * f % 18446744073709551616 = uf at *
        clear hb
        go_wp2_with fail
        refine (co _).mono ?_
        rintro e w' ⟨rfl, rfl⟩
        go_wp2_with fail
        refine (cx _).mono ?_
        rintro e w' ⟨rfl, rfl⟩
        go_wp2_with fail
        exact ⟨⟨k + 1, u, by omega, by go_num, rfl, hO2, by first | trivial | rfl⟩, by simp [intOf]; omega⟩
      · have hO1 := hO.out.yes HODD.out hb
        have hlt2 : u + 2 ^ k < 18446744073709551616 := Nat.lt_of_lt_of_le hO1.1 (Nat.pow_le_pow_right (by decide) (show k + 1 ≤ 64 by omega))
        have hO2 := Lib.hid hO1
        have hne : ((u * f).testBit k == x.testBit k) = false := by simpa using hb
        clear hO1 hb
        generalize x.testBit k = bx at *
        generalize (u * f).testBit k = bu at *
        generalize u * f % 18446744073709551616 = uf at *
        obtain ⟨pk, hpk⟩ : ∃ pk, pk = 2 ^ k := ⟨_, rfl⟩
        rw [← hpk] at cb hlt2 hO2
        have hw3 : IntKind.u64.wrap ((u : Int) + (pk : Int)) = ((u + pk : Nat) : Int) := by rw [wrap_u64m]; omega
        generalize u + pk = u2 at *
        clear hpk
        go_wp2_with fail
        refine (co _).mono ?_
        rintro e w' ⟨rfl, rfl⟩
        go_wp2_with fail
        refine (cx _).mono ?_
        rintro e w' ⟨rfl, rfl⟩
        go_wp2_with fail
        refine (cb _).mono ?_
        rintro e w' ⟨rfl, rfl⟩
        go_wp2_with fail
        exact ⟨⟨k + 1, u2, by omega, by go_num, rfl, hO2, by first | trivial | rfl⟩, by simp [intOf]; omega⟩
    · obtain rfl : k = 64 := by omega
      have hfin : Hid (u = mulB c x) := Lib.hid (hO.out.done hx HFC.out)
      go_wp2_with fail
      go_ret
      exact ⟨by rw [← hfin.out]; rfl, rfl⟩
end Go.Proofs
