/- Ctrl: the reference's Byte, Right, Full, Set, Stops, Fill, Erase. -/
import Derived.Test.YtmjlaienklheiaaJp
namespace Go.Proofs
set_option maxRecDepth 100000
open Go.RowKit Go.Shelf
attribute [local go_sem] Oper.semAt_some

theorem kd_facts (b : Nat) : (kd b = 0 ↔ b < 128) ∧ (kd b = 1 ↔ b = 128) ∧ (kd b = 2 ↔ b = 254) := by
  unfold kd
  by_cases h1 : b ≤ 127
  · simp [h1]; omega
  · by_cases h2 : b = 128
    · subst h2; decide
    · by_cases h3 : b = 254
      · subst h3; decide
      · simp [h1, h2, h3]; omega
theorem Try.refByte_any (b : Nat) (w : World) : Calls Try.prog 33 #[.int .u8 b] w fun e w' => e = .returned (.bool (!(kd b == 3))) ∧ w = w' := by
  have hf := kd_facts b
  have h4 := kd_lt b
  by_cases h1 : b ≤ 127
  · have hk : kd b = 0 := hf.1.2 (by omega)
    have h1' : (b : Int) ≤ 127 := by omega
    rw [hk]
    clear hf h4 hk
    go_enter Try.func33, Try.ntmps33
    go_wp2
    go_ret
    exact ⟨rfl, rfl⟩
  · have h1' : ¬ (b : Int) ≤ 127 := by omega
    by_cases h2 : b = 128
    · subst h2
      clear hf h4
      go_enter Try.func33, Try.ntmps33
      go_wp2
      go_ret
      exact ⟨rfl, rfl⟩
    · have h2' : ((b : Int) == 128) = false := by simp; omega
      by_cases h3 : b = 254
      · subst h3
        clear hf h4
        go_enter Try.func33, Try.ntmps33
        go_wp2
        go_ret
        exact ⟨rfl, rfl⟩
      · have h3' : ((b : Int) == 254) = false := by simp; omega
        have hk : kd b = 3 := by
          have a1 : kd b ≠ 0 := fun h => by have := hf.1.1 h; omega
          have a2 : kd b ≠ 1 := fun h => h2 (hf.2.1.1 h)
          have a3 : kd b ≠ 2 := fun h => h3 (hf.2.2.1 h)
          omega
        rw [hk]
        clear hf h4 hk
        go_enter Try.func33, Try.ntmps33
        go_wp2
        go_ret
        exact ⟨rfl, rfl⟩
set_option maxHeartbeats 2000000 in
theorem Try.refRight_any (x : Nat) (hx : x < 18446744073709551616) (w : World) :
    Calls Try.prog 10 #[.int .u64 x] w fun e w' => e = .returned (.bool (rightC x)) ∧ Below w.heap.size w w' := by
  have HBy := Lib.hid (Try.refBytes_any x hx w)
  clear hx
  go_enter Try.func10, Try.ntmps10
  go_wp2_with fail
  refine HBy.out.mono ?_
  rintro e w1 ⟨v, rfl, hown, hB⟩
  obtain ⟨g, cap, rfl, hg, hgl, hcell⟩ := owns_at hown (by rw [bytesTo_length]; decide)
  rw [bytesTo_length] at hcell ⊢
  have HC := Lib.hid hcell
  clear hcell hown
  go_wp2_with fail
  go_loopw [4, 8] (fun _ j wr => ∃ k : Nat, k ≤ 8 ∧ j = .int .i64 k ∧ w1 = wr ∧ ∀ i : Fin 8, (i : Nat) < k → kd (byt x i) ≠ 3) (fun _ j _ => 8 - (intOf j).toNat)
  case atStart => exact ⟨0, Nat.zero_le _, rfl, rfl, fun i hi => absurd hi (Nat.not_lt_zero _)⟩
  case round =>
    obtain ⟨k, hk, rfl, rfl, hall⟩ := hrel
    have HALL := Lib.hid hall
    clear hall
    by_cases hlt : k < 8
    · have hcx := HC.out k hlt
      rw [bytesTo_get _ hlt] at hcx
      have HR := Lib.hid fun W => Try.refByte_any (byt x k) W
      cases hq : (kd (byt x k) == 3)
      · rw [hq] at HR
        have HQ := Lib.hid hq
        clear hq
        generalize hb : byt x k = b at *
        have HBB := Lib.hid hb
        clear hb
        go_wp2_with (go_at_call 33; refine (HR.out _).mono ?_; rintro e w' ⟨rfl, rfl⟩)
        refine ⟨⟨k + 1, by omega, by go_num, by first | rfl | trivial, fun i hi => ?_⟩, by simp [intOf]; omega⟩
        by_cases hik : (i : Nat) = k
        · rw [hik, HBB.out]
          simpa using HQ.out
        · exact HALL.out i (by omega)
      · rw [hq] at HR
        have hno : rightC x = false := by
          cases h : rightC x
          · rfl
          · have := rightC_iff.1 h ⟨k, hlt⟩
            simp at hq
            exact absurd hq this
        have HNO := Lib.hid hno
        clear hq hno
        generalize byt x k = b at *
        go_wp2_with (go_at_call 33; refine (HR.out _).mono ?_; rintro e w' ⟨rfl, rfl⟩)
        go_ret
        exact ⟨by rw [HNO.out]; rfl, hB⟩
    · obtain rfl : k = 8 := by omega
      have hyes : rightC x = true := rightC_iff.2 fun i => HALL.out i i.2
      have HYES := Lib.hid hyes
      clear hyes
      go_wp2_with fail
      go_ret
      exact ⟨by rw [HYES.out]; rfl, hB⟩
theorem Try.refFull_any (x k : Nat) (hx : x < 18446744073709551616) (hk : k ≤ 1000) (w : World) :
    Calls Try.prog 47 #[.int .u64 x, .int .i64 k] w fun e w' => e = .returned (.bool (kd (byt x k) == 0)) ∧ w = w' := by
  have HA := Lib.hid (Try.At_any x k hx hk w)
  have e : (kd (byt x k) == 0) = decide (((byt x k : Nat) : Int) < 128) := by
    have := (kd_facts (byt x k)).1
    rw [Bool.eq_iff_iff, beq_iff_eq, decide_eq_true_eq, this]
    omega
  rw [e]
  clear e hx hk
  generalize byt x k = b at *
  go_enter Try.func47, Try.ntmps47
  go_wp2_with (go_at_call 31; refine HA.out.mono ?_; rintro e w' ⟨rfl, rfl⟩)
  go_ret
  exact ⟨rfl, rfl⟩
set_option maxHeartbeats 4000000 in
theorem Try.refSet0_any (x : Nat) (hx : x < 18446744073709551616) (w : World) :
    Calls Try.prog 13 #[.int .u64 x, .int .i64 0] w fun e w' => e = .returned (.int .u8 (setK x 0 : Nat)) ∧ w = w' := by
  have HAT := Lib.hid fun (k : Nat) (hk : k < 8) (W : World) => Try.At_any x k hx (by omega) W
  obtain ⟨g, hg⟩ : ∃ g : Nat → Bool, g = fun n => kd (byt x n) == 0 := ⟨_, rfl⟩
  have hset : setK x 0 = mt g 8 := by rw [mt_8, hg]; rfl
  rw [hset]
  have HG := Lib.hid hg
  clear hx hset hg
  go_enter Try.func13, Try.ntmps13
  go_wp2_with fail
  go_loopw [5, 6, 7, 8] (fun ov _ _ j wr => ∃ k : Nat, k ≤ 8 ∧ j = .int .i64 k ∧ ov = .int .u8 (mt g k : Nat) ∧ w = wr) (fun _ _ _ j _ => 8 - (intOf j).toNat)
  case atStart => exact ⟨0, Nat.zero_le _, rfl, rfl, rfl⟩
  case round =>
    obtain ⟨k, hk, rfl, rfl, rfl⟩ := hrel
    by_cases hlt : k < 8
    · have HA := Lib.hid (HAT.out k hlt w)
      have hf := kd_facts (byt x k)
      by_cases hq : kd (byt x k) = 0
      · have hg1 : g k = true := by rw [HG.out]; simp [hq]
        have h256 := mt_256 (g := g) hlt hg1
        have hyes := mt_yes (g := g) hg1
        have hW := Try.With_any (mt g k) k hlt h256 w
        rw [← hyes] at hW
        have HW := Lib.hid hW
        have hb : byt x k < 128 := hf.1.1 hq
        have hb' : ((byt x k : Nat) : Int) < 128 := by omega
        have hki : (k : Int) < 8 := by omega
        clear hW hyes h256 hg1 hq hf hb
        generalize byt x k = b at *
        go_wp2_with (first
          | (go_at_call 31; refine HA.out.mono ?_; rintro e w' ⟨rfl, rfl⟩)
          | (go_at_call 36; refine HW.out.mono ?_; rintro e w' ⟨rfl, rfl⟩))
        exact ⟨⟨k + 1, by omega, by go_num, rfl, by first | rfl | trivial⟩, by simp [intOf]; omega⟩
      · have hg1 : g k = false := by rw [HG.out]; simp [hq]
        have hno := mt_no (g := g) (k := k) hg1
        have HNO := Lib.hid hno
        have hb : ¬ byt x k < 128 := fun h => hq (hf.1.2 h)
        have hb' : ¬ ((byt x k : Nat) : Int) < 128 := by omega
        have hki : (k : Int) < 8 := by omega
        clear hno hg1 hq hf hb
        generalize byt x k = b at *
        go_wp2_with (go_at_call 31; refine HA.out.mono ?_; rintro e w' ⟨rfl, rfl⟩)
        exact ⟨⟨k + 1, by omega, by go_num, by rw [HNO.out], by first | rfl | trivial⟩, by simp [intOf]; omega⟩
    · obtain rfl : k = 8 := by omega
      go_wp2_with fail
      go_ret
      exact ⟨rfl, rfl⟩
set_option maxHeartbeats 4000000 in
theorem Try.refSet1_any (x : Nat) (hx : x < 18446744073709551616) (w : World) :
    Calls Try.prog 13 #[.int .u64 x, .int .i64 1] w fun e w' => e = .returned (.int .u8 (setK x 1 : Nat)) ∧ w = w' := by
  have HAT := Lib.hid fun (k : Nat) (hk : k < 8) (W : World) => Try.At_any x k hx (by omega) W
  obtain ⟨g, hg⟩ : ∃ g : Nat → Bool, g = fun n => kd (byt x n) == 1 := ⟨_, rfl⟩
  have hset : setK x 1 = mt g 8 := by rw [mt_8, hg]; rfl
  rw [hset]
  have HG := Lib.hid hg
  clear hx hset hg
  go_enter Try.func13, Try.ntmps13
  go_wp2_with fail
  go_loopw [5, 6, 7, 8] (fun ov _ _ j wr => ∃ k : Nat, k ≤ 8 ∧ j = .int .i64 k ∧ ov = .int .u8 (mt g k : Nat) ∧ w = wr) (fun _ _ _ j _ => 8 - (intOf j).toNat)
  case atStart => exact ⟨0, Nat.zero_le _, rfl, rfl, rfl⟩
  case round =>
    obtain ⟨k, hk, rfl, rfl, rfl⟩ := hrel
    by_cases hlt : k < 8
    · have HA := Lib.hid (HAT.out k hlt w)
      have hf := kd_facts (byt x k)
      by_cases hq : kd (byt x k) = 1
      · have hg1 : g k = true := by rw [HG.out]; simp [hq]
        have h256 := mt_256 (g := g) hlt hg1
        have hyes := mt_yes (g := g) hg1
        have hW := Try.With_any (mt g k) k hlt h256 w
        rw [← hyes] at hW
        have HW := Lib.hid hW
        have hb : byt x k = 128 := hf.2.1.1 hq
        have hb' : (((byt x k : Nat) : Int) == 128) = true := by rw [hb]; rfl
        have hki : (k : Int) < 8 := by omega
        clear hW hyes h256 hg1 hq hf hb
        generalize byt x k = b at *
        go_wp2_with (first
          | (go_at_call 31; refine HA.out.mono ?_; rintro e w' ⟨rfl, rfl⟩)
          | (go_at_call 36; refine HW.out.mono ?_; rintro e w' ⟨rfl, rfl⟩))
        exact ⟨⟨k + 1, by omega, by go_num, rfl, by first | rfl | trivial⟩, by simp [intOf]; omega⟩
      · have hg1 : g k = false := by rw [HG.out]; simp [hq]
        have hno := mt_no (g := g) (k := k) hg1
        have HNO := Lib.hid hno
        have hb : ¬ byt x k = 128 := fun h => hq (hf.2.1.2 h)
        have hb' : (((byt x k : Nat) : Int) == 128) = false := by simp; omega
        have hki : (k : Int) < 8 := by omega
        clear hno hg1 hq hf hb
        generalize byt x k = b at *
        go_wp2_with (go_at_call 31; refine HA.out.mono ?_; rintro e w' ⟨rfl, rfl⟩)
        exact ⟨⟨k + 1, by omega, by go_num, by rw [HNO.out], by first | rfl | trivial⟩, by simp [intOf]; omega⟩
    · obtain rfl : k = 8 := by omega
      go_wp2_with fail
      go_ret
      exact ⟨rfl, rfl⟩
set_option maxHeartbeats 4000000 in
theorem Try.refSet2_any (x : Nat) (hx : x < 18446744073709551616) (w : World) :
    Calls Try.prog 13 #[.int .u64 x, .int .i64 2] w fun e w' => e = .returned (.int .u8 (setK x 2 : Nat)) ∧ w = w' := by
  have HAT := Lib.hid fun (k : Nat) (hk : k < 8) (W : World) => Try.At_any x k hx (by omega) W
  obtain ⟨g, hg⟩ : ∃ g : Nat → Bool, g = fun n => kd (byt x n) == 2 := ⟨_, rfl⟩
  have hset : setK x 2 = mt g 8 := by rw [mt_8, hg]; rfl
  rw [hset]
  have HG := Lib.hid hg
  clear hx hset hg
  go_enter Try.func13, Try.ntmps13
  go_wp2_with fail
  go_loopw [5, 6, 7, 8] (fun ov _ _ j wr => ∃ k : Nat, k ≤ 8 ∧ j = .int .i64 k ∧ ov = .int .u8 (mt g k : Nat) ∧ w = wr) (fun _ _ _ j _ => 8 - (intOf j).toNat)
  case atStart => exact ⟨0, Nat.zero_le _, rfl, rfl, rfl⟩
  case round =>
    obtain ⟨k, hk, rfl, rfl, rfl⟩ := hrel
    by_cases hlt : k < 8
    · have HA := Lib.hid (HAT.out k hlt w)
      have hf := kd_facts (byt x k)
      by_cases hq : kd (byt x k) = 2
      · have hg1 : g k = true := by rw [HG.out]; simp [hq]
        have h256 := mt_256 (g := g) hlt hg1
        have hyes := mt_yes (g := g) hg1
        have hW := Try.With_any (mt g k) k hlt h256 w
        rw [← hyes] at hW
        have HW := Lib.hid hW
        have hb : byt x k = 254 := hf.2.2.1 hq
        have hb' : (((byt x k : Nat) : Int) == 254) = true := by rw [hb]; rfl
        have hki : (k : Int) < 8 := by omega
        clear hW hyes h256 hg1 hq hf hb
        generalize byt x k = b at *
        go_wp2_with (first
          | (go_at_call 31; refine HA.out.mono ?_; rintro e w' ⟨rfl, rfl⟩)
          | (go_at_call 36; refine HW.out.mono ?_; rintro e w' ⟨rfl, rfl⟩))
        exact ⟨⟨k + 1, by omega, by go_num, rfl, by first | rfl | trivial⟩, by simp [intOf]; omega⟩
      · have hg1 : g k = false := by rw [HG.out]; simp [hq]
        have hno := mt_no (g := g) (k := k) hg1
        have HNO := Lib.hid hno
        have hb : ¬ byt x k = 254 := fun h => hq (hf.2.2.2 h)
        have hb' : (((byt x k : Nat) : Int) == 254) = false := by simp; omega
        have hki : (k : Int) < 8 := by omega
        clear hno hg1 hq hf hb
        generalize byt x k = b at *
        go_wp2_with (go_at_call 31; refine HA.out.mono ?_; rintro e w' ⟨rfl, rfl⟩)
        exact ⟨⟨k + 1, by omega, by go_num, by rw [HNO.out], by first | rfl | trivial⟩, by simp [intOf]; omega⟩
    · obtain rfl : k = 8 := by omega
      go_wp2_with fail
      go_ret
      exact ⟨rfl, rfl⟩
theorem Try.refStops_any (x : Nat) (hx : x < 18446744073709551616) (w : World) :
    Calls Try.prog 15 #[.int .u64 x] w fun e w' => e = .returned (.bool (stopsC x)) ∧ w = w' := by
  have HA := Lib.hid (Try.refSet1_any x hx w)
  have e : stopsC x = decide (0 < setK x 1) := by
    unfold stopsC
    rw [Bool.eq_iff_iff, decide_eq_true_eq]
    simp
    omega
  rw [e]
  clear e hx
  generalize setK x 1 = b at *
  go_enter Try.func15, Try.ntmps15
  go_wp2_with (go_at_call 13; refine HA.out.mono ?_; rintro e w' ⟨rfl, rfl⟩)
  go_ret
  exact ⟨rfl, rfl⟩
def fillW (x : Nat) (lane : Int) (h : Nat) : Nat := if fillE x lane h = 0 then fillS x lane h else 0
def eraseW (x : Nat) (lane : Int) : Nat := if eraseE x lane = 0 then eraseS x lane else 0
theorem bad_iff (lane : Int) : bad lane ↔ (lane < 0 ∨ 8 ≤ lane) := Iff.rfl
set_option maxHeartbeats 2000000 in
theorem Try.refFill_any (x : Nat) (lane : Int) (h : Nat) (hx : x < 18446744073709551616) (hh : h < 256) (w : World) :
    Calls Try.prog 22 #[.int .u64 x, .int .i64 lane, .int .u8 h] w fun e w' => e = .returned (.tuple #[.int .u64 (fillW x lane h : Nat), .int .i64 (fillE x lane h)]) ∧ Below w.heap.size w w' := by
  have HI := Lib.hid fun W => Try.Is_any lane W
  unfold fillW
  by_cases hb : bad lane
  · have e1 : fillE x lane h = 110 := by unfold fillE; rw [if_pos (show lane < 0 ∨ 8 ≤ lane from hb)]
    rw [decide_eq_false (fun h' => h' hb)] at HI
    rw [e1, if_neg (by decide)]
    clear hb e1 hx hh
    go_enter Try.func22, Try.ntmps22
    go_wp2_with (go_at_call 46; refine (HI.out _).mono ?_; rintro e w' ⟨rfl, rfl⟩)
    go_ret2
    exact ⟨rfl, Below.refl _ _⟩
  · rw [decide_eq_true hb] at HI
    obtain ⟨k, rfl⟩ : ∃ k : Nat, lane = (k : Int) := ⟨lane.toNat, by unfold bad at hb; omega⟩
    have hk : k < 8 := by unfold bad at hb; omega
    have e0 : fillE x k h = if 127 < h then 2 else if kd (byt x k) = 0 then 5 else 0 := by
      unfold fillE
      rw [if_neg (show ¬ ((k : Int) < 0 ∨ 8 ≤ (k : Int)) from hb), Int.toNat_natCast]
    by_cases h1 : 127 < h
    · rw [e0, if_pos h1, if_neg (by decide)]
      have h1' : (127 : Int) < (h : Int) := by omega
      clear hb e0 hx hh hk h1
      go_enter Try.func22, Try.ntmps22
      go_wp2_with (go_at_call 46; refine (HI.out _).mono ?_; rintro e w' ⟨rfl, rfl⟩)
      go_ret2
      exact ⟨rfl, Below.refl _ _⟩
    · have h1' : ¬ (127 : Int) < (h : Int) := by omega
      have HF := Lib.hid fun W => Try.refFull_any x k hx (by omega) W
      have HP := Lib.hid fun W => Try.refPut_any x h k hx hh hk W
      by_cases h2 : kd (byt x k) = 0
      · rw [e0, if_neg h1, if_pos h2, if_neg (by decide)]
        rw [h2] at HF
        clear hb e0 hx hh hk h1 h2
        go_enter Try.func22, Try.ntmps22
        go_wp2_with (first
          | (go_at_call 46; refine (HI.out _).mono ?_; rintro e w' ⟨rfl, rfl⟩)
          | (go_at_call 47; refine (HF.out _).mono ?_; rintro e w' ⟨rfl, rfl⟩))
        go_ret2
        exact ⟨rfl, Below.refl _ _⟩
      · rw [e0, if_neg h1, if_neg h2, if_pos rfl]
        rw [beq_eq_false_iff_ne.2 h2] at HF
        unfold fillS
        rw [Int.toNat_natCast]
        clear hb e0 hx hh hk h1 h2
        generalize setB x k h = y at *
        go_enter Try.func22, Try.ntmps22
        go_wp2_with (first
          | (go_at_call 46; refine (HI.out _).mono ?_; rintro e w' ⟨rfl, rfl⟩)
          | (go_at_call 47; refine (HF.out _).mono ?_; rintro e w' ⟨rfl, rfl⟩)
          | (go_at_call 48; refine (HP.out _).mono ?_; rintro e w1 ⟨rfl, hB⟩))
        go_ret2
        exact ⟨rfl, hB⟩
set_option maxHeartbeats 2000000 in
theorem Try.refErase_any (x : Nat) (lane : Int) (hx : x < 18446744073709551616) (w : World) :
    Calls Try.prog 23 #[.int .u64 x, .int .i64 lane] w fun e w' => e = .returned (.tuple #[.int .u64 (eraseW x lane : Nat), .int .i64 (eraseE x lane)]) ∧ Below w.heap.size w w' := by
  have HI := Lib.hid fun W => Try.Is_any lane W
  unfold eraseW
  by_cases hb : bad lane
  · have e1 : eraseE x lane = 110 := by unfold eraseE; rw [if_pos (show lane < 0 ∨ 8 ≤ lane from hb)]
    rw [decide_eq_false (fun h' => h' hb)] at HI
    rw [e1, if_neg (by decide)]
    clear hb e1 hx
    go_enter Try.func23, Try.ntmps23
    go_wp2_with (go_at_call 46; refine (HI.out _).mono ?_; rintro e w' ⟨rfl, rfl⟩)
    go_ret2
    exact ⟨rfl, Below.refl _ _⟩
  · rw [decide_eq_true hb] at HI
    obtain ⟨k, rfl⟩ : ∃ k : Nat, lane = (k : Int) := ⟨lane.toNat, by unfold bad at hb; omega⟩
    have hk : k < 8 := by unfold bad at hb; omega
    have e0 : eraseE x k = if kd (byt x k) = 0 then 0 else 4 := by
      unfold eraseE
      rw [if_neg (show ¬ ((k : Int) < 0 ∨ 8 ≤ (k : Int)) from hb), Int.toNat_natCast]
    have HF := Lib.hid fun W => Try.refFull_any x k hx (by omega) W
    have HS := Lib.hid fun W => Try.refStops_any x hx W
    by_cases h2 : kd (byt x k) = 0
    · rw [e0, if_pos h2, if_pos rfl]
      rw [h2] at HF
      unfold eraseS
      rw [Int.toNat_natCast]
      cases hs : stopsC x
      · rw [hs] at HS
        have HP := Lib.hid fun W => Try.refPut_any x 254 k hx (by decide) hk W
        rw [if_neg (by decide)]
        clear hb e0 hx hk h2 hs
        generalize setB x k 254 = y at *
        go_enter Try.func23, Try.ntmps23
        go_wp2_with (first
          | (go_at_call 46; refine (HI.out _).mono ?_; rintro e w' ⟨rfl, rfl⟩)
          | (go_at_call 47; refine (HF.out _).mono ?_; rintro e w' ⟨rfl, rfl⟩)
          | (go_at_call 15; refine (HS.out _).mono ?_; rintro e w' ⟨rfl, rfl⟩)
          | (go_at_call 48; refine (HP.out _).mono ?_; rintro e w1 ⟨rfl, hB⟩))
        go_ret2
        exact ⟨rfl, hB⟩
      · rw [hs] at HS
        have HP := Lib.hid fun W => Try.refPut_any x 128 k hx (by decide) hk W
        rw [if_pos rfl]
        clear hb e0 hx hk h2 hs
        generalize setB x k 128 = y at *
        go_enter Try.func23, Try.ntmps23
        go_wp2_with (first
          | (go_at_call 46; refine (HI.out _).mono ?_; rintro e w' ⟨rfl, rfl⟩)
          | (go_at_call 47; refine (HF.out _).mono ?_; rintro e w' ⟨rfl, rfl⟩)
          | (go_at_call 15; refine (HS.out _).mono ?_; rintro e w' ⟨rfl, rfl⟩)
          | (go_at_call 48; refine (HP.out _).mono ?_; rintro e w1 ⟨rfl, hB⟩))
        go_ret2
        exact ⟨rfl, hB⟩
    · rw [e0, if_neg h2, if_neg (by decide)]
      rw [beq_eq_false_iff_ne.2 h2] at HF
      clear hb e0 hx hk h2
      go_enter Try.func23, Try.ntmps23
      go_wp2_with (first
        | (go_at_call 46; refine (HI.out _).mono ?_; rintro e w' ⟨rfl, rfl⟩)
        | (go_at_call 47; refine (HF.out _).mono ?_; rintro e w' ⟨rfl, rfl⟩))
      go_ret2
      exact ⟨rfl, Below.refl _ _⟩
end Go.Proofs
