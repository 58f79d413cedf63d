/- The plain mathematics of hashes: no program is named here. -/
import Derived.Laws.BitsAllLaws
import Derived.Lib.BitFns
import Derived.WalkKit
namespace Go.Proofs
open Go.RowKit

/-- Two to the power 64. -/
abbrev W2 : Nat := 18446744073709551616
def hc1 : Nat := 13787848793156543929
def hc2 : Nat := 10723151780598845931
def hi1 : Nat := 10871156337175269513
def hi2 : Nat := 3573116690164977347
def turnB (p x : Nat) : Nat := x ^^^ (x / 2 ^ p)
def mulB (c x : Nat) : Nat := x * c % 18446744073709551616
def mixB (x : Nat) : Nat := turnB 29 (mulB hc2 (turnB 32 (mulB hc1 x)))
def ofB (s k : Nat) : Nat := mixB (s ^^^ k)
def unturn29 (x : Nat) : Nat := (x ^^^ (x / 2 ^ 29)) ^^^ (x / 2 ^ 58)
def unmixB (h : Nat) : Nat := mulB hi1 (turnB 32 (mulB hi2 (unturn29 h)))
def keyB (s h : Nat) : Nat := unmixB h ^^^ s
def prefixB (h n : Nat) : Nat := h / 2 ^ (64 - n)
def partsB (a b : Nat) : Nat := 64 - Lib.bitLen (a ^^^ b)

theorem xor_lt {a b : Nat} (ha : a < 18446744073709551616) (hb : b < 18446744073709551616) : a ^^^ b < 18446744073709551616 := Nat.xor_lt_two_pow (n := 64) ha hb
theorem div_lt64 {a : Nat} (p : Nat) (ha : a < 18446744073709551616) : a / 2 ^ p < 18446744073709551616 := Nat.lt_of_le_of_lt (Nat.div_le_self _ _) ha
theorem turnB_lt {p x : Nat} (h : x < 18446744073709551616) : turnB p x < 18446744073709551616 := xor_lt h (div_lt64 p h)
theorem mulB_lt (c x : Nat) : mulB c x < 18446744073709551616 := Nat.mod_lt _ (by decide)
theorem unturn29_lt {x : Nat} (h : x < 18446744073709551616) : unturn29 x < 18446744073709551616 := xor_lt (xor_lt h (div_lt64 _ h)) (div_lt64 _ h)
theorem mixB_lt (x : Nat) : mixB x < 18446744073709551616 := turnB_lt (mulB_lt _ _)
theorem ofB_lt (s k : Nat) : ofB s k < 18446744073709551616 := mixB_lt _
theorem unmixB_lt (x : Nat) : unmixB x < 18446744073709551616 := mulB_lt _ _
theorem keyB_lt {s : Nat} (hs : s < 18446744073709551616) (h : Nat) : keyB s h < 18446744073709551616 := xor_lt (unmixB_lt _) hs

theorem mul_back {c d x : Nat} (h : c * d % 18446744073709551616 = 1) (hx : x < 18446744073709551616) : mulB d (mulB c x) = x := by
  unfold mulB
  rw [Nat.mod_mul_mod, Nat.mul_assoc, Nat.mul_mod, h, Nat.mul_one, Nat.mod_mod, Nat.mod_eq_of_lt hx]
theorem bit_big {x i : Nat} (hx : x < 18446744073709551616) (hi : 64 ≤ i) : x.testBit i = false :=
  Nat.testBit_lt_two_pow (Nat.lt_of_lt_of_le (show x < 2 ^ 64 from hx) (Nat.pow_le_pow_right (by decide) hi))
theorem turn32_turn32 {x : Nat} (hx : x < 18446744073709551616) : turnB 32 (turnB 32 x) = x := by
  apply Nat.eq_of_testBit_eq
  intro i
  unfold turnB
  simp only [Nat.testBit_xor, Nat.testBit_div_two_pow]
  rw [bit_big hx (show 64 ≤ i + 32 + 32 by omega)]
  cases x.testBit i <;> cases x.testBit (i + 32) <;> rfl
theorem unturn_turn {x : Nat} (hx : x < 18446744073709551616) : unturn29 (turnB 29 x) = x := by
  apply Nat.eq_of_testBit_eq
  intro i
  unfold unturn29 turnB
  simp only [Nat.testBit_xor, Nat.testBit_div_two_pow]
  rw [bit_big hx (show 64 ≤ i + 58 + 29 by omega), show i + 29 + 29 = i + 58 by omega]
  cases x.testBit i <;> cases x.testBit (i + 29) <;> cases x.testBit (i + 58) <;> rfl
theorem turn_unturn {x : Nat} (hx : x < 18446744073709551616) : turnB 29 (unturn29 x) = x := by
  apply Nat.eq_of_testBit_eq
  intro i
  unfold unturn29 turnB
  simp only [Nat.testBit_xor, Nat.testBit_div_two_pow]
  rw [bit_big hx (show 64 ≤ i + 29 + 58 by omega), show i + 29 + 29 = i + 58 by omega]
  cases x.testBit i <;> cases x.testBit (i + 29) <;> cases x.testBit (i + 58) <;> rfl
theorem unmix_mix {x : Nat} (hx : x < 18446744073709551616) : unmixB (mixB x) = x := by
  unfold unmixB mixB
  rw [unturn_turn (mulB_lt _ _), mul_back (by decide) (turnB_lt (mulB_lt _ _)), turn32_turn32 (mulB_lt _ _), mul_back (by decide) hx]
theorem mix_unmix {x : Nat} (hx : x < 18446744073709551616) : mixB (unmixB x) = x := by
  unfold unmixB mixB
  rw [mul_back (by decide) (turnB_lt (mulB_lt _ _)), turn32_turn32 (mulB_lt _ _), mul_back (by decide) (unturn29_lt hx), turn_unturn hx]
theorem xor_back (a b : Nat) : a ^^^ b ^^^ a = b := by rw [Nat.xor_comm a b, Nat.xor_assoc, Nat.xor_self, Nat.xor_zero]
theorem xor_back' (a b : Nat) : a ^^^ b ^^^ b = a := by rw [Nat.xor_assoc, Nat.xor_self, Nat.xor_zero]
theorem key_of {s k : Nat} (hs : s < 18446744073709551616) (hk : k < 18446744073709551616) : keyB s (ofB s k) = k := by
  unfold keyB ofB
  rw [unmix_mix (xor_lt hs hk), xor_back]
theorem of_key {s h : Nat} (hh : h < 18446744073709551616) : ofB s (keyB s h) = h := by
  unfold keyB ofB
  rw [Nat.xor_comm, xor_back', mix_unmix hh]
theorem of_inj {s a b : Nat} (hs : s < 18446744073709551616) (ha : a < 18446744073709551616) (hb : b < 18446744073709551616) (h : ofB s a = ofB s b) : a = b := by
  rw [← key_of hs ha, h, key_of hs hb]

theorem lt_bitLen {x : Nat} (hx : x < 18446744073709551616) : x < 2 ^ Lib.bitLen x := by
  rcases Nat.eq_zero_or_pos x with h | h
  · subst h; decide
  · have h1 : 2 ^ Nat.log2 x ≤ x := Nat.log2_self_le (by omega)
    have h2 : x < 2 ^ (Nat.log2 x + 1) := Nat.lt_log2_self
    have h3 := Lib.bitLen_shift (Nat.log2 x) x h1 hx
    have h4 : x / 2 ^ Nat.log2 x = 1 := by
      have : x / 2 ^ Nat.log2 x < 2 := Nat.div_lt_of_lt_mul (by rw [Nat.pow_succ] at h2; omega)
      have : 1 ≤ x / 2 ^ Nat.log2 x := (Nat.le_div_iff_mul_le (Nat.two_pow_pos _)).2 (by omega)
      omega
    rw [h4, show Lib.bitLen 1 = 1 from by decide] at h3
    rw [h3]
    exact h2
theorem bitLen_le_iff {x k : Nat} (hx : x < 18446744073709551616) (hk : k ≤ 64) : Lib.bitLen x ≤ k ↔ x < 2 ^ k :=
  ⟨fun h => Nat.lt_of_lt_of_le (lt_bitLen hx) (Nat.pow_le_pow_right (by decide) h), fun h => Lib.bitLen_le x k hk h⟩
theorem bitLen_le64 {x : Nat} (hx : x < 18446744073709551616) : Lib.bitLen x ≤ 64 := Lib.bitLen_le x 64 (Nat.le_refl _) hx
theorem xor_div (a b p : Nat) : (a ^^^ b) / 2 ^ p = (a / 2 ^ p) ^^^ (b / 2 ^ p) := by
  apply Nat.eq_of_testBit_eq
  intro i
  simp only [Nat.testBit_xor, Nat.testBit_div_two_pow]
theorem xor_zero_iff (a b : Nat) : a ^^^ b = 0 ↔ a = b := by
  constructor
  · intro h
    have := congrArg (· ^^^ b) h
    simpa [xor_back'] using this
  · intro h; rw [h, Nat.xor_self]
theorem prefix_eq_iff {a b n : Nat} (ha : a < 18446744073709551616) (hb : b < 18446744073709551616) (hn : n ≤ 64) : prefixB a n = prefixB b n ↔ n ≤ partsB a b := by
  unfold prefixB partsB
  have hx := xor_lt ha hb
  have h1 := bitLen_le_iff hx (show 64 - n ≤ 64 by omega)
  have h2 := bitLen_le64 hx
  rw [← xor_zero_iff, ← xor_div, Nat.div_eq_zero_iff]
  have h3 : 2 ^ (64 - n) ≠ 0 := Nat.pos_iff_ne_zero.1 (Nat.two_pow_pos _)
  constructor
  · rintro (h | h)
    · exact absurd h h3
    · have := h1.2 h; omega
  · intro h
    exact .inr (h1.1 (by omega))
theorem prefix_half {a n : Nat} (hn : n < 64) : prefixB a (n + 1) / 2 = prefixB a n := by
  unfold prefixB
  rw [Nat.div_div_eq_div_mul, show 64 - n = 64 - (n + 1) + 1 by omega, Nat.pow_succ]
theorem prefixB_lt {a n : Nat} (ha : a < 18446744073709551616) : prefixB a n < 18446744073709551616 := div_lt64 _ ha
theorem parts_comm (a b : Nat) : partsB a b = partsB b a := by unfold partsB; rw [Nat.xor_comm]
theorem parts_le (a b : Nat) : partsB a b ≤ 64 := Nat.sub_le _ _
theorem parts_64 {a b : Nat} (ha : a < 18446744073709551616) (hb : b < 18446744073709551616) : partsB a b = 64 ↔ a = b := by
  have h := prefix_eq_iff ha hb (Nat.le_refl 64)
  have e1 : prefixB a 64 = a := by unfold prefixB; simp
  have e2 : prefixB b 64 = b := by unfold prefixB; simp
  rw [e1, e2] at h
  have := parts_le a b
  constructor
  · intro e; exact h.2 (by omega)
  · intro e; have := h.1 e; omega
end Go.Proofs
