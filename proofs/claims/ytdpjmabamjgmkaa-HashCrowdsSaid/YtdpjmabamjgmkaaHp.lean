/- The mathematics of the reference's hashes, bit by bit: no program is named here. -/
import Derived.Test.YtdpjmabamjgmkaaHm
namespace Go.Proofs
open Go.RowKit

theorem low_succ (x k : Nat) : x % 2 ^ (k + 1) = x % 2 ^ k + (if x.testBit k = true then 2 ^ k else 0) := by
  rw [Nat.mod_pow_succ, ← Nat.toNat_testBit]
  cases x.testBit k <;> simp
theorem low_yes {x k : Nat} (h : x.testBit k = true) : x % 2 ^ (k + 1) = x % 2 ^ k + 2 ^ k := by rw [low_succ, if_pos h]
theorem low_no {x k : Nat} (h : x.testBit k = false) : x % 2 ^ (k + 1) = x % 2 ^ k := by rw [low_succ, h]; simp
theorem low_64 {x : Nat} (h : x < 18446744073709551616) : x % 2 ^ 64 = x := Nat.mod_eq_of_lt h
/-- The bits from m on are what has been unfolded. -/
def UnB (w p m q : Nat) : Prop := q * 2 ^ m < 18446744073709551616 ∧ ∀ i, m ≤ i → i < 64 → ((q * 2 ^ m).testBit i ^^ (q * 2 ^ m).testBit (i + p)) = w.testBit i
theorem mul_bit (q m i : Nat) : (q * 2 ^ m).testBit i = (decide (m ≤ i) && q.testBit (i - m)) := Nat.testBit_mul_two_pow q i m
theorem UnB.start (w p : Nat) : UnB w p 64 0 := ⟨by decide, fun i h1 h2 => by omega⟩
theorem un_even (q m : Nat) : q * 2 ^ (m + 1) = (2 * q) * 2 ^ m := by rw [Nat.pow_succ]; rw [Nat.mul_comm (2 ^ m) 2, ← Nat.mul_assoc, Nat.mul_comm q 2]
theorem un_odd (q m : Nat) : q * 2 ^ (m + 1) + 2 ^ m = (2 * q + 1) * 2 ^ m := by rw [un_even, Nat.add_mul, Nat.one_mul]
theorem odd_bit (q i : Nat) : (2 * q + 1).testBit (i + 1) = q.testBit i := by
  rw [Nat.testBit_succ]
  congr 1
  omega
theorem even_bit (q i : Nat) : (2 * q).testBit (i + 1) = q.testBit i := by
  rw [Nat.testBit_succ]
  congr 1
  omega
theorem UnB.no {w p m q : Nat} (h : UnB w p (m + 1) q) (hb : w.testBit m = (q * 2 ^ (m + 1)).testBit (m + p)) : UnB w p m (2 * q) := by
  obtain ⟨h1, h2⟩ := h
  rw [un_even] at h1 h2 hb
  refine ⟨h1, fun i hi hi2 => ?_⟩
  by_cases e : i = m
  · subst e
    rw [hb, mul_bit (2 * q) i i, Nat.sub_self]
    simp
  · exact h2 i (by omega) hi2
theorem UnB.yes {w p m q : Nat} (hp : 0 < p) (hm : m < 64) (h : UnB w p (m + 1) q) (hb : w.testBit m ≠ (q * 2 ^ (m + 1)).testBit (m + p)) : UnB w p m (2 * q + 1) := by
  obtain ⟨h1, h2⟩ := h
  have far : ∀ i, m + 1 ≤ i → ((2 * q + 1) * 2 ^ m).testBit i = (q * 2 ^ (m + 1)).testBit i := fun i hi => by
    rw [mul_bit, mul_bit]
    obtain ⟨j, rfl⟩ : ∃ j, i = m + 1 + j := ⟨i - (m + 1), by omega⟩
    rw [show m + 1 + j - m = j + 1 by omega, show m + 1 + j - (m + 1) = j by omega, odd_bit]
    simp
    omega
  have at' : ((2 * q + 1) * 2 ^ m).testBit m = true := by
    rw [mul_bit, Nat.sub_self]
    simp
  refine ⟨?_, fun i hi hi2 => ?_⟩
  · rw [← un_odd]
    have hq : q * 2 ^ (m + 1) % 2 ^ (m + 1) = 0 := Nat.mul_mod_left _ _
    have hP : 2 ^ (m + 1) * 2 ^ (63 - m) = 18446744073709551616 := by
      rw [← Nat.pow_add, show m + 1 + (63 - m) = 64 by omega]
    have h3 : q < 2 ^ (63 - m) := by
      rw [← hP, Nat.mul_comm] at h1
      exact Nat.lt_of_mul_lt_mul_left h1
    have h4 : (q + 1) * 2 ^ (m + 1) ≤ 18446744073709551616 := by
      rw [← hP, Nat.mul_comm]
      exact Nat.mul_le_mul_left _ h3
    rw [Nat.add_mul, Nat.one_mul] at h4
    have h5 : 2 ^ m < 2 ^ (m + 1) := Nat.pow_lt_pow_right (by decide) (by omega)
    omega
  · by_cases e : i = m
    · subst e
      rw [at', far _ (by omega)]
      cases hw : w.testBit i <;> cases hz : (q * 2 ^ (i + 1)).testBit (i + p) <;> simp_all
    · rw [far i (by omega), far (i + p) (by omega)]
      exact h2 i (by omega) hi2
theorem UnB.turn {w p q : Nat} (hw : w < 18446744073709551616) (h : UnB w p 0 q) : turnB p (q * 2 ^ 0) = w := by
  obtain ⟨h1, h2⟩ := h
  apply Nat.eq_of_testBit_eq
  intro i
  unfold turnB
  rw [Nat.testBit_xor, Nat.testBit_div_two_pow]
  by_cases hi : i < 64
  · exact h2 i (Nat.zero_le _) hi
  · rw [bit_big hw (by omega), bit_big h1 (show 64 ≤ i by omega), bit_big h1 (show 64 ≤ i + p by omega)]
    rfl
theorem UnB.done29 {w q : Nat} (hw : w < 18446744073709551616) (h : UnB w 29 0 q) : q * 2 ^ 0 = unturn29 w := by
  rw [← h.turn hw, unturn_turn h.1]
theorem UnB.done32 {w q : Nat} (hw : w < 18446744073709551616) (h : UnB w 32 0 q) : q * 2 ^ 0 = turnB 32 w := by
  rw [← h.turn hw, turn32_turn32 h.1]
/-- So many low bits are those of the factor that is sought. -/
def OvB (w f k out : Nat) : Prop := out < 2 ^ k ∧ out * f % 2 ^ k = w % 2 ^ k
theorem OvB.start (w f : Nat) : OvB w f 0 0 := ⟨by decide, by simp [Nat.mod_one]⟩
theorem OvB.no {w f k out : Nat} (h : OvB w f k out) (hb : (out * f).testBit k = w.testBit k) : OvB w f (k + 1) out := by
  refine ⟨Nat.lt_of_lt_of_le h.1 (Nat.pow_le_pow_right (by decide) (by omega)), ?_⟩
  rw [low_succ, low_succ, h.2, hb]
theorem OvB.yes {w f k out : Nat} (hf : f % 2 = 1) (h : OvB w f k out) (hb : (out * f).testBit k ≠ w.testBit k) : OvB w f (k + 1) (out + 2 ^ k) := by
  refine ⟨by have := h.1; rw [Nat.pow_succ]; omega, ?_⟩
  obtain ⟨g, rfl⟩ : ∃ g, f = 2 * g + 1 := ⟨f / 2, by omega⟩
  have e : (out + 2 ^ k) * (2 * g + 1) = out * (2 * g + 1) + 2 ^ k + 2 ^ (k + 1) * g := by
    rw [Nat.add_mul, Nat.pow_succ, Nat.mul_add (2 ^ k), Nat.mul_one, Nat.mul_assoc (2 ^ k) 2 g]
    omega
  rw [e, Nat.add_mul_mod_self_left]
  have hx := low_succ (out * (2 * g + 1)) k
  have hP : 0 < 2 ^ k := Nat.two_pow_pos k
  have hlt : out * (2 * g + 1) % 2 ^ k < 2 ^ k := Nat.mod_lt _ hP
  have h2 : 2 ^ k % 2 ^ (k + 1) = 2 ^ k := Nat.mod_eq_of_lt (by rw [Nat.pow_succ]; omega)
  rw [Nat.add_mod, h2, hx, low_succ w k, ← h.2]
  rw [Nat.pow_succ] at *
  generalize out * (2 * g + 1) % 2 ^ k = r at *
  cases hc : (out * (2 * g + 1)).testBit k <;> cases hd : w.testBit k <;> simp_all
  · exact Nat.mod_eq_of_lt (by omega)
  · rw [show r + 2 ^ k + 2 ^ k = r + 2 ^ k * 2 by omega, Nat.add_mod_right]
    exact Nat.mod_eq_of_lt (by omega)
theorem OvB.done {w f c out : Nat} (hw : w < 18446744073709551616) (hfc : f * c % 18446744073709551616 = 1) (h : OvB w f 64 out) : out = mulB c w := by
  have h2 := h.2
  rw [low_64 hw] at h2
  have e : mulB f out = w := h2
  rw [← e, mul_back hfc h.1]
theorem bit_mod64 {x k : Nat} (hk : k < 64) : (x % 18446744073709551616).testBit k = x.testBit k := by
  rw [show (18446744073709551616 : Nat) = 2 ^ 64 from rfl, Nat.testBit_mod_two_pow]
  simp [hk]
end Go.Proofs
