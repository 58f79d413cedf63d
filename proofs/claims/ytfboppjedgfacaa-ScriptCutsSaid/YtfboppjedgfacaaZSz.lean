/- Script: numbers read: the plain mathematics. -/
import Derived.Test.YtfboppjedgfacaaZSy
import Derived.Laws.BitsAllLaws
namespace Go.Proofs
open Go.RowKit Go.Shelf
attribute [local go_sem] Oper.semAt_some

/-- What rows of bytes come to, seven bits each. -/
def valB : List Int → Nat
  | [] => 0
  | b :: t => (b % 128).toNat + 128 * valB t
theorem valB_lt (l : List Int) : valB l < 128 ^ l.length := by
  induction l with
  | nil => simp [valB]
  | cons b t ih =>
    have h1 : (b % 128).toNat < 128 := by omega
    rw [valB, List.length_cons, Nat.pow_succ]
    omega
theorem valB_snoc (l : List Int) (b : Int) : valB (l ++ [b]) = valB l + (b % 128).toNat * 128 ^ l.length := by
  induction l with
  | nil => simp [valB]
  | cons a t ih =>
    rw [List.cons_append, valB, ih, valB, List.length_cons, Nat.pow_succ, Nat.mul_add, ← Nat.mul_assoc, ← Nat.mul_assoc, Nat.mul_comm 128 ((b % 128).toNat), Nat.mul_assoc _ (128 ^ t.length), Nat.mul_comm (128 ^ t.length) 128, Nat.add_assoc, Nat.mul_assoc]
theorem numB_val : ∀ n : Nat, valB (numB n) = n := by
  intro n
  induction n using Nat.strongRecOn with
  | _ n ih =>
    by_cases h : n < 128
    · rw [numB_small h, valB, valB]
      omega
    · rw [numB_big h, valB, ih (n / 128) (by omega)]
      omega
/-- All bytes but the last are great, the last is small. -/
theorem numB_form : ∀ n : Nat, ∃ l : List Int, ∃ b : Int, numB n = l ++ [b] ∧ (∀ x ∈ l, 128 ≤ x ∧ x < 256) ∧ 0 ≤ b ∧ b < 128 := by
  intro n
  induction n using Nat.strongRecOn with
  | _ n ih =>
    by_cases h : n < 128
    · exact ⟨[], n, by rw [numB_small h]; rfl, (fun x hx => by simp at hx), by omega, by omega⟩
    · obtain ⟨l, b, e, h1, h2⟩ := ih (n / 128) (by omega)
      refine ⟨((n : Int) % 128 + 128) :: l, b, by rw [numB_big h, e]; rfl, fun x hx => ?_, h2⟩
      rcases List.mem_cons.1 hx with rfl | hx
      · omega
      · exact h1 x hx
/-- Whoever begins with a number's bytes has its first small byte where these end. -/
theorem numB_first {bs : List Int} {n k : Nat} (hp : numB n <+: bs) (hk : k < bs.length) (hg : ∀ j, j < k → 128 ≤ bs[j]?.getD 0) (hs : bs[k]?.getD 0 < 128) : numB n = bs.take (k + 1) := by
  obtain ⟨l, b, e, h1, _, h2⟩ := numB_form n
  obtain ⟨r, hr⟩ := hp
  have hlen : l.length = k := by
    rcases Nat.lt_trichotomy l.length k with h | h | h
    · exfalso
      have := hg l.length h
      rw [← hr, e] at this
      simp at this
      omega
    · exact h
    · exfalso
      have h3 : (l[k]) ∈ l := List.getElem_mem h
      have h4 := (h1 _ h3).1
      rw [← hr, e] at hs
      rw [List.append_assoc, List.getElem?_append_left h, List.getElem?_eq_getElem h] at hs
      simp at hs
      omega
  have h5 : bs.take (k + 1) = (numB n ++ r).take (k + 1) := by rw [hr]
  rw [h5, List.take_append, List.take_of_length_le (by rw [e]; simp; omega)]
  have : k + 1 - (numB n).length = 0 := by rw [e]; simp; omega
  rw [this]
  simp
theorem numB_inj {n m : Nat} (h : numB n = numB m) : n = m := by rw [← numB_val n, h, numB_val]
/-- What a round adds. -/
theorem or_add {A c k : Nat} (hA : A < 128 ^ k) (hc : c < 128) : (A % 2 ^ 64) ||| ((c * 2 ^ min (7 * k) 64) % 2 ^ 64) = (A + c * 128 ^ k) % 2 ^ 64 := by
  have e : (128 : Nat) ^ k = 2 ^ (7 * k) := by rw [Nat.pow_mul]
  rw [e] at hA ⊢
  by_cases h : 7 * k < 64
  · rw [Nat.min_eq_left (by omega)]
    have h1 : (2 : Nat) ^ 64 = 2 ^ (7 * k) * 2 ^ (64 - 7 * k) := by rw [← Nat.pow_add]; congr 1; omega
    have hA64 : A < 2 ^ 64 := Nat.lt_of_lt_of_le hA (Nat.pow_le_pow_right (by decide) (by omega))
    rw [Nat.mod_eq_of_lt hA64, Nat.mul_comm c, h1, Nat.mul_mod_mul_left, Nat.or_comm, ← Nat.two_pow_add_eq_or_of_lt hA, Nat.add_comm A]
    have hm : 2 ^ (7 * k) * c + A = A + 2 ^ (7 * k) * c := Nat.add_comm _ _
    rw [Nat.mod_mul, Nat.add_mod, Nat.mul_mod_right, Nat.zero_add, Nat.mod_mod, Nat.mod_eq_of_lt hA, Nat.mul_add_div (Nat.pos_of_ne_zero (by simp)), Nat.div_eq_of_lt hA, Nat.add_zero, Nat.add_comm]
  · rw [Nat.min_eq_right (by omega), Nat.mul_mod_left, Nat.or_zero]
    have h1 : (2 : Nat) ^ (7 * k) = 2 ^ 64 * 2 ^ (7 * k - 64) := by rw [← Nat.pow_add]; congr 1; omega
    rw [h1, ← Nat.mul_assoc, Nat.mul_comm c, Nat.mul_assoc, Nat.add_mul_mod_self_left]
end Go.Proofs
