/- The plain mathematics of words of eight bytes, and of masks of eight lanes: no program is named here. -/
import Derived.Laws.BitsAllLaws
import Derived.WalkKit
namespace Go.Proofs
set_option maxRecDepth 100000
open Go.RowKit

/-- The byte of lane n. -/
def byt (x n : Nat) : Nat := x / 2 ^ (8 * n) % 256
theorem byt_cast (x n : Nat) : ((byt x n : Nat) : Int) = (x : Int) / 2 ^ (8 * n) % 256 := by unfold byt; simp
theorem byt_lt (x n : Nat) : byt x n < 256 := Nat.mod_lt _ (by decide)
theorem testBit_byt (x n j : Nat) : (byt x n).testBit j = (decide (j < 8) && x.testBit (8 * n + j)) := by
  unfold byt
  rw [show (256 : Nat) = 2 ^ 8 from rfl, Nat.testBit_mod_two_pow, Nat.testBit_div_two_pow, Nat.add_comm j]
theorem byt_zero (n : Nat) : byt 0 n = 0 := by simp [byt]

/-- The word in which the lane n holds b. -/
def setB (x n b : Nat) : Nat := x ^^^ ((byt x n ^^^ b) * 2 ^ (8 * n))
theorem xor_lt_256 {a b : Nat} (ha : a < 256) (hb : b < 256) : a ^^^ b < 256 := Nat.xor_lt_two_pow (n := 8) ha hb
theorem mul_pow_lt {c n : Nat} (hc : c < 256) (hn : n < 8) : c * 2 ^ (8 * n) < 18446744073709551616 := by
  have h1 : c * 2 ^ (8 * n) < 256 * 2 ^ (8 * n) := Nat.mul_lt_mul_of_pos_right hc (Nat.pos_of_ne_zero (by simp))
  have h2 : 256 * 2 ^ (8 * n) = 2 ^ (8 * n + 8) := by rw [Nat.pow_add]; omega
  have h3 : 2 ^ (8 * n + 8) ≤ 2 ^ 64 := Nat.pow_le_pow_right (by decide) (by omega)
  omega
theorem setB_lt {x n b : Nat} (hx : x < 18446744073709551616) (hn : n < 8) (hb : b < 256) : setB x n b < 18446744073709551616 :=
  Nat.xor_lt_two_pow (n := 64) hx (mul_pow_lt (xor_lt_256 (byt_lt x n) hb) hn)
theorem testBit_ge_256 {b i : Nat} (hb : b < 256) (hi : 8 ≤ i) : b.testBit i = false :=
  Nat.testBit_lt_two_pow (Nat.lt_of_lt_of_le (show b < 2 ^ 8 from hb) (Nat.pow_le_pow_right (by decide) hi))
theorem byt_setB {x n b : Nat} (hb : b < 256) (k : Nat) : byt (setB x n b) k = if k = n then b else byt x k := by
  apply Nat.eq_of_testBit_eq
  intro j
  rw [testBit_byt]
  unfold setB
  rw [Nat.testBit_xor, Nat.testBit_mul_two_pow, Nat.testBit_xor, testBit_byt]
  by_cases hj : j < 8
  · by_cases hk : k = n
    · subst hk
      have e : 8 * k + j - 8 * k = j := by omega
      simp [hj, e]
    · rw [if_neg hk, testBit_byt]
      by_cases hlt : 8 * n ≤ 8 * k + j
      · have hge : 8 ≤ 8 * k + j - 8 * n := by omega
        simp [hj, testBit_ge_256 hb hge, show ¬ 8 * k + j - 8 * n < 8 from by omega]
      · simp [hj, hlt]
  · have h8 : 8 ≤ j := by omega
    by_cases hk : k = n
    · simp [hj, hk, testBit_ge_256 hb h8]
    · simp [hj, hk, testBit_byt]
theorem byt_setB_same {x n b : Nat} (hb : b < 256) : byt (setB x n b) n = b := by rw [byt_setB hb, if_pos rfl]
theorem byt_setB_other {x n b k : Nat} (hb : b < 256) (h : k ≠ n) : byt (setB x n b) k = byt x k := by rw [byt_setB hb, if_neg h]

/-- Words of the same bytes are the same. -/
theorem byt_ext {x y : Nat} (hx : x < 18446744073709551616) (hy : y < 18446744073709551616) (h : ∀ k, k < 8 → byt x k = byt y k) : x = y := by
  apply Nat.eq_of_testBit_eq
  intro i
  by_cases hi : i < 64
  · have e := congrArg (fun z => Nat.testBit z (i % 8)) (h (i / 8) (by omega))
    simp only [testBit_byt] at e
    have e8 : 8 * (i / 8) + i % 8 = i := Nat.div_add_mod i 8
    rw [e8] at e
    simpa [Nat.mod_lt i (show 0 < 8 by decide)] using e
  · have h64 : 64 ≤ i := by omega
    rw [Nat.testBit_lt_two_pow (Nat.lt_of_lt_of_le (show x < 2 ^ 64 from hx) (Nat.pow_le_pow_right (by decide) h64)),
      Nat.testBit_lt_two_pow (Nat.lt_of_lt_of_le (show y < 2 ^ 64 from hy) (Nat.pow_le_pow_right (by decide) h64))]

/-- What the program's exclusive or comes to. -/
theorem setB_walk {x n b : Nat} (hx : x < 18446744073709551616) (hn : n < 8) (hb : b < 256) :
    bits .xor .u64 (x : Int) (IntKind.u64.wrap (IntKind.u64.wrap (bits .xor .u8 ((byt x n : Nat) : Int) (b : Int)) * 2 ^ (8 * n))) = ((setB x n b : Nat) : Int) := by
  rw [u8_xor_nat _ _ (byt_lt x n) hb]
  have hc := xor_lt_256 (byt_lt x n) hb
  have hm := mul_pow_lt hc hn
  have e1 : IntKind.u64.wrap ((byt x n ^^^ b : Nat) : Int) = ((byt x n ^^^ b : Nat) : Int) := by
    rw [IntKind.wrap_u64]; omega
  rw [e1]
  have e2 : ((byt x n ^^^ b : Nat) : Int) * 2 ^ (8 * n) = (((byt x n ^^^ b) * 2 ^ (8 * n) : Nat) : Int) := by simp
  rw [e2]
  have e3 : IntKind.u64.wrap (((byt x n ^^^ b) * 2 ^ (8 * n) : Nat) : Int) = (((byt x n ^^^ b) * 2 ^ (8 * n) : Nat) : Int) := by
    rw [IntKind.wrap_u64]; omega
  rw [e3, u64_xor_nat _ _ hx hm]
  rfl

/-- The word in which the lanes of l hold what g says. -/
def setAll (g : Nat → Nat) (x : Nat) (l : List (Fin 8)) : Nat := l.foldl (fun x (n : Fin 8) => setB x n (g n)) x
theorem setAll_nil (g : Nat → Nat) (x : Nat) : setAll g x [] = x := rfl
theorem setAll_snoc (g : Nat → Nat) (x : Nat) (l : List (Fin 8)) (n : Fin 8) : setAll g x (l ++ [n]) = setB (setAll g x l) n (g n) := by simp [setAll]
theorem setAll_lt {g : Nat → Nat} (hg : ∀ n, g n < 256) {x : Nat} (hx : x < 18446744073709551616) (l : List (Fin 8)) : setAll g x l < 18446744073709551616 := by
  induction l generalizing x with
  | nil => exact hx
  | cons n l ih => exact ih (setB_lt hx n.isLt (hg n))
theorem byt_setAll {g : Nat → Nat} (hg : ∀ n, g n < 256) (x : Nat) (l : List (Fin 8)) (k : Fin 8) : byt (setAll g x l) k = if k ∈ l then g k else byt x k := by
  induction l generalizing x with
  | nil => simp [setAll]
  | cons n l ih =>
    show byt (setAll g (setB x n (g n)) l) k = _
    rw [ih, byt_setB (hg n)]
    by_cases hk : k ∈ l
    · simp [hk]
    · by_cases hkn : k = n
      · subst hkn; simp [hk]
      · have : (k : Nat) ≠ n := fun e => hkn (Fin.ext e)
        simp [hk, hkn, this]

theorem div_cast (m k : Nat) : (m : Int) / 2 ^ k = ((m / 2 ^ k : Nat) : Int) := by simp
theorem and1_walk {m : Nat} (hm : m < 256) (k : Nat) : bits .and .u8 ((m : Int) / 2 ^ k) 1 = if m.testBit k then 1 else 0 := by
  rw [div_cast, show (1 : Int) = ((1 : Nat) : Int) from rfl, u8_and_nat _ _ (Nat.lt_of_le_of_lt (Nat.div_le_self _ _) hm) (by decide), Nat.and_one_is_mod, Nat.testBit_eq_decide_div_mod_eq]
  rcases Nat.mod_two_eq_zero_or_one (m / 2 ^ k) with h | h <;> simp [h]
theorem and1_yes {m : Nat} (hm : m < 256) {k : Nat} (h : (bits .and .u8 ((m : Int) / 2 ^ k) 1 == 0) = false) : m.testBit k = true := by
  rw [and1_walk hm] at h
  cases hb : m.testBit k
  · simp [hb] at h
  · rfl
theorem and1_no {m : Nat} (hm : m < 256) {k : Nat} (h : (bits .and .u8 ((m : Int) / 2 ^ k) 1 == 0) = true) : m.testBit k = false := by
  rw [and1_walk hm] at h
  cases hb : m.testBit k
  · rfl
  · simp [hb] at h
theorem pow_lt_256 {n : Nat} (hn : n < 8) : 2 ^ n < 256 := Nat.pow_lt_pow_right (a := 2) (n := 8) (by decide) hn
theorem or_walk {m n : Nat} (hm : m < 256) (hn : n < 8) : bits .or .u8 (m : Int) (2 ^ n % 256) = ((m ||| 2 ^ n : Nat) : Int) := by
  have h := pow_lt_256 hn
  have e : (2 ^ n % 256 : Int) = ((2 ^ n : Nat) : Int) := by
    have e1 : (2 ^ n % 256 : Int) = ((2 ^ n % 256 : Nat) : Int) := by simp
    rw [e1, Nat.mod_eq_of_lt h]
  rw [e, u8_or_nat _ _ hm h]
theorem natEq_walk (a b : Nat) : (((a : Nat) : Int) == ((b : Nat) : Int)) = (a == b) := by
  rw [Bool.eq_iff_iff]; simp; omega
theorem natLt_walk (a b : Nat) : decide (((a : Nat) : Int) < ((b : Nat) : Int)) = decide (a < b) := by
  rw [Bool.eq_iff_iff]; simp
theorem ring_cast (n : Nat) (i : Int) : ((n : Int) + i) % 8 = ((((n : Int) + i) % 8).toNat : Int) := by omega
theorem ring_lt (n : Nat) (i : Int) : (((n : Int) + i) % 8).toNat < 8 := by omega
theorem div_zero_of {m k : Nat} (h : ((m : Int) / 2 ^ k == 0) = true) : m / 2 ^ k = 0 := by
  rw [div_cast] at h
  have := eq_of_beq h
  omega

/-- All eight lanes. -/
def all8 : List (Fin 8) := [⟨0, by decide⟩, ⟨1, by decide⟩, ⟨2, by decide⟩, ⟨3, by decide⟩, ⟨4, by decide⟩, ⟨5, by decide⟩, ⟨6, by decide⟩, ⟨7, by decide⟩]
theorem mem_all8 (k : Fin 8) : k ∈ all8 := by revert k; decide

/-- The lanes of m that are less than k, rising. -/
def lanesTo (m : Nat) : Nat → List (Fin 8)
  | 0 => []
  | k + 1 => lanesTo m k ++ (if h : k < 8 then (if m.testBit k then [⟨k, h⟩] else []) else [])
def lanesOf (m : Nat) : List (Fin 8) := lanesTo m 8
theorem lanesTo_yes {m k : Nat} (hk : k < 8) (h : m.testBit k = true) : lanesTo m (k + 1) = lanesTo m k ++ [⟨k, hk⟩] := by simp [lanesTo, hk, h]
theorem lanesTo_no {m k : Nat} (h : m.testBit k = false) : lanesTo m (k + 1) = lanesTo m k := by simp [lanesTo, h]
theorem lanesTo_prefix (m k j : Nat) : lanesTo m k <+: lanesTo m (k + j) := by
  induction j with
  | zero => exact List.prefix_refl _
  | succ j ih => exact ih.trans ⟨_, rfl⟩
theorem lanesTo_le {m k : Nat} (hk : k ≤ 8) : lanesTo m k <+: lanesOf m := by
  have := lanesTo_prefix m k (8 - k)
  rwa [Nat.add_sub_cancel' hk] at this
theorem lanesTo_rest {m k : Nat} (h : m / 2 ^ k = 0) (j : Nat) : lanesTo m (k + j) = lanesTo m k := by
  induction j with
  | zero => rfl
  | succ j ih =>
    have hb : m.testBit (k + j) = false := by
      have e : (m / 2 ^ k).testBit j = m.testBit (j + k) := Nat.testBit_div_two_pow _ _
      rw [h] at e
      rw [Nat.add_comm k j, ← e]
      simp
    rw [← Nat.add_assoc, lanesTo_no hb, ih]
theorem lanesTo_end {m k : Nat} (hk : k ≤ 8) (h : m / 2 ^ k = 0) : lanesTo m k = lanesOf m := by
  have := lanesTo_rest h (8 - k)
  rw [Nat.add_sub_cancel' hk] at this
  exact this.symm
theorem lanesTo_length (m k : Nat) : (lanesTo m k).length ≤ k := by
  induction k with
  | zero => exact Nat.le_refl _
  | succ k ih => 
    rw [lanesTo, List.length_append]
    split
    · split
      · simp; omega
      · simp; omega
    · simp; omega
theorem mem_lanesTo (m k : Nat) (n : Fin 8) : n ∈ lanesTo m k ↔ (n : Nat) < k ∧ m.testBit n = true := by
  induction k with
  | zero => simp [lanesTo]
  | succ k ih =>
    rw [lanesTo, List.mem_append, ih]
    constructor
    · rintro (⟨h1, h2⟩ | h)
      · exact ⟨by omega, h2⟩
      · split at h
        · split at h
          · rename_i hk hb
            simp at h; subst h
            exact ⟨by simp, hb⟩
          · simp at h
        · simp at h
    · rintro ⟨h1, h2⟩
      by_cases hlt : (n : Nat) < k
      · exact .inl ⟨hlt, h2⟩
      · have e : (n : Nat) = k := by omega
        subst e
        refine .inr ?_
        rw [dif_pos n.isLt, if_pos h2]
        simp
theorem mem_lanesOf (m : Nat) (n : Fin 8) : n ∈ lanesOf m ↔ m.testBit n = true := by
  unfold lanesOf
  rw [mem_lanesTo]
  exact ⟨fun h => h.2, fun h => ⟨n.isLt, h⟩⟩
theorem lanesOf_255 : lanesOf 255 = all8 := by decide

/-- The word of eight bytes. -/
def ofB (g : Nat → Nat) : Nat := setAll g 0 all8
theorem ofB_lt {g : Nat → Nat} (hg : ∀ n, g n < 256) : ofB g < 18446744073709551616 := setAll_lt hg (by decide) _
theorem byt_ofB {g : Nat → Nat} (hg : ∀ n, g n < 256) {k : Nat} (hk : k < 8) : byt (ofB g) k = g k := by
  have := byt_setAll hg 0 all8 ⟨k, hk⟩
  simpa [ofB, mem_all8] using this
theorem ofB_byt {x : Nat} (hx : x < 18446744073709551616) : ofB (byt x) = x :=
  byt_ext (ofB_lt (byt_lt x)) hx fun _ hk => byt_ofB (byt_lt x) hk

/-- The mask of the lanes of l. -/
def orAll (g : Nat → Bool) (m : Nat) (l : List (Fin 8)) : Nat := l.foldl (fun m (n : Fin 8) => if g n then m ||| 2 ^ (n : Nat) else m) m
theorem orAll_snoc (g : Nat → Bool) (m : Nat) (l : List (Fin 8)) (n : Fin 8) : orAll g m (l ++ [n]) = if g n then orAll g m l ||| 2 ^ (n : Nat) else orAll g m l := by simp [orAll]
theorem orAll_lt (g : Nat → Bool) {m : Nat} (hm : m < 256) (l : List (Fin 8)) : orAll g m l < 256 := by
  induction l generalizing m with
  | nil => exact hm
  | cons n l ih =>
    refine ih ?_
    show (if g n = true then m ||| 2 ^ (n : Nat) else m) < 256
    split
    · exact Nat.or_lt_two_pow (n := 8) hm (Nat.pow_lt_pow_right (by decide) n.isLt)
    · exact hm
theorem testBit_orAll (g : Nat → Bool) (m : Nat) (l : List (Fin 8)) (k : Fin 8) : (orAll g m l).testBit k = (m.testBit k || (decide (k ∈ l) && g k)) := by
  induction l generalizing m with
  | nil => simp [orAll]
  | cons n l ih =>
    show (orAll g (if g n then m ||| 2 ^ (n : Nat) else m) l).testBit k = _
    rw [ih]
    by_cases hg : g n = true
    · rw [if_pos hg, Nat.testBit_or, Nat.testBit_two_pow]
      by_cases hkn : k = n
      · subst hkn; simp [hg]
      · have : (n : Nat) ≠ k := fun e => hkn (Fin.ext e.symm)
        simp [hkn, this]
    · rw [if_neg hg]
      by_cases hkn : k = n
      · subst hkn; simp [hg]
      · simp [hkn]
def maskB (g : Nat → Bool) : Nat := orAll g 0 all8
theorem maskB_lt (g : Nat → Bool) : maskB g < 256 := orAll_lt g (by decide) _
theorem testBit_maskB (g : Nat → Bool) (k : Fin 8) : (maskB g).testBit k = g k := by
  unfold maskB
  rw [testBit_orAll]
  simp [mem_all8]
theorem mask_ext {a b : Nat} (ha : a < 256) (hb : b < 256) (h : ∀ k : Fin 8, a.testBit k = b.testBit k) : a = b := by
  apply Nat.eq_of_testBit_eq
  intro i
  by_cases hi : i < 8
  · exact h ⟨i, hi⟩
  · rw [testBit_ge_256 ha (by omega), testBit_ge_256 hb (by omega)]
end Go.Proofs
