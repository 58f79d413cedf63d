/- Ctrl: maths of masks, of words that are filled and erased. -/
import Derived.Test.YtmjlaienklheiaaJn
namespace Go.Proofs
open Go.RowKit Go.Shelf

theorem setK_bit (x t : Nat) (k : Fin 8) : (setK x t).testBit k = (kd (byt x k) == t) := testBit_maskB _ k
theorem bit255 (k j : Fin 8) : (255 - 2 ^ (k : Nat)).testBit j = !(decide (j = k)) := by revert k j; decide
theorem bitPow (k j : Fin 8) : (2 ^ (k : Nat)).testBit j = decide (j = k) := by revert k j; decide
theorem bit_255 (j : Fin 8) : (255 : Nat).testBit j = true := by revert j; decide
theorem kd_128 : kd 128 = 1 := rfl
theorem kd_254 : kd 254 = 2 := rfl
theorem or_lt8 {a b : Nat} (ha : a < 256) (hb : b < 256) : a ||| b < 256 := Nat.or_lt_two_pow (n := 8) ha hb
theorem and_lt8 {a : Nat} (b : Nat) (ha : a < 256) : a &&& b < 256 := Nat.lt_of_le_of_lt Nat.and_le_left ha
theorem setK_zero {x t : Nat} : (setK x t == 0) = true ↔ ∀ k : Fin 8, kd (byt x k) ≠ t := by
  rw [beq_iff_eq]
  constructor
  · intro h k e
    have h1 := setK_bit x t k
    rw [h, e] at h1
    simp at h1
  · intro h
    refine mask_ext (setK_lt x t) (by decide) fun k => ?_
    rw [setK_bit]
    have := h k
    simp [this]
theorem rightC_iff {x : Nat} : rightC x = true ↔ ∀ k : Fin 8, kd (byt x k) ≠ 3 := setK_zero
theorem stopsC_iff {x : Nat} : stopsC x = true ↔ ∃ k : Fin 8, kd (byt x k) = 1 := by
  unfold stopsC
  constructor
  · intro h
    rcases Classical.em (∃ k : Fin 8, kd (byt x k) = 1) with h1 | h1
    · exact h1
    · rw [setK_zero.2 fun k e => h1 ⟨k, e⟩] at h
      cases h
  · rintro ⟨k, hk⟩
    cases hz : (setK x 1 == 0)
    · rfl
    · exact absurd hk (setK_zero.1 hz k)
theorem stopsC_not {x : Nat} : stopsC x = false ↔ ∀ k : Fin 8, kd (byt x k) ≠ 1 := by
  constructor
  · intro h k e
    rw [stopsC_iff.2 ⟨k, e⟩] at h
    cases h
  · intro h
    cases hz : stopsC x
    · rfl
    · obtain ⟨k, e⟩ := stopsC_iff.1 hz
      exact absurd e (h k)
theorem sets_all {x : Nat} (h : rightC x = true) : setK x 0 ||| setK x 1 ||| setK x 2 = 255 := by
  refine mask_ext (or_lt8 (or_lt8 (setK_lt x 0) (setK_lt x 1)) (setK_lt x 2)) (by decide) fun k => ?_
  rw [Nat.testBit_or, Nat.testBit_or, setK_bit, setK_bit, setK_bit, bit_255]
  have h3 := rightC_iff.1 h k
  have h4 := kd_lt (byt x k)
  have : kd (byt x k) = 0 ∨ kd (byt x k) = 1 ∨ kd (byt x k) = 2 := by omega
  rcases this with e | e | e <;> simp [e]
theorem sets_apart (x : Nat) {s t : Nat} (h : s ≠ t) : setK x s &&& setK x t = 0 := by
  refine mask_ext (and_lt8 _ (setK_lt x s)) (by decide) fun k => ?_
  rw [Nat.testBit_and, setK_bit, setK_bit, Nat.zero_testBit]
  by_cases e : kd (byt x k) = s
  · have : kd (byt x k) ≠ t := fun e2 => h (e.symm.trans e2)
    simp [this]
  · simp [e]
theorem right_set {x k b : Nat} (hb : b < 256) (hr : rightC x = true) (h3 : kd b ≠ 3) : rightC (setB x k b) = true := rightC_iff.2 fun j => by
  rw [byt_setB hb]
  split
  · exact h3
  · exact rightC_iff.1 hr j
theorem setK_set {x k b : Nat} (hb : b < 256) (t : Nat) (j : Fin 8) : (setK (setB x k b) t).testBit j = if (j : Nat) = k then kd b == t else kd (byt x j) == t := by
  rw [setK_bit, byt_setB hb]
  split <;> rfl
theorem fill_more {x k h : Nat} (hk : k < 8) (hh : h ≤ 127) : setK (setB x k h) 0 = setK x 0 ||| 2 ^ k := by
  refine mask_ext (setK_lt _ _) (or_lt8 (setK_lt x 0) (pow_lt_256 hk)) fun j => ?_
  rw [Nat.testBit_or, setK_set (by omega), setK_bit, bitPow ⟨k, hk⟩ j]
  by_cases e : (j : Nat) = k
  · have : j = ⟨k, hk⟩ := Fin.ext e
    have hz : kd h = 0 := by simp [kd, hh]
    simp [this, hz]
  · have : ¬ j = ⟨k, hk⟩ := fun e2 => e (by rw [e2])
    simp [e, this]
theorem fill_less {x k h : Nat} (hk : k < 8) (hh : h ≤ 127) : setK (setB x k h) 1 = setK x 1 &&& (255 - 2 ^ k) := by
  refine mask_ext (setK_lt _ _) (and_lt8 _ (setK_lt x 1)) fun j => ?_
  rw [Nat.testBit_and, setK_set (by omega), setK_bit, bit255 ⟨k, hk⟩ j]
  by_cases e : (j : Nat) = k
  · have : j = ⟨k, hk⟩ := Fin.ext e
    have hz : kd h = 0 := by simp [kd, hh]
    simp [this, hz]
  · have : ¬ j = ⟨k, hk⟩ := fun e2 => e (by rw [e2])
    simp [e, this]
def hasB (x h : Nat) : Nat := maskB fun k => byt x k == h
theorem hasB_lt (x h : Nat) : hasB x h < 256 := maskB_lt _
theorem hasB_bit (x h : Nat) (k : Fin 8) : (hasB x h).testBit k = (byt x k == h) := testBit_maskB _ k
theorem fill_has {x k h : Nat} (hk : k < 8) (hh : h ≤ 127) : hasB (setB x k h) h = hasB x h ||| 2 ^ k := by
  refine mask_ext (hasB_lt _ _) (or_lt8 (hasB_lt x h) (pow_lt_256 hk)) fun j => ?_
  rw [Nat.testBit_or, hasB_bit, hasB_bit, byt_setB (by omega), bitPow ⟨k, hk⟩ j]
  by_cases e : (j : Nat) = k
  · have : j = ⟨k, hk⟩ := Fin.ext e
    simp [this]
  · have : ¬ j = ⟨k, hk⟩ := fun e2 => e (by rw [e2])
    simp [e, this]
theorem erase_has {x k h b : Nat} (hh : h ≤ 127) (hb : b < 256) (hb2 : 127 < b) (hk0 : kd (byt x k) ≠ 0) : hasB (setB (setB x k h) k b) h = hasB x h := by
  refine mask_ext (hasB_lt _ _) (hasB_lt _ _) fun j => ?_
  rw [hasB_bit, hasB_bit, byt_setB hb, byt_setB (by omega)]
  by_cases e : (j : Nat) = k
  · rw [if_pos e, e]
    have h1 : byt x k ≠ h := fun e2 => hk0 (by rw [e2]; simp [kd, hh])
    have h2 : b ≠ h := by omega
    rw [beq_eq_false_iff_ne.2 h1, beq_eq_false_iff_ne.2 h2]
  · rw [if_neg e, if_neg e]
theorem erase_right {x : Nat} {k : Nat} (hr : rightC x = true) : rightC (eraseS x k) = true := by
  unfold eraseS
  split
  · exact right_set (by decide) hr (by decide)
  · exact right_set (by decide) hr (by decide)
theorem erase_stops {x k : Nat} (hk : k < 8) (h0 : kd (byt x k) = 0) : stopsC (eraseS x k) = stopsC x := by
  unfold eraseS
  rw [Int.toNat_natCast]
  cases hs : stopsC x
  · rw [if_neg (by decide)]
    refine stopsC_not.2 fun j => ?_
    rw [byt_setB (by decide)]
    split
    · decide
    · exact stopsC_not.1 hs j
  · rw [if_pos rfl]
    refine stopsC_iff.2 ⟨⟨k, hk⟩, ?_⟩
    rw [byt_setB_same (by decide)]
    rfl
theorem eraseE_cases (x : Nat) (lane : Int) : eraseE x lane = 110 ∨ eraseE x lane = 4 ∨ (eraseE x lane = 0 ∧ ∃ k : Nat, k < 8 ∧ lane = k ∧ kd (byt x k) = 0) := by
  unfold eraseE
  by_cases h : lane < 0 ∨ 8 ≤ lane
  · rw [if_pos h]; exact .inl rfl
  · rw [if_neg h]
    by_cases h2 : kd (byt x lane.toNat) = 0
    · rw [if_pos h2]
      exact .inr (.inr ⟨rfl, lane.toNat, by omega, by omega, h2⟩)
    · rw [if_neg h2]; exact .inr (.inl rfl)
theorem fillE_cases (x : Nat) (lane : Int) (h : Nat) : fillE x lane h = 110 ∨ fillE x lane h = 2 ∨ fillE x lane h = 5 ∨ (fillE x lane h = 0 ∧ ∃ k : Nat, k < 8 ∧ lane = k ∧ kd (byt x k) ≠ 0 ∧ h ≤ 127) := by
  unfold fillE
  by_cases h1 : lane < 0 ∨ 8 ≤ lane
  · rw [if_pos h1]; exact .inl rfl
  · rw [if_neg h1]
    by_cases h2 : 127 < h
    · rw [if_pos h2]; exact .inr (.inl rfl)
    · rw [if_neg h2]
      by_cases h3 : kd (byt x lane.toNat) = 0
      · rw [if_pos h3]; exact .inr (.inr (.inl rfl))
      · rw [if_neg h3]
        exact .inr (.inr (.inr ⟨rfl, lane.toNat, by omega, by omega, h3, by omega⟩))
theorem eraseS_lt {x k : Nat} (hx : x < 18446744073709551616) (hk : k < 8) : eraseS x k < 18446744073709551616 := by
  unfold eraseS
  rw [Int.toNat_natCast]
  split
  · exact setB_lt hx hk (by decide)
  · exact setB_lt hx hk (by decide)

/-- Rows of numbers that came in. -/
def RowI (k : IntKind) (W : World) (v : Value) (ws : List Int) : Prop := RowAt W v ws.length 1 (ws.map fun z => .int k z)
theorem RowI.below {k : IntKind} {W W' : World} {v : Value} {ws : List Int} (h : RowI k W v ws) (hB : Below W.heap.size W W') : RowI k W' v ws := RowAt.below h hB
theorem rowI_of {k : IntKind} {w : World} {a : Option Addr} {len cap : Nat} {zs : List Int} (h : IsRow k w a len cap zs) : len = (zs.take len).length ∧ RowI k w (.slice a len cap) (zs.take len) ∧ ∀ n ∈ zs.take len, (Lit.int k n).wf = true := by
  rcases h with ⟨rfl, rfl, rfl, rfl⟩ | ⟨x, rfl, h1, h2, h3, h4, h5⟩
  · exact ⟨rfl, ⟨rfl, none, 0, rfl, Nat.le_refl _, Nat.zero_le _, fun _ => rfl, fun j hj => by simp at hj⟩, fun n hn => by simp at hn⟩
  · have hl : (zs.take len).length = len := by rw [List.length_take]; omega
    refine ⟨hl.symm, ?_, fun n hn => h5 n (List.mem_of_mem_take hn)⟩
    unfold RowI
    rw [hl]
    refine ⟨by rw [List.length_map, hl]; omega, some x, cap, rfl, h1, h2, (fun e => by cases e), fun j hj => ?_⟩
    rw [List.length_map, hl] at hj
    obtain ⟨b, off, rfl, hb, hc⟩ := isRow_at h4 (by omega)
    refine ⟨b, off, rfl, hb, ?_⟩
    rw [hc j (by omega), List.getElem?_map, List.getElem?_take, if_pos hj, List.getElem?_eq_getElem (by omega)]
    rfl
theorem RowI.get {k : IntKind} {W : World} {x : Option Addr} {n cap : Nat} {l : List Int} (h : RowI k W (.slice x n cap) l) (j : Nat) (hj : j < l.length) :
    ∃ b off, x = some ⟨b, off, none⟩ ∧ b < W.heap.size ∧ W.cell? ⟨b, off + j, none⟩ = some (.int k (l[j]?.getD 0)) := by
  obtain ⟨_, a, cap', e, _, _, _, hc⟩ := h
  cases e
  obtain ⟨b, off, e1, e2, e3⟩ := hc j (by simpa using hj)
  refine ⟨b, off, e1, e2, ?_⟩
  rw [e3, List.getElem?_map, List.getElem?_eq_getElem hj]
  rfl
end Go.Proofs
