/- Ctrl: maths of words made ready, and filled; bytes that came in. -/
import Derived.Test.YtmjlaienklheiaaJo
namespace Go.Proofs
open Go.RowKit Go.Shelf

theorem ready_byt (x : Nat) (k : Fin 8) : byt (readyS x) k = if kd (byt x k) = 0 then 254 else 128 := by
  unfold readyS
  rw [byt_setAll (fun n => byt_lt _ _)]
  have h : (k ∈ lanesOf (setK x 0)) ↔ kd (byt x k) = 0 := by
    rw [mem_lanesOf, setK_bit, beq_iff_eq]
  by_cases e : kd (byt x k) = 0
  · rw [if_pos (h.2 e), if_pos e, byt_ofB (fun _ => by decide) k.2]
  · rw [if_neg fun h2 => e (h.1 h2), if_neg e, byt_ofB (fun _ => by decide) k.2]
theorem ready_lt (x : Nat) : readyS x < 18446744073709551616 := setAll_lt (fun n => byt_lt _ _) (ofB_lt fun _ => by decide) _
theorem ready_kd (x : Nat) (k : Fin 8) : kd (byt (readyS x) k) = if kd (byt x k) = 0 then 2 else 1 := by
  rw [ready_byt]
  split <;> rfl
theorem ready_right (x : Nat) : rightC (readyS x) = true := rightC_iff.2 fun k => by
  rw [ready_kd]
  split <;> decide
theorem ready_full (x : Nat) : setK (readyS x) 0 = 0 := mask_ext (setK_lt _ _) (by decide) fun k => by
  rw [setK_bit, ready_kd, Nat.zero_testBit]
  split <;> rfl
theorem ready_del (x : Nat) : setK (readyS x) 2 = setK x 0 := mask_ext (setK_lt _ _) (setK_lt _ _) fun k => by
  rw [setK_bit, setK_bit, ready_kd]
  split
  · rename_i h; rw [h]; rfl
  · rename_i h; simp [h]
theorem bit_not {a : Nat} (ha : a < 256) (k : Fin 8) : (255 - a).testBit k = !(a.testBit k) := by
  rw [show 255 - a = 2 ^ 8 - (a + 1) by omega, Nat.testBit_two_pow_sub_succ (by omega)]
  simp
theorem xor_255 {a : Nat} (ha : a < 256) : bits .xor .u8 255 (a : Int) = ((255 - a : Nat) : Int) := by
  have h := u8_xor_nat 255 a (by decide) ha
  have e : 255 ^^^ a = 255 - a := mask_ext (Nat.xor_lt_two_pow (n := 8) (by decide) ha) (by omega) fun k => by
    rw [Nat.testBit_xor, bit_255, bit_not ha]
    cases a.testBit k <;> rfl
  rw [e] at h
  exact h
theorem ready_empty (x : Nat) : setK (readyS x) 1 = 255 - setK x 0 := mask_ext (setK_lt _ _) (by omega) fun k => by
  rw [setK_bit, ready_kd, bit_not (setK_lt x 0), setK_bit]
  split
  · rename_i h; rw [h]; rfl
  · rename_i h; simp [h]
theorem ready_fr (x : Nat) : ∀ y, y ≤ 8 → frTo (readyS x) y = List.range y
  | 0, _ => rfl
  | y + 1, h => by
    have h2 : (kd (byt (readyS x) y) == 0) = false := by
      have := ready_kd x ⟨y, by omega⟩
      simp only at this
      rw [this]
      split <;> rfl
    rw [frTo_yes h2, ready_fr x y (by omega), List.range_succ]
theorem lay_range (r : Nat) (hs : List Nat) (hh : ∀ u ∈ hs, u < 256) : ∀ n, n ≤ hs.length → ∀ k, byt (layTo r (List.range n) hs) k = if k < n then hs[k]?.getD 0 else byt r k
  | 0, _, k => by simp [layTo]
  | n + 1, h, k => by
    have hb : hs[n]?.getD 0 < 256 := by
      rw [List.getElem?_eq_getElem (by omega)]
      exact hh _ (List.getElem_mem _)
    rw [List.range_succ, layTo_snoc n _ hs r (by rw [List.length_range]; omega), List.length_range, byt_setB hb, lay_range r hs hh n (by omega) k]
    by_cases e : k = n
    · subst e; simp
    · rw [if_neg e]
      by_cases e2 : k < n
      · rw [if_pos e2, if_pos (by omega)]
      · rw [if_neg e2, if_neg (by omega)]
theorem ready_fills {x : Nat} {hs : List Nat} (hl : hs.length ≤ 8) (hh : ∀ u ∈ hs, u ≤ 127) : fillsE (readyS x) hs = 0 ∧ fillsL (readyS x) hs = List.range hs.length ∧ setK (fillsS (readyS x) hs) 0 = 2 ^ hs.length - 1 ∧ rightC (fillsS (readyS x) hs) = true := by
  have hS : fillsS (readyS x) hs = layTo (readyS x) (List.range hs.length) hs := by
    unfold fillsS
    rw [ready_fr x 8 (Nat.le_refl _), show (8 : Nat) = hs.length + (8 - hs.length) by omega, List.range_add]
    exact layTo_more _ _ _ _ (by simp)
  have hb := lay_range (readyS x) hs (fun u hu => by have := hh u hu; omega) hs.length (Nat.le_refl _)
  have hk : ∀ k : Fin 8, kd (byt (fillsS (readyS x) hs) k) = if (k : Nat) < hs.length then 0 else kd (byt (readyS x) k) := fun k => by
    rw [hS, hb]
    by_cases e : (k : Nat) < hs.length
    · rw [if_pos e, if_pos e, List.getElem?_eq_getElem e]
      have := hh _ (List.getElem_mem e)
      simp [kd, this]
    · rw [if_neg e, if_neg e]
  refine ⟨if_pos ⟨by rw [ready_fr x 8 (Nat.le_refl _), List.length_range]; exact hl, hh⟩, ?_, mask_ext (setK_lt _ _) ?_ fun k => ?_, rightC_iff.2 fun k => ?_⟩
  · unfold fillsL
    rw [ready_fr x 8 (Nat.le_refl _), List.take_range, Nat.min_eq_left hl]
  · have : 2 ^ hs.length ≤ 2 ^ 8 := Nat.pow_le_pow_right (by decide) hl
    omega
  · rw [setK_bit, hk, Nat.testBit_two_pow_sub_one, ready_kd]
    by_cases e : (k : Nat) < hs.length
    · simp [e]
    · rw [if_neg e]
      split <;> simp [e]
  · rw [hk]
    split
    · decide
    · rw [ready_kd]
      split <;> decide
theorem ready_bad {x : Nat} {hs : List Nat} (hh : ¬ ∀ u ∈ hs, u ≤ 127) : fillsE (readyS x) hs = 2 := if_neg fun h => hh h.2

/-- Bytes that came in, as numbers. -/
theorem rowI_nat {W : World} {v : Value} {l : List Int} (_ : RowI .u8 W v l) (hw : ∀ n ∈ l, (Lit.int .u8 n).wf = true) : ∃ bs : List Nat, l = bs.map (fun (b : Nat) => (b : Int)) ∧ bs.length = l.length ∧ ∀ u ∈ bs, u < 256 := by
  refine ⟨l.map Int.toNat, ?_, by rw [List.length_map], fun u hu => ?_⟩
  · rw [List.map_map]
    refine (List.map_id _).symm.trans (List.map_congr_left fun z hz => ?_)
    have := bounds_u8 (hw z hz)
    simp only [id, Function.comp]
    omega
  · obtain ⟨z, hz, rfl⟩ := List.mem_map.1 hu
    have := bounds_u8 (hw z hz)
    omega
theorem rowI_ba {W : World} {v : Value} {bs : List Nat} (h : RowI .u8 W v (bs.map fun (b : Nat) => (b : Int))) : BA W W.heap.size v bs := by
  obtain ⟨_, a, c, rfl, h1, h2, h3, h4⟩ := h
  rw [List.length_map] at h1
  refine ⟨a, c, by rw [List.length_map], h1, fun i hi => ?_⟩
  obtain ⟨b, off, e1, e2, e3⟩ := h4 i (by simpa using hi)
  refine ⟨b, off, e1, e2, ?_⟩
  rw [e3, List.getElem?_map, List.getElem?_map, List.getElem?_eq_getElem hi]
  rfl
theorem rowI_cut {k : IntKind} {W : World} {a : Option Addr} {n c : Nat} {l : List Int} (hn : n = l.length) (h : RowI k W (.slice a n c) l) (m : Nat) (hm : m ≤ n) : RowI k W (.slice a m c) (l.take m) := by
  unfold RowI at h ⊢
  rw [← hn] at h
  have := h.cut m hm
  rw [Nat.mul_one, ← List.map_take] at this
  rw [List.length_take, Nat.min_eq_left (by omega)]
  exact this
end Go.Proofs
