/- Words that the call owns: sorted, made one of each; the sums over a map that counts. -/
import Derived.Test.YtobomgedghbflaaVp
import Derived.Test.YtobomgedghbflaaVy
import Derived.Test.YtobomgedghbflaaHl
namespace Go.Proofs
open Go.RowKit Go.Shelf Go.Deep
attribute [local go_sem] Oper.semAt_some

theorem own_cases {n₀ n c : Nat} {a : Option Addr} {ws : List Int} {W : World} (hO : OwnsWords n₀ ws (.slice a n c) W) :
    n = ws.length ∧ ((a = none ∧ n = 0 ∧ c = 0) ∨ ∃ g, a = some ⟨g, 0, none⟩ ∧ n₀ ≤ g ∧ SRow W g c ws.toArray ∧ c ≤ maxLen) := by
  rcases hO.2 with ⟨h, h0⟩ | ⟨g, cap, cur, hv, hg, hh, hl, hm, hs, ht⟩
  · injection h with h1 h2 h3
    exact ⟨by omega, .inl ⟨h1, h2, h3⟩⟩
  · injection hv with hv1 hv2 hv3
    subst hv1 hv2 hv3
    refine ⟨rfl, .inr ⟨g, rfl, hg, ⟨cur, hh, by omega, by simpa using hl, fun i hi => ?_⟩, hm⟩⟩
    have hi : i < ws.length := by simpa using hi
    have h1 : (cur.toList.take (ws.length * 1))[i]? = cur[i]? := by
      rw [List.getElem?_take_of_lt (by omega), Array.getElem?_toList]
    rw [← h1, ht]
    simp [wordVals, hi]
theorem own_of {n₀ g c : Nat} {ws : List Int} {W : World} (h : SRow W g c ws.toArray) (hg : n₀ ≤ g) (hm : c ≤ maxLen) : OwnsWords n₀ ws (.slice (some ⟨g, 0, none⟩) ws.length c) W := by
  obtain ⟨cs, hR, h1, h2, h3⟩ := h
  refine ⟨by simp [wordVals], .inr ⟨g, c, cs, rfl, hg, hR, by simpa using h2, hm, by omega, ?_⟩⟩
  apply List.ext_getElem?
  intro i
  by_cases hi : i < ws.length
  · rw [List.getElem?_take_of_lt (by omega), Array.getElem?_toList, h3 i (by simpa using hi)]
    simp [wordVals, hi]
  · rw [List.getElem?_eq_none (by simp; omega), List.getElem?_eq_none (by simp [wordVals]; omega)]
theorem below_of_grown {n₀ g : Nat} {w w' : World} (h : w.grownBy w' (some g)) (hg : n₀ ≤ g) (hl : n₀ ≤ w.heap.size) : Below n₀ w w' :=
  ⟨h.os, h.tape, h.output, h.size, fun k hk => h.block k (by omega) (fun e => by injection e with e; omega)⟩
theorem Try.sortOwn (n₀ : Nat) (a : Option Addr) (n c : Nat) (ws : List Int) (h30 : n ≤ 30) (w : World) (hl : n₀ ≤ w.heap.size) (hO : OwnsWords n₀ ws (.slice a n c) w) :
    Calls Try.prog 6 #[.slice a n c] w fun e w' => e = .returned (.tuple #[]) ∧ OwnsWords n₀ (sortW ws) (.slice a n c) w' ∧ Below n₀ w w' := by
  obtain ⟨hn, h | ⟨g, rfl, hg, hS, hm⟩⟩ := own_cases hO
  · obtain ⟨rfl, rfl, rfl⟩ := h
    have : ws = [] := List.eq_nil_of_length_eq_zero hn.symm
    subst this
    refine (Try.sort_none none 0 w).mono ?_
    rintro e w' ⟨rfl, rfl⟩
    exact ⟨rfl, by rw [show sortW [] = [] by simp [sortW]]; exact hO, Below.refl _ _⟩
  · refine (Try.sortOk30 g c n c ws hn h30 w hS).mono ?_
    rintro e w' ⟨rfl, hS', hG⟩
    refine ⟨rfl, ?_, below_of_grown hG hg hl⟩
    have h := own_of hS' hg hm
    rw [sortW_length, ← hn] at h
    exact h
theorem toldFrom_snoc (x : Int) : ∀ (l : List Int) (p : Option Int), toldFrom p (l ++ [x]) = toldFrom p l ++ (if (l.getLast?).or p = some x then [] else [x])
  | [], p => by
    by_cases h : p = some x <;> simp [toldFrom, h]
  | y :: t, p => by
    have hl : ((y :: t).getLast?).or p = (t.getLast?).or (some y) := by
      cases t with
      | nil => simp
      | cons z s => simp [List.getLast?_cons]
    rw [hl, List.cons_append]
    unfold toldFrom
    split
    · rename_i e
      rw [toldFrom_snoc x t p, e]
    · rw [toldFrom_snoc x t (some y), List.cons_append]
theorem compact_told (l : List Int) : ∀ m, m ≤ l.length → Lib.compactUpTo l.toArray m = toldFrom none (l.take m) := by
  intro m
  induction m with
  | zero => intro _; simp [Lib.compactUpTo, toldFrom]
  | succ m ih =>
    intro h
    have e : l.take (m + 1) = l.take m ++ [l[m]] := by rw [List.take_add_one, List.getElem?_eq_getElem (by omega)]; rfl
    rw [Lib.compactUpTo_succ, ih (by omega), e, toldFrom_snoc]
    congr 1
    have hm1 : l.toArray[m]! = l[m] := by rw [getElem!_pos _ _ (by simp; omega)]; simp
    unfold Lib.keeps
    rw [hm1]
    cases m with
    | zero => simp
    | succ k =>
      have hm2 : l.toArray[k + 1 - 1]! = l[k] := by rw [getElem!_pos _ _ (by simp; omega)]; simp
      have hlast : (l.take (k + 1)).getLast? = some l[k] := by
        rw [List.take_add_one, List.getElem?_eq_getElem (by omega)]
        exact List.getLast?_concat
      rw [hm2, hlast]
      by_cases hx : l[k] = l[k + 1]
      · simp [hx]
      · simp [hx, Ne.symm hx]
theorem grown_putRow (enc : Int → Value) (w : World) (q g : Nat) (d : Array Int) : w.grownBy (Sort.putRow enc (Sort.ahead w q) g 0 d) (some g) := by
  refine ⟨rfl, rfl, rfl, by simp [Sort.putRow, Sort.ahead, Sort.mapBlock], fun k hk hne => ?_⟩
  have : g ≠ k := fun e => hne (by rw [e])
  simp [Sort.putRow, Sort.ahead, Sort.mapBlock, Array.getElem?_modify, this]
set_option maxRecDepth 100000 in
theorem Try.compact_none (x : Option Addr) (cp : Nat) (w : World) :
    Calls Try.prog 7 #[.slice x 0 cp] w fun e w' => e = .returned (.slice x 0 cp) ∧ w = w' := by
  go_enter Try.func7, Try.ntmps7
  go_wp2_with fail
  go_ret
  exact ⟨rfl, rfl⟩
set_option maxRecDepth 100000 in
theorem Try.compactOwn (n₀ : Nat) (a : Option Addr) (n c : Nat) (ks : List Int) (h30 : n ≤ 30) (w : World) (hl : n₀ ≤ w.heap.size) (hO : OwnsWords n₀ (sortW ks) (.slice a n c) w) :
    Calls Try.prog 7 #[.slice a n c] w fun e w' => (∃ a' c', e = .returned (.slice a' (onceW ks).length c')) ∧ Below n₀ w w' := by
  obtain ⟨hn, h | ⟨g, rfl, hg, hS, hm⟩⟩ := own_cases hO
  · obtain ⟨rfl, rfl, rfl⟩ := h
    have h0 : sortW ks = [] := List.eq_nil_of_length_eq_zero hn.symm
    have h1 : (onceW ks).length = 0 := by unfold onceW; rw [h0]; rfl
    rw [h1]
    refine (Try.compact_none none 0 w).mono ?_
    rintro e w' ⟨rfl, rfl⟩
    exact ⟨⟨none, 0, rfl⟩, Below.refl _ _⟩
  · have hsz : (sortW ks).toArray.size = n := by simpa using hn.symm
    have hH : Sort.Holds (Value.int .u64) w g 0 (sortW ks).toArray := fun j hj => by
      rw [Nat.zero_add]; exact ⟨hS.cell j hj, hS.frozen j⟩
    obtain ⟨cs, _, _, hc2, _⟩ := hS
    have h := Try.compact g 0 c (sortW ks).toArray w hH (by omega) hc2
    rw [hsz] at h
    refine h.mono ?_
    rintro e w' ⟨rfl, q, rfl⟩
    refine ⟨⟨some ⟨g, 0, none⟩, c, ?_⟩, below_of_grown (grown_putRow _ _ _ _ _) hg hl⟩
    rw [hn, compact_told (sortW ks) _ (Nat.le_refl _), List.take_length]
    rfl
theorem filter_add {f g : Nat → Bool} {x : Nat} (hf : f x = false) (hg : ∀ y, g y = (f y || y == x)) (l : List Nat) : (l.filter g).length = (l.filter f).length + l.count x := by
  induction l with
  | nil => rfl
  | cons y t ih =>
    by_cases e : y = x
    · subst e
      have h1 : g y = true := by rw [hg]; simp
      rw [List.filter_cons_of_pos h1, List.filter_cons_of_neg (by simp [hf]), List.count_cons_self]
      simp only [List.length_cons]
      omega
    · have h1 : g y = f y := by rw [hg]; simp [e]
      rw [List.count_cons_of_ne e]
      cases hy : f y
      · rw [List.filter_cons_of_neg (by simp [h1, hy]), List.filter_cons_of_neg (by simp [hy])]; exact ih
      · rw [List.filter_cons_of_pos (by rw [h1, hy]), List.filter_cons_of_pos hy]
        simp only [List.length_cons]
        omega
theorem over_most {ps : List Nat} {many : Int} {M : Nat} (hm : 1 ≤ many) (h1 : ∀ p ∈ ps, ps.count p ≤ M) (h2 : M = 0 ∨ ∃ p ∈ ps, ps.count p = M) : decide (many < (M : Int)) = overB ps many := by
  unfold overB
  cases ho : ps.any fun p => decide (many < (ps.count p : Int)) with
  | true =>
    rw [List.any_eq_true] at ho
    obtain ⟨p, hp, h⟩ := ho
    have := h1 p hp
    simp only [decide_eq_true_eq] at h ⊢
    omega
  | false =>
    rw [List.any_eq_false] at ho
    rcases h2 with rfl | ⟨p, hp, rfl⟩
    · simp; omega
    · have := ho p hp
      simp only [decide_eq_true_eq] at this
      simp; omega
/-- A row of words, all of them in range. -/
def WordsK (W : World) (v : Value) (ws : List Int) : Prop := WordsAt W v ws ∧ KeysOk ws
theorem u64_range {z : Int} (h : (Lit.int .u64 z).wf = true) : 0 ≤ z ∧ z < 18446744073709551616 := by
  have : 0 ≤ z ∧ z ≤ 18446744073709551615 := by simpa [Lit.wf, IntKind.min, IntKind.max, IntKind.bits, IntKind.signed] using h
  omega
theorem u64_nat {z : Int} (h : (Lit.int .u64 z).wf = true) : ∃ n : Nat, z = (n : Int) ∧ n < 18446744073709551616 := by
  have := u64_range h
  exact ⟨z.toNat, by omega, by omega⟩
set_option maxRecDepth 100000 in
theorem open_wordsK {H : Type} {enc : TypeId × Value → H} {W : World} {base : Nat} {sp : Nat → Bool} {held : Bool} {fuel : Nat} {a : Option Addr} {len cap : Nat} {x : DataW H × List MemPlace}
    (h : DataW.trod enc Try.prog W base sp held fuel 23 [.slice a len cap] = some x) : ∃ l : List Int, len = l.length ∧ WordsK W (.slice a len cap) l := by
  obtain ⟨l, hl, hw⟩ := open_words h
  refine ⟨l, hl, hw, ?_⟩
  rcases open_slice Try.underlying23 h with ⟨hcs, _⟩ | ⟨ad, len', cap', m, n, D, Pl, hcs, hb, hl', hm, hmm, _, hx⟩
  · simp at hcs
    obtain ⟨rfl, rfl, rfl⟩ := hcs
    intro k hk
    rw [List.eq_nil_of_length_eq_zero hl.symm] at hk
    cases hk
  · simp at hcs
    obtain ⟨rfl, rfl, rfl⟩ := hcs
    have hlm : len ≤ m := by rw [hmm]; split <;> omega
    intro k hk
    obtain ⟨j, hj, rfl⟩ := List.mem_iff_getElem.1 hk
    obtain ⟨cs', h1, h2⟩ := hx j (by omega)
    rw [cellsU] at h1
    obtain ⟨_, hlen, hcell⟩ := World.cells?_some h1
    obtain ⟨z, rfl, _, hz⟩ := DataW.trod_int Try.underlying22 h2
    have e := hcell 0 (by omega)
    rw [add_add] at e
    obtain ⟨b, off, ea, hbl, hc⟩ := wordsAt_get hw j hj
    injection ea with ea
    subst ea
    have hadd : (⟨b, off, none⟩ : Addr).add j = ⟨b, off + j, none⟩ := by unfold Addr.add; split <;> simp_all
    simp [hadd] at e
    rw [hc] at e
    simp [hj] at e
    rw [e]
    exact u64_range hz
end Go.Proofs
