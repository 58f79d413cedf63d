/- A store, swaps elsewhere, a load: what the load tells. -/
import Derived.Test.YtafccppobhhelaaDh
namespace Go.Proofs

theorem runTo_seens2 (ws : List Int) (l : List Acc) (k n : Nat) (hk : k < n) (hn : n ≤ l.length) : (runTo ws l n).seens[k]? = (runTo ws l (k + 1)).seens[k]? := by
  induction n with
  | zero => omega
  | succ n ih =>
    by_cases h : k = n
    · subst h; rfl
    · rw [← ih (by omega) (by omega), runTo_succ ws l n (by omega)]
      have := (runTo_lens ws l n (by omega)).2.1
      show ((runTo ws l n).seens ++ [_])[k]? = _
      rw [List.getElem?_append_left (by omega)]
theorem runTo_seen2 (ws : List Int) (l : List Acc) (k : Nat) (hk : k < l.length) (a : Acc) (ha : l[k] = a) :
    (runTo ws l l.length).seens[k]? = some ((runTo ws l k).ws[a.pl.toNat]?.getD 0, doneOf a.kind a.old ((runTo ws l k).ws[a.pl.toNat]?.getD 0)) := by
  rw [runTo_seens2 ws l k l.length hk (Nat.le_refl _), runTo_succ ws l k hk, ha]
  have := (runTo_lens ws l k (by omega)).2.1
  show ((runTo ws l k).seens ++ [_])[k]? = _
  rw [List.getElem?_append_right (by omega), this, Nat.sub_self]
  rfl
def swOf (q : Nat) (a : Acc) : Acc := ⟨a.who, 3, (q : Nat), 0, a.new⟩
def storeTo (p q : Nat) (t : Int) (l : List Acc) : List Acc := ⟨0, 2, (p : Nat), 0, t⟩ :: (if q = p then [] else l.map (swOf q))
theorem storeTo_same {p q : Nat} (h : q = p) (t : Int) (l : List Acc) (a : Acc) : storeTo p q t (l ++ [a]) = storeTo p q t l := by simp [storeTo, h]
theorem storeTo_more {p q : Nat} (h : ¬ q = p) (t : Int) (l : List Acc) (a : Acc) : storeTo p q t (l ++ [a]) = storeTo p q t l ++ [swOf q a] := by simp [storeTo, h]
theorem storeTo_length (p q : Nat) (t : Int) (l : List Acc) : 1 ≤ (storeTo p q t l).length ∧ (storeTo p q t l).length ≤ l.length + 1 := by
  unfold storeTo
  split <;> simp
theorem storeTo_keeps {p q n : Nat} {t : Int} {l : List Acc} (h : Adds p l) (hp : p < n) (hq : q < n) : Keeps p n t (storeTo p q t l ++ [⟨0, 1, (p : Nat), 0, 0⟩]) := by
  refine ⟨rfl, fun i a hi ha => ?_⟩
  have hmem : a ∈ (if q = p then [] else l.map (swOf q)) ++ [(⟨0, 1, (p : Nat), 0, 0⟩ : Acc)] := by
    have h1 : (storeTo p q t l ++ [(⟨0, 1, (p : Nat), 0, 0⟩ : Acc)]) = ⟨0, 2, (p : Nat), 0, t⟩ :: ((if q = p then [] else l.map (swOf q)) ++ [(⟨0, 1, (p : Nat), 0, 0⟩ : Acc)]) := rfl
    rw [h1] at ha
    obtain ⟨j, rfl⟩ : ∃ j, i = j + 1 := ⟨i - 1, by omega⟩
    rw [List.getElem?_cons_succ] at ha
    exact List.mem_of_getElem? ha
  rcases List.mem_append.1 hmem with hm | hm
  · by_cases hqp : q = p
    · rw [if_pos hqp] at hm
      cases hm
    · rw [if_neg hqp] at hm
      obtain ⟨b, hb, rfl⟩ := List.mem_map.1 hm
      obtain ⟨_, _, e3, e4, _⟩ := h.each b hb
      refine ⟨.inl rfl, fun _ => ?_, ?_, ?_, e3, e4⟩
      · show ((q : Nat) : Int) ≠ (p : Int); omega
      · show (0 : Int) ≤ ((q : Nat) : Int); omega
      · show ((q : Nat) : Int) < (n : Int); omega
  · rw [List.mem_singleton] at hm
    subst hm
    refine ⟨.inr rfl, fun h9 => absurd (show (1 : Int) = 3 from h9) (by decide), ?_, ?_, show (0 : Int) ≤ 0 by decide, show (0 : Int) < 8 by decide⟩
    · show (0 : Int) ≤ ((p : Nat) : Int); omega
    · show ((p : Nat) : Int) < (n : Int); omega
theorem storeTo_last {p q : Nat} {t : Int} {l : List Acc} {ws : List Int} (h : Adds p l) (hp : p < ws.length) (hq : q < ws.length) (L : List Acc) (hL : L = storeTo p q t l ++ [⟨0, 1, (p : Nat), 0, 0⟩]) :
    (runTo ws L L.length).seens[L.length - 1]?.map Prod.fst = some t := by
  have hk := storeTo_keeps (t := t) h hp hq
  rw [← hL] at hk
  have h2 := storeTo_length p q t l
  have hl : L.length = (storeTo p q t l).length + 1 := by rw [hL]; simp
  have hi : L.length - 1 < L.length := by omega
  have hg : L[L.length - 1] = ⟨0, 1, (p : Nat), 0, 0⟩ := by
    have e : L[L.length - 1]? = some ⟨0, 1, (p : Nat), 0, 0⟩ := by
      rw [hl, Nat.add_sub_cancel, hL, List.getElem?_append_right (Nat.le_refl _), Nat.sub_self]
      rfl
    rw [List.getElem?_eq_getElem hi] at e
    exact Option.some.inj e
  rw [runTo_seen2 ws L (L.length - 1) hi _ hg]
  have h3 := (hk.run hp (L.length - 1) (by omega) (by omega)).1
  show some ((runTo ws L (L.length - 1)).ws[((p : Nat) : Int).toNat]?.getD 0) = some t
  rw [Int.toNat_natCast, h3]
end Go.Proofs
