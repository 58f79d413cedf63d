/- Turns, waits, laps: the maths. -/
import Derived.Test.YtmkpjpdjjdmklaaKc
namespace Go.Proofs

structure Tn where
  can : List Int
  ch : Int
deriving DecidableEq
instance : Inhabited Tn := ⟨⟨[], 0⟩⟩
/-- Who could step, and was not chosen. -/
def starveB (g : Int) (t : Tn) : Bool := t.ch != g && decide (g ∈ t.can)
def rightT (N : Int) (t : Tn) : Bool := canB N t.can && decide (t.ch ∈ t.can)
def rightB (N : Int) (ts : List Tn) : Bool := decide (1 ≤ N ∧ N ≤ 8) && ts.all (rightT N)
def stepW (g : Int) (s : Nat × Nat) (t : Tn) : Nat × Nat := if starveB g t = true then (max s.1 (s.2 + 1), s.2 + 1) else (s.1, 0)
def runW (g : Int) (ts : List Tn) : Nat × Nat := ts.foldl (stepW g) (0, 0)
/-- The longest wait, and the wait behind all. -/
def lonB (g : Int) (ts : List Tn) : Nat := (runW g ts).1
def waitB (g : Int) (ts : List Tn) : Nat := (runW g ts).2
theorem runW_snoc (g : Int) (ts : List Tn) (t : Tn) : runW g (ts ++ [t]) = stepW g (runW g ts) t := by
  unfold runW; rw [List.foldl_append]; rfl
theorem take_snoc {α : Type} (l : List α) (k : Nat) (h : k < l.length) : l.take (k + 1) = l.take k ++ [l[k]] := by
  rw [List.take_succ_eq_append_getElem h]
theorem runW_take (g : Int) (ts : List Tn) (k : Nat) (h : k < ts.length) : runW g (ts.take (k + 1)) = stepW g (runW g (ts.take k)) ts[k] := by
  rw [take_snoc ts k h, runW_snoc]
theorem waitB_yes {g : Int} {ts : List Tn} {t : Tn} (h : starveB g t = true) : waitB g (ts ++ [t]) = waitB g ts + 1 := by
  unfold waitB; rw [runW_snoc, stepW, if_pos h]
theorem waitB_no {g : Int} {ts : List Tn} {t : Tn} (h : starveB g t = false) : waitB g (ts ++ [t]) = 0 := by
  unfold waitB; rw [runW_snoc, stepW, if_neg (by rw [h]; decide)]
theorem lonB_yes {g : Int} {ts : List Tn} {t : Tn} (h : starveB g t = true) : lonB g (ts ++ [t]) = max (lonB g ts) (waitB g ts + 1) := by
  unfold lonB waitB; rw [runW_snoc, stepW, if_pos h]
theorem lonB_no {g : Int} {ts : List Tn} {t : Tn} (h : starveB g t = false) : lonB g (ts ++ [t]) = lonB g ts := by
  unfold lonB; rw [runW_snoc, stepW, if_neg (by rw [h]; decide)]
theorem snoc_ind {α : Type} {P : List α → Prop} (h0 : P []) (h1 : ∀ l x, P l → P (l ++ [x])) (l : List α) : P l := by
  have h : ∀ n (l : List α), l.length = n → P l := by
    intro n
    induction n with
    | zero => intro l h; obtain rfl := List.eq_nil_of_length_eq_zero h; exact h0
    | succ n ih =>
      intro l h
      have hne : l ≠ [] := by intro e; subst e; simp at h
      rw [← List.dropLast_concat_getLast hne]
      exact h1 _ _ (ih _ (by rw [List.length_dropLast]; omega))
  exact h _ l rfl
theorem waitB_le (g : Int) (ts : List Tn) : waitB g ts ≤ ts.length ∧ waitB g ts ≤ lonB g ts ∧ lonB g ts ≤ ts.length := by
  refine snoc_ind (P := fun ts => waitB g ts ≤ ts.length ∧ waitB g ts ≤ lonB g ts ∧ lonB g ts ≤ ts.length) (by simp [waitB, lonB, runW]) (fun l t ih => ?_) ts
  cases h : starveB g t with
  | true => rw [waitB_yes h, lonB_yes h]; simp; omega
  | false => rw [waitB_no h, lonB_no h]; simp; omega
/-- The wait from the last one back. -/
theorem waitB_rev (g : Int) (ts : List Tn) : waitB g ts = (ts.reverse.takeWhile (starveB g)).length := by
  refine snoc_ind (P := fun ts => waitB g ts = (ts.reverse.takeWhile (starveB g)).length) (by simp [waitB, runW]) (fun l t ih => ?_) ts
  rw [List.reverse_append]
  cases h : starveB g t with
  | true => rw [waitB_yes h]; simp [h, ih]
  | false => rw [waitB_no h]; simp [h]
theorem lonB_iff (g : Int) (ts : List Tn) (w : Nat) (hw : 1 ≤ w) : w ≤ lonB g ts ↔ ∃ i, i ≤ ts.length ∧ w ≤ waitB g (ts.take i) := by
  refine snoc_ind (P := fun ts => w ≤ lonB g ts ↔ ∃ i, i ≤ ts.length ∧ w ≤ waitB g (ts.take i)) ?_ (fun l t ih => ?_) ts
  · simp [lonB, waitB, runW]
  · have key : (∃ i, i ≤ (l ++ [t]).length ∧ w ≤ waitB g ((l ++ [t]).take i)) ↔ (∃ i, i ≤ l.length ∧ w ≤ waitB g (l.take i)) ∨ w ≤ waitB g (l ++ [t]) := by
      constructor
      · rintro ⟨i, hi, h⟩
        by_cases e : i ≤ l.length
        · exact .inl ⟨i, e, by rwa [List.take_append_of_le_length e] at h⟩
        · simp at hi
          exact .inr (by rwa [List.take_of_length_le (by simp; omega)] at h)
      · rintro (⟨i, hi, h⟩ | h)
        · exact ⟨i, by simp; omega, by rwa [List.take_append_of_le_length hi]⟩
        · exact ⟨(l ++ [t]).length, Nat.le_refl _, by rwa [List.take_of_length_le (Nat.le_refl _)]⟩
    rw [key, ← ih]
    cases h : starveB g t with
    | true =>
      rw [waitB_yes h, lonB_yes h]
      have := waitB_le g l
      omega
    | false =>
      rw [waitB_no h, lonB_no h]
      omega
def goers (n : Nat) : List Int := (List.range n).map fun k : Nat => (k : Int)
/-- Who is hungry by w. -/
def hungryB (n : Nat) (ts : List Tn) (w : Int) : List Int := (goers n).filter fun g => decide (1 ≤ w ∧ w ≤ (lonB g ts : Int))
def maxB (f : Int → Nat) (n : Nat) : Nat := (goers n).foldl (fun m g => max m (f g)) 0
theorem goers_succ (n : Nat) : goers (n + 1) = goers n ++ [(n : Int)] := by simp [goers, List.range_succ]
theorem goers_length (n : Nat) : (goers n).length = n := by simp [goers]
theorem mem_goers {n : Nat} {g : Int} : g ∈ goers n ↔ 0 ≤ g ∧ g < n := by
  unfold goers
  rw [List.mem_map]
  constructor
  · rintro ⟨k, hk, rfl⟩
    rw [List.mem_range] at hk
    omega
  · rintro ⟨h1, h2⟩
    exact ⟨g.toNat, by rw [List.mem_range]; omega, by omega⟩
theorem maxB_succ (f : Int → Nat) (n : Nat) : maxB f (n + 1) = max (maxB f n) (f n) := by
  unfold maxB; rw [goers_succ, List.foldl_append]; rfl
theorem maxB_le (f : Int → Nat) (n m : Nat) : maxB f n ≤ m ↔ ∀ k : Nat, k < n → f k ≤ m := by
  induction n with
  | zero => simp [maxB, goers]
  | succ n ih =>
    rw [maxB_succ]
    constructor
    · intro h k hk
      by_cases e : k < n
      · exact ih.1 (by omega) k e
      · obtain rfl : k = n := by omega
        omega
    · intro h
      have := ih.2 (fun k hk => h k (by omega))
      have := h n (by omega)
      omega
theorem maxB_ge (f : Int → Nat) (n m : Nat) (hm : 1 ≤ m) : m ≤ maxB f n ↔ ∃ k : Nat, k < n ∧ m ≤ f k := by
  have h := maxB_le f n (m - 1)
  constructor
  · intro h1
    refine Classical.byContradiction fun h2 => ?_
    have := h.2 (fun k hk => by
      refine Classical.byContradiction fun h3 => h2 ⟨k, hk, by omega⟩)
    omega
  · rintro ⟨k, hk, h1⟩
    refine Classical.byContradiction fun h2 => ?_
    have := h.1 (by omega) k hk
    omega
theorem hungryB_succ (n : Nat) (ts : List Tn) (w : Int) : hungryB (n + 1) ts w = if 1 ≤ w ∧ w ≤ (lonB n ts : Int) then hungryB n ts w ++ [(n : Int)] else hungryB n ts w := by
  unfold hungryB
  rw [goers_succ, List.filter_append]
  by_cases h : 1 ≤ w ∧ w ≤ (lonB n ts : Int)
  · rw [if_pos h]; simp [h]
  · rw [if_neg h]; simp [h]
theorem hungryB_length (n : Nat) (ts : List Tn) (w : Int) : (hungryB n ts w).length ≤ n := by
  unfold hungryB
  exact Nat.le_trans (List.length_filter_le _ _) (by rw [goers_length]; exact Nat.le_refl _)
theorem hungryB_none (n : Nat) (ts : List Tn) (w : Nat) (hw : 1 ≤ w) : 0 < (hungryB n ts w).length ↔ w ≤ maxB (fun g => lonB g ts) n := by
  rw [maxB_ge _ _ _ hw]
  unfold hungryB
  rw [List.length_pos_iff_exists_mem]
  constructor
  · rintro ⟨g, hg⟩
    rw [List.mem_filter, mem_goers, decide_eq_true_iff] at hg
    refine ⟨g.toNat, by omega, ?_⟩
    rw [show ((g.toNat : Nat) : Int) = g by omega]
    omega
  · rintro ⟨k, hk, h⟩
    refine ⟨(k : Int), ?_⟩
    rw [List.mem_filter, mem_goers, decide_eq_true_iff]
    omega
def leastB (n : Nat) (ts : List Tn) : Nat := 1 + maxB (fun g => lonB g ts) n
/-- How many turns from the first on pass one over. -/
def leadB (g : Int) (ts : List Tn) : Nat := (ts.takeWhile (starveB g)).length
theorem leadB_le (g : Int) (ts : List Tn) : leadB g ts ≤ ts.length := (List.takeWhile_sublist _).length_le
def lapB (n : Nat) (ts : List Tn) : Nat := 1 + maxB (fun g => leadB g ts) n
def lapsB (n : Nat) (ts : List Tn) : Nat := if h : lapB n ts ≤ ts.length then 1 + lapsB n (ts.drop (lapB n ts)) else 0
termination_by ts.length
decreasing_by rw [List.length_drop]; unfold lapB at *; omega
theorem lapsB_yes {n : Nat} {ts : List Tn} (h : lapB n ts ≤ ts.length) : lapsB n ts = 1 + lapsB n (ts.drop (lapB n ts)) := by rw [lapsB, dif_pos h]
theorem lapsB_no {n : Nat} {ts : List Tn} (h : ¬ lapB n ts ≤ ts.length) : lapsB n ts = 0 := by rw [lapsB, dif_neg h]
theorem leadB_take (g : Int) (ts : List Tn) (k : Nat) : leadB g (ts.take k) = min k (leadB g ts) := by
  unfold leadB
  induction ts generalizing k with
  | nil => simp
  | cons t l ih =>
    cases k with
    | zero => simp
    | succ k =>
      rw [List.take_succ_cons, List.takeWhile_cons, List.takeWhile_cons]
      cases h : starveB g t with
      | true => simp only [if_true, List.length_cons]; rw [ih]; omega
      | false => simp
theorem leadB_all (g : Int) (ts : List Tn) : leadB g ts = ts.length ↔ ∀ t ∈ ts, starveB g t = true := by
  unfold leadB
  induction ts with
  | nil => simp
  | cons t l ih =>
    rw [List.takeWhile_cons]
    cases h : starveB g t with
    | true => simp [h, ih]
    | false => simp [h]
/-- It is a lap, or more. -/
def isLap (n : Nat) (ts : List Tn) : Bool := (List.range n).all fun k => !(ts.all fun t => decide ((k : Int) ∈ t.can)) || ts.any fun t => t.ch == (k : Int)
theorem isLap_iff (n : Nat) (ts : List Tn) : isLap n ts = true ↔ ∀ k : Nat, k < n → leadB k ts < ts.length := by
  unfold isLap
  rw [List.all_eq_true]
  have key : ∀ k : Nat, ((!(ts.all fun t => decide ((k : Int) ∈ t.can)) || ts.any fun t => t.ch == (k : Int)) = true) ↔ leadB k ts < ts.length := by
    intro k
    have h := leadB_all k ts
    have hl := leadB_le k ts
    have e : leadB k ts < ts.length ↔ ¬ ∀ t ∈ ts, starveB k t = true := by rw [← h]; omega
    rw [e]
    simp only [Bool.or_eq_true, Bool.not_eq_true', List.any_eq_true, starveB, Bool.and_eq_true, bne_iff_ne, decide_eq_true_iff, beq_iff_eq, List.all_eq_false]
    constructor
    · rintro (⟨t, ht, h1⟩ | ⟨t, ht, h1⟩) h2
      · exact h1 (h2 t ht).2
      · exact (h2 t ht).1 h1
    · intro h2
      refine Classical.byContradiction fun h3 => h2 fun t ht => ?_
      refine ⟨fun e1 => h3 (.inr ⟨t, ht, e1⟩), Classical.byContradiction fun e1 => h3 (.inl ⟨t, ht, e1⟩)⟩
  constructor
  · intro h k hk
    exact (key k).1 (h k (List.mem_range.2 hk))
  · intro h k hk
    exact (key k).2 (h k (List.mem_range.1 hk))
theorem isLap_take (n : Nat) (ts : List Tn) (k : Nat) (hk : k ≤ ts.length) (h1 : 1 ≤ k) : isLap n (ts.take k) = true ↔ lapB n ts ≤ k := by
  rw [isLap_iff]
  unfold lapB
  have h := maxB_le (fun g => leadB g ts) n (k - 1)
  constructor
  · intro h2
    have := h.2 (fun j hj => by have := h2 j hj; rw [leadB_take, List.length_take] at this; omega)
    omega
  · intro h2 j hj
    have := h.1 (by omega) j hj
    rw [leadB_take, List.length_take]
    omega
/-- Of whom there is most; of several the first. -/
def mostB (f : Int → Nat) (l : List Int) : Int := l.foldl (fun b g => if f b < f g then g else b) (l[0]?.getD 0)
def shareB (g : Int) (ts : List Tn) : Nat := ts.countP fun t => t.ch == g
def sharesB (n : Nat) (ts : List Tn) : List Int := (goers n).map fun g => (shareB g ts : Int)
end Go.Proofs
