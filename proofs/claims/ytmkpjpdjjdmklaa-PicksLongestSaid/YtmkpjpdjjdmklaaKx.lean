/- Who waits longest; parts of turns: the maths. -/
import Derived.Test.YtmkpjpdjjdmklaaKw
namespace Go.Proofs

theorem lonB_snoc_ge (g : Int) (l : List Tn) (t : Tn) : lonB g l ≤ lonB g (l ++ [t]) := by
  cases h : starveB g t with
  | true => rw [lonB_yes h]; omega
  | false => rw [lonB_no h]; omega
theorem lonB_prefix (g : Int) (a b : List Tn) : lonB g a ≤ lonB g (a ++ b) := by
  refine snoc_ind (P := fun b => lonB g a ≤ lonB g (a ++ b)) (by simp) (fun l t ih => ?_) b
  rw [← List.append_assoc]
  exact Nat.le_trans ih (lonB_snoc_ge g _ t)
theorem lonB_suffix (g : Int) (a b : List Tn) : waitB g b ≤ waitB g (a ++ b) ∧ lonB g b ≤ lonB g (a ++ b) := by
  refine snoc_ind (P := fun b => waitB g b ≤ waitB g (a ++ b) ∧ lonB g b ≤ lonB g (a ++ b)) (by simp [waitB, lonB, runW]) (fun l t ih => ?_) b
  rw [← List.append_assoc]
  cases h : starveB g t with
  | true => rw [lonB_yes h, lonB_yes h, waitB_yes h, waitB_yes h]; omega
  | false => rw [lonB_no h, lonB_no h, waitB_no h, waitB_no h]; omega
theorem lonB_drop (g : Int) (l : List Tn) (f : Nat) : lonB g (l.drop f) ≤ lonB g l := by
  have := (lonB_suffix g (l.take f) (l.drop f)).2
  rwa [List.take_append_drop] at this
theorem lonB_take (g : Int) (l : List Tn) (k : Nat) : lonB g (l.take k) ≤ lonB g l := by
  have := lonB_prefix g (l.take k) (l.drop k)
  rwa [List.take_append_drop] at this
theorem waitB_all (g : Int) (l : List Tn) (h : ∀ t ∈ l, starveB g t = true) : waitB g l = l.length := by
  revert h
  refine snoc_ind (P := fun l => (∀ t ∈ l, starveB g t = true) → waitB g l = l.length) (fun _ => by simp [waitB, runW]) (fun l t ih h => ?_) l
  rw [waitB_yes (h t (by simp)), ih (fun u hu => h u (by simp [hu]))]
  simp
theorem takeWhile_all {α : Type} (p : α → Bool) (l : List α) : ∀ t ∈ l.takeWhile p, p t = true := by
  induction l with
  | nil => simp
  | cons x t ih =>
    intro u hu
    rw [List.takeWhile_cons] at hu
    cases h : p x with
    | true =>
      rw [h] at hu
      simp only [if_true] at hu
      rcases List.mem_cons.1 hu with rfl | hu
      · exact h
      · exact ih u hu
    | false => rw [h] at hu; simp at hu
theorem leadB_lon (g : Int) (l : List Tn) : leadB g l ≤ lonB g l := by
  have h1 : ∀ t ∈ l.takeWhile (starveB g), starveB g t = true := takeWhile_all _ l
  have h2 := waitB_all g _ h1
  have h3 := (waitB_le g (l.takeWhile (starveB g))).2.1
  have h4 := lonB_prefix g (l.takeWhile (starveB g)) (l.dropWhile (starveB g))
  rw [List.takeWhile_append_dropWhile] at h4
  unfold leadB
  omega
theorem maxB_mono {f h : Int → Nat} (n : Nat) (hf : ∀ g, f g ≤ h g) : maxB f n ≤ maxB h n :=
  (maxB_le _ _ _).2 fun k hk => Nat.le_trans (hf k) ((maxB_le h n _).1 (Nat.le_refl _) k hk)
/-- A part of turns. -/
def partB (l : List Tn) (f k : Nat) : List Tn := (l.drop f).take k
theorem part_lon (g : Int) (l : List Tn) (f k : Nat) : lonB g (partB l f k) ≤ lonB g l := Nat.le_trans (lonB_take g _ k) (lonB_drop g l f)
theorem part_least (n : Nat) (l : List Tn) (f k : Nat) : leastB n (partB l f k) ≤ leastB n l := by
  unfold leastB
  have := maxB_mono n (fun g => part_lon g l f k)
  omega
theorem part_right {N : Int} {l : List Tn} (h : rightB N l = true) (f k : Nat) : rightB N (partB l f k) = true := by
  unfold rightB at *
  rw [Bool.and_eq_true, List.all_eq_true] at *
  exact ⟨h.1, fun t ht => h.2 t (List.mem_of_mem_drop (List.mem_of_mem_take ht))⟩
theorem hungry_none {n : Nat} {l : List Tn} {w : Nat} (h : leastB n l ≤ w) : hungryB n l w = [] := by
  have h1 := hungryB_none n l w (by unfold leastB at h; omega)
  have : ¬ 0 < (hungryB n l w).length := fun h2 => by
    have := h1.1 h2
    unfold leastB at h
    omega
  exact List.eq_nil_of_length_eq_zero (by omega)
theorem hungry_some {n : Nat} {l : List Tn} {w : Nat} (h : leastB n l = w + 1) (hw : 1 ≤ w) : 0 < (hungryB n l w).length :=
  (hungryB_none n l w hw).2 (by unfold leastB at h; omega)
theorem lapB_le (n : Nat) (l : List Tn) : lapB n l ≤ leastB n l := by
  unfold lapB leastB
  have := maxB_mono n (fun g => leadB_lon g l)
  omega
theorem laps_one {n : Nat} {l : List Tn} {w : Nat} (h : leastB n l ≤ w) (hl : w ≤ l.length) : 1 ≤ lapsB n l := by
  rw [lapsB_yes (by have := lapB_le n l; omega)]
  omega
theorem least_drop (n : Nat) (l : List Tn) (f : Nat) : leastB n (l.drop f) ≤ leastB n l := by
  unfold leastB
  have := maxB_mono n (fun g => lonB_drop g l f)
  omega
theorem laps_many (n w : Nat) (hw : 1 ≤ w) : ∀ (c : Nat) (l : List Tn), l.length ≤ c → leastB n l ≤ w → l.length / w ≤ lapsB n l := by
  intro c
  induction c with
  | zero =>
    intro l hl _
    rw [show l.length = 0 by omega]
    simp
  | succ c ih =>
    intro l hl h
    by_cases hlw : l.length < w
    · rw [Nat.div_eq_of_lt hlw]; omega
    · have h1 := lapB_le n l
      have h2 : 1 ≤ lapB n l := by unfold lapB; omega
      rw [lapsB_yes (by omega)]
      have h3 := ih (l.drop (lapB n l)) (by rw [List.length_drop]; omega) (Nat.le_trans (least_drop n l _) h)
      rw [List.length_drop] at h3
      have h4 : l.length / w = 1 + (l.length - w) / w := by
        have h5 : l.length = (l.length - w) + w := by omega
        conv => lhs; rw [h5]
        rw [Nat.add_div_right _ (by omega)]
        omega
      have h6 : (l.length - w) / w ≤ (l.length - lapB n l) / w := Nat.div_le_div_right (by omega)
      omega
def sumI (l : List Int) : Int := l.foldl (· + ·) 0
theorem sumI_snoc (l : List Int) (x : Int) : sumI (l ++ [x]) = sumI l + x := by unfold sumI; rw [List.foldl_append]; rfl
theorem sumI_map_zero (n : Nat) : sumI (sharesB n []) = 0 := by
  induction n with
  | zero => rfl
  | succ n ih =>
    unfold sharesB at *
    rw [goers_succ, List.map_append, List.map_singleton, sumI_snoc, ih]
    simp [shareB]
theorem shares_sum_snoc (n : Nat) (l : List Tn) (t : Tn) : sumI (sharesB n (l ++ [t])) = sumI (sharesB n l) + if 0 ≤ t.ch ∧ t.ch < (n : Int) then 1 else 0 := by
  induction n with
  | zero =>
    rw [if_neg (by omega)]
    rfl
  | succ n ih =>
    unfold sharesB at *
    rw [goers_succ, List.map_append, List.map_append, List.map_singleton, List.map_singleton, sumI_snoc, sumI_snoc, ih, shareB_snoc]
    by_cases h1 : t.ch = (n : Int)
    · rw [if_neg (by omega), if_pos h1, if_pos (by omega)]
      omega
    · rw [if_neg h1]
      by_cases h2 : 0 ≤ t.ch ∧ t.ch < (n : Int)
      · rw [if_pos h2, if_pos (by omega)]; omega
      · rw [if_neg h2, if_neg (by omega)]; omega
theorem shares_sum (n : Nat) (l : List Tn) (h : ∀ t ∈ l, 0 ≤ t.ch ∧ t.ch < (n : Int)) : sumI (sharesB n l) = l.length := by
  revert h
  refine snoc_ind (P := fun l => (∀ t ∈ l, 0 ≤ t.ch ∧ t.ch < (n : Int)) → sumI (sharesB n l) = l.length) (fun _ => sumI_map_zero n) (fun l t ih h => ?_) l
  rw [shares_sum_snoc, ih (fun u hu => h u (by simp [hu])), if_pos (h t (by simp))]
  simp

/-- Of whom there is most. -/
theorem bestB_ge (f : Int → Nat) (b : Int) (l : List Int) : f b ≤ f (bestB f b l) ∧ ∀ g ∈ l, f g ≤ f (bestB f b l) := by
  refine snoc_ind (P := fun l => f b ≤ f (bestB f b l) ∧ ∀ g ∈ l, f g ≤ f (bestB f b l)) ⟨Nat.le_refl _, by simp⟩ (fun l x ih => ?_) l
  rw [bestB_snoc]
  have key : ∀ c : Int, f (bestB f b l) ≤ f c → f x ≤ f c → (f b ≤ f c ∧ ∀ g ∈ l ++ [x], f g ≤ f c) := by
    intro c h1 h2
    refine ⟨Nat.le_trans ih.1 h1, fun g hg => ?_⟩
    rcases List.mem_append.1 hg with hg | hg
    · exact Nat.le_trans (ih.2 g hg) h1
    · obtain rfl : g = x := by simpa using hg
      exact h2
  split
  · exact key x (by omega) (Nat.le_refl _)
  · exact key _ (Nat.le_refl _) (by omega)
theorem mostB_mem (f : Int → Nat) (l : List Int) (h : 1 ≤ l.length) : mostB f l ∈ l := by
  cases l with
  | nil => simp at h
  | cons c t =>
    have : mostB f (c :: t) = bestB f c t := bestB_head f c t
    rw [this]
    rcases bestB_mem f c t with h | h
    · rw [h]; simp
    · simp [h]
theorem mostB_ge (f : Int → Nat) (l : List Int) : ∀ g ∈ l, f g ≤ f (mostB f l) := by
  cases l with
  | nil => simp
  | cons c t => exact (bestB_ge f c (c :: t)).2
theorem filter_lt {α : Type} [DecidableEq α] (p q : α → Bool) (l : List α) (c : α) (hc : c ∈ l) (hpq : ∀ g ∈ l, p g = true → q g = true) (h1 : q c = true) (h2 : p c = false) : (l.filter p).length < (l.filter q).length := by
  induction l with
  | nil => cases hc
  | cons x t ih =>
    have hsub : (t.filter p).length ≤ (t.filter q).length := by
      clear ih hc
      induction t with
      | nil => simp
      | cons y s ih2 =>
        have h3 := hpq y (by simp)
        have h4 := ih2 (fun g hg => hpq g (by
          rcases List.mem_cons.1 hg with rfl | hg
          · simp
          · simp [hg]))
        simp only [List.filter_cons]
        cases hp : p y with
        | true => rw [h3 hp]; simpa using h4
        | false =>
          cases hq : q y with
          | true => simp; omega
          | false => simpa using h4
    simp only [List.filter_cons]
    rcases List.mem_cons.1 hc with rfl | hc
    · rw [h1, h2]; simp; omega
    · have h5 := ih hc (fun g hg => hpq g (by simp [hg]))
      have h3 := hpq x (by simp)
      cases hp : p x with
      | true => rw [h3 hp]; simpa using h5
      | false =>
        cases hq : q x with
        | true => simp; omega
        | false => simpa using h5
/-- So many wait, and nobody too long. -/
def Inv (n : Nat) (l : List Tn) : Prop := (∀ k : Nat, ((goers n).filter fun g => decide (k ≤ waitB g l)).length ≤ n - k) ∧ ∀ g ∈ goers n, lonB g l ≤ n - 1
theorem inv_nil (n : Nat) : Inv n [] := by
  refine ⟨fun k => ?_, fun g _ => by simp [lonB, runW]⟩
  cases k with
  | zero => exact Nat.le_trans (List.length_filter_le _ _) (by rw [goers_length]; omega)
  | succ k =>
    rw [List.filter_eq_nil_iff.2 (fun g _ h => by rw [decide_eq_true_iff] at h; simp [waitB, runW] at h)]
    simp
theorem inv_snoc {n : Nat} {l : List Tn} {can : List Int} (h : Inv n l) (hc : canB n can = true) : Inv n (l ++ [⟨can, mostB (fun g => waitB g l) can⟩]) := by
  have hlen := canB_len hc
  have hmem := canB_mem hc
  have hm := mostB_mem (fun g => waitB g l) can hlen.1
  have hge := mostB_ge (fun g => waitB g l) can
  have hr := hmem _ hm
  generalize mostB (fun g => waitB g l) can = c at *
  have hw : ∀ g : Int, waitB g (l ++ [⟨can, c⟩]) = if c ≠ g ∧ g ∈ can then waitB g l + 1 else 0 := by
    intro g
    by_cases hs : c ≠ g ∧ g ∈ can
    · rw [if_pos hs, waitB_yes (by unfold starveB; simp [hs.1, hs.2])]
    · rw [if_neg hs, waitB_no (by unfold starveB; by_cases e : c = g <;> simp_all)]
  have hcount : ∀ k : Nat, ((goers n).filter fun g => decide (k ≤ waitB g (l ++ [⟨can, c⟩]))).length ≤ n - k := by
    intro k
    cases k with
    | zero => exact Nat.le_trans (List.length_filter_le _ _) (by rw [goers_length]; omega)
    | succ k =>
      by_cases hk : k ≤ waitB c l
      · have hlt := filter_lt (fun g => decide (k + 1 ≤ waitB g (l ++ [⟨can, c⟩]))) (fun g => decide (k ≤ waitB g l)) (goers n) c (mem_goers.2 (by omega)) (fun g _ hg => by
          rw [decide_eq_true_iff] at *
          rw [hw] at hg
          split at hg <;> omega) (decide_eq_true hk) (decide_eq_false (by rw [hw, if_neg (by simp)]; omega))
        have := h.1 k
        omega
      · have : ((goers n).filter fun g => decide (k + 1 ≤ waitB g (l ++ [⟨can, c⟩]))) = [] := by
          rw [List.filter_eq_nil_iff]
          intro g _ hg
          rw [decide_eq_true_iff, hw] at hg
          split at hg
          · rename_i hs
            have := hge g hs.2
            omega
          · omega
        rw [this]
        simp
  refine ⟨hcount, fun g hg => ?_⟩
  have h1 := h.2 g hg
  have h2 : waitB g (l ++ [⟨can, c⟩]) ≤ n - 1 := by
    refine Classical.byContradiction fun h3 => ?_
    have h4 := hcount n
    have h5 : g ∈ (goers n).filter fun g => decide (n ≤ waitB g (l ++ [⟨can, c⟩])) := List.mem_filter.2 ⟨hg, decide_eq_true (by omega)⟩
    have h6 := List.length_pos_of_mem h5
    omega
  cases hs : starveB g ⟨can, c⟩ with
  | true =>
    rw [lonB_yes hs]
    rw [waitB_yes hs] at h2
    omega
  | false => rw [lonB_no hs]; exact h1
theorem inv_least {n : Nat} {l : List Tn} (h : Inv n l) (h1 : 1 ≤ n) : leastB n l ≤ n := by
  unfold leastB
  have := (maxB_le (fun g => lonB g l) n (n - 1)).2 (fun k hk => h.2 k (mem_goers.2 (by omega)))
  omega
/-- Who can: those of a row, or all. -/
def canL (row : List Int) (n : Nat) : List Int := (goers n).filter fun g => decide (g ∈ row) || row.isEmpty
theorem canL_succ (row : List Int) (n : Nat) : canL row (n + 1) = if (decide ((n : Int) ∈ row) || row.isEmpty) = true then canL row n ++ [(n : Int)] else canL row n := by
  unfold canL
  rw [goers_succ, List.filter_append]
  cases h : (decide ((n : Int) ∈ row) || row.isEmpty) with
  | true => simp [h]
  | false => simp [h]
theorem canL_length (row : List Int) (n : Nat) : (canL row n).length ≤ n := Nat.le_trans (List.length_filter_le _ _) (by rw [goers_length]; exact Nat.le_refl _)
theorem upB_snoc (N : Int) (l : List Int) (x : Int) (k : Int) (h : upB N k l = true) (hx : x < N) (hk : k ≤ x) (hl : ∀ g ∈ l, g < x) : upB N k (l ++ [x]) = true := by
  induction l generalizing k with
  | nil => simp [upB]; omega
  | cons g t ih =>
    rw [upB, Bool.and_eq_true, decide_eq_true_iff] at h
    rw [List.cons_append, upB, Bool.and_eq_true, decide_eq_true_iff]
    have hg := hl g (by simp)
    exact ⟨h.1, ih _ h.2 (by omega) (fun y hy => hl y (by simp [hy]))⟩
theorem canL_up (row : List Int) (N : Int) (n : Nat) (hn : (n : Int) ≤ N) : upB N 0 (canL row n) = true ∧ ∀ g ∈ canL row n, g < n := by
  induction n with
  | zero => simp [canL, goers, upB]
  | succ n ih =>
    obtain ⟨h1, h2⟩ := ih (by omega)
    rw [canL_succ]
    split
    · refine ⟨upB_snoc N _ _ 0 h1 (by omega) (by omega) h2, fun g hg => ?_⟩
      rcases List.mem_append.1 hg with hg | hg
      · have := h2 g hg; omega
      · obtain rfl : g = (n : Int) := by simpa using hg
        omega
    · exact ⟨h1, fun g hg => by have := h2 g hg; omega⟩
theorem canL_can (row : List Int) (n : Nat) (h : 0 < (canL row n).length) : canB n (canL row n) = true := by
  rw [canB_eq n _ (canL_up row n n (Int.le_refl _)).1]
  exact decide_eq_true h
theorem rightB_snoc {n : Nat} {l : List Tn} {can : List Int} {c : Int} (h : rightB n l = true) (hc : canB n can = true) (hm : c ∈ can) : rightB n (l ++ [⟨can, c⟩]) = true := by
  unfold rightB at *
  rw [Bool.and_eq_true] at *
  refine ⟨h.1, ?_⟩
  rw [List.all_append, h.2]
  simp [rightT, hc, hm]
end Go.Proofs
