/- Sections and looks: maths. -/
import Derived.Test.YtbipekpohocjdaaDoorGa
namespace Go.Proofs

/-- Sections, behind a step. -/
def secB : Int → List (Int × Int) → Bool
  | _, [] => true
  | a, s :: t => decide (a < s.1 ∧ s.1 ≤ 1073741824) && (if s.2 = 0 then t.isEmpty else decide (s.1 < s.2 ∧ s.2 ≤ 1073741824) && secB s.2 t)
def rightB (l : List (Int × Int)) : Bool := secB 0 l
theorem secB_cons (a : Int) (s : Int × Int) (t : List (Int × Int)) : secB a (s :: t) = true ↔ a < s.1 ∧ s.1 ≤ 1073741824 ∧ ((s.2 = 0 ∧ t = []) ∨ (s.2 ≠ 0 ∧ s.1 < s.2 ∧ s.2 ≤ 1073741824 ∧ secB s.2 t = true)) := by
  rw [secB]
  by_cases h : s.2 = 0
  · simp [h, and_assoc]
  · simp [h, and_assoc]
theorem secB_bad {a : Int} {s : Int × Int} {t : List (Int × Int)} (h : s.1 ≤ a ∨ 1073741824 < s.1) : secB a (s :: t) = false := by
  rw [secB, decide_eq_false (by omega)]; rfl
theorem secB_last {a : Int} {s : Int × Int} {t : List (Int × Int)} (h1 : a < s.1) (h2 : s.1 ≤ 1073741824) (h : s.2 = 0) : secB a (s :: t) = decide (t.length = 0) := by
  rw [secB, decide_eq_true ⟨h1, h2⟩, if_pos h]
  cases t <;> simp
theorem secB_bad2 {a : Int} {s : Int × Int} {t : List (Int × Int)} (h0 : s.2 ≠ 0) (h : s.2 ≤ s.1 ∨ 1073741824 < s.2) : secB a (s :: t) = false := by
  rw [secB, if_neg h0, decide_eq_false (p := s.1 < s.2 ∧ _) (by omega)]; simp
theorem secB_next {a : Int} {s : Int × Int} {t : List (Int × Int)} (h1 : a < s.1) (h2 : s.1 ≤ 1073741824) (h0 : s.2 ≠ 0) (h3 : s.1 < s.2) (h4 : s.2 ≤ 1073741824) : secB a (s :: t) = secB s.2 t := by
  rw [secB, decide_eq_true ⟨h1, h2⟩, if_neg h0, decide_eq_true ⟨h3, h4⟩]; simp

def edgeL : List (Int × Int) → List Int
  | [] => []
  | s :: t => if s.2 = 0 then [s.1] else s.1 :: s.2 :: edgeL t
theorem edgeL_len (l : List (Int × Int)) : (edgeL l).length ≤ 2 * l.length := by
  induction l with
  | nil => simp [edgeL]
  | cons s t ih => rw [edgeL]; split <;> simp <;> omega
/-- The counter at a step. -/
def cntB (l : List (Int × Int)) (z : Int) : Nat := ((edgeL l).takeWhile fun e => decide (e ≤ z)).length
theorem cntB_cons (s : Int × Int) (t : List (Int × Int)) (z : Int) : cntB (s :: t) z = if z < s.1 then 0 else if s.2 = 0 then 1 else if z < s.2 then 1 else 2 + cntB t z := by
  unfold cntB
  rw [edgeL]
  by_cases h1 : z < s.1
  · rw [if_pos h1]
    have : ¬ s.1 ≤ z := by omega
    split <;> simp [this]
  · rw [if_neg h1]
    have e1 : s.1 ≤ z := by omega
    by_cases h2 : s.2 = 0
    · simp [h2, e1]
    · rw [if_neg h2, if_neg h2]
      by_cases h3 : z < s.2
      · have : ¬ s.2 ≤ z := by omega
        simp [e1, this, h3]
      · have : s.2 ≤ z := by omega
        simp [e1, this, h3]
        omega
theorem cntB_le (l : List (Int × Int)) (z : Int) : cntB l z ≤ 2 * l.length := Nat.le_trans (List.takeWhile_prefix _).length_le (edgeL_len l)
theorem cnt_all {ys : List Int} {z : Int} (h : ∀ y ∈ ys, y ≤ z) : (ys.takeWhile fun e => decide (e ≤ z)).length = ys.length := by
  induction ys with
  | nil => rfl
  | cons y t ih =>
    have h1 := h y (by simp)
    rw [List.takeWhile_cons, if_pos (by simpa using h1), List.length_cons, List.length_cons, ih (fun u hu => h u (by simp [hu]))]
theorem cnt_stop {ys p : List Int} {y z : Int} (hp : p ++ [y] <+: ys) (h1 : ∀ u ∈ p, u ≤ z) (h2 : z < y) : (ys.takeWhile fun e => decide (e ≤ z)).length = p.length := by
  obtain ⟨r, rfl⟩ := hp
  induction p with
  | nil =>
    have : ¬ y ≤ z := by omega
    simp [this]
  | cons u t ih =>
    have hu := h1 u (by simp)
    simp only [List.cons_append, List.takeWhile_cons, hu, decide_true, if_true, List.length_cons]
    exact congrArg (· + 1) (ih (fun v hv => h1 v (by simp [hv])))

def stopB (z : Int) (s : Int × Int) : Bool := decide (s.2 = 0 ∨ z < s.2)
/-- Whether steps are clear: of the one section that could tell. -/
def clearB : List (Int × Int) → Int → Int → Bool
  | [], _, _ => true
  | s :: t, a, b => if s.2 = 0 ∨ a < s.2 then decide (b < s.1) else clearB t a b
theorem clearB_stop {s : Int × Int} {t : List (Int × Int)} {a b : Int} (h : s.2 = 0 ∨ a < s.2) : clearB (s :: t) a b = decide (b < s.1) := by rw [clearB, if_pos h]
theorem clearB_go {s : Int × Int} {t : List (Int × Int)} {a b : Int} (h : ¬ (s.2 = 0 ∨ a < s.2)) : clearB (s :: t) a b = clearB t a b := by rw [clearB, if_neg h]
/-- .. by its place. -/
theorem clearB_at {l : List (Int × Int)} {a b : Int} {m : Nat} (hm : m ≤ l.length) (h1 : ∀ j (h : j < l.length), j < m → stopB a l[j] = false) (h2 : ∀ h : m < l.length, stopB a l[m] = true) :
    clearB l a b = if h : m < l.length then decide (b < (l[m]).1) else true := by
  induction l generalizing m with
  | nil => simp [clearB]
  | cons s t ih =>
    cases m with
    | zero =>
      have h := h2 (by simp)
      simp only [stopB, List.getElem_cons_zero, decide_eq_true_eq] at h
      rw [clearB_stop h]
      simp
    | succ m =>
      have h := h1 0 (by simp) (by omega)
      simp only [stopB, List.getElem_cons_zero, decide_eq_false_iff_not] at h
      rw [clearB_go h, ih (m := m) (by simpa using hm) (fun j hj hjm => h1 (j + 1) (by simpa using hj) (by omega)) (fun hml => h2 (by simpa using hml))]
      simp
/-- Sections that are there: who stops is stopped for by all behind it. -/
theorem stop_mono {l : List (Int × Int)} {a0 : Int} (hr : secB a0 l = true) {z : Int} {i j : Nat} (hij : i ≤ j) (hj : j < l.length) (h : stopB z (l[i]'(by omega)) = true) : stopB z l[j] = true := by
  induction l generalizing a0 i j with
  | nil => simp at hj
  | cons s t ih =>
    obtain ⟨h1, h2, h3⟩ := (secB_cons a0 s t).1 hr
    rcases h3 with ⟨_, rfl⟩ | ⟨h0, h4, h5, h6⟩
    · simp at hj
      obtain rfl : j = 0 := hj
      obtain rfl : i = 0 := by omega
      exact h
    · cases j with
      | zero =>
        obtain rfl : i = 0 := by omega
        exact h
      | succ j =>
        have hj' : j < t.length := by simpa using hj
        cases i with
        | succ i =>
          simp only [List.getElem_cons_succ] at h ⊢
          exact ih h6 (by omega) hj' h
        | zero =>
          simp only [List.getElem_cons_zero, List.getElem_cons_succ] at h ⊢
          have hz : z < s.2 := by simp only [stopB, decide_eq_true_eq] at h; omega
          have key : ∀ (t : List (Int × Int)) (a : Int) (j : Nat) (hj : j < t.length), secB a t = true → z < a → stopB z t[j] = true := by
            intro t
            induction t with
            | nil => intro a j hj; simp at hj
            | cons u t ih2 =>
              intro a j hj hs hza
              obtain ⟨g1, g2, g3⟩ := (secB_cons a u t).1 hs
              cases j with
              | zero =>
                simp only [List.getElem_cons_zero, stopB, decide_eq_true_eq]
                rcases g3 with ⟨g, _⟩ | ⟨_, g, _⟩
                · exact .inl g
                · exact .inr (by omega)
              | succ j =>
                simp only [List.getElem_cons_succ]
                rcases g3 with ⟨_, rfl⟩ | ⟨_, g4, _, g5⟩
                · simp at hj
                · exact ih2 u.2 j (by simpa using hj) g5 (by omega)
          exact key t s.2 j hj' h6 hz
/-- The place of the first that stops. -/
def stopN (z : Int) (l : List (Int × Int)) : Nat := (l.takeWhile fun s => !stopB z s).length
theorem stopN_le (z : Int) (l : List (Int × Int)) : stopN z l ≤ l.length := (List.takeWhile_prefix _).length_le
theorem stopN_lt {z : Int} {l : List (Int × Int)} {j : Nat} (hj : j < l.length) (h : j < stopN z l) : stopB z l[j] = false := by
  induction l generalizing j with
  | nil => simp at hj
  | cons s t ih =>
    unfold stopN at h
    rw [List.takeWhile_cons] at h
    cases hs : stopB z s with
    | true => simp [hs] at h
    | false =>
      simp only [hs, Bool.not_false, if_true, List.length_cons] at h
      cases j with
      | zero => simpa using hs
      | succ j =>
        simp only [List.getElem_cons_succ]
        exact ih (by simpa using hj) (by unfold stopN; omega)
theorem stopN_at {z : Int} {l : List (Int × Int)} (h : stopN z l < l.length) : stopB z l[stopN z l] = true := by
  induction l with
  | nil => simp at h
  | cons s t ih =>
    cases hs : stopB z s with
    | true =>
      have e : stopN z (s :: t) = 0 := by simp [stopN, hs]
      simp only [e, List.getElem_cons_zero]
      exact hs
    | false =>
      have e : stopN z (s :: t) = stopN z t + 1 := by simp [stopN, hs]
      simp only [e, List.getElem_cons_succ]
      exact ih (by rw [e] at h; simpa using h)
theorem stopN_ge {l : List (Int × Int)} (hr : rightB l = true) {z : Int} {j : Nat} (hj : j < l.length) (h : stopN z l ≤ j) : stopB z l[j] = true :=
  stop_mono hr h hj (stopN_at (by omega))
theorem clearB_stopN (l : List (Int × Int)) (a b : Int) : clearB l a b = if h : stopN a l < l.length then decide (b < (l[stopN a l]).1) else true :=
  clearB_at (stopN_le _ _) (fun _ hj h => stopN_lt hj h) (fun h => stopN_at h)

/-- A look is good just if its steps are clear. -/
theorem tells {l : List (Int × Int)} {a0 : Int} (hr : secB a0 l = true) {f g : Int} (hfg : f ≤ g) : clearB l f g = decide (cntB l f % 2 = 0 ∧ cntB l f = cntB l g) ∧ cntB l f ≤ cntB l g := by
  induction l generalizing a0 with
  | nil => exact ⟨by simp [clearB, cntB, edgeL], Nat.le_refl _⟩
  | cons s t ih =>
    obtain ⟨h1, h2, h3⟩ := (secB_cons a0 s t).1 hr
    rw [cntB_cons, cntB_cons]
    rcases h3 with ⟨h0, rfl⟩ | ⟨h0, h4, h5, h6⟩
    · rw [clearB_stop (.inl h0)]
      by_cases hf : f < s.1
      · by_cases hg : g < s.1
        · simp [hf, hg]
        · simp [hf, hg, h0]
      · have hg : ¬ g < s.1 := by omega
        simp [hf, hg, h0]
    · by_cases hf : f < s.1
      · rw [clearB_stop (.inr (by omega)), if_pos hf]
        by_cases hg : g < s.1
        · simp [hg]
        · simp only [hg, h0, if_false]
          split <;> simp
          omega
      · have hg : ¬ g < s.1 := by omega
        by_cases hf2 : f < s.2
        · rw [clearB_stop (.inr hf2)]
          simp only [hf, hg, h0, hf2, if_false, if_true]
          refine ⟨by simp, ?_⟩
          split <;> omega
        · have hg2 : ¬ g < s.2 := by omega
          rw [clearB_go (by omega)]
          simp only [hf, hg, h0, hf2, hg2, if_false]
          obtain ⟨i1, i2⟩ := ih h6
          refine ⟨?_, by omega⟩
          rw [i1, decide_eq_decide]
          omega
theorem clear_part {l : List (Int × Int)} {a0 : Int} (hr : secB a0 l = true) {a b a' b' : Int} (h : clearB l a b = true) (h1 : a ≤ a') (h2 : a' ≤ b') (h3 : b' ≤ b) : clearB l a' b' = true := by
  induction l generalizing a0 with
  | nil => rfl
  | cons s t ih =>
    obtain ⟨_, _, g3⟩ := (secB_cons a0 s t).1 hr
    by_cases hs : s.2 = 0 ∨ a < s.2
    · rw [clearB_stop hs, decide_eq_true_eq] at h
      have : s.2 = 0 ∨ a' < s.2 := by
        rcases g3 with ⟨g, _⟩ | ⟨_, g, _⟩
        · exact .inl g
        · exact .inr (by omega)
      rw [clearB_stop this, decide_eq_true_eq]
      omega
    · rw [clearB_go hs] at h
      have : ¬ (s.2 = 0 ∨ a' < s.2) := by omega
      rw [clearB_go this]
      rcases g3 with ⟨g, _⟩ | ⟨_, _, _, g⟩
      · exact absurd (.inl g) hs
      · exact ih g h

/-- Clear rows, each as long as can be, from a step on. -/
def gapL : Int → List (Int × Int) → List (Int × Int)
  | a, [] => [(a, 1073741824)]
  | a, s :: t => (a, s.1 - 1) :: (if s.2 = 0 then [] else gapL s.2 t)
def partO (f g : Int) (k : Int × Int) : Option (Int × Int) := if max k.1 f ≤ min k.2 g then some (max k.1 f, min k.2 g) else none
def spansB (l : List (Int × Int)) (f g : Int) : List (Int × Int) := (gapL 0 l).filterMap (partO f g)
theorem gapL_len (a : Int) (l : List (Int × Int)) : (gapL a l).length ≤ l.length + 1 := by
  induction l generalizing a with
  | nil => simp [gapL]
  | cons s t ih =>
    rw [gapL]
    split
    · simp
    · simp only [List.length_cons]
      have := ih s.2
      omega
theorem spansB_len (l : List (Int × Int)) (f g : Int) : (spansB l f g).length ≤ l.length + 1 := Nat.le_trans (List.length_filterMap_le _ _) (gapL_len 0 l)
/-- The next clear step, with an error. -/
def nextB : List (Int × Int) → Int → Int × Int
  | [], z => (z, 0)
  | s :: t, z => if z < s.1 then (z, 0) else if s.2 = 0 then (0, 4) else if z < s.2 then (s.2, 0) else nextB t z

/-- Behind all spans. -/
def EndP (l : List (Int × Int)) (g x : Int) : Prop := g < x ∨ (nextB l x).2 = 4 ∨ ((nextB l x).2 = 0 ∧ g < (nextB l x).1)
def PartsP (l : List (Int × Int)) (f g : Int) : Int → List (Int × Int) → Prop
  | x, [] => EndP l g x
  | x, s :: t => x ≤ s.1 ∧ s.1 ≤ s.2 ∧ s.2 ≤ g ∧ clearB l s.1 s.2 = true ∧ (f < s.1 → clearB l (s.1 - 1) (s.1 - 1) = false) ∧ (s.2 < g → clearB l (s.2 + 1) (s.2 + 1) = false) ∧ nextB l x = (s.1, 0) ∧ PartsP l f g (s.2 + 1) t
theorem partO_yes {f g a b : Int} (h : max a f ≤ min b g) : partO f g (a, b) = some (max a f, min b g) := if_pos h
theorem partO_no {f g a b : Int} (h : ¬ max a f ≤ min b g) : partO f g (a, b) = none := if_neg h
theorem parts_gen (l : List (Int × Int)) (f g : Int) (hfg : f ≤ g) (hg : g ≤ 1073741824) (q : List (Int × Int)) : ∀ (a x : Int), secB a q = true →
    (∀ u v, a ≤ u → u ≤ v → clearB l u v = clearB q u v) → (∀ u, a ≤ u → nextB l u = nextB q u) →
    ((x = f ∧ a ≤ f) ∨ (f < a ∧ x ≤ a ∧ f ≤ x ∧ nextB l x = (a, 0) ∧ clearB l (a - 1) (a - 1) = false) ∨ (g < a ∧ EndP l g x)) →
    PartsP l f g x ((gapL a q).filterMap (partO f g)) := by
  induction q with
  | nil =>
    intro a x _ hc hn hx
    rw [gapL]
    rcases hx with ⟨rfl, h1⟩ | ⟨h1, h2, h3, h4, h5⟩ | ⟨h1, h2⟩
    · have e : max a x = x := by omega
      have e2 : min 1073741824 g = g := by omega
      rw [List.filterMap_cons, partO_yes (by omega), e, e2, List.filterMap_nil]
      refine ⟨Int.le_refl _, hfg, Int.le_refl _, by rw [hc _ _ h1 hfg]; rfl, fun h => absurd h (by omega), fun h => absurd h (by omega), by rw [hn _ h1]; rfl, .inl (by omega)⟩
    · by_cases hag : a ≤ g
      · have e : max a f = a := by omega
        have e2 : min 1073741824 g = g := by omega
        rw [List.filterMap_cons, partO_yes (by omega), e, e2, List.filterMap_nil]
        exact ⟨h2, hag, Int.le_refl _, by rw [hc _ _ (Int.le_refl _) hag]; rfl, fun _ => h5, fun h => absurd h (by omega), h4, .inl (by omega)⟩
      · rw [List.filterMap_cons, partO_no (by omega), List.filterMap_nil]
        exact .inr (.inr ⟨by rw [h4], by rw [h4]; omega⟩)
    · rw [List.filterMap_cons, partO_no (by omega), List.filterMap_nil]
      exact h2
  | cons s t ih =>
    intro a x hs hc hn hx
    obtain ⟨s1, s2, s3⟩ := (secB_cons a s t).1 hs
    rw [gapL]
    -- what lies behind this section
    have hopen : ∀ u, s.1 ≤ u → (s.2 = 0 ∨ u < s.2) → clearB l u u = false := fun u hu1 hu2 => by
      rw [hc u u (by omega) (Int.le_refl _), clearB_stop hu2, decide_eq_false_iff_not]; omega
    have hnx : ∀ u, s.1 ≤ u → (s.2 = 0 ∨ u < s.2) → nextB l u = if s.2 = 0 then (0, 4) else (s.2, 0) := fun u hu1 hu2 => by
      rw [hn u (by omega), nextB, if_neg (by omega)]
      by_cases h0 : s.2 = 0
      · rw [if_pos h0, if_pos h0]
      · rw [if_neg h0, if_neg h0, if_pos (by omega)]
    have hgap : ∀ u v, a ≤ u → u ≤ v → v < s.1 → clearB l u v = true := fun u v hu huv hv => by
      rw [hc u v hu huv, clearB_stop (by rcases s3 with ⟨h, _⟩ | ⟨_, h, _⟩; exact .inl h; exact .inr (by omega)), decide_eq_true_eq]; exact hv
    have hng : ∀ u, a ≤ u → u < s.1 → nextB l u = (u, 0) := fun u hu hv => by rw [hn u hu, nextB, if_pos hv]
    have rest : ∀ x', ((x' = f ∧ s.2 ≤ f ∧ s.2 ≠ 0) ∨ (f < s.2 ∧ f ≤ x' ∧ s.1 ≤ x' ∧ (x' < s.2 ∨ s.2 = 0)) ∨ (f < s.1 ∧ g < s.1 ∧ EndP l g x') ∨ (f ≤ x' ∧ s.1 ≤ x' ∧ s.2 = 0)) →
        PartsP l f g x' ((if s.2 = 0 then [] else gapL s.2 t).filterMap (partO f g)) := by
      intro x' hx'
      rcases s3 with ⟨h0, rfl⟩ | ⟨h0, h4, h5, h6⟩
      · rw [if_pos h0, List.filterMap_nil]
        rcases hx' with ⟨_, _, h⟩ | ⟨_, _, h, _⟩ | ⟨_, _, h⟩ | ⟨_, h, _⟩
        · exact absurd h0 h
        · exact .inr (.inl (by rw [hnx x' h (.inl h0), if_pos h0]))
        · exact h
        · exact .inr (.inl (by rw [hnx x' h (.inl h0), if_pos h0]))
      · rw [if_neg h0]
        refine ih s.2 x' h6 (fun u v hu huv => by rw [hc u v (by omega) huv, clearB_go (by omega)]) (fun u hu => by rw [hn u (by omega), nextB, if_neg (by omega), if_neg h0, if_neg (by omega)]) ?_
        rcases hx' with ⟨e, h, _⟩ | ⟨h1, h2, h3, h7⟩ | ⟨h1, h2, h3⟩ | ⟨_, _, h⟩
        · exact .inl ⟨e, h⟩
        · exact .inr (.inl ⟨h1, by omega, h2, by rw [hnx x' h3 (by omega), if_neg h0], hopen _ (by omega) (by omega)⟩)
        · exact .inr (.inr ⟨by omega, h3⟩)
        · exact absurd h h0
    rcases hx with ⟨rfl, h1⟩ | ⟨h1, h2, h3, h4, h5⟩ | ⟨h1, h2⟩
    · by_cases hin : x < s.1
      · have e : max a x = x := by omega
        rw [List.filterMap_cons, partO_yes (by omega), e]
        refine ⟨Int.le_refl _, by omega, by omega, hgap _ _ h1 (by omega) (by omega), fun h => absurd h (by omega), fun h => ?_, hng _ h1 hin, ?_⟩
        · have e2 : min (s.1 - 1) g + 1 = s.1 := by omega
          simp only [e2]
          exact hopen _ (Int.le_refl _) (by rcases s3 with ⟨h, _⟩ | ⟨_, h, _⟩; exact .inl h; exact .inr h)
        · by_cases hge : g < s.1
          · exact rest _ (.inr (.inr (.inl ⟨by omega, hge, .inl (by show g < min (s.1 - 1) g + 1; omega)⟩)))
          · have e2 : min (s.1 - 1) g + 1 = s.1 := by omega
            simp only [e2]
            rcases s3 with ⟨h, _⟩ | ⟨_, h, _⟩
            · exact rest _ (.inr (.inr (.inr ⟨by omega, Int.le_refl _, h⟩)))
            · exact rest _ (.inr (.inl ⟨by omega, by omega, Int.le_refl _, .inl h⟩))
      · rw [List.filterMap_cons, partO_no (by omega)]
        rcases s3 with ⟨h, _⟩ | ⟨h0, h, _⟩
        · exact rest _ (.inr (.inr (.inr ⟨Int.le_refl _, by omega, h⟩)))
        · by_cases hlt : x < s.2
          · exact rest _ (.inr (.inl ⟨hlt, Int.le_refl _, by omega, .inl hlt⟩))
          · exact rest _ (.inl ⟨rfl, by omega, h0⟩)
    · by_cases hag : a ≤ g
      · have e : max a f = a := by omega
        rw [List.filterMap_cons, partO_yes (by omega), e]
        refine ⟨h2, by omega, by omega, hgap _ _ (Int.le_refl _) (by omega) (by omega), fun _ => h5, fun h => ?_, h4, ?_⟩
        · have e2 : min (s.1 - 1) g + 1 = s.1 := by omega
          simp only [e2]
          exact hopen _ (Int.le_refl _) (by rcases s3 with ⟨h, _⟩ | ⟨_, h, _⟩; exact .inl h; exact .inr h)
        · by_cases hge : g < s.1
          · exact rest _ (.inr (.inr (.inl ⟨by omega, hge, .inl (by show g < min (s.1 - 1) g + 1; omega)⟩)))
          · have e2 : min (s.1 - 1) g + 1 = s.1 := by omega
            simp only [e2]
            rcases s3 with ⟨h, _⟩ | ⟨_, h, _⟩
            · exact rest _ (.inr (.inr (.inr ⟨by omega, Int.le_refl _, h⟩)))
            · exact rest _ (.inr (.inl ⟨by omega, by omega, Int.le_refl _, .inl h⟩))
      · rw [List.filterMap_cons, partO_no (by omega)]
        exact rest _ (.inr (.inr (.inl ⟨by omega, by omega, .inr (.inr ⟨by rw [h4], by rw [h4]; omega⟩)⟩)))
    · rw [List.filterMap_cons, partO_no (by omega)]
      exact rest _ (.inr (.inr (.inl ⟨by omega, by omega, h2⟩)))
theorem parts {l : List (Int × Int)} (hr : rightB l = true) {f g : Int} (h0 : 0 ≤ f) (hfg : f ≤ g) (hg : g ≤ 1073741824) : PartsP l f g f (spansB l f g) :=
  parts_gen l f g hfg hg l 0 f hr (fun _ _ _ _ => rfl) (fun _ _ => rfl) (.inl ⟨rfl, h0⟩)

/-- A look's steps. -/
def stepB (z : Int) : Bool := decide (0 ≤ z ∧ z ≤ 1073741824)
def lookB (f g : Int) : Bool := decide (0 ≤ f ∧ f ≤ g ∧ g ≤ 1073741824)
/-- The answers. -/
def countE (l : List (Int × Int)) (z : Int) : Int := if rightB l = true then (if stepB z = true then 0 else 2) else 160
def countR (l : List (Int × Int)) (z : Int) : Nat := if countE l z = 0 then cntB l z else 0
def allLook (ks : List (Int × Int)) : Bool := ks.all fun k => lookB k.1 k.2
def readsE (l ks : List (Int × Int)) : Int := if rightB l = true then (if allLook ks = true then 0 else 2) else 160
def readsR (l ks : List (Int × Int)) : List Bool := if readsE l ks = 0 then ks.map fun k => clearB l k.1 k.2 else []
def clearR (l : List (Int × Int)) (f g : Int) : Bool := rightB l && (lookB f g && clearB l f g)
def spansE (l : List (Int × Int)) (f g : Int) : Int := if rightB l = true then (if lookB f g = true then 0 else 2) else 160
def spansR (l : List (Int × Int)) (f g : Int) : List (Int × Int) := if spansE l f g = 0 then spansB l f g else []
def nextE (l : List (Int × Int)) (z : Int) : Int := if rightB l = true then (if stepB z = true then (nextB l z).2 else 2) else 160
def nextR (l : List (Int × Int)) (z : Int) : Int := if rightB l = true then (if stepB z = true then (nextB l z).1 else 0) else 0
theorem nextB_err (l : List (Int × Int)) (z : Int) : (nextB l z).2 = 0 ∨ ((nextB l z).2 = 4 ∧ (nextB l z).1 = 0) := by
  induction l with
  | nil => exact .inl rfl
  | cons s t ih =>
    rw [nextB]
    split
    · exact .inl rfl
    · split
      · exact .inr ⟨rfl, rfl⟩
      · split
        · exact .inl rfl
        · exact ih
end Go.Proofs
