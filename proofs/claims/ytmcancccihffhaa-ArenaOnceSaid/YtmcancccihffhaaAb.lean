/- Arena: maths. -/
import Derived.Test.YtmcancccihffhaaAa
namespace Go.Proofs

def okS (s : Pr) : Bool := decide (0 ≤ s.1 ∧ s.1 < 3 ∧ s.2 ≤ 1099511627775)
theorem okS_iff {s : Pr} : okS s = true ↔ 0 ≤ s.1 ∧ s.1 < 3 ∧ s.2 ≤ 1099511627775 := by unfold okS; simp
def manyA (n : Int) : Bool := decide (2 ≤ n ∧ n ≤ 128)
def rightA (l : List Pr) : Bool := manyA l.length && l.all okS
theorem rightA_iff {l : List Pr} : rightA l = true ↔ (2 ≤ l.length ∧ l.length ≤ 128) ∧ ∀ s ∈ l, okS s = true := by
  unfold rightA manyA
  rw [Bool.and_eq_true, decide_eq_true_eq, List.all_eq_true]
  constructor
  · rintro ⟨⟨h1, h2⟩, h3⟩; exact ⟨⟨by omega, by omega⟩, h3⟩
  · rintro ⟨⟨h1, h2⟩, h3⟩; exact ⟨⟨by omega, by omega⟩, h3⟩
def tagB (l : List Pr) (e : Pr) : Bool := decide (0 ≤ e.1 ∧ e.1 < l.length ∧ (l[e.1.toNat]?.getD (0, 0)).2 = e.2)
def tagA (l : List Pr) (e : Pr) : Int := if tagB l e then (l[e.1.toNat]?.getD (0, 0)).1 else 0
theorem tagB_iff {l : List Pr} {e : Pr} : tagB l e = true ↔ ∃ j : Nat, e.1 = (j : Int) ∧ ∃ h : j < l.length, l[j].2 = e.2 := by
  unfold tagB
  rw [decide_eq_true_eq]
  constructor
  · rintro ⟨h0, h1, h2⟩
    have hj : e.1.toNat < l.length := by omega
    exact ⟨e.1.toNat, by omega, hj, by rw [List.getElem?_eq_getElem hj] at h2; exact h2⟩
  · rintro ⟨j, h0, h1, h2⟩
    rw [h0]
    exact ⟨by omega, by omega, by rw [Int.toNat_natCast, List.getElem?_eq_getElem h1]; exact h2⟩
theorem tagA_at {l : List Pr} {e : Pr} {j : Nat} (h0 : e.1 = (j : Int)) (h1 : j < l.length) (h2 : l[j].2 = e.2) : tagB l e = true ∧ tagA l e = l[j].1 := by
  have hb : tagB l e = true := tagB_iff.2 ⟨j, h0, h1, h2⟩
  refine ⟨hb, ?_⟩
  unfold tagA
  rw [if_pos hb, h0, Int.toNat_natCast, List.getElem?_eq_getElem h1]
  rfl
theorem tagA_no {l : List Pr} {e : Pr} (h : tagB l e = false) : tagA l e = 0 := by unfold tagA; rw [h]; rfl
theorem tagA_ne {l : List Pr} {e : Pr} (h : tagA l e ≠ 0) : ∃ j : Nat, e.1 = (j : Int) ∧ ∃ h : j < l.length, l[j].2 = e.2 ∧ tagA l e = l[j].1 := by
  cases hb : tagB l e with
  | false => exact absurd (tagA_no hb) h
  | true =>
    obtain ⟨j, h0, h1, h2⟩ := tagB_iff.1 hb
    exact ⟨j, h0, h1, h2, (tagA_at h0 h1 h2).2⟩

/-- Entries of a tag. -/
def entF (o : Nat) : List Pr → Int → List Pr
  | [], _ => []
  | s :: l, t => if s.1 = t then ((o : Int), s.2) :: entF (o + 1) l t else entF (o + 1) l t
def ents (l : List Pr) (t : Int) : List Pr := entF 0 l t
theorem entF_snoc (t : Int) : ∀ (l : List Pr) (o : Nat) (s : Pr), entF o (l ++ [s]) t = entF o l t ++ (if s.1 = t then [(((o + l.length : Nat) : Int), s.2)] else [])
  | [], o, s => by simp [entF]
  | x :: l, o, s => by
    have ih := entF_snoc t l (o + 1) s
    simp only [List.cons_append, entF, List.length_cons]
    rw [ih, show o + 1 + l.length = o + (l.length + 1) by omega]
    by_cases h : x.1 = t <;> simp [h]
theorem ents_take (l : List Pr) (t : Int) (k : Nat) (h : k < l.length) : ents (l.take (k + 1)) t = ents (l.take k) t ++ (if l[k].1 = t then [((k : Int), l[k].2)] else []) := by
  unfold ents
  rw [take_snoc l k h, entF_snoc, List.length_take, Nat.min_eq_left (by omega), Nat.zero_add]
theorem entF_pre (t : Int) : ∀ (l m : List Pr) (o : Nat), entF o l t <+: entF o (l ++ m) t
  | [], m, o => by simp [entF]
  | x :: l, m, o => by
    have ih := entF_pre t l m (o + 1)
    simp only [List.cons_append, entF]
    split
    · exact List.cons_prefix_cons.2 ⟨rfl, ih⟩
    · exact ih
theorem ents_pre (l : List Pr) (t : Int) (k : Nat) : ents (l.take k) t <+: ents l t := by
  have h := entF_pre t (l.take k) (l.drop k) 0
  rwa [List.take_append_drop] at h
def cnt (l : List Pr) (t : Int) : Nat := l.countP fun s => decide (s.1 = t)
theorem entF_length (t : Int) : ∀ (l : List Pr) (o : Nat), (entF o l t).length = cnt l t
  | [], _ => rfl
  | s :: l, o => by
    have ih := entF_length t l (o + 1)
    unfold cnt at ih ⊢
    rw [entF, List.countP_cons]
    by_cases h : s.1 = t <;> simp [h, ih]
theorem ents_length (l : List Pr) (t : Int) : (ents l t).length = cnt l t := entF_length t l 0
theorem cnt_le (l : List Pr) (t : Int) : cnt l t ≤ l.length := List.countP_le_length
theorem cnt_take (l : List Pr) (t : Int) (k : Nat) (h : k < l.length) : cnt (l.take (k + 1)) t = cnt (l.take k) t + (if l[k].1 = t then 1 else 0) := by
  unfold cnt
  rw [take_snoc l k h, List.countP_append]
  by_cases h : l[k].1 = t <;> simp [h]
theorem cnt_all (l : List Pr) (h : ∀ s ∈ l, okS s = true) : cnt l 0 + cnt l 1 + cnt l 2 = l.length := by
  induction l with
  | nil => rfl
  | cons s l ih =>
    have h1 := ih fun x hx => h x (List.mem_cons_of_mem _ hx)
    obtain ⟨a, b, _⟩ := okS_iff.1 (h s List.mem_cons_self)
    unfold cnt at h1 ⊢
    simp only [List.countP_cons, List.length_cons]
    rcases (by omega : s.1 = 0 ∨ s.1 = 1 ∨ s.1 = 2) with e | e | e <;> simp [e] <;> omega

/-- The least free ones are live. -/
def takeL : List Pr → Nat → List Pr
  | [], _ => []
  | s :: l, k => if s.1 = 0 ∧ 0 < k then (1, s.2) :: takeL l (k - 1) else s :: takeL l k
theorem takeL_zero : ∀ l : List Pr, takeL l 0 = l
  | [] => rfl
  | s :: l => by rw [takeL, if_neg (by omega), takeL_zero l]
theorem takeL_length : ∀ (l : List Pr) (k : Nat), (takeL l k).length = l.length
  | [], _ => rfl
  | s :: l, k => by
    rw [takeL]
    split <;> simp [takeL_length l]
theorem takeL_ok : ∀ (l : List Pr) (k : Nat), (∀ s ∈ l, okS s = true) → ∀ s ∈ takeL l k, okS s = true
  | [], _, _ => by simp [takeL]
  | x :: l, k, h => by
    have h0 := h x List.mem_cons_self
    have h1 := fun k => takeL_ok l k fun s hs => h s (List.mem_cons_of_mem _ hs)
    rw [takeL]
    split
    · rintro s hs
      rcases List.mem_cons.1 hs with rfl | hs
      · have := okS_iff.1 h0; exact okS_iff.2 ⟨by simp, by simp, this.2.2⟩
      · exact h1 _ s hs
    · rintro s hs
      rcases List.mem_cons.1 hs with rfl | hs
      · exact h0
      · exact h1 _ s hs
theorem takeL_right {l : List Pr} (h : rightA l = true) (k : Nat) : rightA (takeL l k) = true := by
  rw [rightA_iff] at h ⊢
  exact ⟨by rw [takeL_length]; exact h.1, takeL_ok l k h.2⟩
theorem takeL_cnt : ∀ (l : List Pr) (k : Nat), k ≤ cnt l 0 → cnt (takeL l k) 0 = cnt l 0 - k ∧ cnt (takeL l k) 1 = cnt l 1 + k ∧ cnt (takeL l k) 2 = cnt l 2
  | [], k, h => by
    have h : k ≤ 0 := h
    obtain rfl : k = 0 := by omega
    exact ⟨rfl, rfl, rfl⟩
  | s :: l, k, h => by
    have e : ∀ (x : Pr) (m : List Pr) (t : Int), cnt (x :: m) t = cnt m t + (if x.1 = t then 1 else 0) := fun x m t => by unfold cnt; rw [List.countP_cons]; simp
    rw [e] at h
    rw [takeL]
    split
    · rename_i hc
      have ih := takeL_cnt l (k - 1) (by rw [if_pos hc.1] at h; omega)
      rw [if_pos hc.1] at h
      simp only [e, hc.1]
      simp
      omega
    · rename_i hc
      have ih := takeL_cnt l k (by
        by_cases h0 : s.1 = 0
        · have : k = 0 := by omega
          omega
        · rw [if_neg h0] at h; omega)
      simp only [e]
      have hk : s.1 = 0 → k = 0 := by omega
      rw [ih.1, ih.2.1, ih.2.2]
      by_cases h0 : s.1 = 0
      · have := hk h0; subst this; simp [h0]
      · have h' : k ≤ cnt l 0 := by rw [if_neg h0] at h; omega
        simp [h0]
        omega
/-- Which is the next one that is taken. -/
theorem entF_next : ∀ (l : List Pr) (o k : Nat), k < (entF o l 0).length → ∃ (i : Nat) (hi : i < l.length), (entF o l 0)[k]? = some (((o + i : Nat) : Int), l[i].2) ∧
    (∀ j (hj : j < i), ((takeL l k)[j]'(by rw [takeL_length]; omega)).1 ≠ 0) ∧ (takeL l k)[i]'(by rw [takeL_length]; exact hi) = (0, l[i].2) ∧ takeL l (k + 1) = (takeL l k).set i (1, l[i].2)
  | [], o, k, h => by simp [entF] at h
  | s :: l, o, k, h => by
    by_cases h0 : s.1 = 0
    · cases k with
      | zero =>
        refine ⟨0, by simp, ?_, fun j hj => by omega, ?_, ?_⟩
        · simp [entF, h0]
        · simp only [takeL_zero, List.getElem_cons_zero]; exact Prod.ext h0 rfl
        · rw [takeL, if_pos ⟨h0, by omega⟩]; simp [takeL_zero]
      | succ k =>
        have hk : k < (entF (o + 1) l 0).length := by simpa [entF, h0] using h
        obtain ⟨i, hi, h1, h2, h3, h4⟩ := entF_next l (o + 1) k hk
        have e1 : takeL (s :: l) (k + 1) = (1, s.2) :: takeL l k := by rw [takeL, if_pos ⟨h0, by omega⟩]; rfl
        have e2 : takeL (s :: l) (k + 1 + 1) = (1, s.2) :: takeL l (k + 1) := by rw [takeL, if_pos ⟨h0, by omega⟩]; rfl
        refine ⟨i + 1, by simpa using hi, ?_, ?_, ?_, ?_⟩
        · simp only [entF, h0, if_true, List.getElem?_cons_succ, h1, List.getElem_cons_succ]
          rw [show o + (i + 1) = o + 1 + i by omega]
        · intro j hj
          simp only [e1]
          cases j with
          | zero => simp
          | succ j => simpa using h2 j (by omega)
        · simp only [e1, List.getElem_cons_succ]; exact h3
        · rw [e2, e1, h4]; rfl
    · have hk : k < (entF (o + 1) l 0).length := by simpa [entF, h0] using h
      obtain ⟨i, hi, h1, h2, h3, h4⟩ := entF_next l (o + 1) k hk
      have e1 : ∀ k, takeL (s :: l) k = s :: takeL l k := fun k => by rw [takeL, if_neg (fun h => h0 h.1)]
      refine ⟨i + 1, by simpa using hi, ?_, ?_, ?_, ?_⟩
      · simp only [entF, h0, if_false, h1, List.getElem_cons_succ]
        rw [show o + (i + 1) = o + 1 + i by omega]
      · intro j hj
        simp only [e1]
        cases j with
        | zero => simpa using h0
        | succ j => simpa using h2 j (by omega)
      · simp only [e1, List.getElem_cons_succ]; exact h3
      · rw [e1, e1, h4]; rfl
theorem entF_none : ∀ (l : List Pr) (o : Nat), cnt l 0 = 0 → entF o l 0 = []
  | l, o, h => List.eq_nil_of_length_eq_zero (by rw [entF_length]; exact h)
/-- The first free one, of what is left. -/
theorem entF_head : ∀ (l : List Pr) (o i : Nat) (hi : i < l.length), (∀ j (hj : j < i), (l[j]'(by omega)).1 ≠ 0) → l[i].1 = 0 → ∃ r, entF o l 0 = (((o + i : Nat) : Int), l[i].2) :: r
  | s :: l, o, 0, _, _, h0 => ⟨entF (o + 1) l 0, by
      have h0' : s.1 = 0 := by simpa using h0
      simp [entF, h0']⟩
  | s :: l, o, i + 1, hi, h1, h0 => by
    have hs : s.1 ≠ 0 := h1 0 (by omega)
    obtain ⟨r, hr⟩ := entF_head l (o + 1) i (by simpa using hi) (fun j hj => by have := h1 (j + 1) (by omega); simpa using this) (by simpa using h0)
    refine ⟨r, ?_⟩
    rw [entF, if_neg hs, hr, List.getElem_cons_succ, show o + 1 + i = o + (i + 1) by omega]
theorem take_next_free {l : List Pr} {k : Nat} (h : k < cnt l 0) : ∃ (i : Nat) (hi : i < l.length) (r : List Pr), (ents l 0)[k]? = some ((i : Int), l[i].2) ∧ ents (takeL l k) 0 = ((i : Int), l[i].2) :: r ∧
    (takeL l k)[i]'(by rw [takeL_length]; exact hi) = (0, l[i].2) ∧ takeL l (k + 1) = (takeL l k).set i (1, l[i].2) := by
  obtain ⟨i, hi, h1, h2, h3, h4⟩ := entF_next l 0 k (by rw [entF_length]; exact h)
  obtain ⟨r, hr⟩ := entF_head (takeL l k) 0 i (by rw [takeL_length]; exact hi) h2 (by rw [h3])
  rw [Nat.zero_add] at h1 hr
  exact ⟨i, hi, r, h1, by rw [h3] at hr; exact hr, h3, h4⟩

def retE (l : List Pr) (e : Pr) : Int := if tagA l e = 1 then 0 else 4
def retS (l : List Pr) (e : Pr) : List Pr := l.set e.1.toNat (2, e.2)
def givE (l : List Pr) (e : Pr) : Int := if tagA l e = 0 then 4 else if e.2 = 1099511627775 then 6 else 0
def givS (l : List Pr) (e : Pr) : List Pr := l.set e.1.toNat (0, e.2 + 1)
def eachR (E : List Pr → Pr → Int) (S : List Pr → Pr → List Pr) : List Pr → List Pr → Int × List Pr
  | l, [] => (0, l)
  | l, e :: es => if E l e = 0 then eachR E S (S l e) es else (E l e, l)
theorem set_ok {l : List Pr} {x : Pr} (h : ∀ s ∈ l, okS s = true) (hx : okS x = true) (i : Nat) : ∀ s ∈ l.set i x, okS s = true := fun s hs => (List.mem_or_eq_of_mem_set hs).elim (h s) fun e => e ▸ hx
theorem retS_ok {l : List Pr} {e : Pr} (h : ∀ s ∈ l, okS s = true) (he : retE l e = 0) : ∀ s ∈ retS l e, okS s = true := by
  unfold retE at he
  split at he
  · rename_i h1
    obtain ⟨j, _, hj, h2, _⟩ := tagA_ne (l := l) (e := e) (by omega)
    have := okS_iff.1 (h _ (List.getElem_mem hj))
    exact set_ok h (okS_iff.2 ⟨by simp, by simp, by rw [← h2]; exact this.2.2⟩) _
  · cases he
theorem givS_ok {l : List Pr} {e : Pr} (h : ∀ s ∈ l, okS s = true) (he : givE l e = 0) : (∀ s ∈ givS l e, okS s = true) ∧ e.2 + 1 ≤ 1099511627775 := by
  unfold givE at he
  split at he
  · cases he
  · rename_i h1
    split at he
    · cases he
    · rename_i h3
      obtain ⟨j, _, hj, h2, _⟩ := tagA_ne (l := l) (e := e) h1
      have := okS_iff.1 (h _ (List.getElem_mem hj))
      rw [h2] at this
      have hb : e.2 + 1 ≤ 1099511627775 := by omega
      exact ⟨set_ok h (okS_iff.2 ⟨by simp, by simp, hb⟩) _, hb⟩
def takeR (l : List Pr) (many : Int) : Int × List Pr × List Pr :=
  if many < 0 then (2, l, []) else if many.toNat ≤ cnt l 0 then (0, takeL l many.toNat, (ents l 0).take many.toNat) else (6, l, [])
end Go.Proofs
