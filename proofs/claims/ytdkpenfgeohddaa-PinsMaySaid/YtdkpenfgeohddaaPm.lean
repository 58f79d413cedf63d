/- Pins: what follows, as plain maths. -/
import Derived.Test.YtdkpenfgeohddaaPl
namespace Go.Proofs
set_option maxRecDepth 100000
open Go.RowKit Go.Shelf

theorem doP_err {E : Int} {S : List Int} {o : Po} (h : (doP E S o).1 ≠ 0) : doP E S o = ((doP E S o).1, 0, []) := by
  unfold doP at h ⊢
  split
  · next hr =>
    rw [if_pos hr] at h
    split
    · next h0 => rw [if_pos h0] at h; exact absurd h0 h
    · rfl
  · rfl
theorem doP_ok {E : Int} {S : List Int} {o : Po} (h : (doP E S o).1 = 0) : rightN E S = true ∧ (stepP E S o).1 = 0 ∧ doP E S o = stepP E S o := by
  unfold doP at h ⊢
  split
  · next hr =>
    rw [if_pos hr] at h
    split
    · next h0 => exact ⟨hr, h0, rfl⟩
    · next h0 => rw [if_neg h0] at h; exact absurd h h0
  · next hr => rw [if_neg hr] at h; cases h
theorem step_pin {E : Int} {S : List Int} {g by_ : Int} (h : (stepP E S ⟨1, g, by_⟩).1 = 0) : (0 ≤ g ∧ g < S.length) ∧ S[g.toNat]?.getD 0 = 0 ∧ by_ ≤ E ∧ stepP E S ⟨1, g, by_⟩ = (0, E, S.set g.toNat (E - by_ + 1)) := by
  unfold stepP at h ⊢
  dsimp only at h ⊢
  rw [if_neg (by decide), if_neg (by decide)] at h ⊢
  cases ho : isOneN S g with
  | false => rw [ho] at h; cases h
  | true =>
    rw [ho] at h
    have hg := of_decide_eq_true ho
    rw [if_neg (by decide), if_pos rfl] at h ⊢
    unfold pinN at h ⊢
    dsimp only at h ⊢
    by_cases h1 : S[g.toNat]?.getD 0 = 0
    · rw [if_neg (by simpa using h1)] at h ⊢
      by_cases h2 : E < by_
      · rw [if_pos h2] at h; cases h
      · rw [if_neg h2]
        exact ⟨hg, h1, by omega, rfl⟩
    · rw [if_pos h1] at h; cases h
theorem step_unpin {E : Int} {S : List Int} {g by_ : Int} (hg : 0 ≤ g ∧ g < S.length) (h : S[g.toNat]?.getD 0 ≠ 0) : stepP E S ⟨2, g, by_⟩ = (0, E, S.set g.toNat 0) := by
  unfold stepP
  dsimp only
  rw [if_neg (by decide), if_neg (by decide), if_neg (by unfold isOneN; simp; omega), if_neg (by decide)]
  unfold unpinN
  rw [if_neg h]
theorem step_again {E : Int} {S : List Int} {g by_ : Int} (hg : 0 ≤ g ∧ g < S.length) (h : S[g.toNat]?.getD 0 ≠ 0) : stepP E S ⟨1, g, by_⟩ = (5, E, S) := by
  unfold stepP
  dsimp only
  rw [if_neg (by decide), if_neg (by decide), if_neg (by unfold isOneN; simp; omega), if_pos rfl]
  unfold pinN
  rw [if_pos h]
theorem doP_of {E : Int} {S : List Int} {o : Po} (hr : rightN E S = true) : doP E S o = if (stepP E S o).1 = 0 then stepP E S o else ((stepP E S o).1, 0, []) := if_pos hr
/-- The least that is pinned. -/
theorem oldF_mem (pre : List (Int × Int)) : ∀ y ∈ pre, (oldF pre).2 = true ∧ (oldF pre).1 ≤ y.2 := by
  induction pre using snoc_ind with
  | h0 => intro y hy; cases hy
  | h1 pre z ih =>
    intro y hy
    rw [oldF_snoc]
    generalize oldF pre = p at *
    obtain ⟨m, b⟩ := p
    unfold oldS
    dsimp only at *
    rcases List.mem_append.1 hy with h | h
    · obtain ⟨h1, h2⟩ := ih y h
      subst h1
      by_cases hl : z.2 < m
      · rw [if_pos (by simp [hl])]
        exact ⟨rfl, by show z.2 ≤ y.2; omega⟩
      · rw [if_neg (by simp; omega)]
        exact ⟨rfl, h2⟩
    · rw [List.mem_singleton] at h
      subst h
      cases b with
      | false => rw [if_pos (by simp)]; exact ⟨rfl, Int.le_refl _⟩
      | true =>
        by_cases hl : y.2 < m
        · rw [if_pos (by simp [hl])]
          exact ⟨rfl, Int.le_refl _⟩
        · rw [if_neg (by simp; omega)]
          exact ⟨rfl, by show m ≤ y.2; omega⟩
theorem oldF_some (pre : List (Int × Int)) : (oldF pre).2 = true → ∃ y ∈ pre, (oldF pre).1 = y.2 := by
  induction pre using snoc_ind with
  | h0 => intro h; cases h
  | h1 pre z ih =>
    intro h
    rw [oldF_snoc] at h ⊢
    generalize oldF pre = p at *
    obtain ⟨m, b⟩ := p
    unfold oldS at h ⊢
    dsimp only at *
    split at h
    · next h1 => rw [if_pos h1]; exact ⟨z, by simp, rfl⟩
    · next h1 =>
      rw [if_neg h1]
      obtain ⟨y, hy, e⟩ := ih h
      exact ⟨y, by simp [hy], e⟩
theorem oldF_none (pre : List (Int × Int)) : (oldF pre).2 = false → pre = [] ∧ oldF pre = (0, false) := by
  intro h
  cases pre with
  | nil => exact ⟨rfl, rfl⟩
  | cons y t =>
    have := (oldF_mem (y :: t) y (by simp)).1
    rw [h] at this
    cases this
theorem oldN_le {S : List Int} {k : Nat} (hk : k < S.length) (h : S[k]?.getD 0 ≠ 0) : (oldN S).2 = true ∧ (oldN S).1 ≤ S[k]?.getD 0 - 1 := by
  have hm : (((k : Int), S[k]?.getD 0 - 1) : Int × Int) ∈ pinL S := (pinL_mem S _).2 ⟨k, hk, rfl, h, rfl⟩
  exact oldF_mem (pinL S) _ hm
def b2n (b : Bool) : Nat := if b then 1 else 0
theorem trues_count (f : Nat → Bool) : (trues f 8).length = b2n (f 0) + b2n (f 1) + b2n (f 2) + b2n (f 3) + b2n (f 4) + b2n (f 5) + b2n (f 6) + b2n (f 7) := by
  have h : ∀ k, (trues f (k + 1)).length = (trues f k).length + b2n (f k) := fun k => by
    rw [trues_succ, List.length_append]
    unfold b2n
    cases f k <;> rfl
  rw [h 7, h 6, h 5, h 4, h 3, h 2, h 1, h 0]
  simp [trues]
theorem trues_more {f f' : Nat → Bool} {g : Nat} (hg : g < 8) (h0 : f g = false) (h : ∀ k, k ≠ g → f' k = f k) : (trues f' 8).length = (trues f 8).length + b2n (f' g) := by
  rw [trues_count, trues_count]
  have hb : b2n (f g) = 0 := by rw [h0]; rfl
  rcases eight hg with rfl | rfl | rfl | rfl | rfl | rfl | rfl | rfl
  all_goals
    first
    | rw [h 0 (by decide)]
    | skip
    first
    | rw [h 1 (by decide)]
    | skip
    first
    | rw [h 2 (by decide)]
    | skip
    first
    | rw [h 3 (by decide)]
    | skip
    first
    | rw [h 4 (by decide)]
    | skip
    first
    | rw [h 5 (by decide)]
    | skip
    first
    | rw [h 6 (by decide)]
    | skip
    first
    | rw [h 7 (by decide)]
    | skip
    omega
theorem getD_set (S : List Int) (g k : Nat) (z : Int) (hg : g < S.length) : (S.set g z)[k]?.getD 0 = if k = g then z else S[k]?.getD 0 := by
  by_cases h : k = g
  · subst h
    simp [hg]
  · rw [if_neg h, List.getElem?_set_ne (fun e => h e.symm)]
theorem bkB_set (E : Int) (S : List Int) (g : Nat) (z : Int) (hg : g < S.length) (k : Nat) : bkB E (S.set g z) k = if k = g then (z != 0 && (z - 1 != E)) else bkB E S k := by
  unfold bkB
  rw [getD_set S g k z hg, List.length_set]
  by_cases h : k = g
  · subst h
    simp [hg]
  · rw [if_neg h, if_neg h]
theorem back_pin {E : Int} {S : List Int} {g : Nat} {by_ : Int} (hg : g < S.length) (h8 : S.length ≤ 8) (h0 : S[g]?.getD 0 = 0) (hb : 0 ≤ by_) (hE : by_ ≤ E) : (backN E (S.set g (E - by_ + 1))).length = (backN E S).length + b2n (by_ != 0) := by
  unfold backN
  rw [trues_more (f := bkB E S) (g := g) (by omega) (by unfold bkB; rw [h0]; simp) (fun k hk => by rw [bkB_set E S g _ hg k, if_neg hk]), bkB_set E S g _ hg g, if_pos rfl]
  have h1 : (E - by_ + 1 != 0) = true := by simp; omega
  have h2 : (E - by_ + 1 - 1 != E) = (by_ != 0) := by
    by_cases h : by_ = 0
    · subst h; simp
    · rw [show (by_ != 0) = true by simp [h]]
      simp
      omega
  rw [h1, h2, Bool.true_and]
theorem set_self_ (S : List Int) (g : Nat) (z : Int) (hg : g < S.length) (h : S[g]?.getD 0 = 0) : (S.set g z).set g 0 = S := by
  rw [List.set_set]
  have : S[g] = 0 := by simpa [hg] using h
  rw [← this]
  exact List.set_getElem_self hg
theorem right_set {E : Int} {S : List Int} (hr : rightN E S = true) (g : Nat) (z : Int) (hz : z ≤ E + 1) : rightN E (S.set g z) = true := by
  have h := (rightN_iff E S).1 hr
  refine (rightN_iff _ _).2 ⟨h.1, by rw [List.length_set]; exact h.2.1, by rw [List.length_set]; exact h.2.2.1, fun y hy => ?_⟩
  rcases List.mem_or_eq_of_mem_set hy with h3 | rfl
  · exact h.2.2.2 y h3
  · exact hz
theorem okW_take {S : List Int} (h : okW S) (k : Nat) : okW (S.take k) := fun z hz => h z (List.mem_of_mem_take hz)
theorem OwnsWords.form2 {n₀ : Nat} {l : List Int} {v : Value} {W : World} (o : OwnsWords n₀ l v W) : ∃ a n c, v = .slice a n c ∧ n = l.length := by
  obtain ⟨a, c, h⟩ := o.form
  exact ⟨a, _, c, h, rfl⟩
end Go.Proofs
