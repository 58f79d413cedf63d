/- Monitor: bounds, step by step. -/
import Derived.Test.YtkghlcoancfnfaaBx
namespace Go.Proofs
open Go.RowKit Go.Shelf

/-- A monitor of bounded rows. -/
def okC (c : Nat) (m : Mn) : Prop := okM m ∧ m.has.length = m.pin.length ∧ ∀ l ∈ m.has, l.length ≤ c
theorem okC.mono {c d : Nat} {m : Mn} (h : okC c m) (hcd : c ≤ d) : okC d m := ⟨h.1, h.2.1, fun l hl => Nat.le_trans (h.2.2 l hl) hcd⟩
theorem row_of {L : List (List Pr)} {g : Nat} {e : Pr} (h : e ∈ L[g]?.getD []) : ∃ l ∈ L, e ∈ l := by
  cases hg : L[g]? with
  | none => rw [hg] at h; simp at h
  | some l => rw [hg] at h; exact ⟨l, List.mem_of_getElem? hg, by simpa using h⟩
theorem row_le {L : List (List Pr)} {c : Nat} (hc : ∀ l ∈ L, l.length ≤ c) (g : Nat) : (L[g]?.getD []).length ≤ c := by
  cases hg : L[g]? with
  | none => simp
  | some l => simpa using hc l (List.mem_of_getElem? hg)
theorem okC.add {c : Nat} {m : Mn} (h : okC c m) (hc : c + 1 ≤ 9000) (g : Int) (e : Pr) (he : wfE e) : okC (c + 1) (addM m g e) := by
  unfold addM
  split
  · exact h.mono (by omega)
  · obtain ⟨⟨h1, h2, h3, h4, h5, h6⟩, h7, h8⟩ := h
    have hlen : ∀ l ∈ m.has.set g.toNat (m.has[g.toNat]?.getD [] ++ [e]), l.length ≤ c + 1 := fun l hl => by
      rcases List.mem_or_eq_of_mem_set hl with hl | rfl
      · have := h8 l hl; omega
      · have := row_le h8 g.toNat
        simp only [List.length_append, List.length_cons, List.length_nil]
        omega
    refine ⟨⟨fun l hl x hx => ?_, h2, h3, by simpa using h4, h5, fun l hl => by have := hlen l hl; omega⟩, by simpa using h7, hlen⟩
    rcases List.mem_or_eq_of_mem_set hl with hl | rfl
    · exact h1 l hl x hx
    · rcases List.mem_append.1 hx with hx | hx
      · obtain ⟨l, h9, h10⟩ := row_of hx
        exact h1 l h9 x h10
      · rw [List.mem_singleton.1 hx]; exact he
theorem okC.bad {c : Nat} {m : Mn} (h : okC c m) (x : Wt) : okC c (badM m x) := by
  unfold badM
  split
  · rename_i h0
    obtain ⟨⟨h1, h2, h3, h4, h5, h6⟩, h7, h8⟩ := h
    exact ⟨⟨h1, h2, h3, h4, by simp only [List.length_append, List.length_cons, List.length_nil]; omega, h6⟩, h7, h8⟩
  · exact h
theorem okC.sl {c : Nat} {m : Mn} (h : okC c m) {l : List Pr} (hl : l.length = m.sl.length) : okC c { m with sl := l } := by
  obtain ⟨⟨h1, h2, h3, h4, h5, h6⟩, h7, h8⟩ := h
  exact ⟨⟨h1, by show l.length ≤ 1000; omega, h3, h4, h5, h6⟩, h7, h8⟩
theorem triR_zero {l : List Pr} {R : Int × List Pr × List Pr} (h : (triR l R).1 = 0) : triR l R = R ∧ R.1 = 0 := by
  unfold triR at h ⊢
  cases hr : rightA l with
  | false => rw [hr] at h; simp at h
  | true =>
    rw [hr] at h
    simp only [if_true] at h ⊢
    by_cases h0 : R.1 = 0
    · rw [if_pos h0]; exact ⟨rfl, h0⟩
    · rw [if_neg h0] at h; exact absurd h h0
theorem each_one {E : List Pr → Pr → Int} {S : List Pr → Pr → List Pr} {l : List Pr} {e : Pr} (hS : (S l e).length = l.length) : (eachR E S l [e]).2.length = l.length := by
  rw [eachR_step]
  split
  · exact hS
  · rfl
theorem retT_len {l : List Pr} {e : Pr} (h : (retT l [e]).1 = 0) : (retT l [e]).2.1.length = l.length := by
  unfold retT at h ⊢
  rw [(triR_zero h).1]
  exact each_one (by unfold retS; simp)
theorem givT_len {l : List Pr} {e : Pr} (h : (givT l [e]).1 = 0) : (givT l [e]).2.1.length = l.length := by
  unfold givT at h ⊢
  rw [(triR_zero h).1]
  exact each_one (by unfold givS; simp)
theorem step_ok {c : Nat} {m : Mn} {t : Wt} (h : okC c m) (hc : c + 1 ≤ 9000) (hs : (stepM m t).1 = 0) : okC (c + 1) (stepM m t).2.1 ∧ (stepM m t).2.2.length ≤ 1 := by
  have hw : whyM m.pin.length t = 0 := by
    unfold stepM at hs
    split at hs
    · assumption
    · exact hs
  have he : stepM m t = actM m t := by unfold stepM; rw [if_pos hw]
  rw [he] at hs ⊢
  clear he
  have hm := h.mono (Nat.le_succ c)
  unfold whyM at hw
  split at hw
  · exact absurd hw (by decide)
  rename_i hk
  split at hw
  · exact absurd hw (by decide)
  rename_i ho
  have hent : asksB t.kind = true → entB t.ent = true := fun ha => by
    rw [ha] at ho
    simp at ho
    exact ho.2
  have hk8 : t.kind = 1 ∨ t.kind = 2 ∨ t.kind = 3 ∨ (t.kind = 4 ∨ t.kind = 5) ∨ t.kind = 6 ∨ t.kind = 7 ∨ t.kind = 8 := by omega
  rcases hk8 with hk | hk | hk | hk | hk | hk | hk
  · rw [act1 m t hk] at hs ⊢
    split at hs
    · exact absurd hs (show ¬ (5 : Int) = 0 by decide)
    · rename_i hp
      rw [if_neg hp]
      obtain ⟨⟨h1, h2, h3, h4, h5, h6⟩, h7, h8⟩ := hm
      exact ⟨⟨⟨h1, h2, by simpa using h3, h4, h5, h6⟩, by simpa using h7, h8⟩, by simp⟩
  · rw [act2 m t hk] at hs ⊢
    split at hs
    · rename_i hp
      rw [if_pos hp]
      obtain ⟨⟨h1, h2, h3, h4, h5, h6⟩, h7, h8⟩ := hm
      have key : ∀ l ∈ m.has.set t.goer.toNat [], l ∈ m.has ∨ l = [] := fun l hl => List.mem_or_eq_of_mem_set hl
      refine ⟨⟨⟨fun l hl e he => ?_, h2, by simpa using h3, by simpa using h4, h5, fun l hl => ?_⟩, by simpa using h7, fun l hl => ?_⟩, by simp⟩
      · rcases key l hl with hl | rfl
        · exact h1 l hl e he
        · simp at he
      · rcases key l hl with hl | rfl
        · exact h6 l hl
        · simp
      · rcases key l hl with hl | rfl
        · exact h8 l hl
        · simp
    · exact absurd hs (show ¬ (4 : Int) = 0 by decide)
  · rw [act3 m t hk] at hs ⊢
    split at hs
    · rename_i hp
      rw [if_pos hp]
      exact ⟨h.add hc _ _ (entB_wf (hent (by rw [hk]; rfl))), by simp⟩
    · exact absurd hs (show ¬ (4 : Int) = 0 by decide)
  · rw [act4 m t hk] at hs ⊢
    split at hs
    · rename_i hp
      rw [if_pos hp]
      exact ⟨hm.bad t, by simp⟩
    · exact absurd hs (show ¬ (4 : Int) = 0 by decide)
  · rw [act6 m t hk] at hs ⊢
    split at hs
    · rename_i hp
      rw [if_pos hp]
      unfold takM at hs ⊢
      split at hs
      · rename_i h0
        rw [if_pos h0]
        obtain ⟨_, hl, _, e, he, hb⟩ := takT_one h0
        rw [he]
        exact ⟨(h.sl hl).add hc _ _ (entB_wf hb), by simp⟩
      · rename_i h0
        exact absurd hs h0
    · exact absurd hs (show ¬ (4 : Int) = 0 by decide)
  · rw [act7 m t hk] at hs ⊢
    unfold arR at hs ⊢
    split at hs
    · rename_i h0
      rw [if_pos h0]
      exact ⟨hm.sl (retT_len h0), by simp⟩
    · rename_i h0
      exact absurd hs h0
  · rw [act8 m t hk] at hs ⊢
    unfold arR at hs ⊢
    split at hs
    · rename_i h0
      rw [if_pos h0]
      exact ⟨hm.sl (givT_len h0), by simp⟩
    · rename_i h0
      exact absurd hs h0
end Go.Proofs
