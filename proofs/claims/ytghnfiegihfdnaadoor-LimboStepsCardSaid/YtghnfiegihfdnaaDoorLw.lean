/- Limbo: LimboWaits: maths. -/
import Derived.Test.YtghnfiegihfdnaaDoorLv
namespace Go.Proofs
set_option maxRecDepth 100000
open Go.RowKit Go.Shelf
attribute [local go_sem] Oper.semAt_some

theorem wtL_last (E : Nat) : wtL E = List.range' (E - 2) (E - (E - 2)) ++ [E] := by
  unfold wtL
  rw [show E + 1 - (E - 2) = (E - (E - 2)) + 1 by omega, wtL_snoc, show E - 2 + (E - (E - 2)) = E by omega]
theorem rightL_held {E : Nat} {r : Rw3} (hr : rightL E r = true) : goodL (heldL E r) = true := by
  obtain ⟨⟨_, h1, h2⟩, hg⟩ := rightL_iff.1 hr
  rw [goodL_perm (heldL_perm h1 h2)]
  exact hg
theorem held_right {E : Nat} {r : Rw3} (hE : E ≤ 4611686018427387904) (h1 : E < 1 → r 1 = []) (h2 : E < 2 → r 2 = []) (hg : goodL (heldL E r) = true) : rightL E r = true := by
  rw [rightL_iff]
  rw [goodL_perm (heldL_perm h1 h2)] at hg
  exact ⟨⟨hE, h1, h2⟩, hg⟩
/-- One more waits. -/
theorem ret_held {E : Nat} {r : Rw3} (hr : rightL E r = true) (p : Pr) : (E < 1 → updL r (E % 3) (r (E % 3) ++ [p]) 1 = []) ∧ (E < 2 → updL r (E % 3) (r (E % 3) ++ [p]) 2 = []) ∧ heldL E (updL r (E % 3) (r (E % 3) ++ [p])) = heldL E r ++ [p] := by
  obtain ⟨⟨_, h1, h2⟩, _⟩ := rightL_iff.1 hr
  have a1 : E < 1 → updL r (E % 3) (r (E % 3) ++ [p]) 1 = [] := fun h => by rw [updL_ne _ _ (by omega)]; exact h1 h
  have a2 : E < 2 → updL r (E % 3) (r (E % 3) ++ [p]) 2 = [] := fun h => by rw [updL_ne _ _ (by omega)]; exact h2 h
  refine ⟨a1, a2, ?_⟩
  rw [held_rot a1 a2, held_rot h1 h2, updL_self, updL_ne _ _ (by omega), updL_ne _ _ (by omega), List.append_assoc, List.append_assoc, List.append_assoc]
theorem ret_right {E : Nat} {r : Rw3} (hr : rightL E r = true) {p : Pr} (hp : okE p = true) (hw : whenL E r p.1 = none) : rightL E (updL r (E % 3) (r (E % 3) ++ [p])) = true := by
  obtain ⟨a1, a2, e⟩ := ret_held hr p
  refine held_right (rightL_iff.1 hr).1.1 a1 a2 ?_
  rw [e, goodL_snoc, rightL_held hr, hp, ← whenL_some, hw]
  rfl
theorem ret_when {E : Nat} {r : Rw3} {p : Pr} (hw : whenL E r p.1 = none) : whenL E (updL r (E % 3) (r (E % 3) ++ [p])) p.1 = some E := by
  unfold whenL at hw ⊢
  rw [wtL_last] at hw ⊢
  rw [find_snoc]
  · rw [updL_self, hasS_snoc]
    simp
  · rw [List.find?_eq_none] at hw ⊢
    intro k hk
    have hk2 := List.mem_range'_1.1 hk
    rw [updL_ne _ _ (by omega)]
    exact hw k (List.mem_append_left _ hk)
/-- The first one that is ready. -/
theorem rdy_two {E : Nat} {r : Rw3} (hr : rightL E r = true) (hz : readyL E r ≠ []) : 2 ≤ E := by
  obtain ⟨⟨_, h1, h2⟩, _⟩ := rightL_iff.1 hr
  rcases two_more E with rfl | rfl | ⟨F, rfl⟩
  · exact absurd (h1 (by omega)) hz
  · exact absurd (h2 (by omega)) hz
  · omega
theorem rdy_held {E : Nat} {r : Rw3} (hr : rightL E r = true) {z : Pr} {t : List Pr} (hz : readyL E r = z :: t) : heldL E r = z :: heldL E (updL r ((E + 1) % 3) t) := by
  obtain ⟨⟨_, h1, h2⟩, _⟩ := rightL_iff.1 hr
  have h2E := rdy_two hr (by rw [hz]; exact List.cons_ne_nil _ _)
  have hz' : r ((E + 1) % 3) = z :: t := hz
  rw [held_rot h1 h2, held_rot (fun h => absurd h (by omega)) (fun h => absurd h (by omega)), updL_self, updL_ne _ _ (by omega), updL_ne _ _ (by omega), hz']
  rfl
theorem goodL_tail {z : Pr} {l : List Pr} (h : goodL (z :: l) = true) : goodL l = true := by
  rw [goodL_perm (List.perm_append_singleton z l).symm] at h
  exact goodL_left h
theorem rdy_right {E : Nat} {r : Rw3} (hr : rightL E r = true) {z : Pr} {t : List Pr} (hz : readyL E r = z :: t) : rightL E (updL r ((E + 1) % 3) t) = true := by
  have h2E := rdy_two hr (by rw [hz]; exact List.cons_ne_nil _ _)
  have hg := rightL_held hr
  rw [rdy_held hr hz] at hg
  exact held_right (rightL_iff.1 hr).1.1 (fun h => absurd h (by omega)) (fun h => absurd h (by omega)) (goodL_tail hg)
theorem rdy_when {E : Nat} {r : Rw3} (hr : rightL E r = true) {z : Pr} {t : List Pr} (hz : readyL E r = z :: t) : whenL E r z.1 = some (E - 2) := by
  have h2E := rdy_two hr (by rw [hz]; exact List.cons_ne_nil _ _)
  obtain ⟨F, rfl⟩ : ∃ F, E = F + 2 := ⟨E - 2, by omega⟩
  have hz' : r ((F + 2 + 1) % 3) = z :: t := hz
  rw [show (F + 2 + 1) % 3 = F % 3 by omega] at hz'
  unfold whenL
  rw [wtL_2, List.find?_cons, show hasS (r (F % 3)) z.1 = true by rw [hz']; simp [hasS]]
  rfl
/-- The epoch goes on. -/
theorem adv_held {E : Nat} {r : Rw3} (hr : rightL E r = true) (hz : readyL E r = []) : heldL (E + 1) r = heldL E r ∧ (E + 1 < 1 → r 1 = []) ∧ (E + 1 < 2 → r 2 = []) := by
  obtain ⟨⟨_, h1, h2⟩, _⟩ := rightL_iff.1 hr
  have a2 : E + 1 < 2 → r 2 = [] := fun h => h2 (by omega)
  have hz' : r ((E + 1) % 3) = [] := hz
  refine ⟨?_, fun h => absurd h (by omega), a2⟩
  rw [held_rot (fun h => absurd h (by omega)) a2, held_rot h1 h2, hz', show (E + 1 + 1) % 3 = (E + 2) % 3 by omega, show (E + 1 + 2) % 3 = E % 3 by omega]
  simp
theorem adv_right {E : Nat} {r : Rw3} (hr : rightL E r = true) (hz : readyL E r = []) (hE : E ≠ 4611686018427387904) : rightL (E + 1) r = true := by
  obtain ⟨e, a1, a2⟩ := adv_held hr hz
  have := (rightL_iff.1 hr).1.1
  refine held_right (by omega) a1 a2 ?_
  rw [e]
  exact rightL_held hr
/-- Each one that waits. -/
theorem last_when {E : Nat} {r : Rw3} (hr : rightL E r = true) (k : Nat) (hk : k < (heldL E r).length) : ∃ n, whenL E r ((heldL E r)[k]).1 = some n ∧ n ≤ E ∧ E ≤ n + 2 ∧ (n + 2 = E ↔ k < (readyL E r).length) := by
  obtain ⟨⟨_, h1, h2⟩, _⟩ := rightL_iff.1 hr
  have hs : (whenL E r ((heldL E r)[k]).1).isSome = true := by
    rw [whenL_some, hasS_iff]
    exact ⟨_, List.getElem_mem hk, rfl⟩
  obtain ⟨n, hn⟩ := Option.isSome_iff_exists.1 hs
  have hm := List.mem_of_find?_eq_some hn
  have hh := List.find?_some hn
  have hb := wtL_mem hm
  refine ⟨n, hn, hb.1, by omega, ?_⟩
  have hrot := held_rot h1 h2
  constructor
  · intro e
    -- one of the same slab is ready
    have e3 : n % 3 = (E + 1) % 3 := by omega
    rw [e3] at hh
    obtain ⟨y, hy, hy2⟩ := hasS_iff.1 hh
    obtain ⟨j, hj, rfl⟩ := List.getElem_of_mem hy
    have hj' : j < (readyL E r).length := hj
    have hjl : j < (heldL E r).length := by rw [hrot, List.length_append, List.length_append]; omega
    have hje : (heldL E r)[j] = (r ((E + 1) % 3))[j] := by
      simp only [hrot]
      rw [List.getElem_append_left (by rw [List.length_append]; omega), List.getElem_append_left hj]
      rfl
    have hd := (goodL_iff.1 (rightL_held hr)).2
    have hj1 : j < ((heldL E r).map (·.1)).length := by rw [List.length_map]; exact hjl
    have hk1 : k < ((heldL E r).map (·.1)).length := by rw [List.length_map]; exact hk
    have hjk : j = k := (List.getElem?_inj hj1 hd).1 (by rw [List.getElem?_eq_getElem hj1, List.getElem?_eq_getElem hk1, List.getElem_map, List.getElem_map, hje]; exact congrArg some hy2)
    omega
  · intro hlt
    have h2E := rdy_two hr (fun e => by rw [e] at hlt; cases hlt)
    obtain ⟨F, rfl⟩ : ∃ F, E = F + 2 := ⟨E - 2, by omega⟩
    have hlt' : k < (r ((F + 2 + 1) % 3)).length := hlt
    have hke : (heldL (F + 2) r)[k] = (r ((F + 2 + 1) % 3))[k] := by
      simp only [hrot]
      rw [List.getElem_append_left (by rw [List.length_append]; omega), List.getElem_append_left hlt']
    have hF : whenL (F + 2) r ((heldL (F + 2) r)[k]).1 = some F := by
      rw [hke]
      have hq : hasS (r (F % 3)) ((r ((F + 2 + 1) % 3))[k]).1 = true := by
        rw [hasS_iff]
        exact ⟨_, by rw [show F % 3 = (F + 2 + 1) % 3 by omega]; exact List.getElem_mem _, rfl⟩
      unfold whenL
      rw [wtL_2, List.find?_cons, hq]
    rw [hF] at hn
    injection hn with hn
    omega
end Go.Proofs
