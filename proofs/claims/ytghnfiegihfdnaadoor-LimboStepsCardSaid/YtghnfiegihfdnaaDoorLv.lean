/- Limbo: all that waits is taken when the epoch goes on three times (maths); LimboEnds. -/
import Derived.Test.YtghnfiegihfdnaaDoorLu
namespace Go.Proofs
set_option maxRecDepth 100000
open Go.RowKit Go.Shelf
attribute [local go_sem] Oper.semAt_some

/-- All that waits, the oldest first, whatever the Epoch. -/
theorem held_rot {E : Nat} {r : Rw3} (h1 : E < 1 → r 1 = []) (h2 : E < 2 → r 2 = []) : heldL E r = r ((E + 1) % 3) ++ r ((E + 2) % 3) ++ r (E % 3) := by
  rcases two_more E with rfl | rfl | ⟨F, rfl⟩
  · rw [heldL_0]
    show r 0 = r 1 ++ r 2 ++ r 0
    rw [h1 (by omega), h2 (by omega)]
    simp
  · rw [heldL_1]
    show r 0 ++ r 1 = r 2 ++ r 0 ++ r 1
    rw [h2 (by omega)]
    simp
  · rw [heldL_2, show (F + 2 + 1) % 3 = F % 3 by omega, show (F + 2 + 2) % 3 = (F + 1) % 3 by omega]
theorem onN_eq (E : Nat) (r : Rw3) : onN E r = if E = 4611686018427387904 then (6, E, takA E r) else (0, E + 1, takA E r) := by
  unfold onN advN
  have h : readyL E (takA E r) = [] := updL_self _ _ _
  rw [if_neg (fun hh => hh h)]
def onE : Pr := (-1, 0)
theorem runL_on (E : Nat) (r : Rw3) (l : List Pr) : runL E r (onE :: l) = if E = 4611686018427387904 then (6, E, takA E r) else runL (E + 1) (takA E r) l := by
  have e : stepN E r onE = onN E r := if_pos (by decide)
  show (if (stepN E r onE).1 = 0 then runL (stepN E r onE).2.1 (stepN E r onE).2.2 l else stepN E r onE) = _
  rw [e, onN_eq]
  by_cases h : E = 4611686018427387904
  · rw [if_pos h, if_pos h]; rfl
  · rw [if_neg h, if_neg h]; rfl
theorem takA_3 (E : Nat) (r : Rw3) : takA E r 3 = r 3 ++ r ((E + 1) % 3) := by
  unfold takA
  rw [updL_ne _ _ (by omega), updL_self]
  rfl
theorem takA_self (E : Nat) (r : Rw3) : takA E r ((E + 1) % 3) = [] := updL_self _ _ _
theorem takA_ne (E : Nat) (r : Rw3) {k : Nat} (hk : k ≠ (E + 1) % 3) (h3 : k ≠ 3) : takA E r k = r k := by
  unfold takA
  rw [updL_ne _ _ hk, updL_ne _ _ h3]
theorem ends_ok {E : Nat} {r : Rw3} (hr : rightL E r = true) (h3 : r 3 = []) : ((runL E r [onE, onE, onE]).1 = 0 ∧ (runL E r [onE, onE, onE]).2.1 = E + 3 ∧ (runL E r [onE, onE, onE]).2.2 3 = heldL E r ∧ heldL (E + 3) (runL E r [onE, onE, onE]).2.2 = [] ∧ E + 3 ≤ 4611686018427387904) ∨ ((runL E r [onE, onE, onE]).1 = 6 ∧ E + 3 > 4611686018427387904) := by
  obtain ⟨⟨hE, h1, h2⟩, _⟩ := rightL_iff.1 hr
  rw [runL_on, runL_on, runL_on]
  by_cases e0 : E = 4611686018427387904
  · rw [if_pos e0]; exact .inr ⟨rfl, by omega⟩
  rw [if_neg e0]
  by_cases e1 : E + 1 = 4611686018427387904
  · rw [if_pos e1]; exact .inr ⟨rfl, by omega⟩
  rw [if_neg e1]
  by_cases e2 : E + 1 + 1 = 4611686018427387904
  · rw [if_pos e2]; exact .inr ⟨rfl, by omega⟩
  rw [if_neg e2]
  have z : ∀ k, k < 3 → takA (E + 1 + 1) (takA (E + 1) (takA E r)) k = [] := by
    intro k hk
    by_cases c2 : k = (E + 1 + 1 + 1) % 3
    · rw [c2]; exact takA_self _ _
    rw [takA_ne _ _ c2 (by omega)]
    by_cases c1 : k = (E + 1 + 1) % 3
    · rw [c1]; exact takA_self _ _
    rw [takA_ne _ _ c1 (by omega)]
    obtain rfl : k = (E + 1) % 3 := by omega
    exact takA_self _ _
  refine .inl ⟨rfl, rfl, ?_, ?_, by omega⟩
  · show takA (E + 1 + 1) (takA (E + 1) (takA E r)) 3 = _
    rw [takA_3, takA_3, takA_3, h3, takA_ne (E + 1) _ (by omega) (by omega), takA_ne E _ (by omega) (by omega), takA_ne E _ (by omega) (by omega), held_rot h1 h2, show (E + 1 + 1 + 1) % 3 = E % 3 by omega, List.nil_append]
  · show heldL (E + 3) (takA (E + 1 + 1) (takA (E + 1) (takA E r))) = []
    rw [held_rot (fun h => absurd h (by omega)) (fun h => absurd h (by omega)), z _ (Nat.mod_lt _ (by omega)), z _ (Nat.mod_lt _ (by omega)), z _ (Nat.mod_lt _ (by omega))]
    rfl
theorem ends_len {E : Nat} {r : Rw3} (hr : rightL E r = true) : (heldL E r).length ≤ 128 := by
  obtain ⟨⟨_, h1, h2⟩, hg⟩ := rightL_iff.1 hr
  rw [(heldL_perm h1 h2).length_eq]
  exact goodL_len hg
end Go.Proofs
