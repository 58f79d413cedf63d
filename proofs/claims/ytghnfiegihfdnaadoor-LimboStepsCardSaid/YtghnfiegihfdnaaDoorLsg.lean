/- Limbo: the reference's Run: maths. -/
import Derived.Test.YtghnfiegihfdnaaDoorLsf
namespace Go.Proofs
set_option maxRecDepth 100000
open Go.RowKit Go.Shelf
attribute [local go_sem] Oper.semAt_some

theorem upd_comm (r : Rw3) (q l : List Pr) {k : Nat} (hk : k ≠ 3) : updL (updL r 3 q) k l = updL (updL r k l) 3 q := by
  funext j
  unfold updL
  by_cases h1 : j = k
  · subst h1
    rw [if_pos rfl, if_neg hk, if_pos rfl]
  · rw [if_neg h1]
    by_cases h2 : j = 3
    · rw [if_pos h2, if_pos h2]
    · rw [if_neg h2, if_neg h2, if_neg h1]
theorem upd_upd (r : Rw3) (k : Nat) (l m : List Pr) : updL (updL r k l) k m = updL r k m := by
  funext j
  unfold updL
  by_cases h : j = k
  · rw [if_pos h, if_pos h]
  · rw [if_neg h, if_neg h, if_neg h]
theorem upd_same (r : Rw3) (k : Nat) (l : List Pr) (h : r k = l) : updL r k l = r := by
  funext j
  unfold updL
  by_cases e : j = k
  · rw [if_pos e, e, h]
  · rw [if_neg e]
theorem mod_ne (k : Nat) : k % 3 ≠ 3 := by omega
theorem ready_upd3 (E : Nat) (r : Rw3) (q : List Pr) : readyL E (updL r 3 q) = readyL E r := updL_ne _ _ (mod_ne _)
theorem when_upd3 (E : Nat) (r : Rw3) (q : List Pr) (z : Int) : whenL E (updL r 3 q) z = whenL E r z := by
  unfold whenL
  have e : (fun k => hasS (updL r 3 q (k % 3)) z) = fun k => hasS (r (k % 3)) z := by
    funext k
    rw [updL_ne _ _ (mod_ne k)]
  rw [e]
theorem ret_upd3 (E : Nat) (r : Rw3) (q : List Pr) (p : Pr) : retN E (updL r 3 q) p = ((retN E r p).1, (retN E r p).2.1, updL (retN E r p).2.2 3 q) := by
  unfold retN
  rw [when_upd3]
  by_cases h1 : okE p = false
  · rw [if_pos h1, if_pos h1]
  · rw [if_neg h1, if_neg h1]
    by_cases h2 : (whenL E r p.1).isSome = true
    · rw [if_pos h2, if_pos h2]
    · rw [if_neg h2, if_neg h2, updL_ne _ _ (mod_ne E), upd_comm _ _ _ (mod_ne E)]
theorem on_upd3 (E : Nat) (r : Rw3) (q : List Pr) : onN E (updL r 3 q) = if E = 4611686018427387904 then (6, E, updL (updL r ((E + 1) % 3) []) 3 (q ++ readyL E r)) else (0, E + 1, updL (updL r ((E + 1) % 3) []) 3 (q ++ readyL E r)) := by
  have e : takA E (updL r 3 q) = updL (updL r ((E + 1) % 3) []) 3 (q ++ readyL E r) := by
    unfold takA
    rw [ready_upd3, updL_self, upd_upd, upd_comm _ _ _ (mod_ne _)]
  rw [onN_eq, e]
/-- One step of Run, the taken ones apart. -/
theorem run_ret (E : Nat) (r : Rw3) (q : List Pr) (p : Pr) (l : List Pr) (hp : 0 ≤ p.1) : runL E (updL r 3 q) (p :: l) = if (retN E r p).1 = 0 then runL (retN E r p).2.1 (updL (retN E r p).2.2 3 q) l else ((retN E r p).1, (retN E r p).2.1, updL (retN E r p).2.2 3 q) := by
  have e : stepN E (updL r 3 q) p = ((retN E r p).1, (retN E r p).2.1, updL (retN E r p).2.2 3 q) := by
    unfold stepN
    rw [if_neg (by omega), ret_upd3]
  show (if (stepN E (updL r 3 q) p).1 = 0 then runL (stepN E (updL r 3 q) p).2.1 (stepN E (updL r 3 q) p).2.2 l else stepN E (updL r 3 q) p) = _
  rw [e]
theorem run_on3 (E : Nat) (r : Rw3) (q : List Pr) (p : Pr) (l : List Pr) (hp : p.1 < 0) : runL E (updL r 3 q) (p :: l) = if E = 4611686018427387904 then (6, E, updL (updL r ((E + 1) % 3) []) 3 (q ++ readyL E r)) else runL (E + 1) (updL (updL r ((E + 1) % 3) []) 3 (q ++ readyL E r)) l := by
  have e : stepN E (updL r 3 q) p = onN E (updL r 3 q) := if_pos hp
  show (if (stepN E (updL r 3 q) p).1 = 0 then runL (stepN E (updL r 3 q) p).2.1 (stepN E (updL r 3 q) p).2.2 l else stepN E (updL r 3 q) p) = _
  rw [e, on_upd3]
  by_cases h : E = 4611686018427387904
  · rw [if_pos h, if_pos h]; rfl
  · rw [if_neg h, if_neg h]; rfl
/-- One is taken. -/
theorem drain (E : Nat) (r : Rw3) (q : List Pr) {z : Pr} {t : List Pr} (hz : readyL E r = z :: t) : updL (updL (updL r ((E + 1) % 3) t) ((E + 1) % 3) []) 3 ((q ++ [z]) ++ readyL E (updL r ((E + 1) % 3) t)) = updL (updL r ((E + 1) % 3) []) 3 (q ++ readyL E r) := by
  rw [upd_upd, hz, show readyL E (updL r ((E + 1) % 3) t) = t from updL_self _ _ _]
  simp
theorem drained (E : Nat) (r : Rw3) (q : List Pr) (hz : readyL E r = []) : updL (updL r ((E + 1) % 3) []) 3 (q ++ readyL E r) = updL r 3 q := by
  rw [hz, List.append_nil, upd_same r _ _ hz]
end Go.Proofs
