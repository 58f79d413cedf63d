/- Limbo: maths. -/
import Derived.Test.YtghnfiegihfdnaaDoorLa
namespace Go.Proofs
set_option maxRecDepth 100000
open Go.RowKit Go.Shelf

def okE (p : Pr) : Bool := decide (0 ≤ p.1 ∧ p.1 < 128 ∧ p.2 ≤ 1099511627775)
def hasS (l : List Pr) (s : Int) : Bool := l.any fun e => e.1 == s
theorem hasS_iff {l : List Pr} {s : Int} : hasS l s = true ↔ ∃ e ∈ l, e.1 = s := by simp [hasS]
theorem hasS_app (l m : List Pr) (s : Int) : hasS (l ++ m) s = (hasS l s || hasS m s) := by simp [hasS]
theorem hasS_snoc (l : List Pr) (x : Pr) (s : Int) : hasS (l ++ [x]) s = (hasS l s || x.1 == s) := by simp [hasS]
theorem hasS_nil (s : Int) : hasS [] s = false := rfl
/-- Entries, no two of one slab. -/
def goodL (l : List Pr) : Bool := l.all okE && decide ((l.map (·.1)).Nodup)
theorem goodL_iff {l : List Pr} : goodL l = true ↔ (∀ e ∈ l, okE e = true) ∧ (l.map (·.1)).Nodup := by simp [goodL]
theorem goodL_snoc (l : List Pr) (x : Pr) : goodL (l ++ [x]) = (goodL l && (okE x && !hasS l x.1)) := by
  rw [Bool.eq_iff_iff, goodL_iff]
  simp only [Bool.and_eq_true, goodL_iff, Bool.not_eq_true', List.map_append, List.map_cons, List.map_nil, List.mem_append, List.mem_singleton]
  rw [List.nodup_append]
  constructor
  · rintro ⟨h1, h2, h3, h4⟩
    refine ⟨⟨fun e he => h1 e (.inl he), h2⟩, h1 x (.inr rfl), ?_⟩
    cases hh : hasS l x.1 with
    | false => rfl
    | true =>
      obtain ⟨e, he, h5⟩ := hasS_iff.1 hh
      exact absurd h5 (h4 e.1 (List.mem_map.2 ⟨e, he, rfl⟩) x.1 (by simp))
  · rintro ⟨⟨h1, h2⟩, h3, h4⟩
    refine ⟨fun e he => he.elim (h1 e) (fun e' => e' ▸ h3), h2, by simp, fun a ha b hb e => ?_⟩
    simp only [List.mem_singleton] at hb
    subst hb e
    obtain ⟨y, hy, h5⟩ := List.mem_map.1 ha
    rw [hasS_iff.2 ⟨y, hy, h5⟩] at h4
    cases h4
theorem goodL_left {l m : List Pr} (h : goodL (l ++ m) = true) : goodL l = true := by
  rw [goodL_iff] at h ⊢
  rw [List.map_append, List.nodup_append] at h
  exact ⟨fun e he => h.1 e (by simp [he]), h.2.1⟩
theorem goodL_perm {l m : List Pr} (h : l.Perm m) : goodL l = goodL m := by
  rw [Bool.eq_iff_iff, goodL_iff, goodL_iff, (h.map (·.1)).nodup_iff]
  exact ⟨fun ⟨a, b⟩ => ⟨fun e he => a e (h.mem_iff.2 he), b⟩, fun ⟨a, b⟩ => ⟨fun e he => a e (h.mem_iff.1 he), b⟩⟩
theorem goodL_len {l : List Pr} (h : goodL l = true) : l.length ≤ 128 := by
  rw [goodL_iff] at h
  have key : ∀ n : Nat, ∀ l : List Int, (∀ z ∈ l, 0 ≤ z ∧ z < (n : Int)) → l.Nodup → l.length ≤ n := by
    intro n
    induction n with
    | zero =>
      intro l h1 _
      cases l with
      | nil => simp
      | cons a l => have := h1 a (by simp); omega
    | succ n ih =>
      intro l h1 h2
      have h3 : (l.filter (fun z => z != (n : Int))).length ≤ n := ih _ (fun z hz => by
        rw [List.mem_filter] at hz
        have := h1 z hz.1
        have h5 : z ≠ (n : Int) := by simpa using hz.2
        omega) (h2.filter _)
      have h4 : l.length ≤ (l.filter (fun z => z != (n : Int))).length + 1 := by
        clear ih h3 h1
        induction l with
        | nil => simp
        | cons a l ih =>
          rw [List.nodup_cons] at h2
          by_cases e : a = (n : Int)
          · have h6 : l.filter (fun z => z != (n : Int)) = l := List.filter_eq_self.2 (fun z hz => by
              have : z ≠ (n : Int) := fun e2 => h2.1 (by rw [e, ← e2]; exact hz)
              simpa using this)
            rw [List.filter_cons, if_neg (by simp [e]), h6]
            simp
          · rw [List.filter_cons, if_pos (by simpa using e)]
            have := ih h2.2
            simp only [List.length_cons]
            omega
      omega
  have h1 := key 128 (l.map (·.1)) (fun z hz => by
    obtain ⟨e, he, rfl⟩ := List.mem_map.1 hz
    have h5 := h.1 e he
    unfold okE at h5
    rw [decide_eq_true_eq] at h5
    exact ⟨h5.1, by omega⟩) h.2
  simpa using h1
/-- The rows of a limbo; with number 3, what was taken. -/
abbrev Rw3 := Nat → List Pr
def allL (r : Rw3) : List Pr := r 0 ++ r 1 ++ r 2
def epochB (E : Nat) (r : Rw3) : Bool := decide (E ≤ 4611686018427387904 ∧ (E < 1 → r 1 = []) ∧ (E < 2 → r 2 = []))
/-- May this limbo be? -/
def rightL (E : Nat) (r : Rw3) : Bool := epochB E r && goodL (allL r)
theorem rightL_iff {E : Nat} {r : Rw3} : rightL E r = true ↔ (E ≤ 4611686018427387904 ∧ (E < 1 → r 1 = []) ∧ (E < 2 → r 2 = [])) ∧ goodL (allL r) = true := by
  unfold rightL epochB
  rw [Bool.and_eq_true, decide_eq_true_eq]
theorem rightL_len {E : Nat} {r : Rw3} (h : rightL E r = true) : (r 0).length + (r 1).length + (r 2).length ≤ 128 := by
  have := goodL_len (rightL_iff.1 h).2
  simpa [allL, Nat.add_assoc] using this
theorem three {k : Nat} (h : k < 3) : k = 0 ∨ k = 1 ∨ k = 2 := by omega
theorem rightL_lenk {E : Nat} {r : Rw3} (h : rightL E r = true) (k : Nat) (hk : k < 3) : (r k).length ≤ 128 := by
  have := rightL_len h
  rcases three hk with rfl | rfl | rfl <;> omega
/-- The epochs of which something may wait. -/
def wtL (E : Nat) : List Nat := List.range' (E - 2) (E + 1 - (E - 2))
theorem wtL_take (E k : Nat) (h : k ≤ E + 1 - (E - 2)) : (wtL E).take k = List.range' (E - 2) k := by
  unfold wtL
  have e : E + 1 - (E - 2) = k + (E + 1 - (E - 2) - k) := by omega
  rw [e, ← List.range'_append_1]
  exact List.take_left' (by simp)
theorem wtL_snoc (o k : Nat) : List.range' o (k + 1) = List.range' o k ++ [o + k] := by
  rw [List.range'_concat, Nat.one_mul]
theorem wtL_pre (E k : Nat) (h : k ≤ E + 1 - (E - 2)) : List.range' (E - 2) k <+: wtL E := by
  rw [← wtL_take E k h]
  exact List.take_prefix _ _
theorem wtL_mem {E k : Nat} (h : k ∈ wtL E) : k ≤ E ∧ E ≤ k + 2 := by
  unfold wtL at h
  rw [List.mem_range'_1] at h
  omega
def heldL (E : Nat) (r : Rw3) : List Pr := (wtL E).flatMap fun k => r (k % 3)
def readyL (E : Nat) (r : Rw3) : List Pr := r ((E + 1) % 3)
def whenL (E : Nat) (r : Rw3) (s : Int) : Option Nat := (wtL E).find? fun k => hasS (r (k % 3)) s
/-- Row k is another one. -/
def updL (r : Rw3) (k : Nat) (l : List Pr) : Rw3 := fun j => if j = k then l else r j
theorem updL_self (r : Rw3) (k : Nat) (l : List Pr) : updL r k l k = l := if_pos rfl
theorem updL_ne (r : Rw3) {k j : Nat} (l : List Pr) (h : j ≠ k) : updL r k l j = r j := if_neg h
theorem wtL_0 : wtL 0 = [0] := rfl
theorem wtL_1 : wtL 1 = [0, 1] := rfl
theorem wtL_2 (E : Nat) : wtL (E + 2) = [E, E + 1, E + 2] := by
  unfold wtL
  rw [show E + 2 - 2 = E by omega, show E + 2 + 1 - E = 3 by omega]
  rfl
theorem heldL_2 (E : Nat) (r : Rw3) : heldL (E + 2) r = r (E % 3) ++ r ((E + 1) % 3) ++ r ((E + 2) % 3) := by
  unfold heldL
  rw [wtL_2]
  simp
theorem heldL_0 (r : Rw3) : heldL 0 r = r 0 := by simp [heldL, wtL_0]
theorem heldL_1 (r : Rw3) : heldL 1 r = r 0 ++ r 1 := by simp [heldL, wtL_1]
theorem rot {α : Type} (a b c : List α) : (b ++ c ++ a).Perm (a ++ b ++ c) := by
  rw [List.append_assoc a b c]
  exact List.perm_append_comm
theorem two_more (E : Nat) : E = 0 ∨ E = 1 ∨ ∃ F, E = F + 2 := by
  match E with
  | 0 => exact .inl rfl
  | 1 => exact .inr (.inl rfl)
  | F + 2 => exact .inr (.inr ⟨F, rfl⟩)
theorem heldL_perm {E : Nat} {r : Rw3} (h1 : E < 1 → r 1 = []) (h2 : E < 2 → r 2 = []) : (heldL E r).Perm (allL r) := by
  rcases two_more E with rfl | rfl | ⟨F, rfl⟩
  · rw [heldL_0]
    unfold allL
    rw [h1 (by omega), h2 (by omega)]
    simp
  · rw [heldL_1]
    unfold allL
    rw [h2 (by omega)]
    simp
  · rw [heldL_2]
    unfold allL
    rcases (by omega : F % 3 = 0 ∨ F % 3 = 1 ∨ F % 3 = 2) with e | e | e
    · rw [e, show (F + 1) % 3 = 1 by omega, show (F + 2) % 3 = 2 by omega]
    · rw [e, show (F + 1) % 3 = 2 by omega, show (F + 2) % 3 = 0 by omega]
      exact rot _ _ _
    · rw [e, show (F + 1) % 3 = 0 by omega, show (F + 2) % 3 = 1 by omega]
      exact (rot _ _ _).trans (rot _ _ _)
theorem hasS_perm {l m : List Pr} (h : l.Perm m) (s : Int) : hasS l s = hasS m s := by
  rw [Bool.eq_iff_iff, hasS_iff, hasS_iff]
  exact ⟨fun ⟨e, h1, h2⟩ => ⟨e, h.mem_iff.1 h1, h2⟩, fun ⟨e, h1, h2⟩ => ⟨e, h.mem_iff.2 h1, h2⟩⟩
theorem whenL_some {E : Nat} {r : Rw3} {s : Int} : (whenL E r s).isSome = hasS (heldL E r) s := by
  unfold whenL heldL
  generalize wtL E = l
  induction l with
  | nil => rfl
  | cons a l ih =>
    rw [List.flatMap_cons, hasS_app, List.find?_cons]
    cases h : hasS (r (a % 3)) s
    · simpa using ih
    · rfl
theorem find_snoc {α : Type} (p : α → Bool) (l : List α) (x : α) (h : l.find? p = none) : (l ++ [x]).find? p = if p x then some x else none := by
  rw [List.find?_append, h]
  simp only [Option.none_or, List.find?_cons, List.find?_nil]
  cases p x <;> rfl
/-- What comes: the error, the Epoch, the rows. -/
abbrev Rl := Int × Nat × Rw3
def retN (E : Nat) (r : Rw3) (e : Pr) : Rl := if okE e = false then (2, E, r) else if (whenL E r e.1).isSome then (5, E, r) else (0, E, updL r (E % 3) (r (E % 3) ++ [e]))
def advN (E : Nat) (r : Rw3) : Rl := if readyL E r ≠ [] then (241, E, r) else if E = 4611686018427387904 then (6, E, r) else (0, E + 1, r)
/-- The rows without the first one that is ready. -/
def takR (E : Nat) (r : Rw3) : Rw3 := updL (updL r 3 (r 3 ++ [(readyL E r).headD (0, 0)])) ((E + 1) % 3) (readyL E r).tail
def takN (E : Nat) (r : Rw3) : Rl := if readyL E r = [] then (4, E, r) else (0, E, takR E r)
/-- .. without all that is. -/
def takA (E : Nat) (r : Rw3) : Rw3 := updL (updL r 3 (r 3 ++ readyL E r)) ((E + 1) % 3) []
def onN (E : Nat) (r : Rw3) : Rl := advN E (takA E r)
def stepN (E : Nat) (r : Rw3) (e : Pr) : Rl := if e.1 < 0 then onN E r else retN E r e
def runL : Nat → Rw3 → List Pr → Rl
  | E, r, [] => (0, E, r)
  | E, r, e :: l => if (stepN E r e).1 = 0 then runL (stepN E r e).2.1 (stepN E r e).2.2 l else stepN E r e
theorem runL_next (E : Nat) (r : Rw3) (l : List Pr) (k : Nat) (h : k < l.length) : runL E r (l.drop k) = if (stepN E r l[k]).1 = 0 then runL (stepN E r l[k]).2.1 (stepN E r l[k]).2.2 (l.drop (k + 1)) else stepN E r l[k] := by
  rw [List.drop_eq_getElem_cons h]
  rfl
/-- What is tried. -/
def tryL (E : Nat) (r : Rw3) (R : Rl) : Rl := if rightL E r then (if R.1 = 0 then R else (R.1, 0, fun _ => [])) else (240, 0, fun _ => [])
end Go.Proofs
