/- What a run leaves, undone by its marks; what its marks say of a cell. -/
import Derived.Test.YtafccppobhhelaaHeld
import Derived.Test.YtafccppobhhelaaCk
namespace Go.Proofs

theorem set_same (ws : List Int) (i : Nat) : ws.set i (ws[i]?.getD 0) = ws := by
  apply List.ext_getElem?
  intro j
  rw [List.getElem?_set]
  by_cases h : i = j
  · subst h
    by_cases h2 : i < ws.length
    · simp [h2]
    · simp [h2]
  · simp [h]
theorem wordsOf_still (ws : List Int) (kind pl old new : Int) (hk : 1 ≤ kind ∧ kind ≤ 4) (h : (doneOf kind old (ws[pl.toNat]?.getD 0) && kind != 1) = false) : wordsOf ws kind pl old new = ws := by
  unfold wordsOf
  rw [nextOf_same hk ?_]
  · exact set_same ws _
  · rintro ⟨h1, h2⟩
    simp [h2, h1] at h
theorem errRow_each (n : Nat) (l : List Acc) (h : errRow n l = 0) : ∀ a ∈ l, whyOf n a = 0 := by
  induction l with
  | nil => simp
  | cons b r ih =>
    simp only [errRow] at h
    split at h
    · rename_i hb
      intro a ha
      rcases List.mem_cons.1 ha with rfl | ha
      · exact hb
      · exact ih h a ha
    · rename_i hb
      exact absurd h hb
theorem whyOf_zero {n : Nat} {a : Acc} (h : whyOf n a = 0) : (1 ≤ a.kind ∧ a.kind ≤ 4) ∧ 0 ≤ a.pl ∧ a.pl < (n : Int) := by
  unfold whyOf why at h
  split at h
  · omega
  · split at h
    · omega
    · split at h
      · omega
      · omega
theorem run_back (ws : List Int) (l : List Acc) (he : errRow ws.length l = 0) (k : Nat) (hk : k ≤ l.length) : backAll (runTo ws l k).ws (runTo ws l k).marks.reverse = some ws := by
  induction k with
  | zero => rfl
  | succ k ih =>
    have hkl : k < l.length := hk
    have ih' := ih (by omega)
    clear ih
    rw [runTo_succ ws l k hkl]
    obtain ⟨hkd, hp0, hp1⟩ := whyOf_zero (errRow_each _ _ he l[k] (List.getElem_mem _))
    obtain ⟨n1, n2, n3⟩ := runTo_lens ws l k (by omega)
    clear n2 n3
    generalize l[k] = a at *
    generalize runTo ws l k = s at *
    unfold St.step
    dsimp only
    by_cases hl : leaves a (s.ws[a.pl.toNat]?.getD 0) = true
    · rw [if_pos hl, List.reverse_append]
      have hlt : a.pl.toNat < s.ws.length := by omega
      simp only [List.reverse_cons, List.reverse_nil, List.nil_append, List.cons_append, backAll]
      have hb : backOne (wordsOf s.ws a.kind a.pl a.old a.new) ⟨s.seens.length, a.pl, s.ws[a.pl.toNat]?.getD 0, (wordsOf s.ws a.kind a.pl a.old a.new)[a.pl.toNat]?.getD 0⟩ = some s.ws := by
        unfold backOne
        rw [if_pos ⟨hp0, by rw [wordsOf_length, n1]; exact hp1, rfl⟩]
        unfold wordsOf
        dsimp only
        rw [List.set_set, set_same]
      rw [hb]
      exact ih'
    · rw [if_neg hl]
      rw [wordsOf_still s.ws a.kind a.pl a.old a.new hkd (by unfold leaves at hl; simpa using hl)]
      exact ih'
/-- What the marks of the first k accesses say of cell i. -/
def Says (ws : List Int) (l : List Acc) (i k : Nat) (s : St) : Prop :=
  ((s.marks.filter fun m => m.pl == (i : Int)) = [] ∧ s.ws[i]?.getD 0 = ws[i]?.getD 0) ∨
  (∃ m0 r m1 r' j, (s.marks.filter fun m => m.pl == (i : Int)) = m0 :: r ∧ (s.marks.filter fun m => m.pl == (i : Int)) = r' ++ [m1] ∧ m0.was = ws[i]?.getD 0 ∧ m1.is = s.ws[i]?.getD 0 ∧ m1.no = ((j : Nat) : Int) ∧ j < k ∧ (l[j]?).map (fun a => a.pl) = some (i : Int) ∧ (s.seens[j]?).map Prod.snd = some true)
theorem run_says (ws : List Int) (l : List Acc) (he : errRow ws.length l = 0) (i : Nat) (k : Nat) (hk : k ≤ l.length) : Says ws l i k (runTo ws l k) := by
  induction k with
  | zero => exact .inl ⟨rfl, rfl⟩
  | succ k ih =>
    have hkl : k < l.length := hk
    have ih' := ih (by omega)
    clear ih
    rw [runTo_succ ws l k hkl]
    obtain ⟨hkd, hp0, hp1⟩ := whyOf_zero (errRow_each _ _ he l[k] (List.getElem_mem _))
    obtain ⟨n1, n2, n3⟩ := runTo_lens ws l k (by omega)
    clear n3
    have hla : l[k]? = some l[k] := List.getElem?_eq_getElem hkl
    generalize l[k] = a at *
    generalize runTo ws l k = s at *
    have hsee : ∀ (j : Nat) x, j < k → ((s.seens ++ [x])[j]?).map Prod.snd = (s.seens[j]?).map Prod.snd := fun j x hj => by rw [List.getElem?_append_left (by omega)]
    unfold St.step
    by_cases hl : leaves a (s.ws[a.pl.toNat]?.getD 0) = true
    · by_cases hi : a.pl = (i : Int)
      · have hti : a.pl.toNat = i := by omega
        have hlt : i < s.ws.length := by omega
        have hdn : doneOf a.kind a.old (s.ws[i]?.getD 0) = true := by
          unfold leaves at hl
          rw [hti] at hl
          simp at hl
          exact hl.1
        have hse : ((s.seens ++ [(s.ws[i]?.getD 0, doneOf a.kind a.old (s.ws[i]?.getD 0))])[k]?).map Prod.snd = some true := by
          rw [List.getElem?_append_right (by omega), n2, Nat.sub_self, hdn]
          rfl
        have hlk : (l[k]?).map (fun a => a.pl) = some (i : Int) := by rw [hla]; simp [hi]
        have hq : (a.pl == (i : Int)) = true := by simp [hi]
        unfold Says
        dsimp only
        rw [if_pos hl, List.filter_append]
        simp only [List.filter_cons, List.filter_nil, hq, if_true]
        rw [hti]
        rcases ih' with ⟨h1, h2⟩ | ⟨m0, r, m1, r', j, h1, h2, h3, h4, h5, h6, h7, h8⟩
        · exact .inr ⟨_, [], _, [], k, by rw [h1]; rfl, by rw [h1], h2, rfl, by show ((s.seens.length : Nat) : Int) = _; rw [n2], by omega, hlk, hse⟩
        · exact .inr ⟨m0, _, _, _, k, by rw [h1]; rfl, rfl, h3, rfl, by show ((s.seens.length : Nat) : Int) = _; rw [n2], by omega, hlk, hse⟩
      · have hq : (a.pl == (i : Int)) = false := by simp [hi]
        have hw : (wordsOf s.ws a.kind a.pl a.old a.new)[i]?.getD 0 = s.ws[i]?.getD 0 := by
          unfold wordsOf
          rw [List.getElem?_set_ne (by omega)]
        unfold Says
        dsimp only
        rw [if_pos hl, List.filter_append]
        simp only [List.filter_cons, List.filter_nil, hq, Bool.false_eq_true, if_false, List.append_nil]
        rw [hw]
        rcases ih' with h | ⟨m0, r, m1, r', j, h1, h2, h3, h4, h5, h6, h7, h8⟩
        · exact .inl h
        · exact .inr ⟨m0, r, m1, r', j, h1, h2, h3, h4, h5, by omega, h7, by rw [hsee j _ h6]; exact h8⟩
    · have hw : wordsOf s.ws a.kind a.pl a.old a.new = s.ws := wordsOf_still s.ws a.kind a.pl a.old a.new hkd (by unfold leaves at hl; simpa using hl)
      unfold Says
      dsimp only
      rw [if_neg hl, hw]
      rcases ih' with h | ⟨m0, r, m1, r', j, h1, h2, h3, h4, h5, h6, h7, h8⟩
      · exact .inl h
      · exact .inr ⟨m0, r, m1, r', j, h1, h2, h3, h4, h5, by omega, h7, by rw [hsee j _ h6]; exact h8⟩
theorem lastOf_none {at_ : Int} {ms : List Mk} (h : (ms.filter fun m => m.pl == at_) = []) : lastOf at_ ms = (0, false) := by
  unfold lastOf
  rw [List.filter_reverse, h]
  rfl
theorem lastOf_some {at_ : Int} {ms r : List Mk} {m : Mk} (h : (ms.filter fun m => m.pl == at_) = r ++ [m]) : lastOf at_ ms = (m.no, true) := by
  unfold lastOf
  rw [List.filter_reverse, h, List.reverse_append]
  rfl
theorem heldOf_first {f r : List Mk} {m : Mk} (h : f = m :: r) : (heldOf f)[0]?.getD 0 = m.was := by
  subst h
  rfl
theorem heldOf_last {f r : List Mk} {m : Mk} (h : f = r ++ [m]) : (heldOf f)[(heldOf f).length - 1]?.getD 0 = m.is := by
  subst h
  by_cases hr : r = []
  · subst hr; rfl
  · rw [heldOf_snoc r m hr, List.length_append]
    simp
end Go.Proofs
