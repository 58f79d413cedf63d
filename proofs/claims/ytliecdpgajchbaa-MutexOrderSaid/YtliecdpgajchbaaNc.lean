/- Maths: mutexes that are asked for in their order. -/
import Derived.Test.YtliecdpgajchbaaNb
namespace Go.Proofs
open Go.RowKit Go.Shelf
attribute [local go_sem] Oper.semAt_some

theorem q_uniq {ms : List Mx} (hn : (flatQ ms).Nodup) {i k : Nat} (hi : i < ms.length) (hk : k < ms.length) {g : Int} (h1 : g ∈ ms[i].q) (h2 : g ∈ ms[k].q) : i = k := by
  have key : ∀ (i k : Nat) (hi : i < ms.length) (hk : k < ms.length), g ∈ ms[i].q → g ∈ ms[k].q → i < k → False := fun i k hi hk h1 h2 hlt => by
    rw [self_split ms k hk, flatQ_split, List.nodup_append] at hn
    refine hn.2.2 g (mem_flatQ.2 ⟨ms[i], ?_, h1⟩) g (by simp [h2]) rfl
    have : (ms.take k)[i]'(by rw [List.length_take]; omega) = ms[i] := List.getElem_take
    rw [← this]
    exact List.getElem_mem _
  rcases Nat.lt_trichotomy i k with h | h | h
  · exact absurd (key i k hi hk h1 h2 h) id
  · exact h
  · exact absurd (key k i hk hi h2 h1 h) id

/-- Who waits has only mutexes that are less. -/
def OrdB (ms : List Mx) : Prop := rightB ms = true ∧ ∀ i j (hi : i < ms.length) (hj : j < ms.length) (g : Int), g ∈ ms[i].q → ms[j].own = g + 1 → j < i
theorem ord_free (n : Nat) (h : 1 ≤ n ∧ n ≤ 160) : OrdB (freeM n) := by
  refine ⟨?_, fun i j hi hj g hg => ?_⟩
  · rw [rightB_iff]
    refine ⟨by simp [freeM]; omega, fun m hm => ?_, ?_⟩
    · rw [freeM, List.mem_replicate] at hm
      obtain ⟨_, rfl⟩ := hm
      exact ⟨by decide, by simp⟩
    · have : flatQ (freeM n) = [] := by
        rw [List.eq_nil_iff_forall_not_mem]
        intro g hg
        obtain ⟨m, hm, hq⟩ := mem_flatQ.1 hg
        rw [freeM, List.mem_replicate] at hm
        obtain ⟨_, rfl⟩ := hm
        simp at hq
      rw [this]
      exact List.nodup_nil
  · simp [freeM] at hg
theorem ord_ask {ms : List Mx} {which goer : Int} (ho : OrdB ms) (h : askE ms which goer = 0) (hc : ∀ (j : Nat) (hj : j < ms.length), ms[j].own = goer + 1 → (j : Int) < which) : OrdB (askS ms which goer) := by
  refine ⟨right_ask ho.1 h, fun i j hi hj g hg hjo => ?_⟩
  obtain ⟨hb, h1, h2⟩ := askE_ok h
  obtain ⟨⟨hw1, hw2⟩, hg1, hg2⟩ := argB_iff.1 hb
  have hng := waitsB_none.1 h2
  obtain ⟨k, rfl⟩ : ∃ k : Nat, which = (k : Int) := ⟨which.toNat, by omega⟩
  have hk : k < ms.length := by omega
  have hi2 : i < ms.length := by rw [ask_len] at hi; exact hi
  have hj2 : j < ms.length := by rw [ask_len] at hj; exact hj
  obtain ⟨hok, -⟩ := right_at hk ho.1
  simp only [okB, decide_eq_true_eq] at hok
  by_cases h0 : ms[k].own = 0
  · have hS : askS ms k goer = ms.set k ⟨goer + 1, ms[k].q⟩ := by unfold askS; rw [atM_eq hk, Int.toNat_natCast, if_pos h0]
    have hq0 : ms[k].q = [] := List.eq_nil_of_length_eq_zero (hok.2.2 h0)
    simp only [hS, List.getElem_set] at hg hjo
    have hgi : g ∈ ms[i].q := by
      split at hg
      · rw [hq0] at hg; cases hg
      · exact hg
    split at hjo
    · exfalso
      have e : goer = g := by have : goer + 1 = g + 1 := hjo; omega
      subst e
      exact hng (mem_flatQ.2 ⟨_, List.getElem_mem hi2, hgi⟩)
    · exact ho.2 i j hi2 hj2 g hgi hjo
  · have hS : askS ms k goer = ms.set k ⟨ms[k].own, ms[k].q ++ [goer]⟩ := by unfold askS; rw [atM_eq hk, Int.toNat_natCast, if_neg h0]
    simp only [hS, List.getElem_set] at hg hjo
    have hjo2 : ms[j].own = g + 1 := by
      split at hjo
      · rename_i e; subst e; exact hjo
      · exact hjo
    split at hg
    · rename_i e
      subst e
      rcases List.mem_append.1 hg with hg | hg
      · exact ho.2 _ j hi2 hj2 g hg hjo2
      · simp at hg
        subst hg
        have := hc j hj2 hjo2
        omega
    · exact ho.2 i j hi2 hj2 g hg hjo2
theorem ord_leave {ms : List Mx} {which goer : Int} (ho : OrdB ms) (h : leaveE ms which goer = 0) : OrdB (leaveS ms which) := by
  refine ⟨right_leave ho.1 h, fun i j hi hj g hg hjo => ?_⟩
  obtain ⟨hb, h1⟩ := leaveE_ok h
  obtain ⟨⟨hw1, hw2⟩, hg1, hg2⟩ := argB_iff.1 hb
  obtain ⟨k, rfl⟩ : ∃ k : Nat, which = (k : Int) := ⟨which.toNat, by omega⟩
  have hk : k < ms.length := by omega
  have hi2 : i < ms.length := by rw [leave_len] at hi; exact hi
  have hj2 : j < ms.length := by rw [leave_len] at hj; exact hj
  have hnd := ((rightB_iff ms).1 ho.1).2.2
  have hkn := queue_nodup hk ho.1
  have hS : leaveS ms k = ms.set k (leaveX ms[k].q) := by unfold leaveS; rw [atM_eq hk, Int.toNat_natCast]
  simp only [hS, List.getElem_set] at hg hjo
  have hgi : g ∈ ms[i].q := by
    split at hg
    · rename_i e
      subst e
      cases hc : ms[k].q with
      | nil => rw [hc] at hg; simp [leaveX] at hg
      | cons z t => rw [hc] at hg; simp only [leaveX] at hg; exact List.mem_cons_of_mem _ hg
    · exact hg
  split at hjo
  · rename_i e
    subst e
    exfalso
    have hg0 := ((right_at hi2 ho.1).2 g hgi).1
    simp [goerB] at hg0
    cases hc : ms[k].q with
    | nil =>
      rw [hc] at hjo
      have : (0 : Int) = g + 1 := hjo
      omega
    | cons z t =>
      rw [hc] at hjo hkn
      have e : z = g := by have : z + 1 = g + 1 := hjo; omega
      subst e
      have hzk : z ∈ ms[k].q := by rw [hc]; simp
      have hik := q_uniq hnd hi2 hk hgi hzk
      subst hik
      rw [if_pos rfl, hc] at hg
      simp only [leaveX] at hg
      exact (List.nodup_cons.1 hkn).1 hg
  · exact ho.2 i j hi2 hj2 g hgi hjo

/-- Who waits, waits for one who waits further on, if at all. -/
theorem ord_next {ms : List Mx} (ho : OrdB ms) {g : Int} (h : waitsB ms g ≠ -1) : 0 ≤ nxB ms g ∧ nxB ms g ≤ 7 ∧ (waitsB ms (nxB ms g) ≠ -1 → waitsB ms g < waitsB ms (nxB ms g)) := by
  obtain ⟨i, hi⟩ : ∃ i : Nat, waitsB ms g = (i : Int) := by
    rcases waitsB_le ms g with e | e
    · exact absurd e h
    · exact ⟨(waitsB ms g).toNat, by omega⟩
  obtain ⟨hil, hnx, h0, h7⟩ := nx_some ho.1 hi
  refine ⟨h0, h7, fun h2 => ?_⟩
  obtain ⟨j, hj⟩ : ∃ j : Nat, waitsB ms (nxB ms g) = (j : Int) := by
    rcases waitsB_le ms (nxB ms g) with e | e
    · exact absurd e h2
    · exact ⟨(waitsB ms (nxB ms g)).toNat, by omega⟩
  obtain ⟨hjl, hjq⟩ := waitsB_at hj
  have := ho.2 j i hjl hil _ hjq (by omega)
  omega
theorem chase_far {ms : List Mx} (ho : OrdB ms) (first : Int) (n : Nat) (cur : Int) (l : List Int) (h : chase (nxB ms) first n cur = some l) : waitsB ms cur ≠ -1 ∧ ∃ x, waitsB ms x ≠ -1 ∧ waitsB ms cur ≤ waitsB ms x ∧ nxB ms x = first := by
  induction n generalizing cur l with
  | zero => cases h
  | succ n ih =>
    unfold chase at h
    split at h
    · cases h
    · rename_i h0
      have hw : waitsB ms cur ≠ -1 := fun e => h0 (by rw [nx_none e]; decide)
      refine ⟨hw, ?_⟩
      split at h
      · rename_i h1
        exact ⟨cur, hw, Int.le_refl _, h1⟩
      · rw [Option.map_eq_some_iff] at h
        obtain ⟨y, hy, -⟩ := h
        obtain ⟨h1, x, h2, h3, h4⟩ := ih _ _ hy
        have := (ord_next ho hw).2.2 h1
        exact ⟨x, h2, by omega, h4⟩
theorem ord_chase {ms : List Mx} (ho : OrdB ms) (n : Nat) (k : Int) : chase (nxB ms) k n k = none := by
  cases h : chase (nxB ms) k n k with
  | none => rfl
  | some l =>
    exfalso
    obtain ⟨h1, x, h2, h3, h4⟩ := chase_far ho k n k l h
    have := (ord_next ho h2).2.2 (by rw [h4]; exact h1)
    rw [h4] at this
    omega
theorem ord_ring {ms : List Mx} (ho : OrdB ms) : ringR ms = [] := by
  unfold ringR
  rw [if_pos ho.1]
  have key : ∀ n k, ringG (nxB ms) n k = [] := fun n => by
    induction n with
    | zero => intro k; rfl
    | succ n ih => intro k; rw [ringG_none (ord_chase ho 8 k)]; exact ih _
  exact key _ _
theorem ord_free_one {ms : List Mx} (ho : OrdB ms) : ∃ g : Nat, g < 8 ∧ waitsB ms g = -1 := by
  apply Classical.byContradiction
  intro hn
  have hall : ∀ g : Int, 0 ≤ g → g ≤ 7 → waitsB ms g ≠ -1 := fun g h0 h7 e => hn ⟨g.toNat, by omega, by rw [show ((g.toNat : Nat) : Int) = g by omega]; exact e⟩
  have key : ∀ n : Nat, ∃ g : Int, 0 ≤ g ∧ g ≤ 7 ∧ (n : Int) ≤ waitsB ms g := fun n => by
    induction n with
    | zero =>
      refine ⟨0, by decide, by decide, ?_⟩
      have := hall 0 (by decide) (by decide)
      rcases waitsB_le ms 0 with e | e
      · exact absurd e this
      · omega
    | succ n ih =>
      obtain ⟨g, h0, h7, hw⟩ := ih
      obtain ⟨a, b, c⟩ := ord_next ho (hall g h0 h7)
      have := c (hall _ a b)
      exact ⟨_, a, b, by omega⟩
  obtain ⟨g, h0, h7, hw⟩ := key 160
  have hl := ((rightB_iff ms).1 ho.1).1.2
  rcases waitsB_le ms g with e | e <;> omega

theorem hasF_ge (g : Int) (l : List Mx) (k : Nat) (x : Int) (h : x ∈ hasF g k l) : (k : Int) ≤ x := by
  induction l generalizing k with
  | nil => simp [hasF] at h
  | cons m t ih =>
    unfold hasF at h
    split at h
    · rcases List.mem_cons.1 h with rfl | h
      · exact Int.le_refl _
      · have := ih _ h; omega
    · have := ih _ h; omega
theorem hasF_last (g : Int) (l : List Mx) (k : Nat) (x y : Int) (h : x ∈ hasF g k l) (hy : (hasF g k l).getLast? = some y) : x ≤ y := by
  induction l generalizing k with
  | nil => simp [hasF] at h
  | cons m t ih =>
    unfold hasF at h hy
    split at h
    · rename_i hm
      rw [if_pos hm] at hy
      cases hc : hasF g (k + 1) t with
      | nil =>
        rw [hc] at h hy
        simp at h hy
        omega
      | cons z u =>
        have hyt : (hasF g (k + 1) t).getLast? = some y := by
          rw [hc] at hy ⊢
          rw [List.getLast?_cons_cons] at hy
          exact hy
        rcases List.mem_cons.1 h with rfl | h
        · have := hasF_ge g t (k + 1) y (List.mem_of_getLast? hyt)
          omega
        · exact ih _ h hyt
    · rename_i hm
      rw [if_neg hm] at hy
      exact ih _ h hy
theorem mem_hasF2 (g : Int) (l : List Mx) (k i : Nat) (h : i < l.length) (ho : l[i].own = g + 1) : ((k + i : Nat) : Int) ∈ hasF g k l := by
  induction l generalizing k i with
  | nil => simp at h
  | cons m t ih =>
    unfold hasF
    cases i with
    | zero =>
      simp only [List.getElem_cons_zero] at ho
      rw [if_pos ho]
      simp
    | succ i =>
      simp only [List.getElem_cons_succ] at ho
      have := ih (k + 1) i (by simpa using h) ho
      rw [show k + 1 + i = k + (i + 1) by omega] at this
      split
      · exact List.mem_cons_of_mem _ this
      · exact this
theorem has_less {ms : List Mx} {g : Int} (hr : rightB ms = true) (hg : goerB g = true) {which : Int} (h : (hasR ms g).length = 0 ∨ (hasR ms g)[(hasR ms g).length - 1]?.getD 0 < which) (j : Nat) (hj : j < ms.length) (ho : ms[j].own = g + 1) : (j : Int) < which := by
  have e : hasR ms g = hasF g 0 ms := by unfold hasR hasB; rw [if_pos ⟨hg, hr⟩]
  rw [e] at h
  have hm := mem_hasF2 g ms 0 j hj ho
  rw [Nat.zero_add] at hm
  have hpos : 0 < (hasF g 0 ms).length := List.length_pos_of_mem hm
  rcases h with h | h
  · omega
  · rw [← List.getLast?_eq_getElem?] at h
    cases hl : (hasF g 0 ms).getLast? with
    | none => rw [List.getLast?_eq_none_iff] at hl; rw [hl] at hpos; simp at hpos
    | some y =>
      rw [hl] at h
      have := hasF_last g ms 0 j y hm hl
      simp at h
      omega

theorem ord_play {ms : List Mx} (ho : OrdB ms) (d : Dd) (hg : 0 ≤ d.goer ∧ d.goer ≤ 7) (hw : 0 ≤ d.which ∧ d.which < ms.length) (hc : d.lv = true ∨ (hasR ms d.goer).length = 0 ∨ (hasR ms d.goer)[(hasR ms d.goer).length - 1]?.getD 0 < d.which) :
    (∃ ms' p, playP ms [d] = (0, ms', p) ∧ OrdB ms' ∧ ms'.length = ms.length) ∨ (playP ms [d]).1 = 4 ∨ (playP ms [d]).1 = 151 := by
  have hP : playP ms [d] = playR ms 0 [d] := by
    unfold playP
    first | rw [if_pos ho.1] | (unfold resR; rw [if_pos ho.1])
  rw [hP]
  have hgb : goerB d.goer = true := by simp [goerB]; omega
  by_cases hwt : waitsB ms d.goer = -1
  · by_cases he : deedE ms d = 0
    · refine .inl ⟨deedS ms d, 0, by rw [playR_ok hwt he]; rfl, ?_, deed_len ms d⟩
      unfold deedE at he
      unfold deedS
      split at he <;> rename_i h2
      · rw [if_pos h2]; exact ord_leave ho he
      · rw [if_neg h2]
        refine ord_ask ho he (has_less ho.1 hgb ?_)
        rcases hc with h | h
        · exact absurd h h2
        · exact h
    · refine .inr ?_
      rw [playR_err hwt he]
      show deedE ms d = 4 ∨ deedE ms d = 151
      have harg : argB ms d.which d.goer = true := argB_iff.2 ⟨by omega, by omega, by omega⟩
      unfold deedE at he ⊢
      split at he <;> rename_i h2
      · rw [if_pos h2]
        unfold leaveE at he ⊢
        rw [if_pos harg] at he ⊢
        split at he
        · exact absurd rfl he
        · rename_i h3; rw [if_neg h3]; exact .inl rfl
      · rw [if_neg h2]
        unfold askE at he ⊢
        rw [if_pos harg] at he ⊢
        split at he
        · rename_i h3; rw [if_pos h3]; exact .inr rfl
        · exact absurd rfl he
  · exact .inl ⟨ms, 1, by rw [playR_wait hwt]; rfl, ho, rfl⟩
end Go.Proofs
