/- Arena: maths of what is taken, retired, and given back. -/
import Derived.Test.YtmcancccihffhaaAs
namespace Go.Proofs

/-- Entries of slabs of a tag, no two of one slab. -/
def Good (l : List Pr) (t : Int) (es : List Pr) : Prop := (es.map (·.1)).Nodup ∧ ∀ e ∈ es, ∃ j : Nat, e.1 = (j : Int) ∧ ∃ h : j < l.length, l[j] = (t, e.2)
def hasI (es : List Pr) (j : Nat) : Bool := es.any fun e => decide (e.1 = (j : Int))
theorem cnt_set (l : List Pr) (j : Nat) (hj : j < l.length) (x : Pr) (s : Int) : cnt (l.set j x) s + (if l[j].1 = s then 1 else 0) = cnt l s + (if x.1 = s then 1 else 0) := by
  induction l generalizing j with
  | nil => simp at hj
  | cons y l ih =>
    have e : ∀ (x : Pr) (m : List Pr), cnt (x :: m) s = cnt m s + (if x.1 = s then 1 else 0) := fun x m => by unfold cnt; rw [List.countP_cons]; simp
    cases j with
    | zero => simp only [List.set_cons_zero, e, List.getElem_cons_zero]; omega
    | succ j =>
      have h := ih j (by simpa using hj)
      simp only [List.set_cons_succ, e, List.getElem_cons_succ] at h ⊢
      omega
theorem each_all {E : List Pr → Pr → Int} {S : List Pr → Pr → List Pr} {t t' : Int} (hne : t ≠ t') {nx : Nat → Nat} {P : Pr → Prop}
    (hE : ∀ (l : List Pr) (e : Pr) (j : Nat) (hj : j < l.length), e.1 = (j : Int) → l[j] = (t, e.2) → P e → E l e = 0 ∧ S l e = l.set j (t', nx e.2)) :
    ∀ (es l : List Pr), Good l t es → (∀ e ∈ es, P e) → ∃ l', eachR E S l es = (0, l') ∧ ∃ hl : l'.length = l.length, (∀ s, cnt l' s + (if s = t then es.length else 0) = cnt l s + (if s = t' then es.length else 0)) ∧
      ∀ j (hj : j < l.length), l'[j]'(by omega) = if hasI es j then (t', nx l[j].2) else l[j]
  | [], l, _, _ => ⟨l, rfl, rfl, fun s => by simp, fun j hj => by simp [hasI]⟩
  | e :: es, l, hg, hp => by
    obtain ⟨j, hj1, hj, hlj⟩ := hg.2 e List.mem_cons_self
    obtain ⟨h0, h1⟩ := hE l e j hj hj1 hlj (hp e List.mem_cons_self)
    have hnd := List.nodup_cons.1 (by have := hg.1; rwa [List.map_cons] at this)
    have hoth : ∀ x ∈ es, x.1 ≠ (j : Int) := fun x hx h => hnd.1 (by rw [hj1, ← h]; exact List.mem_map_of_mem hx)
    have hg2 : Good (S l e) t es := by
      refine ⟨hnd.2, fun x hx => ?_⟩
      obtain ⟨i, hi1, hi, hli⟩ := hg.2 x (List.mem_cons_of_mem _ hx)
      have hij : j ≠ i := fun h => hoth x hx (by rw [hi1, h])
      rw [h1]
      exact ⟨i, hi1, by rw [List.length_set]; exact hi, by rw [List.getElem_set_ne hij]; exact hli⟩
    obtain ⟨l', r1, r2, r3, r4⟩ := each_all hne hE es (S l e) hg2 fun x hx => hp x (List.mem_cons_of_mem _ hx)
    have hsl : (S l e).length = l.length := by rw [h1, List.length_set]
    refine ⟨l', by rw [eachR_step, if_pos h0, r1], r2.trans hsl, fun s => ?_, fun i hi => ?_⟩
    · have h3 := r3 s
      have h4 := cnt_set l j hj (t', nx e.2) s
      rw [← h1, hlj] at h4
      dsimp only at h4
      rw [List.length_cons]
      by_cases e1 : s = t
      · subst e1
        have e2 : ¬ s = t' := hne
        rw [if_pos rfl, if_neg e2] at h3 ⊢
        rw [if_pos rfl, if_neg (fun h => e2 h.symm)] at h4
        omega
      · by_cases e2 : s = t'
        · subst e2
          rw [if_neg e1, if_pos rfl] at h3 ⊢
          rw [if_neg (fun h => e1 h.symm), if_pos rfl] at h4
          omega
        · rw [if_neg e1, if_neg e2] at h3 ⊢
          rw [if_neg (fun h => e1 h.symm), if_neg (fun h => e2 h.symm)] at h4
          omega
    · have h4 := r4 i (by rw [hsl]; exact hi)
      rw [h4]
      by_cases hij : i = j
      · subst hij
        have hn : hasI es i = false := by
          unfold hasI
          rw [List.any_eq_false]
          intro x hx
          simpa using hoth x hx
        have hy : hasI (e :: es) i = true := by unfold hasI; simp [hj1]
        simp only [hn, hy, h1, if_true, List.getElem_set_self, hlj]
        simp
      · have hs : hasI (e :: es) i = hasI es i := by
          unfold hasI
          rw [List.any_cons, decide_eq_false (by rw [hj1]; omega), Bool.false_or]
        have hge : (S l e)[i]'(by rw [hsl]; exact hi) = l[i] := by
          simp only [h1]
          exact List.getElem_set_ne (fun h => hij h.symm) _
        rw [hs, hge]
theorem ret_hE (l : List Pr) (e : Pr) (j : Nat) (hj : j < l.length) (h1 : e.1 = (j : Int)) (h2 : l[j] = (1, e.2)) (_ : True) : retE l e = 0 ∧ retS l e = l.set j (2, id e.2) := by
  have h := tagA_at h1 hj (by rw [h2])
  refine ⟨?_, ?_⟩
  · unfold retE; rw [h.2, h2]; rfl
  · unfold retS; rw [h1, Int.toNat_natCast]; rfl
theorem giv_hE {t : Int} (ht : t ≠ 0) (l : List Pr) (e : Pr) (j : Nat) (hj : j < l.length) (h1 : e.1 = (j : Int)) (h2 : l[j] = (t, e.2)) (h3 : e.2 ≠ 1099511627775) : givE l e = 0 ∧ givS l e = l.set j (0, e.2 + 1) := by
  have h := tagA_at h1 hj (by rw [h2])
  refine ⟨?_, ?_⟩
  · unfold givE; rw [h.2, h2, if_neg ht, if_neg h3]
  · unfold givS; rw [h1, Int.toNat_natCast]
theorem eachR_ok {E : List Pr → Pr → Int} {S : List Pr → Pr → List Pr} (hS : ∀ l e, (∀ s ∈ l, okS s = true) → E l e = 0 → ∀ s ∈ S l e, okS s = true) : ∀ (es l : List Pr), (∀ s ∈ l, okS s = true) → ∀ l', eachR E S l es = (0, l') → ∀ s ∈ l', okS s = true
  | [], l, h, l', e => by cases e; exact h
  | x :: es, l, h, l', e => by
    rw [eachR_step] at e
    split at e
    · rename_i h0
      exact eachR_ok hS es (S l x) (hS l x h h0) l' e
    · rename_i h0
      exact absurd (congrArg Prod.fst e) h0
/-- What was taken is live. -/
theorem take_good (l : List Pr) : ∀ k, k ≤ cnt l 0 → Good (takeL l k) 1 ((ents l 0).take k)
  | 0, _ => ⟨by simp, by simp⟩
  | k + 1, h => by
    have ih := take_good l k (by omega)
    obtain ⟨i, hi, r, h1, h2, h3, h4⟩ := take_next_free (l := l) (k := k) (by omega)
    have ht : (ents l 0).take (k + 1) = (ents l 0).take k ++ [((i : Int), l[i].2)] := by rw [List.take_add_one, h1]; rfl
    have hi' : i < (takeL l k).length := by rw [takeL_length]; exact hi
    have hoth : ∀ e ∈ (ents l 0).take k, e.1 ≠ (i : Int) := fun e he e1 => by
      obtain ⟨j, hj1, hj, hlj⟩ := ih.2 e he
      obtain rfl : j = i := by omega
      rw [h3] at hlj
      have := congrArg Prod.fst hlj
      simp at this
    rw [ht, h4]
    refine ⟨?_, fun e he => ?_⟩
    · rw [List.map_append, List.nodup_append]
      refine ⟨ih.1, by simp, fun a ha b hb => ?_⟩
      obtain ⟨e, he, rfl⟩ := List.mem_map.1 ha
      simp at hb
      rw [hb]
      exact hoth e he
    · rcases List.mem_append.1 he with he | he
      · obtain ⟨j, hj1, hj, hlj⟩ := ih.2 e he
        have hij : i ≠ j := fun h => hoth e he (by rw [hj1, h])
        exact ⟨j, hj1, by rw [List.length_set]; exact hj, by rw [List.getElem_set_ne hij]; exact hlj⟩
      · rw [List.mem_singleton.1 he]
        exact ⟨i, rfl, by rw [List.length_set]; exact hi', by rw [List.getElem_set_self]⟩
/-- All of ArenaBack, where so many are free. -/
theorem back_all {l : List Pr} (hr : rightA l = true) {M : Nat} (hM : M ≤ cnt l 0) : ∃ r : List Pr, retT (takeL l M) ((ents l 0).take M) = (0, r, []) ∧ rightA r = true ∧ cnt r 0 = cnt l 0 - M ∧ cnt r 1 = cnt l 1 ∧ cnt r 2 = cnt l 2 + M ∧
    ((∀ e ∈ (ents l 0).take M, e.2 ≠ 1099511627775) → ∃ g, givT r ((ents l 0).take M) = (0, g, []) ∧ givT (takeL l M) ((ents l 0).take M) = (0, g, []) ∧ rightA g = true ∧ cnt g 0 = cnt l 0 ∧ cnt g 1 = cnt l 1 ∧ cnt g 2 = cnt l 2) := by
  have hT := takeL_right hr M
  have hTi := rightA_iff.1 hT
  have hlen : ((ents l 0).take M).length = M := by rw [List.length_take, ents_length]; omega
  obtain ⟨c0, c1, c2⟩ := takeL_cnt l M hM
  have hg := take_good l M hM
  generalize takeL l M = T at *
  generalize hes : (ents l 0).take M = es at *
  obtain ⟨r, r1, r2, r3, r4⟩ := each_all (t := 1) (t' := 2) (nx := id) (P := fun _ => True) (by decide) ret_hE es T hg fun _ _ => trivial
  have hro := eachR_ok (fun l e h h2 => retS_ok h h2) es T hTi.2 r r1
  have hrr : rightA r = true := rightA_iff.2 ⟨by rw [r2]; exact hTi.1, hro⟩
  have k0 := r3 0
  have k1 := r3 1
  have k2 := r3 2
  simp at k0 k1 k2
  refine ⟨r, by unfold retT triR retR; rw [hT, r1]; rfl, hrr, by omega, by omega, by omega, fun hmax => ?_⟩
  have hgr : Good r 2 es := ⟨hg.1, fun e he => by
    obtain ⟨j, hj1, hj, hlj⟩ := hg.2 e he
    refine ⟨j, hj1, by rw [r2]; exact hj, ?_⟩
    have hh : hasI es j = true := by unfold hasI; rw [List.any_eq_true]; exact ⟨e, he, by simpa using hj1⟩
    rw [r4 j hj, hh, hlj]
    rfl⟩
  obtain ⟨g, g1, g2, g3, g4⟩ := each_all (t := 2) (t' := 0) (nx := (· + 1)) (P := fun e => e.2 ≠ 1099511627775) (by decide) (giv_hE (by decide)) es r hgr hmax
  obtain ⟨h, h1, h2, h3, h4⟩ := each_all (t := 1) (t' := 0) (nx := (· + 1)) (P := fun e => e.2 ≠ 1099511627775) (by decide) (giv_hE (by decide)) es T hg hmax
  have hgh : h = g := by
    refine List.ext_getElem (by omega) fun j hj1 hj2 => ?_
    have hjT : j < T.length := by omega
    rw [h4 j hjT, g4 j (by omega)]
    have := r4 j hjT
    rw [this]
    cases hasI es j <;> simp
  subst hgh
  have hgo := eachR_ok (fun l e h h2 => (givS_ok h h2).1) es T hTi.2 h h1
  have hgr2 : rightA h = true := rightA_iff.2 ⟨by rw [h2]; exact hTi.1, hgo⟩
  have m0 := h3 0
  have m1 := h3 1
  have m2 := h3 2
  simp at m0 m1 m2
  exact ⟨h, by unfold givT triR givR; rw [hrr, g1]; rfl, by unfold givT triR givR; rw [hT, h1]; rfl, hgr2, by omega, by omega, by omega⟩
end Go.Proofs
