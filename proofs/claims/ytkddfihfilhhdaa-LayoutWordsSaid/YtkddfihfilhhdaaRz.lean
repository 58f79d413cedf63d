/- .. where what comes behind is asked transitively. -/
import Derived.Test.YtkddfihfilhhdaaRy
namespace Go.Proofs
set_option maxRecDepth 100000
set_option maxRecDepth 100000
open Go.RowKit Go.Shelf
section
variable {P : Program} {ops : Array Oper} {Q : Exit → Act → World → Prop} {md : Region.Mode} {S : World → Prop} {X : Nat}
theorem wpAnyL_firstT {i : Nat} {oi : Oper} {v : Value} (hi : ops[i]? = some oi) (dep : Nat → Bool) (hdX : ∀ j oj, X ≤ j → ops[j]? = some oj → dep j = true) (hdc : ∀ j oj, dep j = true → ops[j]? = some oj → ∃ e ∈ oj.after, Region.binds md e = true ∧ (e.on = i ∨ dep e.on = true)) (hsel : ∀ (j : Nat) (o : Oper) cs b, ops[j]? = some o → o.op ≠ .select cs b)
    (hQ : ∀ c a w, Q (.panic c) (a.put oi.dst v) w → Q (.panic c) a w) :
    ∀ (fuel : Nat) (listed : Array Bool) (a : Act) (w : World),
      (∀ j oj, ops[j]? = some oj → j ≠ i → listed.getD j true = false → (∀ e ∈ oj.after, Region.binds md e = true → e.on ≠ i) → oi.apart ops oj = true) →
      i ∈ Region.ready md ops listed → (∀ j, dep j = true → listed.getD j true = false) → YieldsIf P ops S oi v a → S w → i < X →
      wpAnyL P md ops Q S X fuel (listed.setIfInBounds i true) (a.put oi.dst v) w → wpAnyL P md ops Q S X (fuel + 1) listed a w := by
  have wait : ∀ (listed : Array Bool) (j : Nat) (oj : Oper), ops[j]? = some oj → j ∈ Region.ready md ops listed → i ∈ Region.ready md ops listed → ∀ e ∈ oj.after, Region.binds md e = true → e.on ≠ i := fun listed j oj hoj hj hr e he hb heq => by
    obtain ⟨_, ok, hok, hall⟩ := mem_ready.1 hj
    rw [hoj] at hok
    cases hok
    have h1 := hall e he hb
    have h0 := (mem_ready.1 hr).1
    rw [heq] at h1
    rcases Nat.lt_or_ge i listed.size with h' | h'
    · simp [h'] at h0 h1; rw [h0] at h1; cases h1
    · simp [Array.getElem?_eq_none h'] at h1
  have nodep : ∀ (listed : Array Bool) (j : Nat), j ∈ Region.ready md ops listed → i ∈ Region.ready md ops listed → (∀ j, dep j = true → listed.getD j true = false) → dep j = false := fun listed j hj hr hinv => by
    cases hd : dep j with
    | false => rfl
    | true =>
      obtain ⟨_, ok, hok, hall⟩ := mem_ready.1 hj
      obtain ⟨e, he, hb, h2⟩ := hdc j ok hd hok
      rcases h2 with h2 | h2
      · exact absurd h2 (wait listed j ok hok hj hr e he hb)
      · have h1 := hall e he hb
        have h0 := hinv e.on h2
        rcases Nat.lt_or_ge e.on listed.size with h' | h'
        · simp [h'] at h0 h1; rw [h0] at h1; cases h1
        · simp [Array.getElem?_eq_none h'] at h0
  intro fuel
  induction fuel with
  | zero =>
    intro listed a w _ hr hinv hy hS hne H
    refine ⟨fun h => (by rw [h] at hr; cases hr), fun j hj => ?_⟩
    by_cases hji : j = i
    · subst hji; exact hy.wpOp hi hS ⟨fun _ => hS, H⟩
    · have := ready_mono hj hji
      rw [H.1] at this
      cases this
  | succ fuel ih =>
    intro listed a w hfree hr hinv hy hS hne H
    refine ⟨fun h => (by rw [h] at hr; cases hr), fun j hj => ?_⟩
    by_cases hji : j = i
    · subst hji; exact hy.wpOp hi hS ⟨fun _ => hS, H⟩
    · have h1 := H.2 j (ready_mono hj hji)
      obtain ⟨hjun, oj, hoj, hall⟩ := mem_ready.1 hj
      have hdj := nodep listed j hj hr hinv
      have hjX : j < X := Decidable.byContradiction fun hx => by
        have := hdX j oj (by omega) hoj
        rw [hdj] at this
        cases this
      have hinv' : ∀ k, dep k = true → (listed.setIfInBounds j true).getD k true = false := fun k hk => by
        rw [getD_set_ne true (fun e => by rw [e, hk] at hdj; cases hdj)]
        exact hinv k hk
      have h2 := wpOp_putIf hoj (hfree j oj hoj hji hjun (wait listed j oj hoj hj hr)) (fun cs b => hsel i oi cs b hi) (fun cs b => hsel j oj cs b hoj) hQ hy h1
      have hfree' : ∀ k ok, ops[k]? = some ok → k ≠ i → (listed.setIfInBounds j true).getD k true = false →
          (∀ e ∈ ok.after, Region.binds md e = true → e.on ≠ i) → oi.apart ops ok = true := fun k ok hk hki hun hno => by
        refine hfree k ok hk hki ?_ hno
        by_cases hjk : j = k
        · subst hjk; exact hjun
        · rw [getD_set_ne true hjk] at hun; exact hun
      refine wpOp_mono (fun a' w' h3 => ⟨h3.2.1, ih (listed.setIfInBounds j true) a' w' hfree' (ready_mono hr (Ne.symm hji)) hinv' h3.1 (h3.2.1 hjX) hne ?_⟩) h2
      rw [Array.setIfInBounds_comm _ _ hji]
      exact h3.2.2
/-- Is ds what comes behind number i, and all of it from X on, and none of it listed? -/
def depsOk (md : Region.Mode) (ops : Array Oper) (X i : Nat) (ds : List Nat) (listed : Array Bool) : Bool :=
  ((List.range ops.size).all fun j => decide (j < X) || ds.contains j) && (ds.all fun j => (match ops[j]? with | some o => o.after.any fun e => Region.binds md e && (e.on == i || ds.contains e.on) | none => false) && !listed.getD j true)
theorem wpAnyL_takeT {i : Nat} {oi : Oper} {v : Value} {fuel : Nat} {listed : Array Bool} {a : Act} {w : World} (ds : List Nat) (hi : ops[i]? = some oi) (hw : (decide (i < X) && depsOk md ops X i ds listed) = true)
    (hs : Region.noSelect ops = true) (hf : Region.free md ops listed i = true) (hr : (Region.ready md ops listed).contains i = true)
    (hQ : ∀ c a w, Q (.panic c) (a.put oi.dst v) w → Q (.panic c) a w) (hy : YieldsIf P ops S oi v a) (hS : S w)
    (h : wpAnyL P md ops Q S X fuel (listed.setIfInBounds i true) (a.put oi.dst v) w) : wpAnyL P md ops Q S X (fuel + 1) listed a w := by
  unfold depsOk at hw
  simp only [Bool.and_eq_true, decide_eq_true_eq, List.all_eq_true, Bool.not_eq_true'] at hw
  obtain ⟨hiX, hx, hd⟩ := hw
  refine wpAnyL_firstT hi (fun j => ds.contains j) (fun j oj hj ho => ?_) (fun j oj hj ho => ?_) (Region.noSelect_spec hs) hQ fuel listed a w (Region.free_spec hi hf) (by simpa using hr) (fun j hj => ?_) hy hS hiX h
  · have h1 := hx j (List.mem_range.2 (Array.getElem?_eq_some_iff.1 ho).1)
    simp only [Bool.or_eq_true, decide_eq_true_eq] at h1
    rcases h1 with h1 | h1
    · omega
    · exact h1
  · have h1 := (hd j (by simpa using hj)).1
    rw [ho] at h1
    obtain ⟨e, he, hb⟩ := Array.any_eq_true'.1 h1
    simp only [Bool.and_eq_true, Bool.or_eq_true, beq_iff_eq] at hb
    exact ⟨e, he, hb.1, hb.2⟩
  · exact (hd j (by simpa using hj)).2
end
end Go.Proofs
