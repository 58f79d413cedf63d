/- Script: a walk that holds to the end; stores into rows that the call owns. -/
import Derived.Test.YtfboppjedgfacaaZYi
namespace Go.Proofs
set_option maxRecDepth 100000
open Go.RowKit Go.Shelf
attribute [local go_sem] Oper.semAt_some
section
variable {P : Program} {ops : Array Oper} {Q : Exit → Act → World → Prop} {md : Region.Mode} {S : World → Prop} {X : Nat}
theorem wpAnyN_first {i : Nat} {oi : Oper} {v : Value} (hi : ops[i]? = some oi) (hX : ops.size ≤ X) (hsel : ∀ (j : Nat) (o : Oper) cs b, ops[j]? = some o → o.op ≠ .select cs b)
    (hQ : ∀ c a w, Q (.panic c) (a.put oi.dst v) w → Q (.panic c) a w) :
    ∀ (fuel : Nat) (listed : Array Bool) (a : Act) (w : World),
      (∀ j oj, ops[j]? = some oj → j ≠ i → listed.getD j true = false → (∀ e ∈ oj.after, Region.binds md e = true → e.on ≠ i) → oi.apart ops oj = true) →
      i ∈ Region.ready md ops listed → YieldsIf P ops S oi v a → S w →
      wpAnyX P md ops Q S X fuel (listed.setIfInBounds i true) (a.put oi.dst v) w → wpAnyX P md ops Q S X (fuel + 1) listed a w := by
  have wait : ∀ (listed : Array Bool) (j : Nat) (oj : Oper), ops[j]? = some oj → j ∈ Region.ready md ops listed → i ∈ Region.ready md ops listed → ∀ e ∈ oj.after, Region.binds md e = true → e.on ≠ i := fun listed j oj hoj hj hr e he hb heq => by
    obtain ⟨_, ok, hok, hall⟩ := mem_ready.1 hj
    rw [hoj] at hok
    cases hok
    have h1 := hall e he hb
    have h0 := (mem_ready.1 hr).1
    rw [heq] at h1
    rcases Nat.lt_or_ge i listed.size with h' | h'
    · simp [h'] at h0 h1; rw [h0] at h1; cases h1
    · simp [Array.getElem?_eq_none h'] at h1
  intro fuel
  induction fuel with
  | zero =>
    intro listed a w _ hr hy hS H
    refine ⟨fun h => (by rw [h] at hr; cases hr), fun j hj => ?_⟩
    by_cases hji : j = i
    · subst hji; exact hy.wpOp hi hS ⟨fun _ => hS, H⟩
    · have := ready_mono hj hji
      rw [H.1] at this
      cases this
  | succ fuel ih =>
    intro listed a w hfree hr hy hS H
    refine ⟨fun h => (by rw [h] at hr; cases hr), fun j hj => ?_⟩
    by_cases hji : j = i
    · subst hji; exact hy.wpOp hi hS ⟨fun _ => hS, H⟩
    · have h1 := H.2 j (ready_mono hj hji)
      obtain ⟨hjun, oj, hoj, hall⟩ := mem_ready.1 hj
      have hjX : j ≠ X := fun e => by
        have := (Array.getElem?_eq_some_iff.1 hoj).1
        omega
      have h2 := wpOp_putIf hoj (hfree j oj hoj hji hjun (wait listed j oj hoj hj hr)) (fun cs b => hsel i oi cs b hi) (fun cs b => hsel j oj cs b hoj) hQ hy h1
      have hfree' : ∀ k ok, ops[k]? = some ok → k ≠ i → (listed.setIfInBounds j true).getD k true = false →
          (∀ e ∈ ok.after, Region.binds md e = true → e.on ≠ i) → oi.apart ops ok = true := fun k ok hk hki hun hno => by
        refine hfree k ok hk hki ?_ hno
        by_cases hjk : j = k
        · subst hjk; exact hjun
        · rw [getD_set_ne true hjk] at hun; exact hun
      refine wpOp_mono (fun a' w' h3 => ⟨h3.2.1, ih (listed.setIfInBounds j true) a' w' hfree' (ready_mono hr (Ne.symm hji)) h3.1 (h3.2.1 hjX) ?_⟩) h2
      rw [Array.setIfInBounds_comm _ _ hji]
      exact h3.2.2
/-- As wpAnyX_take, where S holds behind every operation. -/
theorem wpAnyN_take {i : Nat} {oi : Oper} {v : Value} {fuel : Nat} {listed : Array Bool} {a : Act} {w : World} (hi : ops[i]? = some oi) (hX : ops.size ≤ X)
    (hs : Region.noSelect ops = true) (hf : Region.free md ops listed i = true) (hr : (Region.ready md ops listed).contains i = true)
    (hQ : ∀ c a w, Q (.panic c) (a.put oi.dst v) w → Q (.panic c) a w) (hy : YieldsIf P ops S oi v a) (hS : S w)
    (h : wpAnyX P md ops Q S X fuel (listed.setIfInBounds i true) (a.put oi.dst v) w) : wpAnyX P md ops Q S X (fuel + 1) listed a w :=
  wpAnyN_first hi hX (Region.noSelect_spec hs) hQ fuel listed a w (Region.free_spec hi hf) (by simpa using hr) hy hS h
end
theorem wordVals_set (ws : List Int) (k : Nat) (z : Int) : wordVals (ws.set k z) = (wordVals ws).set k (.int .u64 z) := by unfold wordVals; rw [List.map_set]
theorem store_word {H n cap g k : Nat} {cur : List Int} {W : World} (o : OwnsWords H cur (.slice (some ⟨g, 0, none⟩) n cap) W) (hn : n = cur.length) (hk : k < n) (z : Int) :
    OwnsWords H (cur.set k z) (.slice (some ⟨g, 0, none⟩) n cap) (W.setCell ⟨g, k, none⟩ (.int .u64 z)) ∧ ∃ cs, Rows8 W g 22 cs := by
  subst hn
  have h := owns_store o hk (.int .u64 z)
  refine ⟨?_, ?_⟩
  · unfold OwnsWords
    rw [List.length_set, wordVals_set]
    exact h
  · rcases o with ⟨_, ⟨h1, _⟩ | ⟨g', cap', cs, h1, _, h3, _⟩⟩
    · cases h1
    · cases h1
      exact ⟨cs, h3⟩
theorem words_get {H : Nat} {l : List Int} {a : Option Addr} {n c : Nat} {W : World} (o : OwnsWords H l (.slice a n c) W) {j : Nat} (hj : j < n) : ∃ b cs z, a = some ⟨b, 0, none⟩ ∧ H ≤ b ∧ Rows8 W b 22 cs ∧ W.cell? ⟨b, j, none⟩ = some (.int .u64 z) ∧ W.frozen? ⟨b, j, none⟩ = false := by
  have o2 := o
  rcases o with ⟨hl, ⟨h1, h2⟩ | ⟨g, cap, cur, h1, h2, h3, h4, h5, h6, h7⟩⟩
  · cases h1
    omega
  · cases h1
    have r : Rows8 W g 22 cur := h3
    obtain ⟨b, off, e, _, hk⟩ := wordsAt_get (rowAt_own o2) j hj
    cases e
    rw [Nat.zero_add] at hk
    exact ⟨g, cur, _, rfl, h2, r, hk, r.frozen _⟩
theorem OwnsL.form {H : Nat} {ls : List (List Cl4)} {v : Value} {W : World} (o : OwnsL H ls v W) : ∃ a c, v = .slice a ls.length c := by
  obtain ⟨vs, h, _⟩ := o
  obtain ⟨_, a, c, e, _⟩ := rowAt_own h
  exact ⟨a, c, e⟩
theorem OwnsL.setNe {n₀ : Nat} {ls : List (List Cl4)} {v : Value} {W : World} {t : TypeId} (o : OwnsL n₀ ls v W) {a : Addr} {cs : Array Value} (r : Rows8 W a.block t cs) (h1 : 53 ≠ t) (h2 : 55 ≠ t) (u : Value) : OwnsL n₀ ls v (W.setCell a u) := by
  obtain ⟨vs, h3, h4⟩ := o
  refine ⟨vs, owns_set h3 r h1 u, fun i hi => ?_⟩
  obtain ⟨b, c, e, ho⟩ := h4 i hi
  exact ⟨b, c, e, owns_set ho r h2 u⟩
theorem rows_apart {W : World} {B g : Nat} {t e : TypeId} {cs ds : Array Value} (r : Rows8 W B t cs) (q : Rows8 W g e ds) (h : t ≠ e) : g ≠ B := fun ee => by
  subst ee
  unfold Rows8 at r q
  rw [q] at r
  cases r
  exact h rfl
theorem callVals_cons (x : Cl4) (t : List Cl4) : callVals (x :: t) = .int .i64 x.op :: .int .u64 x.key :: .int .u64 x.a :: .int .u64 x.b :: callVals t := by unfold callVals; rw [List.flatMap_cons]; rfl
theorem callVals_set : ∀ (l : List Cl4) (j : Nat) (h : j < l.length) (z : Int), callVals (l.set j ⟨l[j].op, z, l[j].a, l[j].b⟩) = (callVals l).set (j * 4 + 1) (.int .u64 z) := by
  intro l
  induction l with
  | nil => intro j h; cases h
  | cons x t ih =>
    intro j h z
    cases j with
    | zero => simp [callVals_cons]
    | succ j =>
      have h' : j < t.length := by simpa using h
      have e := ih j h' z
      rw [List.set_cons_succ, callVals_cons, callVals_cons, show (j + 1) * 4 + 1 = (j * 4 + 1) + 1 + 1 + 1 + 1 by omega]
      simp only [List.set_cons_succ, List.getElem_cons_succ]
      rw [e]
theorem calls_store {H : Nat} {l : List Cl4} {v : Value} {W : World} {b j : Nat} (o : OwnsCalls H l v W) (z : Int) : ∃ l', l'.length = l.length ∧ OwnsCalls H l' v (W.setCell ⟨b, j * 4 + 1, none⟩ (.int .u64 z)) := by
  rcases o with ⟨hl, ⟨h1, h2⟩ | ⟨g, cap, cur, h1, h2, h3, h4, h5, h6, h7⟩⟩
  · exact ⟨l, rfl, hl, .inl ⟨h1, h2⟩⟩
  · by_cases e : g = b
    · subst e
      have r : Rows8 W g 55 cur := h3
      have hcv : (cur.setIfInBounds (j * 4 + 1) (.int .u64 z)).toList.take (l.length * 4) = (callVals l).set (j * 4 + 1) (.int .u64 z) := by
        rw [← h7]
        simp [Array.toList_setIfInBounds, List.take_set]
      by_cases hj : j < l.length
      · refine ⟨l.set j ⟨l[j].op, z, l[j].a, l[j].b⟩, by simp, ?_⟩
        refine ⟨by rw [callVals_length], .inr ⟨g, cap, _, ?_, h2, r.set (j * 4 + 1) _, ?_, h5, by simpa using h6, ?_⟩⟩
        · rw [List.length_set]; exact h1
        · rw [List.length_set]; exact h4
        · rw [List.length_set, callVals_set l j hj z]
          exact hcv
      · refine ⟨l, rfl, hl, .inr ⟨g, cap, _, h1, h2, r.set (j * 4 + 1) _, h4, h5, by simpa using h6, ?_⟩⟩
        rw [hcv]
        exact List.set_eq_of_length_le (by rw [callVals_length]; omega)
    · exact ⟨l, rfl, hl, .inr ⟨g, cap, cur, h1, h2, (Below.heap_setCell _ _ _ _ (fun ee => e ee)).trans h3, h4, h5, h6, h7⟩⟩
/-- The lists of a script, their row's values as they are, whatever calls they have. -/
def ListsOf (H nl : Nat) (vl : Value) (vs : List Value) (W : World) : Prop := W.ownsRow H 53 1 vl nl vs ∧ ∀ i, i < nl → ∃ a c l, vs[i]? = some (.slice a l.length c) ∧ OwnsCalls H l (.slice a l.length c) W
theorem ListsOf.store {H nl : Nat} {vl : Value} {vs : List Value} {W : World} {b j : Nat} {cs : Array Value} (p : ListsOf H nl vl vs W) (r : Rows8 W b 55 cs) (z : Int) : ListsOf H nl vl vs (W.setCell ⟨b, j * 4 + 1, none⟩ (.int .u64 z)) := by
  obtain ⟨h1, h2⟩ := p
  refine ⟨owns_set (a := ⟨b, j * 4 + 1, none⟩) h1 r (by decide) _, fun i hi => ?_⟩
  obtain ⟨a, c, l, h3, h4⟩ := h2 i hi
  obtain ⟨l', h5, h6⟩ := calls_store (b := b) (j := j) h4 z
  rw [← h5] at h3 h6
  exact ⟨a, c, l', h3, h6⟩
theorem ListsOf.get {H nl : Nat} {a : Option Addr} {n c : Nat} {vs : List Value} {W : World} (p : ListsOf H nl (.slice a n c) vs W) {i : Nat} (hi : i < nl) : ∃ L v, a = some ⟨L, 0, none⟩ ∧ W.cell? ⟨L, i, none⟩ = some v ∧ vs[i]? = some v := by
  obtain ⟨⟨hl, ⟨h1, h2⟩ | ⟨g, cap, cur, h1, h2, h3, h4, h5, h6, h7⟩⟩, hr⟩ := p
  · omega
  · cases h1
    have r : Rows8 W g 53 cur := h3
    have hv : i < vs.length := by omega
    refine ⟨g, vs[i], rfl, ?_, List.getElem?_eq_getElem hv⟩
    rw [r.cell i, ← List.getElem?_eq_getElem hv]
    subst h7
    rw [List.getElem?_take_of_lt (by omega)]
    simp
theorem calls_get {H : Nat} {l : List Cl4} {a : Option Addr} {n c : Nat} {W : World} (o : OwnsCalls H l (.slice a n c) W) {j : Nat} (hj : j < n) : ∃ b cs z, a = some ⟨b, 0, none⟩ ∧ H ≤ b ∧ Rows8 W b 55 cs ∧ W.cell? ⟨b, j * 4 + 1, none⟩ = some (.int .u64 z) ∧ W.frozen? ⟨b, j * 4 + 1, none⟩ = false := by
  have o2 := o
  rcases o with ⟨hl, ⟨h1, h2⟩ | ⟨g, cap, cur, h1, h2, h3, h4, h5, h6, h7⟩⟩
  · cases h1
    omega
  · cases h1
    have r : Rows8 W g 55 cur := h3
    obtain ⟨b, off, e, _, _, hk, _⟩ := callsAt_el (rowAt_own o2) j hj
    cases e
    rw [Nat.zero_add] at hk
    exact ⟨g, cur, _, rfl, h2, r, hk, r.frozen _⟩
end Go.Proofs
