/- Rows of mutexes that the call owns; New. -/
import Derived.Test.YtliecdpgajchbaaMm
namespace Go.Proofs
open Go.RowKit Go.Shelf
attribute [local go_sem] Oper.semAt_some

structure OwnM (n₀ : Nat) (ms : List Mx) (v : Value) (vs : List Value) (W : World) : Prop where
  row : W.ownsRow n₀ 53 2 v ms.length vs
  own : ∀ i (h : i < ms.length), vs[i * 2]? = some (.int .i64 ms[i].own)
  que : ∀ i (h : i < ms.length), ∃ qv, vs[i * 2 + 1]? = some qv ∧ OwnQ n₀ ms[i].q qv W
  apart : ∀ i j a b, i < ms.length → j < ms.length → i ≠ j → vs[i * 2 + 1]? = some a → vs[j * 2 + 1]? = some b → a.ownBlock = none ∨ a.ownBlock ≠ b.ownBlock
def OwnsM (n₀ : Nat) (ms : List Mx) (v : Value) (W : World) : Prop := ∃ vs, OwnM n₀ ms v vs W
theorem OwnM.at {n₀ : Nat} {ms : List Mx} {v : Value} {vs : List Value} {W : World} (h : OwnM n₀ ms v vs W) : MxAt W v ms :=
  ⟨vs, rowAt_own h.row, fun i hi => by
    obtain ⟨qv, e, ho⟩ := h.que i hi
    obtain ⟨a, c, rfl, _⟩ := ho.form
    exact ⟨a, c, h.own i hi, e, ho.at⟩⟩
theorem OwnsM.at {n₀ : Nat} {ms : List Mx} {v : Value} {W : World} (h : OwnsM n₀ ms v W) : MxAt W v ms := by
  obtain ⟨vs, h⟩ := h
  exact h.at
theorem OwnM.keep {n₀ hh : Nat} {ms : List Mx} {v : Value} {vs : List Value} {A B : World} (h : OwnM n₀ ms v vs A) (hB : Below hh A B) (hA : A.heap.size ≤ hh) : OwnM n₀ ms v vs B :=
  ⟨owns_keep h.row hB hA, h.own, fun i hi => by obtain ⟨qv, e, ho⟩ := h.que i hi; exact ⟨qv, e, ho.keep hB hA⟩, h.apart⟩
theorem OwnsM.keep {n₀ hh : Nat} {ms : List Mx} {v : Value} {A B : World} (h : OwnsM n₀ ms v A) (hB : Below hh A B) (hA : A.heap.size ≤ hh) : OwnsM n₀ ms v B := by
  obtain ⟨vs, h⟩ := h
  exact ⟨vs, h.keep hB hA⟩
theorem OwnM.mono {n₀ n₁ : Nat} {ms : List Mx} {v : Value} {vs : List Value} {W : World} (h : OwnM n₁ ms v vs W) (hn : n₀ ≤ n₁) : OwnM n₀ ms v vs W :=
  ⟨owns_mono h.row hn, h.own, fun i hi => by obtain ⟨qv, e, ho⟩ := h.que i hi; exact ⟨qv, e, ho.mono hn⟩, h.apart⟩
theorem OwnsM.mono {n₀ n₁ : Nat} {ms : List Mx} {v : Value} {W : World} (h : OwnsM n₁ ms v W) (hn : n₀ ≤ n₁) : OwnsM n₀ ms v W := by
  obtain ⟨vs, h⟩ := h
  exact ⟨vs, h.mono hn⟩
/-- .. is kept where a block that is none of its own turns. -/
theorem OwnM.kept {n₀ : Nat} {ms : List Mx} {v : Value} {vs : List Value} {A B : World} {row : Option Nat} (h : OwnM n₀ ms v vs A) (hg : A.grownBy B row) (h1 : v.ownBlock = none ∨ v.ownBlock ≠ row)
    (h2 : ∀ i qv, i < ms.length → vs[i * 2 + 1]? = some qv → qv.ownBlock = none ∨ qv.ownBlock ≠ row) : OwnM n₀ ms v vs B :=
  ⟨World.ownsRow.kept h.row hg h1, h.own, fun i hi => by obtain ⟨qv, e, ho⟩ := h.que i hi; exact ⟨qv, e, ho.kept hg (h2 i qv hi e)⟩, h.apart⟩
theorem grownBy_set (W : World) (B o : Nat) (u : Value) : W.grownBy (W.setCell ⟨B, o, none⟩ u) (some B) :=
  ⟨rfl, rfl, rfl, by simp [World.setCell], fun k _ hk => Below.heap_setCell W ⟨B, o, none⟩ u k (fun e => hk (by simp [e]))⟩
/-- The row's own block is none of the queues'. -/
theorem OwnM.rowNe {n₀ : Nat} {ms : List Mx} {g n cap : Nat} {vs : List Value} {W : World} (h : OwnM n₀ ms (.slice (some ⟨g, 0, none⟩) n cap) vs W) (i : Nat) (qv : Value) (hi : i < ms.length) (e : vs[i * 2 + 1]? = some qv) : qv.ownBlock = none ∨ qv.ownBlock ≠ some g := by
  obtain ⟨qv', e', ho⟩ := h.que i hi
  rw [e] at e'
  cases e'
  exact ownQ_row ho h.row (by decide)
theorem getD_set_ne {α : Type} {l : List α} {i j : Nat} {u : α} (h : i ≠ j) : (l.set i u)[j]? = l[j]? := List.getElem?_set_ne h
/-- Who has it, anew. -/
theorem OwnM.setOwn {n₀ : Nat} {ms : List Mx} {g n cap : Nat} {vs : List Value} {W : World} (h : OwnM n₀ ms (.slice (some ⟨g, 0, none⟩) n cap) vs W) (hn : n = ms.length) (i : Nat) (hi : i < ms.length) (o : Int) :
    OwnM n₀ (ms.set i ⟨o, ms[i].q⟩) (.slice (some ⟨g, 0, none⟩) n cap) (vs.set (i * 2) (.int .i64 o)) (W.setCell ⟨g, i * 2, none⟩ (.int .i64 o)) := by
  subst hn
  have hl : (ms.set i ⟨o, ms[i].q⟩).length = ms.length := List.length_set ..
  have hvl : vs.length = ms.length * 2 := h.row.1
  have hq := fun k qv (hk : k < ms.length) e => h.rowNe k qv hk e
  refine ⟨by rw [hl]; exact (h.row.stored (i * 2) _).1, fun k hk => ?_, fun k hk => ?_, fun k j a b hk hj hne ha hb => ?_⟩
  · rw [hl] at hk
    by_cases e : i = k
    · subst e
      simp [hvl, show i * 2 < ms.length * 2 by omega]
    · rw [getD_set_ne (by omega), List.getElem_set_ne e, h.own k hk]
  · rw [hl] at hk
    obtain ⟨qv, e1, ho⟩ := h.que k hk
    refine ⟨qv, by rw [getD_set_ne (by omega)]; exact e1, ?_⟩
    have ho2 := ho.kept (grownBy_set W g (i * 2) (.int .i64 o)) (hq k qv hk e1)
    by_cases e : i = k
    · subst e
      simpa using ho2
    · rw [List.getElem_set_ne e]
      exact ho2
  · rw [hl] at hk hj
    rw [getD_set_ne (by omega)] at ha hb
    exact h.apart k j a b hk hj hne ha hb
/-- Who waits, anew. -/
theorem OwnM.setQ {n₀ : Nat} {ms : List Mx} {g n cap : Nat} {vs : List Value} {W : World} (h : OwnM n₀ ms (.slice (some ⟨g, 0, none⟩) n cap) vs W) (hn : n = ms.length) (i : Nat) (hi : i < ms.length) (q : List Int) (qv : Value) (ho : OwnQ n₀ q qv W)
    (hnew : ∀ k b, k < ms.length → k ≠ i → vs[k * 2 + 1]? = some b → qv.ownBlock = none ∨ qv.ownBlock ≠ b.ownBlock) :
    OwnM n₀ (ms.set i ⟨ms[i].own, q⟩) (.slice (some ⟨g, 0, none⟩) n cap) (vs.set (i * 2 + 1) qv) (W.setCell ⟨g, i * 2 + 1, none⟩ qv) := by
  subst hn
  have hl : (ms.set i ⟨ms[i].own, q⟩).length = ms.length := List.length_set ..
  have hvl : vs.length = ms.length * 2 := h.row.1
  have hq := fun k qv (hk : k < ms.length) e => h.rowNe k qv hk e
  have hrow := h.row
  have hqn : qv.ownBlock = none ∨ qv.ownBlock ≠ some g := ownQ_row ho hrow (by decide)
  refine ⟨by rw [hl]; exact (h.row.stored (i * 2 + 1) _).1, fun k hk => ?_, fun k hk => ?_, fun k j a b hk hj hne ha hb => ?_⟩
  · rw [hl] at hk
    rw [getD_set_ne (by omega), h.own k hk]
    by_cases e : i = k
    · subst e
      simp
    · rw [List.getElem_set_ne e]
  · rw [hl] at hk
    by_cases e : i = k
    · subst e
      refine ⟨qv, by simp [hvl, show i * 2 + 1 < ms.length * 2 by omega], ?_⟩
      simpa using ho.kept (grownBy_set W g (i * 2 + 1) qv) hqn
    · obtain ⟨qk, e1, hok⟩ := h.que k hk
      refine ⟨qk, by rw [getD_set_ne (by omega)]; exact e1, ?_⟩
      rw [List.getElem_set_ne e]
      exact hok.kept (grownBy_set W g (i * 2 + 1) qv) (hq k qk hk e1)
  · rw [hl] at hk hj
    by_cases ek : i = k
    · subst ek
      have hj2 : i ≠ j := hne
      rw [getD_set_ne (by omega)] at hb
      rw [List.getElem?_set_self (by omega)] at ha
      cases ha
      exact hnew j b hj (fun e => hj2 e.symm) hb
    · rw [getD_set_ne (by omega)] at ha
      by_cases ej : i = j
      · subst ej
        rw [List.getElem?_set_self (by omega)] at hb
        cases hb
        have h3 := hnew k a hk (fun e => ek e.symm) ha
        rcases h3 with h3 | h3
        · rw [h3]
          cases a.ownBlock <;> simp
        · exact .inr fun e => h3 e.symm
      · rw [getD_set_ne (by omega)] at hb
        exact h.apart k j a b hk hj hne ha hb
/-- n mutexes that nobody has. -/
def freeM (n : Nat) : List Mx := List.replicate n ⟨0, []⟩
theorem made_get (n i : Nat) (hi : i < n) : (madeCells (Value.agg #[.int .i64 0, .slice none 0 0]).cells (n * 2)).toList[i * 2]? = some (.int .i64 0) ∧ (madeCells (Value.agg #[.int .i64 0, .slice none 0 0]).cells (n * 2)).toList[i * 2 + 1]? = some (.slice none 0 0) := by
  have h1 : i * 2 < n * 2 := by omega
  have h2 : i * 2 + 1 < n * 2 := by omega
  have h3 : i * 2 % 2 = 0 := by omega
  have h4 : (i * 2 + 1) % 2 = 1 := by omega
  constructor
  · simp [madeCells, Value.cells, h1, h3]
  · simp [madeCells, Value.cells, h2, h4]
theorem own_made {W : World} {n₀ : Nat} {v : Value} {n : Nat} (h : W.ownsRow n₀ 53 2 v n (madeCells (Value.agg #[.int .i64 0, .slice none 0 0]).cells (n * 2)).toList) : OwnM n₀ (freeM n) v (madeCells (Value.agg #[.int .i64 0, .slice none 0 0]).cells (n * 2)).toList W := by
  have hl : (freeM n).length = n := List.length_replicate
  refine ⟨by rw [hl]; exact h, fun i hi => ?_, fun i hi => ?_, fun i j a b hi hj hne ha hb => ?_⟩
  · rw [hl] at hi
    rw [(made_get n i hi).1]
    simp [freeM]
  · rw [hl] at hi
    refine ⟨_, (made_get n i hi).2, ?_⟩
    simp only [freeM, List.getElem_replicate]
    exact ownQ_nil _ _
  · rw [hl] at hi hj
    rw [(made_get n i hi).2] at ha
    cases ha
    exact .inl rfl

set_option maxHeartbeats 1000000 in
theorem Try.New_any (n : Int) (w : World) :
    Calls Try.prog 20 #[.int .i64 n] w fun e w' => (¬ (1 ≤ n ∧ n ≤ 160) ∧ e = .returned (.tuple #[.slice none 0 0, .int .i64 2]) ∧ w' = w) ∨ ((1 ≤ n ∧ n ≤ 160) ∧ ∃ r, e = .returned (.tuple #[.slice (some ⟨r, 0, none⟩) n.toNat n.toNat, .int .i64 0]) ∧ OwnsM w.heap.size (freeM n.toNat) (.slice (some ⟨r, 0, none⟩) n.toNat n.toNat) w' ∧ Below w.heap.size w w') := by
  obtain ⟨i0, hi, hz0, hz1, hz2⟩ := info_parts Try.infoMx
  by_cases h1 : n < 1
  · have h2 : ¬ (1 ≤ n ∧ n ≤ 160) := by omega
    go_enter Try.func20, Try.ntmps20
    go_wp2_with fail
    go_ret2
    first | exact .inl ⟨h2, rfl, rfl⟩ | exact .inl ⟨rfl, rfl⟩
  · by_cases h3 : 160 < n
    · have h2 : ¬ (1 ≤ n ∧ n ≤ 160) := by omega
      go_enter Try.func20, Try.ntmps20
      go_wp2_with fail
      go_ret2
      first | exact .inl ⟨h2, rfl, rfl⟩ | exact .inl ⟨rfl, rfl⟩
    · have h2 : 1 ≤ n ∧ n ≤ 160 := by omega
      obtain ⟨k, rfl⟩ : ∃ k : Nat, n = (k : Int) := ⟨n.toNat, by omega⟩
      rw [Int.toNat_natCast]
      have hk : k ≤ 160 := by omega
      have H2 := Lib.hid h2
      clear h2
      go_enter Try.func20, Try.ntmps20
      go_wp2_with (refine wpList_make_full _ rfl _ _ 22 rfl w.heap.size 53 i0 (.agg #[.int .i64 0, .slice none 0 0]) 2 Try.underlying22 hi hz0 hz1 .i64 .i64 (k : Int) (k : Int) k rfl rfl rfl rfl (by rw [hz2]; omega) (by unfold maxLen; omega) (Nat.le_refl _) ?_)
      intro w' hown hg
      have hO := own_made hown
      have hB := (Below.refl w.heap.size w).grown hg (Nat.le_refl _) (fun j ej => by cases ej)
      have HO := Lib.hid hO
      have HB := Lib.hid hB
      clear hown hg hO hB
      go_wp2_with fail
      go_ret2
      first | exact .inr ⟨H2.out, _, rfl, ⟨_, HO.out⟩, HB.out⟩ | exact .inr ⟨_, rfl, ⟨_, HO.out⟩, HB.out⟩
end Go.Proofs
