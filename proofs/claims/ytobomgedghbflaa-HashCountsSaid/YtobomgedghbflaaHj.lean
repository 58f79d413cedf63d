/- deepest: how far keys begin alike. -/
import Derived.Test.YtobomgedghbflaaHi
namespace Go.Proofs
open Go.RowKit Go.Shelf Go.Deep Go.Maps
attribute [local go_sem] Oper.semAt_some

theorem told_lt : ∀ (l : List Int) (p : Option Int), l.Pairwise (fun x y => x ≤ y) → (∀ y, p = some y → ∀ x ∈ l, y ≤ x) → (toldFrom p l).Pairwise (fun x y => x < y) ∧ ∀ y, p = some y → ∀ x ∈ toldFrom p l, y < x
  | [], p, _, _ => by simp [toldFrom]
  | x :: t, p, h, hp => by
    obtain ⟨h1, h2⟩ := List.pairwise_cons.1 h
    unfold toldFrom
    split
    · rename_i e
      exact told_lt t p h2 (fun y hy z hz => hp y hy z (List.mem_cons_of_mem _ hz))
    · rename_i hne
      obtain ⟨a, b⟩ := told_lt t (some x) h2 (fun y hy z hz => by injection hy with hy; subst hy; exact h1 z hz)
      refine ⟨List.pairwise_cons.2 ⟨fun z hz => b x rfl z hz, a⟩, fun y hy z hz => ?_⟩
      have hyx : y < x := by
        have := hp y hy x List.mem_cons_self
        have : y ≠ x := fun e => hne (by rw [hy, e])
        omega
      rcases List.mem_cons.1 hz with rfl | hz
      · exact hyx
      · have := b x rfl z hz; omega
theorem told_mem {x : Int} : ∀ (l : List Int) (p : Option Int), x ∈ l → p ≠ some x → x ∈ toldFrom p l
  | [], _, h, _ => by cases h
  | y :: t, p, h, hp => by
    unfold toldFrom
    split
    · rename_i e
      rcases List.mem_cons.1 h with rfl | h
      · exact absurd e hp
      · exact told_mem t p h hp
    · by_cases e : x = y
      · subst e; exact List.mem_cons_self
      · rcases List.mem_cons.1 h with h | h
        · exact absurd h e
        · exact List.mem_cons_of_mem _ (told_mem t (some y) h (fun e2 => e (by injection e2 with e2; exact e2.symm)))
/-- These keys, each once. -/
def onceW (ks : List Int) : List Int := onceB (sortW ks)
theorem onceW_mem {ks : List Int} {x : Int} : x ∈ onceW ks ↔ x ∈ ks :=
  ⟨fun h => sortW_mem.1 (toldFrom_mem h), fun h => told_mem _ none (sortW_mem.2 h) (by simp)⟩
theorem onceW_lt (ks : List Int) : (onceW ks).Pairwise (fun x y => x < y) := (told_lt (sortW ks) none (sortW_sorted ks) (by simp)).1
theorem onceW_nodup (ks : List Int) : (onceW ks).Nodup := (onceW_lt ks).imp fun h => by omega
theorem onceW_le (ks : List Int) : (onceW ks).length ≤ ks.length := by
  have := toldFrom_le none (sortW ks)
  rw [sortW_length] at this
  exact this
/-- All of these are keys. -/
def KeysOk (ks : List Int) : Prop := ∀ k ∈ ks, 0 ≤ k ∧ k < 18446744073709551616
theorem prefs_half {s n : Nat} (hn : n < 64) (u : List Int) : prefsB s n u = (prefsB s (n + 1) u).map (· / 2) := by
  induction u with
  | nil => rfl
  | cons k t ih =>
    have e : ∀ m, prefsB s m (k :: t) = prefixB (ofB s k.toNat) m :: prefsB s m t := fun m => by simp only [prefsB, List.map_cons]
    rw [e, e, List.map_cons, ih, prefix_half hn]
theorem over_less {s n : Nat} (hn : n < 64) {u : List Int} {many : Int} (h : overB (prefsB s (n + 1) u) many = true) : overB (prefsB s n u) many = true := by
  unfold overB at *
  rw [List.any_eq_true] at *
  obtain ⟨p, hp, hc⟩ := h
  refine ⟨p / 2, ?_, ?_⟩
  · rw [prefs_half hn]; exact List.mem_map.2 ⟨p, hp, rfl⟩
  · rw [prefs_half hn]
    have := List.count_le_count_map (f := fun x : Nat => x / 2) (l := prefsB s (n + 1) u) (x := p)
    simp only [decide_eq_true_eq] at *
    omega
theorem over_mono {s : Nat} {u : List Int} {many : Int} {m : Nat} (h : overB (prefsB s m u) many = true) (hm : m ≤ 64) : ∀ n, n ≤ m → overB (prefsB s n u) many = true := by
  intro n hn
  obtain ⟨k, rfl⟩ : ∃ k, m = n + k := ⟨m - n, by omega⟩
  clear hn
  induction k with
  | zero => exact h
  | succ k ih => exact ih (over_less (by omega) h) (by omega)
theorem over_64 {s : Nat} (hs : s < 18446744073709551616) {u : List Int} (hu : KeysOk u) (hd : u.Nodup) {many : Int} (hm : 1 ≤ many) : overB (prefsB s 64 u) many = false := by
  have hnd : (prefsB s 64 u).Nodup := by
    unfold prefsB
    refine List.Pairwise.map _ (fun a b h => h) (?_ : u.Pairwise fun a b => prefixB (ofB s a.toNat) 64 ≠ prefixB (ofB s b.toNat) 64)
    refine List.Pairwise.imp_of_mem (fun {a b} ha hb hab => ?_) hd
    have h1 := hu a ha
    have h2 := hu b hb
    intro e
    have hab2 : ofB s a.toNat ≠ ofB s b.toNat := fun e2 => by
      have := of_inj hs (by omega) (by omega) e2
      omega
    generalize ofB s a.toNat = x at *
    generalize ofB s b.toNat = y at *
    refine hab2 ?_
    unfold prefixB at e
    rw [Nat.sub_self, Nat.pow_zero, Nat.div_one, Nat.div_one] at e
    exact e
  unfold overB
  rw [List.any_eq_false]
  intro p hp
  have := List.nodup_iff_count.1 hnd p
  simp
  omega
/-- With so many bits none is had by more than many, with one bit less some is. -/
def DeepAt (s : Nat) (many : Int) (u : List Int) (d : Nat) : Prop := d ≤ 64 ∧ overB (prefsB s d u) many = false ∧ (0 < d → overB (prefsB s (d - 1) u) many = true)
theorem deepAt_one {s : Nat} {many : Int} {u : List Int} {d d' : Nat} (h : DeepAt s many u d) (h' : DeepAt s many u d') : d = d' := by
  rcases Nat.lt_trichotomy d d' with hl | hl | hl
  · have := over_mono (h'.2.2 (by omega)) (by have := h'.1; omega) d (by omega)
    rw [h.2.1] at this; cases this
  · exact hl
  · have := over_mono (h.2.2 (by omega)) (by have := h.1; omega) d' (by omega)
    rw [h'.2.1] at this; cases this
end Go.Proofs
