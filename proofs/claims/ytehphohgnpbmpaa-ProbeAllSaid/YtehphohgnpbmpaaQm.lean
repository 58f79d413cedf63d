/- Rows of groups: plain maths. -/
import Derived.Test.YtehphohgnpbmpaaKa
namespace Go.Proofs

/-- May there be so many groups? -/
def mayB (g : Nat) : Bool := g == 1 || g == 2 || g == 4 || g == 8 || g == 16 || g == 32 || g == 64
theorem mayB_le {g : Nat} (h : mayB g = true) : 1 ≤ g ∧ g ≤ 64 := by
  simp [mayB] at h
  omega
/-- 1, 2, .. i together. -/
def tri : Nat → Nat
  | 0 => 0
  | i + 1 => tri i + (i + 1)
/-- The i-th group of a row. -/
def rowAt (g l i : Nat) : Nat := (l + tri i) % g
theorem rowAt_lt {g : Nat} (h : 0 < g) (l i : Nat) : rowAt g l i < g := Nat.mod_lt _ h
theorem rowAt_zero {g l : Nat} (h : l < g) : rowAt g l 0 = l := by simp [rowAt, tri, Nat.mod_eq_of_lt h]
theorem rowAt_succ (g l i : Nat) : rowAt g l (i + 1) = (rowAt g l i + i + 1) % g := by
  unfold rowAt
  rw [tri, Nat.add_assoc ((l + tri i) % g) i 1, Nat.mod_add_mod, Nat.add_assoc]
/-- The row, each group with its number in it. -/
def rowL (g l : Nat) : List (Nat × Nat) := (List.range g).map fun i => (i, rowAt g l i)
def rowG (g l : Nat) : List Nat := (List.range g).map (rowAt g l)
theorem rowL_len (g l : Nat) : (rowL g l).length = g := by simp [rowL]
theorem rowG_len (g l : Nat) : (rowG g l).length = g := by simp [rowG]
theorem rowL_get (g l k : Nat) (h : k < (rowL g l).length) : (rowL g l)[k] = (k, rowAt g l k) := by simp [rowL]
theorem rowG_get (g l k : Nat) (h : k < (rowG g l).length) : (rowG g l)[k] = rowAt g l k := by simp [rowG]

/-- Kernel checks over the seven numbers. -/
def injC (g : Nat) : Bool := (List.range g).all fun i => (List.range i).all fun j => tri i % g != tri j % g
def surC (g : Nat) : Bool := (List.range g).all fun y => (List.range g).any fun i => tri i % g == y
theorem injC_all : (injC 1 && injC 2 && injC 4 && injC 8 && injC 16 && injC 32 && injC 64) = true := by decide +kernel
theorem surC_all : (surC 1 && surC 2 && surC 4 && surC 8 && surC 16 && surC 32 && surC 64) = true := by decide +kernel
theorem injC_may {g : Nat} (h : mayB g = true) : injC g = true := by
  have := injC_all
  simp only [Bool.and_eq_true] at this
  simp [mayB] at h
  obtain ⟨⟨⟨⟨⟨⟨h1, h2⟩, h3⟩, h4⟩, h5⟩, h6⟩, h7⟩ := this
  rcases h with (((((rfl | rfl) | rfl) | rfl) | rfl) | rfl) | rfl <;> assumption
theorem surC_may {g : Nat} (h : mayB g = true) : surC g = true := by
  have := surC_all
  simp only [Bool.and_eq_true] at this
  simp [mayB] at h
  obtain ⟨⟨⟨⟨⟨⟨h1, h2⟩, h3⟩, h4⟩, h5⟩, h6⟩, h7⟩ := this
  rcases h with (((((rfl | rfl) | rfl) | rfl) | rfl) | rfl) | rfl <;> assumption
theorem tri_ne {g i j : Nat} (h : mayB g = true) (hi : i < g) (hj : j < i) : tri i % g ≠ tri j % g := by
  have := injC_may h
  unfold injC at this
  rw [List.all_eq_true] at this
  have h2 := this i (List.mem_range.2 hi)
  rw [List.all_eq_true] at h2
  simpa using h2 j (List.mem_range.2 hj)
theorem mod_cancel {g l a b : Nat} (h : (l + a) % g = (l + b) % g) : a % g = b % g := by
  have h1 : ((l + a : Nat) : Int) % (g : Int) = ((l + b : Nat) : Int) % (g : Int) := by rw [← Int.natCast_emod, ← Int.natCast_emod, h]
  have h2 : ((a : Nat) : Int) % (g : Int) = ((b : Nat) : Int) % (g : Int) := by
    rw [Int.emod_eq_emod_iff_emod_sub_eq_zero] at h1 ⊢
    rw [show ((a : Int) - (b : Int)) = ((l + a : Nat) : Int) - ((l + b : Nat) : Int) by omega]
    exact h1
  rw [← Int.natCast_emod, ← Int.natCast_emod] at h2
  exact_mod_cast h2
theorem rowAt_inj {g l i j : Nat} (h : mayB g = true) (hi : i < g) (hj : j < g) (e : rowAt g l i = rowAt g l j) : i = j := by
  have e2 := mod_cancel (g := g) (l := l) (a := tri i) (b := tri j) e
  rcases Nat.lt_trichotomy i j with h1 | h1 | h1
  · exact absurd e2.symm (tri_ne h hj h1)
  · exact h1
  · exact absurd e2 (tri_ne h hi h1)
theorem rowAt_sur {g l x : Nat} (h : mayB g = true) (hl : l < g) (hx : x < g) : ∃ i, i < g ∧ rowAt g l i = x := by
  have := surC_may h
  unfold surC at this
  rw [List.all_eq_true] at this
  have h2 := this ((x + (g - l)) % g) (List.mem_range.2 (Nat.mod_lt _ (by omega)))
  rw [List.any_eq_true] at h2
  obtain ⟨i, hi, he⟩ := h2
  refine ⟨i, List.mem_range.1 hi, ?_⟩
  have he' : tri i % g = (x + (g - l)) % g := by simpa using he
  unfold rowAt
  rw [← Nat.add_mod_mod, he', Nat.add_mod_mod, show l + (x + (g - l)) = x + g by omega, Nat.add_mod_right, Nat.mod_eq_of_lt hx]
/-- Which one of the row a group is. -/
def place (g l x : Nat) : Nat := (rowG g l).findIdx (· == x)
theorem place_spec {g l x : Nat} (h : mayB g = true) (hl : l < g) (hx : x < g) : place g l x < g ∧ rowAt g l (place g l x) = x := by
  obtain ⟨i, hi, he⟩ := rowAt_sur h hl hx
  have hlt : place g l x < (rowG g l).length := by
    unfold place
    rw [List.findIdx_lt_length]
    exact ⟨rowAt g l i, by unfold rowG; exact List.mem_map.2 ⟨i, List.mem_range.2 hi, rfl⟩, by simpa using he⟩
  have h2 := List.findIdx_getElem (p := (· == x)) (xs := rowG g l) (w := hlt)
  have h3 := rowG_get g l _ hlt
  have h4 : (rowAt g l (place g l x) == x) = true := by rw [← h3]; exact h2
  rw [rowG_len] at hlt
  exact ⟨hlt, by simpa using h4⟩
theorem place_eq {g l x i : Nat} (h : mayB g = true) (hl : l < g) (hi : i < g) (e : rowAt g l i = x) : place g l x = i := by
  have hx : x < g := by rw [← e]; exact rowAt_lt (by omega) _ _
  obtain ⟨h1, h2⟩ := place_spec h hl hx
  exact rowAt_inj h h1 hi (h2.trans e.symm)
theorem rowG_nodup {g l : Nat} (h : mayB g = true) : (rowG g l).Nodup := by
  refine List.pairwise_iff_getElem.2 fun i j hi hj hij e => ?_
  rw [rowG_get, rowG_get] at e
  rw [rowG_len] at hi hj
  have := rowAt_inj h hi hj e
  omega
theorem rowG_perm {g l : Nat} (h : mayB g = true) (hl : l < g) : (rowG g l).Perm (List.range g) := by
  refine (List.perm_ext_iff_of_nodup (rowG_nodup h) List.nodup_range).2 fun x => ⟨fun hx => ?_, fun hx => ?_⟩
  · unfold rowG at hx
    obtain ⟨i, _, rfl⟩ := List.mem_map.1 hx
    exact List.mem_range.2 (rowAt_lt (by omega) _ _)
  · obtain ⟨i, hi, he⟩ := rowAt_sur h hl (List.mem_range.1 hx)
    exact List.mem_map.2 ⟨i, List.mem_range.2 hi, he⟩

/-- The first group in the row that is so, with its number: what where tells. -/
def firstP (p : Nat → Bool) (g l : Nat) : Option (Nat × Nat) := (rowL g l).find? fun q => p q.2
/-- Sums over hashes. -/
def farB (g : Nat) (ls : List Nat) (x : Nat) : Nat := (ls.map fun l => place g l x).sum
def farL (g : Nat) (ls : List Nat) : List Nat := (List.range g).map (farB g ls)
theorem farL_len (g : Nat) (ls : List Nat) : (farL g ls).length = g := by simp [farL]
/-- .. as the code sums them: over what is left. -/
def sumTo (f : Nat → Nat) : Nat → Nat
  | 0 => 0
  | n + 1 => sumTo f n + f n
theorem sumTo_congr {f h : Nat → Nat} : ∀ {n : Nat}, (∀ i, i < n → f i = h i) → sumTo f n = sumTo h n
  | 0, _ => rfl
  | n + 1, e => by rw [sumTo, sumTo, sumTo_congr (fun i hi => e i (by omega)), e n (by omega)]
theorem sumTo_zero : ∀ n, sumTo (fun _ => 0) n = 0
  | 0 => rfl
  | n + 1 => by rw [sumTo, sumTo_zero n]
theorem sumTo_add (f h : Nat → Nat) : ∀ n, sumTo (fun i => f i + h i) n = sumTo f n + sumTo h n
  | 0 => rfl
  | n + 1 => by rw [sumTo, sumTo, sumTo, sumTo_add f h n]; omega
theorem sumTo_one (f : Nat → Nat) (k : Nat) : ∀ {n : Nat}, k < n → sumTo (fun i => if i = k then f i else 0) n = f k
  | n + 1, h => by
    rw [sumTo]
    by_cases e : k = n
    · subst e
      rw [if_pos rfl, sumTo_congr (h := fun _ => 0) (fun i hi => if_neg (by omega)), sumTo_zero, Nat.zero_add]
    · rw [if_neg (fun e2 => e e2.symm), sumTo_one f k (by omega), Nat.add_zero]
theorem farB_sum (g x : Nat) (ls : List Nat) (hl : ∀ l ∈ ls, l < g) : sumTo (fun f => place g f x * ls.count f) g = farB g ls x := by
  induction ls with
  | nil => simp [farB, sumTo_zero]
  | cons a t ih =>
    have ha := hl a (by simp)
    have e : farB g (a :: t) x = place g a x + farB g t x := by simp [farB]
    rw [e, ← ih fun l h => hl l (by simp [h])]
    rw [sumTo_congr (h := fun f => (if f = a then place g f x else 0) + place g f x * t.count f)]
    · rw [sumTo_add, sumTo_one _ _ ha]
    · intro f _
      rw [List.count_cons]
      by_cases e2 : f = a
      · subst e2; simp [Nat.mul_add]; omega
      · rw [if_neg e2, if_neg (by simp; exact fun e3 => e2 e3.symm), Nat.add_zero, Nat.zero_add]
end Go.Proofs
