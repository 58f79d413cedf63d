/- far: sums over hashes. -/
import Derived.Test.YtehphohgnpbmpaaQh
import Derived.Test.YtehphohgnpbmpaaQe
import Derived.Test.YtehphohgnpbmpaaRi
import Derived.WalkMore
import Derived.ScopeJumps
namespace Go.Proofs
open Go.RowKit Go.Shelf
attribute [local go_sem] Oper.semAt_some

/-- So many numbers in a block. -/
def arrN (n : Nat) (f : Nat → Nat) : Array Value := ((List.range n).map fun i => Value.int .i64 (f i : Int)).toArray
theorem arrN_size (n : Nat) (f : Nat → Nat) : (arrN n f).size = n := by simp [arrN]
theorem arrN_get (n : Nat) (f : Nat → Nat) (k : Nat) (h : k < n) : (arrN n f)[k]? = some (.int .i64 (f k : Int)) := by
  simp [arrN, h]
theorem arrN_set (n : Nat) (f : Nat → Nat) (k z : Nat) : (arrN n f).setIfInBounds k (.int .i64 (z : Int)) = arrN n (fun n => if n = k then z else f n) := by
  apply Array.ext_getElem?
  intro i
  by_cases hi : i < n
  · rw [arrN_get _ _ _ hi]
    by_cases e : k = i
    · subst e
      rw [Array.getElem?_setIfInBounds_self, if_pos (by rw [arrN_size]; exact hi), if_pos rfl]
    · rw [Array.getElem?_setIfInBounds_ne e, arrN_get _ _ _ hi, if_neg (fun e2 => e e2.symm)]
  · rw [Array.getElem?_eq_none (by rw [Array.size_setIfInBounds, arrN_size]; omega), Array.getElem?_eq_none (by rw [arrN_size]; omega)]
theorem arrN_congr {n : Nat} {f h : Nat → Nat} (e : ∀ i, i < n → f i = h i) : arrN n f = arrN n h := by
  unfold arrN
  congr 1
  refine List.map_congr_left fun i hi => ?_
  rw [e i (List.mem_range.1 hi)]
theorem arrN_zero (n : Nat) : arrN n (fun _ => 0) = Array.replicate n (.int .i64 0) := by
  apply Array.ext_getElem?
  intro i
  by_cases hi : i < n
  · rw [arrN_get _ _ _ hi]; simp [hi]
  · rw [Array.getElem?_eq_none (by rw [arrN_size]; omega), Array.getElem?_eq_none (by simp; omega)]
theorem Rows8.setN {W : World} {B : Nat} {t : TypeId} {n : Nat} {f : Nat → Nat} (h : Rows8 W B t (arrN n f)) (k z : Nat) : Rows8 (W.setCell ⟨B, k, none⟩ (.int .i64 (z : Int))) B t (arrN n (fun n => if n = k then z else f n)) := by
  rw [← arrN_set n f k z]
  exact h.set k _
theorem arrN_at {W : World} {B : Nat} {t : TypeId} {n : Nat} {f : Nat → Nat} {ns : List Nat} (h : Rows8 W B t (arrN n f)) (hn : n = ns.length) (h8 : n ≤ 64) (hf : ∀ k (hk : k < ns.length), f k = ns[k]) : IntsAt W (.slice (some ⟨B, 0, none⟩) n n) (natI ns) := by
  subst hn
  refine ⟨by rw [intVals_length, Nat.mul_one], some ⟨B, 0, none⟩, ns.length, by rw [natI_len], by rw [natI_len]; exact Nat.le_refl _, by unfold maxLen; omega, (fun e => by cases e), fun j hj => ⟨B, 0, rfl, h.lt, ?_⟩⟩
  rw [intVals_length, natI_len] at hj
  rw [Nat.zero_add, h.cell j, arrN_get _ f j (by omega), intVals_get (natI ns) j (by rw [natI_len]; exact hj), natI_get _ _ hj, hf j hj]

/-- What is left of each of these hashes. -/
def lefts (g : Nat) (ws : List Int) : List Nat := ws.map fun z => z.toNat % g
theorem count_next (ls : List Nat) (k : Nat) (h : k < ls.length) : (fun n => if n = ls[k] then (ls.take k).count ls[k] + 1 else (ls.take k).count n) = fun n => (ls.take (k + 1)).count n := by
  funext n
  rw [take_snoc ls k h, List.count_append, List.count_singleton]
  by_cases e : n = ls[k]
  · subst e; simp
  · rw [if_neg e, if_neg (by simp; exact fun e2 => e e2.symm)]; omega

/-- Marks of loops over functions that are over. -/
def marks (Ds : List Nat) : List Deferred := Ds.map fun D => { target := .collected D, args := #[] }
def shutAll (W : World) (Ds : List Nat) : World := Ds.foldl (fun W D => W.putObj D (.deferred none)) W
theorem leaves_marks {F : Fence} {n : Nat} {P : Program} {fn : Func} {tmps : Array Value} {R : Ending → World → Prop} : ∀ (Ds : List Nat) (W : World), Ds.Nodup → (∀ D ∈ Ds, W.heap[D]? = some (.deferred (some []))) →
    LeavesInM F n P fn tmps R [] .returning (shutAll W Ds) → LeavesInM F n P fn tmps R (marks Ds) .returning W
  | [], _, _, _, h => h
  | D :: Ds, W, hn, hK, h => by
    obtain ⟨h1, h2⟩ := List.nodup_cons.1 hn
    refine ⟨by simp, .inl ⟨D, _, rfl, run_takeDeferred (hK D (by simp)), ?_⟩⟩
    refine leaves_marks Ds _ h2 (fun E hE => (World.putObj_heap_other (by rintro rfl; exact h1 hE)).trans (hK E (by simp [hE]))) h
theorem shutAll_rows : ∀ (Ds : List Nat) (W : World), Ds.Nodup → (∀ D ∈ Ds, W.heap[D]? = some (.deferred (some []))) → ∀ {B : Nat} {t : TypeId} {cs : Array Value}, Rows8 W B t cs → Rows8 (shutAll W Ds) B t cs
  | [], _, _, _, _, _, _, h => h
  | D :: Ds, W, hn, hK, _, _, _, h => by
    obtain ⟨h1, h2⟩ := List.nodup_cons.1 hn
    exact shutAll_rows Ds _ h2 (fun E hE => (World.putObj_heap_other (by rintro rfl; exact h1 hE)).trans (hK E (by simp [hE]))) (rows_put h (hK D (by simp)))
theorem shutAll_below : ∀ (Ds : List Nat) {A : World} (W : World), Ds.Nodup → (∀ D ∈ Ds, W.heap[D]? = some (.deferred (some []))) → (∀ D ∈ Ds, A.heap.size ≤ D) → Below A.heap.size A W → Below A.heap.size A (shutAll W Ds)
  | [], _, _, _, _, _, h => h
  | D :: Ds, A, W, hn, hK, hD, h => by
    obtain ⟨h1, h2⟩ := List.nodup_cons.1 hn
    exact shutAll_below Ds _ h2 (fun E hE => (World.putObj_heap_other (by rintro rfl; exact h1 hE)).trans (hK E (by simp [hE]))) (fun E hE => hD E (by simp [hE]))
      (h.trans (belowK_b (w := A) (Nat.le_refl _) W D _ _ (hD D (by simp)) (hK D (by simp)) rfl rfl))
theorem wpIn_scope_jumps' {n : Nat} {P : Program} {Q : Exit → Act → World → Prop} {a : Act} {w : World} {c rest : Code} (l : Nat) (J : Act → World → Prop) (μ : Act → World → Nat) (hf : findLabel c l = some (Code.skip.seq rest))
    (pass : ∀ a w, J a w → rest.wpIn Fence.wide n P (Exit.jump l (fun a' w' => J a' w' ∧ μ a' w' < μ a w) Q) a w)
    (first : (∀ a w, J a w → rest.wpIn Fence.wide n P (Exit.jump l J Q) a w) → c.wpIn Fence.wide n P (Exit.jump l J Q) a w) : (Code.scope c).wpIn Fence.wide n P Q a w :=
  wpIn_wide.2 (wp_scope_jumps l J μ hf (wpIn_wide.1 (first fun a w h => wpIn_mono (pass a w h) (by
    intro e a' w' he
    cases e <;> first | exact he | exact ⟨he.1, he.2.1⟩))) (fun a w h => wpIn_wide.1 (wpIn_seq (wpIn_skip (pass a w h)))))
end Go.Proofs
