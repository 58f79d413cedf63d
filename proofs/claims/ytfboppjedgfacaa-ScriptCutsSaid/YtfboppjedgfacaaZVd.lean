/- A row that is copied into another one; what sorting comes to. -/
import Derived.Test.YtfboppjedgfacaaZVc
import Derived.Test.YtfboppjedgfacaaZKa
namespace Go.Proofs
open Go.RowKit Go.Shelf
attribute [local go_sem] Oper.semAt_some

theorem grown_setRow (w : World) (g : Nat) (cs : Array Value) : w.grownBy (w.setRow g cs) (some g) :=
  ⟨rfl, rfl, rfl, by simp [World.setRow], fun k _ hne => setRow_other w g k cs (fun e => hne (by rw [e]))⟩
/-- copy of a whole row into the cells of a block that are as many. -/
theorem wpList_copy_whole {P : Program} {w : World} {ops : Array Oper} {rest : List Oper} {o : Oper} {a : Act} {Q : Exit → Act → World → Prop} (hgd : o.guard = none) (d s : Operand) (dT sT : TypeId)
    (ho : o.op = .call { callee := .builtin .copy, args := #[d, s], argTypes := #[dT, sT] }) (elem : TypeId) (hu : P.underlying dT = some (.slice elem)) (hsz : (P.info? elem).map (·.size) = some 1)
    (g n : Nat) (cap : Nat) (src : Value) (hd : a.eval d = .slice (some ⟨g, 0, none⟩) n cap) (hs : a.eval s = src)
    (cur : Array Value) (t : TypeId) (hg : w.heap[g]? = some (.cells cur t (0, 0))) (cs : List Value) (hn : cs.length = n) (hc : cur.size = n) (hr : RowAt w src n 1 cs) (h1 : ∀ v ∈ cs, v.oneCell' = true)
    (h : ∀ w', Rows8 w' g t cs.toArray → w.grownBy w' (some g) → wpList P ops Q rest (a.put o.dst (goInt cs.length)) w') :
    wpList P ops Q (o :: rest) a w := by
  have hr0 := hr
  obtain ⟨h0, ad, cp, rfl, h2, h3, h4, h5⟩ := hr
  by_cases hz : n = 0
  · subst hz
    obtain rfl : cs = [] := List.eq_nil_of_length_eq_zero hn
    obtain rfl : cur = #[] := by simpa using hc
    refine wpList_copy_nothing hgd d s dT sT ho elem hu hsz _ _ 0 cap 0 cp hd hs (by simp) ?_
    exact h w hg (World.grownBy.refl _ _)
  · obtain ⟨b, off, rfl, hb, _⟩ := h5 0 (by omega)
    refine wpList_copy_own hgd d s dT sT ho elem hu hsz g 0 n cap ⟨b, off, none⟩ n cp hd hs cur t hg cs (by rw [hn]; exact (Nat.min_self n).symm) (row_src hr0) (by omega) h1 ?_
    have e : (cur.toList.take 0 ++ (cs ++ cur.toList.drop (0 + cs.length))).toArray = cs.toArray := by
      rw [List.drop_eq_nil_of_le (by rw [Array.length_toList]; omega)]
      simp
    rw [e]
    exact h _ (setRow_heap w g _ _ t _ hg) (grown_setRow w g _)

/-- These words, in their order. -/
def sortW (l : List Int) : List Int := l.mergeSort fun x y => !ltB y x
theorem swo_ltB : Sort.SWO ltB := ⟨fun x => by simp [ltB], fun x y z h1 h2 => by simp [ltB] at *; omega, fun x y z h1 h2 => by simp [ltB] at *; omega⟩
theorem ltB_eq (x y : Int) (h1 : ltB x y = false) (h2 : ltB y x = false) : x = y := by simp [ltB] at *; omega
theorem insertion_sortW (l : List Int) : (Sort.insertionSort ltB l.toArray 0 l.length).toList = sortW l := by
  obtain ⟨h1, h2⟩ := Sort.insertionSort_holds swo_ltB l.toArray 0 l.length (Nat.zero_le _) (by simp)
  exact Sort.sorted_unique_holds swo_ltB ltB_eq l.toArray _ (by simpa using h1) (by simpa using h2)
theorem sortW_perm (l : List Int) : (sortW l).Perm l := List.mergeSort_perm l _
theorem sortW_length (l : List Int) : (sortW l).length = l.length := (sortW_perm l).length_eq
theorem sortW_mem {l : List Int} {x : Int} : x ∈ sortW l ↔ x ∈ l := (sortW_perm l).mem_iff
theorem sortW_sorted (l : List Int) : (sortW l).Pairwise (fun x y => x ≤ y) := by
  have h := List.pairwise_mergeSort (le := fun x y => !ltB y x) (fun a b c h1 h2 => by simp [ltB] at *; omega) (fun a b => by simp [ltB]; omega) l
  exact h.imp (fun h => by simpa [ltB] using h)
theorem sRow_words {W : World} {g : Nat} {l : List Int} (h : Rows8 W g 22 (wordVals l).toArray) : SRow W g l.length l.toArray :=
  ⟨_, h, by simp [wordVals_length], by simp, fun i hi => by
    have hi : i < l.length := by simpa using hi
    simp [wordVals, hi]⟩
set_option maxRecDepth 100000 in
theorem Try.sortWords_small (B cap n cp : Nat) (l : List Int) (hn : n = l.length) (h12 : n ≤ 12) (w : World) (hS : SRow w B cap l.toArray) :
    Calls Try.prog 55 #[.slice (some ⟨B, 0, none⟩) n cp] w fun e w' => e = .returned (.tuple #[]) ∧ SRow w' B cap (sortW l).toArray ∧ w.grownBy w' (some B) := by
  have h := Try.sort_small B cap n cp l.toArray (by simpa using hn) h12 w hS
  have e : Sort.insertionSort ltB l.toArray 0 n = (sortW l).toArray := by
    rw [hn, ← insertion_sortW]
  rw [e] at h
  exact h
end Go.Proofs
