/- Numbers that the call owns, sorted by the library. -/
import Derived.Test.YtehphohgnpbmpaaQu
import Derived.Test.YtehphohgnpbmpaaQb
import Derived.Sort.OwnSortedInts
namespace Go.Proofs
open Go.RowKit Go.Shelf Go.Sort
attribute [local go_sem] Oper.semAt_some

def leI (x y : Int) : Bool := decide (x ≤ y)
theorem intVals_map (ws : List Int) : intVals ws = ws.map (Value.int .i64) := rfl
theorem Try.sortInts_any (n₀ : Nat) (a : Option Addr) (n c : Nat) (ws : List Int) (hn : n = ws.length) (h0 : 0 < n) (h1 : n ≤ 1000) (w : World) (hO : OwnsInts n₀ ws (.slice a n c) w) :
    Calls Try.prog 26 #[.slice a n c] w fun e w' => e = .returned (.tuple #[]) ∧ OwnsInts n₀ (ws.mergeSort leI) (.slice a n c) w' ∧ ∃ g, n₀ ≤ g ∧ w.grownBy w' (some g) := by
  subst hn
  rcases hO.2 with ⟨h, _⟩ | ⟨g, cap, cur, hv, hg, hh, hl, hm, hs, ht⟩
  · injection h with _ h2
    omega
  · injection hv with hv1 hv2 hv3
    subst hv1 hv3
    have ht2 : cur.toList.take ws.length = ws.map (Value.int .i64) := by rw [← intVals_map]; simpa using ht
    have hH := holds_of_blockI hh ht2
    have hS := Try.slices_Sort_int g 0 c ws w hH (Array.getElem?_eq_some_iff.1 hh).1 (by omega)
    refine hS.mono ?_
    rintro e w' ⟨rfl, m, os, rfl⟩
    refine ⟨rfl, ?_, g, hg, grownBy_sortedI _⟩
    have hlen : (ws.mergeSort fun x y => decide (x ≤ y)).length = ws.length := List.length_mergeSort _
    have ho := ownsRow_sortedI (n := m) (os := os) (ts := ws.mergeSort fun x y => decide (x ≤ y)) hlen hg hh hl hm hs
    unfold OwnsInts
    rw [show (ws.mergeSort leI) = ws.mergeSort fun x y => decide (x ≤ y) from rfl, hlen]
    exact ho
theorem sorted_range {l : List Nat} {g : Nat} (h : l.Perm (List.range g)) : (l.map fun n : Nat => (n : Int)).mergeSort leI = (List.range g).map fun n : Nat => (n : Int) := by
  have hp : ((l.map fun n : Nat => (n : Int)).mergeSort leI).Perm ((List.range g).map fun n : Nat => (n : Int)) := (List.mergeSort_perm _ _).trans (h.map _)
  have h1 : ((l.map fun n : Nat => (n : Int)).mergeSort leI).Pairwise (fun a b => leI a b = true) := List.pairwise_mergeSort (fun a b c => by simp [leI]; omega) (fun a b => by simp [leI]; omega) _
  have h2 : ((List.range g).map fun n : Nat => (n : Int)).Pairwise (fun a b => leI a b = true) := by
    rw [List.pairwise_map]
    exact (List.pairwise_lt_range).imp (fun {a b} h => by simp [leI]; omega)
  exact hp.eq_of_pairwise (fun a b _ _ h3 h4 => by simp [leI] at h3 h4; omega) h1 h2
end Go.Proofs
