/- slices.Sort of fewer than fifty words. -/
import Derived.Test.YtobomgedghbflaaVo
import Derived.Test.YtobomgedghbflaaHg
import Derived.Shelf.SlSortCmp.Xorshift
namespace Go.Proofs
open Go.RowKit Go.Shelf
attribute [local go_sem] Oper.semAt_some

theorem bitLen_few : ∀ n, n < 50 → Lib.bitLen n ≤ 10 := by decide
set_option maxRecDepth 100000 in
set_option maxHeartbeats 4000000 in
theorem Try.sort_few (B cap n cp : Nat) (d : Array Int) (hn : n = d.size) (h50 : n < 50) (w : World) (hS : SRow w B cap d) :
    Calls Try.prog 6 #[.slice (some ⟨B, 0, none⟩) n cp] w fun e w' => e = .returned (.tuple #[]) ∧ SRow w' B cap (Sort.pdq ltB d 0 n (Lib.bitLen n) true true) ∧ w.grownBy w' (some B) := by
  have hl := Try.Len_any n (by omega) w
  have hp := Try.pdqsort_any B cap n cp h50 (n + 1) 0 n (Lib.bitLen n) d w (by omega) hn.symm (Nat.zero_le _) (Nat.le_refl _) (by have := bitLen_few n h50; omega) (Or.inl rfl) hS
  have hw : IntKind.u64.wrap (n : Int) = (n : Int) := by
    have e : IntKind.u64.wrap (n : Int) = (n : Int) % 18446744073709551616 := by simp [IntKind.wrap, IntKind.bits, IntKind.signed]
    rw [e]; omega
  clear hn hS
  generalize Sort.pdq ltB d 0 n (Lib.bitLen n) true true = r at *
  generalize Lib.bitLen n = bl at *
  go_enter Try.func6, Try.ntmps6
  go_wp2_with fail
  refine hl.mono ?_
  rintro e w' ⟨rfl, rfl⟩
  go_wp2_with fail
  refine hp.mono ?_
  rintro e w' ⟨rfl, hS, hG⟩
  go_wp2_with fail
  go_end0
  exact ⟨rfl, hS, hG⟩
theorem pdq_sortW (l : List Int) (lim : Nat) : (Sort.pdq ltB l.toArray 0 l.length lim true true).toList = sortW l := by
  obtain ⟨h1, h2⟩ := pdq_any8 swo_ltB l.toArray 0 l.length lim true true (Nat.zero_le _) (by simp) (Or.inl rfl)
  exact Sort.sorted_unique_holds swo_ltB ltB_eq l.toArray _ (by simpa using h1) (by simpa using h2)
theorem Try.sortOk30 : Try.SortOk 30 := fun B cap n cp l hn h30 w hS => by
  have h := Try.sort_few B cap n cp l.toArray (by simpa using hn) (by omega) w hS
  have e : Sort.pdq ltB l.toArray 0 n (Lib.bitLen n) true true = (sortW l).toArray := by
    rw [← pdq_sortW l (Lib.bitLen n), hn]
  rw [e] at h
  exact h
end Go.Proofs
