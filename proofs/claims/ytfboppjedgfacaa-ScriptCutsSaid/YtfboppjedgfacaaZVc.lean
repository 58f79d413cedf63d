/- slices.Sort of at most twelve words. -/
import Derived.Test.YtfboppjedgfacaaZVa
import Derived.Test.YtfboppjedgfacaaZVl
namespace Go.Proofs
open Go.RowKit Go.Shelf
attribute [local go_sem] Oper.semAt_some

set_option maxRecDepth 100000 in
set_option maxHeartbeats 4000000 in
theorem Try.pdq_small (B cap n cp : Nat) (lim : Int) (d : Array Int) (hn : n = d.size) (h12 : n ≤ 12) (w : World) (hS : SRow w B cap d) :
    Calls Try.prog 71 #[.slice (some ⟨B, 0, none⟩) n cp, .int .i64 0, .int .i64 (n : Int), .int .i64 lim] w fun e w' => e = .returned (.tuple #[]) ∧ SRow w' B cap (Sort.insertionSort ltB d 0 n) ∧ w.grownBy w' (some B) := by
  have hi := Try.insertionSort_any B cap 0 n n cp d (by omega) hn (Nat.zero_le _) (Nat.le_refl _) w hS
  have h12' : (n : Int) ≤ 12 := by omega
  have h12d : decide ((n : Int) ≤ 12) = true := by simp; omega
  clear hn hS
  generalize Sort.insertionSort ltB d 0 n = r at *
  go_enter Try.func71, Try.ntmps71
  go_wp2_with fail
  refine wp_loop_rounds 1 ?_
  rw [rounds_succ]
  go_wp2_with fail
  refine hi.mono ?_
  rintro e w' ⟨rfl, hS, hG⟩
  go_wp2_with fail
  refine bodyPost_ret (results_none rfl _ _ _) rfl ?_
  exact ⟨rfl, hS, hG⟩
set_option maxRecDepth 100000 in
set_option maxHeartbeats 4000000 in
theorem Try.sort_small (B cap n cp : Nat) (d : Array Int) (hn : n = d.size) (h12 : n ≤ 12) (w : World) (hS : SRow w B cap d) :
    Calls Try.prog 55 #[.slice (some ⟨B, 0, none⟩) n cp] w fun e w' => e = .returned (.tuple #[]) ∧ SRow w' B cap (Sort.insertionSort ltB d 0 n) ∧ w.grownBy w' (some B) := by
  have hl := Try.Len_any n (by omega) w
  have hp := fun lim => Try.pdq_small B cap n cp lim d hn h12 w hS
  have hw : IntKind.u64.wrap (n : Int) = (n : Int) := by
    have e : IntKind.u64.wrap (n : Int) = (n : Int) % 18446744073709551616 := by simp [IntKind.wrap, IntKind.bits, IntKind.signed]
    rw [e]; omega
  clear hn hS
  generalize Sort.insertionSort ltB d 0 n = r at *
  generalize Lib.bitLen n = bl at *
  go_enter Try.func55, Try.ntmps55
  go_wp2_with fail
  refine hl.mono ?_
  rintro e w' ⟨rfl, rfl⟩
  go_wp2_with fail
  refine (hp _).mono ?_
  rintro e w' ⟨rfl, hS, hG⟩
  go_wp2_with fail
  go_end0
  exact ⟨rfl, hS, hG⟩
set_option maxRecDepth 100000 in
set_option maxHeartbeats 4000000 in
/-- Of a row that has no cells, wherever it points. -/
theorem Try.sort_none (x : Option Addr) (cp : Nat) (w : World) :
    Calls Try.prog 55 #[.slice x 0 cp] w fun e w' => e = .returned (.tuple #[]) ∧ w = w' := by
  have hl := Try.Len_any 0 (by omega) w
  have hi : Calls Try.prog 75 #[.slice x 0 cp, .int .i64 0, .int .i64 0] w fun e w' => e = .returned (.tuple #[]) ∧ w = w' := by
    go_enter Try.func75, Try.ntmps75
    go_wp2_with fail
    refine wp_loop_rounds 1 ?_
    rw [rounds_succ]
    go_wp2_with fail
    go_end0
    exact ⟨rfl, rfl⟩
  have hp : ∀ lim, Calls Try.prog 71 #[.slice x 0 cp, .int .i64 0, .int .i64 0, .int .i64 lim] w fun e w' => e = .returned (.tuple #[]) ∧ w = w' := by
    intro lim
    go_enter Try.func71, Try.ntmps71
    go_wp2_with fail
    refine wp_loop_rounds 1 ?_
    rw [rounds_succ]
    go_wp2_with fail
    refine hi.mono ?_
    rintro e w' ⟨rfl, rfl⟩
    go_wp2_with fail
    refine bodyPost_ret (results_none rfl _ _ _) rfl ?_
    exact ⟨rfl, rfl⟩
  have hb : Lib.bitLen 0 = 0 := by decide
  rw [hb] at hl
  go_enter Try.func55, Try.ntmps55
  go_wp2_with fail
  refine hl.mono ?_
  rintro e w' ⟨rfl, rfl⟩
  go_wp2_with fail
  refine (hp _).mono ?_
  rintro e w' ⟨rfl, rfl⟩
  go_wp2_with fail
  go_end0
  exact ⟨rfl, rfl⟩
end Go.Proofs
