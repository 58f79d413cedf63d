/- Limbo: isEntry, rowOf; which may be, Check. -/
import Derived.Test.YtghnfiegihfdnaaDoorLb
namespace Go.Proofs
set_option maxRecDepth 100000
open Go.RowKit Go.Shelf
attribute [local go_sem] Oper.semAt_some

theorem wrap_u (z : Int) (h0 : 0 ≤ z) (h1 : z < 18446744073709551616) : IntKind.u64.wrap z = z := by rw [IntKind.wrap_u64]; omega
theorem wrap_i (z : Int) (h0 : 0 ≤ z) (h1 : z < 9223372036854775808) : IntKind.i64.wrap z = z := by rw [IntKind.wrap_i64]; omega
/-- Three rows' slices; with number 3, what was taken. -/
structure Ls where
  a : Nat → Option Addr
  n : Nat → Nat
  c : Nat → Nat
/-- The rows, as they lie there. -/
def LAt (W : World) (s : Ls) (r : Rw3) : Prop := ∀ k, k < 3 → PAt W (.slice (s.a k) (s.n k) (s.c k)) (r k)
theorem LAt.below {W W' : World} {s : Ls} {r : Rw3} (h : LAt W s r) (hB : Below W.heap.size W W') : LAt W' s r := fun k hk => (h k hk).below hB
theorem LAt.len {W : World} {s : Ls} {r : Rw3} (h : LAt W s r) (k : Nat) (hk : k < 3) : s.n k = (r k).length ∧ s.n k ≤ 9223372036854775807 := by
  have h1 := pAt_len (h k hk)
  unfold maxLen at h1
  exact ⟨h1.1, by omega⟩
set_option maxHeartbeats 1000000 in
theorem Tryd.isEntry_any (p : Pr) (w : World) : Calls Tryd.prog 50 #[.agg #[.int .i64 p.1, .int .u64 (p.2 : Nat)]] w fun e w' => e = .returned (.bool (okE p)) ∧ Below w.heap.size w w' := by
  obtain ⟨t, g⟩ := p
  obtain ⟨b, hb⟩ : ∃ b, b = okE (t, g) := ⟨_, rfl⟩
  rw [← hb]
  unfold okE at hb
  have HB := Lib.hid hb
  have hB0 : Below w.heap.size w (w.alloc (.cells #[.int .i64 t, .int .u64 (g : Nat)] 38)) := Rows8.newB
  clear hb
  dsimp only
  by_cases h1 : 0 ≤ t
  · by_cases h2 : t < 128
    · by_cases h4 : ((g : Nat) : Int) ≤ 1099511627775
      · have h3 : Hid (b = true) := Lib.hid (by rw [HB.out, decide_eq_true_eq]; dsimp only; omega)
        go_enter Tryd.func50, Tryd.ntmps50
        go_wp2
        go_ret
        exact ⟨by rw [h3.out]; first | rfl | simp [h1, h2, h4], hB0⟩
      · have h3 : Hid (b = false) := Lib.hid (by rw [HB.out, decide_eq_false_iff_not]; dsimp only; omega)
        go_enter Tryd.func50, Tryd.ntmps50
        go_wp2
        go_ret
        exact ⟨by rw [h3.out]; first | rfl | simp [h1, h2, h4], hB0⟩
    · have h3 : Hid (b = false) := Lib.hid (by rw [HB.out, decide_eq_false_iff_not]; dsimp only; omega)
      go_enter Tryd.func50, Tryd.ntmps50
      go_wp2
      go_ret
      exact ⟨by rw [h3.out]; first | rfl | simp [h1, h2], hB0⟩
  · have h3 : Hid (b = false) := Lib.hid (by rw [HB.out, decide_eq_false_iff_not]; dsimp only; omega)
    go_enter Tryd.func50, Tryd.ntmps50
    go_wp2
    go_ret
    exact ⟨by rw [h3.out]; first | rfl | simp [h1], hB0⟩
set_option maxHeartbeats 1000000 in
theorem Tryd.refEntry_any (p : Pr) (w : World) : Calls Tryd.prog 31 #[.agg #[.int .i64 p.1, .int .u64 (p.2 : Nat)]] w fun e w' => e = .returned (.bool (okE p)) ∧ Below w.heap.size w w' := by
  obtain ⟨t, g⟩ := p
  obtain ⟨b, hb⟩ : ∃ b, b = okE (t, g) := ⟨_, rfl⟩
  rw [← hb]
  unfold okE at hb
  have HB := Lib.hid hb
  have hB0 : Below w.heap.size w (w.alloc (.cells #[.int .i64 t, .int .u64 (g : Nat)] 38)) := Rows8.newB
  clear hb
  dsimp only
  by_cases h1 : 0 ≤ t
  · by_cases h2 : t < 128
    · by_cases h4 : ((g : Nat) : Int) ≤ 1099511627775
      · have h3 : Hid (b = true) := Lib.hid (by rw [HB.out, decide_eq_true_eq]; dsimp only; omega)
        go_enter Tryd.func31, Tryd.ntmps31
        go_wp2
        go_ret
        exact ⟨by rw [h3.out]; first | rfl | simp [h1, h2, h4], hB0⟩
      · have h3 : Hid (b = false) := Lib.hid (by rw [HB.out, decide_eq_false_iff_not]; dsimp only; omega)
        go_enter Tryd.func31, Tryd.ntmps31
        go_wp2
        go_ret
        exact ⟨by rw [h3.out]; first | rfl | simp [h1, h2, h4], hB0⟩
    · have h3 : Hid (b = false) := Lib.hid (by rw [HB.out, decide_eq_false_iff_not]; dsimp only; omega)
      go_enter Tryd.func31, Tryd.ntmps31
      go_wp2
      go_ret
      exact ⟨by rw [h3.out]; first | rfl | simp [h1, h2], hB0⟩
  · have h3 : Hid (b = false) := Lib.hid (by rw [HB.out, decide_eq_false_iff_not]; dsimp only; omega)
    go_enter Tryd.func31, Tryd.ntmps31
    go_wp2
    go_ret
    exact ⟨by rw [h3.out]; first | rfl | simp [h1], hB0⟩
theorem Tryd.rowOf_any (E : Nat) (w : World) : Calls Tryd.prog 52 #[.int .u64 (E : Nat)] w fun e w' => e = .returned (.int .i64 ((E % 3 : Nat) : Int)) ∧ w' = w := by
  have h1 : ((E : Nat) : Int) % 3 = ((E % 3 : Nat) : Int) := by omega
  have h2 : ((E : Nat) : Int).tmod 3 = ((E % 3 : Nat) : Int) := by rw [Int.tmod_eq_emod_of_nonneg (by omega)]; exact h1
  have h4 : E % 3 < 3 := Nat.mod_lt _ (by decide)
  have h3 : IntKind.u64.wrap ((E % 3 : Nat) : Int) = ((E % 3 : Nat) : Int) := wrap_u _ (by omega) (by omega)
  have h5 : IntKind.i64.wrap ((E % 3 : Nat) : Int) = ((E % 3 : Nat) : Int) := wrap_i _ (by omega) (by omega)
  generalize E % 3 = q at *
  clear h4
  go_enter Tryd.func52, Tryd.ntmps52
  go_wp2
  go_ret
  exact ⟨by first | rfl | simp [h1, h2, h3, h5], rfl⟩
end Go.Proofs
