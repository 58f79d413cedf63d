/- Ctrl: Sets, Match. -/
import Derived.Test.YtmjlaienklheiaaJd
namespace Go.Proofs
set_option maxRecDepth 100000
open Go.RowKit Go.Shelf
attribute [local go_sem] Oper.semAt_some

theorem arr4_4 (x : Nat) : arr4 x 4 = #[.int .u8 (setK x 0 : Nat), .int .u8 (setK x 1 : Nat), .int .u8 (setK x 2 : Nat), .int .u8 (setK x 3 : Nat)] := rfl
theorem below_drewN {h : Nat} {A B : World} (p : Below h A B) (n : Nat) : Below h A (B.drewN n) := ⟨p.os, p.tape, p.output, p.size, p.block⟩
/-- What Sets tells. -/
def setsE (x t : Nat) : Nat := if rightC x then setK x t else 0
set_option maxHeartbeats 2000000 in
theorem Try.Sets_any (x : Nat) (w : World) : Calls Try.prog 12 #[.int .u64 x] w fun e w' => e = .returned (.tuple #[.int .u8 (setsE x 0 : Nat), .int .u8 (setsE x 1 : Nat), .int .u8 (setsE x 2 : Nat)]) ∧ Below w.heap.size w w' := by
  have HA := Lib.hid (Try.sets_any x w)
  rw [arr4_4] at HA
  unfold setsE
  cases h : rightC x
  · have h3 : (((setK x 3 : Nat) : Int) == 0) = false := by
      unfold rightC at h
      rw [← h]
      exact natEq_walk _ 0
    generalize setK x 0 = s0, setK x 1 = s1, setK x 2 = s2, setK x 3 = s3 at *
    go_enter Try.func12, Try.ntmps12
    go_wp2_with (go_at_call 35; refine HA.out.mono ?_; rintro e w2 ⟨rfl, hB2⟩)
    refine bodyPost_ret (results_tmp3 rfl _ _ _) rfl ⟨rfl, ?_⟩
    exact hB2.alloc hB2.size _
  · have h3 : (((setK x 3 : Nat) : Int) == 0) = true := by
      unfold rightC at h
      rw [← h]
      exact natEq_walk _ 0
    generalize setK x 0 = s0, setK x 1 = s1, setK x 2 = s2, setK x 3 = s3 at *
    go_enter Try.func12, Try.ntmps12
    go_wp2_with (go_at_call 35; refine HA.out.mono ?_; rintro e w2 ⟨rfl, hB2⟩)
    go_quiet (fail)
    go_wp2
    refine bodyPost_ret (results_tmp3 rfl _ _ _) rfl ⟨rfl, ?_⟩
    exact below_drewN (hB2.alloc hB2.size _) _

/-- Match. -/
def matchM (x h : Nat) : Nat := if rightC x then (if h ≤ 127 then (maskB fun k => byt x k == h) else 0) else 0
def matchE (x h : Nat) : Int := if rightC x then (if h ≤ 127 then 0 else 2) else 190
set_option maxHeartbeats 2000000 in
theorem Try.Match_any (x h : Nat) (w : World) : Calls Try.prog 16 #[.int .u64 x, .int .u8 h] w fun e w' => e = .returned (.tuple #[.int .u8 (matchM x h : Nat), .int .i64 (matchE x h)]) ∧ Below w.heap.size w w' := by
  have b0 := Rows8.new w 5 #[.int .u8 h]
  have hB0 : Below w.heap.size w (w.alloc (.cells #[.int .u8 h] 5)) := (Below.refl _ w).alloc (Nat.le_refl _) _
  have HK := Lib.hid (Try.Check_any x (w.alloc (.cells #[.int .u8 h] 5)))
  unfold matchM matchE
  cases hr : rightC x
  · rw [hr] at HK
    simp only [Bool.false_eq_true, if_false] at *
    go_enter Try.func16, Try.ntmps16
    go_wp2_with (go_at_call 11; refine HK.out.mono ?_; rintro e w2 ⟨rfl, hB2⟩)
    go_ret2
    exact ⟨rfl, hB0.trans (hB2.mono hB0.size)⟩
  · rw [hr] at HK
    simp only [if_true] at *
    by_cases hh : h ≤ 127
    · rw [if_pos hh, if_pos hh]
      have hk : kd h = 0 := by simp [kd, hh]
      have HS := Lib.hid fun W => (hk ▸ Try.said_any h W : Calls Try.prog 38 #[.int .u8 h] W fun e w' => e = .returned (.int .i64 (0 : Nat)) ∧ W = w')
      have HW := Lib.hid fun (W : World) (b : Below w.heap.size w W) (r : Rows8 W w.heap.size 5 #[.int .u8 h]) => Try.whereB_any x h W.heap.size w.heap.size (W.alloc (.cells #[.int .u64 x] 59)) (Rows8.new _ _ _) (r.alloc _)
      have HB := Lib.hid b0
      have hl := b0.lt
      clear b0 hh hk hr
      go_enter Try.func16, Try.ntmps16
      go_wp2_with (first
        | (go_at_call 11; refine HK.out.mono ?_; rintro e w2 ⟨rfl, hB2⟩; have r2 := HB.out.below hB2 hl; have c2 := r2.cell 0; simp at c2)
        | (go_at_call 38; refine (HS.out _).mono ?_; rintro e w3 ⟨rfl, rfl⟩)
        | (go_at_call 40; refine (Try.bytes_any _ _).mono ?_; rintro e w4 ⟨rfl, rfl⟩)
        | (go_at_call 39; refine (HW.out _ (hB0.trans (hB2.mono hB0.size)) r2).mono ?_; rintro e w5 ⟨rfl, hB5⟩))
      go_ret2
      have h2 := hB0.trans (hB2.mono hB0.size)
      exact ⟨rfl, (h2.alloc h2.size _).trans (hB5.mono (by simp; have := h2.size; omega))⟩
    · rw [if_neg hh, if_neg hh]
      have hk : kd h ≠ 0 := by
        unfold kd
        rw [if_neg hh]
        repeat' split
        all_goals decide
      have hkb : (((kd h : Nat) : Int) == 0) = false := by simpa using hk
      have HS := Lib.hid fun W => Try.said_any h W
      have HB := Lib.hid b0
      have hl := b0.lt
      clear b0 hh hk hr
      generalize kd h = kk at *
      go_enter Try.func16, Try.ntmps16
      go_wp2_with (first
        | (go_at_call 11; refine HK.out.mono ?_; rintro e w2 ⟨rfl, hB2⟩; have r2 := HB.out.below hB2 hl; have c2 := r2.cell 0; simp at c2)
        | (go_at_call 38; refine (HS.out _).mono ?_; rintro e w3 ⟨rfl, rfl⟩))
      go_ret2
      exact ⟨rfl, hB0.trans (hB2.mono hB0.size)⟩
end Go.Proofs
