/- Layout: rowOf, prefixOf, highest. -/
import Derived.Test.YtkddfihfilhhdaaWh
namespace Go.Proofs
set_option maxRecDepth 100000
open Go.RowKit Go.Shelf
attribute [local go_sem] Oper.semAt_some

set_option maxHeartbeats 1000000 in
theorem Try.rowOf_any (a : Option Addr) (n c : Nat) (q : Int) (w : World) (_ : n ≤ maxLen) : Calls Try.prog 77 #[.slice a n c, .int .i64 q] w fun e w' => Below w.heap.size w w' ∧ ((n = 40 ∧ e = .returned (.agg #[.slice a n c, .int .i64 q])) ∨ (n ≠ 40 ∧ e = .panicked (panicA q))) := by
  obtain ⟨W0, hW0⟩ : ∃ W, W = w.alloc (.cells #[.slice none 0 0, .int .i64 0] 110) := ⟨_, rfl⟩
  have HR : Hid (Rows8 W0 w.heap.size 110 #[.slice none 0 0, .int .i64 0]) := Lib.hid (by rw [hW0]; exact Rows8.new _ _ _)
  have HB : Hid (Below w.heap.size w W0) := Lib.hid (by rw [hW0]; exact Rows8.newB)
  have c0 : W0.cell? ⟨w.heap.size, 0, none⟩ = some (.slice none 0 0) := HR.out.cell 0
  have c1 : W0.cell? ⟨w.heap.size, 1, none⟩ = some (.int .i64 0) := HR.out.cell 1
  have f0 := HR.out.frozen 0
  have f1 := HR.out.frozen 1
  have l0 := HR.out.lt
  have HT := Lib.hid (show Rows8 ((W0.setCell ⟨w.heap.size, 0, none⟩ (.slice a n c)).setCell ⟨w.heap.size, 1, none⟩ (.int .i64 q)) w.heap.size 110 #[.slice a n c, .int .i64 q] from HR.out.set2 _ _)
  by_cases h : n = 40
  · have HN := Lib.hid h
    have hb : ((n : Int) != 40) = false := by simp; omega
    clear h
    go_enter Try.func77, Try.ntmps77
    go_upto_region 1 with fail
    rw [← hW0]
    clear hW0
    go_wp2_with fail
    refine bodyPost_ret (results_c1 rfl _ _ (w.heap.size) _ rfl (load_row HT.out Try.underlying110 rfl (by kernel_rfl))) rfl ?_
    exact ⟨(HB.out.setCell (Nat.le_refl _) _).setCell (Nat.le_refl _) _, .inl ⟨HN.out, rfl⟩⟩
  · have HN := Lib.hid h
    have hb : ((n : Int) != 40) = true := by simp; omega
    clear h
    go_enter Try.func77, Try.ntmps77
    go_upto_region 1 with fail
    rw [← hW0]
    clear hW0
    go_wp2_with fail
    exact ⟨(by first | rfl | trivial), HB.out, .inr ⟨HN.out, rfl⟩⟩
set_option maxHeartbeats 1000000 in
theorem Try.prefixOf_any (d : Nat) (hd : d ≤ 5) (w : World) : Calls Try.prog 78 #[.int .i64 (d : Nat)] w fun e w' => ∃ v, e = .returned v ∧ Try.MayAt w' v (fun x => decide (x ≤ ((2 ^ d - 1 : Nat) : Int))) ∧ Below w.heap.size w w' := by
  rcases (by omega : d = 0 ∨ d = 1 ∨ d = 2 ∨ d = 3 ∨ d = 4 ∨ d = 5) with rfl | rfl | rfl | rfl | rfl | rfl
  · have HQ := Lib.hid (Try.upTo_any 0 w)
    go_enter Try.func78, Try.ntmps78
    go_wp2_with fail
    refine HQ.out.mono ?_
    rintro e w' ⟨v, rfl, hm, hB⟩
    have H := Lib.hid (And.intro hm hB)
    clear hm hB HQ
    go_wp2_with fail
    go_ret
    exact ⟨_, rfl, H.out.1, H.out.2⟩
  · have HQ := Lib.hid (Try.upTo_any 1 w)
    go_enter Try.func78, Try.ntmps78
    go_wp2_with fail
    refine HQ.out.mono ?_
    rintro e w' ⟨v, rfl, hm, hB⟩
    have H := Lib.hid (And.intro hm hB)
    clear hm hB HQ
    go_wp2_with fail
    go_ret
    exact ⟨_, rfl, H.out.1, H.out.2⟩
  · have HQ := Lib.hid (Try.upTo_any 3 w)
    go_enter Try.func78, Try.ntmps78
    go_wp2_with fail
    refine HQ.out.mono ?_
    rintro e w' ⟨v, rfl, hm, hB⟩
    have H := Lib.hid (And.intro hm hB)
    clear hm hB HQ
    go_wp2_with fail
    go_ret
    exact ⟨_, rfl, H.out.1, H.out.2⟩
  · have HQ := Lib.hid (Try.upTo_any 7 w)
    go_enter Try.func78, Try.ntmps78
    go_wp2_with fail
    refine HQ.out.mono ?_
    rintro e w' ⟨v, rfl, hm, hB⟩
    have H := Lib.hid (And.intro hm hB)
    clear hm hB HQ
    go_wp2_with fail
    go_ret
    exact ⟨_, rfl, H.out.1, H.out.2⟩
  · have HQ := Lib.hid (Try.upTo_any 15 w)
    go_enter Try.func78, Try.ntmps78
    go_wp2_with fail
    refine HQ.out.mono ?_
    rintro e w' ⟨v, rfl, hm, hB⟩
    have H := Lib.hid (And.intro hm hB)
    clear hm hB HQ
    go_wp2_with fail
    go_ret
    exact ⟨_, rfl, H.out.1, H.out.2⟩
  · have HQ := Lib.hid (Try.upTo_any 31 w)
    go_enter Try.func78, Try.ntmps78
    go_wp2_with fail
    refine HQ.out.mono ?_
    rintro e w' ⟨v, rfl, hm, hB⟩
    have H := Lib.hid (And.intro hm hB)
    clear hm hB HQ
    go_wp2_with fail
    go_ret
    exact ⟨_, rfl, H.out.1, H.out.2⟩
/-- The highest bits of a word, so many. -/
def topB (h d : Nat) : Nat := h / 2 ^ (64 - d)
set_option maxHeartbeats 1000000 in
theorem Try.highest_any (h d : Nat) (hd : d ≤ 5) (hh : h < 18446744073709551616) (w : World) : Calls Try.prog 54 #[.int .u64 (h : Nat), .int .i64 (d : Nat)] w fun e w' => e = .returned (.int .u64 (topB h d : Nat)) ∧ w' = w := by
  have h0 : h / 18446744073709551616 = 0 := Nat.div_eq_of_lt hh
  rcases (by omega : d = 0 ∨ d = 1 ∨ d = 2 ∨ d = 3 ∨ d = 4 ∨ d = 5) with rfl | rfl | rfl | rfl | rfl | rfl
  · have e0 : topB h 0 = h / 18446744073709551616 := by rfl
    go_enter Try.func54, Try.ntmps54
    go_wp2_with fail
    go_ret
    exact ⟨by first | rfl | (rw [e0]; simp) | (rw [e0]; rfl), rfl⟩
  · have e0 : topB h 1 = h / 9223372036854775808 := by rfl
    go_enter Try.func54, Try.ntmps54
    go_wp2_with fail
    go_ret
    exact ⟨by first | rfl | (rw [e0]; simp) | (rw [e0]; rfl), rfl⟩
  · have e0 : topB h 2 = h / 4611686018427387904 := by rfl
    go_enter Try.func54, Try.ntmps54
    go_wp2_with fail
    go_ret
    exact ⟨by first | rfl | (rw [e0]; simp) | (rw [e0]; rfl), rfl⟩
  · have e0 : topB h 3 = h / 2305843009213693952 := by rfl
    go_enter Try.func54, Try.ntmps54
    go_wp2_with fail
    go_ret
    exact ⟨by first | rfl | (rw [e0]; simp) | (rw [e0]; rfl), rfl⟩
  · have e0 : topB h 4 = h / 1152921504606846976 := by rfl
    go_enter Try.func54, Try.ntmps54
    go_wp2_with fail
    go_ret
    exact ⟨by first | rfl | (rw [e0]; simp) | (rw [e0]; rfl), rfl⟩
  · have e0 : topB h 5 = h / 576460752303423488 := by rfl
    go_enter Try.func54, Try.ntmps54
    go_wp2_with fail
    go_ret
    exact ⟨by first | rfl | (rw [e0]; simp) | (rw [e0]; rfl), rfl⟩
end Go.Proofs
