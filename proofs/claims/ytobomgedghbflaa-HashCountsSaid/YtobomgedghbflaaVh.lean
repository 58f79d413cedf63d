/- partialInsertionSort of rows of words of fewer than fifty. -/
import Derived.Test.YtobomgedghbflaaVb
namespace Go.Proofs
open Go.RowKit Go.Shelf
attribute [local go_sem] Oper.semAt_some

theorem partial_eq {d : Array Int} {a b : Nat} (h : b - a < 50) : Sort.partialInsertionSort ltB d a b = (d, decide (Sort.scanSorted ltB d b (a + 1) = b)) := by
  unfold Sort.partialInsertionSort Sort.partialIns
  dsimp only
  split
  · rename_i e
    rw [decide_eq_true e]
  · rename_i e
    rw [decide_eq_false e]
set_option maxRecDepth 100000 in
set_option maxHeartbeats 4000000 in
theorem Try.partialIns_any (B cap a b n cp : Nat) (d : Array Int) (hd : d.size ≤ 100000000) (hn : n = d.size) (ha : a < b) (hb : b ≤ n) (hl : b - a < 50) (w : World) (hS : SRow w B cap d) :
    Calls Try.prog 34 #[.slice (some ⟨B, 0, none⟩) n cp, .int .i64 (a : Int), .int .i64 (b : Int)] w
      fun e w' => e = .returned (.bool (decide (Sort.scanSorted ltB d b (a + 1) = b))) ∧ SRow w' B cap d ∧ w.grownBy w' (some B) := by
  have HN := Lib.hid hn
  have hn' : n ≤ 100000000 := by omega
  obtain ⟨r, hr⟩ : ∃ r, r = Sort.scanSorted ltB d b (a + 1) := ⟨_, rfl⟩
  rw [← hr]
  have HR := Lib.hid hr
  clear hr hn hd
  have hS0 := Lib.hid hS
  clear hS
  obtain ⟨l, hlb⟩ : ∃ l, l = b - a := ⟨_, rfl⟩
  have hl50 : (l : Int) < 50 := by omega
  have hw : wrap64 ((b : Int) - (a : Int)) = (l : Int) := by
    rw [show (b : Int) - (a : Int) = (l : Int) by omega]
    exact IntWalk.wrap64_in _ ⟨by omega, by omega⟩
  have hw2 : IntKind.i64.wrap ((b : Int) - (a : Int)) = (l : Int) := by
    rw [show (b : Int) - (a : Int) = (l : Int) by omega]
    exact IntWalk.i64_in _ ⟨by omega, by omega⟩
  clear hlb hl
  go_enter Try.func34, Try.ntmps34
  go_wp2_with fail
  refine wp_loop_rounds 1 ?_
  rw [rounds_succ]
  go_wp2_with fail
  go_loopw [7] (fun i wr => ∃ k : Nat, i = .int .i64 (k : Int) ∧ a + 1 ≤ k ∧ k ≤ b ∧ Hid (Sort.scanSorted ltB d b k = r) ∧ Hid (SRow wr B cap d) ∧ Hid (w.grownBy wr (some B))) (fun i _ => b - (intOf i).toNat)
  case atStart => exact ⟨a + 1, by go_num, Nat.le_refl _, by omega, Lib.hid HR.out.symm, hS0, Lib.hid (World.grownBy.refl _ _)⟩
  case round =>
    obtain ⟨k, rfl, hk, hk2, hx, hS, hG⟩ := hrel
    by_cases hkb : k < b
    · have hki : (k : Int) < (b : Int) := by omega
      have c1 := hS.out.cell k (by rw [← HN.out]; omega)
      have c0 := hS.out.cell (k - 1) (by rw [← HN.out]; omega)
      have hi1 : (k : Int) < (n : Int) := by omega
      have hi0 : (k : Int) - 1 < (n : Int) := by omega
      have hi2 : 0 ≤ (k : Int) - 1 := by omega
      have hl := fun w => Try.less_any d[k]! d[k - 1]! w
      cases hlt : ltB d[k]! d[k - 1]! with
      | true =>
        have hx2 : Hid (k = r) := Lib.hid (by rw [← hx.out, Sort.scanSorted.eq_1, hlt, if_neg (by simp)])
        rw [hlt] at hl
        generalize d[k]! = x at *
        generalize d[k - 1]! = y at *
        have hkb2 : ((k : Int) == (b : Int)) = false := by simp; omega
        have hfin : Hid (decide (r = b) = false) := Lib.hid (by rw [← hx2.out]; exact decide_eq_false (by omega))
        clear hlt hx
        go_wp2_with fail
        go_quiet (first | (go_at_call 35; refine quiet_same (hl _)))
        go_wp2_with fail
        go_ret
        exact ⟨by rw [hfin.out]; rfl, hS.out.drewN _, hG.out.trans (grown_drewN _ _ _)⟩
      | false =>
        have hx2 : Hid (Sort.scanSorted ltB d b (k + 1) = r) := Lib.hid (by rw [← hx.out, Sort.scanSorted.eq_1 ltB d b k, hlt, if_pos (by simp [hkb])])
        rw [hlt] at hl
        generalize d[k]! = x at *
        generalize d[k - 1]! = y at *
        clear hlt hx
        go_wp2_with fail
        go_quiet (first | (go_at_call 35; refine quiet_same (hl _)))
        go_wp2_with fail
        exact ⟨⟨k + 1, by go_num, by omega, by omega, hx2, Lib.hid (hS.out.drewN _), Lib.hid (hG.out.trans (grown_drewN _ _ _))⟩, by simp [intOf]; omega⟩
    · obtain rfl : k = b := by omega
      have hkd : decide ((k : Int) < (k : Int)) = false := by simp
      have hkk : ((k : Int) == (k : Int)) = true := by simp
      have hfin : Hid (decide (r = k) = true) := Lib.hid (decide_eq_true (by rw [← hx.out, Sort.scanSorted.eq_1, if_neg (by simp)]))
      clear hx
      go_wp2_with fail
      go_quiet (fail)
      go_wp2_with fail
      go_ret
      exact ⟨by rw [hfin.out]; rfl, hS.out.drewN _, hG.out.trans (grown_drewN _ _ _)⟩
end Go.Proofs
