/- insertionSort of rows of words. -/
import Derived.Test.YtobomgedghbflaaVa
namespace Go.Proofs
open Go.RowKit Go.Shelf
attribute [local go_sem] Oper.semAt_some

theorem size_insInner (lt : Int → Int → Bool) (a : Nat) : ∀ (j : Nat) (d : Array Int), (Sort.insInner lt a j d).size = d.size
  | 0, d => rfl
  | j + 1, d => by
    unfold Sort.insInner
    split
    · rw [size_insInner lt a j, size_swp]
    · rfl
theorem quiet_same {P : Program} {f : FuncId} {args : Array Value} {w : World} {n : Nat} {v : Value} (h : Calls P f args (w.drewN n) fun e w' => e = .returned v ∧ w.drewN n = w') : Calls P f args (w.drewN n) fun e w'' => e = .returned v ∧ ∃ m, w'' = w.drewN m :=
  h.mono fun _ _ ⟨he, hm⟩ => ⟨he, n, hm.symm⟩
set_option maxRecDepth 100000 in
set_option maxHeartbeats 4000000 in
theorem Try.insertionSort_any (B cap a b n cp : Nat) (d : Array Int) (hd : d.size ≤ 100000000) (hn : n = d.size) (ha : a ≤ b) (hb : b ≤ n) (w : World) (hS : SRow w B cap d) :
    Calls Try.prog 29 #[.slice (some ⟨B, 0, none⟩) n cp, .int .i64 (a : Int), .int .i64 (b : Int)] w fun e w' => e = .returned (.tuple #[]) ∧ SRow w' B cap (Sort.insertionSort ltB d a b) ∧ w.grownBy w' (some B) := by
  have HN := Lib.hid hn
  have hn' : n ≤ 100000000 := by omega
  have hmx : Try.prog.follows .mixedOrders = true := by kernel_rfl
  obtain ⟨r, hr⟩ : ∃ r, r = Sort.insertionSort ltB d a b := ⟨_, rfl⟩
  rw [← hr]
  have HR := Lib.hid hr
  clear hr hn hd
  have hS0 := Lib.hid hS
  clear hS
  go_enter Try.func29, Try.ntmps29
  go_wp2_with fail
  go_loopw [6] (fun i wr => ∃ (k : Nat) (dk : Array Int), i = .int .i64 (k : Int) ∧ a + 1 ≤ k ∧ k ≤ 100000002 ∧ Hid (Sort.insOuter ltB a b k dk = r) ∧ Hid (dk.size = n) ∧ Hid (SRow wr B cap dk) ∧ Hid (w.grownBy wr (some B))) (fun i _ => 100000003 - (intOf i).toNat)
  case atStart => exact ⟨a + 1, d, by go_num, Nat.le_refl _, by omega, Lib.hid HR.out.symm, Lib.hid HN.out.symm, hS0, Lib.hid (World.grownBy.refl _ _)⟩
  case round =>
    obtain ⟨k, dk, rfl, hk, hk2, hx, hsz, hS, hG⟩ := hrel
    by_cases hkb : k < b
    · have hki : (k : Int) < (b : Int) := by omega
      have hx2 : Hid (Sort.insOuter ltB a b (k + 1) (Sort.insInner ltB a k dk) = r) := Lib.hid (by rw [← hx.out, Sort.insOuter.eq_1 ltB a b k, if_pos hkb])
      obtain ⟨q, hq⟩ : ∃ q, q = Sort.insInner ltB a k dk := ⟨_, rfl⟩
      rw [← hq] at hx2
      have HQ := Lib.hid hq
      clear hq hx
      obtain ⟨we, rfl⟩ : ∃ x, x = wr := ⟨_, rfl⟩
      go_wp2_with fail
      go_loopw [7] (fun jv wr => ∃ (j : Nat) (dj : Array Int), jv = .int .i64 (j : Int) ∧ a ≤ j ∧ j ≤ k ∧ Hid (Sort.insInner ltB a j dj = q) ∧ Hid (dj.size = n) ∧ Hid (SRow wr B cap dj) ∧ Hid (w.grownBy wr (some B))) (fun jv _ => (intOf jv).toNat)
      case atStart => exact ⟨k, dk, rfl, by omega, Nat.le_refl _, Lib.hid HQ.out.symm, hsz, hS, hG⟩
      case round =>
        obtain ⟨j, dj, rfl, hj, hjk, hx3, hsz3, hS3, hG3⟩ := hrel
        by_cases hja : a < j
        · have hja1 : (a : Int) < (j : Int) := by omega
          have hj1 : 0 < j := by omega
          have c1 := hS3.out.cell j (by rw [hsz3.out]; omega)
          have c0 := hS3.out.cell (j - 1) (by rw [hsz3.out]; omega)
          have f1 := hS3.out.frozen j
          have f0 := hS3.out.frozen (j - 1)
          have hi1 : (j : Int) < (n : Int) := by omega
          have hi0 : (j : Int) - 1 < (n : Int) := by omega
          have hi2 : 0 ≤ (j : Int) - 1 := by omega
          cases hlt : ltB dj[j]! dj[j - 1]! with
          | true =>
            have hx4 : Hid (Sort.insInner ltB a (j - 1) (Sort.swp dj j (j - 1)) = q) := Lib.hid (by
              rw [← hx3.out]
              obtain ⟨m, rfl⟩ : ∃ m, j = m + 1 := ⟨j - 1, by omega⟩
              conv => rhs; unfold Sort.insInner
              rw [Nat.add_sub_cancel] at hlt ⊢
              rw [hlt, if_pos (by simp; omega)])
            have hS4 := Lib.hid (hS3.out.swp j (j - 1) (by rw [hsz3.out]; omega) (by rw [hsz3.out]; omega))
            have hsz4 : Hid ((Sort.swp dj j (j - 1)).size = n) := Lib.hid (by rw [size_swp]; exact hsz3.out)
            have hl := fun w => Try.less_any dj[j]! dj[j - 1]! w
            rw [hlt] at hl
            generalize dj[j]! = x at *
            generalize dj[j - 1]! = y at *
            clear hlt hx3 hsz3 hS3
            go_wp2_with fail
            go_quiet (first | (go_at_call 35; refine quiet_same (hl _)))
            go_wp2_with fail
            go_region
            all_goals go_wp2_with fail
            refine ⟨⟨j - 1, _, by go_num, by omega, by omega, hx4, hsz4, Lib.hid hS4.out, Lib.hid (hG3.out.trans ((grown_drewN _ _ _).trans (grown_set2 _ _ _ _ _ _)))⟩, by simp [intOf]; omega⟩
          | false =>
            have hx4 : Hid (dj = q) := Lib.hid (by
              rw [← hx3.out]
              obtain ⟨m, rfl⟩ : ∃ m, j = m + 1 := ⟨j - 1, by omega⟩
              conv => rhs; unfold Sort.insInner
              rw [Nat.add_sub_cancel] at hlt
              rw [hlt, if_neg (by simp)])
            have hl := fun w => Try.less_any dj[j]! dj[j - 1]! w
            rw [hlt] at hl
            generalize dj[j]! = x at *
            generalize dj[j - 1]! = y at *
            clear hlt hx3
            go_wp2_with fail
            go_quiet (first | (go_at_call 35; refine quiet_same (hl _)))
            go_wp2_with fail
            exact ⟨⟨k + 1, dj, by go_num, by omega, by omega, by rw [hx4.out]; exact hx2, hsz3, Lib.hid (hS3.out.drewN _), Lib.hid (hG3.out.trans (grown_drewN _ _ _))⟩, by simp [intOf]; omega⟩
        · have hja2 : decide ((a : Int) < (j : Int)) = false := by simp; omega
          obtain rfl : j = a := by omega
          have hx4 : Hid (dj = q) := Lib.hid (by
              rw [← hx3.out]
              cases j with
              | zero => rfl
              | succ m =>
                conv => rhs; unfold Sort.insInner
                rw [if_neg (by simp)])
          clear hx3
          go_wp2_with fail
          go_quiet (fail)
          go_wp2_with fail
          exact ⟨⟨k + 1, dj, by go_num, by omega, by omega, by rw [hx4.out]; exact hx2, hsz3, Lib.hid (hS3.out.drewN _), Lib.hid (hG3.out.trans (grown_drewN _ _ _))⟩, by simp [intOf]; omega⟩
    · go_wp2_with fail
      go_end0
      exact ⟨rfl, by have e : dk = r := by { rw [← hx.out, Sort.insOuter.eq_1, if_neg hkb] }
                     exact e ▸ hS.out, hG.out⟩
end Go.Proofs
