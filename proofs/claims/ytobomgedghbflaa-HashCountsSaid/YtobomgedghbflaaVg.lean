/- reverseRange of rows of words. -/
import Derived.Test.YtobomgedghbflaaVb
namespace Go.Proofs
open Go.RowKit Go.Shelf
attribute [local go_sem] Oper.semAt_some

set_option maxRecDepth 100000 in
set_option maxHeartbeats 4000000 in
theorem Try.reverseRange_any (B cap a b n cp : Nat) (d : Array Int) (hd : d.size ≤ 100000000) (hn : n = d.size) (ha : a < b) (hb : b ≤ n) (w : World) (hS : SRow w B cap d) :
    Calls Try.prog 33 #[.slice (some ⟨B, 0, none⟩) n cp, .int .i64 (a : Int), .int .i64 (b : Int)] w fun e w' => e = .returned (.tuple #[]) ∧ SRow w' B cap (Sort.reverseRange d a b) ∧ w.grownBy w' (some B) := by
  have HN := Lib.hid hn
  have hn' : n ≤ 100000000 := by omega
  obtain ⟨r, hr⟩ : ∃ r, r = Sort.reverseLoop a (b - 1) d := ⟨_, rfl⟩
  have e : Sort.reverseRange d a b = r := hr.symm
  rw [e]
  have HR := Lib.hid hr
  clear hr hn hd e
  have hS0 := Lib.hid hS
  clear hS
  have hw : wrap64 ((b : Int) - 1) = ((b - 1 : Nat) : Int) := by
    rw [show (b : Int) - 1 = ((b - 1 : Nat) : Int) by omega]
    exact IntWalk.wrap64_in _ ⟨by omega, by omega⟩
  have hw2 : IntKind.i64.wrap ((b : Int) - 1) = ((b - 1 : Nat) : Int) := by
    rw [show (b : Int) - 1 = ((b - 1 : Nat) : Int) by omega]
    exact IntWalk.i64_in _ ⟨by omega, by omega⟩
  obtain ⟨b1, hb1⟩ : ∃ b1, b1 = b - 1 := ⟨_, rfl⟩
  rw [← hb1] at hw hw2 HR
  have hb2 : b1 < n := by omega
  have hab1 : a ≤ b1 + 2 := by omega
  clear hb1
  go_enter Try.func33, Try.ntmps33
  go_wp2_with fail
  go_loopw [6, 7] (fun iv jv wr => ∃ (i j : Nat) (di : Array Int), iv = .int .i64 (i : Int) ∧ jv = .int .i64 (j : Int) ∧ j < n ∧ i ≤ j + 2 ∧ Hid (Sort.reverseLoop i j di = r) ∧ Hid (di.size = n) ∧ Hid (SRow wr B cap di) ∧ Hid (w.grownBy wr (some B))) (fun iv jv _ => (intOf jv).toNat + 2 - (intOf iv).toNat)
  case atStart => exact ⟨a, b1, d, rfl, rfl, hb2, by omega, Lib.hid HR.out.symm, Lib.hid HN.out.symm, hS0, Lib.hid (World.grownBy.refl _ _)⟩
  case round =>
    obtain ⟨i, j, di, rfl, rfl, hj, hij, hx, hsz, hS, hG⟩ := hrel
    by_cases hlt : i < j
    · have hki : (i : Int) < (j : Int) := by omega
      have hx2 : Hid (Sort.reverseLoop (i + 1) (j - 1) (Sort.swp di i j) = r) := Lib.hid (by rw [← hx.out, Sort.reverseLoop.eq_1 i j, if_pos hlt])
      have c1 := hS.out.cell j (by rw [hsz.out]; omega)
      have c0 := hS.out.cell i (by rw [hsz.out]; omega)
      have f1 := hS.out.frozen j
      have f0 := hS.out.frozen i
      have hi1 : (j : Int) < (n : Int) := by omega
      have hi0 : (i : Int) < (n : Int) := by omega
      have hS4 := Lib.hid (hS.out.swp i j (by rw [hsz.out]; omega) (by rw [hsz.out]; omega))
      have hsz4 : Hid ((Sort.swp di i j).size = n) := Lib.hid (by rw [size_swp]; exact hsz.out)
      generalize di[j]! = x at *
      generalize di[i]! = y at *
      clear hx hsz hS
      go_wp2_with fail
      go_region
      all_goals go_wp2_with fail
      refine ⟨⟨i + 1, j - 1, _, by go_num, by go_num, by omega, by omega, hx2, hsz4, Lib.hid hS4.out, Lib.hid (hG.out.trans ((grown_drewN _ _ _).trans (grown_set2 _ _ _ _ _ _)))⟩, by simp [intOf]; omega⟩
    · have e : di = r := by rw [← hx.out, Sort.reverseLoop.eq_1, if_neg hlt]
      have HE := Lib.hid e
      clear e
      go_wp2_with fail
      go_end0
      exact ⟨rfl, HE.out ▸ hS.out, hG.out⟩
end Go.Proofs
