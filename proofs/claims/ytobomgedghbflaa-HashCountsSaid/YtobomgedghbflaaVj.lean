/- heapSort of rows of words. -/
import Derived.Test.YtobomgedghbflaaVi
namespace Go.Proofs
open Go.RowKit Go.Shelf
attribute [local go_sem] Oper.semAt_some

theorem size_siftDown (lt : Int → Int → Bool) (hi f : Nat) : ∀ (m root : Nat) (d : Array Int), hi - root ≤ m → (Sort.siftDown lt hi f root d).size = d.size := by
  intro m
  induction m with
  | zero =>
    intro root d h
    rw [Sort.siftDown.eq_1, dif_pos (by omega)]
  | succ m ih =>
    intro root d h
    rw [Sort.siftDown.eq_1]
    split
    · rfl
    · split
      · split
        · rfl
        · split
          · rw [ih _ _ (by omega), size_swp]
          · rfl
      · split
        · rfl
        · rw [ih _ _ (by omega), size_swp]
set_option maxRecDepth 100000 in
set_option maxHeartbeats 8000000 in
theorem Try.heapSort_any (B cap a b n cp : Nat) (d : Array Int) (hd : d.size ≤ 1000000) (hn : n = d.size) (ha : a < b) (hb : b ≤ n) (w : World) (hS : SRow w B cap d) :
    Calls Try.prog 30 #[.slice (some ⟨B, 0, none⟩) n cp, .int .i64 (a : Int), .int .i64 (b : Int)] w
      fun e w' => e = .returned (.tuple #[]) ∧ SRow w' B cap (Sort.heapSort ltB d a b) ∧ w.grownBy w' (some B) := by
  have HN := Lib.hid hn
  have hn' : n ≤ 1000000 := by omega
  obtain ⟨hi, hhi⟩ : ∃ hi, hi = b - a := ⟨_, rfl⟩
  obtain ⟨r1, hr1⟩ : ∃ r1, r1 = Sort.heapBuild ltB hi a ((hi - 1) / 2 + 1) d := ⟨_, rfl⟩
  obtain ⟨r, hr⟩ : ∃ r, r = Sort.heapPop ltB a hi r1 := ⟨_, rfl⟩
  have e : Sort.heapSort ltB d a b = r := by unfold Sort.heapSort; rw [hr, hr1, hhi]
  rw [e]
  have HR := Lib.hid hr
  have HR1 := Lib.hid hr1
  have hS0 := Lib.hid hS
  have ha1 : a + hi ≤ n := by omega
  have hp : 1 ≤ hi := by omega
  obtain ⟨q, hq⟩ : ∃ q, q = (hi - 1) / 2 := ⟨_, rfl⟩
  rw [← hq] at HR1
  have hq1 : q ≤ 1000000 := by omega
  have w1 : Hid ((b : Int) - (a : Int) = (hi : Int)) := Lib.hid (by omega)
  have w2 : Hid (((hi : Int) - 1).tdiv 2 = (q : Int)) := Lib.hid (by rw [Int.tdiv_eq_ediv_of_nonneg (by omega)]; omega)
  clear hr hr1 hn hd e hS hhi hq
  have hw1 := w1.out
  have hw2 := w2.out
  go_enter Try.func30, Try.ntmps30
  go_wp2_with fail
  clear hw1 hw2
  go_loopw [9] (fun iv wr => ∃ (k : Nat) (dk : Array Int), iv = .int .i64 ((k : Int) - 1) ∧ k ≤ 1000001 ∧ Hid (Sort.heapBuild ltB hi a k dk = r1) ∧ Hid (dk.size = n) ∧ Hid (SRow wr B cap dk) ∧ Hid (w.grownBy wr (some B))) (fun iv _ => ((intOf iv) + 1).toNat)
  case atStart => exact ⟨q + 1, d, by go_num, by omega, Lib.hid HR1.out.symm, Lib.hid HN.out.symm, hS0, Lib.hid (World.grownBy.refl _ _)⟩
  case round =>
    obtain ⟨k, dk, hiv, hk, hx, hsz, hS, hG⟩ := hrel
    cases k with
    | succ m =>
      rw [show ((m + 1 : Nat) : Int) - 1 = (m : Int) by omega] at hiv
      subst hiv
      have hx2 : Hid (Sort.heapBuild ltB hi a m (Sort.siftDown ltB hi a m dk) = r1) := Lib.hid (by rw [← hx.out]; rfl)
      have hsz2 : Hid ((Sort.siftDown ltB hi a m dk).size = n) := Lib.hid (by rw [size_siftDown ltB hi a _ _ _ (Nat.le_refl _)]; exact hsz.out)
      have cs := Try.siftDown_any B cap m hi a n cp dk (by rw [hsz.out]; omega) hsz.out.symm ha1 (by omega) wr hS.out
      generalize Sort.siftDown ltB hi a m dk = dk2 at *
      clear hx
      go_wp2_with fail
      refine cs.mono ?_
      rintro e w' ⟨rfl, hS2, hG2⟩
      have HS2 := Lib.hid hS2
      have HG2 := Lib.hid (hG.out.trans hG2)
      clear hS2 hG2 cs
      go_wp2_with fail
      exact ⟨⟨m, dk2, by go_num, by omega, hx2, hsz2, HS2, HG2⟩, by simp [intOf]⟩
    | zero =>
      rw [show ((0 : Nat) : Int) - 1 = -1 by omega] at hiv
      subst hiv
      have hdk : Hid (r = Sort.heapPop ltB a hi dk) := Lib.hid (by rw [HR.out, ← hx.out]; rfl)
      clear hx
      obtain ⟨we, rfl⟩ : ∃ x, x = wr := ⟨_, rfl⟩
      go_wp2_with fail
      go_loopw [10] (fun iv wr => ∃ (k : Nat) (dj : Array Int), iv = .int .i64 ((k : Int) - 1) ∧ k ≤ hi ∧ Hid (Sort.heapPop ltB a k dj = r) ∧ Hid (dj.size = n) ∧ Hid (SRow wr B cap dj) ∧ Hid (w.grownBy wr (some B))) (fun iv _ => ((intOf iv) + 1).toNat)
      case atStart => exact ⟨hi, dk, by go_num, Nat.le_refl _, Lib.hid hdk.out.symm, hsz, hS, hG⟩
      case round =>
        clear hS hG hdk hsz
        obtain ⟨k, dj, hiv, hk, hx, hsz, hS, hG⟩ := hrel
        cases k with
        | succ m =>
          rw [show ((m + 1 : Nat) : Int) - 1 = (m : Int) by omega] at hiv
          subst hiv
          have hx2 : Hid (Sort.heapPop ltB a m (Sort.siftDown ltB m a 0 (Sort.swp dj a (a + m))) = r) := Lib.hid (by rw [← hx.out]; rfl)
          have hS4 := Lib.hid (hS.out.swp a (a + m) (by rw [hsz.out]; omega) (by rw [hsz.out]; omega))
          have hsz4 : (Sort.swp dj a (a + m)).size = n := by rw [size_swp]; exact hsz.out
          have hsz2 : Hid ((Sort.siftDown ltB m a 0 (Sort.swp dj a (a + m))).size = n) := Lib.hid (by rw [size_siftDown ltB m a _ _ _ (Nat.le_refl _)]; exact hsz4)
          have CS := Lib.hid fun (W : World) (hW : SRow W B cap (Sort.swp dj a (a + m))) => (show Calls Try.prog 48 #[.slice (some ⟨B, 0, none⟩) n cp, .int .i64 0, .int .i64 (m : Int), .int .i64 (a : Int)] W _ from Try.siftDown_any B cap 0 m a n cp (Sort.swp dj a (a + m)) (by rw [hsz4]; omega) hsz4.symm (by omega) (by omega) W hW)
          have e0 := hS.out.cell a (by rw [hsz.out]; omega)
          have e1 := hS.out.cell (a + m) (by rw [hsz.out]; omega)
          have f0 := hS.out.frozen a
          have f1 := hS.out.frozen (a + m)
          have f2 := (hS.out.set a dj[a + m]! (by rw [hsz.out]; omega)).frozen (a + m)
          obtain ⟨v2, e2⟩ : ∃ v2, (wr.setCell ⟨B, a, none⟩ (.int .u64 dj[a + m]!)).cell? ⟨B, a + m, none⟩ = some v2 := ⟨_, (hS.out.set a dj[a + m]! (by rw [hsz.out]; omega)).cell (a + m) (by simp [hsz.out]; omega)⟩
          have j0 : (a : Int) < (n : Int) := by omega
          have j1 : (a : Int) + (m : Int) < (n : Int) := by omega
          have n1 : ((a : Int) + (m : Int)).toNat = a + m := by omega
          have g1 : 0 ≤ (a : Int) + (m : Int) := by omega
          have HG4 := Lib.hid (hG.out.trans (grown_set2 wr B a (a + m) (.int .u64 dj[a + m]!) (.int .u64 dj[a]!)))
          generalize Sort.siftDown ltB m a 0 (Sort.swp dj a (a + m)) = dn at *
          generalize Sort.swp dj a (a + m) = ds at *
          generalize dj[a]! = x at *
          generalize dj[a + m]! = y at *
          clear hx hsz hsz4 hS hG
          go_wp2_with fail
          go_region
          all_goals go_wp2_with fail
          refine (CS.out _ hS4.out.drew).mono ?_
          rintro e w' ⟨rfl, hS2, hG2⟩
          have HS2 := Lib.hid hS2
          have HG2 := Lib.hid ((grown_drew' HG4.out).trans hG2)
          clear hS2 hG2
          go_wp2_with fail
          exact ⟨⟨m, dn, by go_num, by omega, hx2, hsz2, HS2, HG2⟩, by simp [intOf]⟩
        | zero =>
          rw [show ((0 : Nat) : Int) - 1 = -1 by omega] at hiv
          subst hiv
          have hfin : Hid (dj = r) := Lib.hid (by rw [← hx.out]; rfl)
          clear hx
          go_wp2_with fail
          go_end0
          exact ⟨rfl, hfin.out ▸ hS.out, hG.out⟩
end Go.Proofs
