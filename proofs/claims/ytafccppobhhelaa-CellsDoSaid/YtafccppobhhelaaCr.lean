/- slices.Equal of marks. -/
import Derived.Test.YtafccppobhhelaaCq
namespace Go.Proofs
open Go.RowKit Go.Shelf
attribute [local go_sem] Oper.semAt_some

deriving instance DecidableEq for Mk
theorem marksAt_el {W : World} {x : Option Addr} {n cap : Nat} {l : List Mk} (h : MarksAt W (.slice x n cap) l) (j : Nat) (hj : j < l.length) :
    ∃ b off, x = some ⟨b, off, none⟩ ∧ b < W.heap.size ∧ W.cell? ⟨b, off + j * 4, none⟩ = some (.int .i64 l[j].no) ∧ W.cell? ⟨b, off + j * 4 + 1, none⟩ = some (.int .i64 l[j].pl) ∧ W.cell? ⟨b, off + j * 4 + 2, none⟩ = some (.int .u64 l[j].was) ∧ W.cell? ⟨b, off + j * 4 + 3, none⟩ = some (.int .u64 l[j].is) := by
  obtain ⟨h0, a, cap', e, _, _, _, hc⟩ := h
  cases e
  have hlen : (markVals l).length = l.length * 4 := markVals_length l
  have hg : ∀ i, i < 4 → ∃ b off, x = some ⟨b, off, none⟩ ∧ b < W.heap.size ∧ W.cell? ⟨b, off + (j * 4 + i), none⟩ = (l[j].cells)[i]? := by
    intro i hi
    obtain ⟨b, off, e, hb, h3⟩ := hc (j * 4 + i) (by omega)
    exact ⟨b, off, e, hb, h3.trans (flat_get Mk.cells 4 (fun _ => rfl) l j i hj hi)⟩
  obtain ⟨b, off, e, hb, g0⟩ := hg 0 (by decide)
  obtain ⟨_, _, e1, _, g1⟩ := hg 1 (by decide)
  obtain ⟨_, _, e2, _, g2⟩ := hg 2 (by decide)
  obtain ⟨_, _, e3, _, g3⟩ := hg 3 (by decide)
  subst e
  cases e1; cases e2; cases e3
  exact ⟨b, off, rfl, hb, g0, g1, g2, g3⟩
theorem take_eq_nextM {xs ys : List Mk} {k : Nat} (h : xs.take k = ys.take k) (hx : k < xs.length) (hy : k < ys.length) (he : xs[k] = ys[k]) : xs.take (k + 1) = ys.take (k + 1) := by
  rw [List.take_succ_eq_append_getElem hx, List.take_succ_eq_append_getElem hy, h, he]

set_option maxRecDepth 100000 in
set_option maxHeartbeats 2000000 in
theorem Try.equalMarks_any (a1 a2 : Option Addr) (n1 n2 c1 c2 : Nat) (xs ys : List Mk) (hx : n1 = xs.length) (hy : n2 = ys.length) (hl : n1 ≤ 10000) (hl2 : n2 ≤ 10000) (w : World) (h1 : MarksAt w (.slice a1 n1 c1) xs) (h2 : MarksAt w (.slice a2 n2 c2) ys) :
    Calls Try.prog 27 #[.slice a1 n1 c1, .slice a2 n2 c2] w fun e w' => e = .returned (.bool (decide (xs = ys))) ∧ Below w.heap.size w w' := by
  have H1 := Lib.hid h1
  have H2 := Lib.hid h2
  have HX := Lib.hid hx
  have HY := Lib.hid hy
  clear h1 h2 hx hy
  by_cases hn : n1 = n2
  · subst hn
    have hd : ((n1 : Int) != (n1 : Int)) = false := by simp
    go_enter Try.func27, Try.ntmps27
    go_wp2
    go_loopw [5, 13] (fun _ j wr => ∃ k : Nat, k ≤ n1 ∧ j = .int .i64 k ∧ xs.take k = ys.take k ∧ Below w.heap.size w wr) (fun _ j _ => n1 - (intOf j).toNat)
    case atStart => exact ⟨0, Nat.zero_le _, rfl, rfl, Below.refl _ _⟩
    case round =>
      obtain ⟨k, hk, rfl, ht, hB⟩ := hrel
      by_cases hlt : k < n1
      · have hkx : k < xs.length := by rw [← HX.out]; exact hlt
        have hky : k < ys.length := by rw [← HY.out]; exact hlt
        obtain ⟨b1, o1, rfl, hb1, p0, p1, p2, p3⟩ := marksAt_el (RowAt.below H1.out hB) k hkx
        obtain ⟨b2, o2, rfl, hb2, q0, q1, q2, q3⟩ := marksAt_el (RowAt.below H2.out hB) k hky
        have hmx : Try.prog.follows .mixedOrders = true := by kernel_rfl
        have hki : (k : Int) < (n1 : Int) := by omega
        have HT := Lib.hid ht
        clear ht
        rcases hx1 : xs[k] with ⟨x0, x1, x2, x3⟩
        rcases hy1 : ys[k] with ⟨y0, y1, y2, y3⟩
        rw [hx1] at p0 p1 p2 p3
        rw [hy1] at q0 q1 q2 q3
        dsimp only at p0 p1 p2 p3 q0 q1 q2 q3
        by_cases he : xs[k] = ys[k]
        · have hnx := take_eq_nextM HT.out hkx hky he
          have HNX := Lib.hid hnx
          rw [hx1, hy1] at he
          injection he with e0 e1 e2 e3
          subst e0 e1 e2 e3
          have d0 : (x0 == x0) = true := by simp
          have d1 : (x1 == x1) = true := by simp
          have d2 : (x2 == x2) = true := by simp
          have d3 : (x3 == x3) = true := by simp
          have c0 : (x0 != x0) = false := by simp
          have c1 : (x1 != x1) = false := by simp
          have c2 : (x2 != x2) = false := by simp
          have c3 : (x3 != x3) = false := by simp
          clear hnx hx1 hy1
          go_wp2
          refine wp_region_still_lit hmx (by kernel_rfl) ?_
          repeat still_step
          refine wpStill_nil ?_
          go_wp2
          exact ⟨⟨k + 1, by omega, by go_num, HNX.out, hB.drew⟩, by simp [intOf]; omega⟩
        · have hq : decide (xs = ys) = false := decide_eq_false (fun h => he (by subst h; rfl))
          have HQ := Lib.hid hq
          have hne : ¬ (x0 = y0 ∧ x1 = y1 ∧ x2 = y2 ∧ x3 = y3) := fun ⟨e0, e1, e2, e3⟩ => he (by rw [hx1, hy1, e0, e1, e2, e3])
          have hs : x0 ≠ y0 ∨ (x0 = y0 ∧ x1 ≠ y1) ∨ (x0 = y0 ∧ x1 = y1 ∧ x2 ≠ y2) ∨ (x0 = y0 ∧ x1 = y1 ∧ x2 = y2 ∧ x3 ≠ y3) := by omega
          clear hq he hne hx1 hy1
          rcases hs with h | ⟨rfl, h⟩ | ⟨rfl, rfl, h⟩ | ⟨rfl, rfl, rfl, h⟩
          · have d0 : (x0 == y0) = false := by simp [h]
            have c0 : (x0 != y0) = true := by simp [h]
            go_wp2
            refine wp_region_still_lit hmx (by kernel_rfl) ?_
            repeat still_step
            refine wpStill_nil ?_
            go_wp2
            go_ret
            exact ⟨by rw [HQ.out]; rfl, hB.drew⟩
          · have d0 : (x0 == x0) = true := by simp
            have c0 : (x0 != x0) = false := by simp
            have d1 : (x1 == y1) = false := by simp [h]
            have c1 : (x1 != y1) = true := by simp [h]
            go_wp2
            refine wp_region_still_lit hmx (by kernel_rfl) ?_
            repeat still_step
            refine wpStill_nil ?_
            go_wp2
            go_ret
            exact ⟨by rw [HQ.out]; rfl, hB.drew⟩
          · have d0 : (x0 == x0) = true := by simp
            have c0 : (x0 != x0) = false := by simp
            have d1 : (x1 == x1) = true := by simp
            have c1 : (x1 != x1) = false := by simp
            have d2 : (x2 == y2) = false := by simp [h]
            have c2 : (x2 != y2) = true := by simp [h]
            go_wp2
            refine wp_region_still_lit hmx (by kernel_rfl) ?_
            repeat still_step
            refine wpStill_nil ?_
            go_wp2
            go_ret
            exact ⟨by rw [HQ.out]; rfl, hB.drew⟩
          · have d0 : (x0 == x0) = true := by simp
            have c0 : (x0 != x0) = false := by simp
            have d1 : (x1 == x1) = true := by simp
            have c1 : (x1 != x1) = false := by simp
            have d2 : (x2 == x2) = true := by simp
            have c2 : (x2 != x2) = false := by simp
            have d3 : (x3 == y3) = false := by simp [h]
            have c3 : (x3 != y3) = true := by simp [h]
            go_wp2
            refine wp_region_still_lit hmx (by kernel_rfl) ?_
            repeat still_step
            refine wpStill_nil ?_
            go_wp2
            go_ret
            exact ⟨by rw [HQ.out]; rfl, hB.drew⟩
      · obtain rfl : k = n1 := by omega
        have hq : decide (xs = ys) = true := by
          refine decide_eq_true ?_
          rw [List.take_of_length_le (by rw [← HX.out]; exact Nat.le_refl _), List.take_of_length_le (by rw [← HY.out]; exact Nat.le_refl _)] at ht
          exact ht
        have HQ := Lib.hid hq
        clear hq ht
        go_wp2
        go_ret
        exact ⟨by rw [HQ.out]; rfl, hB⟩
  · have hd : ((n1 : Int) != (n2 : Int)) = true := by simp; omega
    have hq : decide (xs = ys) = false := decide_eq_false (fun h => hn (by rw [HX.out, HY.out, h]))
    have HQ := Lib.hid hq
    clear hq
    go_enter Try.func27, Try.ntmps27
    go_wp2
    go_ret
    exact ⟨by rw [HQ.out]; rfl, Below.refl _ _⟩
end Go.Proofs
