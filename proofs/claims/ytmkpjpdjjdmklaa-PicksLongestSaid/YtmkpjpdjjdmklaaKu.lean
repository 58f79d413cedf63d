/- same. -/
import Derived.Test.YtmkpjpdjjdmklaaKt
namespace Go.Proofs
open Go.RowKit Go.Shelf
attribute [local go_sem] Oper.semAt_some

theorem tn_eq (a b : Tn) : decide (a = b) = ((a.ch == b.ch) && decide (a.can = b.can)) := by
  rw [Bool.eq_iff_iff, Bool.and_eq_true, decide_eq_true_iff, decide_eq_true_iff, beq_iff_eq]
  constructor
  · rintro rfl; exact ⟨rfl, rfl⟩
  · rintro ⟨h1, h2⟩; cases a; cases b; simp_all
set_option maxHeartbeats 1000000 in
theorem Try.same1_any (a1 a2 : Option Addr) (n1 n2 c1 c2 : Nat) (x1 x2 : List Int) (g1 g2 : Int) (h1 : n1 = x1.length) (h2 : n2 = x2.length) (l1 : n1 ≤ 1000) (l2 : n2 ≤ 1000) (w : World) (i1 : IntsAt w (.slice a1 n1 c1) x1) (i2 : IntsAt w (.slice a2 n2 c2) x2) :
    Calls Try.prog 45 #[.agg #[.slice a1 n1 c1, .int .i64 g1], .agg #[.slice a2 n2 c2, .int .i64 g2]] w fun e w' => e = .returned (.bool (decide ((⟨x1, g1⟩ : Tn) = ⟨x2, g2⟩))) ∧ Below w.heap.size w w' := by
  have hB : Below w.heap.size w ((w.alloc (.cells #[.slice a1 n1 c1, .int .i64 g1] 47)).alloc (.cells #[.slice a2 n2 c2, .int .i64 g2] 47)) := ((Below.refl _ w).alloc (Nat.le_refl _) _).alloc (by simp) _
  have he := Try.equalInts_any a1 a2 n1 n2 c1 c2 x1 x2 h1 h2 (by omega) (by omega) _ (RowAt.below i1 hB) (RowAt.below i2 hB)
  rw [tn_eq]
  dsimp only
  have HE := Lib.hid he
  have HB := Lib.hid hB
  clear he hB i1 i2 h1 h2
  generalize decide (x1 = x2) = r at *
  cases hg : (g1 == g2) with
  | true =>
    go_enter Try.func45, Try.ntmps45
    go_wp2_with fail
    refine HE.out.mono ?_
    rintro e w' ⟨rfl, hB2⟩
    have HB2 := Lib.hid (HB.out.trans (hB2.mono HB.out.size))
    clear hB2
    go_wp2_with fail
    go_ret
    exact ⟨rfl, HB2.out⟩
  | false =>
    go_enter Try.func45, Try.ntmps45
    go_wp2_with fail
    go_ret
    exact ⟨rfl, HB.out⟩
theorem take_eq_nextT {xs ys : List Tn} {k : Nat} (h : xs.take k = ys.take k) (hx : k < xs.length) (hy : k < ys.length) (he : xs[k] = ys[k]) : xs.take (k + 1) = ys.take (k + 1) := by
  rw [List.take_succ_eq_append_getElem hx, List.take_succ_eq_append_getElem hy, h, he]

set_option maxRecDepth 100000 in
set_option maxHeartbeats 2000000 in
theorem Try.equalTurns_any (a1 a2 : Option Addr) (n1 n2 c1 c2 : Nat) (xs ys : List Tn) (hl : n1 ≤ 10000) (hl2 : n2 ≤ 10000) (bx : ∀ t ∈ xs, t.can.length ≤ 1000) (by_ : ∀ t ∈ ys, t.can.length ≤ 1000) (w : World) (h1 : TurnsAt w (.slice a1 n1 c1) xs) (h2 : TurnsAt w (.slice a2 n2 c2) ys) :
    Calls Try.prog 44 #[.slice a1 n1 c1, .slice a2 n2 c2, .func (.func 45) #[] #[]] w fun e w' => e = .returned (.bool (decide (xs = ys))) ∧ Below w.heap.size w w' := by
  have H1 := Lib.hid h1
  have H2 := Lib.hid h2
  have HX := Lib.hid (turnsAt_len h1).1
  have HY := Lib.hid (turnsAt_len h2).1
  clear h1 h2
  by_cases hn : n1 = n2
  · subst hn
    have hd : ((n1 : Int) != (n1 : Int)) = false := by simp
    go_enter Try.func44, Try.ntmps44
    go_wp2_with fail
    go_loopw [17] (fun j wr => ∃ k : Nat, k ≤ n1 ∧ j = .int .i64 k ∧ Hid (xs.take k = ys.take k) ∧ Below w.heap.size w wr) (fun j _ => n1 - (intOf j).toNat)
    case atStart => exact ⟨0, Nat.zero_le _, rfl, Lib.hid rfl, Below.refl _ _⟩
    case round =>
      obtain ⟨k, hk, rfl, ht, hB⟩ := hrel
      by_cases hlt : k < n1
      · have hkx : k < xs.length := by rw [← HX.out]; exact hlt
        have hky : k < ys.length := by rw [← HY.out]; exact hlt
        obtain ⟨b1, o1, d1, e1, rfl, hb1, p0, p1, hp⟩ := turnsAt_get (H1.out.below hB) k hkx
        obtain ⟨b2, o2, d2, e2, rfl, hb2, q0, q1, hq⟩ := turnsAt_get (H2.out.below hB) k hky
        have hki : (k : Int) < (n1 : Int) := by omega
        have hnx := fun he => take_eq_nextT ht.out hkx hky he
        have hne : ¬ xs[k] = ys[k] → decide (xs = ys) = false := fun h => decide_eq_false (fun e => h (by subst e; rfl))
        have hl1 := bx xs[k] (List.getElem_mem _)
        have hl3 := by_ ys[k] (List.getElem_mem _)
        have HNX := Lib.hid hnx
        have HNE := Lib.hid hne
        clear hnx hne
        generalize xs[k] = x at *
        generalize ys[k] = y at *
        obtain ⟨cx, gx⟩ := x
        obtain ⟨cy, gy⟩ := y
        dsimp only at p0 p1 q0 q1 hp hq hl1 hl3
        have hBn : Below wr.heap.size wr ((wr.alloc (.cells #[.slice d1 cx.length e1, .int .i64 gx] 47)).alloc (.cells #[.slice d2 cy.length e2, .int .i64 gy] 47)) := ((Below.refl _ wr).alloc (Nat.le_refl _) _).alloc (by simp) _
        have hcon := Try.same1_any d1 d2 _ _ e1 e2 cx cy gx gy rfl rfl hl1 hl3 _ (RowAt.below hp hBn) (RowAt.below hq hBn)
        have HCON := Lib.hid hcon
        have HB := Lib.hid (hB.trans (hBn.mono hB.size))
        clear hcon hp hq hB hBn hkx hky
        go_wp2_with fail
        refine HCON.out.mono ?_
        rintro e w' ⟨rfl, hB'⟩
        have HB2 := Lib.hid (HB.out.trans (hB'.mono HB.out.size))
        clear hB'
        by_cases he : (⟨cx, gx⟩ : Tn) = ⟨cy, gy⟩
        · rw [decide_eq_true he]
          have HT := Lib.hid (HNX.out he)
          clear he
          go_wp2_with fail
          exact ⟨⟨k + 1, by omega, by go_num, HT, HB2.out⟩, by simp [intOf]; omega⟩
        · rw [decide_eq_false he]
          have HQ := Lib.hid (HNE.out he)
          clear he
          go_wp2_with fail
          go_ret
          exact ⟨by rw [HQ.out]; rfl, HB2.out⟩
      · obtain rfl : k = n1 := by omega
        have hq : decide (xs = ys) = true := by
          refine decide_eq_true ?_
          have ht := ht.out
          rw [List.take_of_length_le (by rw [← HX.out]; exact Nat.le_refl _), List.take_of_length_le (by rw [← HY.out]; exact Nat.le_refl _)] at ht
          exact ht
        have HQ := Lib.hid hq
        have HB := Lib.hid hB
        clear hq hB
        go_wp2_with fail
        go_ret
        exact ⟨by rw [HQ.out]; rfl, HB.out⟩
  · have hd : ((n1 : Int) != (n2 : Int)) = true := by simp; omega
    have hq : decide (xs = ys) = false := decide_eq_false (fun h => hn (by rw [HX.out, HY.out, h]))
    have HQ := Lib.hid hq
    clear hq
    go_enter Try.func44, Try.ntmps44
    go_wp2_with fail
    go_ret
    exact ⟨by rw [HQ.out]; rfl, Below.refl _ _⟩
theorem Try.same_any (a1 a2 : Option Addr) (n1 n2 c1 c2 : Nat) (xs ys : List Tn) (hl : n1 ≤ 10000) (hl2 : n2 ≤ 10000) (bx : ∀ t ∈ xs, t.can.length ≤ 1000) (by_ : ∀ t ∈ ys, t.can.length ≤ 1000) (w : World) (h1 : TurnsAt w (.slice a1 n1 c1) xs) (h2 : TurnsAt w (.slice a2 n2 c2) ys) :
    Calls Try.prog 28 #[.slice a1 n1 c1, .slice a2 n2 c2] w fun e w' => e = .returned (.bool (decide (xs = ys))) ∧ Below w.heap.size w w' := by
  have h := Try.equalTurns_any a1 a2 n1 n2 c1 c2 xs ys hl hl2 bx by_ w h1 h2
  have H := Lib.hid h
  clear h h1 h2 bx by_
  generalize decide (xs = ys) = r at *
  go_enter Try.func28, Try.ntmps28
  go_wp2_with fail
  refine H.out.mono ?_
  rintro e w' ⟨rfl, hB⟩
  have HB := Lib.hid hB
  clear hB
  go_wp2_with fail
  go_ret
  exact ⟨rfl, HB.out⟩
theorem fewB_can (xs : List Tn) : ∀ t ∈ fewB xs, t.can.length ≤ 10 := by
  intro t ht
  unfold fewB at ht
  obtain ⟨u, _, rfl⟩ := List.mem_map.1 ht
  show (u.can.take 10).length ≤ 10
  rw [List.length_take]
  omega
end Go.Proofs
