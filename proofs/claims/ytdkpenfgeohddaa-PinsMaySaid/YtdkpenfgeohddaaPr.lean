/- Pins: the reference's Right, Same, Back, Oldest, Safe, with. -/
import Derived.Test.YtdkpenfgeohddaaPm
namespace Go.Proofs
set_option maxRecDepth 100000
open Go.RowKit Go.Shelf
attribute [local go_sem] Oper.semAt_some

theorem okZ_eq {E z : Int} (hE : 0 ≤ E) : okZ E z = !(decide (0 < z) && decide (E < z - 1)) := by
  unfold okZ
  by_cases h : z ≤ E + 1
  · rw [decide_eq_true h, show decide (E < z - 1) = false from decide_eq_false (by omega)]; simp
  · rw [decide_eq_false h, decide_eq_true (show 0 < z by omega), decide_eq_true (show E < z - 1 by omega)]; rfl
set_option maxHeartbeats 4000000 in
theorem Try.refRight_any (E : Int) (hE : 0 ≤ E ∧ E < 18446744073709551616) (a : Option Addr) (n c : Nat) (S : List Int) (hS : okW S) (w : World) (hI : WordsAt w (.slice a n c) S) :
    Calls Try.prog 10 #[.agg #[.int .u64 E, .slice a n c]] w fun e w' => e = .returned (.bool (rightN E S)) ∧ Below w.heap.size w w' := by
  have hn := wordsAt_len hI
  have hreach : n ≤ 9223372036854775807 := by have := hn.2; unfold maxLen at this; omega
  have hB0 : Below w.heap.size w (w.alloc (.cells #[.int .u64 E, .slice a n c] 25)) := Rows8.newB
  have P0 := Lib.hid (Rows8.new w 25 #[.int .u64 E, .slice a n c])
  have HI := Lib.hid hI
  have HN := Lib.hid hn.1
  have HB0 := Lib.hid hB0
  have HS := Lib.hid hS
  obtain ⟨r, hr⟩ : ∃ r, r = rightN E S := ⟨_, rfl⟩
  rw [← hr]
  unfold rightN manyN at hr
  rw [← hn.1] at hr
  have HR := Lib.hid hr
  clear hI hn hB0 hr hS
  have c0 : (w.alloc (.cells #[.int .u64 E, .slice a n c] 25)).cell? ⟨w.heap.size, 0, none⟩ = some (.int .u64 E) := P0.out.cell 0
  have c1 : (w.alloc (.cells #[.int .u64 E, .slice a n c] 25)).cell? ⟨w.heap.size, 1, none⟩ = some (.slice a n c) := P0.out.cell 1
  go_enter Try.func10, Try.ntmps10
  go_wp2_with fail
  generalize w.alloc (.cells #[.int .u64 E, .slice a n c] 25) = W0 at *
  go_loopw [8] (fun j wr => ∃ k : Nat, k ≤ n ∧ j = .int .i64 k ∧ Hid ((S.take k).all (okZ E) = true) ∧ wr = W0) (fun j _ => n - (intOf j).toNat)
  case atStart => exact ⟨0, Nat.zero_le _, rfl, Lib.hid rfl, rfl⟩
  case round =>
    obtain ⟨k, hk, rfl, hx, rfl⟩ := hrel
    by_cases hlt : k < n
    · have hkl : k < S.length := by rw [← HN.out]; exact hlt
      obtain ⟨b, off, rfl, hb2, cz⟩ := wordsAt_get (RowAt.below HI.out HB0.out) k hkl
      have hall := all_next S k hkl hx.out
      have hano := all_no (p := okZ E) S k hkl
      have hzr := okW_get HS.out k hkl
      generalize S[k]?.getD 0 = z at *
      rw [okZ_eq hE.1] at hall hano
      have hki : (k : Int) < (n : Int) := by omega
      have hki0 : (0 : Int) ≤ (k : Int) := by omega
      have HALL := Lib.hid hall
      have HNO := Lib.hid hano
      clear hall hano hx hkl
      by_cases h0 : 0 < z
      · have d0 : decide (0 < z) = true := decide_eq_true h0
        have d0' : decide (z > 0) = true := d0
        have hw : IntKind.u64.wrap (z - 1) = z - 1 := wrap_u _ (by omega) (by omega)
        by_cases h1 : E < z - 1
        · have d1 : decide (E < z - 1) = true := decide_eq_true h1
          have d1' : decide (z - 1 > E) = true := d1
          have h9 : Hid (r = false) := Lib.hid (by rw [HR.out, HNO.out (by rw [d0, d1]; rfl)]; simp)
          clear h0 h1
          go_wp2_with fail
          go_ret
          exact ⟨by rw [h9.out]; rfl, HB0.out⟩
        · have d1 : decide (E < z - 1) = false := decide_eq_false h1
          have d1' : decide (z - 1 > E) = false := d1
          have h9 : Hid ((S.take (k + 1)).all (okZ E) = true) := Lib.hid (by rw [HALL.out, d0, d1]; rfl)
          clear h0 h1
          go_wp2_with fail
          exact ⟨⟨k + 1, by omega, by go_num, h9, (by first | trivial | rfl)⟩, by simp [intOf]; omega⟩
      · have d0 : decide (0 < z) = false := decide_eq_false h0
        have d0' : decide (z > 0) = false := d0
        have h9 : Hid ((S.take (k + 1)).all (okZ E) = true) := Lib.hid (by rw [HALL.out, d0]; rfl)
        clear h0
        go_wp2_with fail
        exact ⟨⟨k + 1, by omega, by go_num, h9, (by first | trivial | rfl)⟩, by simp [intOf]; omega⟩
    · obtain rfl : k = n := by omega
      have hki : ¬ (k : Int) < (k : Int) := by omega
      have hall : S.all (okZ E) = true := by have := hx.out; rwa [List.take_of_length_le (Nat.le_of_eq HN.out.symm)] at this
      have h9 : Hid (r = (decide (1 ≤ (k : Int)) && (decide ((k : Int) ≤ 8) && decide (E ≤ 4611686018427387904)))) := Lib.hid (by
        rw [HR.out, hall, Bool.and_true]
        by_cases h1 : 1 ≤ (k : Int) <;> by_cases h2 : (k : Int) ≤ 8 <;> by_cases h3 : E ≤ 4611686018427387904 <;> simp [h1, h2, h3] <;> omega)
      clear hall hx
      by_cases h1 : 1 ≤ (k : Int)
      · have d1 : decide (1 ≤ (k : Int)) = true := decide_eq_true h1
        have e1 : decide (1 ≤ k) = true := decide_eq_true (by omega)
        by_cases h2 : (k : Int) ≤ 8
        · have d2 : decide ((k : Int) ≤ 8) = true := decide_eq_true h2
          have e2 : decide (k ≤ 8) = true := decide_eq_true (by omega)
          obtain ⟨z, hz⟩ : ∃ z, z = decide (E ≤ 4611686018427387904) := ⟨_, rfl⟩
          rw [← hz] at h9
          have d3 := hz.symm
          have HZ : Hid (r = z) := Lib.hid (by rw [h9.out, d1, d2]; rfl)
          clear h1 h2 hz h9
          go_wp2_with fail
          go_ret
          exact ⟨by rw [HZ.out]; first | rfl | simp, HB0.out⟩
        · have d2 : decide ((k : Int) ≤ 8) = false := decide_eq_false h2
          have e2 : decide (k ≤ 8) = false := decide_eq_false (by omega)
          have HZ : Hid (r = false) := Lib.hid (by rw [h9.out, d1, d2]; rfl)
          clear h1 h2 h9
          go_wp2_with fail
          go_ret
          exact ⟨by rw [HZ.out]; rfl, HB0.out⟩
      · have d1 : decide (1 ≤ (k : Int)) = false := decide_eq_false h1
        have e1 : decide (1 ≤ k) = false := decide_eq_false (by omega)
        have HZ : Hid (r = false) := Lib.hid (by rw [h9.out, d1]; rfl)
        clear h1 h9
        go_wp2_with fail
        go_ret
        exact ⟨by rw [HZ.out]; rfl, HB0.out⟩
set_option maxHeartbeats 4000000 in
theorem Try.refSame_any (E F : Int) (a1 a2 : Option Addr) (n1 n2 c1 c2 : Nat) (xs ys : List Int) (w : World) (h1 : WordsAt w (.slice a1 n1 c1) xs) (h2 : WordsAt w (.slice a2 n2 c2) ys) :
    Calls Try.prog 13 #[.agg #[.int .u64 E, .slice a1 n1 c1], .agg #[.int .u64 F, .slice a2 n2 c2]] w fun e w' => e = .returned (.bool (decide (E = F) && decide (xs = ys))) ∧ Below w.heap.size w w' := by
  have hn1 := wordsAt_len h1
  have hn2 := wordsAt_len h2
  have hreach : n1 ≤ 9223372036854775807 := by have := hn1.2; unfold maxLen at this; omega
  have hreach2 : n2 ≤ 9223372036854775807 := by have := hn2.2; unfold maxLen at this; omega
  obtain ⟨W0, hW0⟩ : ∃ W, W = (w.alloc (.cells #[.int .u64 E, .slice a1 n1 c1] 25)).alloc (.cells #[.int .u64 F, .slice a2 n2 c2] 25) := ⟨_, rfl⟩
  have hB0 : Below w.heap.size w W0 := by rw [hW0]; exact (Rows8.newB).alloc (by simp) _
  have p0 : Rows8 W0 w.heap.size 25 #[.int .u64 E, .slice a1 n1 c1] := by rw [hW0]; exact (Rows8.new _ _ _).alloc _
  have q0 : Rows8 W0 (w.heap.size + 1) 25 #[.int .u64 F, .slice a2 n2 c2] := by rw [hW0]; exact rows_new2 _ _ _ _
  have H1 := Lib.hid (RowAt.below h1 hB0)
  have H2 := Lib.hid (RowAt.below h2 hB0)
  have HX := Lib.hid hn1.1
  have HY := Lib.hid hn2.1
  have HB0 := Lib.hid hB0
  have k0 : W0.cell? ⟨w.heap.size, 0, none⟩ = some (.int .u64 E) := p0.cell 0
  have k1 : W0.cell? ⟨w.heap.size, 1, none⟩ = some (.slice a1 n1 c1) := p0.cell 1
  have g0 : W0.cell? ⟨w.heap.size + 1, 0, none⟩ = some (.int .u64 F) := q0.cell 0
  have g1 : W0.cell? ⟨w.heap.size + 1, 1, none⟩ = some (.slice a2 n2 c2) := q0.cell 1
  obtain ⟨r, hr⟩ : ∃ r, r = (decide (E = F) && decide (xs = ys)) := ⟨_, rfl⟩
  rw [← hr]
  have HR := Lib.hid hr
  clear h1 h2 hn1 hn2 hB0 p0 q0 hr
  subst hW0
  by_cases hE : E = F
  · have dE : (E != F) = false := by simp [hE]
    have HR1 : Hid (r = decide (xs = ys)) := Lib.hid (by rw [HR.out, decide_eq_true hE, Bool.true_and])
    clear HR hE
    by_cases hn : n1 = n2
    · have dn : ((n1 : Int) != (n2 : Int)) = false := by simp [hn]
      subst hn
      go_enter Try.func13, Try.ntmps13
      go_wp2_with fail
      generalize ((w.alloc (.cells #[.int .u64 E, .slice a1 n1 c1] 25)).alloc (.cells #[.int .u64 F, .slice a2 n1 c2] 25)) = W0 at *
      go_loopw [24] (fun j wr => ∃ k : Nat, k ≤ n1 ∧ j = .int .i64 k ∧ Hid (xs.take k = ys.take k) ∧ wr = W0) (fun j _ => n1 - (intOf j).toNat)
      case atStart => exact ⟨0, Nat.zero_le _, rfl, Lib.hid rfl, rfl⟩
      case round =>
        obtain ⟨k, hk, rfl, ht, rfl⟩ := hrel
        by_cases hlt : k < n1
        · obtain ⟨b1, o1, rfl, hb1, hc1⟩ := wordsAt_get H1.out k (by rw [← HX.out]; exact hlt)
          obtain ⟨b2, o2, rfl, hb2, hc2⟩ := wordsAt_get H2.out k (by rw [← HY.out]; exact hlt)
          have hki : (k : Int) < (n1 : Int) := by omega
          have hki0 : (0 : Int) ≤ (k : Int) := by omega
          by_cases he : xs[k]?.getD 0 = ys[k]?.getD 0
          · have hnx := Lib.hid (take_eq_next ht.out (by rw [← HX.out]; exact hlt) (by rw [← HY.out]; exact hlt) he)
            rw [he] at hc1
            clear he
            generalize ys[k]?.getD 0 = y at *
            have hne : (y != y) = false := by simp
            go_wp2_with fail
            exact ⟨⟨k + 1, by omega, by go_num, hnx, (by first | trivial | rfl)⟩, by simp [intOf]; omega⟩
          · have hne : (xs[k]?.getD 0 != ys[k]?.getD 0) = true := by simp [he]
            have h9 : Hid (r = false) := Lib.hid (by rw [HR1.out]; exact decide_eq_false (fun h => he (by rw [h])))
            clear he
            generalize xs[k]?.getD 0 = x at *
            generalize ys[k]?.getD 0 = y at *
            go_wp2_with fail
            go_ret
            exact ⟨by rw [h9.out]; rfl, HB0.out⟩
        · obtain rfl : k = n1 := by omega
          have hki : ¬ (k : Int) < (k : Int) := by omega
          have h9 : Hid (r = true) := Lib.hid (by
            rw [HR1.out]
            have h := ht.out
            rw [List.take_of_length_le (Nat.le_of_eq HX.out.symm), List.take_of_length_le (Nat.le_of_eq HY.out.symm)] at h
            exact decide_eq_true h)
          go_wp2_with fail
          go_ret
          exact ⟨by rw [h9.out]; rfl, HB0.out⟩
    · have dn : ((n1 : Int) != (n2 : Int)) = true := by simp; omega
      have h9 : Hid (r = false) := Lib.hid (by rw [HR1.out]; exact decide_eq_false (fun h => hn (by rw [HX.out, HY.out, h])))
      clear hn
      go_enter Try.func13, Try.ntmps13
      go_wp2_with fail
      go_ret
      exact ⟨by rw [h9.out]; rfl, HB0.out⟩
  · have dE : (E != F) = true := by simp [hE]
    have h9 : Hid (r = false) := Lib.hid (by rw [HR.out, decide_eq_false hE, Bool.false_and])
    clear hE
    go_enter Try.func13, Try.ntmps13
    go_wp2_with fail
    go_ret
    exact ⟨by rw [h9.out]; rfl, HB0.out⟩
theorem Try.refSafe_any (E z : Int) (hE : 0 ≤ E ∧ E < 18446744073709551616) (hz : 0 ≤ z) (v : Value) (w : World) :
    Calls Try.prog 20 #[.agg #[.int .u64 E, v], .int .u64 z] w fun e w' => e = .returned (.bool (safeN E z)) ∧ Below w.heap.size w w' := by
  have hB0 : Below w.heap.size w (w.alloc (.cells #[.int .u64 E, v] 25)) := Rows8.newB
  have HB0 := Lib.hid hB0
  clear hB0
  obtain ⟨b, hb⟩ : ∃ b, b = safeN E z := ⟨_, rfl⟩
  rw [← hb]
  unfold safeN at hb
  have HB := Lib.hid hb
  clear hb
  by_cases h1 : z < E
  · have hw : IntKind.u64.wrap (E - z) = E - z := wrap_u _ (by omega) (by omega)
    have d1 : decide (z < E) = true := decide_eq_true h1
    obtain ⟨q, hq⟩ : ∃ q, q = decide (2 ≤ E - z) := ⟨_, rfl⟩
    have d2 : decide (2 ≤ E - z) = q := hq.symm
    have d2' : decide (E - z ≥ 2) = q := hq.symm
    have h3 : Hid (b = q) := Lib.hid (by rw [HB.out, hq]; by_cases h : 2 ≤ E - z <;> simp [h] <;> omega)
    clear hq h1
    go_enter Try.func20, Try.ntmps20
    go_wp2_with fail
    go_ret
    exact ⟨by rw [h3.out]; first | rfl | simp, HB0.out⟩
  · have h3 : Hid (b = false) := Lib.hid (by rw [HB.out]; simp; omega)
    have d1 : decide (z < E) = false := decide_eq_false h1
    clear h1
    go_enter Try.func20, Try.ntmps20
    go_wp2_with fail
    go_ret
    exact ⟨by rw [h3.out]; rfl, HB0.out⟩
end Go.Proofs
