/- The document's answers of cells, as functions: Right, Why, Same, with. -/
import Derived.Test.YtafccppobhhelaaCl
namespace Go.Proofs
open Go.RowKit Go.Shelf
attribute [local go_sem] Oper.semAt_some

theorem Try.refRight2_any (a : Option Addr) (n cap : Nat) (w : World) : Calls Try.prog 37 #[.slice a n cap] w fun e w' => e = .returned (.bool (decide (1 ≤ n ∧ n ≤ 8192))) ∧ w = w' := by
  by_cases h : 1 ≤ n
  · have h' : 1 ≤ (n : Int) := by omega
    by_cases h8 : n ≤ 8192
    · rw [decide_eq_true ⟨h, h8⟩]
      have h8' : (n : Int) ≤ 8192 := by omega
      go_enter Try.func37, Try.ntmps37
      go_wp2
      go_ret
      exact ⟨by first | rfl | simp, rfl⟩
    · rw [decide_eq_false (by omega)]
      have h8' : ¬ (n : Int) ≤ 8192 := by omega
      go_enter Try.func37, Try.ntmps37
      go_wp2
      go_ret
      exact ⟨by first | rfl | simp | (simp; omega), rfl⟩
  · rw [decide_eq_false (by omega)]
    have h' : ¬ 1 ≤ (n : Int) := by omega
    go_enter Try.func37, Try.ntmps37
    go_wp2
    go_ret
    exact ⟨by first | rfl | simp | (simp; omega), rfl⟩

set_option maxHeartbeats 1000000 in
theorem Try.refWhy2_any (a : Option Addr) (n cap : Nat) (who kind pl old new : Int) (w : World) :
    Calls Try.prog 20 #[.slice a n cap, .agg #[.int .i64 who, .int .i64 kind, .int .i64 pl, .int .u64 old, .int .u64 new]] w fun e w' => e = .returned (.int .i64 (why n who kind pl)) ∧ Below w.heap.size w w' := by
  have hB : Below w.heap.size w (w.alloc (.cells #[.int .i64 who, .int .i64 kind, .int .i64 pl, .int .u64 old, .int .u64 new] 32)) := (Below.refl _ w).alloc (Nat.le_refl _) _
  have h1 := fun W => Try.refRight2_any a n cap W
  have HB := Lib.hid hB
  clear hB
  unfold why
  by_cases hn : n < 1 ∨ 8192 < n
  · rw [decide_eq_false (by omega)] at h1
    rw [if_pos hn]
    have H1 := Lib.hid h1
    clear h1 hn
    go_enter Try.func20, Try.ntmps20
    go_wp2_with fail
    refine (H1.out _).mono ?_
    rintro e w' ⟨rfl, rfl⟩
    go_wp2
    go_ret
    exact ⟨rfl, HB.out⟩
  · rw [decide_eq_true (by omega)] at h1
    rw [if_neg hn]
    have H1 := Lib.hid h1
    clear h1 hn
    by_cases hk : kind < 1 ∨ 4 < kind ∨ who < 0 ∨ 8 ≤ who
    · rw [if_pos hk]
      go_enter Try.func20, Try.ntmps20
      go_wp2_with fail
      refine (H1.out _).mono ?_
      rintro e w' ⟨rfl, rfl⟩
      by_cases k1 : kind < 1
      · clear hk
        go_wp2
        go_ret
        exact ⟨rfl, HB.out⟩
      · by_cases k2 : 4 < kind
        · have hd := decide_eq_true k2
          clear hk
          go_wp2
          go_ret
          exact ⟨rfl, HB.out⟩
        · by_cases k3 : who < 0
          · have hd := decide_eq_false k2
            clear hk
            go_wp2
            go_ret
            exact ⟨rfl, HB.out⟩
          · have k4 : 7 < who := by omega
            have hd := decide_eq_false k2
            have hd4 := decide_eq_true k4
            clear hk
            go_wp2
            go_ret
            exact ⟨rfl, HB.out⟩
    · rw [if_neg hk]
      have k1 : ¬ kind < 1 := by omega
      have k2 : ¬ 4 < kind := by omega
      have k3 : ¬ who < 0 := by omega
      have k4 : ¬ 7 < who := by omega
      clear hk
      by_cases hp : pl < 0 ∨ (n : Int) ≤ pl
      · rw [if_pos hp]
        go_enter Try.func20, Try.ntmps20
        go_wp2_with fail
        refine (H1.out _).mono ?_
        rintro e w' ⟨rfl, rfl⟩
        by_cases k5 : pl < 0
        · clear hp
          go_wp2
          go_ret
          exact ⟨rfl, HB.out⟩
        · have k6 : (n : Int) ≤ pl := by omega
          have hd6 := decide_eq_true k6
          clear hp
          go_wp2
          go_ret
          exact ⟨rfl, HB.out⟩
      · rw [if_neg hp]
        have k5 : ¬ pl < 0 := by omega
        have k6 : ¬ (n : Int) ≤ pl := by omega
        clear hp
        go_enter Try.func20, Try.ntmps20
        go_wp2_with fail
        refine (H1.out _).mono ?_
        rintro e w' ⟨rfl, rfl⟩
        go_wp2
        go_ret
        exact ⟨rfl, HB.out⟩

set_option maxRecDepth 100000 in
set_option maxHeartbeats 2000000 in
theorem Try.refSame2_any (a1 a2 : Option Addr) (n1 n2 c1 c2 : Nat) (xs ys : List Int) (hx : n1 = xs.length) (hy : n2 = ys.length) (hl : n1 ≤ 10000) (hl2 : n2 ≤ 10000) (w : World) (h1 : WordsAt w (.slice a1 n1 c1) xs) (h2 : WordsAt w (.slice a2 n2 c2) ys) :
    Calls Try.prog 22 #[.slice a1 n1 c1, .slice a2 n2 c2] w fun e w' => e = .returned (.bool (decide (xs = ys))) ∧ Below w.heap.size w w' := by
  have H1 := Lib.hid h1
  have H2 := Lib.hid h2
  have HX := Lib.hid hx
  have HY := Lib.hid hy
  clear h1 h2 hx hy
  by_cases hn : n1 = n2
  · subst hn
    have hd : ((n1 : Int) != (n1 : Int)) = false := by simp
    go_enter Try.func22, Try.ntmps22
    go_wp2
    go_loopw [5, 6, 14] (fun _ _ j wr => ∃ k : Nat, k ≤ n1 ∧ j = .int .i64 k ∧ xs.take k = ys.take k ∧ Below w.heap.size w wr) (fun _ _ j _ => n1 - (intOf j).toNat)
    case atStart => exact ⟨0, Nat.zero_le _, rfl, rfl, Below.refl _ _⟩
    case round =>
      obtain ⟨k, hk, rfl, ht, hB⟩ := hrel
      by_cases hlt : k < n1
      · obtain ⟨b1, o1, rfl, hb1, hc1⟩ := wordsAt_get (RowAt.below H1.out hB) k (by rw [← HX.out]; exact hlt)
        obtain ⟨b2, o2, rfl, hb2, hc2⟩ := wordsAt_get (RowAt.below H2.out hB) k (by rw [← HY.out]; exact hlt)
        have hki : (k : Int) < (n1 : Int) := by omega
        have HT := Lib.hid ht
        clear ht
        by_cases he : xs[k]?.getD 0 = ys[k]?.getD 0
        · have hnx := take_eq_next HT.out (by rw [← HX.out]; exact hlt) (by rw [← HY.out]; exact hlt) he
          have hne : (ys[k]?.getD 0 != ys[k]?.getD 0) = false := by simp
          rw [he] at hc1
          have HNX := Lib.hid hnx
          clear hnx he
          generalize ys[k]?.getD 0 = y at *
          go_wp2
          exact ⟨⟨k + 1, by omega, by go_num, HNX.out, hB⟩, by simp [intOf]; omega⟩
        · have hne : (xs[k]?.getD 0 != ys[k]?.getD 0) = true := by simp [he]
          have hq : decide (xs = ys) = false := decide_eq_false (fun h => he (by rw [h]))
          have HQ := Lib.hid hq
          clear hq he
          generalize xs[k]?.getD 0 = x at *
          generalize ys[k]?.getD 0 = y at *
          go_wp2
          go_ret
          exact ⟨by rw [HQ.out]; rfl, hB⟩
      · obtain rfl : k = n1 := by omega
        have hq : decide (xs = ys) = true := by
          refine decide_eq_true ?_
          rw [List.take_of_length_le (by rw [← HX.out]; exact Nat.le_refl _), List.take_of_length_le (by rw [← HY.out]; exact Nat.le_refl _)] at ht
          exact ht
        have HQ := Lib.hid hq
        clear hq ht
        go_wp2
        go_ret
        exact ⟨by rw [HQ.out]; rfl, hB⟩
  · have hd : ((n1 : Int) != (n2 : Int)) = true := by simp; omega
    have hq : decide (xs = ys) = false := decide_eq_false (fun h => hn (by rw [HX.out, HY.out, h]))
    have HQ := Lib.hid hq
    clear hq
    go_enter Try.func22, Try.ntmps22
    go_wp2
    go_ret
    exact ⟨by rw [HQ.out]; rfl, Below.refl _ _⟩
end Go.Proofs
