/- Counters; steps; sections that may be. -/
import Derived.Test.YtbipekpohocjdaaDoorGb
namespace Go.Proofs
open Go.RowKit Go.Shelf
attribute [local go_sem] Oper.semAt_some

theorem Tryd.isEven_any (c : Int) (h : 0 ≤ c) (w : World) : Calls Tryd.prog 29 #[.int .u64 c] w fun e w' => e = .returned (.bool (decide (c % 2 = 0))) ∧ w = w' := by
  go_enter Tryd.func29, Tryd.ntmps29
  go_wp2
  go_ret
  exact ⟨rfl, rfl⟩
theorem Tryd.noStep_any (z : Int) (w : World) : Calls Tryd.prog 33 #[.int .i64 z] w fun e w' => e = .returned (.bool (!stepB z)) ∧ w = w' := by
  by_cases h1 : z < 0
  · have e : stepB z = false := by unfold stepB; exact decide_eq_false (by omega)
    rw [e]
    go_enter Tryd.func33, Tryd.ntmps33
    go_wp2
    go_ret
    exact ⟨rfl, rfl⟩
  · by_cases h2 : (1073741824 : Int) < z
    · have e : stepB z = false := by unfold stepB; exact decide_eq_false (by omega)
      rw [e]
      go_enter Tryd.func33, Tryd.ntmps33
      go_wp2
      go_ret
      exact ⟨rfl, rfl⟩
    · have e : stepB z = true := by unfold stepB; exact decide_eq_true (by omega)
      rw [e]
      go_enter Tryd.func33, Tryd.ntmps33
      go_wp2
      go_ret
      exact ⟨rfl, rfl⟩

theorem Tryd.isOdd_any (c : Int) (h : 0 ≤ c) (w : World) : Calls Tryd.prog 30 #[.int .u64 c] w fun e w' => e = .returned (.bool (!decide (c % 2 = 0))) ∧ w = w' := by
  go_enter Tryd.func30, Tryd.ntmps30
  go_wp2_with fail
  refine (Tryd.isEven_any c h w).mono ?_
  rintro e w' ⟨rfl, rfl⟩
  go_wp2_with fail
  go_ret
  exact ⟨rfl, rfl⟩
/-- One more, or an error. -/
def moveR (b : Bool) (c : Int) : Int × Int := if c < 9223372036854775808 ∧ b = true then (c + 1, 0) else (0, 161)
set_option maxHeartbeats 1000000 in
theorem Tryd.moved_isEven (c : Int) (h : 0 ≤ c) (w : World) : Calls Tryd.prog 28 #[.int .u64 c, .func (.func 29) #[] #[]] w fun e w' => e = .returned (.tuple #[.int .u64 (moveR (decide (c % 2 = 0)) c).1, .int .i64 (moveR (decide (c % 2 = 0)) c).2]) ∧ w = w' := by
  have hc := Tryd.isEven_any c h w
  have hM : moveR (decide (c % 2 = 0)) c = if c < 9223372036854775808 ∧ (decide (c % 2 = 0)) = true then (c + 1, 0) else (0, 161) := rfl
  have HC := Lib.hid hc
  have HM := Lib.hid hM
  clear hc hM
  rw [HM.out]
  generalize (decide (c % 2 = 0)) = b at *
  by_cases h1 : c < 9223372036854775808
  · have h2 : ¬ (9223372036854775808 ≤ c) := by omega
    cases b with
    | true =>
      rw [if_pos ⟨h1, rfl⟩]
      go_enter Tryd.func28, Tryd.ntmps28
      go_wp2_with fail
      refine HC.out.mono ?_
      rintro e w' ⟨rfl, rfl⟩
      go_wp2_with fail
      go_ret2
      exact ⟨by go_num, rfl⟩
    | false =>
      rw [if_neg (by simp)]
      go_enter Tryd.func28, Tryd.ntmps28
      go_wp2_with fail
      refine HC.out.mono ?_
      rintro e w' ⟨rfl, rfl⟩
      go_wp2_with fail
      go_ret2
      exact ⟨rfl, rfl⟩
  · have h2 : (9223372036854775808 : Int) ≤ c := by omega
    rw [if_neg (by omega)]
    go_enter Tryd.func28, Tryd.ntmps28
    go_wp2_with fail
    go_ret2
    exact ⟨rfl, rfl⟩
set_option maxHeartbeats 1000000 in
theorem Tryd.moved_isOdd (c : Int) (h : 0 ≤ c) (w : World) : Calls Tryd.prog 28 #[.int .u64 c, .func (.func 30) #[] #[]] w fun e w' => e = .returned (.tuple #[.int .u64 (moveR (!decide (c % 2 = 0)) c).1, .int .i64 (moveR (!decide (c % 2 = 0)) c).2]) ∧ w = w' := by
  have hc := Tryd.isOdd_any c h w
  have hM : moveR (!decide (c % 2 = 0)) c = if c < 9223372036854775808 ∧ (!decide (c % 2 = 0)) = true then (c + 1, 0) else (0, 161) := rfl
  have HC := Lib.hid hc
  have HM := Lib.hid hM
  clear hc hM
  rw [HM.out]
  generalize (!decide (c % 2 = 0)) = b at *
  by_cases h1 : c < 9223372036854775808
  · have h2 : ¬ (9223372036854775808 ≤ c) := by omega
    cases b with
    | true =>
      rw [if_pos ⟨h1, rfl⟩]
      go_enter Tryd.func28, Tryd.ntmps28
      go_wp2_with fail
      refine HC.out.mono ?_
      rintro e w' ⟨rfl, rfl⟩
      go_wp2_with fail
      go_ret2
      exact ⟨by go_num, rfl⟩
    | false =>
      rw [if_neg (by simp)]
      go_enter Tryd.func28, Tryd.ntmps28
      go_wp2_with fail
      refine HC.out.mono ?_
      rintro e w' ⟨rfl, rfl⟩
      go_wp2_with fail
      go_ret2
      exact ⟨rfl, rfl⟩
  · have h2 : (9223372036854775808 : Int) ≤ c := by omega
    rw [if_neg (by omega)]
    go_enter Tryd.func28, Tryd.ntmps28
    go_wp2_with fail
    go_ret2
    exact ⟨rfl, rfl⟩
def openR (c : Int) : Int × Int := moveR (decide (c % 2 = 0)) c
theorem Tryd.Open_any (c : Int) (h : 0 ≤ c) (w : World) : Calls Tryd.prog 9 #[.int .u64 c] w fun e w' => e = .returned (.tuple #[.int .u64 (openR c).1, .int .i64 (openR c).2]) ∧ w = w' := by
  have HC := Lib.hid (Tryd.moved_isEven c h w)
  go_enter Tryd.func9, Tryd.ntmps9
  go_wp2_with fail
  refine HC.out.mono ?_
  rintro e w' ⟨rfl, rfl⟩
  go_wp2_with fail
  go_ret2
  exact ⟨rfl, rfl⟩
def shutR (c : Int) : Int × Int := moveR (!decide (c % 2 = 0)) c
theorem Tryd.Close_any (c : Int) (h : 0 ≤ c) (w : World) : Calls Tryd.prog 10 #[.int .u64 c] w fun e w' => e = .returned (.tuple #[.int .u64 (shutR c).1, .int .i64 (shutR c).2]) ∧ w = w' := by
  have HC := Lib.hid (Tryd.moved_isOdd c h w)
  go_enter Tryd.func10, Tryd.ntmps10
  go_wp2_with fail
  refine HC.out.mono ?_
  rintro e w' ⟨rfl, rfl⟩
  go_wp2_with fail
  go_ret2
  exact ⟨rfl, rfl⟩
def goodB (c d : Int) : Bool := decide (c % 2 = 0) && decide (c = d)
theorem Tryd.Good_any (c d : Int) (h : 0 ≤ c) (w : World) : Calls Tryd.prog 11 #[.int .u64 c, .int .u64 d] w fun e w' => e = .returned (.bool (goodB c d)) ∧ w = w' := by
  have HC := Lib.hid (Tryd.isEven_any c h w)
  unfold goodB
  generalize decide (c % 2 = 0) = b at *
  cases b with
  | true =>
    go_enter Tryd.func11, Tryd.ntmps11
    go_wp2_with fail
    refine HC.out.mono ?_
    rintro e w' ⟨rfl, rfl⟩
    go_wp2_with fail
    go_ret
    exact ⟨by by_cases hcd : c = d <;> simp [hcd], rfl⟩
  | false =>
    go_enter Tryd.func11, Tryd.ntmps11
    go_wp2_with fail
    refine HC.out.mono ?_
    rintro e w' ⟨rfl, rfl⟩
    go_wp2_with fail
    go_ret
    exact ⟨rfl, rfl⟩

theorem lookB_eq (f g : Int) : lookB f g = (stepB f && (stepB g && decide (f ≤ g))) := by
  unfold lookB stepB
  rw [← Bool.decide_and, ← Bool.decide_and, decide_eq_decide]
  omega
set_option maxHeartbeats 1000000 in
theorem Tryd.noLook_any (f g : Int) (w : World) : Calls Tryd.prog 36 #[.agg #[.int .i64 f, .int .i64 g]] w fun e w' => e = .returned (.bool (!lookB f g)) ∧ Below w.heap.size w w' := by
  have hB : Below w.heap.size w (w.alloc (.cells #[.int .i64 f, .int .i64 g] 44)) := Rows8.newB
  have HB := Lib.hid hB
  have b0 := Rows8.new w 44 #[.int .i64 f, .int .i64 g]
  have c0 := b0.cell 0
  have c1 := b0.cell 1
  simp at c0 c1
  have HF := fun w' => Lib.hid (Tryd.noStep_any f w')
  have HG := fun w' => Lib.hid (Tryd.noStep_any g w')
  rw [lookB_eq]
  clear hB b0
  generalize stepB f = p at *
  generalize stepB g = q at *
  cases p with
  | false =>
    go_enter Tryd.func36, Tryd.ntmps36
    go_wp2_with fail
    refine (HF _).out.mono ?_
    rintro e w' ⟨rfl, rfl⟩
    go_wp2_with fail
    go_ret
    exact ⟨rfl, HB.out⟩
  | true =>
    cases q with
    | false =>
      go_enter Tryd.func36, Tryd.ntmps36
      go_wp2_with fail
      refine (HF _).out.mono ?_
      rintro e w' ⟨rfl, rfl⟩
      go_wp2_with fail
      refine (HG _).out.mono ?_
      rintro e w' ⟨rfl, rfl⟩
      go_wp2_with fail
      go_ret
      exact ⟨rfl, HB.out⟩
    | true =>
      by_cases hl : g < f
      · have e : decide (f ≤ g) = false := decide_eq_false (by omega)
        rw [e]
        go_enter Tryd.func36, Tryd.ntmps36
        go_wp2_with fail
        refine (HF _).out.mono ?_
        rintro e w' ⟨rfl, rfl⟩
        go_wp2_with fail
        refine (HG _).out.mono ?_
        rintro e w' ⟨rfl, rfl⟩
        go_wp2_with fail
        go_ret
        exact ⟨by simp, HB.out⟩
      · have e : decide (f ≤ g) = true := decide_eq_true (by omega)
        rw [e]
        go_enter Tryd.func36, Tryd.ntmps36
        go_wp2_with fail
        refine (HF _).out.mono ?_
        rintro e w' ⟨rfl, rfl⟩
        go_wp2_with fail
        refine (HG _).out.mono ?_
        rintro e w' ⟨rfl, rfl⟩
        go_wp2_with fail
        go_ret
        exact ⟨by simp; omega, HB.out⟩

set_option maxRecDepth 100000 in
set_option maxHeartbeats 2000000 in
theorem Tryd.areSections_any (x : Option Addr) (n cap : Nat) (l : List (Int × Int)) (w : World) (hI : PAt w (.slice x n cap) l) :
    Calls Tryd.prog 32 #[.slice x n cap] w fun e w' => e = .returned (.bool (rightB l)) ∧ Below w.heap.size w w' := by
  obtain ⟨hn, hnc, hcm⟩ := pAt_len hI
  have hreach : n ≤ maxLen := by omega
  unfold maxLen at hreach
  have HI := Lib.hid hI
  have HN := Lib.hid hn
  clear hI hn hnc hcm
  go_enter Tryd.func32, Tryd.ntmps32
  go_wp2
  go_loopw [3, 8] (fun av j wr => ∃ (k : Nat) (a : Int), k ≤ n ∧ j = .int .i64 k ∧ av = .int .i64 a ∧ Hid (rightB l = secB a (l.drop k)) ∧ Below w.heap.size w wr) (fun _ j _ => n - (intOf j).toNat)
  case atStart => exact ⟨0, 0, Nat.zero_le _, rfl, rfl, Lib.hid rfl, Below.refl _ _⟩
  case round =>
    obtain ⟨k, a, hk, rfl, rfl, hx, hB⟩ := hrel
    by_cases hlt : k < n
    · have hkl : k < l.length := by rw [← HN.out]; exact hlt
      obtain ⟨b, off, rfl, hb, p0, p1⟩ := pAt_get (HI.out.below hB) k hkl
      have hd := hx.out
      rw [drop_next l k hkl] at hd
      have hdl : (l.drop (k + 1)).length = n - (k + 1) := by rw [List.length_drop, ← HN.out]
      rcases hs : l[k] with ⟨f, t⟩
      rw [hs] at p0 p1 hd
      dsimp only at p0 p1
      have hB1 : Below wr.heap.size wr (wr.alloc (.cells #[.int .i64 f, .int .i64 t] 39)) := Rows8.newB
      have hki : (k : Int) < (n : Int) := by omega
      have HB2 := Lib.hid (hB.trans (hB1.mono hB.size))
      have HD := Lib.hid hd
      have HL := Lib.hid hdl
      have hw : IntKind.i64.wrap ((n : Int) - 1) = (n : Int) - 1 := IntWalk.i64_in _ (by omega)
      clear hd hdl hs hB hB1 hx hkl
      by_cases h1 : f ≤ a
      · have hr : Hid (rightB l = false) := Lib.hid (by rw [HD.out, secB_bad (.inl h1)])
        go_wp2
        go_ret
        exact ⟨by rw [hr.out]; rfl, HB2.out⟩
      · by_cases h2 : (1073741824 : Int) < f
        · have hr : Hid (rightB l = false) := Lib.hid (by rw [HD.out, secB_bad (.inr h2)])
          go_wp2
          go_ret
          exact ⟨by rw [hr.out]; rfl, HB2.out⟩
        · by_cases h3 : t = 0
          · subst h3
            have hr0 : rightB l = decide (n - (k + 1) = 0) := by rw [HD.out, secB_last (by omega) (by omega) rfl, HL.out]
            by_cases h4 : k + 1 = n
            · have hr : Hid (rightB l = true) := Lib.hid (by rw [hr0]; exact decide_eq_true (by omega))
              have q3 : ((0 : Int) == 0) = true := by simp
              have q4 : ((k : Int) == (n : Int) - 1) = true := by simp; omega
              clear hr0
              go_wp2
              go_ret
              exact ⟨by rw [hr.out]; rfl, HB2.out⟩
            · have hr : Hid (rightB l = false) := Lib.hid (by rw [hr0]; exact decide_eq_false (by omega))
              have q3 : ((0 : Int) == 0) = true := by simp
              have q4 : ((k : Int) == (n : Int) - 1) = false := by simp; omega
              clear hr0
              go_wp2
              go_ret
              exact ⟨by rw [hr.out]; rfl, HB2.out⟩
          · have q3 : (t == 0) = false := by simp [h3]
            by_cases h4 : t ≤ f
            · have hr : Hid (rightB l = false) := Lib.hid (by rw [HD.out, secB_bad2 h3 (.inl h4)])
              clear h3
              go_wp2
              go_ret
              exact ⟨by rw [hr.out]; rfl, HB2.out⟩
            · by_cases h5 : (1073741824 : Int) < t
              · have hr : Hid (rightB l = false) := Lib.hid (by rw [HD.out, secB_bad2 h3 (.inr h5)])
                clear h3
                go_wp2
                go_ret
                exact ⟨by rw [hr.out]; rfl, HB2.out⟩
              · have hr : Hid (rightB l = secB t (l.drop (k + 1))) := Lib.hid (by rw [HD.out, secB_next (by omega) (by omega) h3 (by show f < t; omega) (by show t ≤ _; omega)])
                clear h3
                go_wp2
                exact ⟨⟨k + 1, t, by omega, by go_num, rfl, hr, HB2.out⟩, by simp [intOf]; omega⟩
    · obtain rfl : k = n := by omega
      have hr : Hid (rightB l = true) := Lib.hid (by rw [hx.out, List.drop_of_length_le (Nat.le_of_eq HN.out.symm)]; rfl)
      clear hx
      go_wp2
      go_ret
      exact ⟨by rw [hr.out]; rfl, hB⟩

def checkE (l : List (Int × Int)) : Int := if rightB l = true then 0 else 160
set_option maxHeartbeats 1000000 in
theorem Tryd.Check_any (x : Option Addr) (n cap : Nat) (l : List (Int × Int)) (w : World) (hI : PAt w (.slice x n cap) l) :
    Calls Tryd.prog 14 #[.slice x n cap] w fun e w' => e = .returned (.int .i64 (checkE l)) ∧ Below w.heap.size w w' := by
  have HC := Lib.hid (Tryd.areSections_any x n cap l w hI)
  unfold checkE
  clear hI
  generalize rightB l = r at *
  cases r with
  | true =>
    go_enter Tryd.func14, Tryd.ntmps14
    go_wp2_with fail
    refine HC.out.mono ?_
    rintro e w' ⟨rfl, hB⟩
    go_wp2_with fail
    go_ret
    exact ⟨rfl, hB⟩
  | false =>
    go_enter Tryd.func14, Tryd.ntmps14
    go_wp2_with fail
    refine HC.out.mono ?_
    rintro e w' ⟨rfl, hB⟩
    go_wp2_with fail
    go_ret
    exact ⟨rfl, hB⟩
end Go.Proofs
