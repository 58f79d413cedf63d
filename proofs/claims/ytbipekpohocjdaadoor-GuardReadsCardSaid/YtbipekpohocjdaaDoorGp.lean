/- The document's answers: steps, looks, sections, counters. -/
import Derived.Test.YtbipekpohocjdaaDoorGb
namespace Go.Proofs
open Go.RowKit Go.Shelf
attribute [local go_sem] Oper.semAt_some

theorem Tryd.refStep_any (z : Int) (w : World) : Calls Tryd.prog 16 #[.int .i64 z] w fun e w' => e = .returned (.bool (stepB z)) ∧ w = w' := by
  by_cases h1 : 0 ≤ z
  · by_cases h2 : z ≤ 1073741824
    · have e : stepB z = true := by unfold stepB; exact decide_eq_true (by omega)
      rw [e]
      go_enter Tryd.func16, Tryd.ntmps16
      go_wp2
      go_ret
      exact ⟨rfl, rfl⟩
    · have e : stepB z = false := by unfold stepB; exact decide_eq_false (by omega)
      rw [e]
      go_enter Tryd.func16, Tryd.ntmps16
      go_wp2
      go_ret
      exact ⟨rfl, rfl⟩
  · have e : stepB z = false := by unfold stepB; exact decide_eq_false (by omega)
    rw [e]
    go_enter Tryd.func16, Tryd.ntmps16
    go_wp2
    go_ret
    exact ⟨rfl, rfl⟩
theorem lookB_eq2 (f g : Int) : lookB f g = (stepB f && (stepB g && decide (f ≤ g))) := by
  unfold lookB stepB
  rw [← Bool.decide_and, ← Bool.decide_and, decide_eq_decide]
  omega
set_option maxHeartbeats 1000000 in
theorem Tryd.refLook_any (f g : Int) (w : World) : Calls Tryd.prog 21 #[.int .i64 f, .int .i64 g] w fun e w' => e = .returned (.bool (lookB f g)) ∧ w = w' := by
  have HF := fun w' => Lib.hid (Tryd.refStep_any f w')
  have HG := fun w' => Lib.hid (Tryd.refStep_any g w')
  rw [lookB_eq2]
  generalize stepB f = p at *
  generalize stepB g = q at *
  cases p with
  | false =>
    go_enter Tryd.func21, Tryd.ntmps21
    go_wp2_with fail
    refine (HF _).out.mono ?_
    rintro e w' ⟨rfl, rfl⟩
    go_wp2_with fail
    go_ret
    exact ⟨rfl, rfl⟩
  | true =>
    cases q with
    | false =>
      go_enter Tryd.func21, Tryd.ntmps21
      go_wp2_with fail
      refine (HF _).out.mono ?_
      rintro e w' ⟨rfl, rfl⟩
      go_wp2_with fail
      refine (HG _).out.mono ?_
      rintro e w' ⟨rfl, rfl⟩
      go_wp2_with fail
      go_ret
      exact ⟨rfl, rfl⟩
    | true =>
      by_cases hl : f ≤ g
      · have e : decide (f ≤ g) = true := decide_eq_true hl
        rw [e]
        go_enter Tryd.func21, Tryd.ntmps21
        go_wp2_with fail
        refine (HF _).out.mono ?_
        rintro e w' ⟨rfl, rfl⟩
        go_wp2_with fail
        refine (HG _).out.mono ?_
        rintro e w' ⟨rfl, rfl⟩
        go_wp2_with fail
        go_ret
        exact ⟨by simp, rfl⟩
      · have e : decide (f ≤ g) = false := decide_eq_false hl
        rw [e]
        go_enter Tryd.func21, Tryd.ntmps21
        go_wp2_with fail
        refine (HF _).out.mono ?_
        rintro e w' ⟨rfl, rfl⟩
        go_wp2_with fail
        refine (HG _).out.mono ?_
        rintro e w' ⟨rfl, rfl⟩
        go_wp2_with fail
        go_ret
        exact ⟨by simp, rfl⟩

theorem below_drewN' {h : Nat} {A B : World} (p : Below h A B) (n : Nat) : Below h A (B.drewN n) := ⟨p.os, p.tape, p.output, p.size, p.block⟩
theorem secB_more {a f : Int} {t : List (Int × Int)} (h : t.length ≠ 0) : secB a ((f, 0) :: t) = false := by
  rw [secB]
  cases t with
  | nil => simp at h
  | cons u t => simp
set_option maxRecDepth 100000 in
set_option maxHeartbeats 4000000 in
theorem Tryd.refRight_any (x : Option Addr) (n cap : Nat) (l : List (Int × Int)) (w : World) (hI : PAt w (.slice x n cap) l) :
    Calls Tryd.prog 13 #[.slice x n cap] w fun e w' => e = .returned (.bool (rightB l)) ∧ Below w.heap.size w w' := by
  obtain ⟨hn, hnc, hcm⟩ := pAt_len hI
  have hreach : n ≤ maxLen := by omega
  unfold maxLen at hreach
  have HI := Lib.hid hI
  have HN := Lib.hid hn
  clear hI hn hnc hcm
  go_enter Tryd.func13, Tryd.ntmps13
  go_wp2
  go_loopw [7] (fun j wr => ∃ (k : Nat) (a : Int), k ≤ n ∧ j = .int .i64 k ∧ 0 ≤ a ∧ Hid (k = 0 → a = 0) ∧ Hid (∀ h : 0 < k, ∀ h2 : k - 1 < l.length, (l[k - 1]).2 = a) ∧ Hid (rightB l = secB a (l.drop k)) ∧ Below w.heap.size w wr) (fun j _ => n - (intOf j).toNat)
  case atStart => exact ⟨0, 0, Nat.zero_le _, rfl, Int.le_refl _, Lib.hid (fun _ => rfl), Lib.hid (fun h => absurd h (Nat.lt_irrefl _)), Lib.hid rfl, Below.refl _ _⟩
  case round =>
    obtain ⟨k, a, hk, rfl, ha0, hk0, hpv, hx, hB⟩ := hrel
    by_cases hlt : k < n
    · have hkl : k < l.length := by rw [← HN.out]; exact hlt
      obtain ⟨b, off, rfl, hb, p0, p1⟩ := pAt_get (HI.out.below hB) k hkl
      have hd := hx.out
      rw [drop_next l k hkl] at hd
      have hdl : (l.drop (k + 1)).length = n - (k + 1) := by rw [List.length_drop, ← HN.out]
      have hlk : l[k]? = some l[k] := List.getElem?_eq_getElem hkl
      rcases hs : l[k] with ⟨f, t⟩
      rw [hs] at p0 p1 hd hlk
      dsimp only at p0 p1
      have hB1 : Below wr.heap.size wr (wr.alloc (.cells #[.int .i64 f, .int .i64 t] 39)) := Rows8.newB
      have hki : (k : Int) < (n : Int) := by omega
      have HB2 := Lib.hid (hB.trans (hB1.mono hB.size))
      have HD := Lib.hid hd
      have HL := Lib.hid hdl
      have HLK := Lib.hid hlk
      have hw : IntKind.i64.wrap ((n : Int) - 1) = (n : Int) - 1 := IntWalk.i64_in _ (by omega)
      have hnew : Hid (∀ h : 0 < k + 1, ∀ h2 : k + 1 - 1 < l.length, (l[k + 1 - 1]).2 = t) := Lib.hid (fun _ h2 => by simp only [Nat.add_sub_cancel]; rw [hs])
      clear hd hdl hB1 hx hlk
      by_cases h1 : f < 1
      · have hr : Hid (rightB l = false) := Lib.hid (by rw [HD.out, secB_bad (.inl (show f ≤ a by omega))])
        clear hs
        go_wp2
        go_ret
        exact ⟨by rw [hr.out]; rfl, HB2.out⟩
      · by_cases h2 : (1073741824 : Int) < f
        · have hr : Hid (rightB l = false) := Lib.hid (by rw [HD.out, secB_bad (.inr h2)])
          clear hs
          go_wp2
          go_ret
          exact ⟨by rw [hr.out]; rfl, HB2.out⟩
        · by_cases h3 : (1073741824 : Int) < t
          · have hr : Hid (rightB l = false) := Lib.hid (by rw [HD.out, secB_bad2 (show t ≠ 0 by omega) (.inr h3)])
            clear hs
            go_wp2
            go_ret
            exact ⟨by rw [hr.out]; rfl, HB2.out⟩
          · by_cases h4 : t = 0
            · subst h4
              have q3 : ((0 : Int) == 0) = true := by simp
              have q3' : ((0 : Int) != 0) = false := by simp
              by_cases h5 : k + 1 < n
              · have h5' : (k : Int) < (n : Int) - 1 := by omega
                have hr : Hid (rightB l = false) := Lib.hid (by rw [HD.out, secB_more (by rw [HL.out]; omega)])
                clear hs
                go_wp2
                go_ret
                exact ⟨by rw [hr.out]; rfl, HB2.out⟩
              · have h5' : ¬ (k : Int) < (n : Int) - 1 := by omega
                by_cases h7 : k = 0
                · obtain rfl := hk0.out h7
                  have hr : Hid (rightB l = secB 0 (l.drop (k + 1))) := Lib.hid (by
                    rw [HD.out, secB_last (show (0 : Int) < f by omega) (show f ≤ _ by omega) rfl, HL.out]
                    rw [show l.drop (k + 1) = [] from List.eq_nil_of_length_eq_zero (by rw [HL.out]; omega)]
                    exact decide_eq_true (by omega))
                  have h7' : ¬ (0 : Int) < (k : Int) := by omega
                  have d7 : decide ((0 : Int) < (k : Int)) = false := decide_eq_false h7'
                  have d7n : decide (0 < k) = false := decide_eq_false (by omega)
                  have h7n : ¬ 0 < k := by omega
                  clear h7
                  clear hs
                  go_wp2
                  go_quiet (fail)
                  go_wp2
                  exact ⟨⟨k + 1, 0, by omega, by go_num, Int.le_refl _, Lib.hid (fun _ => rfl), hnew, hr, below_drewN' HB2.out _⟩, by simp [intOf]; omega⟩
                · have hk1 : k - 1 < l.length := by have := HN.out; omega
                  obtain ⟨b', off', e', _, g0, g1⟩ := pAt_get (HI.out.below HB2.out) (k - 1) hk1
                  cases e'
                  rw [hpv.out (by omega) hk1] at g1
                  have h7' : (0 : Int) < (k : Int) := by omega
                  have d7 : decide ((0 : Int) < (k : Int)) = true := decide_eq_true h7'
                  have d7n : decide (0 < k) = true := decide_eq_true (by omega)
                  have h7n : 0 < k := by omega
                  have hw2 : IntKind.i64.wrap ((k : Int) - 1) = ((k - 1 : Nat) : Int) := by rw [show (k : Int) - 1 = ((k - 1 : Nat) : Int) by omega]; exact IntWalk.i64_in _ (by omega)
                  have hlt2 : ((k - 1 : Nat) : Int) < (n : Int) := by omega
                  by_cases h8 : f ≤ a
                  · have hr : Hid (rightB l = false) := Lib.hid (by rw [HD.out, secB_bad (.inl h8)])
                    have d8 : decide (f ≤ a) = true := decide_eq_true h8
                    clear hs
                    go_wp2
                    go_quiet (fail)
                    go_wp2
                    go_ret
                    exact ⟨by rw [hr.out]; rfl, below_drewN' HB2.out _⟩
                  · have hr : Hid (rightB l = secB 0 (l.drop (k + 1))) := Lib.hid (by
                      rw [HD.out, secB_last (show a < f by omega) (show f ≤ _ by omega) rfl, HL.out]
                      rw [show l.drop (k + 1) = [] from List.eq_nil_of_length_eq_zero (by rw [HL.out]; omega)]
                      exact decide_eq_true (by omega))
                    have d8 : decide (f ≤ a) = false := decide_eq_false h8
                    clear hs
                    go_wp2
                    go_quiet (fail)
                    go_wp2
                    exact ⟨⟨k + 1, 0, by omega, by go_num, Int.le_refl _, Lib.hid (fun _ => rfl), hnew, hr, below_drewN' HB2.out _⟩, by simp [intOf]; omega⟩
            · have q3 : (t == 0) = false := by simp [h4]
              have q3' : (t != 0) = true := by simp [h4]
              by_cases h6 : t ≤ f
              · have hr : Hid (rightB l = false) := Lib.hid (by rw [HD.out, secB_bad2 h4 (.inl h6)])
                clear hs h4
                go_wp2
                go_ret
                exact ⟨by rw [hr.out]; rfl, HB2.out⟩
              · by_cases h7 : k = 0
                · obtain rfl := hk0.out h7
                  have hr : Hid (rightB l = secB t (l.drop (k + 1))) := Lib.hid (by rw [HD.out, secB_next (show (0 : Int) < f by omega) (show f ≤ _ by omega) h4 (show f < t by omega) (show t ≤ _ by omega)])
                  have h7' : ¬ (0 : Int) < (k : Int) := by omega
                  have d7 : decide ((0 : Int) < (k : Int)) = false := decide_eq_false h7'
                  have d7n : decide (0 < k) = false := decide_eq_false (by omega)
                  have h7n : ¬ 0 < k := by omega
                  clear h7
                  clear hs h4
                  go_wp2
                  go_quiet (fail)
                  go_wp2
                  exact ⟨⟨k + 1, t, by omega, by go_num, by omega, Lib.hid (fun h => absurd h (by omega)), hnew, hr, below_drewN' HB2.out _⟩, by simp [intOf]; omega⟩
                · have hk1 : k - 1 < l.length := by have := HN.out; omega
                  obtain ⟨b', off', e', _, g0, g1⟩ := pAt_get (HI.out.below HB2.out) (k - 1) hk1
                  cases e'
                  rw [hpv.out (by omega) hk1] at g1
                  have h7' : (0 : Int) < (k : Int) := by omega
                  have d7 : decide ((0 : Int) < (k : Int)) = true := decide_eq_true h7'
                  have d7n : decide (0 < k) = true := decide_eq_true (by omega)
                  have h7n : 0 < k := by omega
                  have hw2 : IntKind.i64.wrap ((k : Int) - 1) = ((k - 1 : Nat) : Int) := by rw [show (k : Int) - 1 = ((k - 1 : Nat) : Int) by omega]; exact IntWalk.i64_in _ (by omega)
                  have hlt2 : ((k - 1 : Nat) : Int) < (n : Int) := by omega
                  by_cases h8 : f ≤ a
                  · have hr : Hid (rightB l = false) := Lib.hid (by rw [HD.out, secB_bad (.inl h8)])
                    have d8 : decide (f ≤ a) = true := decide_eq_true h8
                    clear hs h4
                    go_wp2
                    go_quiet (fail)
                    go_wp2
                    go_ret
                    exact ⟨by rw [hr.out]; rfl, below_drewN' HB2.out _⟩
                  · have hr : Hid (rightB l = secB t (l.drop (k + 1))) := Lib.hid (by rw [HD.out, secB_next (show a < f by omega) (show f ≤ _ by omega) h4 (show f < t by omega) (show t ≤ _ by omega)])
                    have d8 : decide (f ≤ a) = false := decide_eq_false h8
                    clear hs h4
                    go_wp2
                    go_quiet (fail)
                    go_wp2
                    exact ⟨⟨k + 1, t, by omega, by go_num, by omega, Lib.hid (fun h => absurd h (by omega)), hnew, hr, below_drewN' HB2.out _⟩, by simp [intOf]; omega⟩
    · obtain rfl : k = n := by omega
      have hr : Hid (rightB l = true) := Lib.hid (by rw [hx.out, List.drop_of_length_le (Nat.le_of_eq HN.out.symm)]; rfl)
      clear hx
      go_wp2
      go_ret
      exact ⟨by rw [hr.out]; rfl, hB⟩

/-- How many edges there are up to a step, one by one. -/
def oneC (z : Int) (s : Int × Int) : Nat := (if s.1 ≤ z then 1 else 0) + (if s.2 ≠ 0 ∧ s.2 ≤ z then 1 else 0)
def rcnt (l : List (Int × Int)) (z : Int) : Nat := (l.map (oneC z)).sum
theorem rcnt_snoc (l : List (Int × Int)) (s : Int × Int) (z : Int) : rcnt (l ++ [s]) z = rcnt l z + oneC z s := by simp [rcnt]
theorem rcnt_le (l : List (Int × Int)) (z : Int) : rcnt l z ≤ 2 * l.length := by
  induction l with
  | nil => simp [rcnt]
  | cons s t ih =>
    have e : rcnt (s :: t) z = oneC z s + rcnt t z := by simp [rcnt]
    have : oneC z s ≤ 2 := by unfold oneC; split <;> split <;> omega
    rw [e, List.length_cons]
    omega
theorem rcnt_zero {l : List (Int × Int)} {a z : Int} (hr : secB a l = true) (hz : z ≤ a) : rcnt l z = 0 := by
  induction l generalizing a with
  | nil => rfl
  | cons s t ih =>
    obtain ⟨h1, h2, h3⟩ := (secB_cons a s t).1 hr
    have e : rcnt (s :: t) z = oneC z s + rcnt t z := by simp [rcnt]
    have e2 : oneC z s = 0 := by
      unfold oneC
      rw [if_neg (by omega), if_neg (by rcases h3 with ⟨h, _⟩ | ⟨_, h, _⟩ <;> omega)]
    rw [e, e2]
    rcases h3 with ⟨_, rfl⟩ | ⟨_, h4, _, h5⟩
    · rfl
    · rw [ih h5 (by omega)]
/-- Of sections it is the counter. -/
theorem rcnt_cnt {l : List (Int × Int)} {a z : Int} (hr : secB a l = true) : rcnt l z = cntB l z := by
  induction l generalizing a with
  | nil => rfl
  | cons s t ih =>
    obtain ⟨h1, h2, h3⟩ := (secB_cons a s t).1 hr
    have e : rcnt (s :: t) z = oneC z s + rcnt t z := by simp [rcnt]
    rw [e, cntB_cons]
    unfold oneC
    rcases h3 with ⟨h0, rfl⟩ | ⟨h0, h4, h5, h6⟩
    · rw [if_neg (show ¬ (s.2 ≠ 0 ∧ s.2 ≤ z) by omega)]
      by_cases h : s.1 ≤ z
      · rw [if_pos h, if_neg (by omega), if_pos h0]; rfl
      · rw [if_neg h, if_pos (by omega)]; rfl
    · by_cases h : z < s.1
      · rw [if_neg (by omega), if_neg (by omega), if_pos h, rcnt_zero h6 (by omega)]
      · rw [if_pos (by omega), if_neg h, if_neg h0]
        by_cases h7 : z < s.2
        · rw [if_neg (by omega), if_pos h7, rcnt_zero h6 (by omega)]
        · rw [if_pos ⟨h0, by omega⟩, if_neg h7, ih h6]

set_option maxRecDepth 100000 in
set_option maxHeartbeats 2000000 in
theorem Tryd.refCount_any (z : Int) (x : Option Addr) (n cap : Nat) (l : List (Int × Int)) (w : World) (hI : PAt w (.slice x n cap) l) :
    Calls Tryd.prog 17 #[.slice x n cap, .int .i64 z] w fun e w' => e = .returned (.int .u64 (rcnt l z : Nat)) ∧ Below w.heap.size w w' := by
  obtain ⟨hn, hnc, hcm⟩ := pAt_len hI
  have hreach : n ≤ maxLen := by omega
  unfold maxLen at hreach
  have HI := Lib.hid hI
  have HN := Lib.hid hn
  clear hI hn hnc hcm
  go_enter Tryd.func17, Tryd.ntmps17
  go_wp2
  go_loopw [5, 10] (fun cv j wr => ∃ (k c : Nat), k ≤ n ∧ j = .int .i64 k ∧ cv = .int .u64 c ∧ c ≤ 2 * k ∧ Hid (c = rcnt (l.take k) z) ∧ Below w.heap.size w wr) (fun _ j _ => n - (intOf j).toNat)
  case atStart => exact ⟨0, 0, Nat.zero_le _, rfl, rfl, Nat.le_refl _, Lib.hid rfl, Below.refl _ _⟩
  case round =>
    obtain ⟨k, c, hk, rfl, rfl, hc2, hc, hB⟩ := hrel
    by_cases hlt : k < n
    · have hkl : k < l.length := by rw [← HN.out]; exact hlt
      obtain ⟨b, off, rfl, hb, p0, p1⟩ := pAt_get (HI.out.below hB) k hkl
      have hsn : rcnt (l.take (k + 1)) z = c + oneC z l[k] := by rw [take_snoc l k hkl, rcnt_snoc, hc.out]
      rcases hs : l[k] with ⟨f, t⟩
      rw [hs] at p0 p1 hsn
      dsimp only at p0 p1
      unfold oneC at hsn
      dsimp only at hsn
      have hB1 : Below wr.heap.size wr (wr.alloc (.cells #[.int .i64 f, .int .i64 t] 39)) := Rows8.newB
      have hki : (k : Int) < (n : Int) := by omega
      have HB2 := Lib.hid (hB.trans (hB1.mono hB.size))
      have hw1 : IntKind.u64.wrap ((c : Int) + 1) = (c : Int) + 1 := by simp [IntKind.wrap, IntKind.bits, IntKind.signed]; omega
      have hw2 : IntKind.u64.wrap ((c : Int) + 1 + 1) = (c : Int) + 1 + 1 := by simp [IntKind.wrap, IntKind.bits, IntKind.signed]; omega
      clear hB1 hs hkl hB hc
      by_cases h1 : f ≤ z
      · rw [if_pos h1] at hsn
        by_cases h2 : t = 0
        · have q2 : (t != 0) = false := by simp [h2]
          rw [if_neg (fun h => h.1 h2)] at hsn
          have HS := Lib.hid hsn
          clear hsn h2
          go_wp2
          exact ⟨⟨k + 1, c + 1, by omega, by go_num, by go_num, by omega, Lib.hid (by rw [HS.out]), HB2.out⟩, by simp [intOf]; omega⟩
        · have q2 : (t != 0) = true := by simp [h2]
          by_cases h3 : t ≤ z
          · rw [if_pos ⟨h2, h3⟩] at hsn
            have HS := Lib.hid hsn
            clear hsn h2
            go_wp2
            exact ⟨⟨k + 1, c + 2, by omega, by go_num, by go_num, by omega, Lib.hid (by rw [HS.out]), HB2.out⟩, by simp [intOf]; omega⟩
          · rw [if_neg (fun h => h3 h.2)] at hsn
            have HS := Lib.hid hsn
            clear hsn h2
            go_wp2
            exact ⟨⟨k + 1, c + 1, by omega, by go_num, by go_num, by omega, Lib.hid (by rw [HS.out]), HB2.out⟩, by simp [intOf]; omega⟩
      · rw [if_neg h1] at hsn
        by_cases h2 : t = 0
        · have q2 : (t != 0) = false := by simp [h2]
          rw [if_neg (fun h => h.1 h2)] at hsn
          have HS := Lib.hid hsn
          clear hsn h2
          go_wp2
          exact ⟨⟨k + 1, c, by omega, by go_num, rfl, by omega, Lib.hid (by rw [HS.out]; rfl), HB2.out⟩, by simp [intOf]; omega⟩
        · have q2 : (t != 0) = true := by simp [h2]
          by_cases h3 : t ≤ z
          · rw [if_pos ⟨h2, h3⟩] at hsn
            have HS := Lib.hid hsn
            clear hsn h2
            go_wp2
            exact ⟨⟨k + 1, c + 1, by omega, by go_num, by go_num, by omega, Lib.hid (by rw [HS.out]), HB2.out⟩, by simp [intOf]; omega⟩
          · rw [if_neg (fun h => h3 h.2)] at hsn
            have HS := Lib.hid hsn
            clear hsn h2
            go_wp2
            exact ⟨⟨k + 1, c, by omega, by go_num, rfl, by omega, Lib.hid (by rw [HS.out]; rfl), HB2.out⟩, by simp [intOf]; omega⟩
    · obtain rfl : k = n := by omega
      have hr : Hid (c = rcnt l z) := Lib.hid (by rw [hc.out, List.take_of_length_le (Nat.le_of_eq HN.out.symm)])
      clear hc
      go_wp2
      go_ret
      exact ⟨by rw [← hr.out]; rfl, hB⟩
end Go.Proofs
