/- Arena: which may be; Check, Same, New, Tag, Counts. -/
import Derived.Test.YtmcancccihffhaaAb
namespace Go.Proofs
set_option maxRecDepth 100000
open Go.RowKit Go.Shelf
attribute [local go_sem] Oper.semAt_some

theorem Try.mayHave_any (n : Int) (w : World) : Calls Try.prog 29 #[.int .i64 n] w fun e w' => e = .returned (.bool (manyA n)) ∧ w' = w := by
  obtain ⟨b, hb⟩ : ∃ b, b = manyA n := ⟨_, rfl⟩
  rw [← hb]
  unfold manyA at hb
  have HB := Lib.hid hb
  clear hb
  by_cases h1 : 2 ≤ n
  · by_cases h2 : n ≤ 128
    · have h3 : Hid (b = true) := Lib.hid (by rw [HB.out]; simp; omega)
      go_enter Try.func29, Try.ntmps29
      go_wp2
      go_ret
      exact ⟨by rw [h3.out]; first | rfl | simp [h1, h2], rfl⟩
    · have h3 : Hid (b = false) := Lib.hid (by rw [HB.out]; simp; omega)
      go_enter Try.func29, Try.ntmps29
      go_wp2
      go_ret
      exact ⟨by rw [h3.out]; first | rfl | simp [h1, h2], rfl⟩
  · have h3 : Hid (b = false) := Lib.hid (by rw [HB.out]; simp; omega)
    go_enter Try.func29, Try.ntmps29
    go_wp2
    go_ret
    exact ⟨by rw [h3.out]; first | rfl | simp [h1], rfl⟩

set_option maxRecDepth 100000 in
set_option maxHeartbeats 1000000 in
theorem Try.mayBe1_any (t : Int) (g : Nat) (w : World) : Calls Try.prog 31 #[.agg #[.int .i64 t, .int .u64 (g : Nat)]] w fun e w' => e = .returned (.bool (okS (t, g))) ∧ Below w.heap.size w w' := by
  obtain ⟨b, hb⟩ : ∃ b, b = okS (t, g) := ⟨_, rfl⟩
  rw [← hb]
  unfold okS at hb
  have HB := Lib.hid hb
  have hB0 : Below w.heap.size w (w.alloc (.cells #[.int .i64 t, .int .u64 (g : Nat)] 52)) := Rows8.newB
  clear hb
  have hd : decide (0 ≤ t ∧ t < 3 ∧ g ≤ 1099511627775) = (decide (0 ≤ t) && (decide (t < 3) && decide (g ≤ 1099511627775))) := by simp
  have hdI : decide (((g : Nat) : Int) ≤ 1099511627775) = decide (g ≤ 1099511627775) := by simp; omega
  have HD := Lib.hid hd
  have HDI := Lib.hid hdI
  clear hd hdI
  by_cases h1 : 0 ≤ t
  · by_cases h2 : t < 3
    · by_cases h4 : ((g : Nat) : Int) ≤ 1099511627775
      · have h3 : Hid (b = true) := Lib.hid (by rw [HB.out, decide_eq_true_eq]; dsimp only; omega)
        go_enter Try.func31, Try.ntmps31
        go_wp2
        go_ret
        exact ⟨by rw [h3.out]; first | rfl | simp [h1, h2, h4], hB0⟩
      · have h3 : Hid (b = false) := Lib.hid (by rw [HB.out, decide_eq_false_iff_not]; dsimp only; omega)
        go_enter Try.func31, Try.ntmps31
        go_wp2
        go_ret
        exact ⟨by rw [h3.out]; first | rfl | simp [h1, h2, h4], hB0⟩
    · have h3 : Hid (b = false) := Lib.hid (by rw [HB.out, decide_eq_false_iff_not]; dsimp only; omega)
      go_enter Try.func31, Try.ntmps31
      go_wp2
      go_ret
      exact ⟨by rw [h3.out]; first | rfl | simp [h1, h2], hB0⟩
  · have h3 : Hid (b = false) := Lib.hid (by rw [HB.out, decide_eq_false_iff_not]; dsimp only; omega)
    go_enter Try.func31, Try.ntmps31
    go_wp2
    go_ret
    exact ⟨by rw [h3.out]; first | rfl | simp [h1], hB0⟩

theorem all_next {p : Pr → Bool} (l : List Pr) (k : Nat) (h : k < l.length) (ht : (l.take k).all p = true) : (l.take (k + 1)).all p = p l[k] := by
  rw [take_snoc l k h, List.all_append, ht]; simp
theorem all_no {p : Pr → Bool} (l : List Pr) (k : Nat) (h : k < l.length) (ht : p l[k] = false) : l.all p = false := by
  rw [List.all_eq_false]; exact ⟨l[k], List.getElem_mem h, by simp [ht]⟩
set_option maxRecDepth 100000 in
set_option maxHeartbeats 2000000 in
theorem Try.all_any (a : Option Addr) (n cap : Nat) (l : List Pr) (w : World) (hI : PAt w (.slice a n cap) l) (hl : n ≤ 10000) :
    Calls Try.prog 30 #[.slice a n cap, .func (.func 31) #[] #[]] w fun e w' => e = .returned (.bool (l.all okS)) ∧ Below w.heap.size w w' := by
  have HN := Lib.hid (pAt_len hI).1
  have HI := Lib.hid hI
  clear hI
  obtain ⟨r, hr⟩ : ∃ r, r = l.all okS := ⟨_, rfl⟩
  rw [← hr]
  have HR := Lib.hid hr
  clear hr
  go_enter Try.func30, Try.ntmps30
  go_wp2
  go_loopw [6, 9] (fun _ j wr => ∃ k : Nat, k ≤ n ∧ j = .int .i64 k ∧ Hid ((l.take k).all okS = true) ∧ Below w.heap.size w wr) (fun _ j _ => n - (intOf j).toNat)
  case atStart => exact ⟨0, Nat.zero_le _, rfl, Lib.hid rfl, Below.refl _ _⟩
  case round =>
    obtain ⟨k, hk, rfl, hx, hB⟩ := hrel
    by_cases hlt : k < n
    · have hkl : k < l.length := by rw [← HN.out]; exact hlt
      obtain ⟨b, off, rfl, hb2, c0, c1⟩ := pAt_get (PAt.below HI.out hB) k hkl
      have hall := all_next l k hkl hx.out
      have hano := all_no (p := okS) l k hkl
      rcases hq : l[k] with ⟨t, g⟩
      rw [hq] at c0 c1 hall hano
      dsimp only at c0 c1
      have HC := fun W => Lib.hid (Try.mayBe1_any t g W)
      have HALL := Lib.hid hall
      have HNO := Lib.hid hano
      have hki : (k : Int) < (n : Int) := by omega
      have HB := Lib.hid hB
      clear hq hall hano hx hB
      go_wp2_with fail
      refine (HC _).out.mono ?_
      rintro e w' ⟨rfl, hB2⟩
      have HB2 := Lib.hid (HB.out.trans ((((Below.refl _ _).alloc (Nat.le_refl _) _).trans (hB2.mono (by simp))).mono HB.out.size))
      clear hB2
      cases he : okS (t, g) with
      | true =>
        have h9 : Hid ((l.take (k + 1)).all okS = true) := Lib.hid (by rw [HALL.out, he])
        clear he
        go_wp2_with fail
        exact ⟨⟨k + 1, by omega, by go_num, h9, HB2.out⟩, by simp [intOf]; omega⟩
      | false =>
        have h9 : Hid (r = false) := Lib.hid (by rw [HR.out]; exact HNO.out he)
        clear he
        go_wp2_with fail
        go_ret
        exact ⟨by rw [h9.out]; rfl, HB2.out⟩
    · obtain rfl : k = n := by omega
      have h9 : Hid (r = true) := Lib.hid (by rw [HR.out]; have := hx.out; rwa [List.take_of_length_le (Nat.le_of_eq HN.out.symm)] at this)
      have HB := Lib.hid hB
      clear hx hB
      go_wp2_with fail
      go_ret
      exact ⟨by rw [h9.out]; rfl, HB.out⟩

set_option maxRecDepth 100000 in
set_option maxHeartbeats 2000000 in
theorem Try.mayBe_any (a : Option Addr) (n cap : Nat) (l : List Pr) (w : World) (hI : PAt w (.slice a n cap) l) :
    Calls Try.prog 16 #[.agg #[.slice a n cap]] w fun e w' => e = .returned (.bool (rightA l)) ∧ Below w.heap.size w w' := by
  have hlen := (pAt_len hI).1
  obtain ⟨r, hr⟩ : ∃ r, r = rightA l := ⟨_, rfl⟩
  rw [← hr]
  unfold rightA at hr
  rw [← hlen] at hr
  have HR := Lib.hid hr
  have hB0 : Below w.heap.size w (w.alloc (.cells #[.slice a n cap] 54)) := Rows8.newB
  have HM := fun W => Lib.hid (Try.mayHave_any (n : Int) W)
  have HA := fun (hn : n ≤ 10000) => Lib.hid (Try.all_any a n cap l _ (PAt.below hI hB0) hn)
  have HB0 := Lib.hid hB0
  clear hr hlen hI hB0
  cases hm : manyA n with
  | true =>
    have hn : n ≤ 10000 := by unfold manyA at hm; rw [decide_eq_true_eq] at hm; omega
    rw [hm] at HM HR
    have HA' := HA hn
    clear HA hm hn
    go_enter Try.func16, Try.ntmps16
    go_wp2_with fail
    refine (HM _).out.mono ?_
    rintro e w1 ⟨rfl, rfl⟩
    go_wp2_with fail
    refine HA'.out.mono ?_
    rintro e w2 ⟨rfl, hB2⟩
    have HB2 := Lib.hid (HB0.out.trans (hB2.mono HB0.out.size))
    clear hB2
    generalize l.all okS = q at *
    go_wp2_with fail
    go_ret
    exact ⟨by rw [HR.out]; rfl, HB2.out⟩
  | false =>
    rw [hm] at HM HR
    clear HA hm
    go_enter Try.func16, Try.ntmps16
    go_wp2_with fail
    refine (HM _).out.mono ?_
    rintro e w1 ⟨rfl, rfl⟩
    go_wp2_with fail
    go_ret
    exact ⟨by rw [HR.out]; rfl, HB0.out⟩

set_option maxHeartbeats 1000000 in
theorem Try.Check_any (a : Option Addr) (n cap : Nat) (l : List Pr) (w : World) (hI : PAt w (.slice a n cap) l) :
    Calls Try.prog 6 #[.agg #[.slice a n cap]] w fun e w' => e = .returned (.int .i64 (if rightA l then 0 else 210)) ∧ Below w.heap.size w w' := by
  have hB0 : Below w.heap.size w (w.alloc (.cells #[.slice a n cap] 24)) := Rows8.newB
  have HC := Lib.hid (Try.mayBe_any a n cap l _ (PAt.below hI hB0))
  have HB0 := Lib.hid hB0
  clear hI hB0
  obtain ⟨r, hr⟩ : ∃ r, r = rightA l := ⟨_, rfl⟩
  rw [← hr] at HC ⊢
  clear hr
  go_enter Try.func6, Try.ntmps6
  go_wp2_with fail
  refine HC.out.mono ?_
  rintro e w1 ⟨rfl, hB1⟩
  have HB1 := Lib.hid (HB0.out.trans (hB1.mono HB0.out.size))
  clear hB1
  cases r
  · go_wp2_with fail
    go_ret
    exact ⟨rfl, HB1.out⟩
  · go_wp2_with fail
    go_ret
    exact ⟨rfl, HB1.out⟩

end Go.Proofs
