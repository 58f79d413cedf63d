/- The reference's Wait, Hungry, Least, lap, Laps, Next, Shares. -/
import Derived.Test.YtmkpjpdjjdmklaaKe
namespace Go.Proofs
open Go.RowKit Go.Shelf
attribute [local go_sem] Oper.semAt_some

set_option maxRecDepth 100000 in
set_option maxHeartbeats 2000000 in
theorem Try.Wait_any (g : Int) (a : Option Addr) (n cap : Nat) (ts : List Tn) (w : World) (hI : TurnsAt w (.slice a n cap) ts) :
    Calls Try.prog 39 #[.slice a n cap, .int .i64 g] w fun e w' => e = .returned (.int .i64 (waitB g ts)) ∧ Below w.heap.size w w' := by
  obtain ⟨hn, hnc, hcm⟩ := turnsAt_len hI
  have hreach : n ≤ maxLen := by omega
  unfold maxLen at hreach
  have HI := Lib.hid hI
  have HN := Lib.hid hn
  clear hI hn hnc hcm
  go_enter Try.func39, Try.ntmps39
  go_wp2
  go_loopw [5, 6] (fun c i wr => ∃ m k : Nat, m + k = n ∧ c = .int .i64 k ∧ i = .int .i64 ((m : Int) - 1) ∧ Hid (waitB g ts = waitB g (ts.take m) + k) ∧ Below w.heap.size w wr) (fun _ i _ => (intOf i + 1).toNat)
  case atStart => exact ⟨n, 0, rfl, rfl, rfl, Lib.hid (by rw [List.take_of_length_le (by rw [← HN.out]; exact Nat.le_refl _)]; rfl), Below.refl _ _⟩
  case round =>
    obtain ⟨m, k, hmk, rfl, rfl, hx, hB⟩ := hrel
    cases m with
    | zero =>
      have HB := Lib.hid hB
      rw [show ((0 : Nat) : Int) - 1 = -1 from rfl]
      clear hB hmk
      go_wp2_with fail
      go_ret
      exact ⟨by rw [hx.out]; simp [waitB, runW], HB.out⟩
    | succ j =>
      have hjl : j < ts.length := by rw [← HN.out]; omega
      obtain ⟨b, off, a', c', rfl, hb, hc1, hc2, hin⟩ := turnsAt_get (HI.out.below hB) j hjl
      have hsn := take_snoc ts j hjl
      generalize ts[j] = t at *
      obtain ⟨can, ch⟩ := t
      dsimp only at hc1 hc2 hin
      have hcon := Try.starves_any g a' can.length c' can ch rfl wr hin
      rw [show ((j + 1 : Nat) : Int) - 1 = (j : Int) by omega]
      have HS := Lib.hid hsn
      have HB := Lib.hid hB
      have HC := Lib.hid hcon
      have hjn : j < n := by omega
      have hji : (j : Int) < (n : Int) := by omega
      clear hsn hjl hB hin hcon
      cases hs : starveB g ⟨can, ch⟩ with
      | true =>
        rw [hs] at HC
        have ht : Hid (waitB g ts = waitB g (ts.take j) + (k + 1)) := Lib.hid (by rw [hx.out, HS.out, waitB_yes hs]; omega)
        have hmk2 : j + (k + 1) = n := by omega
        have hkn : (k : Int) < (n : Int) := by omega
        clear hs hmk
        go_wp2_with fail
        refine HC.out.mono ?_
        rintro e w' ⟨rfl, hB2⟩
        have HB3 := Lib.hid (HB.out.trans (hB2.mono HB.out.size))
        clear hB2
        go_wp2_with fail
        exact ⟨⟨j, k + 1, hmk2, by go_num, by first | rfl | go_num, ht, HB3.out⟩, by first | (simp [intOf]; done) | (simp [intOf]; omega)⟩
      | false =>
        rw [hs] at HC
        have ht : Hid (waitB g ts = k) := Lib.hid (by rw [hx.out, HS.out, waitB_no hs]; exact Nat.zero_add _)
        clear hs hmk
        go_wp2_with fail
        refine HC.out.mono ?_
        rintro e w' ⟨rfl, hB2⟩
        have HB3 := Lib.hid (HB.out.trans (hB2.mono HB.out.size))
        clear hB2
        go_wp2_with fail
        go_ret
        exact ⟨by rw [ht.out]; rfl, HB3.out⟩

/-- Whether one is hungry by w, as far as the k-th turn. -/
def foundB (g w : Int) (ts : List Tn) (k : Nat) : Bool := decide (1 ≤ w ∧ ∃ i, i < k ∧ w ≤ (waitB g (ts.take i) : Int))
theorem foundB_zero (g w : Int) (ts : List Tn) : foundB g w ts 0 = false := by
  unfold foundB
  exact decide_eq_false (fun ⟨_, i, hi, _⟩ => absurd hi (Nat.not_lt_zero _))
theorem foundB_succ (g w : Int) (ts : List Tn) (k : Nat) : foundB g w ts (k + 1) = (foundB g w ts k || decide (1 ≤ w ∧ w ≤ (waitB g (ts.take k) : Int))) := by
  unfold foundB
  rw [Bool.eq_iff_iff, Bool.or_eq_true, decide_eq_true_iff, decide_eq_true_iff, decide_eq_true_iff]
  constructor
  · rintro ⟨h1, i, hi, h2⟩
    by_cases e : i < k
    · exact .inl ⟨h1, i, e, h2⟩
    · obtain rfl : i = k := by omega
      exact .inr ⟨h1, h2⟩
  · rintro (⟨h1, i, hi, h2⟩ | ⟨h1, h2⟩)
    · exact ⟨h1, i, by omega, h2⟩
    · exact ⟨h1, k, by omega, h2⟩
theorem foundB_all (g w : Int) (ts : List Tn) : foundB g w ts (ts.length + 1) = decide (1 ≤ w ∧ w ≤ (lonB g ts : Int)) := by
  unfold foundB
  rw [decide_eq_decide]
  constructor
  · rintro ⟨h1, i, hi, h2⟩
    have := (lonB_iff g ts w.toNat (by omega)).2 ⟨i, by omega, by omega⟩
    exact ⟨h1, by omega⟩
  · rintro ⟨h1, h2⟩
    obtain ⟨i, hi, h3⟩ := (lonB_iff g ts w.toNat (by omega)).1 (by omega)
    exact ⟨h1, i, by omega, by omega⟩

theorem intVals_snoc (l : List Int) (z : Int) : intVals (l ++ [z]) = intVals l ++ [.int .i64 z] := by simp [intVals]
set_option maxRecDepth 100000 in
set_option maxHeartbeats 4000000 in
theorem Try.refHungry_any (N : Nat) (h8 : N ≤ 8) (q : Int) (a : Option Addr) (n cap : Nat) (ts : List Tn) (hlen : n ≤ 1000) (w : World) (hI : TurnsAt w (.slice a n cap) ts) :
    Calls Try.prog 20 #[.int .i64 N, .slice a n cap, .int .i64 q] w (IntsQ (hungryB N ts q) w) := by
  obtain ⟨i0, hi, hz0, hz1, hz2⟩ := info_parts Try.infoInt
  obtain ⟨hn, hnc, hcm⟩ := turnsAt_len hI
  have HI := Lib.hid hI
  have HN := Lib.hid hn
  have hnc' : (n : Int) ≤ (cap : Int) := by omega
  clear hI hn hcm
  go_enter Try.func20, Try.ntmps20
  go_wp2
  go_loopw [7, 12] (fun o j wr => ∃ k : Nat, k ≤ N ∧ j = .int .i64 k ∧ OwnsInts w.heap.size (hungryB k ts q) o wr ∧ Below w.heap.size w wr) (fun _ j _ => N - (intOf j).toNat)
  case atStart => exact ⟨0, Nat.zero_le _, rfl, World.ownsRow_nil _ _ _ _, Below.refl _ _⟩
  case round =>
    obtain ⟨k, hk, rfl, hO, hB⟩ := hrel
    by_cases hlt : k < N
    · have hki : (k : Int) < (N : Int) := by omega
      have HO := Lib.hid hO
      have HB := Lib.hid hB
      clear hO hB
      rename World => w0
      go_wp2_with fail
      go_loopw [9, 18] (fun f j wr => ∃ i : Nat, i ≤ n + 1 ∧ j = .int .i64 i ∧ f = .bool (foundB k q ts i) ∧ Below w0.heap.size w0 wr) (fun _ j _ => n + 1 - (intOf j).toNat)
      case atStart => exact ⟨0, Nat.zero_le _, rfl, by rw [foundB_zero], Below.refl _ _⟩
      case round =>
        obtain ⟨i, hi1, rfl, rfl, hB2⟩ := hrel
        by_cases hlt2 : i < n + 1
        · have hii : (i : Int) < (n : Int) + 1 := by omega
          have hsu := foundB_succ k q ts i
          have HB2 := Lib.hid hB2
          clear hB2
          cases hf : foundB k q ts i with
          | true =>
            have ht : Hid (foundB k q ts (i + 1) = true) := Lib.hid (by rw [hsu, hf]; rfl)
            clear hsu hf
            go_wp2_with fail
            exact ⟨⟨i + 1, by omega, by go_num, by rw [ht.out], HB2.out⟩, by simp [intOf]; omega⟩
          | false =>
            by_cases hq : q < 1
            · have ht : Hid (foundB k q ts (i + 1) = false) := Lib.hid (by rw [hsu, hf, decide_eq_false (by omega)]; rfl)
              have hd := decide_eq_false (show ¬ 1 ≤ q by omega)
              clear hsu hf
              go_wp2_with fail
              exact ⟨⟨i + 1, by omega, by go_num, by rw [ht.out], HB2.out⟩, by simp [intOf]; omega⟩
            · have hd := decide_eq_true (show 1 ≤ q by omega)
              have hic : ¬ (cap : Int) < (i : Int) := by omega
              have hW := Try.Wait_any k a i cap (ts.take i) wr (turns_cut ((HI.out.below HB.out).below HB2.out) i (by omega))
              have HW := Lib.hid hW
              have ht : Hid (foundB k q ts (i + 1) = decide (q ≤ (waitB k (ts.take i) : Int))) := Lib.hid (by rw [hsu, hf, show decide (1 ≤ q ∧ q ≤ (waitB k (ts.take i) : Int)) = decide (q ≤ (waitB k (ts.take i) : Int)) by rw [decide_eq_decide]; omega]; rfl)
              clear hsu hf hW
              generalize waitB (k : Int) (ts.take i) = wt at *
              go_wp2_with fail
              refine HW.out.mono ?_
              rintro e w' ⟨rfl, hB3⟩
              have HB3 := Lib.hid (HB2.out.trans (hB3.mono HB2.out.size))
              clear hB3 HB2
              go_wp2_with fail
              exact ⟨⟨i + 1, by omega, by go_num, by rw [ht.out], HB3.out⟩, by simp [intOf]; omega⟩
        · obtain rfl : i = n + 1 := by omega
          have hfa : foundB k q ts (n + 1) = decide (1 ≤ q ∧ q ≤ (lonB k ts : Int)) := by rw [HN.out, foundB_all]
          rw [hfa]
          have hsu := hungryB_succ k ts q
          have hO2 := owns_keep HO.out hB2 (Nat.le_refl _)
          have hB3 := HB.out.trans (hB2.mono HB.out.size)
          clear hfa hB2 HO HB
          by_cases hq : 1 ≤ q ∧ q ≤ (lonB k ts : Int)
          · rw [decide_eq_true hq]
            rw [if_pos hq] at hsu
            have hhl := hungryB_length k ts q
            have HSU := Lib.hid hsu
            have HO := Lib.hid hO2
            have HB := Lib.hid hB3
            have hz := HB.out.size
            clear hsu hq hO2 hB3
            generalize hungryB k ts q = pre at *
            go_wp2_with (at_builtin; refine wpList_append_own _ rfl _ _ 22 rfl w.heap.size 3 i0 (.int .i64 0) 1 8 Try.underlying22 hi hz0 hz1 hz2 rfl (by decide) _ _ _ rfl (World.ownsRow.alloc HO.out _) ⟨wr.heap.size, 0, none⟩ 1 1 [.int .i64 k] rfl rfl (cells_new wr _ [.int .i64 k]) (by simp [Value.oneCell']) (by unfold maxLen; omega) (by omega) (by simp; omega) ?_)
            intro v' w1 hown' hgrow _
            have hoa := World.ownsRow.alloc HO.out (.cells #[.int .i64 (k : Int)] 3)
            have hB1 := (HB.out.alloc hz (.cells #[.int .i64 (k : Int)] 3)).grown hgrow (by simp; omega) (fun j ej => (World.ownsRow.lt hoa j ej).1)
            have hO1 : OwnsInts w.heap.size (hungryB (k + 1) ts q) v' w1 := by
              rw [HSU.out]
              unfold OwnsInts
              rw [intVals_snoc, List.length_append]
              exact hown'
            have HO1 := Lib.hid hO1
            have HB1 := Lib.hid hB1
            clear hown' hgrow hoa hO1 hB1 hz
            go_wp2_with fail
            exact ⟨⟨k + 1, by omega, by go_num, HO1.out, HB1.out⟩, by simp [intOf]; omega⟩
          · rw [decide_eq_false hq]
            rw [if_neg hq] at hsu
            have HSU := Lib.hid hsu
            have HO := Lib.hid hO2
            have HB := Lib.hid hB3
            clear hsu hq hO2 hB3
            go_wp2_with fail
            exact ⟨⟨k + 1, by omega, by go_num, by rw [HSU.out]; exact HO.out, HB.out⟩, by simp [intOf]; omega⟩
    · obtain rfl : k = N := by omega
      have HO := Lib.hid hO
      have HB := Lib.hid hB
      clear hO hB
      go_wp2_with fail
      go_ret
      exact ⟨_, rfl, HO.out, HB.out⟩
end Go.Proofs
