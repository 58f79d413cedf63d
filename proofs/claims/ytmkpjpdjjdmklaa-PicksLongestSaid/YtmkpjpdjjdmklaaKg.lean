/- The reference's Least, lap, Laps, Next. -/
import Derived.Test.YtmkpjpdjjdmklaaKf
namespace Go.Proofs
open Go.RowKit Go.Shelf
attribute [local go_sem] Oper.semAt_some

theorem maxLon_le (N : Nat) (ts : List Tn) : maxB (fun g => lonB g ts) N ≤ ts.length := (maxB_le _ _ _).2 (fun k _ => (waitB_le k ts).2.2)
set_option maxRecDepth 100000 in
set_option maxHeartbeats 2000000 in
theorem Try.refLeast_any (N : Nat) (h8 : N ≤ 8) (a : Option Addr) (n cap : Nat) (ts : List Tn) (hlen : n ≤ 1000) (w : World) (hI : TurnsAt w (.slice a n cap) ts) :
    Calls Try.prog 22 #[.int .i64 N, .slice a n cap] w fun e w' => e = .returned (.int .i64 (leastB N ts : Nat)) ∧ Below w.heap.size w w' := by
  obtain ⟨hn, _, _⟩ := turnsAt_len hI
  have hml := maxLon_le N ts
  have HI := Lib.hid hI
  have HN := Lib.hid hn
  have HNO := Lib.hid (fun m hm => hungryB_none N ts m hm)
  have hlb : leastB N ts = 1 + maxB (fun g => lonB g ts) N := rfl
  rw [← hn] at hml
  rw [hlb]
  clear hI hn hlb
  generalize maxB (fun g => lonB g ts) N = M at *
  go_enter Try.func22, Try.ntmps22
  go_wp2
  go_loopw [5] (fun j wr => ∃ m : Nat, 1 ≤ m ∧ m ≤ M + 1 ∧ j = .int .i64 m ∧ Below w.heap.size w wr) (fun j _ => M + 1 - (intOf j).toNat)
  case atStart => exact ⟨1, Nat.le_refl _, by omega, rfl, Below.refl _ _⟩
  case round =>
    obtain ⟨m, hm1, hm2, rfl, hB⟩ := hrel
    have hH := Try.refHungry_any N h8 m a n cap ts hlen wr (HI.out.below hB)
    have hno := HNO.out m hm1
    have HH := Lib.hid hH
    have HB := Lib.hid hB
    clear hH hB
    generalize hungryB N ts m = hs at *
    by_cases hlt : m ≤ M
    · have hpos := hno.2 hlt
      have hposi : 0 < (hs.length : Int) := by omega
      clear hno
      go_wp2_with fail
      refine HH.out.mono ?_
      rintro e w' ⟨v, rfl, hO, hB2⟩
      obtain ⟨_, a2, c2, rfl, _⟩ := rowAt_own hO
      have HB3 := Lib.hid (HB.out.trans (hB2.mono HB.out.size))
      clear hO hB2
      go_wp2_with fail
      exact ⟨⟨m + 1, by omega, by omega, by go_num, HB3.out⟩, by simp [intOf]; omega⟩
    · have hpos : ¬ 0 < hs.length := fun h => hlt (hno.1 h)
      have hz : hs.length = 0 := by omega
      have HZ := Lib.hid hz
      obtain rfl : m = M + 1 := by omega
      clear hno hpos hz
      go_wp2_with fail
      refine HH.out.mono ?_
      rintro e w' ⟨v, rfl, hO, hB2⟩
      obtain ⟨_, a2, c2, rfl, _⟩ := rowAt_own hO
      rw [HZ.out]
      have HB3 := Lib.hid (HB.out.trans (hB2.mono HB.out.size))
      clear hO hB2
      go_wp2_with fail
      go_ret
      exact ⟨by simp; omega, HB3.out⟩

def condB (k : Nat) (ts : List Tn) : Bool := !(ts.all fun t => decide ((k : Int) ∈ t.can)) || ts.any fun t => t.ch == (k : Int)
theorem isLap_succ (k : Nat) (ts : List Tn) : isLap (k + 1) ts = (isLap k ts && condB k ts) := by
  unfold isLap condB
  rw [List.range_succ, List.all_append]
  simp
theorem isLap_false {k N : Nat} {ts : List Tn} (h : condB k ts = false) (hk : k < N) : isLap N ts = false := by
  unfold isLap
  rw [List.all_eq_false]
  exact ⟨k, List.mem_range.2 hk, by rw [show (!(ts.all fun t => decide ((k : Int) ∈ t.can)) || ts.any fun t => t.ch == (k : Int)) = condB k ts from rfl, h]; decide⟩
theorem all_snoc {α : Type} (f : α → Bool) (l : List α) (x : α) : (l ++ [x]).all f = (l.all f && f x) := by simp
theorem any_snoc {α : Type} (f : α → Bool) (l : List α) (x : α) : (l ++ [x]).any f = (l.any f || f x) := by simp

set_option maxRecDepth 100000 in
set_option maxHeartbeats 4000000 in
theorem Try.lap_any (N : Nat) (h8 : N ≤ 8) (a : Option Addr) (n cap : Nat) (ts : List Tn) (w : World) (hI : TurnsAt w (.slice a n cap) ts) :
    Calls Try.prog 40 #[.int .i64 N, .slice a n cap] w fun e w' => e = .returned (.bool (isLap N ts)) ∧ Below w.heap.size w w' := by
  obtain ⟨hn, hnc, hcm⟩ := turnsAt_len hI
  have hreach : n ≤ maxLen := by omega
  unfold maxLen at hreach
  have HI := Lib.hid hI
  have HN := Lib.hid hn
  clear hI hn hnc hcm
  go_enter Try.func40, Try.ntmps40
  go_wp2
  go_loopw [11] (fun j wr => ∃ k : Nat, k ≤ N ∧ j = .int .i64 k ∧ Hid (isLap k ts = true) ∧ Below w.heap.size w wr) (fun j _ => N - (intOf j).toNat)
  case atStart => exact ⟨0, Nat.zero_le _, rfl, Lib.hid rfl, Below.refl _ _⟩
  case round =>
    obtain ⟨k, hk, rfl, hx, hB⟩ := hrel
    by_cases hlt : k < N
    · have hki : (k : Int) < (N : Int) := by omega
      have hsu := isLap_succ k ts
      have HB := Lib.hid hB
      have HSU := Lib.hid hsu
      clear hB hsu
      rename World => w0
      go_wp2_with fail
      go_loopw [6, 7, 16] (fun al ch j wr => ∃ i : Nat, i ≤ n ∧ j = .int .i64 i ∧ al = .bool ((ts.take i).all fun t => decide ((k : Int) ∈ t.can)) ∧ ch = .bool ((ts.take i).any fun t => t.ch == (k : Int)) ∧ Below w0.heap.size w0 wr) (fun _ _ j _ => n - (intOf j).toNat)
      case atStart => exact ⟨0, Nat.zero_le _, rfl, rfl, rfl, Below.refl _ _⟩
      case round =>
        obtain ⟨i, hi1, rfl, rfl, rfl, hB2⟩ := hrel
        by_cases hlt2 : i < n
        · have hii : (i : Int) < (n : Int) := by omega
          have hkl : i < ts.length := by rw [← HN.out]; exact hlt2
          obtain ⟨b, off, a', c', rfl, hb, hc1, hc2, hin⟩ := turnsAt_get ((HI.out.below HB.out).below hB2) i hkl
          have hsn := take_snoc ts i hkl
          generalize ts[i] = t at *
          obtain ⟨can, cho⟩ := t
          dsimp only at hc1 hc2 hin
          have hBn : Below wr.heap.size wr (wr.alloc (.cells #[.slice a' can.length c', .int .i64 cho] 47)) := (Below.refl _ wr).alloc (Nat.le_refl _) _
          have hin1 := RowAt.below hin hBn
          have hhas := Try.has_any a' can.length c' can rfl k _ hin1
          have hB3 := hB2.trans (hBn.mono hB2.size)
          have ha : Hid (((ts.take (i + 1)).all fun t => decide ((k : Int) ∈ t.can)) = (((ts.take i).all fun t => decide ((k : Int) ∈ t.can)) && decide ((k : Int) ∈ can))) := Lib.hid (by rw [hsn, all_snoc])
          have hy : Hid (((ts.take (i + 1)).any fun t => t.ch == (k : Int)) = (((ts.take i).any fun t => t.ch == (k : Int)) || (cho == (k : Int)))) := Lib.hid (by rw [hsn, any_snoc])
          have HH := Lib.hid hhas
          have HB3 := Lib.hid hB3
          clear hsn hkl hin hBn hin1 hhas hB2 hB3
          generalize ((ts.take i).all fun t => decide ((k : Int) ∈ t.can)) = A at *
          generalize ((ts.take i).any fun t => t.ch == (k : Int)) = C at *
          generalize decide ((k : Int) ∈ can) = r at *
          cases A with
          | true =>
            cases C with
            | true =>
              go_wp2_with fail
              refine HH.out.mono ?_
              rintro e w' ⟨rfl, rfl⟩
              go_wp2_with fail
              exact ⟨⟨i + 1, by omega, by go_num, by rw [ha.out]; rfl, by rw [hy.out]; rfl, HB3.out⟩, by simp [intOf]; omega⟩
            | false =>
              go_wp2_with fail
              refine HH.out.mono ?_
              rintro e w' ⟨rfl, rfl⟩
              go_wp2_with fail
              exact ⟨⟨i + 1, by omega, by go_num, by rw [ha.out]; rfl, by rw [hy.out]; rfl, HB3.out⟩, by simp [intOf]; omega⟩
          | false =>
            cases C with
            | true =>
              go_wp2_with fail
              exact ⟨⟨i + 1, by omega, by go_num, by rw [ha.out]; rfl, by rw [hy.out]; rfl, HB3.out⟩, by simp [intOf]; omega⟩
            | false =>
              go_wp2_with fail
              exact ⟨⟨i + 1, by omega, by go_num, by rw [ha.out]; rfl, by rw [hy.out]; rfl, HB3.out⟩, by simp [intOf]; omega⟩
        · obtain rfl : i = n := by omega
          have htk : ts.take i = ts := List.take_of_length_le (by rw [← HN.out]; exact Nat.le_refl _)
          rw [htk]
          have hcd : condB k ts = (!(ts.all fun t => decide ((k : Int) ∈ t.can)) || ts.any fun t => t.ch == (k : Int)) := rfl
          have HCD := Lib.hid hcd
          have HB3 := Lib.hid (HB.out.trans (hB2.mono HB.out.size))
          clear htk hcd hB2 HB
          generalize (ts.all fun t => decide ((k : Int) ∈ t.can)) = A at *
          generalize (ts.any fun t => t.ch == (k : Int)) = C at *
          cases A with
          | true =>
            cases C with
            | true =>
              have ht : Hid (isLap (k + 1) ts = true) := Lib.hid (by rw [HSU.out, hx.out, HCD.out]; rfl)
              go_wp2_with fail
              exact ⟨⟨k + 1, by omega, by go_num, ht, HB3.out⟩, by simp [intOf]; omega⟩
            | false =>
              have ht : Hid (isLap N ts = false) := Lib.hid (isLap_false HCD.out hlt)
              go_wp2_with fail
              go_ret
              exact ⟨by rw [ht.out]; rfl, HB3.out⟩
          | false =>
            have ht : Hid (isLap (k + 1) ts = true) := Lib.hid (by rw [HSU.out, hx.out, HCD.out]; rfl)
            go_wp2_with fail
            exact ⟨⟨k + 1, by omega, by go_num, ht, HB3.out⟩, by simp [intOf]; omega⟩
    · obtain rfl : k = N := by omega
      have HB := Lib.hid hB
      clear hB
      go_wp2_with fail
      go_ret
      exact ⟨by rw [hx.out]; rfl, HB.out⟩

theorem getD_drop {α : Type} (l : List α) (f k : Nat) : (l.drop f).drop k = l.drop (f + k) := by rw [List.drop_drop]
set_option maxRecDepth 100000 in
set_option maxHeartbeats 4000000 in
theorem Try.refLaps_any (N : Nat) (h8 : N ≤ 8) (a : Option Addr) (n cap : Nat) (ts : List Tn) (w : World) (hI : TurnsAt w (.slice a n cap) ts) :
    Calls Try.prog 23 #[.int .i64 N, .slice a n cap] w fun e w' => e = .returned (.int .i64 (lapsB N ts : Nat)) ∧ Below w.heap.size w w' := by
  obtain ⟨hn, hnc, hcm⟩ := turnsAt_len hI
  have hreach : n ≤ maxLen := by omega
  have hnci : (n : Int) ≤ (cap : Int) := by omega
  unfold maxLen at hreach
  have HI := Lib.hid hI
  have HN := Lib.hid hn
  clear hI hn hcm
  go_enter Try.func23, Try.ntmps23
  go_wp2
  go_loopw [5, 6, 10] (fun mv fv j wr => ∃ m f i : Nat, f ≤ i ∧ i ≤ n ∧ m ≤ f ∧ mv = .int .i64 m ∧ fv = .int .i64 f ∧ j = .int .i64 i ∧ Hid (m + lapsB N (ts.drop f) = lapsB N ts) ∧ Hid (i < f + lapB N (ts.drop f)) ∧ Below w.heap.size w wr) (fun _ _ j _ => n - (intOf j).toNat)
  case atStart => exact ⟨0, 0, 0, Nat.le_refl _, Nat.zero_le _, Nat.le_refl _, rfl, rfl, rfl, Lib.hid (by rw [List.drop_zero, Nat.zero_add]), Lib.hid (by unfold lapB; omega), Below.refl _ _⟩
  case round =>
    obtain ⟨m, f, i, hfi, hin, hmf, rfl, rfl, rfl, hx, hy, hB⟩ := hrel
    by_cases hlt : i < n
    · have hii : (i : Int) < (n : Int) := by omega
      have hfii : (f : Int) ≤ (i : Int) := by omega
      obtain ⟨b, off, _, _, rfl, _⟩ := turnsAt_get HI.out 0 (by rw [← HN.out]; omega)
      have hT := turns_cut (turns_drop (HI.out.below hB) f (by omega)) (i + 1 - f) (by omega)
      have hL := Try.lap_any N h8 _ _ _ _ wr hT
      have hdl : (ts.drop f).length = n - f := by rw [List.length_drop, HN.out]
      have hit := isLap_take N (ts.drop f) (i + 1 - f) (by rw [hdl]; omega) (by omega)
      have hle : Hid (lapB N (ts.drop f) ≤ n - f → lapsB N (ts.drop f) = 1 + lapsB N ((ts.drop f).drop (lapB N (ts.drop f)))) := Lib.hid (fun h => lapsB_yes (by rw [hdl]; exact h))
      have HL := Lib.hid hL
      have HB := Lib.hid hB
      have HIT := Lib.hid hit
      have hfc : ¬ (cap : Int) = (f : Int) := by omega
      have hi1 : ¬ (cap : Int) < (i : Int) + 1 := by omega
      have hi2 : ¬ (i : Int) + 1 < (f : Int) := by omega
      clear hT hL hdl hit hB
      cases hr : isLap N ((ts.drop f).take (i + 1 - f)) with
      | true =>
        rw [hr] at HL
        have e1 : lapB N (ts.drop f) = i + 1 - f := by have := HIT.out.1 hr; have := hy.out; omega
        have ht : Hid (m + 1 + lapsB N (ts.drop (i + 1)) = lapsB N ts) := Lib.hid (by
          have h1 := hle.out (by omega)
          rw [e1, getD_drop, show f + (i + 1 - f) = i + 1 by omega] at h1
          rw [← hx.out, h1]; omega)
        have ht2 : Hid (i + 1 < i + 1 + lapB N (ts.drop (i + 1))) := Lib.hid (by unfold lapB; omega)
        clear hr e1
        go_wp2_with fail
        refine HL.out.mono ?_
        rintro e w' ⟨rfl, hB2⟩
        have HB3 := Lib.hid (HB.out.trans (hB2.mono HB.out.size))
        clear hB2
        go_wp2_with fail
        exact ⟨⟨m + 1, i + 1, i + 1, Nat.le_refl _, by omega, by omega, by go_num, by go_num, by go_num, ht, ht2, HB3.out⟩, by simp [intOf]; omega⟩
      | false =>
        rw [hr] at HL
        have ht : Hid (i + 1 < f + lapB N (ts.drop f)) := Lib.hid (by
          have : ¬ lapB N (ts.drop f) ≤ i + 1 - f := fun h => by rw [HIT.out.2 h] at hr; cases hr
          omega)
        clear hr
        go_wp2_with fail
        refine HL.out.mono ?_
        rintro e w' ⟨rfl, hB2⟩
        have HB3 := Lib.hid (HB.out.trans (hB2.mono HB.out.size))
        clear hB2
        go_wp2_with fail
        exact ⟨⟨m, f, i + 1, by omega, by omega, hmf, rfl, rfl, by go_num, hx, ht, HB3.out⟩, by simp [intOf]; omega⟩
    · obtain rfl : i = n := by omega
      have ht : Hid (lapsB N ts = m) := Lib.hid (by
        rw [← hx.out, lapsB_no (by rw [List.length_drop, ← HN.out]; have := hy.out; omega)]; rfl)
      have HB := Lib.hid hB
      clear hB
      go_wp2_with fail
      go_ret
      exact ⟨by rw [ht.out]; rfl, HB.out⟩

def bestB (f : Int → Nat) (b : Int) (l : List Int) : Int := l.foldl (fun b g => if f b < f g then g else b) b
theorem bestB_snoc (f : Int → Nat) (b : Int) (l : List Int) (g : Int) : bestB f b (l ++ [g]) = if f (bestB f b l) < f g then g else bestB f b l := by
  unfold bestB; rw [List.foldl_append]; rfl
set_option maxRecDepth 100000 in
set_option maxHeartbeats 4000000 in
theorem Try.refNext_any (a : Option Addr) (n cap : Nat) (ts : List Tn) (a2 : Option Addr) (m cap2 : Nat) (can : List Int) (hm : m = can.length) (h1 : 1 ≤ m) (w : World) (hI : TurnsAt w (.slice a n cap) ts) (hC : IntsAt w (.slice a2 m cap2) can) :
    Calls Try.prog 30 #[.slice a n cap, .slice a2 m cap2] w fun e w' => e = .returned (.int .i64 (mostB (fun g => waitB g ts) can)) ∧ Below w.heap.size w w' := by
  have hreach : m ≤ maxLen := by
    obtain ⟨_, _, _, e, h1, h2, _⟩ := hC
    cases e
    omega
  unfold maxLen at hreach
  obtain ⟨b2, o2, rfl, hb2, hc0⟩ := intsAt_get hC 0 (by omega)
  have hmo : mostB (fun g => waitB g ts) can = bestB (fun g => waitB g ts) (can[0]?.getD 0) can := rfl
  rw [hmo]
  generalize can[0]?.getD 0 = c0 at *
  rw [Nat.add_zero] at hc0
  have HI := Lib.hid hI
  have HC := Lib.hid hC
  have HM := Lib.hid hm
  have h1i : 0 < (m : Int) := by omega
  clear hI hC hm hmo
  go_enter Try.func30, Try.ntmps30
  go_wp2
  go_loopw [5, 13] (fun bv j wr => ∃ k : Nat, k ≤ m ∧ j = .int .i64 k ∧ bv = .int .i64 (bestB (fun g => waitB g ts) c0 (can.take k)) ∧ Below w.heap.size w wr) (fun _ j _ => m - (intOf j).toNat)
  case atStart => exact ⟨0, Nat.zero_le _, rfl, rfl, Below.refl _ _⟩
  case round =>
    obtain ⟨k, hk, rfl, rfl, hB⟩ := hrel
    by_cases hlt : k < m
    · have hkl : k < can.length := by rw [← HM.out]; exact hlt
      obtain ⟨b', o', e', hb', hc⟩ := intsAt_get (RowAt.below HC.out hB) k hkl
      cases e'
      rw [getD_int can k hkl] at hc
      have hsn := take_snoc can k hkl
      generalize can[k] = g at *
      have hbs := bestB_snoc (fun g => waitB g ts) c0 (can.take k) g
      rw [← hsn] at hbs
      generalize bestB (fun g => waitB g ts) c0 (can.take k) = best at *
      have hW1 := fun W h => Try.Wait_any g a n cap ts W h
      have hW2 := fun W h => Try.Wait_any best a n cap ts W h
      have HW1 := Lib.hid hW1
      have HW2 := Lib.hid hW2
      have HBS := Lib.hid hbs
      have HB := Lib.hid hB
      have hki : (k : Int) < (m : Int) := by omega
      clear hsn hW1 hW2 hkl hB hbs
      generalize waitB g ts = wg at *
      generalize waitB best ts = wb at *
      go_wp2_with fail
      refine (HW1.out _ (HI.out.below HB.out)).mono ?_
      rintro e w' ⟨rfl, hB2⟩
      have HB3 := Lib.hid (HB.out.trans (hB2.mono HB.out.size))
      clear hB2
      go_wp2_with fail
      refine (HW2.out _ (HI.out.below HB3.out)).mono ?_
      rintro e w'' ⟨rfl, hB2⟩
      have HB4 := Lib.hid (HB3.out.trans (hB2.mono HB3.out.size))
      clear hB2
      by_cases hc : wb < wg
      · have hci : (wb : Int) < (wg : Int) := by omega
        have ht : Hid (bestB (fun g => waitB g ts) c0 (can.take (k + 1)) = g) := Lib.hid (by rw [HBS.out, if_pos hc])
        clear hc
        go_wp2_with fail
        exact ⟨⟨k + 1, by omega, by go_num, by rw [ht.out], HB4.out⟩, by simp [intOf]; omega⟩
      · have hci : ¬ (wb : Int) < (wg : Int) := by omega
        have ht : Hid (bestB (fun g => waitB g ts) c0 (can.take (k + 1)) = best) := Lib.hid (by rw [HBS.out, if_neg hc])
        clear hc
        go_wp2_with fail
        exact ⟨⟨k + 1, by omega, by go_num, by rw [ht.out], HB4.out⟩, by simp [intOf]; omega⟩
    · obtain rfl : k = m := by omega
      have htk : can.take k = can := List.take_of_length_le (by rw [← HM.out]; exact Nat.le_refl _)
      rw [htk]
      have HB := Lib.hid hB
      clear hB htk
      go_wp2_with fail
      go_ret
      exact ⟨rfl, HB.out⟩
end Go.Proofs
