/- Check, Right. -/
import Derived.Test.YtmkpjpdjjdmklaaKd
namespace Go.Proofs
open Go.RowKit Go.Shelf
attribute [local go_sem] Oper.semAt_some

def FoundT (N : Int) (ts : List Tn) (w : World) (e : Ending) (w' : World) : Prop := ∃ r : Int, e = .returned (.int .i64 r) ∧ (0 ≤ r ↔ ts.all (rightT N) = false) ∧ Below w.heap.size w w'
set_option maxRecDepth 100000 in
set_option maxHeartbeats 1000000 in
theorem Try.indexTurns_any (N : Int) (h8 : N ≤ 8) (B : Nat) (a : Option Addr) (n cap : Nat) (ts : List Tn) (w : World) (hI : TurnsAt w (.slice a n cap) ts) (hb : Rows8 w B 3 #[.int .i64 N]) :
    Calls Try.prog 53 #[.slice a n cap, .func (.func 37) #[] #[.pointer (some ⟨B, 0, none⟩)]] w (FoundT N ts w) := by
  obtain ⟨hn, hnc, hcm⟩ := turnsAt_len hI
  have hreach : n ≤ maxLen := by omega
  unfold maxLen at hreach
  have HI := Lib.hid hI
  have HN := Lib.hid hn
  have HB0 := Lib.hid hb
  clear hI hn hnc hcm hb
  go_enter Try.func53, Try.ntmps53
  go_wp2
  go_loopw [5, 8] (fun _ j wr => ∃ k : Nat, k ≤ n ∧ j = .int .i64 k ∧ Hid (ts.all (rightT N) = (ts.drop k).all (rightT N)) ∧ Below w.heap.size w wr) (fun _ j _ => n - (intOf j).toNat)
  case atStart => exact ⟨0, Nat.zero_le _, rfl, Lib.hid rfl, Below.refl _ _⟩
  case round =>
    obtain ⟨k, hk, rfl, hx, hB⟩ := hrel
    by_cases hlt : k < n
    · have hkl : k < ts.length := by rw [← HN.out]; exact hlt
      obtain ⟨b, off, a', c', rfl, hb, hc1, hc2, hin⟩ := turnsAt_get (HI.out.below hB) k hkl
      have hd := drop_next ts k hkl
      generalize ts[k] = t at *
      obtain ⟨can, ch⟩ := t
      dsimp only at hc1 hc2 hin
      have hcon := Try.check1_any N h8 B a' can.length c' can ch rfl wr hin (HB0.out.below hB HB0.out.lt)
      have HD := Lib.hid hd
      have HB := Lib.hid hB
      have hki : (k : Int) < (n : Int) := by omega
      have HC := Lib.hid hcon
      clear hd hkl hB hin hcon
      cases hr : rightT N ⟨can, ch⟩ with
      | true =>
        rw [hr] at HC
        have ht : Hid (ts.all (rightT N) = (ts.drop (k + 1)).all (rightT N)) := Lib.hid (by rw [hx.out, HD.out, List.all_cons, hr]; rfl)
        clear hr
        go_wp2_with fail
        refine HC.out.mono ?_
        rintro e w' ⟨rfl, hB2⟩
        have hB3 := HB.out.trans (hB2.mono HB.out.size)
        clear hB2
        go_wp2_with fail
        exact ⟨⟨k + 1, by omega, by go_num, ht, hB3⟩, by simp [intOf]; omega⟩
      | false =>
        rw [hr] at HC
        have ht : Hid (ts.all (rightT N) = false) := Lib.hid (by rw [hx.out, HD.out, List.all_cons, hr]; rfl)
        clear hr
        go_wp2_with fail
        refine HC.out.mono ?_
        rintro e w' ⟨rfl, hB2⟩
        have hB3 := HB.out.trans (hB2.mono HB.out.size)
        clear hB2
        go_wp2_with fail
        go_ret
        exact ⟨(k : Int), rfl, ⟨fun _ => ht.out, fun _ => by omega⟩, hB3⟩
    · obtain rfl : k = n := by omega
      have HB := Lib.hid hB
      clear hB
      go_wp2_with fail
      go_ret
      refine ⟨-1, rfl, ⟨fun h => by omega, fun h => ?_⟩, HB.out⟩
      rw [hx.out, HN.out, List.drop_length] at h
      cases h

theorem Try.containsTurns_any (N : Int) (h8 : N ≤ 8) (B : Nat) (a : Option Addr) (n cap : Nat) (ts : List Tn) (w : World) (hI : TurnsAt w (.slice a n cap) ts) (hb : Rows8 w B 3 #[.int .i64 N]) :
    Calls Try.prog 36 #[.slice a n cap, .func (.func 37) #[] #[.pointer (some ⟨B, 0, none⟩)]] w fun e w' => e = .returned (.bool (!ts.all (rightT N))) ∧ Below w.heap.size w w' := by
  have h := Try.indexTurns_any N h8 B a n cap ts w hI hb
  have H := Lib.hid h
  clear h hI hb
  go_enter Try.func36, Try.ntmps36
  go_wp2_with fail
  refine H.out.mono ?_
  rintro e w' ⟨r, rfl, hr, hB⟩
  have HR : Hid (decide (0 ≤ r) = !ts.all (rightT N)) := Lib.hid (by
    cases h : ts.all (rightT N) with
    | true => rw [h] at hr; simpa using hr
    | false => rw [h] at hr; simpa using hr)
  have HB := Lib.hid hB
  clear hr hB
  go_wp2_with fail
  go_ret
  exact ⟨by rw [← HR.out]; rfl, HB.out⟩
/-- What Check tells. -/
def checkB (N : Int) (ts : List Tn) : Int := if rightB N ts = true then 0 else 140
theorem checkB_eq (N : Int) (ts : List Tn) : (checkB N ts != 0) = !rightB N ts := by
  unfold checkB
  cases rightB N ts <;> rfl

set_option maxHeartbeats 1000000 in
theorem Try.Check_any (N : Int) (a : Option Addr) (n cap : Nat) (ts : List Tn) (w : World) (hI : TurnsAt w (.slice a n cap) ts) :
    Calls Try.prog 19 #[.int .i64 N, .slice a n cap] w fun e w' => e = .returned (.int .i64 (checkB N ts)) ∧ Below w.heap.size w w' := by
  have hB : Below w.heap.size w (w.alloc (.cells #[.int .i64 N] 3)) := (Below.refl _ w).alloc (Nat.le_refl _) _
  by_cases h1 : N < 1
  · have hcb : checkB N ts = 140 := by unfold checkB rightB; rw [decide_eq_false (by omega)]; rfl
    rw [hcb]
    clear hI hcb
    have HB := Lib.hid hB
    clear hB
    go_enter Try.func19, Try.ntmps19
    go_wp2_with fail
    go_ret
    exact ⟨rfl, HB.out⟩
  · by_cases h2 : 8 < N
    · have hcb : checkB N ts = 140 := by unfold checkB rightB; rw [decide_eq_false (by omega)]; rfl
      rw [hcb]
      clear hI hcb
      have HB := Lib.hid hB
      have hd2 := decide_eq_true h2
      clear hB
      go_enter Try.func19, Try.ntmps19
      go_wp2_with fail
      go_ret
      exact ⟨rfl, HB.out⟩
    · have hc := Try.containsTurns_any N (by omega) w.heap.size a n cap ts _ (hI.below hB) (Rows8.new w _ _)
      have hcb : checkB N ts = if ts.all (rightT N) = true then 0 else 140 := by unfold checkB rightB; rw [decide_eq_true (by omega)]; rfl
      rw [hcb]
      have HC := Lib.hid hc
      have HB := Lib.hid hB
      have h3 : ¬ (8 : Int) < N := h2
      clear hI hcb hc hB
      cases hr : ts.all (rightT N) with
      | true =>
        rw [hr] at HC
        rw [if_pos rfl]
        clear hr
        go_enter Try.func19, Try.ntmps19
        go_wp2_with fail
        refine HC.out.mono ?_
        rintro e w' ⟨rfl, hB2⟩
        have HB3 := Lib.hid (HB.out.trans (hB2.mono HB.out.size))
        clear hB2
        go_wp2_with fail
        go_ret
        exact ⟨rfl, HB3.out⟩
      | false =>
        rw [hr] at HC
        rw [if_neg (by decide)]
        clear hr
        go_enter Try.func19, Try.ntmps19
        go_wp2_with fail
        refine HC.out.mono ?_
        rintro e w' ⟨rfl, hB2⟩
        have HB3 := Lib.hid (HB.out.trans (hB2.mono HB.out.size))
        clear hB2
        go_wp2_with fail
        go_ret
        exact ⟨rfl, HB3.out⟩

set_option maxRecDepth 100000 in
set_option maxHeartbeats 2000000 in
theorem Try.Right_any (N : Int) (a : Option Addr) (n cap : Nat) (ts : List Tn) (w : World) (hI : TurnsAt w (.slice a n cap) ts) :
    Calls Try.prog 18 #[.int .i64 N, .slice a n cap] w fun e w' => e = .returned (.bool (rightB N ts)) ∧ Below w.heap.size w w' := by
  obtain ⟨hn, hnc, hcm⟩ := turnsAt_len hI
  have hreach : n ≤ maxLen := by omega
  unfold maxLen at hreach
  have HI := Lib.hid hI
  have HN := Lib.hid hn
  clear hI hn hnc hcm
  go_enter Try.func18, Try.ntmps18
  go_wp2
  go_loopw [6, 9] (fun _ j wr => ∃ k : Nat, k ≤ n ∧ j = .int .i64 k ∧ Hid (ts.all (rightT N) = (ts.drop k).all (rightT N)) ∧ Below w.heap.size w wr) (fun _ j _ => n - (intOf j).toNat)
  case atStart => exact ⟨0, Nat.zero_le _, rfl, Lib.hid rfl, Below.refl _ _⟩
  case round =>
    obtain ⟨k, hk, rfl, hx, hB⟩ := hrel
    by_cases hlt : k < n
    · have hkl : k < ts.length := by rw [← HN.out]; exact hlt
      obtain ⟨b, off, a', c', rfl, hb, hc1, hc2, hin⟩ := turnsAt_get (HI.out.below hB) k hkl
      have hd := drop_next ts k hkl
      generalize ts[k] = t at *
      obtain ⟨can, ch⟩ := t
      dsimp only at hc1 hc2 hin
      have hBn : Below wr.heap.size wr (wr.alloc (.cells #[.slice a' can.length c', .int .i64 ch] 47)) := (Below.refl _ wr).alloc (Nat.le_refl _) _
      have hin1 := RowAt.below hin hBn
      have hcan := Try.refCan_any N a' can.length c' can rfl _ hin1
      have hhas := Try.has_any a' can.length c' can rfl ch _ hin1
      have hB1 := hB.trans (hBn.mono hB.size)
      have HD := Lib.hid hd
      have HB := Lib.hid hB1
      have hki : (k : Int) < (n : Int) := by omega
      clear hd hkl hB hin hBn hin1 hB1
      cases hr : canB N can with
      | true =>
        rw [hr] at hcan
        have HC := Lib.hid hcan
        have hrr : rightT N ⟨can, ch⟩ = decide (ch ∈ can) := by unfold rightT; rw [hr]; rfl
        cases hr2 : decide (ch ∈ can) with
        | true =>
          rw [hr2] at hhas hrr
          have HH := Lib.hid hhas
          have ht : Hid (ts.all (rightT N) = (ts.drop (k + 1)).all (rightT N)) := Lib.hid (by rw [hx.out, HD.out, List.all_cons, hrr]; rfl)
          clear hr hcan hrr hr2 hhas
          go_wp2_with fail
          refine HC.out.mono ?_
          rintro e w' ⟨rfl, rfl⟩
          go_wp2_with fail
          refine HH.out.mono ?_
          rintro e w' ⟨rfl, rfl⟩
          go_wp2_with fail
          exact ⟨⟨k + 1, by omega, by go_num, ht, HB.out⟩, by simp [intOf]; omega⟩
        | false =>
          rw [hr2] at hhas hrr
          have HH := Lib.hid hhas
          have ht : Hid (rightB N ts = false) := Lib.hid (by unfold rightB; rw [hx.out, HD.out, List.all_cons, hrr]; simp)
          clear hr hcan hrr hr2 hhas
          go_wp2_with fail
          refine HC.out.mono ?_
          rintro e w' ⟨rfl, rfl⟩
          go_wp2_with fail
          refine HH.out.mono ?_
          rintro e w' ⟨rfl, rfl⟩
          go_wp2_with fail
          go_ret
          exact ⟨by rw [ht.out]; rfl, HB.out⟩
      | false =>
        rw [hr] at hcan
        have HC := Lib.hid hcan
        have hrr : rightT N ⟨can, ch⟩ = false := by unfold rightT; rw [hr]; rfl
        have ht : Hid (rightB N ts = false) := Lib.hid (by unfold rightB; rw [hx.out, HD.out, List.all_cons, hrr]; simp)
        clear hr hcan hrr hhas
        go_wp2_with fail
        refine HC.out.mono ?_
        rintro e w' ⟨rfl, rfl⟩
        go_wp2_with fail
        go_ret
        exact ⟨by rw [ht.out]; rfl, HB.out⟩
    · obtain rfl : k = n := by omega
      have HB := Lib.hid hB
      have ht : Hid (rightB N ts = decide (1 ≤ N ∧ N ≤ 8)) := Lib.hid (by unfold rightB; rw [hx.out, HN.out, List.drop_length]; simp)
      clear hB
      by_cases h1 : 1 ≤ N
      · have hd1 := decide_eq_true h1
        go_wp2_with fail
        go_ret
        exact ⟨by rw [ht.out]; simp [h1], HB.out⟩
      · have hd1 := decide_eq_false h1
        have hd2 : N < 1 := by omega
        go_wp2_with fail
        go_ret
        exact ⟨by rw [ht.out, decide_eq_false (by omega)]; rfl, HB.out⟩
end Go.Proofs
