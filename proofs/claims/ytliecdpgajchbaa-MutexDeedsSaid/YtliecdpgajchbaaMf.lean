/- Same, of the program and of the reference. -/
import Derived.Test.YtliecdpgajchbaaMe
namespace Go.Proofs
open Go.RowKit Go.Shelf
attribute [local go_sem] Oper.semAt_some

theorem qlen_le (ms : List Mx) (k : Nat) (h : k < ms.length) : (ms[k]).q.length ≤ (flatQ ms).length := by
  have e : flatQ ms = flatQ (ms.take k) ++ ((ms[k]).q ++ flatQ (ms.drop (k + 1))) := by
    unfold flatQ
    rw [← List.flatMap_cons, ← drop_next ms k h, ← List.flatMap_append, List.take_append_drop]
  rw [e, List.length_append, List.length_append]
  omega
theorem take_eq_nextM {xs ys : List Mx} {k : Nat} (h : xs.take k = ys.take k) (hx : k < xs.length) (hy : k < ys.length) (he : xs[k] = ys[k]) : xs.take (k + 1) = ys.take (k + 1) := by
  rw [List.take_succ_eq_append_getElem hx, List.take_succ_eq_append_getElem hy, h, he]

set_option maxRecDepth 100000 in
set_option maxHeartbeats 1000000 in
theorem Try.same1_any (a1 a2 : Option Addr) (n1 n2 c1 c2 : Nat) (o1 o2 : Int) (xs ys : List Int) (hx : n1 = xs.length) (hy : n2 = ys.length) (hl : n1 ≤ 10000) (hl2 : n2 ≤ 10000) (w : World) (h1 : IntsAt w (.slice a1 n1 c1) xs) (h2 : IntsAt w (.slice a2 n2 c2) ys) :
    Calls Try.prog 36 #[.agg #[.int .i64 o1, .slice a1 n1 c1], .agg #[.int .i64 o2, .slice a2 n2 c2]] w fun e w' => e = .returned (.bool (decide ((⟨o1, xs⟩ : Mx) = ⟨o2, ys⟩))) ∧ Below w.heap.size w w' := by
  have hB : Below w.heap.size w ((w.alloc (.cells #[.int .i64 o1, .slice a1 n1 c1] 53)).alloc (.cells #[.int .i64 o2, .slice a2 n2 c2] 53)) := (Rows8.newB).alloc (by simp) _
  have hE := Try.equalInts_any a1 a2 n1 n2 c1 c2 xs ys hx hy hl hl2 _ (RowAt.below h1 hB) (RowAt.below h2 hB)
  have hd : decide ((⟨o1, xs⟩ : Mx) = ⟨o2, ys⟩) = ((o1 == o2) && decide (xs = ys)) := by
    rw [Bool.eq_iff_iff]
    simp
  have HB := Lib.hid hB
  have HE := Lib.hid hE
  rw [hd]
  clear hB hE hd h1 h2 hx hy
  generalize decide (xs = ys) = r at *
  cases he : (o1 == o2) with
  | false =>
    go_enter Try.func36, Try.ntmps36
    go_wp2_with fail
    go_ret
    exact ⟨rfl, HB.out⟩
  | true =>
    go_enter Try.func36, Try.ntmps36
    go_wp2_with fail
    refine HE.out.mono ?_
    rintro e w' ⟨rfl, hB2⟩
    have HB2 := Lib.hid (HB.out.trans (hB2.mono HB.out.size))
    clear hB2
    go_wp2_with fail
    go_ret
    exact ⟨rfl, HB2.out⟩

set_option maxRecDepth 100000 in
set_option maxHeartbeats 2000000 in
theorem Try.equalFunc_any (a1 a2 : Option Addr) (n1 n2 c1 c2 : Nat) (xs ys : List Mx) (hs : (flatQ xs).length ≤ 10000) (hs2 : (flatQ ys).length ≤ 10000) (w : World) (h1 : MxAt w (.slice a1 n1 c1) xs) (h2 : MxAt w (.slice a2 n2 c2) ys) :
    Calls Try.prog 35 #[.slice a1 n1 c1, .slice a2 n2 c2, .func (.func 36) #[] #[]] w fun e w' => e = .returned (.bool (decide (xs = ys))) ∧ Below w.heap.size w w' := by
  obtain ⟨hx, hnc, hcm⟩ := mxAt_len h1
  obtain ⟨hy, hnc2, hcm2⟩ := mxAt_len h2
  have hreach : n1 ≤ maxLen := by omega
  unfold maxLen at hreach
  have hcall := Try.same1_any
  have HCALL := Lib.hid hcall
  have H1 := Lib.hid h1
  have H2 := Lib.hid h2
  have HX := Lib.hid hx
  have HY := Lib.hid hy
  have HS := Lib.hid hs
  have HS2 := Lib.hid hs2
  clear h1 h2 hx hy hnc hnc2 hcm hcm2 hcall hs hs2
  by_cases hn : n1 = n2
  · subst hn
    have hd : ((n1 : Int) != (n1 : Int)) = false := by simp
    go_enter Try.func35, Try.ntmps35
    go_wp2
    go_loopw [17] (fun j wr => ∃ k : Nat, k ≤ n1 ∧ j = .int .i64 k ∧ Hid (xs.take k = ys.take k) ∧ Below w.heap.size w wr) (fun j _ => n1 - (intOf j).toNat)
    case atStart => exact ⟨0, Nat.zero_le _, rfl, Lib.hid rfl, Below.refl _ _⟩
    case round =>
      obtain ⟨k, hk, rfl, ht, hB⟩ := hrel
      by_cases hlt : k < n1
      · have hkx : k < xs.length := by rw [← HX.out]; exact hlt
        have hky : k < ys.length := by rw [← HY.out]; exact hlt
        obtain ⟨b1, o1, a3, c3, rfl, hb1, p1, p2, hin1⟩ := mxAt_get (H1.out.below hB) k hkx
        obtain ⟨b2, o2, a4, c4, rfl, hb2, p3, p4, hin2⟩ := mxAt_get (H2.out.below hB) k hky
        have hq1 := qlen_le xs k hkx
        have hq2 := qlen_le ys k hky
        have hs1 := HS.out
        have hs2 := HS2.out
        have hnext : xs[k] = ys[k] → Hid (xs.take (k + 1) = ys.take (k + 1)) := fun he => Lib.hid (take_eq_nextM ht.out hkx hky he)
        have hfail : ¬ xs[k] = ys[k] → Hid (decide (xs = ys) = false) := fun he => Lib.hid (decide_eq_false (fun e => he (by subst e; rfl)))
        generalize xs[k] = m1 at *
        generalize ys[k] = m2 at *
        obtain ⟨w1, q1⟩ := m1
        obtain ⟨w2, q2⟩ := m2
        dsimp only at p1 p2 p3 p4 hin1 hin2 hq1 hq2
        obtain ⟨l1, l1', rfl⟩ : ∃ l, ∃ _ : l = q1.length, l = q1.length := ⟨_, rfl, rfl⟩
        obtain ⟨l2, l2', rfl⟩ : ∃ l, ∃ _ : l = q2.length, l = q2.length := ⟨_, rfl, rfl⟩
        have hki : (k : Int) < (n1 : Int) := by omega
        have HN := Lib.hid hnext
        have HF := Lib.hid hfail
        have HB := Lib.hid hB
        have HI1 := Lib.hid hin1
        have HI2 := Lib.hid hin2
        have hl1 : q1.length ≤ 10000 := by omega
        have hl2 : q2.length ≤ 10000 := by omega
        have HL1 := Lib.hid hl1
        have HL2 := Lib.hid hl2
        clear hnext hfail hB hin1 hin2 hq1 hq2 hs1 hs2 hkx hky ht hl1 hl2
        go_wp2_with fail
        have hB1 : Below wr.heap.size wr ((wr.alloc (.cells #[.int .i64 w1, .slice a3 q1.length c3] 53)).alloc (.cells #[.int .i64 w2, .slice a4 q2.length c4] 53)) := (Rows8.newB).alloc (by simp) _
        refine (HCALL.out a3 a4 q1.length q2.length c3 c4 w1 w2 q1 q2 rfl rfl HL1.out HL2.out _ (RowAt.below HI1.out hB1) (RowAt.below HI2.out hB1)).mono ?_
        rintro e w' ⟨rfl, hB2⟩
        have HB2 := Lib.hid (HB.out.trans ((hB1.trans (hB2.mono hB1.size)).mono HB.out.size))
        clear hB1 hB2
        by_cases he : (⟨w1, q1⟩ : Mx) = ⟨w2, q2⟩
        · have hn := HN.out he
          rw [decide_eq_true he]
          clear he
          go_wp2_with fail
          exact ⟨⟨k + 1, by omega, by go_num, hn, HB2.out⟩, by simp [intOf]; omega⟩
        · have hn := HF.out he
          rw [decide_eq_false he]
          clear he
          go_wp2_with fail
          go_ret
          exact ⟨by rw [hn.out]; rfl, HB2.out⟩
      · obtain rfl : k = n1 := by omega
        have hq : Hid (decide (xs = ys) = true) := Lib.hid (by
          refine decide_eq_true ?_
          have ht' := ht.out
          rwa [List.take_of_length_le (Nat.le_of_eq HX.out.symm), List.take_of_length_le (Nat.le_of_eq HY.out.symm)] at ht')
        go_wp2_with fail
        go_ret
        exact ⟨by rw [hq.out]; rfl, hB⟩
  · have hd : ((n1 : Int) != (n2 : Int)) = true := by simp; omega
    have hq : Hid (decide (xs = ys) = false) := Lib.hid (decide_eq_false (fun h => hn (by rw [HX.out, HY.out, h])))
    go_enter Try.func35, Try.ntmps35
    go_wp2
    go_ret
    exact ⟨by rw [hq.out]; rfl, Below.refl _ _⟩

theorem Try.same_any (a1 a2 : Option Addr) (n1 n2 c1 c2 : Nat) (xs ys : List Mx) (hs : (flatQ xs).length ≤ 10000) (hs2 : (flatQ ys).length ≤ 10000) (w : World) (h1 : MxAt w (.slice a1 n1 c1) xs) (h2 : MxAt w (.slice a2 n2 c2) ys) :
    Calls Try.prog 12 #[.slice a1 n1 c1, .slice a2 n2 c2] w fun e w' => e = .returned (.bool (decide (xs = ys))) ∧ Below w.heap.size w w' := by
  have h := Try.equalFunc_any a1 a2 n1 n2 c1 c2 xs ys hs hs2 w h1 h2
  have H := Lib.hid h
  clear h h1 h2
  generalize decide (xs = ys) = r at *
  go_enter Try.func12, Try.ntmps12
  go_wp2_with fail
  refine H.out.mono ?_
  rintro e w' ⟨rfl, hB⟩
  have HB := Lib.hid hB
  clear hB
  go_wp2_with fail
  go_ret
  exact ⟨rfl, HB.out⟩
end Go.Proofs
