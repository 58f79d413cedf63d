/- Same of the reference. -/
import Derived.Test.YtliecdpgajchbaaMy
namespace Go.Proofs
open Go.RowKit Go.Shelf
attribute [local go_sem] Oper.semAt_some

set_option maxRecDepth 100000 in
set_option maxHeartbeats 2000000 in
theorem Try.refSame_any (a1 a2 : Option Addr) (n1 n2 c1 c2 : Nat) (xs ys : List Mx) (w : World) (h1 : MxAt w (.slice a1 n1 c1) xs) (h2 : MxAt w (.slice a2 n2 c2) ys) :
    Calls Try.prog 13 #[.slice a1 n1 c1, .slice a2 n2 c2] w fun e w' => e = .returned (.bool (decide (xs = ys))) ∧ Below w.heap.size w w' := by
  obtain ⟨hx, hnc, hcm⟩ := mxAt_len h1
  obtain ⟨hy, hnc2, hcm2⟩ := mxAt_len h2
  have hreach : n1 ≤ maxLen := by omega
  unfold maxLen at hreach
  have H1 := Lib.hid h1
  have H2 := Lib.hid h2
  have HX := Lib.hid hx
  have HY := Lib.hid hy
  clear h1 h2 hx hy hnc hnc2 hcm hcm2
  by_cases hn : n1 = n2
  · subst hn
    have hd : ((n1 : Int) != (n1 : Int)) = false := by simp
    go_enter Try.func13, Try.ntmps13
    go_wp2
    go_loopw [16] (fun j wr => ∃ k : Nat, k ≤ n1 ∧ j = .int .i64 k ∧ Hid (xs.take k = ys.take k) ∧ Below w.heap.size w wr) (fun j _ => n1 - (intOf j).toNat)
    case atStart => exact ⟨0, Nat.zero_le _, rfl, Lib.hid rfl, Below.refl _ _⟩
    case round =>
      obtain ⟨k, hk, rfl, ht, hB⟩ := hrel
      by_cases hlt : k < n1
      · have hkx : k < xs.length := by rw [← HX.out]; exact hlt
        have hky : k < ys.length := by rw [← HY.out]; exact hlt
        obtain ⟨b1, o1, a3, c3, rfl, hb1, p1, p2, hin1⟩ := mxAt_get (H1.out.below hB) k hkx
        obtain ⟨b2, o2, a4, c4, rfl, hb2, p3, p4, hin2⟩ := mxAt_get (H2.out.below hB) k hky
        have hnext : xs[k] = ys[k] → Hid (xs.take (k + 1) = ys.take (k + 1)) := fun he => Lib.hid (take_eq_nextM ht.out hkx hky he)
        have hfail : ¬ xs[k] = ys[k] → Hid (decide (xs = ys) = false) := fun he => Lib.hid (decide_eq_false (fun e => he (by subst e; rfl)))
        generalize xs[k] = m1 at *
        generalize ys[k] = m2 at *
        obtain ⟨w1, q1⟩ := m1
        obtain ⟨w2, q2⟩ := m2
        dsimp only at p1 p2 p3 p4 hin1 hin2
        obtain ⟨l1, hl1⟩ : ∃ l, l = q1.length := ⟨_, rfl⟩
        obtain ⟨l2, hl2⟩ : ∃ l, l = q2.length := ⟨_, rfl⟩
        rw [← hl1] at p2 hin1
        rw [← hl2] at p4 hin2
        have hlb := (ints_len hin1).2
        have hl163 : l1 ≤ maxLen := by omega
        unfold maxLen at hl163
        have hki : (k : Int) < (n1 : Int) := by omega
        obtain ⟨we, rfl⟩ : ∃ x, x = wr := ⟨_, rfl⟩
        have HN := Lib.hid hnext
        have HF := Lib.hid hfail
        have HB := Lib.hid hB
        have HI1 := Lib.hid hin1
        have HI2 := Lib.hid hin2
        have HL1 := Lib.hid hl1
        have HL2 := Lib.hid hl2
        clear hnext hfail hB hin1 hin2 hkx hky ht hl1 hl2 hlb
        go_wp2
        obtain ⟨W1, hW1⟩ : ∃ W1, W1 = we.alloc (.cells #[.int .i64 w1, .slice a3 l1 c3] 53) := ⟨_, rfl⟩
        rw [← hW1]
        have hB1 : Below we.heap.size we W1 := by rw [hW1]; exact Rows8.newB
        have r1 : Rows8 W1 we.heap.size 53 #[.int .i64 w1, .slice a3 l1 c3] := by rw [hW1]; exact Rows8.new _ _ _
        have x1 : W1.cell? ⟨we.heap.size, 0, none⟩ = some (.int .i64 w1) := r1.cell 0
        have x2 : W1.cell? ⟨we.heap.size, 1, none⟩ = some (.slice a3 l1 c3) := r1.cell 1
        have p1' := (hB1.cell (p := ⟨b2, o2 + k * 2, none⟩) hb2).trans p3
        have p2' := (hB1.cell (p := ⟨b2, o2 + k * 2 + 1, none⟩) hb2).trans p4
        have HB1 := Lib.hid (HB.out.trans (hB1.mono HB.out.size))
        have HI1' := Lib.hid (RowAt.below HI1.out hB1)
        have HI2' := Lib.hid (RowAt.below HI2.out hB1)
        clear hW1 hB1 r1 p1 p2 p3 p4 HB HI1 HI2
        by_cases hw : w1 = w2
        · subst hw
          have hq0 : (w1 != w1) = false := by simp
          by_cases hl : l1 = l2
          · subst hl
            have hq1 : ((l1 : Int) != (l1 : Int)) = false := by simp
            go_quiet (fail)
            go_wp2
            go_loop [44] (fun j => ∃ i : Nat, i ≤ l1 ∧ j = .int .i64 i ∧ Hid (q1.take i = q2.take i)) (fun j => l1 - (intOf j).toNat)
            case atStart => exact ⟨0, Nat.zero_le _, rfl, Lib.hid rfl⟩
            case round =>
              obtain ⟨i, hi, rfl, hti⟩ := hrel
              by_cases hil : i < l1
              · have hi1 : i < q1.length := by rw [← HL1.out]; exact hil
                have hi2 : i < q2.length := by rw [← HL2.out]; exact hil
                obtain ⟨b3, o3, rfl, hb3, e1⟩ := intsAt_get HI1'.out i hi1
                obtain ⟨b4, o4, rfl, hb4, e2⟩ := intsAt_get HI2'.out i hi2
                rw [getD_int q1 i hi1] at e1
                rw [getD_int q2 i hi2] at e2
                have hii : (i : Int) < (l1 : Int) := by omega
                have hnx : q1[i] = q2[i] → Hid (q1.take (i + 1) = q2.take (i + 1)) := fun he => Lib.hid (by rw [List.take_succ_eq_append_getElem hi1, List.take_succ_eq_append_getElem hi2, hti.out, he])
                have hfl : ¬ q1[i] = q2[i] → Hid (decide (xs = ys) = false) := fun he => HF.out (fun e => he (by injection e with _ e2; subst e2; rfl))
                have HNX := Lib.hid hnx
                have HFL := Lib.hid hfl
                generalize q1[i] = z1 at *
                generalize q2[i] = z2 at *
                clear hnx hfl hi1 hi2 hti
                by_cases he : z1 = z2
                · have hn2 := HNX.out he
                  have hq : (z1 != z2) = false := by simp [he]
                  clear he
                  go_wp2
                  go_round
                  case rel => exact ⟨i + 1, by omega, by go_num, hn2⟩
                  case measure => simp [intOf]; omega
                · have hn2 := HFL.out he
                  have hq : (z1 != z2) = true := by simp [he]
                  clear he
                  go_wp2
                  go_ret
                  exact ⟨by rw [hn2.out]; rfl, HB1.out.trans ⟨rfl, rfl, rfl, Nat.le_refl _, fun _ _ => rfl⟩⟩
              · obtain rfl : i = l1 := by omega
                have hn2 := HN.out (by
                  have h := hti.out
                  rw [List.take_of_length_le (Nat.le_of_eq HL1.out.symm), List.take_of_length_le (Nat.le_of_eq HL2.out.symm)] at h
                  rw [h])
                go_wp2
                exact ⟨⟨k + 1, by omega, by go_num, hn2, HB1.out.trans ⟨rfl, rfl, rfl, Nat.le_refl _, fun _ _ => rfl⟩⟩, by simp [intOf]; omega⟩
          · have hq1 : ((l1 : Int) != (l2 : Int)) = true := by simp; omega
            have hn2 := HF.out (fun e => hl (by injection e with _ e2; rw [HL1.out, HL2.out, e2]))
            go_quiet (fail)
            go_wp2
            go_ret
            exact ⟨by rw [hn2.out]; rfl, HB1.out.trans ⟨rfl, rfl, rfl, Nat.le_refl _, fun _ _ => rfl⟩⟩
        · have hq0 : (w1 != w2) = true := by simp [hw]
          have hn2 := HF.out (fun e => hw (by injection e))
          clear hw
          go_quiet (fail)
          go_wp2
          go_ret
          exact ⟨by rw [hn2.out]; rfl, HB1.out.trans ⟨rfl, rfl, rfl, Nat.le_refl _, fun _ _ => rfl⟩⟩
      · obtain rfl : k = n1 := by omega
        have hq : Hid (decide (xs = ys) = true) := Lib.hid (by
          refine decide_eq_true ?_
          have ht' := ht.out
          rwa [List.take_of_length_le (Nat.le_of_eq HX.out.symm), List.take_of_length_le (Nat.le_of_eq HY.out.symm)] at ht')
        go_wp2
        go_ret
        exact ⟨by rw [hq.out]; rfl, hB⟩
  · have hd : ((n1 : Int) != (n2 : Int)) = true := by simp; omega
    have hq : Hid (decide (xs = ys) = false) := Lib.hid (decide_eq_false (fun h => hn (by rw [HX.out, HY.out, h])))
    go_enter Try.func13, Try.ntmps13
    go_wp2
    go_ret
    exact ⟨by rw [hq.out]; rfl, Below.refl _ _⟩
end Go.Proofs
