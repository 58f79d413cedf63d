/- pdqsort of fewer than fifty words. -/
import Derived.Test.YtobomgedghbflaaVm
import Derived.Test.YtobomgedghbflaaVn
import Derived.Test.YtobomgedghbflaaVg
import Derived.Test.YtobomgedghbflaaVf
import Derived.Test.YtobomgedghbflaaVh
import Derived.Test.YtobomgedghbflaaVj
import Derived.Test.YtobomgedghbflaaVk
import Derived.Test.YtobomgedghbflaaVd
import Derived.Sort.Walk13a
import Derived.Sort.LotD3
import Derived.Deep.Cut
namespace Go.Proofs
open Go.RowKit Go.Shelf
attribute [local go_sem] Oper.semAt_some

theorem partialIns_few {d : Array Int} {a b : Nat} (h : b - a < 50) : Sort.partialInsertionSort ltB d a b = (d, decide (Sort.scanSorted ltB d b (a + 1) = b)) := by
  unfold Sort.partialInsertionSort Sort.partialIns
  dsimp only
  split
  · rename_i e; rw [e]; simp
  · rename_i e; (try rw [if_pos h]); simp [e]
theorem hintI_two {h : Sort.Hint} (e : hintI h = 2) : h = .decreasing := by cases h <;> simp [hintI] at e ⊢
theorem pdq_any8 : Sort.pdq_stmt ltB := Sort.pdq_holds Sort.insertionSort_holds Sort.heapSort_holds Sort.partialInsertionSort_holds (Sort.partition_holds _) (Sort.partitionEqual_holds _) Sort.reverseRange_holds
theorem eighth8 {x y p q : Nat} (h1 : q ≤ p) (h2 : y ≤ x) : decide (((x : Int) - (y : Int)) / 8 ≤ (p : Int) - (q : Int)) = decide (p - q ≥ (x - y) / 8) :=
  decide_eq_decide.2 ⟨fun h => by omega, fun h => by omega⟩
set_option maxRecDepth 1000000 in
set_option maxHeartbeats 6400000 in
theorem Try.pdqsort_any (B cap n cp : Nat) (hn : n < 50) : ∀ (N a b limit : Nat) (d : Array Int) (w : World), b - a < N → d.size = n → a ≤ b → b ≤ n → limit ≤ 1000 → Sort.Below ltB a b d → SRow w B cap d →
    Calls Try.prog 16 #[.slice (some ⟨B, 0, none⟩) n cp, .int .i64 (a : Int), .int .i64 (b : Int), .int .i64 (limit : Int)] w
      fun e w' => e = .returned (.tuple #[]) ∧ SRow w' B cap (Sort.pdq ltB d a b limit true true) ∧ w.grownBy w' (some B) := by
  intro N
  induction N with
  | zero => intro _ _ _ _ _ h; exact absurd h (Nat.not_lt_zero _)
  | succ N ih =>
    intro a b limit d w hN hd hab hb hlimit hBel0 hS0
    go_enter Try.func16, Try.ntmps16
    go_wp2
    go_loopg [1, 2, 3, 8, 9] (b - a) (fun k s1 s2 s3 s8 s9 wr => ∃ (a' b' lim : Nat) (wb wp : Bool) (dk : Array Int), s1 = .int .i64 (a' : Int) ∧ s2 = .int .i64 (b' : Int) ∧ s3 = .int .i64 (lim : Int) ∧ s8 = .bool wb ∧ s9 = .bool wp ∧
      a' ≤ b' ∧ b' ≤ n ∧ b' - a' ≤ k ∧ k ≤ b - a ∧ lim ≤ 1000 ∧ dk.size = n ∧ Hid (Sort.Below ltB a' b' dk) ∧ Hid (SRow wr B cap dk) ∧ Hid (w.grownBy wr (some B)) ∧ Hid (Sort.pdq ltB dk a' b' lim wb wp = Sort.pdq ltB d a b limit true true))
    case atStart => exact ⟨a, b, limit, true, true, d, rfl, rfl, rfl, rfl, rfl, hab, hb, Nat.le_refl _, Nat.le_refl _, hlimit, hd, Lib.hid hBel0, Lib.hid hS0, Lib.hid (World.grownBy.refl _ _), Lib.hid rfl⟩
    case round =>
      obtain ⟨a', b', lim, wb, wp, dk, rfl, rfl, rfl, rfl, rfl, hab', hb', hk, hkN, hlim, hds, hBel, hS, hG, A⟩ := hrel
      clear hBel0 hS0
      by_cases h12 : b' - a' ≤ 12
      · have h12z : (b' : Int) - (a' : Int) ≤ 12 := by omega
        have hc := Try.insertionSort_any B cap a' b' n cp dk (by omega) hds.symm hab' hb' wr hS.out
        go_wp2_with (go_at_call 29; refine hc.mono ?_; rintro e w1 ⟨rfl, hw1, hg1⟩)
        (try simp only [Exit.inBlock, Exit.then]); refine bodyPost_ret (results_none rfl _ _ _) rfl ?_
        exact ⟨rfl, by rw [← A.out, Sort.pdq_small h12]; exact hw1, hG.out.trans hg1⟩
      · have h12z : ¬ ((b' : Int) - (a' : Int) ≤ 12) := by omega
        by_cases hl0 : lim = 0
        · subst hl0
          have hc := Try.heapSort_any B cap a' b' n cp dk (by omega) hds.symm (by omega) hb' wr hS.out
          go_wp2_with (go_at_call 30; refine hc.mono ?_; rintro e w1 ⟨rfl, hw1, hg1⟩)
          (try simp only [Exit.inBlock, Exit.then]); refine bodyPost_ret (results_none rfl _ _ _) rfl ?_
          exact ⟨rfl, by rw [← A.out, Sort.pdq_heap h12 rfl]; exact hw1, hG.out.trans hg1⟩
        · have hl0z : ¬ ((lim : Int) = 0) := by omega
          obtain ⟨s1, B1, hc1, s2, B2, hpv, s3, B3⟩ := Sort.rd_facts (limit := lim) (wb := wb) (wp := wp) swo_ltB Sort.partialInsertionSort_holds Sort.reverseRange_holds (show a' < b' by omega) (show b' ≤ dk.size by omega) hBel.out
          have HB3 := Lib.hid B3
          clear B1 B2 B3
          go_upto_if 35 with fail
          go_cut [3] from 19 (fun s3 wc => s3 = .int .i64 ((Sort.rd ltB dk a' b' lim wb wp).lim : Int) ∧ Hid (SRow wc B cap (Sort.rd ltB dk a' b' lim wb wp).d1) ∧ Hid (w.grownBy wc (some B)))
          case first =>
            cases wb
            · obtain ⟨L, rfl⟩ : ∃ L, b' = a' + L := ⟨b' - a', by omega⟩
              have hc := Try.breakPatterns_any B cap a' L n cp dk (by omega) hds.symm (by omega) hb' wr hS.out
              go_wp2_with (go_at_call 31; refine hc.mono ?_; rintro e w1 ⟨rfl, hw1, hg1⟩)
              go_meet
              case rel =>
                refine ⟨?_, Lib.hid hw1, Lib.hid (hG.out.trans hg1)⟩
                show Value.int .i64 ((lim : Int) - 1) = Value.int .i64 ((lim - 1 : Nat) : Int)
                congr 1
                omega
            · go_wp2_with fail
              go_meet
              case rel => exact ⟨rfl, hS, hG⟩
          case rest =>
            obtain ⟨rfl, hS1, hG1⟩ := hcut
            have hc2 := Try.choosePivot_any B cap a' b' n cp (Sort.rd ltB dk a' b' lim wb wp).d1 (by omega) (by omega) hb' (by omega) (by omega) wc hS1.out
            rw [← Sort.rd_c] at hc2
            go_upto_if 50 with (go_at_call 32; refine hc2.mono ?_; rintro e w2 ⟨rfl, hw2, hg2⟩)
            have hS2 := Lib.hid hw2
            have hG2 := Lib.hid (hG1.out.trans hg2)
            clear hS1 hG1 hc2 hg2 hw2
            go_cut [11, 12] from 19 (fun s11 s12 wc => s11 = .int .i64 ((Sort.rd ltB dk a' b' lim wb wp).pivot : Int) ∧ s12 = .int .i64 (hintI (Sort.rd ltB dk a' b' lim wb wp).hint) ∧ Hid (SRow wc B cap (Sort.rd ltB dk a' b' lim wb wp).d2) ∧ Hid (w.grownBy wc (some B)))
            case first =>
              by_cases hh : (Sort.rd ltB dk a' b' lim wb wp).c.2 = .decreasing
              · have hcode : hintI (Sort.rd ltB dk a' b' lim wb wp).c.2 = 2 := by rw [hh]; rfl
                obtain ⟨e2, epv, eht⟩ := Sort.rd_dec hh
                have hc3 := Try.reverseRange_any B cap a' b' n cp (Sort.rd ltB dk a' b' lim wb wp).d1 (by omega) (by omega) (by omega) hb' w2 hS2.out
                go_wp2_with (go_at_call 33; refine hc3.mono ?_; rintro e w3 ⟨rfl, hw3, hg3⟩)
                go_meet
                case rel =>
                  refine ⟨?_, by rw [eht]; rfl, Lib.hid (by rw [e2]; exact hw3), Lib.hid (hG2.out.trans hg3)⟩
                  rw [epv]
                  congr 1
                  omega
              · have hcode : ¬ (hintI (Sort.rd ltB dk a' b' lim wb wp).c.2 = 2) := fun h => hh (hintI_two h)
                obtain ⟨e2, epv, eht⟩ := Sort.rd_not hh
                go_wp2_with fail
                go_meet
                case rel => exact ⟨by rw [epv], by rw [eht], by rw [e2]; exact hS2, hG2⟩
            case rest =>
              obtain ⟨rfl, rfl, hS3, hG3⟩ := hcut
              clear hS2 hG2
              go_upto_region 15 with fail
              go_cut [12, 68] from 19 (fun s12 s68 wx => s12 = .int .i64 (hintI (Sort.rd ltB dk a' b' lim wb wp).hint) ∧ s68 = .bool (wb && wp && decide ((Sort.rd ltB dk a' b' lim wb wp).hint = .increasing)) ∧ wx = wc)
              case first =>
                cases wb <;> cases wp <;> cases hh3 : (Sort.rd ltB dk a' b' lim _ _).hint <;>
                  (have hcode3 := congrArg hintI hh3
                   simp only [hintI] at hcode3
                   go_wp2_with fail
                   go_meet
                   exact ⟨by simp [hh3, hintI], by simp [hh3, hintI], rfl⟩)
              case rest =>
                obtain ⟨rfl, rfl, rfl⟩ := hcut
                go_upto_if 68 with fail
                go_cut [] from 19 (fun wx => (Sort.rd ltB dk a' b' lim wb wp).pi.2 = false ∧ Hid (SRow wx B cap (Sort.rd ltB dk a' b' lim wb wp).pi.1) ∧ Hid (w.grownBy wx (some B)))
                case first =>
                  cases h68 : (wb && wp && decide ((Sort.rd ltB dk a' b' lim wb wp).hint = .increasing))
                  · have epi := Sort.rd_pi_no h68
                    go_wp2_with fail
                    go_meet
                    case rel => exact ⟨by rw [epi], by rw [epi]; exact hS3, hG3⟩
                  · have epi := Sort.rd_pi_yes h68
                    have hc4 := Try.partialIns_any B cap a' b' n cp (Sort.rd ltB dk a' b' lim wb wp).d2 (by omega) (by omega) (by omega) hb' (by omega) wc hS3.out
                    rw [partialIns_few (by omega)] at epi
                    have epi1 : (Sort.rd ltB dk a' b' lim wb wp).pi.1 = (Sort.rd ltB dk a' b' lim wb wp).d2 := by rw [epi]
                    have epi2 : decide (Sort.scanSorted ltB (Sort.rd ltB dk a' b' lim wb wp).d2 b' (a' + 1) = b') = (Sort.rd ltB dk a' b' lim wb wp).pi.2 := by rw [epi]
                    rw [epi2, ← epi1] at hc4
                    rw [← epi1] at hS3
                    clear epi epi1 epi2
                    cases hp2 : (Sort.rd ltB dk a' b' lim wb wp).pi.2 with
                    | false =>
                      rw [hp2] at hc4
                      go_wp2_with (go_at_call 34; refine hc4.mono ?_; rintro e w4 ⟨rfl, hw4, hg4⟩)
                      go_meet
                      exact ⟨hp2, Lib.hid hw4, Lib.hid (hG3.out.trans hg4)⟩
                    | true =>
                      rw [hp2] at hc4
                      go_wp2_with (go_at_call 34; refine hc4.mono ?_; rintro e w4 ⟨rfl, hw4, hg4⟩)
                      (try simp only [Exit.inBlock, Exit.then]); refine bodyPost_ret (results_none rfl _ _ _) rfl ?_
                      exact ⟨rfl, by rw [← A.out, Sort.pdq_done h12 hl0 hp2]; exact hw4, hG3.out.trans hg4⟩
                case rest =>
                  obtain ⟨hp2, hS5, hG5⟩ := hcut
                  clear hS3 hG3
                  have e1 : 0 < a' → wc.cell? ⟨B, a' - 1, none⟩ = some (.int .u64 (Sort.rd ltB dk a' b' lim wb wp).pi.1[a' - 1]!) := fun _ => hS5.out.cell _ (by omega)
                  have e2 := hS5.out.cell (Sort.rd ltB dk a' b' lim wb wp).pivot (by omega)
                  have f1 := hS5.out.frozen (a' - 1)
                  have f2 := hS5.out.frozen (Sort.rd ltB dk a' b' lim wb wp).pivot
                  have hl := fun w => Try.less_any (Sort.rd ltB dk a' b' lim wb wp).pi.1[a' - 1]! (Sort.rd ltB dk a' b' lim wb wp).pi.1[(Sort.rd ltB dk a' b' lim wb wp).pivot]! w
                  go_upto_region 17 with fail
                  go_cut [87] from 19 (fun s87 wx => s87 = .bool (decide (a' > 0) && !ltB (Sort.rd ltB dk a' b' lim wb wp).pi.1[a' - 1]! (Sort.rd ltB dk a' b' lim wb wp).pi.1[(Sort.rd ltB dk a' b' lim wb wp).pivot]!) ∧ Hid (SRow wx B cap (Sort.rd ltB dk a' b' lim wb wp).pi.1) ∧ Hid (w.grownBy wx (some B)))
                  case first =>
                    rcases Nat.eq_zero_or_pos a' with ha0 | ha0
                    · have ha0z : decide ((a' : Int) > 0) = false := decide_eq_false (by omega)
                      go_quiet (first | (go_at_call 35; refine quiet_same (hl _)))
                      go_wp2_with fail
                      go_meet
                      case rel => exact ⟨by simp [ha0], Lib.hid (hS5.out.drewN _), Lib.hid (hG5.out.trans (grown_drewN _ _ _))⟩
                    · have ha0z : (a' : Int) > 0 := by omega
                      have e1 := e1 ha0
                      have k1 : (a' : Int) - 1 < (n : Int) := by omega
                      have k2 : ((Sort.rd ltB dk a' b' lim wb wp).pivot : Int) < (n : Int) := by omega
                      go_quiet (first | (go_at_call 35; refine quiet_same (hl _)))
                      go_wp2_with fail
                      go_meet
                      case rel => exact ⟨by simp [ha0], Lib.hid (hS5.out.drewN _), Lib.hid (hG5.out.trans (grown_drewN _ _ _))⟩
                  case rest =>
                    obtain ⟨rfl, hS6, hG6⟩ := hcut
                    clear e1 e2 f1 f2 hl hS5 hG5
                    cases h87 : (decide (a' > 0) && !ltB (Sort.rd ltB dk a' b' lim wb wp).pi.1[a' - 1]! (Sort.rd ltB dk a' b' lim wb wp).pi.1[(Sort.rd ltB dk a' b' lim wb wp).pivot]!)
                    · obtain ⟨mid, ap, d4, hx⟩ : ∃ mid ap d4, Sort.partition ltB (Sort.rd ltB dk a' b' lim wb wp).pi.1 a' b' (Sort.rd ltB dk a' b' lim wb wp).pivot = (mid, ap, d4) := ⟨_, _, _, rfl⟩
                      obtain ⟨r1, r2, r3, r4, r5, r6, r7⟩ := Sort.round_part swo_ltB (Sort.partition_holds _) hpv.1 hpv.2 (show b' ≤ (Sort.rd ltB dk a' b' lim wb wp).pi.1.size by omega) HB3.out hx
                      have hc7 := Try.partition_any B cap a' b' (Sort.rd ltB dk a' b' lim wb wp).pivot n cp (Sort.rd ltB dk a' b' lim wb wp).pi.1 (by omega) (by omega) (by omega) hb' hpv.1 hpv.2 wc hS6.out
                      rw [hx] at hc7
                      have X := Lib.hid hx
                      have R6 := Lib.hid r6
                      have R7 := Lib.hid r7
                      have R4 := Lib.hid r4
                      have R5 := Lib.hid r5
                      clear hx r4 r5 r6 r7
                      go_upto_if 113 with (go_at_call 37; refine hc7.mono ?_; rintro e w7 ⟨rfl, hw7, hg7⟩)
                      have hS7 := Lib.hid hw7
                      have hG7 := Lib.hid (hG6.out.trans hg7)
                      clear hw7 hg7 hS6 hG6 hc7
                      by_cases h4 : mid - a' < b' - mid
                      · have h4z : (mid : Int) - (a' : Int) < (b' : Int) - (mid : Int) := by omega
                        have hih := ih a' mid (Sort.rd ltB dk a' b' lim wb wp).lim d4 w7 (by omega) (by omega) (by omega) (by omega) (Nat.le_trans Sort.rd_lim_le hlim) R4.out hS7.out
                        obtain ⟨pL, sL⟩ := pdq_any8 swo_ltB d4 a' mid (Sort.rd ltB dk a' b' lim wb wp).lim true true (by omega) (by omega) R4.out
                        have zL := pL.1
                        have BL := Lib.hid (R6.out _ pL sL).1
                        clear pL sL
                        go_wp2_with (go_at_call 16; refine hih.mono ?_; rintro e w8 ⟨rfl, hw8, hg8⟩)
                        go_roundg (b' - (mid + 1))
                        case measure => omega
                        case rel =>
                          refine ⟨mid + 1, b', (Sort.rd ltB dk a' b' lim wb wp).lim, decide (mid - a' ≥ (b' - a') / 8), ap, Sort.pdq ltB d4 a' mid (Sort.rd ltB dk a' b' lim wb wp).lim true true, by simp, rfl, rfl, ?_, rfl, by omega, by omega, Nat.le_refl _, by omega, Nat.le_trans Sort.rd_lim_le hlim, by omega, BL, Lib.hid hw8, Lib.hid (hG7.out.trans hg8), ?_⟩
                          · exact congrArg Value.bool (eighth8 (by omega) (by omega))
                          · exact Lib.hid (by rw [← A.out, Sort.pdq_left h12 hl0 hp2 h87 (by rw [X.out]; exact ⟨r1, r2⟩) (by rw [X.out]; exact h4), X.out])
                      · have h4z : ¬ ((mid : Int) - (a' : Int) < (b' : Int) - (mid : Int)) := by omega
                        have hih := ih (mid + 1) b' (Sort.rd ltB dk a' b' lim wb wp).lim d4 w7 (by omega) (by omega) (by omega) (by omega) (Nat.le_trans Sort.rd_lim_le hlim) R5.out hS7.out
                        obtain ⟨pL, sL⟩ := pdq_any8 swo_ltB d4 (mid + 1) b' (Sort.rd ltB dk a' b' lim wb wp).lim true true (by omega) (by omega) R5.out
                        have zL := pL.1
                        have BL := Lib.hid (R7.out _ pL sL).1
                        clear pL sL
                        go_wp2_with (go_at_call 16; refine hih.mono ?_; rintro e w8 ⟨rfl, hw8, hg8⟩)
                        go_roundg (mid - a')
                        case measure => omega
                        case rel =>
                          refine ⟨a', mid, (Sort.rd ltB dk a' b' lim wb wp).lim, decide (b' - mid ≥ (b' - a') / 8), ap, Sort.pdq ltB d4 (mid + 1) b' (Sort.rd ltB dk a' b' lim wb wp).lim true true, rfl, rfl, rfl, ?_, rfl, by omega, by omega, Nat.le_refl _, by omega, Nat.le_trans Sort.rd_lim_le hlim, by omega, BL, Lib.hid hw8, Lib.hid (hG7.out.trans hg8), ?_⟩
                          · exact congrArg Value.bool (eighth8 (by omega) (by omega))
                          · exact Lib.hid (by rw [← A.out, Sort.pdq_right h12 hl0 hp2 h87 (by rw [X.out]; exact ⟨r1, r2⟩) (by rw [X.out]; exact h4), X.out])
                    · have h87' := h87
                      simp only [Bool.and_eq_true, decide_eq_true_eq, Bool.not_eq_true'] at h87'
                      obtain ⟨mid, d4, hx⟩ : ∃ mid d4, Sort.partitionEqual ltB (Sort.rd ltB dk a' b' lim wb wp).pi.1 a' b' (Sort.rd ltB dk a' b' lim wb wp).pivot = (mid, d4) := ⟨_, _, rfl⟩
                      obtain ⟨r1, r2, r3, r4, _⟩ := Sort.round_eq swo_ltB (Sort.partitionEqual_holds _) h87'.1 hpv.1 hpv.2 (show b' ≤ (Sort.rd ltB dk a' b' lim wb wp).pi.1.size by omega) HB3.out h87'.2 hx
                      have hc7 := Try.partitionEqual_any B cap a' b' (Sort.rd ltB dk a' b' lim wb wp).pivot n cp (Sort.rd ltB dk a' b' lim wb wp).pi.1 (by omega) (by omega) (by omega) hb' hpv.1 hpv.2 wc hS6.out
                      rw [hx] at hc7
                      have X := Lib.hid hx
                      have R4 := Lib.hid r4
                      clear hx r4
                      go_wp2_with (go_at_call 36; refine hc7.mono ?_; rintro e w7 ⟨rfl, hw7, hg7⟩)
                      go_roundg (b' - mid)
                      case measure => omega
                      case rel =>
                        exact ⟨mid, b', (Sort.rd ltB dk a' b' lim wb wp).lim, wb, wp, d4, rfl, rfl, rfl, rfl, rfl, r2, hb', Nat.le_refl _, by omega, Nat.le_trans Sort.rd_lim_le hlim, by omega, R4, Lib.hid hw7, Lib.hid (hG6.out.trans hg7), Lib.hid (by rw [← A.out, Sort.pdq_eq h12 hl0 hp2 h87 (by rw [X.out]; exact ⟨r1, r2⟩), X.out])⟩
end Go.Proofs
