/- Proved: for every row of numbers, of sections and of steps, honeycomblaw06.GuardCounts returns true, and its arguments read as they did; the listed variable reads as the program's text lays it. -/
import Derived.Test.YtbipekpohocjdaaDoorGs
import Derived.SevenTiedAt
import Derived.Stop.Joined
import Derived.Test.YtbipekpohocjdaaDoorCards
import Derived.Test.YtbipekpohocjdaaDoorTie
namespace Go.Proofs.YtbipekpohocjdaaDoor.guardCounts
open Go.ChangeShapes Go.WideShapes Go.ChangeAt Go.RowKit Go.Shelf
attribute [local go_sem] Oper.semAt_some

set_option maxRecDepth 100000 in
set_option maxHeartbeats 8000000 in
theorem walk (a0 : Option Addr) (len0 cap0 : Nat) (z0 : List Int) (a1 : Option Addr) (len1 cap1 : Nat) (z1 : List (Int × Int)) (a2 : Option Addr) (len2 cap2 : Nat) (z2 : List Int) (w : World) (hT : TwoAt w)
    (hn0 : len0 = z0.length) (hI0 : WordsAt w (.slice a0 len0 cap0) z0) (hn1 : len1 = z1.length) (hI1 : PAt w (.slice a1 len1 cap1) z1) (hn2 : len2 = z2.length) (hI2 : IntsAt w (.slice a2 len2 cap2) z2) :
    Calls Tryd.prog 3 #[.slice a0 len0 cap0, .slice a1 len1 cap1, .slice a2 len2 cap2] w fun e w' => e = .returned (.bool true) ∧ Below w.heap.size w w' := by
  have HW := Lib.hid (Tryd.wakes_any _ hT)
  have HF := fun w' (hB : Below w.heap.size w w') => Lib.hid (Tryd.few_any a1 len1 cap1 z1 w' (hI1.below hB))
  obtain ⟨l, hl⟩ : ∃ l, l = z1.take 16 := ⟨_, rfl⟩
  have hl16 : l.length ≤ 16 := by rw [hl, List.length_take]; omega
  rw [← hl] at HF
  obtain ⟨m, hm⟩ : ∃ m, m = l.length := ⟨_, rfl⟩
  rw [← hm] at hl16
  have HM := Lib.hid hm
  have hx0 := (words_len hI0.1).2
  have hx2 := (ints_len hI2).2
  have hr0 : len0 ≤ maxLen := by omega
  have hr2 : len2 ≤ maxLen := by omega
  unfold maxLen at hr0 hr2
  have HI0 := Lib.hid hI0
  have HI2 := Lib.hid hI2
  have HN0 := Lib.hid hn0
  have HN2 := Lib.hid hn2
  clear hl hm hn0 hn1 hn2 hI0 hI1 hI2 hx0 hx2
  go_enter Tryd.func3, Tryd.ntmps3
  go_wp2_with fail
  refine HW.out.mono ?_
  rintro e w1 ⟨rfl, hB⟩
  have HB1 := Lib.hid hB
  clear hB HW
  go_wp2_with fail
  go_loopw [30] (fun jv wr => ∃ k : Nat, k ≤ len0 ∧ k ≤ 8 ∧ jv = .int .i64 k ∧ Below w1.heap.size w1 wr) (fun jv _ => len0 - (intOf jv).toNat)
  case atStart => exact ⟨0, Nat.zero_le _, Nat.zero_le _, rfl, Below.refl _ _⟩
  case round =>
    obtain ⟨k, hk, hk8, rfl, hB⟩ := hrel
    have hI0r := RowAt.below (RowAt.below HI0.out.1 HB1.out) hB
    by_cases hin : k < len0 ∧ k ≠ 8
    · have hkl : k < z0.length := by rw [← HN0.out]; exact hin.1
      obtain ⟨ib, io, rfl, hib, p0⟩ := words_get hI0r k hkl
      obtain ⟨ib', io', e', _, pf⟩ := words_get hI0r 0 (by omega)
      cases e'
      have hz0 : 0 ≤ z0[k] := HI0.out.2 _ (List.getElem_mem hkl)
      rw [Nat.add_zero] at pf
      have hki : (k : Int) < (len0 : Int) := by omega
      have hq8 : ((k : Int) == 8) = false := by simp; omega
      have h0l : (0 : Int) < (len0 : Int) := by omega
      generalize z0[k] = z at *
      generalize z0[0] = zf at *
      clear hkl hI0r
      by_cases hlo : z < 9223372036854775808
      · have hw1 : IntKind.u64.wrap (z + 1) = z + 1 := by simp [IntKind.wrap, IntKind.bits, IntKind.signed]; omega
        have hm2 : z % 2 = 0 ∨ z % 2 = 1 := by omega
        rcases hm2 with hz2 | hz2
        · by_cases hzz : z = zf
          · subst hzz
            have hzz : True := trivial
            have hq1 : (z == z) = true := by simp
            have eo : openR z = (z + 1, 0) := by unfold openR moveR; simp [hz2, hlo]
            have ec : shutR z = (0, 161) := by unfold shutR moveR; simp [hz2, hlo]
            have eg : goodB z z = true := by unfold goodB; simp [hz2]
            have HA := Lib.hid (Tryd.Open_any z hz0 wr)
            have HC := Lib.hid (Tryd.Close_any z hz0 wr)
            have HG := Lib.hid (Tryd.Good_any z z hz0 wr)
            rw [eo] at HA
            rw [ec] at HC
            rw [eg] at HG
            clear eo ec eg
            go_wp2_with fail
            refine HA.out.mono ?_
            rintro e w' ⟨rfl, rfl⟩
            go_wp2_with fail
            refine HC.out.mono ?_
            rintro e w' ⟨rfl, rfl⟩
            go_wp2_with fail
            refine HG.out.mono ?_
            rintro e w' ⟨rfl, rfl⟩
            go_wp2_with fail
            exact ⟨⟨k + 1, by omega, by omega, by go_num, hB⟩, by simp [intOf]; omega⟩
          · have hq1 : (z == zf) = false := by simp [hzz]
            have eo : openR z = (z + 1, 0) := by unfold openR moveR; simp [hz2, hlo]
            have ec : shutR z = (0, 161) := by unfold shutR moveR; simp [hz2, hlo]
            have eg : goodB z zf = false := by unfold goodB; simp [hz2, hzz]
            have HA := Lib.hid (Tryd.Open_any z hz0 wr)
            have HC := Lib.hid (Tryd.Close_any z hz0 wr)
            have HG := Lib.hid (Tryd.Good_any z zf hz0 wr)
            rw [eo] at HA
            rw [ec] at HC
            rw [eg] at HG
            clear eo ec eg
            go_wp2_with fail
            refine HA.out.mono ?_
            rintro e w' ⟨rfl, rfl⟩
            go_wp2_with fail
            refine HC.out.mono ?_
            rintro e w' ⟨rfl, rfl⟩
            go_wp2_with fail
            refine HG.out.mono ?_
            rintro e w' ⟨rfl, rfl⟩
            go_wp2_with fail
            exact ⟨⟨k + 1, by omega, by omega, by go_num, hB⟩, by simp [intOf]; omega⟩
        · have hzz : True := trivial
          have eo : openR z = (0, 161) := by unfold openR moveR; simp [hz2, hlo]
          have ec : shutR z = (z + 1, 0) := by unfold shutR moveR; simp [hz2, hlo]
          have eg : goodB z zf = false := by unfold goodB; simp [hz2]
          have HA := Lib.hid (Tryd.Open_any z hz0 wr)
          have HC := Lib.hid (Tryd.Close_any z hz0 wr)
          have HG := Lib.hid (Tryd.Good_any z zf hz0 wr)
          rw [eo] at HA
          rw [ec] at HC
          rw [eg] at HG
          clear eo ec eg
          go_wp2_with fail
          refine HA.out.mono ?_
          rintro e w' ⟨rfl, rfl⟩
          go_wp2_with fail
          refine HC.out.mono ?_
          rintro e w' ⟨rfl, rfl⟩
          go_wp2_with fail
          refine HG.out.mono ?_
          rintro e w' ⟨rfl, rfl⟩
          go_wp2_with fail
          exact ⟨⟨k + 1, by omega, by omega, by go_num, hB⟩, by simp [intOf]; omega⟩
      · have hm2 : z % 2 = 0 ∨ z % 2 = 1 := by omega
        rcases hm2 with hz2 | hz2
        · by_cases hzz : z = zf
          · subst hzz
            have hzz : True := trivial
            have hq1 : (z == z) = true := by simp
            have eo : openR z = (0, 161) := by unfold openR moveR; simp [hz2, hlo]
            have ec : shutR z = (0, 161) := by unfold shutR moveR; simp [hz2, hlo]
            have eg : goodB z z = true := by unfold goodB; simp [hz2]
            have HA := Lib.hid (Tryd.Open_any z hz0 wr)
            have HC := Lib.hid (Tryd.Close_any z hz0 wr)
            have HG := Lib.hid (Tryd.Good_any z z hz0 wr)
            rw [eo] at HA
            rw [ec] at HC
            rw [eg] at HG
            clear eo ec eg
            go_wp2_with fail
            refine HA.out.mono ?_
            rintro e w' ⟨rfl, rfl⟩
            go_wp2_with fail
            refine HC.out.mono ?_
            rintro e w' ⟨rfl, rfl⟩
            go_wp2_with fail
            refine HG.out.mono ?_
            rintro e w' ⟨rfl, rfl⟩
            go_wp2_with fail
            exact ⟨⟨k + 1, by omega, by omega, by go_num, hB⟩, by simp [intOf]; omega⟩
          · have hq1 : (z == zf) = false := by simp [hzz]
            have eo : openR z = (0, 161) := by unfold openR moveR; simp [hz2, hlo]
            have ec : shutR z = (0, 161) := by unfold shutR moveR; simp [hz2, hlo]
            have eg : goodB z zf = false := by unfold goodB; simp [hz2, hzz]
            have HA := Lib.hid (Tryd.Open_any z hz0 wr)
            have HC := Lib.hid (Tryd.Close_any z hz0 wr)
            have HG := Lib.hid (Tryd.Good_any z zf hz0 wr)
            rw [eo] at HA
            rw [ec] at HC
            rw [eg] at HG
            clear eo ec eg
            go_wp2_with fail
            refine HA.out.mono ?_
            rintro e w' ⟨rfl, rfl⟩
            go_wp2_with fail
            refine HC.out.mono ?_
            rintro e w' ⟨rfl, rfl⟩
            go_wp2_with fail
            refine HG.out.mono ?_
            rintro e w' ⟨rfl, rfl⟩
            go_wp2_with fail
            exact ⟨⟨k + 1, by omega, by omega, by go_num, hB⟩, by simp [intOf]; omega⟩
        · have hzz : True := trivial
          have eo : openR z = (0, 161) := by unfold openR moveR; simp [hz2, hlo]
          have ec : shutR z = (0, 161) := by unfold shutR moveR; simp [hz2, hlo]
          have eg : goodB z zf = false := by unfold goodB; simp [hz2]
          have HA := Lib.hid (Tryd.Open_any z hz0 wr)
          have HC := Lib.hid (Tryd.Close_any z hz0 wr)
          have HG := Lib.hid (Tryd.Good_any z zf hz0 wr)
          rw [eo] at HA
          rw [ec] at HC
          rw [eg] at HG
          clear eo ec eg
          go_wp2_with fail
          refine HA.out.mono ?_
          rintro e w' ⟨rfl, rfl⟩
          go_wp2_with fail
          refine HC.out.mono ?_
          rintro e w' ⟨rfl, rfl⟩
          go_wp2_with fail
          refine HG.out.mono ?_
          rintro e w' ⟨rfl, rfl⟩
          go_wp2_with fail
          exact ⟨⟨k + 1, by omega, by omega, by go_num, hB⟩, by simp [intOf]; omega⟩
    · have hways : ¬ (k : Int) < (len0 : Int) ∨ ((k : Int) < (len0 : Int) ∧ k = 8) := by omega
      rcases hways with hw1 | ⟨hw1, hw2⟩
      · clear hin hI0r
        have HF2 := HF wr (HB1.out.trans (hB.mono HB1.out.size))
        have HB2 := Lib.hid (HB1.out.trans (hB.mono HB1.out.size))
        clear hB
        go_wp2_with fail
        refine HF2.out.mono ?_
        rintro e w3 ⟨b, c, rfl, hP, hB⟩
        rw [← HM.out] at hP ⊢
        have HP3 := Lib.hid hP
        have HB3 := Lib.hid (HB2.out.trans (hB.mono HB2.out.size))
        have HRR := Lib.hid (Tryd.refRight_any b m c l w3 hP)
        clear hP hB HF2
        go_wp2_with fail
        refine HRR.out.mono ?_
        rintro e w4 ⟨rfl, hB⟩
        have HP4 := Lib.hid (HP3.out.below hB)
        have HB4 := Lib.hid (HB3.out.trans (hB.mono HB3.out.size))
        have HCK := Lib.hid (Tryd.Check_any b m c l w4 HP4.out)
        have hce : checkE l = if rightB l = true then 0 else 160 := rfl
        clear hB HRR HP3
        cases hr : rightB l with
        | false =>
          rw [hr, if_neg (by decide)] at hce
          rw [hce] at HCK
          have HR := Lib.hid hr
          clear hr hce
          go_wp2_with fail
          refine HCK.out.mono ?_
          rintro e w5 ⟨rfl, hB⟩
          have HP5 := Lib.hid (HP4.out.below hB)
          have HB6 := Lib.hid (HB4.out.trans (hB.mono HB4.out.size))
          clear hB HCK HP4
          go_wp2_with fail
          go_loopw [122] (fun jv wr => ∃ k : Nat, k ≤ len2 ∧ k ≤ 10 ∧ jv = .int .i64 k ∧ Below w5.heap.size w5 wr) (fun jv _ => len2 - (intOf jv).toNat)
          case atStart => exact ⟨0, Nat.zero_le _, Nat.zero_le _, rfl, Below.refl _ _⟩
          case round =>
            obtain ⟨k, hk, hk10, rfl, hB⟩ := hrel
            by_cases hin : k < len2 ∧ k ≠ 10
            · have hkl : k < z2.length := by rw [← HN2.out]; exact hin.1
              obtain ⟨ib, io, rfl, hib, p0⟩ := ints_get (RowAt.below (RowAt.below HI2.out HB6.out) hB) k hkl
              generalize z2[k] = z at *
              have hki : (k : Int) < (len2 : Int) := by omega
              have hq8 : ((k : Int) == 10) = false := by simp; omega
              clear hkl
              have eE : countE l z = 160 := by unfold countE; rw [if_neg (by rw [HR.out]; decide)]
              have eR : countR l z = 0 := countR_err (by rw [eE]; decide)
              have HC := Lib.hid (Tryd.Count_any z b m c l wr (HP5.out.below hB))
              rw [eE, eR] at HC
              have HB := Lib.hid hB
              clear eE eR hB
              go_wp2_with fail
              refine HC.out.mono ?_
              rintro e w7 ⟨rfl, hB7⟩
              have HB7 := Lib.hid (HB.out.trans (hB7.mono HB.out.size))
              clear hB7
              go_wp2_with fail
              exact ⟨⟨k + 1, by omega, by omega, by go_num, HB7.out⟩, by simp [intOf]; omega⟩
            · have hways : ¬ (k : Int) < (len2 : Int) ∨ ((k : Int) < (len2 : Int) ∧ k = 10) := by omega
              rcases hways with hw1 | ⟨hw1, hw2⟩
              · clear hin
                have HFS := HF wr (HB6.out.trans (hB.mono HB6.out.size))
                have HP6 := Lib.hid (HP5.out.below hB)
                have HB7 := Lib.hid (HB6.out.trans (hB.mono HB6.out.size))
                clear hB
                go_wp2_with fail
                refine HFS.out.mono ?_
                rintro e w8 ⟨b8, c8, rfl, hP8, hB8⟩
                rw [← HM.out] at hP8 ⊢
                have HE := Lib.hid (Tryd.equalSection_any b b8 m m c c8 l l w8 (HP6.out.below hB8) hP8 (by omega) (by omega))
                rw [decide_eq_true rfl] at HE
                have HB8 := Lib.hid (HB7.out.trans (hB8.mono HB7.out.size))
                clear hP8 hB8
                go_wp2_with fail
                refine HE.out.mono ?_
                rintro e w9 ⟨rfl, hB9⟩
                have HB9 := Lib.hid (HB8.out.trans (hB9.mono HB8.out.size))
                clear hB9
                go_wp2_with fail
                go_ret
                exact ⟨rfl, HB9.out⟩
              · subst hw2
                have hkl : 10 < z2.length := by rw [← HN2.out]; omega
                obtain ⟨ib, io, rfl, hib, p0⟩ := ints_get (RowAt.below (RowAt.below HI2.out HB6.out) hB) 10 hkl
                generalize z2[10] = z at *
                have hq8 : ((10 : Int) == 10) = true := by simp
                clear hin hkl
                have HFS := HF wr (HB6.out.trans (hB.mono HB6.out.size))
                have HP6 := Lib.hid (HP5.out.below hB)
                have HB7 := Lib.hid (HB6.out.trans (hB.mono HB6.out.size))
                clear hB
                go_wp2_with fail
                refine HFS.out.mono ?_
                rintro e w8 ⟨b8, c8, rfl, hP8, hB8⟩
                rw [← HM.out] at hP8 ⊢
                have HE := Lib.hid (Tryd.equalSection_any b b8 m m c c8 l l w8 (HP6.out.below hB8) hP8 (by omega) (by omega))
                rw [decide_eq_true rfl] at HE
                have HB8 := Lib.hid (HB7.out.trans (hB8.mono HB7.out.size))
                clear hP8 hB8
                go_wp2_with fail
                refine HE.out.mono ?_
                rintro e w9 ⟨rfl, hB9⟩
                have HB9 := Lib.hid (HB8.out.trans (hB9.mono HB8.out.size))
                clear hB9
                go_wp2_with fail
                go_ret
                exact ⟨rfl, HB9.out⟩
        | true =>
          rw [hr, if_pos rfl] at hce
          rw [hce] at HCK
          have HR := Lib.hid hr
          clear hr hce
          go_wp2_with fail
          refine HCK.out.mono ?_
          rintro e w5 ⟨rfl, hB⟩
          have HP5 := Lib.hid (HP4.out.below hB)
          have HB6 := Lib.hid (HB4.out.trans (hB.mono HB4.out.size))
          clear hB HCK HP4
          go_wp2_with fail
          go_loopw [122] (fun jv wr => ∃ k : Nat, k ≤ len2 ∧ k ≤ 10 ∧ jv = .int .i64 k ∧ Below w5.heap.size w5 wr) (fun jv _ => len2 - (intOf jv).toNat)
          case atStart => exact ⟨0, Nat.zero_le _, Nat.zero_le _, rfl, Below.refl _ _⟩
          case round =>
            obtain ⟨k, hk, hk10, rfl, hB⟩ := hrel
            by_cases hin : k < len2 ∧ k ≠ 10
            · have hkl : k < z2.length := by rw [← HN2.out]; exact hin.1
              obtain ⟨ib, io, rfl, hib, p0⟩ := ints_get (RowAt.below (RowAt.below HI2.out HB6.out) hB) k hkl
              generalize z2[k] = z at *
              have hki : (k : Int) < (len2 : Int) := by omega
              have hq8 : ((k : Int) == 10) = false := by simp; omega
              clear hkl
              cases hst : stepB z with
              | false =>
                have eE : countE l z = 2 := by unfold countE; rw [if_pos HR.out, if_neg (by rw [hst]; decide)]
                have eR : countR l z = 0 := countR_err (by rw [eE]; decide)
                have HC := Lib.hid (Tryd.Count_any z b m c l wr (HP5.out.below hB))
                have HS := fun w' => Lib.hid (Tryd.refStep_any z w')
                rw [eE, eR] at HC
                rw [hst] at HS
                have HB := Lib.hid hB
                clear eE eR hB hst
                go_wp2_with fail
                refine HC.out.mono ?_
                rintro e w7 ⟨rfl, hB7⟩
                have HB7 := Lib.hid (HB.out.trans (hB7.mono HB.out.size))
                clear hB7
                go_wp2_with fail
                refine (HS _).out.mono ?_
                rintro e w' ⟨rfl, rfl⟩
                go_wp2_with fail
                exact ⟨⟨k + 1, by omega, by omega, by go_num, HB7.out⟩, by simp [intOf]; omega⟩
              | true =>
                have eE : countE l z = 0 := by unfold countE; rw [if_pos HR.out, if_pos hst]
                have eR : countR l z = cntB l z := countR_ok eE
                have eC : rcnt l z = cntB l z := rcnt_cnt HR.out
                have HC := Lib.hid (Tryd.Count_any z b m c l wr (HP5.out.below hB))
                have HD := fun w' (hB : Below w5.heap.size w5 w') => Lib.hid (Tryd.refCount_any z b m c l w' (HP5.out.below hB))
                have HS := fun w' => Lib.hid (Tryd.refStep_any z w')
                rw [eE, eR] at HC
                rw [eC] at HD
                rw [hst] at HS
                have HB := Lib.hid hB
                clear eE eR eC hB hst
                generalize cntB l z = cn at *
                go_wp2_with fail
                refine HC.out.mono ?_
                rintro e w7 ⟨rfl, hB7⟩
                have HB7 := Lib.hid (HB.out.trans (hB7.mono HB.out.size))
                clear hB7
                go_wp2_with fail
                refine (HS _).out.mono ?_
                rintro e w' ⟨rfl, rfl⟩
                go_wp2_with fail
                refine (HD _ HB7.out).out.mono ?_
                rintro e w8 ⟨rfl, hB8⟩
                have HB8 := Lib.hid (HB7.out.trans (hB8.mono HB7.out.size))
                clear hB8
                go_wp2_with fail
                exact ⟨⟨k + 1, by omega, by omega, by go_num, HB8.out⟩, by simp [intOf]; omega⟩
            · have hways : ¬ (k : Int) < (len2 : Int) ∨ ((k : Int) < (len2 : Int) ∧ k = 10) := by omega
              rcases hways with hw1 | ⟨hw1, hw2⟩
              · clear hin
                have HFS := HF wr (HB6.out.trans (hB.mono HB6.out.size))
                have HP6 := Lib.hid (HP5.out.below hB)
                have HB7 := Lib.hid (HB6.out.trans (hB.mono HB6.out.size))
                clear hB
                go_wp2_with fail
                refine HFS.out.mono ?_
                rintro e w8 ⟨b8, c8, rfl, hP8, hB8⟩
                rw [← HM.out] at hP8 ⊢
                have HE := Lib.hid (Tryd.equalSection_any b b8 m m c c8 l l w8 (HP6.out.below hB8) hP8 (by omega) (by omega))
                rw [decide_eq_true rfl] at HE
                have HB8 := Lib.hid (HB7.out.trans (hB8.mono HB7.out.size))
                clear hP8 hB8
                go_wp2_with fail
                refine HE.out.mono ?_
                rintro e w9 ⟨rfl, hB9⟩
                have HB9 := Lib.hid (HB8.out.trans (hB9.mono HB8.out.size))
                clear hB9
                go_wp2_with fail
                go_ret
                exact ⟨rfl, HB9.out⟩
              · subst hw2
                have hkl : 10 < z2.length := by rw [← HN2.out]; omega
                obtain ⟨ib, io, rfl, hib, p0⟩ := ints_get (RowAt.below (RowAt.below HI2.out HB6.out) hB) 10 hkl
                generalize z2[10] = z at *
                have hq8 : ((10 : Int) == 10) = true := by simp
                clear hin hkl
                have HFS := HF wr (HB6.out.trans (hB.mono HB6.out.size))
                have HP6 := Lib.hid (HP5.out.below hB)
                have HB7 := Lib.hid (HB6.out.trans (hB.mono HB6.out.size))
                clear hB
                go_wp2_with fail
                refine HFS.out.mono ?_
                rintro e w8 ⟨b8, c8, rfl, hP8, hB8⟩
                rw [← HM.out] at hP8 ⊢
                have HE := Lib.hid (Tryd.equalSection_any b b8 m m c c8 l l w8 (HP6.out.below hB8) hP8 (by omega) (by omega))
                rw [decide_eq_true rfl] at HE
                have HB8 := Lib.hid (HB7.out.trans (hB8.mono HB7.out.size))
                clear hP8 hB8
                go_wp2_with fail
                refine HE.out.mono ?_
                rintro e w9 ⟨rfl, hB9⟩
                have HB9 := Lib.hid (HB8.out.trans (hB9.mono HB8.out.size))
                clear hB9
                go_wp2_with fail
                go_ret
                exact ⟨rfl, HB9.out⟩
      · subst hw2
        have hkl : 8 < z0.length := by rw [← HN0.out]; omega
        obtain ⟨ib, io, rfl, hib, p0⟩ := words_get hI0r 8 hkl
        generalize z0[8] = z at *
        have hq8 : ((8 : Int) == 8) = true := by simp
        clear hin hkl hI0r
        have HF2 := HF wr (HB1.out.trans (hB.mono HB1.out.size))
        have HB2 := Lib.hid (HB1.out.trans (hB.mono HB1.out.size))
        clear hB
        go_wp2_with fail
        refine HF2.out.mono ?_
        rintro e w3 ⟨b, c, rfl, hP, hB⟩
        rw [← HM.out] at hP ⊢
        have HP3 := Lib.hid hP
        have HB3 := Lib.hid (HB2.out.trans (hB.mono HB2.out.size))
        have HRR := Lib.hid (Tryd.refRight_any b m c l w3 hP)
        clear hP hB HF2
        go_wp2_with fail
        refine HRR.out.mono ?_
        rintro e w4 ⟨rfl, hB⟩
        have HP4 := Lib.hid (HP3.out.below hB)
        have HB4 := Lib.hid (HB3.out.trans (hB.mono HB3.out.size))
        have HCK := Lib.hid (Tryd.Check_any b m c l w4 HP4.out)
        have hce : checkE l = if rightB l = true then 0 else 160 := rfl
        clear hB HRR HP3
        cases hr : rightB l with
        | false =>
          rw [hr, if_neg (by decide)] at hce
          rw [hce] at HCK
          have HR := Lib.hid hr
          clear hr hce
          go_wp2_with fail
          refine HCK.out.mono ?_
          rintro e w5 ⟨rfl, hB⟩
          have HP5 := Lib.hid (HP4.out.below hB)
          have HB6 := Lib.hid (HB4.out.trans (hB.mono HB4.out.size))
          clear hB HCK HP4
          go_wp2_with fail
          go_loopw [122] (fun jv wr => ∃ k : Nat, k ≤ len2 ∧ k ≤ 10 ∧ jv = .int .i64 k ∧ Below w5.heap.size w5 wr) (fun jv _ => len2 - (intOf jv).toNat)
          case atStart => exact ⟨0, Nat.zero_le _, Nat.zero_le _, rfl, Below.refl _ _⟩
          case round =>
            obtain ⟨k, hk, hk10, rfl, hB⟩ := hrel
            by_cases hin : k < len2 ∧ k ≠ 10
            · have hkl : k < z2.length := by rw [← HN2.out]; exact hin.1
              obtain ⟨ib, io, rfl, hib, p0⟩ := ints_get (RowAt.below (RowAt.below HI2.out HB6.out) hB) k hkl
              generalize z2[k] = z at *
              have hki : (k : Int) < (len2 : Int) := by omega
              have hq8 : ((k : Int) == 10) = false := by simp; omega
              clear hkl
              have eE : countE l z = 160 := by unfold countE; rw [if_neg (by rw [HR.out]; decide)]
              have eR : countR l z = 0 := countR_err (by rw [eE]; decide)
              have HC := Lib.hid (Tryd.Count_any z b m c l wr (HP5.out.below hB))
              rw [eE, eR] at HC
              have HB := Lib.hid hB
              clear eE eR hB
              go_wp2_with fail
              refine HC.out.mono ?_
              rintro e w7 ⟨rfl, hB7⟩
              have HB7 := Lib.hid (HB.out.trans (hB7.mono HB.out.size))
              clear hB7
              go_wp2_with fail
              exact ⟨⟨k + 1, by omega, by omega, by go_num, HB7.out⟩, by simp [intOf]; omega⟩
            · have hways : ¬ (k : Int) < (len2 : Int) ∨ ((k : Int) < (len2 : Int) ∧ k = 10) := by omega
              rcases hways with hw1 | ⟨hw1, hw2⟩
              · clear hin
                have HFS := HF wr (HB6.out.trans (hB.mono HB6.out.size))
                have HP6 := Lib.hid (HP5.out.below hB)
                have HB7 := Lib.hid (HB6.out.trans (hB.mono HB6.out.size))
                clear hB
                go_wp2_with fail
                refine HFS.out.mono ?_
                rintro e w8 ⟨b8, c8, rfl, hP8, hB8⟩
                rw [← HM.out] at hP8 ⊢
                have HE := Lib.hid (Tryd.equalSection_any b b8 m m c c8 l l w8 (HP6.out.below hB8) hP8 (by omega) (by omega))
                rw [decide_eq_true rfl] at HE
                have HB8 := Lib.hid (HB7.out.trans (hB8.mono HB7.out.size))
                clear hP8 hB8
                go_wp2_with fail
                refine HE.out.mono ?_
                rintro e w9 ⟨rfl, hB9⟩
                have HB9 := Lib.hid (HB8.out.trans (hB9.mono HB8.out.size))
                clear hB9
                go_wp2_with fail
                go_ret
                exact ⟨rfl, HB9.out⟩
              · subst hw2
                have hkl : 10 < z2.length := by rw [← HN2.out]; omega
                obtain ⟨ib, io, rfl, hib, p0⟩ := ints_get (RowAt.below (RowAt.below HI2.out HB6.out) hB) 10 hkl
                generalize z2[10] = z at *
                have hq8 : ((10 : Int) == 10) = true := by simp
                clear hin hkl
                have HFS := HF wr (HB6.out.trans (hB.mono HB6.out.size))
                have HP6 := Lib.hid (HP5.out.below hB)
                have HB7 := Lib.hid (HB6.out.trans (hB.mono HB6.out.size))
                clear hB
                go_wp2_with fail
                refine HFS.out.mono ?_
                rintro e w8 ⟨b8, c8, rfl, hP8, hB8⟩
                rw [← HM.out] at hP8 ⊢
                have HE := Lib.hid (Tryd.equalSection_any b b8 m m c c8 l l w8 (HP6.out.below hB8) hP8 (by omega) (by omega))
                rw [decide_eq_true rfl] at HE
                have HB8 := Lib.hid (HB7.out.trans (hB8.mono HB7.out.size))
                clear hP8 hB8
                go_wp2_with fail
                refine HE.out.mono ?_
                rintro e w9 ⟨rfl, hB9⟩
                have HB9 := Lib.hid (HB8.out.trans (hB9.mono HB8.out.size))
                clear hB9
                go_wp2_with fail
                go_ret
                exact ⟨rfl, HB9.out⟩
        | true =>
          rw [hr, if_pos rfl] at hce
          rw [hce] at HCK
          have HR := Lib.hid hr
          clear hr hce
          go_wp2_with fail
          refine HCK.out.mono ?_
          rintro e w5 ⟨rfl, hB⟩
          have HP5 := Lib.hid (HP4.out.below hB)
          have HB6 := Lib.hid (HB4.out.trans (hB.mono HB4.out.size))
          clear hB HCK HP4
          go_wp2_with fail
          go_loopw [122] (fun jv wr => ∃ k : Nat, k ≤ len2 ∧ k ≤ 10 ∧ jv = .int .i64 k ∧ Below w5.heap.size w5 wr) (fun jv _ => len2 - (intOf jv).toNat)
          case atStart => exact ⟨0, Nat.zero_le _, Nat.zero_le _, rfl, Below.refl _ _⟩
          case round =>
            obtain ⟨k, hk, hk10, rfl, hB⟩ := hrel
            by_cases hin : k < len2 ∧ k ≠ 10
            · have hkl : k < z2.length := by rw [← HN2.out]; exact hin.1
              obtain ⟨ib, io, rfl, hib, p0⟩ := ints_get (RowAt.below (RowAt.below HI2.out HB6.out) hB) k hkl
              generalize z2[k] = z at *
              have hki : (k : Int) < (len2 : Int) := by omega
              have hq8 : ((k : Int) == 10) = false := by simp; omega
              clear hkl
              cases hst : stepB z with
              | false =>
                have eE : countE l z = 2 := by unfold countE; rw [if_pos HR.out, if_neg (by rw [hst]; decide)]
                have eR : countR l z = 0 := countR_err (by rw [eE]; decide)
                have HC := Lib.hid (Tryd.Count_any z b m c l wr (HP5.out.below hB))
                have HS := fun w' => Lib.hid (Tryd.refStep_any z w')
                rw [eE, eR] at HC
                rw [hst] at HS
                have HB := Lib.hid hB
                clear eE eR hB hst
                go_wp2_with fail
                refine HC.out.mono ?_
                rintro e w7 ⟨rfl, hB7⟩
                have HB7 := Lib.hid (HB.out.trans (hB7.mono HB.out.size))
                clear hB7
                go_wp2_with fail
                refine (HS _).out.mono ?_
                rintro e w' ⟨rfl, rfl⟩
                go_wp2_with fail
                exact ⟨⟨k + 1, by omega, by omega, by go_num, HB7.out⟩, by simp [intOf]; omega⟩
              | true =>
                have eE : countE l z = 0 := by unfold countE; rw [if_pos HR.out, if_pos hst]
                have eR : countR l z = cntB l z := countR_ok eE
                have eC : rcnt l z = cntB l z := rcnt_cnt HR.out
                have HC := Lib.hid (Tryd.Count_any z b m c l wr (HP5.out.below hB))
                have HD := fun w' (hB : Below w5.heap.size w5 w') => Lib.hid (Tryd.refCount_any z b m c l w' (HP5.out.below hB))
                have HS := fun w' => Lib.hid (Tryd.refStep_any z w')
                rw [eE, eR] at HC
                rw [eC] at HD
                rw [hst] at HS
                have HB := Lib.hid hB
                clear eE eR eC hB hst
                generalize cntB l z = cn at *
                go_wp2_with fail
                refine HC.out.mono ?_
                rintro e w7 ⟨rfl, hB7⟩
                have HB7 := Lib.hid (HB.out.trans (hB7.mono HB.out.size))
                clear hB7
                go_wp2_with fail
                refine (HS _).out.mono ?_
                rintro e w' ⟨rfl, rfl⟩
                go_wp2_with fail
                refine (HD _ HB7.out).out.mono ?_
                rintro e w8 ⟨rfl, hB8⟩
                have HB8 := Lib.hid (HB7.out.trans (hB8.mono HB7.out.size))
                clear hB8
                go_wp2_with fail
                exact ⟨⟨k + 1, by omega, by omega, by go_num, HB8.out⟩, by simp [intOf]; omega⟩
            · have hways : ¬ (k : Int) < (len2 : Int) ∨ ((k : Int) < (len2 : Int) ∧ k = 10) := by omega
              rcases hways with hw1 | ⟨hw1, hw2⟩
              · clear hin
                have HFS := HF wr (HB6.out.trans (hB.mono HB6.out.size))
                have HP6 := Lib.hid (HP5.out.below hB)
                have HB7 := Lib.hid (HB6.out.trans (hB.mono HB6.out.size))
                clear hB
                go_wp2_with fail
                refine HFS.out.mono ?_
                rintro e w8 ⟨b8, c8, rfl, hP8, hB8⟩
                rw [← HM.out] at hP8 ⊢
                have HE := Lib.hid (Tryd.equalSection_any b b8 m m c c8 l l w8 (HP6.out.below hB8) hP8 (by omega) (by omega))
                rw [decide_eq_true rfl] at HE
                have HB8 := Lib.hid (HB7.out.trans (hB8.mono HB7.out.size))
                clear hP8 hB8
                go_wp2_with fail
                refine HE.out.mono ?_
                rintro e w9 ⟨rfl, hB9⟩
                have HB9 := Lib.hid (HB8.out.trans (hB9.mono HB8.out.size))
                clear hB9
                go_wp2_with fail
                go_ret
                exact ⟨rfl, HB9.out⟩
              · subst hw2
                have hkl : 10 < z2.length := by rw [← HN2.out]; omega
                obtain ⟨ib, io, rfl, hib, p0⟩ := ints_get (RowAt.below (RowAt.below HI2.out HB6.out) hB) 10 hkl
                generalize z2[10] = z at *
                have hq8 : ((10 : Int) == 10) = true := by simp
                clear hin hkl
                have HFS := HF wr (HB6.out.trans (hB.mono HB6.out.size))
                have HP6 := Lib.hid (HP5.out.below hB)
                have HB7 := Lib.hid (HB6.out.trans (hB.mono HB6.out.size))
                clear hB
                go_wp2_with fail
                refine HFS.out.mono ?_
                rintro e w8 ⟨b8, c8, rfl, hP8, hB8⟩
                rw [← HM.out] at hP8 ⊢
                have HE := Lib.hid (Tryd.equalSection_any b b8 m m c c8 l l w8 (HP6.out.below hB8) hP8 (by omega) (by omega))
                rw [decide_eq_true rfl] at HE
                have HB8 := Lib.hid (HB7.out.trans (hB8.mono HB7.out.size))
                clear hP8 hB8
                go_wp2_with fail
                refine HE.out.mono ?_
                rintro e w9 ⟨rfl, hB9⟩
                have HB9 := Lib.hid (HB8.out.trans (hB9.mono HB8.out.size))
                clear hB9
                go_wp2_with fail
                go_ret
                exact ⟨rfl, HB9.out⟩
theorem own : ownKnob Tryd.prog.godebug = none := by kernel_rfl
theorem laidOut : laidOutB Tryd.prog = true := by kernel_rfl
set_option maxRecDepth 100000 in
theorem lifted (os : Os) (started : os.Started) (H : Type) (enc : TypeId × Value → H) :
    ReturnsInHanded {} Tryd.checked os 3 .any (fun w args => (Rows.guardCountsSpec.pre enc Tryd.prog Tryd.f3 [] false w args ∧ laidMetH Tryd.prog [("honeycomb/honeycomblaw06.two", Rows.laid_honeycomb_honeycomblaw06_two)] w) ∧ sizedMet enc Tryd.prog Tryd.f3 (OpenSpec.ofChange Rows.guardCountsSpec) false w args)
      (Rows.guardCountsSpec.post enc Tryd.prog Tryd.f3 false true false false) := by
  refine returnsInHanded_of_change_and (C := Tryd.checked) (X := fun w _ => laidMetH Tryd.prog [("honeycomb/honeycomblaw06.two", Rows.laid_honeycomb_honeycomblaw06_two)] w) (fun _ _ _ hh h => h.of_heap hh) own started (by kernel_rfl) Tryd.func3
    (ChangeSpec.witness_shaped (enc := enc) (C := Tryd.checked) (os := os) (X := fun w _ => laidMetH Tryd.prog [("honeycomb/honeycomblaw06.two", Rows.laid_honeycomb_honeycomblaw06_two)] w) false (World.laidAll Tryd.prog os [("honeycomb/honeycomblaw06.two", Rows.laid_honeycomb_honeycomblaw06_two)]) #[.slice none 0 0, .slice none 0 0, .slice none 0 0] 8 (World.laidAll_os _ _ _)
      (World.shaped_of_ZipB (by kernel_rfl) (by kernel_rfl)) (by kernel_rfl) (by kernel_rfl) (by kernel_rfl)
      (by rw [MakeChecks.laidMetH_plain _ _ _ (by kernel_rfl)]; exact laidMet_laidAll _ (by kernel_rfl) (by kernel_rfl))) ?_
  intro W base args ds gs before hval0 hW _ _ hL _
  have hval : ∀ (j : Nat) t v, Tryd.f3.params[j]? = some t → args[j]? = some v → Value.okWide Tryd.prog W .any base t v := hval0
  have hW' := hW
  obtain ⟨p, q, hA0, hV, rfl, _, _⟩ := hW
  have hA : DataW.TrodAll enc Tryd.prog W 0 (fun _ => true) true Tryd.f3.params.toList args.toList ds p := hA0
  rw [Tryd.params3] at hA hval
  have hT := of_laid hL
  obtain ⟨v0, vs0, d0, ds0, p0, q0, hargs, rfl, rfl, h0, r0⟩ := trodAll_cons hA
  obtain ⟨v1, vs1, d1, ds1, p1, q1, rfl, rfl, rfl, h1, r1⟩ := trodAll_cons r0
  obtain ⟨v2, vs2, d2, ds2, p2, q2, rfl, rfl, rfl, h2, r2⟩ := trodAll_cons r1
  obtain ⟨rfl, rfl, rfl⟩ := trodAll_nil r2
  obtain rfl : args = #[v0, v1, v2] := by cases args; simp_all
  obtain ⟨rfl, rfl⟩ := trodVars_none hV
  obtain ⟨a0, len0, cap0, rfl⟩ := okWide_slice Tryd.underlying22 (hval 0 22 v0 rfl rfl)
  have k0 := h0
  have lt0 : ∀ x ∈ p0, x.block < W.heap.size := by obtain ⟨m, hm⟩ := k0; exact DataW.trod_lt m _ _ _ hm
  obtain ⟨z0, n0, w0⟩ : ∃ zs, len0 = zs.length ∧ WordsAt W (.slice a0 len0 cap0) zs := by
    obtain ⟨fuel, hf⟩ := h0
    exact open_words hf
  obtain ⟨a1, len1, cap1, rfl⟩ := okWide_slice Tryd.underlying23 (hval 1 23 v1 rfl rfl)
  have k1 := h1
  have lt1 : ∀ x ∈ p1, x.block < W.heap.size := by obtain ⟨m, hm⟩ := k1; exact DataW.trod_lt m _ _ _ hm
  obtain ⟨z1, n1, w1⟩ : ∃ zs, len1 = zs.length ∧ PAt W (.slice a1 len1 cap1) zs := by
    obtain ⟨fuel, hf⟩ := h1
    exact open_secs hf
  obtain ⟨a2, len2, cap2, rfl⟩ := okWide_slice Tryd.underlying24 (hval 2 24 v2 rfl rfl)
  have k2 := h2
  have lt2 : ∀ x ∈ p2, x.block < W.heap.size := by obtain ⟨m, hm⟩ := k2; exact DataW.trod_lt m _ _ _ hm
  obtain ⟨z2, n2, w2⟩ : ∃ zs, len2 = zs.length ∧ IntsAt W (.slice a2 len2 cap2) zs := by
    obtain ⟨fuel, hf⟩ := h2
    exact open_intRow hf
  clear hA0 hval0
  refine (walk a0 len0 cap0 z0 a1 len1 cap1 z1 a2 len2 cap2 z2 W hT n0 w0 n1 w1 n2 w2).mono fun e W' ⟨he, bel⟩ => ?_
  subst he
  exact ⟨_, rfl, _, _, _, [], _, [], hW', trodAll_mk1 (shut_bool Tryd.underlying4 _), (trodAll_cons_mk (Below.trod laidOut (by kernel_rfl) (of_decide_eq_true (by kernel_rfl)) k0 bel lt0) (trodAll_cons_mk (Below.trod laidOut (by kernel_rfl) (of_decide_eq_true (by kernel_rfl)) k1 bel lt1) (trodAll_cons_mk (Below.trod laidOut (by kernel_rfl) (of_decide_eq_true (by kernel_rfl)) k2 bel lt2) trodAll_mk0))), rfl, bel.frame _, fun h => by cases h⟩
theorem said : Rows.GuardCountsSaid :=
  OpenClaim.holds_of_wide 3 Tryd.f3 rfl rfl rfl rfl rfl rfl rfl ⟨rfl, rfl, rfl, rfl, rfl⟩ rfl rfl rfl rfl rfl (by kernel_rfl) Tryd.func3 (by kernel_rfl)
    (of_decide_eq_true (by kernel_rfl)) (by unfold Func.isWrapper; first | (rw [if_pos (by decide +kernel)]; kernel_rfl) | (rw [if_neg (by decide +kernel)]; exact ⟨rfl, rfl⟩))
    (fun os started H enc _ => lifted os started H enc)
theorem proved : Rows.GuardCountsCardSaid :=
  Claim7.holds_tied_plain_at .later [] [.widerDeep] true _ false said (fun _ h => by cases h) (by kernel_rfl) (fun _ h => by cases h) guardCounts_row_tie rfl ⟨rfl, rfl⟩ (by kernel_rfl) rfl
    (fun f fn hf hfn => by
      obtain rfl : f = 3 := Option.some.inj ((show Tryd.prog.funcNamed "honeycomb/honeycomblaw06.GuardCounts" = some 3 by kernel_rfl).symm.trans hf) |>.symm
      obtain rfl : fn = Tryd.f3 := (Option.some.inj (Tryd.func3.symm.trans hfn)).symm
      exact ⟨by kernel_rfl, fun j t ht => by
        rw [Tryd.params3] at ht
        have hm : t ∈ [22, 23, 24] := by simpa using Array.mem_of_getElem? ht
        have hall : ([22, 23, 24].all fun u => !Tryd.prog.wantsStandIn u) = true := by kernel_rfl
        exact (show Tryd.prog.wantsStandIn t = false by simpa using List.all_eq_true.1 hall t hm)⟩)
    (by kernel_rfl)
end Go.Proofs.YtbipekpohocjdaaDoor.guardCounts
