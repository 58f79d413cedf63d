/- Proved: for every words and accesses, honeycomblaw02.CellsBack returns true, and its arguments read as they did; no condition. -/
import Derived.Test.YtafccppobhhelaaCo
import Derived.Test.YtafccppobhhelaaCt
import Derived.BigQuiet
import Derived.ChangeAt
import Derived.JoinedAt
import Derived.ProofKit
import Derived.OpenShut
import Derived.Test.YtafccppobhhelaaRows
namespace Go.Proofs.Ytafccppobhhelaa.cellsBack
open Go.ChangeShapes Go.WideShapes Go.ChangeAt Go.RowKit Go.Shelf
attribute [local go_sem] Oper.semAt_some

theorem own : ownKnob Try.prog.godebug = none := by kernel_rfl
set_option maxRecDepth 100000 in
set_option maxHeartbeats 16000000 in
theorem walk (a : Option Addr) (n cap : Nat) (xs : List Int) (al : Option Addr) (nl capl : Nat) (ys : List Acc) (w : World) (hn : n = xs.length) (hI : WordsAt w (.slice a n cap) xs) (hnl : nl = ys.length) (hL : AccsAt w (.slice al nl capl) ys) :
    Calls Try.prog 6 #[.slice a n cap, .slice al nl capl] w fun e w' => e = .returned (.bool true) ∧ Below w.heap.size w w' := by
  have HI := Lib.hid hI
  have HL := Lib.hid hL
  have HN := Lib.hid hn
  have HNL := Lib.hid hnl
  have hcl : nl ≤ capl := by
    obtain ⟨h0, a', cap', e, h1, h2, h3, h4⟩ := hL
    cases e
    exact h1
  have hla : (ys.take 40).length ≤ 40 := by rw [List.length_take]; omega
  have hlw : (xs.take 40).length ≤ 40 := by rw [List.length_take]; omega
  clear hI hL hn
  have FEW := Lib.hid fun W (hB : Below w.heap.size w W) => Try.few_any a n cap xs HN.out W (RowAt.below HI.out hB)
  by_cases h40 : nl ≤ 40
  · have hQ : AccsAt w (.slice al nl capl) (ys.take 40) := by
      have h := accs_cut HNL.out HL.out nl (Nat.le_refl _)
      rw [List.take_of_length_le (by omega)] at h
      rw [List.take_of_length_le (by omega)]
      exact h
    have hM : nl = (ys.take 40).length := by rw [List.length_take]; omega
    have HQ := Lib.hid hQ
    have HM := Lib.hid hM
    have f1 : (nl : Int) ≤ 40 := by omega
    have f2 : ¬ (40 : Int) < (nl : Int) := by omega
    have f3 : ¬ (capl : Int) < (nl : Int) := by omega
    clear hQ hM h40 hnl hcl
    generalize ys.take 40 = la at *
    generalize xs.take 40 = ws at *
    go_enter Try.func6, Try.ntmps6
    go_wp2_with fail
    refine (Try.wakes_any _).mono ?_
    rintro e w1 ⟨rfl, B1⟩
    go_wp2_with fail
    refine (FEW.out w1 B1).mono ?_
    rintro e w2 ⟨v, rfl, hO, B2⟩
    obtain ⟨_, a2, c2, rfl, _⟩ := rowAt_own hO
    have B02 := B1.trans (B2.mono B1.size)
    have HO := Lib.hid hO
    clear hO
    go_wp2_with fail
    have hq1 : (ws.length < 1 ∨ 8192 < ws.length) → errOf ws.length la = 120 := fun h => if_pos h
    have hq2 : ¬ (ws.length < 1 ∨ 8192 < ws.length) → errOf ws.length la = errRow ws.length la := fun h => if_neg h
    have hQ1 := Lib.hid hq1
    have hQ2 := Lib.hid hq2
    clear hq1 hq2
    refine (Try.Run_any ws la (by omega) _ _ w2 (rowAt_own HO.out) (RowAt.below HQ.out B02)).mono ?_
    rintro e w3 (⟨he, rfl, B3⟩ | ⟨he, v1, v2, v3, rfl, o1, o2, o3, B3⟩)
    · generalize errOf ws.length la = q at *
      have hd : (q != 0) = true := by simp [he]
      have HB3 := Lib.hid (B02.trans (B3.mono B02.size))
      clear he B3
      go_wp2_with fail
      go_ret
      exact ⟨rfl, HB3.out⟩
    · have hnb : ¬ (ws.length < 1 ∨ 8192 < ws.length) := fun h => by have := hQ1.out h; omega
      have hqr : errRow ws.length la = 0 := (hQ2.out hnb).symm.trans he
      have HQR := Lib.hid hqr
      obtain ⟨n1, n2, n3⟩ := runTo_lens ws la la.length (Nat.le_refl _)
      obtain ⟨_, a1, c1, rfl, _⟩ := rowAt_own o1
      obtain ⟨_, a3, c3, rfl, _⟩ := rowAt_own o2
      obtain ⟨_, a5, c5, rfl, _⟩ := rowAt_own o3
      have hbk := run_back ws la hqr la.length (Nat.le_refl _)
      have HSAY := Lib.hid (fun i => run_says ws la hqr i la.length (Nat.le_refl _))
      have O1 := Lib.hid o1
      have O2 := Lib.hid o2
      have O3 := Lib.hid o3
      have B03 := B02.trans (B3.mono B02.size)
      have q7 := RowAt.below (rowAt_own HO.out) B3
      have N1 := Lib.hid n1
      have N2 := Lib.hid n2
      have N3 := Lib.hid n3
      have HNB := Lib.hid hnb
      have HBK := Lib.hid hbk
      have hd0 : ((0 : Int) != 0) = false := rfl
      clear o1 o2 o3 B3 he hqr n1 n2 n3 hQ1 hQ2 hnb hbk
      generalize runTo ws la la.length = s at *
      go_wp2_with fail
      refine (Try.Back_any w2.heap.size s.ws _ _ s.marks (by have := N3.out; omega) w3 (rowAt_own O1.out) O3.out).mono ?_
      rintro e w4 (⟨hb, rfl, B4⟩ | ⟨hb, hn, rfl, B4⟩ | ⟨hb, ws', v', hs, rfl, o4, B4⟩)
      · exact absurd (by rw [← N1.out]; exact hb) HNB.out
      · rw [HBK.out] at hn
        cases hn
      · rw [HBK.out] at hs
        cases hs
        obtain ⟨_, a7, c7, rfl, _⟩ := rowAt_own o4
        have O4 := Lib.hid o4
        have HB4 := Lib.hid B4
        clear o4 B4
        have hB34 := HB4.out
        have hw3 := B03.size
        have B04 := B03.trans (hB34.mono hw3)
        have hsl : ((s.seens.length : Int) != (nl : Int)) = false := by
          have h1 := N2.out
          have h2 := HM.out
          simp
          omega
        go_wp2_with fail
        refine (Try.equalWords_any a7 a2 _ _ c7 c2 ws ws rfl rfl (by omega) (by omega) w4 (rowAt_own O4.out) (RowAt.below q7 hB34)).mono ?_
        rintro e w5 ⟨rfl, B5⟩
        have B35 := hB34.trans (B5.mono hB34.size)
        have B05 := B03.trans (B35.mono hw3)
        have HQ7 := Lib.hid q7
        clear B5 q7
        go_wp2_with fail
        go_loopw [12, 13, 14, 15, 67] (fun _ _ _ _ j wr => ∃ k : Nat, k ≤ ws.length ∧ j = .int .i64 k ∧ Below w5.heap.size w5 wr) (fun _ _ _ _ j _ => ws.length - (intOf j).toNat)
        case atStart => exact ⟨0, Nat.zero_le _, rfl, Below.refl _ _⟩
        case round =>
          obtain ⟨k, hk, rfl, hBr⟩ := hrel
          by_cases hlt : k < ws.length
          · have hki : (k : Int) < (ws.length : Int) := by omega
            have B3r := B35.trans (hBr.mono B35.size)
            have o3r := owns_keep O3.out B3r (Nat.le_refl _)
            have hsay := HSAY.out k
            unfold Says at hsay
            have hheld := fun (W : World) (hM : OwnsMarks w2.heap.size s.marks (.slice a5 s.marks.length c5) W) => Try.Held_any w2.heap.size _ s.marks (by have := N3.out; omega) k W hM
            have hlast := fun (W : World) (hM : OwnsMarks w2.heap.size s.marks (.slice a5 s.marks.length c5) W) => Try.Last_any w2.heap.size _ s.marks (by have := N3.out; omega) k W hM
            have HHELD := Lib.hid hheld
            have HLAST := Lib.hid hlast
            clear hheld hlast
            rcases hsay with ⟨g1, g2⟩ | ⟨m0, r, m1, r', j, g1, g2, g3, g4, g5, g6, g7, g8⟩
            · have hlo := lastOf_none g1
              have HLO := Lib.hid hlo
              have HG1 := Lib.hid g1
              clear hlo g1
              go_wp2_with fail
              refine (HHELD.out wr o3r).mono ?_
              rw [HG1.out]
              rintro e w6 ⟨vh, rfl, oh, B6⟩
              obtain ⟨_, ah, ch, rfl, _⟩ := rowAt_own oh
              have o3q := owns_keep o3r B6 (Nat.le_refl _)
              simp only [heldOf_nil, List.length_nil]
              clear oh
              go_wp2_with fail
              refine (HLAST.out w6 o3q).mono ?_
              rw [HLO.out]
              rintro e w7 ⟨rfl, B7⟩
              have B6r := B6.trans (B7.mono B6.size)
              have B37 := B3r.trans (B6r.mono B3r.size)
              obtain ⟨b1, off1, rfl, hb1, x1⟩ := wordsAt_get (RowAt.below (rowAt_own O1.out) B37) k (by have := N1.out; omega)
              obtain ⟨b2, off2, rfl, hb2, x2⟩ := wordsAt_get (RowAt.below HQ7.out B37) k hlt
              rw [g2] at x1
              have HB7 := Lib.hid (hBr.trans (B6r.mono hBr.size))
              have hn0 : (ws[k]?.getD 0 != ws[k]?.getD 0) = false := by simp
              have hks : (k : Int) < (s.ws.length : Int) := by have := N1.out; omega
              clear g2 B6 B7 B6r B37 o3q o3r B3r hBr
              generalize ws[k]?.getD 0 = z at *
              go_wp2_with fail
              go_quiet (fail)
              go_wp2_with fail
              go_quiet (fail)
              go_wp2_with fail
              exact ⟨⟨k + 1, by omega, by go_num, HB7.out.trans ⟨rfl, rfl, rfl, Nat.le_refl _, fun _ _ => rfl⟩⟩, by simp [intOf]; omega⟩
            · have hpos := heldOf_pos (s.marks.filter fun m => m.pl == (k : Int)) (by rw [g1]; simp)
              have hle := heldOf_length (s.marks.filter fun m => m.pl == (k : Int))
              have hfl := List.length_filter_le (fun m : Mk => m.pl == (k : Int)) s.marks
              have hlo := lastOf_some g2
              have hh0 := heldOf_first g1
              have hh1 := heldOf_last g2
              rw [g3] at hh0
              rw [g4] at hh1
              rw [g5] at hlo
              have hsm := N3.out
              obtain ⟨p, hp⟩ : ∃ p, (heldOf (s.marks.filter fun m => m.pl == (k : Int))).length = p + 1 := ⟨_, (Nat.sub_add_cancel hpos).symm⟩
              have hp1 : p ≤ 41 := by omega
              rw [hp, Nat.add_sub_cancel] at hh1
              have HLO := Lib.hid hlo
              have HH0 := Lib.hid hh0
              have HH1 := Lib.hid hh1
              have HP := Lib.hid hp
              have HG7 := Lib.hid g7
              have HG8 := Lib.hid g8
              clear hlo hh0 hh1 hp g1 g2 g3 g4 g5 g7 g8 hpos hle hfl hsm
              generalize hfq : (s.marks.filter fun m => m.pl == (k : Int)) = fq at HLO HH0 HH1 HP
              have HFQ := Lib.hid hfq
              clear hfq
              go_wp2_with fail
              refine (HHELD.out wr o3r).mono ?_
              rw [HFQ.out]
              rintro e w6 ⟨vh, rfl, oh, B6⟩
              obtain ⟨_, ah, ch, rfl, _⟩ := rowAt_own oh
              have o3q := owns_keep o3r B6 (Nat.le_refl _)
              have OH := Lib.hid oh
              clear oh
              go_wp2_with fail
              refine (HLAST.out w6 o3q).mono ?_
              rw [HLO.out]
              rintro e w7 ⟨rfl, B7⟩
              have B6r := B6.trans (B7.mono B6.size)
              have B37 := B3r.trans (B6r.mono B3r.size)
              have qh := RowAt.below (rowAt_own OH.out) B7
              obtain ⟨b0, off0, e0, hb0, x0⟩ := wordsAt_get qh 0 (by rw [HP.out]; omega)
              obtain ⟨b0', off0', e0', hb0', x0'⟩ := wordsAt_get qh p (by rw [HP.out]; omega)
              rw [e0] at e0'
              injection e0' with e0'
              injection e0' with e01 e02
              subst e01 e02
              rw [e0, HP.out]
              obtain ⟨b1, off1, rfl, hb1, x1⟩ := wordsAt_get (RowAt.below (rowAt_own O1.out) B37) k (by have := N1.out; omega)
              obtain ⟨b2, off2, rfl, hb2, x2⟩ := wordsAt_get (RowAt.below HQ7.out B37) k hlt
              obtain ⟨b3, off3, rfl, hb3, y0, y1, y2, y3, y4⟩ := accsAt_get (RowAt.below HQ.out (B05.trans ((hBr.trans (B6r.mono hBr.size)).mono B05.size))) j g6
              have hjk := HG7.out
              rw [List.getElem?_eq_getElem g6] at hjk
              injection hjk with hjk
              have hjk2 : la[j].pl = (k : Int) := hjk
              rw [hjk2] at y2
              have o2q := owns_keep O2.out B37 (Nat.le_refl _)
              have hj2 : j < s.seens.length := by rw [N2.out]; exact g6
              obtain ⟨g3, c3', e3, _, hg3⟩ := World.ownsRow.form o2q (by omega)
              injection e3 with e3 _ e3c
              subst e3 e3c
              have hv3 : w7.cell? ⟨g3, j * 2 + 1, none⟩ = some (.bool true) := by
                rw [World.ownsRow.cellAt o2q (j * 2 + 1) (by omega)]
                have h1 := flat_get seenCells 2 (fun _ => rfl) s.seens j 1 hj2 (by decide)
                have h2 := HG8.out
                rw [List.getElem?_eq_getElem hj2] at h2
                injection h2 with h2
                have h1' : (seenVals s.seens)[j * 2 + 1]? = (seenCells s.seens[j])[1]? := h1
                rw [h1']
                show some (Value.bool s.seens[j].2) = _
                rw [h2]
              rw [HH0.out] at x0
              rw [HH1.out] at x0'
              have HB7 := Lib.hid (hBr.trans (B6r.mono hBr.size))
              have hn0 : (ws[k]?.getD 0 != ws[k]?.getD 0) = false := by simp
              have hn1 : (s.ws[k]?.getD 0 != s.ws[k]?.getD 0) = false := by simp
              have hn2 : ((k : Int) != (k : Int)) = false := by simp
              have hks : (k : Int) < (s.ws.length : Int) := by have := N1.out; omega
              have hjn : (j : Int) < (nl : Int) := by have := HM.out; omega
              have hji : (j : Int) < (s.seens.length : Int) := by omega
              have hpi : ((p : Int) + 1 > 0) := by omega
              simp at x0
              clear B6 B7 B6r B37 o3q o3r B3r hBr qh o2q y0 y1 y3 y4 e0 hjk hjk2
              generalize ws[k]?.getD 0 = z at *
              generalize s.ws[k]?.getD 0 = z' at *
              go_wp2_with fail
              go_quiet (fail)
              go_wp2_with fail
              go_quiet (fail)
              go_wp2_with fail
              exact ⟨⟨k + 1, by omega, by go_num, HB7.out.trans ⟨rfl, rfl, rfl, Nat.le_refl _, fun _ _ => rfl⟩⟩, by simp [intOf]; omega⟩
          · obtain rfl : k = ws.length := by omega
            have HBR := Lib.hid (B05.trans (hBr.mono B05.size))
            clear hBr
            go_wp2_with fail
            go_ret
            exact ⟨rfl, HBR.out⟩
  · have hQ : AccsAt w (.slice al 40 capl) (ys.take 40) := accs_cut HNL.out HL.out 40 (by omega)
    have hM : 40 = (ys.take 40).length := by rw [List.length_take]; omega
    have HQ := Lib.hid hQ
    have HM := Lib.hid hM
    have f1 : ¬ (nl : Int) ≤ 40 := by omega
    have f2 : ¬ (nl : Int) < 40 := by omega
    have f4 : (40 : Int) < (nl : Int) := by omega
    have f5 : (40 : Nat) ≤ capl := by omega
    have f3 : ¬ (capl : Int) < 40 := by omega
    clear hQ hM h40 hnl hcl
    generalize ys.take 40 = la at *
    generalize xs.take 40 = ws at *
    go_enter Try.func6, Try.ntmps6
    go_wp2_with fail
    refine (Try.wakes_any _).mono ?_
    rintro e w1 ⟨rfl, B1⟩
    go_wp2_with fail
    refine (FEW.out w1 B1).mono ?_
    rintro e w2 ⟨v, rfl, hO, B2⟩
    obtain ⟨_, a2, c2, rfl, _⟩ := rowAt_own hO
    have B02 := B1.trans (B2.mono B1.size)
    have HO := Lib.hid hO
    clear hO
    go_wp2_with fail
    have hq1 : (ws.length < 1 ∨ 8192 < ws.length) → errOf ws.length la = 120 := fun h => if_pos h
    have hq2 : ¬ (ws.length < 1 ∨ 8192 < ws.length) → errOf ws.length la = errRow ws.length la := fun h => if_neg h
    have hQ1 := Lib.hid hq1
    have hQ2 := Lib.hid hq2
    clear hq1 hq2
    refine (Try.Run_any ws la (by omega) _ _ w2 (rowAt_own HO.out) (RowAt.below HQ.out B02)).mono ?_
    rintro e w3 (⟨he, rfl, B3⟩ | ⟨he, v1, v2, v3, rfl, o1, o2, o3, B3⟩)
    · generalize errOf ws.length la = q at *
      have hd : (q != 0) = true := by simp [he]
      have HB3 := Lib.hid (B02.trans (B3.mono B02.size))
      clear he B3
      go_wp2_with fail
      go_ret
      exact ⟨rfl, HB3.out⟩
    · have hnb : ¬ (ws.length < 1 ∨ 8192 < ws.length) := fun h => by have := hQ1.out h; omega
      have hqr : errRow ws.length la = 0 := (hQ2.out hnb).symm.trans he
      have HQR := Lib.hid hqr
      obtain ⟨n1, n2, n3⟩ := runTo_lens ws la la.length (Nat.le_refl _)
      obtain ⟨_, a1, c1, rfl, _⟩ := rowAt_own o1
      obtain ⟨_, a3, c3, rfl, _⟩ := rowAt_own o2
      obtain ⟨_, a5, c5, rfl, _⟩ := rowAt_own o3
      have hbk := run_back ws la hqr la.length (Nat.le_refl _)
      have HSAY := Lib.hid (fun i => run_says ws la hqr i la.length (Nat.le_refl _))
      have O1 := Lib.hid o1
      have O2 := Lib.hid o2
      have O3 := Lib.hid o3
      have B03 := B02.trans (B3.mono B02.size)
      have q7 := RowAt.below (rowAt_own HO.out) B3
      have N1 := Lib.hid n1
      have N2 := Lib.hid n2
      have N3 := Lib.hid n3
      have HNB := Lib.hid hnb
      have HBK := Lib.hid hbk
      have hd0 : ((0 : Int) != 0) = false := rfl
      clear o1 o2 o3 B3 he hqr n1 n2 n3 hQ1 hQ2 hnb hbk
      generalize runTo ws la la.length = s at *
      go_wp2_with fail
      refine (Try.Back_any w2.heap.size s.ws _ _ s.marks (by have := N3.out; omega) w3 (rowAt_own O1.out) O3.out).mono ?_
      rintro e w4 (⟨hb, rfl, B4⟩ | ⟨hb, hn, rfl, B4⟩ | ⟨hb, ws', v', hs, rfl, o4, B4⟩)
      · exact absurd (by rw [← N1.out]; exact hb) HNB.out
      · rw [HBK.out] at hn
        cases hn
      · rw [HBK.out] at hs
        cases hs
        obtain ⟨_, a7, c7, rfl, _⟩ := rowAt_own o4
        have O4 := Lib.hid o4
        have HB4 := Lib.hid B4
        clear o4 B4
        have hB34 := HB4.out
        have hw3 := B03.size
        have B04 := B03.trans (hB34.mono hw3)
        have hsl : ((s.seens.length : Int) != (40 : Int)) = false := by
          have h1 := N2.out
          have h2 := HM.out
          simp
          omega
        go_wp2_with fail
        refine (Try.equalWords_any a7 a2 _ _ c7 c2 ws ws rfl rfl (by omega) (by omega) w4 (rowAt_own O4.out) (RowAt.below q7 hB34)).mono ?_
        rintro e w5 ⟨rfl, B5⟩
        have B35 := hB34.trans (B5.mono hB34.size)
        have B05 := B03.trans (B35.mono hw3)
        have HQ7 := Lib.hid q7
        clear B5 q7
        go_wp2_with fail
        go_loopw [12, 13, 14, 15, 67] (fun _ _ _ _ j wr => ∃ k : Nat, k ≤ ws.length ∧ j = .int .i64 k ∧ Below w5.heap.size w5 wr) (fun _ _ _ _ j _ => ws.length - (intOf j).toNat)
        case atStart => exact ⟨0, Nat.zero_le _, rfl, Below.refl _ _⟩
        case round =>
          obtain ⟨k, hk, rfl, hBr⟩ := hrel
          by_cases hlt : k < ws.length
          · have hki : (k : Int) < (ws.length : Int) := by omega
            have B3r := B35.trans (hBr.mono B35.size)
            have o3r := owns_keep O3.out B3r (Nat.le_refl _)
            have hsay := HSAY.out k
            unfold Says at hsay
            have hheld := fun (W : World) (hM : OwnsMarks w2.heap.size s.marks (.slice a5 s.marks.length c5) W) => Try.Held_any w2.heap.size _ s.marks (by have := N3.out; omega) k W hM
            have hlast := fun (W : World) (hM : OwnsMarks w2.heap.size s.marks (.slice a5 s.marks.length c5) W) => Try.Last_any w2.heap.size _ s.marks (by have := N3.out; omega) k W hM
            have HHELD := Lib.hid hheld
            have HLAST := Lib.hid hlast
            clear hheld hlast
            rcases hsay with ⟨g1, g2⟩ | ⟨m0, r, m1, r', j, g1, g2, g3, g4, g5, g6, g7, g8⟩
            · have hlo := lastOf_none g1
              have HLO := Lib.hid hlo
              have HG1 := Lib.hid g1
              clear hlo g1
              go_wp2_with fail
              refine (HHELD.out wr o3r).mono ?_
              rw [HG1.out]
              rintro e w6 ⟨vh, rfl, oh, B6⟩
              obtain ⟨_, ah, ch, rfl, _⟩ := rowAt_own oh
              have o3q := owns_keep o3r B6 (Nat.le_refl _)
              simp only [heldOf_nil, List.length_nil]
              clear oh
              go_wp2_with fail
              refine (HLAST.out w6 o3q).mono ?_
              rw [HLO.out]
              rintro e w7 ⟨rfl, B7⟩
              have B6r := B6.trans (B7.mono B6.size)
              have B37 := B3r.trans (B6r.mono B3r.size)
              obtain ⟨b1, off1, rfl, hb1, x1⟩ := wordsAt_get (RowAt.below (rowAt_own O1.out) B37) k (by have := N1.out; omega)
              obtain ⟨b2, off2, rfl, hb2, x2⟩ := wordsAt_get (RowAt.below HQ7.out B37) k hlt
              rw [g2] at x1
              have HB7 := Lib.hid (hBr.trans (B6r.mono hBr.size))
              have hn0 : (ws[k]?.getD 0 != ws[k]?.getD 0) = false := by simp
              have hks : (k : Int) < (s.ws.length : Int) := by have := N1.out; omega
              clear g2 B6 B7 B6r B37 o3q o3r B3r hBr
              generalize ws[k]?.getD 0 = z at *
              go_wp2_with fail
              go_quiet (fail)
              go_wp2_with fail
              go_quiet (fail)
              go_wp2_with fail
              exact ⟨⟨k + 1, by omega, by go_num, HB7.out.trans ⟨rfl, rfl, rfl, Nat.le_refl _, fun _ _ => rfl⟩⟩, by simp [intOf]; omega⟩
            · have hpos := heldOf_pos (s.marks.filter fun m => m.pl == (k : Int)) (by rw [g1]; simp)
              have hle := heldOf_length (s.marks.filter fun m => m.pl == (k : Int))
              have hfl := List.length_filter_le (fun m : Mk => m.pl == (k : Int)) s.marks
              have hlo := lastOf_some g2
              have hh0 := heldOf_first g1
              have hh1 := heldOf_last g2
              rw [g3] at hh0
              rw [g4] at hh1
              rw [g5] at hlo
              have hsm := N3.out
              obtain ⟨p, hp⟩ : ∃ p, (heldOf (s.marks.filter fun m => m.pl == (k : Int))).length = p + 1 := ⟨_, (Nat.sub_add_cancel hpos).symm⟩
              have hp1 : p ≤ 41 := by omega
              rw [hp, Nat.add_sub_cancel] at hh1
              have HLO := Lib.hid hlo
              have HH0 := Lib.hid hh0
              have HH1 := Lib.hid hh1
              have HP := Lib.hid hp
              have HG7 := Lib.hid g7
              have HG8 := Lib.hid g8
              clear hlo hh0 hh1 hp g1 g2 g3 g4 g5 g7 g8 hpos hle hfl hsm
              generalize hfq : (s.marks.filter fun m => m.pl == (k : Int)) = fq at HLO HH0 HH1 HP
              have HFQ := Lib.hid hfq
              clear hfq
              go_wp2_with fail
              refine (HHELD.out wr o3r).mono ?_
              rw [HFQ.out]
              rintro e w6 ⟨vh, rfl, oh, B6⟩
              obtain ⟨_, ah, ch, rfl, _⟩ := rowAt_own oh
              have o3q := owns_keep o3r B6 (Nat.le_refl _)
              have OH := Lib.hid oh
              clear oh
              go_wp2_with fail
              refine (HLAST.out w6 o3q).mono ?_
              rw [HLO.out]
              rintro e w7 ⟨rfl, B7⟩
              have B6r := B6.trans (B7.mono B6.size)
              have B37 := B3r.trans (B6r.mono B3r.size)
              have qh := RowAt.below (rowAt_own OH.out) B7
              obtain ⟨b0, off0, e0, hb0, x0⟩ := wordsAt_get qh 0 (by rw [HP.out]; omega)
              obtain ⟨b0', off0', e0', hb0', x0'⟩ := wordsAt_get qh p (by rw [HP.out]; omega)
              rw [e0] at e0'
              injection e0' with e0'
              injection e0' with e01 e02
              subst e01 e02
              rw [e0, HP.out]
              obtain ⟨b1, off1, rfl, hb1, x1⟩ := wordsAt_get (RowAt.below (rowAt_own O1.out) B37) k (by have := N1.out; omega)
              obtain ⟨b2, off2, rfl, hb2, x2⟩ := wordsAt_get (RowAt.below HQ7.out B37) k hlt
              obtain ⟨b3, off3, rfl, hb3, y0, y1, y2, y3, y4⟩ := accsAt_get (RowAt.below HQ.out (B05.trans ((hBr.trans (B6r.mono hBr.size)).mono B05.size))) j g6
              have hjk := HG7.out
              rw [List.getElem?_eq_getElem g6] at hjk
              injection hjk with hjk
              have hjk2 : la[j].pl = (k : Int) := hjk
              rw [hjk2] at y2
              have o2q := owns_keep O2.out B37 (Nat.le_refl _)
              have hj2 : j < s.seens.length := by rw [N2.out]; exact g6
              obtain ⟨g3, c3', e3, _, hg3⟩ := World.ownsRow.form o2q (by omega)
              injection e3 with e3 _ e3c
              subst e3 e3c
              have hv3 : w7.cell? ⟨g3, j * 2 + 1, none⟩ = some (.bool true) := by
                rw [World.ownsRow.cellAt o2q (j * 2 + 1) (by omega)]
                have h1 := flat_get seenCells 2 (fun _ => rfl) s.seens j 1 hj2 (by decide)
                have h2 := HG8.out
                rw [List.getElem?_eq_getElem hj2] at h2
                injection h2 with h2
                have h1' : (seenVals s.seens)[j * 2 + 1]? = (seenCells s.seens[j])[1]? := h1
                rw [h1']
                show some (Value.bool s.seens[j].2) = _
                rw [h2]
              rw [HH0.out] at x0
              rw [HH1.out] at x0'
              have HB7 := Lib.hid (hBr.trans (B6r.mono hBr.size))
              have hn0 : (ws[k]?.getD 0 != ws[k]?.getD 0) = false := by simp
              have hn1 : (s.ws[k]?.getD 0 != s.ws[k]?.getD 0) = false := by simp
              have hn2 : ((k : Int) != (k : Int)) = false := by simp
              have hks : (k : Int) < (s.ws.length : Int) := by have := N1.out; omega
              have hjn : (j : Int) < (nl : Int) := by have := HM.out; omega
              have hji : (j : Int) < (s.seens.length : Int) := by omega
              have hpi : ((p : Int) + 1 > 0) := by omega
              simp at x0
              clear B6 B7 B6r B37 o3q o3r B3r hBr qh o2q y0 y1 y3 y4 e0 hjk hjk2
              generalize ws[k]?.getD 0 = z at *
              generalize s.ws[k]?.getD 0 = z' at *
              go_wp2_with fail
              go_quiet (fail)
              go_wp2_with fail
              go_quiet (fail)
              go_wp2_with fail
              exact ⟨⟨k + 1, by omega, by go_num, HB7.out.trans ⟨rfl, rfl, rfl, Nat.le_refl _, fun _ _ => rfl⟩⟩, by simp [intOf]; omega⟩
          · obtain rfl : k = ws.length := by omega
            have HBR := Lib.hid (B05.trans (hBr.mono B05.size))
            clear hBr
            go_wp2_with fail
            go_ret
            exact ⟨rfl, HBR.out⟩
theorem laidOut : laidOutB Try.prog = true := by kernel_rfl
set_option maxRecDepth 100000 in
theorem lifted (os : Os) (started : os.Started) (H : Type) (enc : TypeId × Value → H) :
    ReturnsInHanded {} Try.checked os 6 .any (Rows.cellsBackSpec.pre6 enc Try.prog Try.f6 Rows.cellsBackRow.domain false) (Rows.cellsBackSpec.post enc Try.prog Try.f6 false true false false) := by
  refine returnsInHanded_of_change (C := Try.checked) own started (by kernel_rfl) Try.func6
    (ChangeSpec.witness6 (enc := enc) (C := Try.checked) false ⟨#[], #[.slice none 0 0, .slice none 0 0], []⟩ 8 (by kernel_rfl) (by kernel_rfl) (by kernel_rfl) (by kernel_rfl)) ?_
  intro W base args ds gs before hval0 hW hcnd _
  have hval : ∀ (j : Nat) t v, Try.f6.params[j]? = some t → args[j]? = some v → Value.okWide Try.prog W .any base t v := hval0
  have hW' := hW
  obtain ⟨p, q, hA0, hV, rfl, hfz, hnd⟩ := hW
  have hA : DataW.TrodAll enc Try.prog W 0 (fun _ => true) true Try.f6.params.toList args.toList ds p := hA0
  rw [Try.params6] at hA hval
  obtain ⟨v0, vs0, d0, ds0, p0, q0, hargs, rfl, rfl, h0, r0⟩ := trodAll_cons hA
  obtain ⟨v1, vs1, d1, ds1, p1, q1, rfl, rfl, rfl, h1, r1⟩ := trodAll_cons r0
  obtain ⟨rfl, rfl, rfl⟩ := trodAll_nil r1
  obtain rfl : args = #[v0, v1] := by cases args; simp_all
  obtain ⟨rfl, rfl⟩ := trodVars_none hV
  obtain ⟨a0, len0, cap0, rfl⟩ := okWide_slice Try.underlying22 (hval 0 22 v0 rfl rfl)
  have k0 := h0
  have lt0 : ∀ x ∈ p0, x.block < W.heap.size := by obtain ⟨m, hm⟩ := k0; exact DataW.trod_lt m _ _ _ hm
  obtain ⟨z0, n0, w0⟩ : ∃ zs, len0 = zs.length ∧ WordsAt W (.slice a0 len0 cap0) zs := by
    obtain ⟨fuel, hf⟩ := h0
    exact open_words hf
  obtain ⟨a1, len1, cap1, rfl⟩ := okWide_slice Try.underlying23 (hval 1 23 v1 rfl rfl)
  have k1 := h1
  have lt1 : ∀ x ∈ p1, x.block < W.heap.size := by obtain ⟨m, hm⟩ := k1; exact DataW.trod_lt m _ _ _ hm
  obtain ⟨z1, n1, w1⟩ : ∃ zs, len1 = zs.length ∧ AccsAt W (.slice a1 len1 cap1) zs := by
    obtain ⟨fuel, hf⟩ := h1
    exact open_accs hf
  clear hA0 hval0
  refine (walk a0 len0 cap0 z0 a1 len1 cap1 z1 W n0 w0 n1 w1).mono fun e W' ⟨he, bel⟩ => ?_
  subst he
  exact ⟨_, rfl, _, _, _, [], _, [], hW', trodAll_mk1 (shut_bool Try.underlying4 _), (trodAll_cons_mk (Below.trod laidOut (by kernel_rfl) (of_decide_eq_true (by kernel_rfl)) k0 bel lt0) (trodAll_cons_mk (Below.trod laidOut (by kernel_rfl) (of_decide_eq_true (by kernel_rfl)) k1 bel lt1) trodAll_mk0)), rfl, bel.frame _, fun h => by cases h⟩

theorem over : Rows.cellsBackRow.holds Try.pinned (OpenSpec.ofChange Rows.cellsBackSpec) :=
  OpenClaim.holds_of_wide 6 Try.f6 rfl rfl rfl rfl rfl rfl rfl ⟨rfl, rfl, rfl, rfl, rfl⟩ rfl rfl rfl rfl rfl (by kernel_rfl) Try.func6 (by kernel_rfl)
    (of_decide_eq_true (by kernel_rfl)) (by unfold Func.isWrapper; first | (rw [if_pos (by decide +kernel)]; kernel_rfl) | (rw [if_neg (by decide +kernel)]; exact ⟨rfl, rfl⟩))
    (fun os started H enc _ => lifted os started H enc)

theorem proved : Rows.CellsBackSaid := over
end Go.Proofs.Ytafccppobhhelaa.cellsBack
