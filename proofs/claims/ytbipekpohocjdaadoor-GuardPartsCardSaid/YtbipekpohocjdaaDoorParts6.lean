/- Proved: for every row of sections, every look and every number, honeycomblaw06.GuardParts returns true, and its arguments read as they did; the listed variable reads as the program's text lays it. -/
import Derived.Test.YtbipekpohocjdaaDoorGn
import Derived.SevenTiedAt
import Derived.Stop.Joined
import Derived.Test.YtbipekpohocjdaaDoorCards
import Derived.Test.YtbipekpohocjdaaDoorTie
namespace Go.Proofs.YtbipekpohocjdaaDoor.guardParts
open Go.ChangeShapes Go.WideShapes Go.ChangeAt Go.RowKit Go.Shelf
attribute [local go_sem] Oper.semAt_some

theorem clearR_look {l : List (Int × Int)} {a b : Int} (hr : rightB l = true) (h : 0 ≤ a ∧ a ≤ b ∧ b ≤ 1073741824) : clearR l a b = clearB l a b := by
  unfold clearR
  rw [hr, show lookB a b = true from decide_eq_true h, Bool.true_and, Bool.true_and]

set_option maxRecDepth 100000 in
set_option maxHeartbeats 8000000 in
theorem walk (a : Option Addr) (len cap : Nat) (zs : List (Int × Int)) (f g cut : Int) (w : World) (hT : TwoAt w) (hn : len = zs.length) (hI : PAt w (.slice a len cap) zs) (_ : (Lit.int .i64 f).wf = true) (_ : (Lit.int .i64 g).wf = true) (_ : (Lit.int .i64 cut).wf = true) :
    Calls Tryd.prog 6 #[.slice a len cap, .agg #[.int .i64 f, .int .i64 g], .int .i64 cut] w fun e w' => e = .returned (.bool true) ∧ Below w.heap.size w w' := by
  have hB0 : Below w.heap.size w (w.alloc (.cells #[.int .i64 f, .int .i64 g] 44)) := Rows8.newB
  have hk0 := Rows8.new w 44 #[.int .i64 f, .int .i64 g]
  have HW := Lib.hid (Tryd.wakes_any _ (hT.below hB0))
  have HF := fun w' (hB : Below w.heap.size w w') => Lib.hid (Tryd.few_any a len cap zs w' (hI.below hB))
  obtain ⟨l, hl⟩ : ∃ l, l = zs.take 16 := ⟨_, rfl⟩
  have hl16 : l.length ≤ 16 := by rw [hl, List.length_take]; omega
  rw [← hl] at HF
  have HB0 := Lib.hid hB0
  have HK0 := Lib.hid hk0
  clear hl hn hB0 hk0 hI
  obtain ⟨m, hm⟩ : ∃ m, m = l.length := ⟨_, rfl⟩
  rw [← hm] at hl16
  go_enter Tryd.func6, Tryd.ntmps6
  go_wp2_with fail
  refine HW.out.mono ?_
  rintro e w1 ⟨rfl, hB⟩
  have HK1 := Lib.hid (HK0.out.below hB HK0.out.lt)
  have HB1 := Lib.hid (HB0.out.trans (hB.mono HB0.out.size))
  clear hB HW
  go_wp2_with fail
  refine (HF _ HB1.out).out.mono ?_
  rintro e w2 ⟨b, c, rfl, hP, hB⟩
  have hk2 := HK1.out.below hB HK1.out.lt
  have k20 := hk2.cell 0
  have k21 := hk2.cell 1
  simp at k20 k21
  have HB2 := Lib.hid (HB1.out.trans (hB.mono HB1.out.size))
  rw [← hm] at hP ⊢
  have HP2 := Lib.hid hP
  have HK2 := Lib.hid hk2
  clear hB hP hk2 hm HF
  have HS := Lib.hid (Tryd.Spans_any f g b m c l (by omega) w2 HP2.out)
  go_wp2_with fail
  refine HS.out.mono ?_
  rintro e w4 ⟨y, cy, rfl, hY, hB⟩
  have hk4 := HK2.out.below hB HK2.out.lt
  have k40 := hk4.cell 0
  have k41 := hk4.cell 1
  simp at k40 k41
  have HB4 := Lib.hid (HB2.out.trans (hB.mono HB2.out.size))
  have HP4 := Lib.hid (HP2.out.below hB)
  have HK4 := Lib.hid hk4
  have hE : spansE l f g = if rightB l = true then (if lookB f g = true then 0 else 2) else 160 := rfl
  clear hB hk4 HS HP2 HK2 k20 k21
  by_cases h0 : rightB l = true ∧ lookB f g = true
  · obtain ⟨hr, hlk⟩ := h0
    rw [hr, hlk, if_pos rfl, if_pos rfl] at hE
    rw [spansR_ok hE] at hY ⊢
    rw [hE]
    have hfg : 0 ≤ f ∧ f ≤ g ∧ g ≤ 1073741824 := by simpa [lookB] using hlk
    have hparts := parts hr hfg.1 hfg.2.1 hfg.2.2
    have hsl := spansB_len l f g
    clear hE hlk
    generalize spansB l f g = S at *
    obtain ⟨sn, hsn⟩ : ∃ sn, sn = S.length := ⟨_, rfl⟩
    rw [← hsn] at hY ⊢
    have HSN := Lib.hid hsn
    have HY := Lib.hid hY
    have hns := (pAt_len hY).2
    have HR := Lib.hid hr
    have hml : m = l.length := (pAt_len HP4.out).1
    have hsb : sn ≤ 17 := by omega
    have HCL := fun p q w' (hB : Below w4.heap.size w4 w') => Lib.hid (Tryd.Clear_any p q b m c l (by omega) w' (HP4.out.below hB))
    have HNX := fun z w' (hB : Below w4.heap.size w4 w') => Lib.hid (Tryd.Next_any z b m c l w' (HP4.out.below hB))
    have HKB := Lib.hid (fun w' (hB : Below w4.heap.size w4 w') => (⟨(hB.cell (p := ⟨w.heap.size, 0, none⟩) HK4.out.lt).trans k40, (hB.cell (p := ⟨w.heap.size, 1, none⟩) HK4.out.lt).trans k41⟩ : w'.cell? ⟨w.heap.size, 0, none⟩ = some (.int .i64 f) ∧ w'.cell? ⟨w.heap.size, 1, none⟩ = some (.int .i64 g)))
    obtain ⟨h0f, hfg1, hg30⟩ := hfg
    have HPB := Lib.hid HP4.out
    clear hr hsn hY hsl hml HP4
    go_wp2_with fail
    go_loopw [10, 40] (fun xv jv wr => ∃ (k : Nat) (x : Int), k ≤ sn ∧ jv = .int .i64 k ∧ xv = .int .i64 x ∧ f ≤ x ∧ x ≤ 1073741825 ∧ Hid (PartsP l f g x (S.drop k)) ∧ Below w4.heap.size w4 wr) (fun _ jv _ => sn - (intOf jv).toNat)
    case atStart => exact ⟨0, f, Nat.zero_le _, rfl, rfl, Int.le_refl _, by omega, Lib.hid hparts, Below.refl _ _⟩
    case round =>
      obtain ⟨k, x, hk, rfl, rfl, hfx, hxm, hPP, hB⟩ := hrel
      clear k40 k41
      by_cases hlt : k < sn
      · have hkl : k < S.length := by rw [← HSN.out]; exact hlt
        obtain ⟨yb, yo, rfl, hyb, p0, p1⟩ := pAt_get (HY.out.below hB) k hkl
        have hpp := hPP.out
        rw [drop_next S k hkl] at hpp
        rcases hs : S[k] with ⟨s1, s2⟩
        rw [hs] at p0 p1 hpp
        dsimp only at p0 p1
        obtain ⟨q1, q2, q3, q4, q5, q6, q7, q8⟩ := hpp
        dsimp only at q1 q2 q3 q4 q5 q6 q7 q8
        obtain ⟨kb0, kb1⟩ := HKB.out wr hB
        have hltw : w.heap.size < wr.heap.size := Nat.lt_of_lt_of_le HK4.out.lt hB.size
        have hki : (k : Int) < (sn : Int) := by omega
        have hBn : Below wr.heap.size wr (wr.alloc (.cells #[.int .i64 s1, .int .i64 s2] 44)) := Rows8.newB
        have hbn := Rows8.new wr 44 #[.int .i64 s1, .int .i64 s2]
        have HB1 := Lib.hid (hB.trans (hBn.mono hB.size))
        have z0 := hbn.cell 0
        have z1 := hbn.cell 1
        have hzl := hbn.lt
        have hkl4 := Nat.lt_of_lt_of_le HK4.out.lt HB1.out.size
        obtain ⟨kc0, kc1⟩ := HKB.out _ HB1.out
        have HKC := Lib.hid (fun w' (hB : Below (wr.alloc (.cells #[.int .i64 s1, .int .i64 s2] 44)).heap.size (wr.alloc (.cells #[.int .i64 s1, .int .i64 s2] 44)) w') => (⟨(hB.cell (p := ⟨wr.heap.size, 0, none⟩) hzl).trans z0, (hB.cell (p := ⟨wr.heap.size, 1, none⟩) hzl).trans z1, (hB.cell (p := ⟨w.heap.size, 0, none⟩) hkl4).trans kc0, (hB.cell (p := ⟨w.heap.size, 1, none⟩) hkl4).trans kc1⟩ : w'.cell? ⟨wr.heap.size, 0, none⟩ = some (.int .i64 s1) ∧ w'.cell? ⟨wr.heap.size, 1, none⟩ = some (.int .i64 s2) ∧ w'.cell? ⟨w.heap.size, 0, none⟩ = some (.int .i64 f) ∧ w'.cell? ⟨w.heap.size, 1, none⟩ = some (.int .i64 g)))
        have HCL := fun p q w' (hB : Below (wr.alloc (.cells #[.int .i64 s1, .int .i64 s2] 44)).heap.size (wr.alloc (.cells #[.int .i64 s1, .int .i64 s2] 44)) w') => HCL p q w' (HB1.out.trans (hB.mono HB1.out.size))
        have HNX := fun w' (hB : Below (wr.alloc (.cells #[.int .i64 s1, .int .i64 s2] 44)).heap.size (wr.alloc (.cells #[.int .i64 s1, .int .i64 s2] 44)) w') => HNX x w' (HB1.out.trans (hB.mono HB1.out.size))
        have hnE : nextE l x = 0 := by unfold nextE; rw [if_pos HR.out, if_pos (show stepB x = true from decide_eq_true (by omega)), q7]
        have hnR : nextR l x = s1 := by unfold nextR; rw [if_pos HR.out, if_pos (show stepB x = true from decide_eq_true (by omega)), q7]
        rw [hnE, hnR] at HNX
        have hCs : clearR l s1 s2 = true := by rw [clearR_look HR.out (by omega)]; exact q4
        have HNA := Lib.hid (fun h1 : f < s1 => (by rw [clearR_look HR.out (by omega)]; exact q5 h1 : clearR l (s1 - 1) (s1 - 1) = false))
        have HNB := Lib.hid (fun h2 : s2 < g => (by rw [clearR_look HR.out (by omega)]; exact q6 h2 : clearR l (s2 + 1) (s2 + 1) = false))
        -- the step in between
        obtain ⟨U, hU⟩ : ∃ U, U = IntKind.u64.wrap cut := ⟨_, rfl⟩
        have hU0 : 0 ≤ U := by rw [hU]; simp [IntKind.wrap, IntKind.bits, IntKind.signed]; omega
        obtain ⟨D, hD⟩ : ∃ D, D = s2 - s1 + 1 := ⟨_, rfl⟩
        have hD0 : 0 < D := by omega
        obtain ⟨R, hR⟩ : ∃ R, R = U % D := ⟨_, rfl⟩
        have hR0 : 0 ≤ R := by rw [hR]; exact Int.emod_nonneg _ (by omega)
        have hRD : R < D := by rw [hR]; exact Int.emod_lt_of_pos _ hD0
        obtain ⟨m0, hm0⟩ : ∃ m0, m0 = s1 + R := ⟨_, rfl⟩
        have HMA := Lib.hid (by rw [clearR_look HR.out (by omega)]; exact clear_part HR.out q4 (Int.le_refl _) (by omega) (by omega) : clearR l s1 m0 = true)
        have HMB := Lib.hid (by rw [clearR_look HR.out (by omega)]; exact clear_part HR.out q4 (by omega) (by omega) (Int.le_refl _) : clearR l m0 s2 = true)
        have HPN := Lib.hid q8
        have w1' : IntKind.i64.wrap (s2 - s1) = s2 - s1 := IntWalk.i64_in _ (by omega)
        have w2' : IntKind.i64.wrap (s2 - s1 + 1) = D := by rw [← hD]; exact IntWalk.i64_in _ (by omega)
        have w3' : IntKind.u64.wrap D = D := by simp [IntKind.wrap, IntKind.bits, IntKind.signed]; omega
        have w4' : U.tmod D = R := by rw [hR]; exact Int.tmod_eq_emod_of_nonneg hU0
        have w5' : IntKind.i64.wrap R = R := IntWalk.i64_in _ (by omega)
        have w6' : IntKind.i64.wrap (s1 + R) = m0 := by rw [← hm0]; exact IntWalk.i64_in _ (by omega)
        have w7' : IntKind.i64.wrap (s1 - 1) = s1 - 1 := IntWalk.i64_in _ (by omega)
        have w8' : IntKind.i64.wrap (s2 + 1) = s2 + 1 := IntWalk.i64_in _ (by omega)
        have hDn : ¬ D = 0 := by omega
        have hxs : ¬ s1 < x := by omega
        have hss : ¬ s2 < s1 := by omega
        have hsg : ¬ g < s2 := by omega
        have hU' := hU.symm
        clear hU
        clear q4 q5 q6 q7 q8 hnE hnR hPP hbn hBn z0 z1 kc0 kc1 hs hR hm0 hD hkl hB
        go_wp2_with fail
        generalize wr.alloc (.cells #[.int .i64 s1, .int .i64 s2] 44) = W1 at *
        have HC1 := HCL s1 s2 W1 (Below.refl _ _)
        rw [hCs] at HC1
        refine HC1.out.mono ?_
        rintro e w2 ⟨rfl, hB⟩
        have HB2 := Lib.hid hB
        clear hB HC1 kb0 kb1 p0 p1
        by_cases h1 : f < s1
        · by_cases h2 : s2 < g
          · skip
            have HX := HCL (s1 - 1) (s1 - 1) w2 HB2.out
            rw [HNA.out h1] at HX
            obtain ⟨k20, k21, k22, k23⟩ := HKC.out _ HB2.out
            go_wp2_with fail
            refine HX.out.mono ?_
            rintro e w2b ⟨rfl, hB⟩
            have HB2b := Lib.hid (HB2.out.trans (hB.mono HB2.out.size))
            clear hB HX k20 k21 k22 k23
            have HX := HCL (s2 + 1) (s2 + 1) w2b HB2b.out
            rw [HNB.out h2] at HX
            obtain ⟨k20, k21, k22, k23⟩ := HKC.out _ HB2b.out
            go_wp2_with fail
            refine HX.out.mono ?_
            rintro e w3 ⟨rfl, hB⟩
            have HB3 := Lib.hid (HB2b.out.trans (hB.mono HB2b.out.size))
            clear hB HX k20 k21 k22 k23
            obtain ⟨k30, k31, k32, k33⟩ := HKC.out _ HB3.out
            go_wp2_with fail
            go_quiet (fail)
            generalize hw4 : w3.drewN _ = w4
            have HB4 := Lib.hid (show Below W1.heap.size W1 w4 by rw [← hw4]; exact below_drewN HB3.out _)
            have HCa := HCL s1 m0 w4 HB4.out
            rw [HMA.out] at HCa
            obtain ⟨k40, k41, k42, k43⟩ := HKC.out _ HB4.out
            clear hw4 k30 k31 k32 k33
            go_wp2_with fail
            refine HCa.out.mono ?_
            rintro e w5 ⟨rfl, hB⟩
            have HB5 := Lib.hid (HB4.out.trans (hB.mono HB4.out.size))
            have HCb := HCL m0 s2 w5 HB5.out
            rw [HMB.out] at HCb
            obtain ⟨k50, k51, k52, k53⟩ := HKC.out _ HB5.out
            clear hB k40 k41 k42 k43 HCa
            go_wp2_with fail
            refine HCb.out.mono ?_
            rintro e w6 ⟨rfl, hB⟩
            have HB6 := Lib.hid (HB5.out.trans (hB.mono HB5.out.size))
            have HN6 := HNX w6 HB6.out
            obtain ⟨k60, k61, k62, k63⟩ := HKC.out _ HB6.out
            clear hB k50 k51 k52 k53 HCb
            go_wp2_with fail
            refine HN6.out.mono ?_
            rintro e w7 ⟨rfl, hB⟩
            have HB7 := Lib.hid (HB6.out.trans (hB.mono HB6.out.size))
            obtain ⟨k70, k71, k72, k73⟩ := HKC.out _ HB7.out
            clear hB k60 k61 k62 k63 HN6
            go_wp2_with fail
            exact ⟨⟨k + 1, s2 + 1, by omega, by go_num, by first | rfl | go_num, by omega, by omega, HPN, HB1.out.trans (HB7.out.mono HB1.out.size)⟩, by simp [intOf]; omega⟩

          · skip
            have HX := HCL (s1 - 1) (s1 - 1) w2 HB2.out
            rw [HNA.out h1] at HX
            obtain ⟨k20, k21, k22, k23⟩ := HKC.out _ HB2.out
            go_wp2_with fail
            refine HX.out.mono ?_
            rintro e w2b ⟨rfl, hB⟩
            have HB2b := Lib.hid (HB2.out.trans (hB.mono HB2.out.size))
            clear hB HX k20 k21 k22 k23
            obtain ⟨w3, hw3⟩ : ∃ w3, w3 = w2b := ⟨_, rfl⟩
            have HB3 := Lib.hid (show Below W1.heap.size W1 w3 by rw [hw3]; exact HB2b.out)
            obtain ⟨k20, k21, k22, k23⟩ := HKC.out _ HB3.out
            rw [← hw3]
            clear hw3
            obtain ⟨k30, k31, k32, k33⟩ := HKC.out _ HB3.out
            go_wp2_with fail
            go_quiet (fail)
            generalize hw4 : w3.drewN _ = w4
            have HB4 := Lib.hid (show Below W1.heap.size W1 w4 by rw [← hw4]; exact below_drewN HB3.out _)
            have HCa := HCL s1 m0 w4 HB4.out
            rw [HMA.out] at HCa
            obtain ⟨k40, k41, k42, k43⟩ := HKC.out _ HB4.out
            clear hw4 k30 k31 k32 k33
            go_wp2_with fail
            refine HCa.out.mono ?_
            rintro e w5 ⟨rfl, hB⟩
            have HB5 := Lib.hid (HB4.out.trans (hB.mono HB4.out.size))
            have HCb := HCL m0 s2 w5 HB5.out
            rw [HMB.out] at HCb
            obtain ⟨k50, k51, k52, k53⟩ := HKC.out _ HB5.out
            clear hB k40 k41 k42 k43 HCa
            go_wp2_with fail
            refine HCb.out.mono ?_
            rintro e w6 ⟨rfl, hB⟩
            have HB6 := Lib.hid (HB5.out.trans (hB.mono HB5.out.size))
            have HN6 := HNX w6 HB6.out
            obtain ⟨k60, k61, k62, k63⟩ := HKC.out _ HB6.out
            clear hB k50 k51 k52 k53 HCb
            go_wp2_with fail
            refine HN6.out.mono ?_
            rintro e w7 ⟨rfl, hB⟩
            have HB7 := Lib.hid (HB6.out.trans (hB.mono HB6.out.size))
            obtain ⟨k70, k71, k72, k73⟩ := HKC.out _ HB7.out
            clear hB k60 k61 k62 k63 HN6
            go_wp2_with fail
            exact ⟨⟨k + 1, s2 + 1, by omega, by go_num, by first | rfl | go_num, by omega, by omega, HPN, HB1.out.trans (HB7.out.mono HB1.out.size)⟩, by simp [intOf]; omega⟩

        · by_cases h2 : s2 < g
          · skip
            have HX := HCL (s2 + 1) (s2 + 1) w2 HB2.out
            rw [HNB.out h2] at HX
            obtain ⟨k20, k21, k22, k23⟩ := HKC.out _ HB2.out
            go_wp2_with fail
            refine HX.out.mono ?_
            rintro e w3 ⟨rfl, hB⟩
            have HB3 := Lib.hid (HB2.out.trans (hB.mono HB2.out.size))
            clear hB HX k20 k21 k22 k23
            obtain ⟨k30, k31, k32, k33⟩ := HKC.out _ HB3.out
            go_wp2_with fail
            go_quiet (fail)
            generalize hw4 : w3.drewN _ = w4
            have HB4 := Lib.hid (show Below W1.heap.size W1 w4 by rw [← hw4]; exact below_drewN HB3.out _)
            have HCa := HCL s1 m0 w4 HB4.out
            rw [HMA.out] at HCa
            obtain ⟨k40, k41, k42, k43⟩ := HKC.out _ HB4.out
            clear hw4 k30 k31 k32 k33
            go_wp2_with fail
            refine HCa.out.mono ?_
            rintro e w5 ⟨rfl, hB⟩
            have HB5 := Lib.hid (HB4.out.trans (hB.mono HB4.out.size))
            have HCb := HCL m0 s2 w5 HB5.out
            rw [HMB.out] at HCb
            obtain ⟨k50, k51, k52, k53⟩ := HKC.out _ HB5.out
            clear hB k40 k41 k42 k43 HCa
            go_wp2_with fail
            refine HCb.out.mono ?_
            rintro e w6 ⟨rfl, hB⟩
            have HB6 := Lib.hid (HB5.out.trans (hB.mono HB5.out.size))
            have HN6 := HNX w6 HB6.out
            obtain ⟨k60, k61, k62, k63⟩ := HKC.out _ HB6.out
            clear hB k50 k51 k52 k53 HCb
            go_wp2_with fail
            refine HN6.out.mono ?_
            rintro e w7 ⟨rfl, hB⟩
            have HB7 := Lib.hid (HB6.out.trans (hB.mono HB6.out.size))
            obtain ⟨k70, k71, k72, k73⟩ := HKC.out _ HB7.out
            clear hB k60 k61 k62 k63 HN6
            go_wp2_with fail
            exact ⟨⟨k + 1, s2 + 1, by omega, by go_num, by first | rfl | go_num, by omega, by omega, HPN, HB1.out.trans (HB7.out.mono HB1.out.size)⟩, by simp [intOf]; omega⟩

          · skip
            obtain ⟨w3, hw3⟩ : ∃ w3, w3 = w2 := ⟨_, rfl⟩
            have HB3 := Lib.hid (show Below W1.heap.size W1 w3 by rw [hw3]; exact HB2.out)
            obtain ⟨k20, k21, k22, k23⟩ := HKC.out _ HB3.out
            rw [← hw3]
            clear hw3
            obtain ⟨k30, k31, k32, k33⟩ := HKC.out _ HB3.out
            go_wp2_with fail
            go_quiet (fail)
            generalize hw4 : w3.drewN _ = w4
            have HB4 := Lib.hid (show Below W1.heap.size W1 w4 by rw [← hw4]; exact below_drewN HB3.out _)
            have HCa := HCL s1 m0 w4 HB4.out
            rw [HMA.out] at HCa
            obtain ⟨k40, k41, k42, k43⟩ := HKC.out _ HB4.out
            clear hw4 k30 k31 k32 k33
            go_wp2_with fail
            refine HCa.out.mono ?_
            rintro e w5 ⟨rfl, hB⟩
            have HB5 := Lib.hid (HB4.out.trans (hB.mono HB4.out.size))
            have HCb := HCL m0 s2 w5 HB5.out
            rw [HMB.out] at HCb
            obtain ⟨k50, k51, k52, k53⟩ := HKC.out _ HB5.out
            clear hB k40 k41 k42 k43 HCa
            go_wp2_with fail
            refine HCb.out.mono ?_
            rintro e w6 ⟨rfl, hB⟩
            have HB6 := Lib.hid (HB5.out.trans (hB.mono HB5.out.size))
            have HN6 := HNX w6 HB6.out
            obtain ⟨k60, k61, k62, k63⟩ := HKC.out _ HB6.out
            clear hB k50 k51 k52 k53 HCb
            go_wp2_with fail
            refine HN6.out.mono ?_
            rintro e w7 ⟨rfl, hB⟩
            have HB7 := Lib.hid (HB6.out.trans (hB.mono HB6.out.size))
            obtain ⟨k70, k71, k72, k73⟩ := HKC.out _ HB7.out
            clear hB k60 k61 k62 k63 HN6
            go_wp2_with fail
            exact ⟨⟨k + 1, s2 + 1, by omega, by go_num, by first | rfl | go_num, by omega, by omega, HPN, HB1.out.trans (HB7.out.mono HB1.out.size)⟩, by simp [intOf]; omega⟩

      · obtain rfl : k = sn := by omega
        have hend := hPP.out
        rw [List.drop_of_length_le (Nat.le_of_eq HSN.out.symm)] at hend
        obtain ⟨kb0, kb1⟩ := HKB.out wr hB
        have HB1 := Lib.hid (HB4.out.trans (hB.mono HB4.out.size))
        have hN := fun (hx : x ≤ 1073741824) => Tryd.Next_any x b m c l wr (HPB.out.below hB)
        by_cases hgx : g < x
        · clear hend hN
          go_wp2_with fail
          go_ret
          exact ⟨rfl, HB1.out⟩
        · have hstep : stepB x = true := decide_eq_true (by omega)
          have hnE : nextE l x = (nextB l x).2 := by unfold nextE; rw [if_pos HR.out, if_pos hstep]
          have hnR : nextR l x = (nextB l x).1 := by unfold nextR; rw [if_pos HR.out, if_pos hstep]
          have hN := hN (by omega)
          rw [hnE, hnR] at hN
          rcases hend with h | h | ⟨h, h'⟩
          · exact absurd h hgx
          · rw [h] at hN
            have HN := Lib.hid hN
            clear hN hnE hnR hstep h
            go_wp2_with fail
            refine HN.out.mono ?_
            rintro e w5 ⟨rfl, hB5⟩
            have HB5 := Lib.hid (HB1.out.trans (hB5.mono HB1.out.size))
            clear hB5
            go_wp2_with fail
            go_ret
            exact ⟨rfl, HB5.out⟩
          · rw [h] at hN
            have HN := Lib.hid hN
            clear hN hnE hnR hstep h
            generalize (nextB l x).1 = nx at *
            go_wp2_with fail
            refine HN.out.mono ?_
            rintro e w5 ⟨rfl, hB5⟩
            have HB5 := Lib.hid (HB1.out.trans (hB5.mono HB1.out.size))
            have k51 := (HKB.out w5 (hB.trans (hB5.mono hB.size))).2
            clear hB5
            go_wp2_with fail
            go_ret
            exact ⟨by simp, HB5.out⟩
  · have hne : spansE l f g ≠ 0 := by
      rw [hE]
      intro h
      apply h0
      by_cases hr : rightB l = true
      · rw [if_pos hr] at h
        by_cases hlk : lookB f g = true
        · exact ⟨hr, hlk⟩
        · rw [if_neg hlk] at h; cases h
      · rw [if_neg hr] at h; cases h
    rw [spansR_err hne] at hY ⊢
    have hE2 : (spansE l f g != 0) = true := by simp [hne]
    clear hE h0 hne
    generalize spansE l f g = E at *
    simp only [List.length_nil]
    go_wp2_with fail
    go_ret
    exact ⟨rfl, HB4.out⟩
theorem own : ownKnob Tryd.prog.godebug = none := by kernel_rfl
theorem laidOut : laidOutB Tryd.prog = true := by kernel_rfl
set_option maxRecDepth 100000 in
theorem lifted (os : Os) (started : os.Started) (H : Type) (enc : TypeId × Value → H) :
    ReturnsInHanded {} Tryd.checked os 6 .any (fun w args => (Rows.guardPartsSpec.pre enc Tryd.prog Tryd.f6 [] false w args ∧ laidMetH Tryd.prog [("honeycomb/honeycomblaw06.two", Rows.laid_honeycomb_honeycomblaw06_two)] w) ∧ sizedMet enc Tryd.prog Tryd.f6 (OpenSpec.ofChange Rows.guardPartsSpec) false w args)
      (Rows.guardPartsSpec.post enc Tryd.prog Tryd.f6 false true false false) := by
  refine returnsInHanded_of_change_and (C := Tryd.checked) (X := fun w _ => laidMetH Tryd.prog [("honeycomb/honeycomblaw06.two", Rows.laid_honeycomb_honeycomblaw06_two)] w) (fun _ _ _ hh h => h.of_heap hh) own started (by kernel_rfl) Tryd.func6
    (ChangeSpec.witness_shaped (enc := enc) (C := Tryd.checked) (os := os) (X := fun w _ => laidMetH Tryd.prog [("honeycomb/honeycomblaw06.two", Rows.laid_honeycomb_honeycomblaw06_two)] w) false (World.laidAll Tryd.prog os [("honeycomb/honeycomblaw06.two", Rows.laid_honeycomb_honeycomblaw06_two)]) #[.slice none 0 0, .agg #[.int .i64 0, .int .i64 0], .int .i64 0] 8 (World.laidAll_os _ _ _)
      (World.shaped_of_ZipB (by kernel_rfl) (by kernel_rfl)) (by kernel_rfl) (by kernel_rfl) (by kernel_rfl)
      (by rw [MakeChecks.laidMetH_plain _ _ _ (by kernel_rfl)]; exact laidMet_laidAll _ (by kernel_rfl) (by kernel_rfl))) ?_
  intro W base args ds gs before hval0 hW _ _ hL _
  have hval : ∀ (j : Nat) t v, Tryd.f6.params[j]? = some t → args[j]? = some v → Value.okWide Tryd.prog W .any base t v := hval0
  have hW' := hW
  obtain ⟨p, q, hA0, hV, rfl, _, _⟩ := hW
  have hA : DataW.TrodAll enc Tryd.prog W 0 (fun _ => true) true Tryd.f6.params.toList args.toList ds p := hA0
  rw [Tryd.params6] at hA hval
  have hT := of_laid hL
  obtain ⟨v0, vs0, d0, ds0, p0, q0, hargs, rfl, rfl, h0, r0⟩ := trodAll_cons hA
  obtain ⟨v1, vs1, d1, ds1, p1, q1, rfl, rfl, rfl, h1, r1⟩ := trodAll_cons r0
  obtain ⟨v2, vs2, d2, ds2, p2, q2, rfl, rfl, rfl, h2, r2⟩ := trodAll_cons r1
  obtain ⟨rfl, rfl, rfl⟩ := trodAll_nil r2
  obtain rfl : args = #[v0, v1, v2] := by cases args; simp_all
  obtain ⟨rfl, rfl⟩ := trodVars_none hV
  obtain ⟨a0, len0, cap0, rfl⟩ := okWide_slice Tryd.underlying23 (hval 0 23 v0 rfl rfl)
  have k0 := h0
  have lt0 : ∀ x ∈ p0, x.block < W.heap.size := by obtain ⟨m, hm⟩ := k0; exact DataW.trod_lt m _ _ _ hm
  obtain ⟨z0, n0, w0⟩ : ∃ zs, len0 = zs.length ∧ PAt W (.slice a0 len0 cap0) zs := by
    obtain ⟨fuel, hf⟩ := h0
    exact open_secs hf
  have k1 := h1
  have lt1 : ∀ x ∈ p1, x.block < W.heap.size := by obtain ⟨m, hm⟩ := k1; exact DataW.trod_lt m _ _ _ hm
  obtain ⟨a1, b1, rfl, w1, u1⟩ := open_look (hval 1 44 v1 rfl rfl) h1
  obtain ⟨a2, rfl, rfl, rfl, w2⟩ := open_int Tryd.underlying3 (hval 2 3 v2 rfl rfl) h2
  clear hA0 hval0
  refine (walk a0 len0 cap0 z0 a1 b1 a2 W hT n0 w0 w1 u1 w2).mono fun e W' ⟨he, bel⟩ => ?_
  subst he
  exact ⟨_, rfl, _, _, _, [], _, [], hW', trodAll_mk1 (shut_bool Tryd.underlying4 _), (trodAll_cons_mk (Below.trod laidOut (by kernel_rfl) (of_decide_eq_true (by kernel_rfl)) k0 bel lt0) (trodAll_cons_mk (Below.trod laidOut (by kernel_rfl) (of_decide_eq_true (by kernel_rfl)) k1 bel lt1) (trodAll_cons_mk (shut_int Tryd.underlying3 w2) trodAll_mk0))), rfl, bel.frame _, fun h => by cases h⟩
theorem said : Rows.GuardPartsSaid :=
  OpenClaim.holds_of_wide 6 Tryd.f6 rfl rfl rfl rfl rfl rfl rfl ⟨rfl, rfl, rfl, rfl, rfl⟩ rfl rfl rfl rfl rfl (by kernel_rfl) Tryd.func6 (by kernel_rfl)
    (of_decide_eq_true (by kernel_rfl)) (by unfold Func.isWrapper; first | (rw [if_pos (by decide +kernel)]; kernel_rfl) | (rw [if_neg (by decide +kernel)]; exact ⟨rfl, rfl⟩))
    (fun os started H enc _ => lifted os started H enc)
theorem proved : Rows.GuardPartsCardSaid :=
  Claim7.holds_tied_plain_at .later [] [.widerDeep] true _ false said (fun _ h => by cases h) (by kernel_rfl) (fun _ h => by cases h) guardParts_row_tie rfl ⟨rfl, rfl⟩ (by kernel_rfl) rfl
    (fun f fn hf hfn => by
      obtain rfl : f = 6 := Option.some.inj ((show Tryd.prog.funcNamed "honeycomb/honeycomblaw06.GuardParts" = some 6 by kernel_rfl).symm.trans hf) |>.symm
      obtain rfl : fn = Tryd.f6 := (Option.some.inj (Tryd.func6.symm.trans hfn)).symm
      exact ⟨by kernel_rfl, fun j t ht => by
        rw [Tryd.params6] at ht
        have hm : t ∈ [23, 44, 3] := by simpa using Array.mem_of_getElem? ht
        have hall : ([23, 44, 3].all fun u => !Tryd.prog.wantsStandIn u) = true := by kernel_rfl
        exact (show Tryd.prog.wantsStandIn t = false by simpa using List.all_eq_true.1 hall t hm)⟩)
    (by kernel_rfl)
end Go.Proofs.YtbipekpohocjdaaDoor.guardParts
