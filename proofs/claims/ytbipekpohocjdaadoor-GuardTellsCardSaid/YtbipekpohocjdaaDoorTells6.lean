/- Proved: for every row of sections and every look, honeycomblaw06.GuardTells returns true, and its arguments read as they did; the listed variable reads as the program's text lays it. -/
import Derived.Test.YtbipekpohocjdaaDoorGn
import Derived.SevenTiedAt
import Derived.Stop.Joined
import Derived.Test.YtbipekpohocjdaaDoorCards
import Derived.Test.YtbipekpohocjdaaDoorTie
namespace Go.Proofs.YtbipekpohocjdaaDoor.guardTells
open Go.ChangeShapes Go.WideShapes Go.ChangeAt Go.RowKit Go.Shelf
attribute [local go_sem] Oper.semAt_some

set_option maxRecDepth 100000 in
set_option maxHeartbeats 4000000 in
theorem walk (a : Option Addr) (len cap : Nat) (zs : List (Int × Int)) (f g : Int) (w : World) (hT : TwoAt w) (hn : len = zs.length) (hI : PAt w (.slice a len cap) zs) (_ : (Lit.int .i64 f).wf = true) (_ : (Lit.int .i64 g).wf = true) :
    Calls Tryd.prog 5 #[.slice a len cap, .agg #[.int .i64 f, .int .i64 g]] w fun e w' => e = .returned (.bool true) ∧ Below w.heap.size w w' := by
  have hB0 : Below w.heap.size w (w.alloc (.cells #[.int .i64 f, .int .i64 g] 44)) := Rows8.newB
  have hk0 := Rows8.new w 44 #[.int .i64 f, .int .i64 g]
  have HW := Lib.hid (Tryd.wakes_any _ (hT.below hB0))
  have HF := fun w' (hB : Below w.heap.size w w') => Lib.hid (Tryd.few_any a len cap zs w' (hI.below hB))
  obtain ⟨l, hl⟩ : ∃ l, l = zs.take 16 := ⟨_, rfl⟩
  have hl16 : l.length ≤ 16 := by rw [hl, List.length_take]; omega
  rw [← hl] at HF
  have HB0 := Lib.hid hB0
  have HK0 := Lib.hid hk0
  clear hl hn hB0 hk0 hI
  obtain ⟨m, hm⟩ : ∃ m, m = l.length := ⟨_, rfl⟩
  have HMl := Lib.hid hm
  rw [← hm] at hl16
  go_enter Tryd.func5, Tryd.ntmps5
  go_wp2_with fail
  refine HW.out.mono ?_
  rintro e w1 ⟨rfl, hB⟩
  have HK1 := Lib.hid (HK0.out.below hB HK0.out.lt)
  have HB1 := Lib.hid (HB0.out.trans (hB.mono HB0.out.size))
  clear hB HW
  go_wp2_with fail
  refine (HF _ HB1.out).out.mono ?_
  rintro e w2 ⟨b, c, rfl, hP, hB⟩
  have hk2 := HK1.out.below hB HK1.out.lt
  have k20 := hk2.cell 0
  have k21 := hk2.cell 1
  simp at k20 k21
  have HB2 := Lib.hid (HB1.out.trans (hB.mono HB1.out.size))
  rw [← hm] at hP ⊢
  have HP2 := Lib.hid hP
  have HK2 := Lib.hid hk2
  clear hB hP hk2 hm HF
  go_wp2_with fail
  have hb3 := Rows8.new w2 44 #[.int .i64 f, .int .i64 g]
  have hB3 : Below w2.heap.size w2 (w2.alloc (.cells #[.int .i64 f, .int .i64 g] 44)) := Rows8.newB
  have HR := Lib.hid (Tryd.Reads_any b m c l (by omega) (some ⟨w2.heap.size, 0, none⟩) 1 1 [(f, g)] (by simp) _ (HP2.out.below hB3) (pAt_lit hb3 [(f, g)] rfl (by simp)))
  have HB3 := Lib.hid (HB2.out.trans (hB3.mono HB2.out.size))
  have HP3 := Lib.hid (HP2.out.below hB3)
  have HK3 := Lib.hid (HK2.out.below hB3 HK2.out.lt)
  clear hb3 hB3 k20 k21
  generalize w2.alloc (.cells #[.int .i64 f, .int .i64 g] 44) = w3 at *
  refine HR.out.mono ?_
  rintro e w4 ⟨y, cy, rfl, hY, hB⟩
  have hB4 := HB3.out.trans (hB.mono HB3.out.size)
  have hP4 := HP3.out.below hB
  have hk4 := HK3.out.below hB HK3.out.lt
  have k40 := hk4.cell 0
  have k41 := hk4.cell 1
  simp at k40 k41
  have HB4 := Lib.hid hB4
  have HP4 := Lib.hid hP4
  have HK4 := Lib.hid hk4
  have hE : readsE l [(f, g)] = if rightB l = true then (if lookB f g = true then 0 else 2) else 160 := by
    unfold readsE allLook
    simp
  have hC : clearR l f g = (rightB l && (lookB f g && clearB l f g)) := rfl
  have HCL := fun w' (hB : Below w4.heap.size w4 w') => Lib.hid (Tryd.Clear_any f g b m c l (by omega) w' (HP4.out.below hB))
  clear hB hB4 hP4 hk4 HR HB3 HP3 HK3 HP2 HK2
  by_cases h0 : rightB l = true ∧ lookB f g = true
  · obtain ⟨hr, hlk⟩ := h0
    rw [hr, hlk, if_pos rfl, if_pos rfl] at hE
    rw [hr, hlk, Bool.true_and, Bool.true_and] at hC
    rw [readsR_ok hE] at hY ⊢
    rw [hE]
    have hfg : 0 ≤ f ∧ f ≤ g ∧ g ≤ 1073741824 := by simpa [lookB] using hlk
    have hs1 : stepB f = true := by simp [stepB]; omega
    have hs2 : stepB g = true := by simp [stepB]; omega
    have c1 : countE l f = 0 := by unfold countE; rw [if_pos hr, if_pos hs1]
    have c2 : countE l g = 0 := by unfold countE; rw [if_pos hr, if_pos hs2]
    obtain ⟨t1, t2⟩ := tells hr hfg.2.1
    have hgd : goodB (cntB l f : Nat) (cntB l g : Nat) = clearB l f g := by
      rw [t1]
      unfold goodB
      rw [← Bool.decide_and, decide_eq_decide]
      omega
    have hc1 := fun w' (hB : Below w4.heap.size w4 w') => Tryd.Count_any f b m c l w' (HP4.out.below hB)
    have hc2 := fun w' (hB : Below w4.heap.size w4 w') => Tryd.Count_any g b m c l w' (HP4.out.below hB)
    rw [countR_ok c1, c1] at hc1
    rw [countR_ok c2, c2] at hc2
    have hg := fun w' => Tryd.Good_any (cntB l f : Nat) (cntB l g : Nat) (by omega) w'
    rw [hgd] at hg
    rw [hC] at HCL
    have e1 : clrL l [(f, g)] = [clearB l f g] := rfl
    rw [e1] at hY ⊢
    have HC1 := Lib.hid hc1
    have HC2 := Lib.hid hc2
    have HG := Lib.hid hg
    clear hc1 hc2 hg hgd t1 c1 c2 hs1 hs2 hfg hE hC hr hlk e1
    generalize clearB l f g = cb at *
    generalize cntB l f = n1 at *
    generalize cntB l g = n2 at *
    obtain ⟨yb, yo, rfl, hyb, hyc⟩ := bAt_get hY 0 (by simp)
    simp at hyc
    have h12 : (n1 : Int) ≤ (n2 : Int) := by omega
    have d12 : decide ((n1 : Int) ≤ (n2 : Int)) = true := decide_eq_true h12
    have hcc : (cb == cb) = true := by simp
    have hk0 := fun w' (hB : Below w4.heap.size w4 w') => (⟨(hB.cell (p := ⟨yb, yo, none⟩) hyb).trans hyc, (hB.cell (p := ⟨w.heap.size, 0, none⟩) HK4.out.lt).trans k40, (hB.cell (p := ⟨w.heap.size, 1, none⟩) HK4.out.lt).trans k41⟩ : w'.cell? ⟨yb, yo, none⟩ = some (.bool cb) ∧ w'.cell? ⟨w.heap.size, 0, none⟩ = some (.int .i64 f) ∧ w'.cell? ⟨w.heap.size, 1, none⟩ = some (.int .i64 g))
    have HKC := Lib.hid hk0
    simp only [List.length_cons, List.length_nil, Nat.zero_add]
    clear hk0 hY t2 hyc
    go_wp2_with fail
    refine (HC1.out w4 (Below.refl _ _)).mono ?_
    rintro e w5 ⟨rfl, hB5⟩
    obtain ⟨-, k50, k51⟩ := HKC.out w5 hB5
    have HB5 := Lib.hid hB5
    clear hB5
    go_wp2_with fail
    refine (HC2.out w5 HB5.out).mono ?_
    rintro e w6 ⟨rfl, hB6⟩
    have HB6 := Lib.hid (HB5.out.trans (hB6.mono HB5.out.size))
    clear hB6 k50 k51
    go_wp2_with fail
    have hk1 := HKC.out w6.drew HB6.out.drew
    have B6d := HB6.out.drew
    have hk1b := hk1
    obtain ⟨k60, k61, k62⟩ := hk1b
    go_region_held3 (fun W' => W'.cell? ⟨yb, yo, none⟩ = some (.bool cb) ∧ W'.cell? ⟨w.heap.size, 0, none⟩ = some (.int .i64 f) ∧ W'.cell? ⟨w.heap.size, 1, none⟩ = some (.int .i64 g)) (first | exact hk1 | exact hk2) (first
      | (go_at_call 11; refine (HG.out _).mono ?_; rintro e w' ⟨rfl, rfl⟩)
      | (go_at_call 22; refine (HCL _ B6d).out.mono ?_; rintro e w7 ⟨rfl, hB7⟩; have B7 := B6d.trans (hB7.mono B6d.size); have hk2 := HKC.out w7 B7))
    all_goals
      have HB8 := Lib.hid (HB4.out.trans (B7.mono HB4.out.size))
      clear B7 hB7
      go_wp2_with fail
      go_ret
      exact ⟨by simp, HB8.out⟩
  · have hne : readsE l [(f, g)] ≠ 0 := by
      rw [hE]
      intro h
      apply h0
      by_cases hr : rightB l = true
      · rw [if_pos hr] at h
        by_cases hlk : lookB f g = true
        · exact ⟨hr, hlk⟩
        · rw [if_neg hlk] at h; cases h
      · rw [if_neg hr] at h; cases h
    have hcf : clearR l f g = false := by
      rw [hC]
      cases hr : rightB l with
      | false => rfl
      | true =>
        cases hlk : lookB f g with
        | false => rfl
        | true => exact absurd ⟨hr, hlk⟩ h0
    rw [readsR_err hne] at hY ⊢
    rw [hcf] at HCL
    have hE2 : (readsE l [(f, g)] != 0) = true := by simp [hne]
    have HCL4 := HCL w4 (Below.refl _ _)
    clear hE hC h0 hne hcf HCL
    generalize readsE l [(f, g)] = E at *
    simp only [List.length_nil]
    go_wp2_with fail
    refine HCL4.out.mono ?_
    rintro e w5 ⟨rfl, hB5⟩
    have HB5 := Lib.hid (HB4.out.trans (hB5.mono HB4.out.size))
    clear hB5
    go_wp2_with fail
    go_ret
    exact ⟨rfl, HB5.out⟩
theorem own : ownKnob Tryd.prog.godebug = none := by kernel_rfl
theorem laidOut : laidOutB Tryd.prog = true := by kernel_rfl
set_option maxRecDepth 100000 in
theorem lifted (os : Os) (started : os.Started) (H : Type) (enc : TypeId × Value → H) :
    ReturnsInHanded {} Tryd.checked os 5 .any (fun w args => (Rows.guardTellsSpec.pre enc Tryd.prog Tryd.f5 [] false w args ∧ laidMetH Tryd.prog [("honeycomb/honeycomblaw06.two", Rows.laid_honeycomb_honeycomblaw06_two)] w) ∧ sizedMet enc Tryd.prog Tryd.f5 (OpenSpec.ofChange Rows.guardTellsSpec) false w args)
      (Rows.guardTellsSpec.post enc Tryd.prog Tryd.f5 false true false false) := by
  refine returnsInHanded_of_change_and (C := Tryd.checked) (X := fun w _ => laidMetH Tryd.prog [("honeycomb/honeycomblaw06.two", Rows.laid_honeycomb_honeycomblaw06_two)] w) (fun _ _ _ hh h => h.of_heap hh) own started (by kernel_rfl) Tryd.func5
    (ChangeSpec.witness_shaped (enc := enc) (C := Tryd.checked) (os := os) (X := fun w _ => laidMetH Tryd.prog [("honeycomb/honeycomblaw06.two", Rows.laid_honeycomb_honeycomblaw06_two)] w) false (World.laidAll Tryd.prog os [("honeycomb/honeycomblaw06.two", Rows.laid_honeycomb_honeycomblaw06_two)]) #[.slice none 0 0, .agg #[.int .i64 0, .int .i64 0]] 8 (World.laidAll_os _ _ _)
      (World.shaped_of_ZipB (by kernel_rfl) (by kernel_rfl)) (by kernel_rfl) (by kernel_rfl) (by kernel_rfl)
      (by rw [MakeChecks.laidMetH_plain _ _ _ (by kernel_rfl)]; exact laidMet_laidAll _ (by kernel_rfl) (by kernel_rfl))) ?_
  intro W base args ds gs before hval0 hW _ _ hL _
  have hval : ∀ (j : Nat) t v, Tryd.f5.params[j]? = some t → args[j]? = some v → Value.okWide Tryd.prog W .any base t v := hval0
  have hW' := hW
  obtain ⟨p, q, hA0, hV, rfl, _, _⟩ := hW
  have hA : DataW.TrodAll enc Tryd.prog W 0 (fun _ => true) true Tryd.f5.params.toList args.toList ds p := hA0
  rw [Tryd.params5] at hA hval
  have hT := of_laid hL
  obtain ⟨v0, vs0, d0, ds0, p0, q0, hargs, rfl, rfl, h0, r0⟩ := trodAll_cons hA
  obtain ⟨v1, vs1, d1, ds1, p1, q1, rfl, rfl, rfl, h1, r1⟩ := trodAll_cons r0
  obtain ⟨rfl, rfl, rfl⟩ := trodAll_nil r1
  obtain rfl : args = #[v0, v1] := by cases args; simp_all
  obtain ⟨rfl, rfl⟩ := trodVars_none hV
  obtain ⟨a0, len0, cap0, rfl⟩ := okWide_slice Tryd.underlying23 (hval 0 23 v0 rfl rfl)
  have k0 := h0
  have lt0 : ∀ x ∈ p0, x.block < W.heap.size := by obtain ⟨m, hm⟩ := k0; exact DataW.trod_lt m _ _ _ hm
  obtain ⟨z0, n0, w0⟩ : ∃ zs, len0 = zs.length ∧ PAt W (.slice a0 len0 cap0) zs := by
    obtain ⟨fuel, hf⟩ := h0
    exact open_secs hf
  have k1 := h1
  have lt1 : ∀ x ∈ p1, x.block < W.heap.size := by obtain ⟨m, hm⟩ := k1; exact DataW.trod_lt m _ _ _ hm
  obtain ⟨a1, b1, rfl, w1, u1⟩ := open_look (hval 1 44 v1 rfl rfl) h1
  clear hA0 hval0
  refine (walk a0 len0 cap0 z0 a1 b1 W hT n0 w0 w1 u1).mono fun e W' ⟨he, bel⟩ => ?_
  subst he
  exact ⟨_, rfl, _, _, _, [], _, [], hW', trodAll_mk1 (shut_bool Tryd.underlying4 _), (trodAll_cons_mk (Below.trod laidOut (by kernel_rfl) (of_decide_eq_true (by kernel_rfl)) k0 bel lt0) (trodAll_cons_mk (Below.trod laidOut (by kernel_rfl) (of_decide_eq_true (by kernel_rfl)) k1 bel lt1) trodAll_mk0)), rfl, bel.frame _, fun h => by cases h⟩
theorem said : Rows.GuardTellsSaid :=
  OpenClaim.holds_of_wide 5 Tryd.f5 rfl rfl rfl rfl rfl rfl rfl ⟨rfl, rfl, rfl, rfl, rfl⟩ rfl rfl rfl rfl rfl (by kernel_rfl) Tryd.func5 (by kernel_rfl)
    (of_decide_eq_true (by kernel_rfl)) (by unfold Func.isWrapper; first | (rw [if_pos (by decide +kernel)]; kernel_rfl) | (rw [if_neg (by decide +kernel)]; exact ⟨rfl, rfl⟩))
    (fun os started H enc _ => lifted os started H enc)
theorem proved : Rows.GuardTellsCardSaid :=
  Claim7.holds_tied_plain_at .later [] [.widerDeep] true _ false said (fun _ h => by cases h) (by kernel_rfl) (fun _ h => by cases h) guardTells_row_tie rfl ⟨rfl, rfl⟩ (by kernel_rfl) rfl
    (fun f fn hf hfn => by
      obtain rfl : f = 5 := Option.some.inj ((show Tryd.prog.funcNamed "honeycomb/honeycomblaw06.GuardTells" = some 5 by kernel_rfl).symm.trans hf) |>.symm
      obtain rfl : fn = Tryd.f5 := (Option.some.inj (Tryd.func5.symm.trans hfn)).symm
      exact ⟨by kernel_rfl, fun j t ht => by
        rw [Tryd.params5] at ht
        have hm : t ∈ [23, 44] := by simpa using Array.mem_of_getElem? ht
        have hall : ([23, 44].all fun u => !Tryd.prog.wantsStandIn u) = true := by kernel_rfl
        exact (show Tryd.prog.wantsStandIn t = false by simpa using List.all_eq_true.1 hall t hm)⟩)
    (by kernel_rfl)
end Go.Proofs.YtbipekpohocjdaaDoor.guardTells
