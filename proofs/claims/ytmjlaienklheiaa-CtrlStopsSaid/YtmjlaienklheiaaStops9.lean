/- Proved: for every word, and row of numbers, honeycomblaw09.CtrlStops returns true, and its arguments read as they did; no condition. -/
import Derived.Test.YtmjlaienklheiaaJo
import Derived.ShutString
import Derived.ChangeOld
import Derived.Below
namespace Go.Proofs.Ytmjlaienklheiaa.ctrlStops
open Go.ChangeShapes Go.WideShapes Go.ChangeAt Go.RowKit Go.Shelf
attribute [local go_sem] Oper.semAt_some

theorem own : ownKnob Try.prog.godebug = none := by kernel_rfl

set_option maxRecDepth 100000 in
set_option maxHeartbeats 2000000 in
theorem walkYes (x : Nat) (hx : x < 18446744073709551616) (hr : rightC x = true) (a1 : Option Addr) (n c1 : Nat) (l : List Int) (hl : n = l.length) (w : World) (hR : RowI .i64 w (.slice a1 n c1) l) :
    Calls Try.prog 7 #[.int .u64 x, .slice a1 n c1] w fun e w' => e = .returned (.bool true) ∧ Below w.heap.size w w' := by
  have HR := Lib.hid hR
  have HX := Lib.hid hx
  have HRC := Lib.hid hr
  have HL := Lib.hid hl
  have hst : (rightC x && stopsC x) = stopsC x := by rw [hr]; rfl
  have HST := Lib.hid hst
  have HCK := Lib.hid fun W => (by have h := Try.Check_any x W; rw [hr] at h; exact h : Calls Try.prog 11 #[.int .u64 x] W fun e w' => e = .returned (.int .i64 0) ∧ Below W.heap.size W w')
  have HSP := Lib.hid fun W => (by have h := Try.Stops_any x W; rw [hst] at h; exact h : Calls Try.prog 14 #[.int .u64 x] W fun e w' => e = .returned (.bool (stopsC x)) ∧ Below W.heap.size W w')
  clear hx hr hl hst hR
  go_enter Try.func7, Try.ntmps7
  go_wp2_with (first
    | (go_at_call 9; refine (Try.wakes_any _).mono ?_; rintro e w1 ⟨rfl, hB1⟩; have HB1 := Lib.hid hB1; clear hB1)
    | (go_at_call 11; refine (HCK.out _).mono ?_; rintro e w2 ⟨rfl, hB2⟩; have HB2 := Lib.hid (HB1.out.trans (hB2.mono HB1.out.size)); clear hB2)
    | (go_at_call 14; refine (HSP.out _).mono ?_; rintro e w3 ⟨rfl, hB3⟩; have HB3 := Lib.hid (HB2.out.trans (hB3.mono HB2.out.size)); clear hB3))
  clear HB1 HB2 HCK HSP
  obtain ⟨s, hs⟩ : ∃ s, s = stopsC x := ⟨_, rfl⟩
  rw [← hs]
  have HS := Lib.hid hs
  clear hs
  go_loopw [0, 6, 7, 8, 9, 19] (fun cv _ _ _ _ j wr => ∃ (k y : Nat), k ≤ n ∧ k ≤ 16 ∧ j = .int .i64 k ∧ cv = .int .u64 y ∧ y < 18446744073709551616 ∧ rightC y = true ∧ stopsC y = s ∧ Below w.heap.size w wr) (fun _ _ _ _ _ j _ => n - (intOf j).toNat)
  case atStart => exact ⟨0, x, Nat.zero_le _, Nat.zero_le _, rfl, rfl, HX.out, HRC.out, HS.out.symm, HB3.out⟩
  case round =>
    obtain ⟨k, y, hk, hk16, rfl, rfl, hy, hry, hsy, hB⟩ := hrel
    have HB := Lib.hid hB
    by_cases hlt : k < n
    · have hkl : k < l.length := by rw [← HL.out]; exact hlt
      obtain ⟨b, off, rfl, hb, hc⟩ := (HR.out.below HB.out).get k hkl
      generalize l[k]?.getD 0 = lane at *
      have hki : (k : Int) < (n : Int) := by omega
      by_cases h16 : k = 16
      · subst h16
        have hlt16 : (16 : Int) < (n : Int) := hki
        clear hy hry hsy hB
        go_wp2_with fail
        go_ret
        exact ⟨rfl, HB.out⟩
      · have h16b : ((k : Int) == 16) = false := by simp; omega
        have hk15 : k ≤ 15 := by omega
        have hw : wrap64 ((k : Int) + 1) = (k : Int) + 1 := by unfold wrap64; omega
        have HY := Lib.hid hy
        have HRY := Lib.hid hry
        have HSY := Lib.hid hsy
        have HE := Lib.hid fun W => Try.cErase_any y lane hy W
        rcases eraseE_cases y lane with e1 | e1 | ⟨e1, m, hm, rfl, h0⟩
        · have HE2 : Hid (∀ W, Calls Try.prog 21 #[.int .u64 y, .int .i64 lane] W fun e w' => e = .returned (.tuple #[.int .u64 0, .int .i64 110]) ∧ Below W.heap.size W w') := Lib.hid fun W => by
            have h := HE.out W
            unfold resY resE at h
            rw [hry, e1] at h
            exact h
          clear hy hry hsy hB e1 h16
          go_wp2_with (go_at_call 21; refine (HE2.out _).mono ?_; rintro e w4 ⟨rfl, hB4⟩; have HB4 := Lib.hid (HB.out.trans (hB4.mono HB.out.size)); clear hB4)
          go_roundw
          case rel => exact ⟨k + 1, y, by omega, by omega, by go_num, rfl, HY.out, HRY.out, HSY.out, HB4.out⟩
          case measure => simp [intOf]; omega
        · have HE2 : Hid (∀ W, Calls Try.prog 21 #[.int .u64 y, .int .i64 lane] W fun e w' => e = .returned (.tuple #[.int .u64 0, .int .i64 4]) ∧ Below W.heap.size W w') := Lib.hid fun W => by
            have h := HE.out W
            unfold resY resE at h
            rw [hry, e1] at h
            exact h
          clear hy hry hsy hB e1 h16
          go_wp2_with (go_at_call 21; refine (HE2.out _).mono ?_; rintro e w4 ⟨rfl, hB4⟩; have HB4 := Lib.hid (HB.out.trans (hB4.mono HB.out.size)); clear hB4)
          go_roundw
          case rel => exact ⟨k + 1, y, by omega, by omega, by go_num, rfl, HY.out, HRY.out, HSY.out, HB4.out⟩
          case measure => simp [intOf]; omega
        · obtain ⟨z, hz⟩ : ∃ z, z = eraseS y m := ⟨_, rfl⟩
          have hz64 : z < 18446744073709551616 := by rw [hz]; exact eraseS_lt hy hm
          have hrz : rightC z = true := by rw [hz]; exact erase_right hry
          have hsz : stopsC z = s := by rw [hz, erase_stops hm h0]; exact hsy
          have HE2 : Hid (∀ W, Calls Try.prog 21 #[.int .u64 y, .int .i64 m] W fun e w' => e = .returned (.tuple #[.int .u64 z, .int .i64 0]) ∧ Below W.heap.size W w') := Lib.hid fun W => by
            have h := HE.out W
            unfold resY resE at h
            rw [hry, e1, ← hz] at h
            exact h
          have HS2 : Hid (∀ W, Calls Try.prog 14 #[.int .u64 z] W fun e w' => e = .returned (.bool s) ∧ Below W.heap.size W w') := Lib.hid fun W => by
            have h := Try.Stops_any z W
            rw [hrz, hsz] at h
            exact h
          have HZ := Lib.hid hz64
          have HRZ := Lib.hid hrz
          have HSZ := Lib.hid hsz
          clear hy hry hsy hB e1 h16 hz hz64 hrz hsz h0 hm HE
          go_wp2_with (first
            | (go_at_call 21; refine (HE2.out _).mono ?_; rintro e w4 ⟨rfl, hB4⟩; have HB4 := Lib.hid (HB.out.trans (hB4.mono HB.out.size)); clear hB4)
            | (go_at_call 14; refine (HS2.out _).mono ?_; rintro e w5 ⟨rfl, hB5⟩; have HB5 := Lib.hid (HB4.out.trans (hB5.mono HB4.out.size)); clear hB5))
          go_roundw
          case rel => exact ⟨k + 1, z, by omega, by omega, by go_num, rfl, HZ.out, HRZ.out, HSZ.out, HB5.out⟩
          case measure => simp [intOf]; omega
    · have hki : ¬ (k : Int) < (n : Int) := by omega
      clear hy hry hsy hB
      go_wp2_with fail
      go_ret
      exact ⟨rfl, HB.out⟩
theorem walkNo (x : Nat) (hr : rightC x = false) (a1 : Option Addr) (n c1 : Nat) (w : World) :
    Calls Try.prog 7 #[.int .u64 x, .slice a1 n c1] w fun e w' => e = .returned (.bool true) ∧ Below w.heap.size w w' := by
  have HCK := Lib.hid fun W => (by have h := Try.Check_any x W; rw [hr] at h; exact h : Calls Try.prog 11 #[.int .u64 x] W fun e w' => e = .returned (.int .i64 190) ∧ Below W.heap.size W w')
  clear hr
  go_enter Try.func7, Try.ntmps7
  go_wp2_with (first
    | (go_at_call 9; refine (Try.wakes_any _).mono ?_; rintro e w1 ⟨rfl, hB1⟩; have HB1 := Lib.hid hB1; clear hB1)
    | (go_at_call 11; refine (HCK.out _).mono ?_; rintro e w2 ⟨rfl, hB2⟩; have HB2 := Lib.hid (HB1.out.trans (hB2.mono HB1.out.size)); clear hB2))
  go_ret
  exact ⟨rfl, HB2.out⟩
theorem walk (a0 : Int) (a1 : Option Addr) (len1 cap1 : Nat) (z1 : List Int) (w : World) (w0 : (Lit.int .u64 a0).wf = true) (w1 : IsRow .i64 w a1 len1 cap1 z1) :
    Calls Try.prog 7 #[.int .u64 a0, .slice a1 len1 cap1] w fun e w' => e = .returned (.bool true) ∧ Below w.heap.size w w' := by
  have b1 := bounds_u64 w0
  obtain ⟨x, rfl⟩ := Int.eq_ofNat_of_zero_le b1.1
  have hx : x < 18446744073709551616 := by omega
  obtain ⟨h1, h2, _⟩ := rowI_of w1
  cases hr : rightC x
  · exact walkNo x hr _ _ _ w
  · exact walkYes x hx hr _ _ _ _ h1 w h2
theorem laidOut : laidOutB Try.prog = true := by kernel_rfl
set_option maxRecDepth 100000 in
theorem lifted (os : Os) (started : os.Started) (H : Type) (enc : TypeId × Value → H) :
    ReturnsInHanded {} Try.checked os 7 .any (Rows.ctrlStopsSpec.pre6 enc Try.prog Try.f7 Rows.ctrlStopsRow.domain false) (Rows.ctrlStopsSpec.post enc Try.prog Try.f7 false true false false) := by
  refine returnsInHanded_of_change (C := Try.checked) own started (by kernel_rfl) Try.func7
    (ChangeSpec.witness6 (enc := enc) (C := Try.checked) false ⟨#[], #[.int .u64 0, .slice none 0 0], []⟩ 8 (by kernel_rfl) (by kernel_rfl) (by kernel_rfl) (by kernel_rfl)) ?_
  intro W base args ds gs before hval0 hW hcnd _
  have hval : ∀ (j : Nat) t v, Try.f7.params[j]? = some t → args[j]? = some v → Value.okWide Try.prog W .any base t v := hval0
  have hW' := hW
  obtain ⟨p, q, hA0, hV, rfl, hfz, hnd⟩ := hW
  have hA : DataW.TrodAll enc Try.prog W 0 (fun _ => true) true Try.f7.params.toList args.toList ds p := hA0
  rw [Try.params7] at hA hval
  obtain ⟨v0, vs0, d0, ds0, p0, q0, hargs, rfl, rfl, h0, r0⟩ := trodAll_cons hA
  obtain ⟨v1, vs1, d1, ds1, p1, q1, rfl, rfl, rfl, h1, r1⟩ := trodAll_cons r0
  obtain ⟨rfl, rfl, rfl⟩ := trodAll_nil r1
  obtain rfl : args = #[v0, v1] := by cases args; simp_all
  obtain ⟨rfl, rfl⟩ := trodVars_none hV
  obtain ⟨a0, rfl, rfl, rfl, w0⟩ := open_int Try.underlying25 (hval 0 25 v0 rfl rfl) h0
  obtain ⟨a1, len1, cap1, rfl⟩ := okWide_slice Try.underlying40 (hval 1 40 v1 rfl rfl)
  have k1 := h1
  have lt1 : ∀ x ∈ p1, x.block < W.heap.size := by obtain ⟨m, hm⟩ := k1; exact DataW.trod_lt m _ _ _ hm
  obtain ⟨z1, w1⟩ : ∃ zs, IsRow .i64 W a1 len1 cap1 zs := by
    obtain ⟨fuel, hf⟩ := h1
    rcases open_ints Try.underlying40 Try.underlying3 (by kernel_rfl) hf with ⟨hcs, _⟩ | ⟨x, l, c, zs, hcs, _, hl, hm, hz, _, hcell, hwz⟩
    · simp [Value.cells] at hcs
      obtain ⟨rfl, rfl, rfl⟩ := hcs
      exact ⟨[], .inl ⟨rfl, rfl, rfl, rfl⟩⟩
    · simp [Value.cells] at hcs
      obtain ⟨rfl, rfl, rfl⟩ := hcs
      exact ⟨zs, .inr ⟨_, rfl, hl, hm, by simpa using hz, hcell, hwz⟩⟩
  clear hA0 hval0
  refine (walk a0 a1 len1 cap1 z1 W w0 w1).mono fun e W' ⟨he, bel⟩ => ?_
  subst he
  exact ⟨_, rfl, _, _, _, [], _, [], hW', trodAll_mk1 (shut_bool Try.underlying4 _), (trodAll_cons_mk (shut_int Try.underlying25 w0) (trodAll_cons_mk (Below.trod laidOut (by kernel_rfl) (of_decide_eq_true (by kernel_rfl)) k1 bel lt1) trodAll_mk0)), rfl, bel.frame _, fun h => by cases h⟩

theorem over : Rows.ctrlStopsRow.holds Try.pinned (OpenSpec.ofChange Rows.ctrlStopsSpec) :=
  OpenClaim.holds_of_wide 7 Try.f7 rfl rfl rfl rfl rfl rfl rfl ⟨rfl, rfl, rfl, rfl, rfl⟩ rfl rfl rfl rfl rfl (by kernel_rfl) Try.func7 (by kernel_rfl)
    (of_decide_eq_true (by kernel_rfl)) (by unfold Func.isWrapper; first | (rw [if_pos (by decide +kernel)]; kernel_rfl) | (rw [if_neg (by decide +kernel)]; exact ⟨rfl, rfl⟩))
    (fun os started H enc _ => lifted os started H enc)

theorem proved : Rows.CtrlStopsSaid := over
end Go.Proofs.Ytmjlaienklheiaa.ctrlStops
