/- Proved: for every word, number, and byte, honeycomblaw09.CtrlParts returns true, and its arguments read as they did; no condition. -/
import Derived.Test.YtmjlaienklheiaaJo
import Derived.ShutString
import Derived.ChangeOld
import Derived.Below
namespace Go.Proofs.Ytmjlaienklheiaa.ctrlParts
open Go.ChangeShapes Go.WideShapes Go.ChangeAt Go.RowKit Go.Shelf
attribute [local go_sem] Oper.semAt_some

theorem own : ownKnob Try.prog.godebug = none := by kernel_rfl

theorem walkNo (x h : Nat) (lane : Int) (hr : rightC x = false) (w : World) :
    Calls Try.prog 6 #[.int .u64 x, .int .i64 lane, .int .u8 h] w fun e w' => e = .returned (.bool true) ∧ Below w.heap.size w w' := by
  have HCK := Lib.hid fun W => (by have h := Try.Check_any x W; rw [hr] at h; exact h : Calls Try.prog 11 #[.int .u64 x] W fun e w' => e = .returned (.int .i64 190) ∧ Below W.heap.size W w')
  have HST := Lib.hid fun W => (by have h := Try.Stops_any x W; rw [hr] at h; exact h : Calls Try.prog 14 #[.int .u64 x] W fun e w' => e = .returned (.bool false) ∧ Below W.heap.size W w')
  have HSE := Lib.hid fun W => (by have h := Try.Sets_any x W; unfold setsE at h; rw [hr] at h; exact h : Calls Try.prog 12 #[.int .u64 x] W fun e w' => e = .returned (.tuple #[.int .u8 0, .int .u8 0, .int .u8 0]) ∧ Below W.heap.size W w')
  have h00 : bits .or .u8 0 0 = 0 := by decide
  clear hr
  go_enter Try.func6, Try.ntmps6
  go_wp2_with (first
    | (go_at_call 9; refine (Try.wakes_any _).mono ?_; rintro e w1 ⟨rfl, hB1⟩; have HB1 := Lib.hid hB1; clear hB1)
    | (go_at_call 12; refine (HSE.out _).mono ?_; rintro e w2 ⟨rfl, hB2⟩; have HB2 := Lib.hid (HB1.out.trans (hB2.mono HB1.out.size)); clear hB2)
    | (go_at_call 11; refine (HCK.out _).mono ?_; rintro e w3 ⟨rfl, hB3⟩; have HB3 := Lib.hid (HB2.out.trans (hB3.mono HB2.out.size)); clear hB3)
    | (go_at_call 14; refine (HST.out _).mono ?_; rintro e w4 ⟨rfl, hB4⟩; have HB4 := Lib.hid (HB3.out.trans (hB4.mono HB3.out.size)); clear hB4))
  go_ret
  exact ⟨rfl, HB4.out⟩
set_option maxRecDepth 100000 in
set_option maxHeartbeats 4000000 in
theorem walkYes (x h : Nat) (lane : Int) (hx : x < 18446744073709551616) (hh : h < 256) (hr : rightC x = true) (w : World) :
    Calls Try.prog 6 #[.int .u64 x, .int .i64 lane, .int .u8 h] w fun e w' => e = .returned (.bool true) ∧ Below w.heap.size w w' := by
  have HCK := Lib.hid fun W => (by have h := Try.Check_any x W; rw [hr] at h; exact h : Calls Try.prog 11 #[.int .u64 x] W fun e w' => e = .returned (.int .i64 0) ∧ Below W.heap.size W w')
  have HSE := Lib.hid fun W => (by have h := Try.Sets_any x W; unfold setsE at h; rw [hr] at h; exact h : Calls Try.prog 12 #[.int .u64 x] W fun e w' => e = .returned (.tuple #[.int .u8 (setK x 0 : Nat), .int .u8 (setK x 1 : Nat), .int .u8 (setK x 2 : Nat)]) ∧ Below W.heap.size W w')
  have HFI := Lib.hid fun W => Try.cFill_any x lane h hx hh W
  have l0 := setK_lt x 0
  have l1 := setK_lt x 1
  have l2 := setK_lt x 2
  have lo := or_lt8 l0 l1
  have e1 : bits .and .u8 (setK x 0 : Nat) (setK x 1 : Nat) = 0 := by rw [u8_and_nat _ _ l0 l1, sets_apart x (by decide)]; rfl
  have e2 : bits .and .u8 (setK x 1 : Nat) (setK x 2 : Nat) = 0 := by rw [u8_and_nat _ _ l1 l2, sets_apart x (by decide)]; rfl
  have e3 : bits .and .u8 (setK x 0 : Nat) (setK x 2 : Nat) = 0 := by rw [u8_and_nat _ _ l0 l2, sets_apart x (by decide)]; rfl
  have e4 : bits .or .u8 (setK x 0 : Nat) (setK x 1 : Nat) = ((setK x 0 ||| setK x 1 : Nat) : Int) := u8_or_nat _ _ l0 l1
  have e5 : bits .or .u8 ((setK x 0 ||| setK x 1 : Nat) : Int) (setK x 2 : Nat) = 255 := by rw [u8_or_nat _ _ lo l2, sets_all hr]; rfl
  have h00 : bits .or .u8 0 0 = 0 := by decide
  have HR := Lib.hid hr
  have HX := Lib.hid hx
  have hgo : (fillE x lane h ≠ 0) ∨ (fillE x lane h = 0 ∧ ∃ k : Nat, k < 8 ∧ lane = k ∧ kd (byt x k) ≠ 0 ∧ h ≤ 127) := by
    rcases fillE_cases x lane h with e | e | e | e
    · exact .inl (by rw [e]; decide)
    · exact .inl (by rw [e]; decide)
    · exact .inl (by rw [e]; decide)
    · exact .inr e
  rcases hgo with hne | ⟨h0, k, hk, rfl, hk0, h127⟩
  · obtain ⟨fe, hfe⟩ : ∃ fe, fe = fillE x lane h := ⟨_, rfl⟩
    have HF2 : Hid (∀ W, Calls Try.prog 20 #[.int .u64 x, .int .i64 lane, .int .u8 h] W fun e w' => e = .returned (.tuple #[.int .u64 0, .int .i64 fe]) ∧ Below W.heap.size W w') := Lib.hid fun W => by
      have h1 := HFI.out W
      unfold resY resE at h1
      rw [hr, if_neg hne, ← hfe] at h1
      exact h1
    have hfe0 : ¬ fe = 0 := by rw [hfe]; exact hne
    clear HFI hfe hne hr hx hh l0 l1 l2 lo
    generalize setK x 0 ||| setK x 1 = o1 at *
    generalize setK x 0 = s0, setK x 1 = s1, setK x 2 = s2 at *
    go_enter Try.func6, Try.ntmps6
    go_wp2_with (first
      | (go_at_call 9; refine (Try.wakes_any _).mono ?_; rintro e w1 ⟨rfl, hB1⟩; have HB1 := Lib.hid hB1; clear hB1)
      | (go_at_call 12; refine (HSE.out _).mono ?_; rintro e w2 ⟨rfl, hB2⟩; have HB2 := Lib.hid (HB1.out.trans (hB2.mono HB1.out.size)); clear hB2)
      | (go_at_call 11; refine (HCK.out _).mono ?_; rintro e w3 ⟨rfl, hB3⟩; have HB3 := Lib.hid (HB2.out.trans (hB3.mono HB2.out.size)); clear hB3)
      | (go_at_call 20; refine (HF2.out _).mono ?_; rintro e w4 ⟨rfl, hB4⟩; have HB4 := Lib.hid (HB3.out.trans (hB4.mono HB3.out.size)); clear hB4))
    go_ret
    exact ⟨rfl, HB4.out⟩
  · have hy : setB x k h < 18446744073709551616 := setB_lt hx hk hh
    have hkh : kd h = 0 := by simp [kd, h127]
    have hry : rightC (setB x k h) = true := right_set hh hr (by rw [hkh]; decide)
    have hby : kd (byt (setB x k h) k) = 0 := by rw [byt_setB_same hh]; exact hkh
    have heE : eraseE (setB x k h) k = 0 := by unfold eraseE; rw [if_neg (by omega), Int.toNat_natCast, if_pos hby]
    have hz : eraseS (setB x k h) k < 18446744073709551616 := eraseS_lt hy hk
    have hrz : rightC (eraseS (setB x k h) k) = true := erase_right hry
    have hhz : hasB (eraseS (setB x k h) k) h = hasB x h := by
      unfold eraseS
      rw [Int.toNat_natCast]
      split
      · exact erase_has h127 (by decide) (by decide) hk0
      · exact erase_has h127 (by decide) (by decide) hk0
    have HF2 : Hid (∀ W, Calls Try.prog 20 #[.int .u64 x, .int .i64 k, .int .u8 h] W fun e w' => e = .returned (.tuple #[.int .u64 (setB x k h : Nat), .int .i64 0]) ∧ Below W.heap.size W w') := Lib.hid fun W => by
      have h1 := HFI.out W
      unfold resY resE fillS at h1
      rw [hr, if_pos h0, h0, Int.toNat_natCast] at h1
      exact h1
    have hM : ∀ z, rightC z = true → ∀ W, Calls Try.prog 16 #[.int .u64 z, .int .u8 h] W fun e w' => e = .returned (.tuple #[.int .u8 (hasB z h : Nat), .int .i64 0]) ∧ Below W.heap.size W w' := fun z hz W => by
      have h1 := Try.Match_any z h W
      unfold matchM matchE at h1
      rw [hz, if_pos rfl, if_pos rfl, if_pos h127, if_pos h127] at h1
      exact h1
    have HMX := Lib.hid (hM x hr)
    have HMY := Lib.hid (hM _ hry)
    have HMZ := Lib.hid (hM _ hrz)
    have HCY := Lib.hid fun W => (by have h := Try.Check_any (setB x k h) W; rw [hry] at h; exact h : Calls Try.prog 11 #[.int .u64 (setB x k h : Nat)] W fun e w' => e = .returned (.int .i64 0) ∧ Below W.heap.size W w')
    have HCZ := Lib.hid fun W => (by have h := Try.Check_any (eraseS (setB x k h) k) W; rw [hrz] at h; exact h : Calls Try.prog 11 #[.int .u64 (eraseS (setB x k h) k : Nat)] W fun e w' => e = .returned (.int .i64 0) ∧ Below W.heap.size W w')
    have HSY := Lib.hid fun W => (by have h := Try.Sets_any (setB x k h) W; unfold setsE at h; rw [hry] at h; exact h : Calls Try.prog 12 #[.int .u64 (setB x k h : Nat)] W fun e w' => e = .returned (.tuple #[.int .u8 (setK (setB x k h) 0 : Nat), .int .u8 (setK (setB x k h) 1 : Nat), .int .u8 (setK (setB x k h) 2 : Nat)]) ∧ Below W.heap.size W w')
    have HEY : Hid (∀ W, Calls Try.prog 21 #[.int .u64 (setB x k h : Nat), .int .i64 k] W fun e w' => e = .returned (.tuple #[.int .u64 (eraseS (setB x k h) k : Nat), .int .i64 0]) ∧ Below W.heap.size W w') := Lib.hid fun W => by
      have h1 := Try.cErase_any (setB x k h) k hy W
      unfold resY resE at h1
      rw [hry, if_pos heE, heE] at h1
      exact h1
    have hp := pow_lt_256 hk
    have m1 : bits .or .u8 (hasB x h : Nat) (2 ^ k % 256) = (hasB (setB x k h) h : Nat) := by rw [or_walk (hasB_lt x h) hk, fill_has hk h127]
    have m2 : bits .or .u8 (setK x 0 : Nat) (2 ^ k % 256) = (setK (setB x k h) 0 : Nat) := by rw [or_walk l0 hk, fill_more hk h127]
    have m3 : bits .andNot .u8 (setK x 1 : Nat) (2 ^ k % 256) = (setK (setB x k h) 1 : Nat) := by
      have e : (2 ^ k % 256 : Int) = ((2 ^ k : Nat) : Int) := by
        have e1 : (2 ^ k % 256 : Int) = ((2 ^ k % 256 : Nat) : Int) := by simp
        rw [e1, Nat.mod_eq_of_lt hp]
      rw [e, u8_andNot_nat _ _ l1 hp, fill_less hk h127]
    rw [hhz] at HMZ
    have hk9 : ¬ (k : Int) < 0 := by omega
    clear HFI hr hx hh l0 l1 l2 lo hy hkh hry hby heE hz hrz hhz hM h0 hk0 h127 hp
    generalize setK x 0 ||| setK x 1 = o1 at *
    generalize setK x 0 = s0, setK x 1 = s1, setK x 2 = s2, hasB x h = m0 at *
    generalize eraseS (setB x k h) k = z at *
    generalize setB x k h = y at *
    generalize setK y 0 = t0, setK y 1 = t1, setK y 2 = t2, hasB y h = n0 at *
    go_enter Try.func6, Try.ntmps6
    go_wp2_with fail
    refine (Try.wakes_any _).mono ?_
    rintro e w1 ⟨rfl, hB1⟩
    have HB1 := Lib.hid hB1
    clear hB1
    go_wp2_with fail
    refine (HSE.out _).mono ?_
    rintro e w2 ⟨rfl, hB2⟩
    have HB2 := Lib.hid (HB1.out.trans (hB2.mono HB1.out.size))
    clear hB2 HB1
    go_wp2_with fail
    refine (HCK.out _).mono ?_
    rintro e w3 ⟨rfl, hB3⟩
    have HB3 := Lib.hid (HB2.out.trans (hB3.mono HB2.out.size))
    clear hB3 HB2
    go_wp2_with fail
    refine (HF2.out _).mono ?_
    rintro e w4 ⟨rfl, hB4⟩
    have HB4 := Lib.hid (HB3.out.trans (hB4.mono HB3.out.size))
    clear hB4 HB3
    go_wp2_with fail
    refine (HMY.out _).mono ?_
    rintro e w5 ⟨rfl, hB5⟩
    have HB5 := Lib.hid (HB4.out.trans (hB5.mono HB4.out.size))
    clear hB5 HB4
    go_wp2_with fail
    refine (HMX.out _).mono ?_
    rintro e w6 ⟨rfl, hB6⟩
    have HB6 := Lib.hid (HB5.out.trans (hB6.mono HB5.out.size))
    clear hB6 HB5
    go_wp2_with fail
    refine (HSY.out _).mono ?_
    rintro e w7 ⟨rfl, hB7⟩
    have HB7 := Lib.hid (HB6.out.trans (hB7.mono HB6.out.size))
    clear hB7 HB6
    go_wp2_with fail
    refine (HCY.out _).mono ?_
    rintro e w8 ⟨rfl, hB8⟩
    have HB8 := Lib.hid (HB7.out.trans (hB8.mono HB7.out.size))
    clear hB8 HB7
    go_wp2_with fail
    refine (HEY.out _).mono ?_
    rintro e w9 ⟨rfl, hB9⟩
    have HB9 := Lib.hid (HB8.out.trans (hB9.mono HB8.out.size))
    clear hB9 HB8
    go_wp2_with fail
    refine (HMZ.out _).mono ?_
    rintro e w10 ⟨rfl, hB10⟩
    have HB10 := Lib.hid (HB9.out.trans (hB10.mono HB9.out.size))
    clear hB10 HB9
    go_wp2_with fail
    refine (HCZ.out _).mono ?_
    rintro e w11 ⟨rfl, hB11⟩
    have HB11 := Lib.hid (HB10.out.trans (hB11.mono HB10.out.size))
    clear hB11 HB10
    go_wp2_with fail
    go_ret
    exact ⟨rfl, HB11.out⟩
theorem walk (a0 a1 a2 : Int) (w : World) (w0 : (Lit.int .u64 a0).wf = true) (_ : (Lit.int .i64 a1).wf = true) (w2 : (Lit.int .u8 a2).wf = true) :
    Calls Try.prog 6 #[.int .u64 a0, .int .i64 a1, .int .u8 a2] w fun e w' => e = .returned (.bool true) ∧ Below w.heap.size w w' := by
  have b0 := bounds_u64 w0
  have b2 := bounds_u8 w2
  obtain ⟨x, rfl⟩ := Int.eq_ofNat_of_zero_le b0.1
  obtain ⟨h, rfl⟩ := Int.eq_ofNat_of_zero_le b2.1
  have hx : x < 18446744073709551616 := by omega
  have hh : h < 256 := by omega
  cases hr : rightC x
  · exact walkNo x h a1 hr w
  · exact walkYes x h a1 hx hh hr w
theorem laidOut : laidOutB Try.prog = true := by kernel_rfl
set_option maxRecDepth 100000 in
theorem lifted (os : Os) (started : os.Started) (H : Type) (enc : TypeId × Value → H) :
    ReturnsInHanded {} Try.checked os 6 .any (Rows.ctrlPartsSpec.pre6 enc Try.prog Try.f6 Rows.ctrlPartsRow.domain false) (Rows.ctrlPartsSpec.post enc Try.prog Try.f6 false true false false) := by
  refine returnsInHanded_of_change (C := Try.checked) own started (by kernel_rfl) Try.func6
    (ChangeSpec.witness6 (enc := enc) (C := Try.checked) false ⟨#[], #[.int .u64 0, .int .i64 0, .int .u8 0], []⟩ 8 (by kernel_rfl) (by kernel_rfl) (by kernel_rfl) (by kernel_rfl)) ?_
  intro W base args ds gs before hval0 hW hcnd _
  have hval : ∀ (j : Nat) t v, Try.f6.params[j]? = some t → args[j]? = some v → Value.okWide Try.prog W .any base t v := hval0
  have hW' := hW
  obtain ⟨p, q, hA0, hV, rfl, hfz, hnd⟩ := hW
  have hA : DataW.TrodAll enc Try.prog W 0 (fun _ => true) true Try.f6.params.toList args.toList ds p := hA0
  rw [Try.params6] at hA hval
  obtain ⟨v0, vs0, d0, ds0, p0, q0, hargs, rfl, rfl, h0, r0⟩ := trodAll_cons hA
  obtain ⟨v1, vs1, d1, ds1, p1, q1, rfl, rfl, rfl, h1, r1⟩ := trodAll_cons r0
  obtain ⟨v2, vs2, d2, ds2, p2, q2, rfl, rfl, rfl, h2, r2⟩ := trodAll_cons r1
  obtain ⟨rfl, rfl, rfl⟩ := trodAll_nil r2
  obtain rfl : args = #[v0, v1, v2] := by cases args; simp_all
  obtain ⟨rfl, rfl⟩ := trodVars_none hV
  obtain ⟨a0, rfl, rfl, rfl, w0⟩ := open_int Try.underlying25 (hval 0 25 v0 rfl rfl) h0
  obtain ⟨a1, rfl, rfl, rfl, w1⟩ := open_int Try.underlying3 (hval 1 3 v1 rfl rfl) h1
  obtain ⟨a2, rfl, rfl, rfl, w2⟩ := open_int Try.underlying5 (hval 2 5 v2 rfl rfl) h2
  clear hA0 hval0
  refine (walk a0 a1 a2 W w0 w1 w2).mono fun e W' ⟨he, bel⟩ => ?_
  subst he
  exact ⟨_, rfl, _, _, _, [], _, [], hW', trodAll_mk1 (shut_bool Try.underlying4 _), (trodAll_cons_mk (shut_int Try.underlying25 w0) (trodAll_cons_mk (shut_int Try.underlying3 w1) (trodAll_cons_mk (shut_int Try.underlying5 w2) trodAll_mk0))), rfl, bel.frame _, fun h => by cases h⟩

theorem over : Rows.ctrlPartsRow.holds Try.pinned (OpenSpec.ofChange Rows.ctrlPartsSpec) :=
  OpenClaim.holds_of_wide 6 Try.f6 rfl rfl rfl rfl rfl rfl rfl ⟨rfl, rfl, rfl, rfl, rfl⟩ rfl rfl rfl rfl rfl (by kernel_rfl) Try.func6 (by kernel_rfl)
    (of_decide_eq_true (by kernel_rfl)) (by unfold Func.isWrapper; first | (rw [if_pos (by decide +kernel)]; kernel_rfl) | (rw [if_neg (by decide +kernel)]; exact ⟨rfl, rfl⟩))
    (fun os started H enc _ => lifted os started H enc)

theorem proved : Rows.CtrlPartsSaid := over
end Go.Proofs.Ytmjlaienklheiaa.ctrlParts
