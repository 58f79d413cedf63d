/- Proved: for every row of words, and row of bytes, honeycomblaw09.CtrlSays returns true, and its arguments read as they did; no condition. -/
import Derived.Test.YtmjlaienklheiaaJq
import Derived.ShutString
import Derived.ChangeOld
import Derived.Below
namespace Go.Proofs.Ytmjlaienklheiaa.ctrlSays
open Go.ChangeShapes Go.WideShapes Go.ChangeAt Go.RowKit Go.Shelf
attribute [local go_sem] Oper.semAt_some

theorem own : ownKnob Try.prog.godebug = none := by kernel_rfl
theorem eqM3 (a b c : Int) (w : World) : (Op.equalIn 10000 32 (.agg #[.int .u8 a, .int .u8 b, .int .u8 c]) (.agg #[.int .u8 a, .int .u8 b, .int .u8 c])).run Try.prog w = .ok true w := by
  have u3 := Try.underlying29
  have a3 : ∀ w, (isAgg 29).run Try.prog w = .ok false w := fun w => run_isAgg_plain Try.underlying29 rfl w
  have z3 : ∀ w, (sizeOf 29).run Try.prog w = .ok 1 w := fun w => by kernel_rfl
  rw [show (10000 : Nat) = 9999 + 1 from rfl, Op.equalIn]
  simp only [Sem.run_bind, run_underlying Try.underlying32, Result.andThen_ok]
  simp only [Std.Legacy.Range.forIn_eq_forIn_range', Std.Legacy.Range.size, Nat.sub_zero, Nat.add_sub_cancel, Nat.div_one, List.range'_succ, List.range'_zero, List.forIn_cons, List.forIn_nil]
  go_simp
theorem wkOf128 (w : World) (b : Nat) (t : TypeId) (hb : Rows8 w b t #[.int .u8 128, .int .u8 128, .int .u8 128, .int .u8 128, .int .u8 128, .int .u8 128, .int .u8 128, .int .u8 128]) :
    Calls Try.prog 19 #[.slice (some ⟨b, 0, none⟩) 8 8] w fun e w' => e = .returned (.int .u64 9259542123273814144) ∧ w = w' := by
  have h := Try.refOf_any (some ⟨b, 0, none⟩) 8 8 [128, 128, 128, 128, 128, 128, 128, 128] (fun n => by
    rcases Nat.lt_or_ge n 8 with h | h
    · match n, h with
      | 0, _ => decide
      | 1, _ => decide
      | 2, _ => decide
      | 3, _ => decide
      | 4, _ => decide
      | 5, _ => decide
      | 6, _ => decide
      | 7, _ => decide
    · rw [List.getElem?_eq_none (by simpa using h)]; decide) rfl (by decide) w (.inr ⟨b, 0, 8, rfl, hb.lt, fun j hj => by
    match j, hj with
    | 0, _ => exact hb.cell 0
    | 1, _ => exact hb.cell 1
    | 2, _ => exact hb.cell 2
    | 3, _ => exact hb.cell 3
    | 4, _ => exact hb.cell 4
    | 5, _ => exact hb.cell 5
    | 6, _ => exact hb.cell 6
    | 7, _ => exact hb.cell 7⟩)
  have e : (ofB fun (n : Nat) => ([128, 128, 128, 128, 128, 128, 128, 128] : List Nat)[n]?.getD 0) = 9259542123273814144 := by decide +kernel
  rw [e] at h
  exact h
set_option maxRecDepth 100000 in
set_option maxHeartbeats 8000000 in
theorem walkNat (a0 : Option Addr) (n0 c0 : Nat) (l0 : List Int) (a1 : Option Addr) (n1 c1 : Nat) (l1 : List Int) (w : World) (hl0 : n0 = l0.length) (hl1 : n1 = l1.length) (hR0 : RowI .u64 w (.slice a0 n0 c0) l0) (hw0 : ∀ z ∈ l0, (Lit.int .u64 z).wf = true) (hR1 : RowI .u8 w (.slice a1 n1 c1) l1) (hw1 : ∀ z ∈ l1, (Lit.int .u8 z).wf = true) :
    Calls Try.prog 3 #[.slice a0 n0 c0, .slice a1 n1 c1] w fun e w' => e = .returned (.bool true) ∧ Below w.heap.size w w' := by
  have HR0 := Lib.hid hR0
  have HR1 := Lib.hid hR1
  have HL0 := Lib.hid hl0
  have HL1 := Lib.hid hl1
  have HW0 := Lib.hid hw0
  have HW1 := Lib.hid hw1
  clear hR0 hR1 hl0 hl1 hw0 hw1
  have heq := eqM3
  have hgt : Try.prog.eqGuardType Try.prog.depth 32 = false := by kernel_rfl
  go_enter Try.func3, Try.ntmps3
  go_wp2_with fail
  refine (Try.wakes_any _).mono ?_
  rintro e v0 ⟨rfl, hB0⟩
  have HB0 := Lib.hid hB0
  clear hB0
  go_wp2_with fail
  have HEND : Hid (∀ W, Below w.heap.size w W → Calls Try.prog 18 #[] W fun e w' => e = .returned (.int .u64 9259542123273814144) ∧ Below w.heap.size w w') := Lib.hid fun W b => (Try.wkNew W).mono fun e w' h => ⟨h.1, b.trans (h.2.mono b.size)⟩
  go_loopw [23] (fun j wr => ∃ i : Nat, i ≤ n0 ∧ i ≤ 10 ∧ j = .int .i64 i ∧ Below w.heap.size w wr) (fun j _ => n0 - (intOf j).toNat)
  case atStart => exact ⟨0, Nat.zero_le _, Nat.zero_le _, rfl, HB0.out⟩
  case round =>
    obtain ⟨i, hi, hi8, rfl, hB⟩ := hrel
    have HB := Lib.hid hB
    have HBwe := HB
    obtain ⟨we, rfl⟩ : ∃ x, x = wr := ⟨_, rfl⟩
    by_cases hlt : i < n0
    · have hkl : i < l0.length := by rw [← HL0.out]; exact hlt
      have hwf := HW0.out _ (List.getElem_mem hkl)
      obtain ⟨b, off, rfl, hb, hc⟩ := (HR0.out.below hB).get i hkl
      rw [List.getElem?_eq_getElem hkl] at hc
      simp only [Option.getD_some] at hc
      generalize l0[i] = xi at *
      have bx := bounds_u64 hwf
      obtain ⟨x, rfl⟩ := Int.eq_ofNat_of_zero_le bx.1
      have HX : Hid (x < 18446744073709551616) := Lib.hid (by omega)
      have HRC := Lib.hid fun W => Try.refRight_any x HX.out W
      have hki : (i : Int) < (n0 : Int) := by omega
      clear hwf bx
      by_cases h8 : i = 10
      · subst h8
        have hlt8 : (10 : Int) < (n0 : Int) := hki
        clear hB
        go_wp2_with fail
        refine (HEND.out _ HBwe.out).mono ?_
        rintro e z1 ⟨rfl, hz⟩
        go_wp2_with fail
        have c0 := Rows8.new z1 5 #[.int .u8 128, .int .u8 128, .int .u8 128, .int .u8 128, .int .u8 128, .int .u8 128, .int .u8 128, .int .u8 128]
        have hC0 := hz.alloc hz.size (.cells #[.int .u8 128, .int .u8 128, .int .u8 128, .int .u8 128, .int .u8 128, .int .u8 128, .int .u8 128, .int .u8 128] 5)
        generalize (z1.alloc (.cells #[.int .u8 128, .int .u8 128, .int .u8 128, .int .u8 128, .int .u8 128, .int .u8 128, .int .u8 128, .int .u8 128] 5)) = Z at *
        refine (wkOf128 _ _ _ c0).mono ?_
        rintro e w' ⟨rfl, rfl⟩
        go_wp2_with fail
        go_ret
        exact ⟨rfl, hC0⟩
      have h8b : ((i : Int) == 10) = false := by simp; omega
      have hi7 : i ≤ 9 := by omega
      cases hr : rightC x
      · have HRT := Lib.hid hr
        rw [hr] at HRC
        clear hr
        have HCK := Lib.hid fun W => (by have h := Try.Check_any x W; rw [HRT.out] at h; exact h : Calls Try.prog 11 #[.int .u64 x] W fun e w' => e = .returned (.int .i64 190) ∧ Below W.heap.size W w')
        have HSE := Lib.hid fun W => (by have h := Try.Sets_any x W; unfold setsE at h; rw [HRT.out] at h; exact h : Calls Try.prog 12 #[.int .u64 x] W fun e w' => e = .returned (.tuple #[.int .u8 0, .int .u8 0, .int .u8 0]) ∧ Below W.heap.size W w')
        have HST := Lib.hid fun W => (by have h := Try.Stops_any x W; rw [HRT.out] at h; exact h : Calls Try.prog 14 #[.int .u64 x] W fun e w' => e = .returned (.bool false) ∧ Below W.heap.size W w')
        clear hB
        go_wp2_with fail
        refine (HRC.out _).mono ?_
        rintro e x1 ⟨rfl, hB9⟩
        have HBx1 := Lib.hid (HBwe.out.trans (hB9.mono HBwe.out.size))
        clear hB9
        go_wp2_with fail
        refine (HCK.out _).mono ?_
        rintro e x2 ⟨rfl, hB9⟩
        have HBx2 := Lib.hid (HBx1.out.trans (hB9.mono HBx1.out.size))
        clear hB9
        go_wp2_with fail
        refine (HSE.out _).mono ?_
        rintro e x3 ⟨rfl, hB9⟩
        have HBx3 := Lib.hid (HBx2.out.trans (hB9.mono HBx2.out.size))
        clear hB9
        go_wp2_with fail
        refine (HST.out _).mono ?_
        rintro e x4 ⟨rfl, hB9⟩
        have HBx4 := Lib.hid ((HBx3.out.alloc HBx3.out.size _).trans (hB9.mono (by simp; have := HBx3.out.size; omega)))
        clear hB9
        go_wp2_with fail
        go_loopw [78] (fun j wr => ∃ k : Nat, k ≤ n1 ∧ k ≤ 8 ∧ j = .int .i64 k ∧ Below w.heap.size w wr) (fun j _ => n1 - (intOf j).toNat)
        case atStart => exact ⟨0, Nat.zero_le _, Nat.zero_le _, rfl, HBx4.out⟩
        case round =>
          obtain ⟨k, hk, hk8, rfl, hBi⟩ := hrel
          have HBwr := Lib.hid hBi
          by_cases hlt1 : k < n1
          · have hkl : k < l1.length := by rw [← HL1.out]; exact hlt1
            have hwf1 := HW1.out _ (List.getElem_mem hkl)
            obtain ⟨b1, off1, rfl, hb1, hc1⟩ := (HR1.out.below hBi).get k hkl
            rw [List.getElem?_eq_getElem hkl] at hc1
            simp only [Option.getD_some] at hc1
            generalize l1[k] = hi2 at *
            have bh := bounds_u8 hwf1
            obtain ⟨h, rfl⟩ := Int.eq_ofNat_of_zero_le bh.1
            have hki : (k : Int) < (n1 : Int) := by omega
            clear hwf1 bh
            by_cases h8k : k = 8
            · subst h8k
              have hlt8 : (8 : Int) < (n1 : Int) := hki
              clear hBi
              go_wp2_with fail
              go_roundw
              case rel => exact ⟨i + 1, by omega, by omega, by go_num, HBwr.out⟩
              case measure => simp [intOf]; omega
            have h8kb : ((k : Int) == 8) = false := by simp; omega
            have hk7 : k ≤ 7 := by omega
            have HM := Lib.hid fun W => (by have h1 := Try.Match_any x h W; unfold matchM matchE at h1; rw [HRT.out] at h1; exact h1 : Calls Try.prog 16 #[.int .u64 x, .int .u8 h] W fun e w' => e = .returned (.tuple #[.int .u8 0, .int .i64 190]) ∧ Below W.heap.size W w')
            clear hBi
            go_wp2_with (go_at_call 16; refine (HM.out _).mono ?_; rintro e y2 ⟨rfl, hB⟩; have HBy2 := Lib.hid (HBwr.out.trans (hB.mono HBwr.out.size)); clear hB)
            go_roundw
            case rel => exact ⟨k + 1, by omega, by omega, by go_num, HBy2.out⟩
            case measure => simp [intOf]; omega
          · have hki : ¬ (k : Int) < (n1 : Int) := by omega
            clear hBi
            go_wp2_with fail
            go_roundw
            case rel => exact ⟨i + 1, by omega, by omega, by go_num, HBwr.out⟩
            case measure => simp [intOf]; omega
      · have HRT := Lib.hid hr
        rw [hr] at HRC
        clear hr
        have HCK := Lib.hid fun W => (by have h := Try.Check_any x W; rw [HRT.out] at h; exact h : Calls Try.prog 11 #[.int .u64 x] W fun e w' => e = .returned (.int .i64 0) ∧ Below W.heap.size W w')
        have HSE := Lib.hid fun W => (by have h := Try.Sets_any x W; unfold setsE at h; rw [HRT.out] at h; exact h : Calls Try.prog 12 #[.int .u64 x] W fun e w' => e = .returned (.tuple #[.int .u8 (setK x 0 : Nat), .int .u8 (setK x 1 : Nat), .int .u8 (setK x 2 : Nat)]) ∧ Below W.heap.size W w')
        have HST := Lib.hid fun W => (by have h := Try.Stops_any x W; rw [HRT.out] at h; exact h : Calls Try.prog 14 #[.int .u64 x] W fun e w' => e = .returned (.bool (stopsC x)) ∧ Below W.heap.size W w')
        have HS0 := Lib.hid fun W => Try.refSet0_any x HX.out W
        have HS1 := Lib.hid fun W => Try.refSet1_any x HX.out W
        have HS2 := Lib.hid fun W => Try.refSet2_any x HX.out W
        have HRS := Lib.hid fun W => Try.refStops_any x HX.out W
        generalize setK x 0 = s0, setK x 1 = s1, setK x 2 = s2, stopsC x = st at *
        clear hB
        go_wp2_with fail
        refine (HRC.out _).mono ?_
        rintro e x1 ⟨rfl, hB9⟩
        have HBx1 := Lib.hid (HBwe.out.trans (hB9.mono HBwe.out.size))
        clear hB9
        go_wp2_with fail
        refine (HCK.out _).mono ?_
        rintro e x2 ⟨rfl, hB9⟩
        have HBx2 := Lib.hid (HBx1.out.trans (hB9.mono HBx1.out.size))
        clear hB9
        go_wp2_with fail
        refine (HSE.out _).mono ?_
        rintro e x3 ⟨rfl, hB9⟩
        have HBx3 := Lib.hid (HBx2.out.trans (hB9.mono HBx2.out.size))
        clear hB9
        go_wp2_with fail
        refine (HS0.out _).mono ?_
        rintro e w' ⟨rfl, rfl⟩
        go_wp2_with fail
        refine (HS1.out _).mono ?_
        rintro e w' ⟨rfl, rfl⟩
        go_wp2_with fail
        refine (HS2.out _).mono ?_
        rintro e w' ⟨rfl, rfl⟩
        go_wp2_with fail
        refine (HST.out _).mono ?_
        rintro e x4 ⟨rfl, hB9⟩
        have HBx4 := Lib.hid ((HBx3.out.alloc HBx3.out.size _).trans (hB9.mono (by simp; have := HBx3.out.size; omega)))
        clear hB9
        go_wp2_with fail
        refine (HRS.out _).mono ?_
        rintro e w' ⟨rfl, rfl⟩
        go_wp2_with fail
        go_loopw [78] (fun j wr => ∃ k : Nat, k ≤ n1 ∧ k ≤ 8 ∧ j = .int .i64 k ∧ Below w.heap.size w wr) (fun j _ => n1 - (intOf j).toNat)
        case atStart => exact ⟨0, Nat.zero_le _, Nat.zero_le _, rfl, HBx4.out⟩
        case round =>
          obtain ⟨k, hk, hk8, rfl, hBi⟩ := hrel
          have HBwr := Lib.hid hBi
          by_cases hlt1 : k < n1
          · have hkl : k < l1.length := by rw [← HL1.out]; exact hlt1
            have hwf1 := HW1.out _ (List.getElem_mem hkl)
            obtain ⟨b1, off1, rfl, hb1, hc1⟩ := (HR1.out.below hBi).get k hkl
            rw [List.getElem?_eq_getElem hkl] at hc1
            simp only [Option.getD_some] at hc1
            generalize l1[k] = hi2 at *
            have bh := bounds_u8 hwf1
            obtain ⟨h, rfl⟩ := Int.eq_ofNat_of_zero_le bh.1
            have hki : (k : Int) < (n1 : Int) := by omega
            clear hwf1 bh
            by_cases h8k : k = 8
            · subst h8k
              have hlt8 : (8 : Int) < (n1 : Int) := hki
              clear hBi
              go_wp2_with fail
              go_roundw
              case rel => exact ⟨i + 1, by omega, by omega, by go_num, HBwr.out⟩
              case measure => simp [intOf]; omega
            have h8kb : ((k : Int) == 8) = false := by simp; omega
            have hk7 : k ≤ 7 := by omega
            by_cases h127 : h ≤ 127
            · have HM := Lib.hid fun W => (by have h1 := Try.Match_any x h W; unfold matchM matchE at h1; rw [HRT.out, if_pos rfl, if_pos rfl, if_pos h127, if_pos h127] at h1; exact h1 : Calls Try.prog 16 #[.int .u64 x, .int .u8 h] W fun e w' => e = .returned (.tuple #[.int .u8 (hasB x h : Nat), .int .i64 0]) ∧ Below W.heap.size W w')
              have HE : Hid (∀ W, Calls Try.prog 17 #[.int .u64 x, .int .u8 h] W fun e w' => e = .returned (.int .u8 (hasB x h : Nat)) ∧ Below W.heap.size W w') := Lib.hid fun W => Try.refEqual_any x h HX.out W
              have h127' : (h : Int) ≤ 127 := by omega
              clear hBi h127
              generalize hasB x h = m0 at *
              go_wp2_with (first
                | (go_at_call 16; refine (HM.out _).mono ?_; rintro e y2 ⟨rfl, hB⟩; have HBy2 := Lib.hid (HBwr.out.trans (hB.mono HBwr.out.size)); clear hB)
                | (go_at_call 17; refine (HE.out _).mono ?_; rintro e y3 ⟨rfl, hB⟩; have HBy3 := Lib.hid (HBy2.out.trans (hB.mono HBy2.out.size)); clear hB))
              go_roundw
              case rel => exact ⟨k + 1, by omega, by omega, by go_num, HBy3.out⟩
              case measure => simp [intOf]; omega
            · have HM := Lib.hid fun W => (by have h1 := Try.Match_any x h W; unfold matchM matchE at h1; rw [HRT.out, if_pos rfl, if_pos rfl, if_neg h127, if_neg h127] at h1; exact h1 : Calls Try.prog 16 #[.int .u64 x, .int .u8 h] W fun e w' => e = .returned (.tuple #[.int .u8 0, .int .i64 2]) ∧ Below W.heap.size W w')
              have h127' : ¬ (h : Int) ≤ 127 := by omega
              clear hBi h127
              go_wp2_with (go_at_call 16; refine (HM.out _).mono ?_; rintro e y2 ⟨rfl, hB⟩; have HBy2 := Lib.hid (HBwr.out.trans (hB.mono HBwr.out.size)); clear hB)
              go_roundw
              case rel => exact ⟨k + 1, by omega, by omega, by go_num, HBy2.out⟩
              case measure => simp [intOf]; omega
          · have hki : ¬ (k : Int) < (n1 : Int) := by omega
            clear hBi
            go_wp2_with fail
            go_roundw
            case rel => exact ⟨i + 1, by omega, by omega, by go_num, HBwr.out⟩
            case measure => simp [intOf]; omega
    · have hki : ¬ (i : Int) < (n0 : Int) := by omega
      clear hB
      go_wp2_with fail
      refine (HEND.out _ HBwe.out).mono ?_
      rintro e z1 ⟨rfl, hz⟩
      go_wp2_with fail
      have c0 := Rows8.new z1 5 #[.int .u8 128, .int .u8 128, .int .u8 128, .int .u8 128, .int .u8 128, .int .u8 128, .int .u8 128, .int .u8 128]
      have hC0 := hz.alloc hz.size (.cells #[.int .u8 128, .int .u8 128, .int .u8 128, .int .u8 128, .int .u8 128, .int .u8 128, .int .u8 128, .int .u8 128] 5)
      generalize (z1.alloc (.cells #[.int .u8 128, .int .u8 128, .int .u8 128, .int .u8 128, .int .u8 128, .int .u8 128, .int .u8 128, .int .u8 128] 5)) = Z at *
      refine (wkOf128 _ _ _ c0).mono ?_
      rintro e w' ⟨rfl, rfl⟩
      go_wp2_with fail
      go_ret
      exact ⟨rfl, hC0⟩
theorem walk (a0 : Option Addr) (len0 cap0 : Nat) (z0 : List Int) (a1 : Option Addr) (len1 cap1 : Nat) (z1 : List Int) (w : World) (w0 : IsRow .u64 w a0 len0 cap0 z0) (w1 : IsRow .u8 w a1 len1 cap1 z1) :
    Calls Try.prog 3 #[.slice a0 len0 cap0, .slice a1 len1 cap1] w fun e w' => e = .returned (.bool true) ∧ Below w.heap.size w w' := by
  obtain ⟨h1, h2, h3⟩ := rowI_of w0
  obtain ⟨h4, h5, h6⟩ := rowI_of w1
  exact walkNat _ _ _ _ _ _ _ _ w h1 h4 h2 h3 h5 h6
theorem laidOut : laidOutB Try.prog = true := by kernel_rfl
set_option maxRecDepth 100000 in
theorem lifted (os : Os) (started : os.Started) (H : Type) (enc : TypeId × Value → H) :
    ReturnsInHanded {} Try.checked os 3 .any (Rows.ctrlSaysSpec.pre6 enc Try.prog Try.f3 Rows.ctrlSaysRow.domain false) (Rows.ctrlSaysSpec.post enc Try.prog Try.f3 false true false false) := by
  refine returnsInHanded_of_change (C := Try.checked) own started (by kernel_rfl) Try.func3
    (ChangeSpec.witness6 (enc := enc) (C := Try.checked) false ⟨#[], #[.slice none 0 0, .slice none 0 0], []⟩ 8 (by kernel_rfl) (by kernel_rfl) (by kernel_rfl) (by kernel_rfl)) ?_
  intro W base args ds gs before hval0 hW hcnd _
  have hval : ∀ (j : Nat) t v, Try.f3.params[j]? = some t → args[j]? = some v → Value.okWide Try.prog W .any base t v := hval0
  have hW' := hW
  obtain ⟨p, q, hA0, hV, rfl, hfz, hnd⟩ := hW
  have hA : DataW.TrodAll enc Try.prog W 0 (fun _ => true) true Try.f3.params.toList args.toList ds p := hA0
  rw [Try.params3] at hA hval
  obtain ⟨v0, vs0, d0, ds0, p0, q0, hargs, rfl, rfl, h0, r0⟩ := trodAll_cons hA
  obtain ⟨v1, vs1, d1, ds1, p1, q1, rfl, rfl, rfl, h1, r1⟩ := trodAll_cons r0
  obtain ⟨rfl, rfl, rfl⟩ := trodAll_nil r1
  obtain rfl : args = #[v0, v1] := by cases args; simp_all
  obtain ⟨rfl, rfl⟩ := trodVars_none hV
  obtain ⟨a0, len0, cap0, rfl⟩ := okWide_slice Try.underlying22 (hval 0 22 v0 rfl rfl)
  have k0 := h0
  have lt0 : ∀ x ∈ p0, x.block < W.heap.size := by obtain ⟨m, hm⟩ := k0; exact DataW.trod_lt m _ _ _ hm
  obtain ⟨z0, w0⟩ : ∃ zs, IsRow .u64 W a0 len0 cap0 zs := by
    obtain ⟨fuel, hf⟩ := h0
    rcases open_ints Try.underlying22 Try.underlying25 (by kernel_rfl) hf with ⟨hcs, _⟩ | ⟨x, l, c, zs, hcs, _, hl, hm, hz, _, hcell, hwz⟩
    · simp [Value.cells] at hcs
      obtain ⟨rfl, rfl, rfl⟩ := hcs
      exact ⟨[], .inl ⟨rfl, rfl, rfl, rfl⟩⟩
    · simp [Value.cells] at hcs
      obtain ⟨rfl, rfl, rfl⟩ := hcs
      exact ⟨zs, .inr ⟨_, rfl, hl, hm, by simpa using hz, hcell, hwz⟩⟩
  obtain ⟨a1, len1, cap1, rfl⟩ := okWide_slice Try.underlying23 (hval 1 23 v1 rfl rfl)
  have k1 := h1
  have lt1 : ∀ x ∈ p1, x.block < W.heap.size := by obtain ⟨m, hm⟩ := k1; exact DataW.trod_lt m _ _ _ hm
  obtain ⟨z1, w1⟩ : ∃ zs, IsRow .u8 W a1 len1 cap1 zs := by
    obtain ⟨fuel, hf⟩ := h1
    rcases open_ints Try.underlying23 Try.underlying5 (by kernel_rfl) hf with ⟨hcs, _⟩ | ⟨x, l, c, zs, hcs, _, hl, hm, hz, _, hcell, hwz⟩
    · simp [Value.cells] at hcs
      obtain ⟨rfl, rfl, rfl⟩ := hcs
      exact ⟨[], .inl ⟨rfl, rfl, rfl, rfl⟩⟩
    · simp [Value.cells] at hcs
      obtain ⟨rfl, rfl, rfl⟩ := hcs
      exact ⟨zs, .inr ⟨_, rfl, hl, hm, by simpa using hz, hcell, hwz⟩⟩
  clear hA0 hval0
  refine (walk a0 len0 cap0 z0 a1 len1 cap1 z1 W w0 w1).mono fun e W' ⟨he, bel⟩ => ?_
  subst he
  exact ⟨_, rfl, _, _, _, [], _, [], hW', trodAll_mk1 (shut_bool Try.underlying4 _), (trodAll_cons_mk (Below.trod laidOut (by kernel_rfl) (of_decide_eq_true (by kernel_rfl)) k0 bel lt0) (trodAll_cons_mk (Below.trod laidOut (by kernel_rfl) (of_decide_eq_true (by kernel_rfl)) k1 bel lt1) trodAll_mk0)), rfl, bel.frame _, fun h => by cases h⟩

theorem over : Rows.ctrlSaysRow.holds Try.pinned (OpenSpec.ofChange Rows.ctrlSaysSpec) :=
  OpenClaim.holds_of_wide 3 Try.f3 rfl rfl rfl rfl rfl rfl rfl ⟨rfl, rfl, rfl, rfl, rfl⟩ rfl rfl rfl rfl rfl (by kernel_rfl) Try.func3 (by kernel_rfl)
    (of_decide_eq_true (by kernel_rfl)) (by unfold Func.isWrapper; first | (rw [if_pos (by decide +kernel)]; kernel_rfl) | (rw [if_neg (by decide +kernel)]; exact ⟨rfl, rfl⟩))
    (fun os started H enc _ => lifted os started H enc)

theorem proved : Rows.CtrlSaysSaid := over
end Go.Proofs.Ytmjlaienklheiaa.ctrlSays
