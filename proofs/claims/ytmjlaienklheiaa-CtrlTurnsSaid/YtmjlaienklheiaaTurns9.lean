/- Proved: for every row of words, row of numbers, and byte, honeycomblaw09.CtrlTurns returns true, and its arguments read as they did; no condition. -/
import Derived.Test.YtmjlaienklheiaaJq
import Derived.ShutString
import Derived.ChangeOld
import Derived.Below
namespace Go.Proofs.Ytmjlaienklheiaa.ctrlTurns
open Go.ChangeShapes Go.WideShapes Go.ChangeAt Go.RowKit Go.Shelf
attribute [local go_sem] Oper.semAt_some

theorem own : ownKnob Try.prog.godebug = none := by kernel_rfl

set_option maxRecDepth 100000 in
set_option maxHeartbeats 8000000 in
theorem walkNat (a0 : Option Addr) (n0 c0 : Nat) (l0 : List Int) (a1 : Option Addr) (n1 c1 : Nat) (l1 : List Int) (h : Nat) (hh : h < 256) (w : World) (hl0 : n0 = l0.length) (hl1 : n1 = l1.length) (hR0 : RowI .u64 w (.slice a0 n0 c0) l0) (hw0 : ∀ z ∈ l0, (Lit.int .u64 z).wf = true) (hR1 : RowI .i64 w (.slice a1 n1 c1) l1) :
    Calls Try.prog 4 #[.slice a0 n0 c0, .slice a1 n1 c1, .int .u8 h] w fun e w' => e = .returned (.bool true) ∧ Below w.heap.size w w' := by
  have HR0 := Lib.hid hR0
  have HR1 := Lib.hid hR1
  have HL0 := Lib.hid hl0
  have HL1 := Lib.hid hl1
  have HW0 := Lib.hid hw0
  have HH := Lib.hid hh
  clear hR0 hR1 hl0 hl1 hw0 hh
  go_enter Try.func4, Try.ntmps4
  go_wp2_with fail
  refine (Try.wakes_any _).mono ?_
  rintro e v0 ⟨rfl, hB0⟩
  have HB0 := Lib.hid hB0
  clear hB0
  go_wp2_with fail
  go_loopw [24] (fun j wr => ∃ i : Nat, i ≤ n0 ∧ i ≤ 8 ∧ j = .int .i64 i ∧ Below w.heap.size w wr) (fun j _ => n0 - (intOf j).toNat)
  case atStart => exact ⟨0, Nat.zero_le _, Nat.zero_le _, rfl, HB0.out⟩
  case round =>
    obtain ⟨i, hi, hi8, rfl, hB⟩ := hrel
    have HB := Lib.hid hB
    obtain ⟨we, rfl⟩ : ∃ x, x = wr := ⟨_, rfl⟩
    by_cases hlt : i < n0
    · have hkl : i < l0.length := by rw [← HL0.out]; exact hlt
      have hwf := HW0.out _ (List.getElem_mem hkl)
      obtain ⟨b, off, rfl, hb, hc⟩ := (HR0.out.below hB).get i hkl
      rw [List.getElem?_eq_getElem hkl] at hc
      simp only [Option.getD_some] at hc
      generalize l0[i] = xi at *
      have bx := bounds_u64 hwf
      obtain ⟨x, rfl⟩ := Int.eq_ofNat_of_zero_le bx.1
      have HX : Hid (x < 18446744073709551616) := Lib.hid (by omega)
      have HRC := Lib.hid fun W => Try.refRight_any x HX.out W
      have hki : (i : Int) < (n0 : Int) := by omega
      clear hwf bx
      by_cases h8 : i = 8
      · subst h8
        have hlt8 : (8 : Int) < (n0 : Int) := hki
        clear hB
        go_wp2_with fail
        go_ret
        exact ⟨rfl, HB.out⟩
      have h8b : ((i : Int) == 8) = false := by simp; omega
      have hi7 : i ≤ 7 := by omega
      cases hr : rightC x
      · have HRT := Lib.hid hr
        rw [hr] at HRC
        clear hr
        clear hB
        have HBwe := HB
        go_wp2_with (go_at_call 10; refine (HRC.out _).mono ?_; rintro e v1 ⟨rfl, hB⟩; have HBv1 := Lib.hid (HBwe.out.trans (hB.mono HBwe.out.size)); clear hB)
        go_loopw [35] (fun j wr => ∃ k : Nat, k ≤ n1 ∧ k ≤ 8 ∧ j = .int .i64 k ∧ Below w.heap.size w wr) (fun j _ => n1 - (intOf j).toNat)
        case atStart => exact ⟨0, Nat.zero_le _, Nat.zero_le _, rfl, HBv1.out⟩
        case round =>
          obtain ⟨k, hk, hk8, rfl, hBi⟩ := hrel
          have HBwr := Lib.hid hBi
          by_cases hlt1 : k < n1
          · have hkl : k < l1.length := by rw [← HL1.out]; exact hlt1
            obtain ⟨b1, off1, rfl, hb1, hc1⟩ := (HR1.out.below hBi).get k hkl
            generalize l1[k]?.getD 0 = lane at *
            have hki : (k : Int) < (n1 : Int) := by omega
            by_cases h8k : k = 8
            · subst h8k
              have hlt8 : (8 : Int) < (n1 : Int) := hki
              clear hBi
              go_wp2_with fail
              go_roundw
              case rel => exact ⟨i + 1, by omega, by omega, by go_num, HBwr.out⟩
              case measure => simp [intOf]; omega
            · have h8kb : ((k : Int) == 8) = false := by simp; omega
              have hk7 : k ≤ 7 := by omega
              have HCF := Lib.hid fun W => (by have h1 := Try.cFill_any x lane h HX.out HH.out W; unfold resY resE at h1; rw [HRT.out] at h1; exact h1 : Calls Try.prog 20 #[.int .u64 x, .int .i64 lane, .int .u8 h] W fun e w' => e = .returned (.tuple #[.int .u64 0, .int .i64 190]) ∧ Below W.heap.size W w')
              have HCE := Lib.hid fun W => (by have h1 := Try.cErase_any x lane HX.out W; unfold resY resE at h1; rw [HRT.out] at h1; exact h1 : Calls Try.prog 21 #[.int .u64 x, .int .i64 lane] W fun e w' => e = .returned (.tuple #[.int .u64 0, .int .i64 190]) ∧ Below W.heap.size W w')
              clear hBi
              go_wp2_with (first
                | (go_at_call 20; refine (HCF.out _).mono ?_; rintro e v2 ⟨rfl, hB⟩; have HBv2 := Lib.hid (HBwr.out.trans (hB.mono HBwr.out.size)); clear hB)
                | (go_at_call 21; refine (HCE.out _).mono ?_; rintro e v3 ⟨rfl, hB⟩; have HBv3 := Lib.hid (HBv2.out.trans (hB.mono HBv2.out.size)); clear hB))
              go_roundw
              case rel => exact ⟨k + 1, by omega, by omega, by go_num, HBv3.out⟩
              case measure => simp [intOf]; omega
          · have hki : ¬ (k : Int) < (n1 : Int) := by omega
            clear hBi
            go_wp2_with fail
            go_roundw
            case rel => exact ⟨i + 1, by omega, by omega, by go_num, HBwr.out⟩
            case measure => simp [intOf]; omega
      · have HRT := Lib.hid hr
        rw [hr] at HRC
        clear hr
        clear hB
        have HBwe := HB
        go_wp2_with (go_at_call 10; refine (HRC.out _).mono ?_; rintro e v1 ⟨rfl, hB⟩; have HBv1 := Lib.hid (HBwe.out.trans (hB.mono HBwe.out.size)); clear hB)
        go_loopw [35] (fun j wr => ∃ k : Nat, k ≤ n1 ∧ k ≤ 8 ∧ j = .int .i64 k ∧ Below w.heap.size w wr) (fun j _ => n1 - (intOf j).toNat)
        case atStart => exact ⟨0, Nat.zero_le _, Nat.zero_le _, rfl, HBv1.out⟩
        case round =>
          obtain ⟨k, hk, hk8, rfl, hBi⟩ := hrel
          have HBwr := Lib.hid hBi
          by_cases hlt1 : k < n1
          · have hkl : k < l1.length := by rw [← HL1.out]; exact hlt1
            obtain ⟨b1, off1, rfl, hb1, hc1⟩ := (HR1.out.below hBi).get k hkl
            generalize l1[k]?.getD 0 = lane at *
            have hki : (k : Int) < (n1 : Int) := by omega
            by_cases h8k : k = 8
            · subst h8k
              have hlt8 : (8 : Int) < (n1 : Int) := hki
              clear hBi
              go_wp2_with fail
              go_roundw
              case rel => exact ⟨i + 1, by omega, by omega, by go_num, HBwr.out⟩
              case measure => simp [intOf]; omega
            · have h8kb : ((k : Int) == 8) = false := by simp; omega
              have hk7 : k ≤ 7 := by omega
              have HCF := Lib.hid fun W => (by have h1 := Try.cFill_any x lane h HX.out HH.out W; unfold resY resE at h1; rw [HRT.out] at h1; exact h1 : Calls Try.prog 20 #[.int .u64 x, .int .i64 lane, .int .u8 h] W fun e w' => e = .returned (.tuple #[.int .u64 (fillW x lane h : Nat), .int .i64 (fillE x lane h)]) ∧ Below W.heap.size W w')
              have HCE := Lib.hid fun W => (by have h1 := Try.cErase_any x lane HX.out W; unfold resY resE at h1; rw [HRT.out] at h1; exact h1 : Calls Try.prog 21 #[.int .u64 x, .int .i64 lane] W fun e w' => e = .returned (.tuple #[.int .u64 (eraseW x lane : Nat), .int .i64 (eraseE x lane)]) ∧ Below W.heap.size W w')
              have HRF := Lib.hid fun W => Try.refFill_any x lane h HX.out HH.out W
              have HRE := Lib.hid fun W => Try.refErase_any x lane HX.out W
              clear hBi
              generalize fillW x lane h = f1, fillE x lane h = f2, eraseW x lane = g1, eraseE x lane = g2 at *
              go_wp2_with (first
                | (go_at_call 20; refine (HCF.out _).mono ?_; rintro e v2 ⟨rfl, hB⟩; have HBv2 := Lib.hid (HBwr.out.trans (hB.mono HBwr.out.size)); clear hB)
                | (go_at_call 21; refine (HCE.out _).mono ?_; rintro e v3 ⟨rfl, hB⟩; have HBv3 := Lib.hid (HBv2.out.trans (hB.mono HBv2.out.size)); clear hB)
                | (go_at_call 22; refine (HRF.out _).mono ?_; rintro e v4 ⟨rfl, hB⟩; have HBv4 := Lib.hid (HBv3.out.trans (hB.mono HBv3.out.size)); clear hB)
                | (go_at_call 23; refine (HRE.out _).mono ?_; rintro e v5 ⟨rfl, hB⟩; have HBv5 := Lib.hid (HBv4.out.trans (hB.mono HBv4.out.size)); clear hB))
              go_roundw
              case rel => exact ⟨k + 1, by omega, by omega, by go_num, HBv5.out⟩
              case measure => simp [intOf]; omega
          · have hki : ¬ (k : Int) < (n1 : Int) := by omega
            clear hBi
            go_wp2_with fail
            go_roundw
            case rel => exact ⟨i + 1, by omega, by omega, by go_num, HBwr.out⟩
            case measure => simp [intOf]; omega
    · have hki : ¬ (i : Int) < (n0 : Int) := by omega
      clear hB
      go_wp2_with fail
      go_ret
      exact ⟨rfl, HB.out⟩
theorem walk (a0 : Option Addr) (len0 cap0 : Nat) (z0 : List Int) (a1 : Option Addr) (len1 cap1 : Nat) (z1 : List Int) (a2 : Int) (w : World) (w0 : IsRow .u64 w a0 len0 cap0 z0) (w1 : IsRow .i64 w a1 len1 cap1 z1) (w2 : (Lit.int .u8 a2).wf = true) :
    Calls Try.prog 4 #[.slice a0 len0 cap0, .slice a1 len1 cap1, .int .u8 a2] w fun e w' => e = .returned (.bool true) ∧ Below w.heap.size w w' := by
  have b2 := bounds_u8 w2
  obtain ⟨h, rfl⟩ := Int.eq_ofNat_of_zero_le b2.1
  obtain ⟨h1, h2, h3⟩ := rowI_of w0
  obtain ⟨h4, h5, _⟩ := rowI_of w1
  exact walkNat _ _ _ _ _ _ _ _ h (by omega) w h1 h4 h2 h3 h5
theorem laidOut : laidOutB Try.prog = true := by kernel_rfl
set_option maxRecDepth 100000 in
theorem lifted (os : Os) (started : os.Started) (H : Type) (enc : TypeId × Value → H) :
    ReturnsInHanded {} Try.checked os 4 .any (Rows.ctrlTurnsSpec.pre6 enc Try.prog Try.f4 Rows.ctrlTurnsRow.domain false) (Rows.ctrlTurnsSpec.post enc Try.prog Try.f4 false true false false) := by
  refine returnsInHanded_of_change (C := Try.checked) own started (by kernel_rfl) Try.func4
    (ChangeSpec.witness6 (enc := enc) (C := Try.checked) false ⟨#[], #[.slice none 0 0, .slice none 0 0, .int .u8 0], []⟩ 8 (by kernel_rfl) (by kernel_rfl) (by kernel_rfl) (by kernel_rfl)) ?_
  intro W base args ds gs before hval0 hW hcnd _
  have hval : ∀ (j : Nat) t v, Try.f4.params[j]? = some t → args[j]? = some v → Value.okWide Try.prog W .any base t v := hval0
  have hW' := hW
  obtain ⟨p, q, hA0, hV, rfl, hfz, hnd⟩ := hW
  have hA : DataW.TrodAll enc Try.prog W 0 (fun _ => true) true Try.f4.params.toList args.toList ds p := hA0
  rw [Try.params4] at hA hval
  obtain ⟨v0, vs0, d0, ds0, p0, q0, hargs, rfl, rfl, h0, r0⟩ := trodAll_cons hA
  obtain ⟨v1, vs1, d1, ds1, p1, q1, rfl, rfl, rfl, h1, r1⟩ := trodAll_cons r0
  obtain ⟨v2, vs2, d2, ds2, p2, q2, rfl, rfl, rfl, h2, r2⟩ := trodAll_cons r1
  obtain ⟨rfl, rfl, rfl⟩ := trodAll_nil r2
  obtain rfl : args = #[v0, v1, v2] := by cases args; simp_all
  obtain ⟨rfl, rfl⟩ := trodVars_none hV
  obtain ⟨a0, len0, cap0, rfl⟩ := okWide_slice Try.underlying22 (hval 0 22 v0 rfl rfl)
  have k0 := h0
  have lt0 : ∀ x ∈ p0, x.block < W.heap.size := by obtain ⟨m, hm⟩ := k0; exact DataW.trod_lt m _ _ _ hm
  obtain ⟨z0, w0⟩ : ∃ zs, IsRow .u64 W a0 len0 cap0 zs := by
    obtain ⟨fuel, hf⟩ := h0
    rcases open_ints Try.underlying22 Try.underlying25 (by kernel_rfl) hf with ⟨hcs, _⟩ | ⟨x, l, c, zs, hcs, _, hl, hm, hz, _, hcell, hwz⟩
    · simp [Value.cells] at hcs
      obtain ⟨rfl, rfl, rfl⟩ := hcs
      exact ⟨[], .inl ⟨rfl, rfl, rfl, rfl⟩⟩
    · simp [Value.cells] at hcs
      obtain ⟨rfl, rfl, rfl⟩ := hcs
      exact ⟨zs, .inr ⟨_, rfl, hl, hm, by simpa using hz, hcell, hwz⟩⟩
  obtain ⟨a1, len1, cap1, rfl⟩ := okWide_slice Try.underlying40 (hval 1 40 v1 rfl rfl)
  have k1 := h1
  have lt1 : ∀ x ∈ p1, x.block < W.heap.size := by obtain ⟨m, hm⟩ := k1; exact DataW.trod_lt m _ _ _ hm
  obtain ⟨z1, w1⟩ : ∃ zs, IsRow .i64 W a1 len1 cap1 zs := by
    obtain ⟨fuel, hf⟩ := h1
    rcases open_ints Try.underlying40 Try.underlying3 (by kernel_rfl) hf with ⟨hcs, _⟩ | ⟨x, l, c, zs, hcs, _, hl, hm, hz, _, hcell, hwz⟩
    · simp [Value.cells] at hcs
      obtain ⟨rfl, rfl, rfl⟩ := hcs
      exact ⟨[], .inl ⟨rfl, rfl, rfl, rfl⟩⟩
    · simp [Value.cells] at hcs
      obtain ⟨rfl, rfl, rfl⟩ := hcs
      exact ⟨zs, .inr ⟨_, rfl, hl, hm, by simpa using hz, hcell, hwz⟩⟩
  obtain ⟨a2, rfl, rfl, rfl, w2⟩ := open_int Try.underlying5 (hval 2 5 v2 rfl rfl) h2
  clear hA0 hval0
  refine (walk a0 len0 cap0 z0 a1 len1 cap1 z1 a2 W w0 w1 w2).mono fun e W' ⟨he, bel⟩ => ?_
  subst he
  exact ⟨_, rfl, _, _, _, [], _, [], hW', trodAll_mk1 (shut_bool Try.underlying4 _), (trodAll_cons_mk (Below.trod laidOut (by kernel_rfl) (of_decide_eq_true (by kernel_rfl)) k0 bel lt0) (trodAll_cons_mk (Below.trod laidOut (by kernel_rfl) (of_decide_eq_true (by kernel_rfl)) k1 bel lt1) (trodAll_cons_mk (shut_int Try.underlying5 w2) trodAll_mk0))), rfl, bel.frame _, fun h => by cases h⟩

theorem over : Rows.ctrlTurnsRow.holds Try.pinned (OpenSpec.ofChange Rows.ctrlTurnsSpec) :=
  OpenClaim.holds_of_wide 4 Try.f4 rfl rfl rfl rfl rfl rfl rfl ⟨rfl, rfl, rfl, rfl, rfl⟩ rfl rfl rfl rfl rfl (by kernel_rfl) Try.func4 (by kernel_rfl)
    (of_decide_eq_true (by kernel_rfl)) (by unfold Func.isWrapper; first | (rw [if_pos (by decide +kernel)]; kernel_rfl) | (rw [if_neg (by decide +kernel)]; exact ⟨rfl, rfl⟩))
    (fun os started H enc _ => lifted os started H enc)

theorem proved : Rows.CtrlTurnsSaid := over
end Go.Proofs.Ytmjlaienklheiaa.ctrlTurns
