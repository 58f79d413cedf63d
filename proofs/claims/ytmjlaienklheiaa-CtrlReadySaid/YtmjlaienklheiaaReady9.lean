/- Proved: for every word, and row of bytes, honeycomblaw09.CtrlReady returns true, and its arguments read as they did; no condition. -/
import Derived.Test.YtmjlaienklheiaaJp
import Derived.ShutString
import Derived.ChangeOld
import Derived.Below
namespace Go.Proofs.Ytmjlaienklheiaa.ctrlReady
open Go.ChangeShapes Go.WideShapes Go.ChangeAt Go.RowKit Go.Shelf
attribute [local go_sem] Oper.semAt_some

theorem own : ownKnob Try.prog.godebug = none := by kernel_rfl

theorem walkNo (x : Nat) (hr : rightC x = false) (a1 : Option Addr) (n c1 : Nat) (w : World) :
    Calls Try.prog 8 #[.int .u64 x, .slice a1 n c1] w fun e w' => e = .returned (.bool true) ∧ Below w.heap.size w w' := by
  have HCK := Lib.hid fun W => (by have h := Try.Check_any x W; rw [hr] at h; exact h : Calls Try.prog 11 #[.int .u64 x] W fun e w' => e = .returned (.int .i64 190) ∧ Below W.heap.size W w')
  have HRD := Lib.hid fun W => (by have h := Try.cReady_any x W; unfold resY resE at h; rw [hr] at h; exact h : Calls Try.prog 25 #[.int .u64 x] W fun e w' => e = .returned (.tuple #[.int .u64 0, .int .i64 190]) ∧ Below W.heap.size W w')
  have HSE := Lib.hid fun W => (by have h := Try.Sets_any x W; unfold setsE at h; rw [hr] at h; exact h : Calls Try.prog 12 #[.int .u64 x] W fun e w' => e = .returned (.tuple #[.int .u8 0, .int .u8 0, .int .u8 0]) ∧ Below W.heap.size W w')
  clear hr
  go_enter Try.func8, Try.ntmps8
  go_wp2_with (first
    | (go_at_call 9; refine (Try.wakes_any _).mono ?_; rintro e w1 ⟨rfl, hB1⟩; have HB1 := Lib.hid hB1; clear hB1)
    | (go_at_call 12; refine (HSE.out _).mono ?_; rintro e w2 ⟨rfl, hB2⟩; have HB2 := Lib.hid (HB1.out.trans (hB2.mono HB1.out.size)); clear hB2)
    | (go_at_call 25; refine (HRD.out _).mono ?_; rintro e w3 ⟨rfl, hB3⟩; have HB3 := Lib.hid (HB2.out.trans (hB3.mono HB2.out.size)); clear hB3)
    | (go_at_call 11; refine (HCK.out _).mono ?_; rintro e w4 ⟨rfl, hB4⟩; have HB4 := Lib.hid (HB3.out.trans (hB4.mono HB3.out.size)); clear hB4))
  go_ret
  exact ⟨rfl, HB4.out⟩
set_option maxRecDepth 100000 in
set_option maxHeartbeats 4000000 in
theorem walkYes (x : Nat) (hr : rightC x = true) (a1 : Option Addr) (n c1 m : Nat) (hm : m = min n 8) (hmn : m ≤ n) (hnc : n ≤ c1) (bs : List Nat) (hbl : bs.length = m) (hh : ∀ u ∈ bs, u < 256) (w : World) (hB : BA w w.heap.size (.slice a1 m c1) bs) :
    Calls Try.prog 8 #[.int .u64 x, .slice a1 n c1] w fun e w' => e = .returned (.bool true) ∧ Below w.heap.size w w' := by
  have m1 : min (n : Int) 8 = (m : Int) := by omega
  have m2 : m ≤ 8 := by omega
  have hmc : (m : Int) ≤ (c1 : Int) := by omega
  have hm0 : (0 : Int) ≤ (m : Int) := by omega
  have HSE := Lib.hid fun W => (by have h := Try.Sets_any x W; unfold setsE at h; rw [hr] at h; exact h : Calls Try.prog 12 #[.int .u64 x] W fun e w' => e = .returned (.tuple #[.int .u8 (setK x 0 : Nat), .int .u8 (setK x 1 : Nat), .int .u8 (setK x 2 : Nat)]) ∧ Below W.heap.size W w')
  have HRD := Lib.hid fun W => (by have h := Try.cReady_any x W; unfold resY resE at h; rw [hr] at h; exact h : Calls Try.prog 25 #[.int .u64 x] W fun e w' => e = .returned (.tuple #[.int .u64 (readyS x : Nat), .int .i64 0]) ∧ Below W.heap.size W w')
  have hrr := ready_right x
  have HSR := Lib.hid fun W => (by have h := Try.Sets_any (readyS x) W; unfold setsE at h; rw [hrr, if_pos rfl, if_pos rfl, if_pos rfl, ready_full, ready_empty, ready_del] at h; exact h : Calls Try.prog 12 #[.int .u64 (readyS x : Nat)] W fun e w' => e = .returned (.tuple #[.int .u8 (0 : Nat), .int .u8 (255 - setK x 0 : Nat), .int .u8 (setK x 0 : Nat)]) ∧ Below W.heap.size W w')
  have HFI := Lib.hid fun W (b : Below w.heap.size w W) => Try.cFills_any (readyS x) (ready_lt x) (.slice a1 m c1) bs hh (by omega) W ((hB.below b (Nat.le_refl _)).up b.size)
  have hs0 := setK_lt x 0
  have HM := Lib.hid hm
  by_cases hall : ∀ u ∈ bs, u ≤ 127
  · obtain ⟨e1, e2, e3, e4⟩ := ready_fills (x := x) (by omega) hall
    have HF2 : Hid (∀ W, Below w.heap.size w W → Calls Try.prog 26 #[.int .u64 (readyS x : Nat), .slice a1 m c1] W fun e w' => ∃ (al : Option Addr) (cl : Nat), e = .returned (.tuple #[.int .u64 (fillsS (readyS x) bs : Nat), .slice al m cl, .int .i64 0]) ∧ RowI .i64 w' (.slice al m cl) ((List.range m).map fun (k : Nat) => (k : Int)) ∧ Below W.heap.size W w') := Lib.hid fun W b => by
      refine (HFI.out W b).mono ?_
      rintro e w' ⟨lv, rfl, ho, hb⟩
      have hL : resL (readyS x) bs = List.range m := by unfold resL; rw [if_pos ⟨hrr, e1⟩, e2, hbl]
      rw [hL, List.length_range] at ho
      have hra := rowAt_own ho
      obtain ⟨_, al, cl, rfl, _⟩ := hra
      refine ⟨al, cl, ?_, ?_, hb⟩
      · unfold resY resE
        rw [hrr, if_pos rfl, if_pos e1, e1]
        rfl
      · unfold RowI
        rw [List.length_map, List.length_range, List.map_map]
        exact rowAt_own ho
    have hsw : setK (fillsS (readyS x) bs) 0 = 2 ^ m - 1 := by rw [e3, hbl]
    have HSW := Lib.hid fun W => (by have h := Try.Sets_any (fillsS (readyS x) bs) W; unfold setsE at h; rw [e4, if_pos rfl, if_pos rfl, if_pos rfl, hsw] at h; exact h : Calls Try.prog 12 #[.int .u64 (fillsS (readyS x) bs : Nat)] W fun e w' => e = .returned (.tuple #[.int .u8 (2 ^ m - 1 : Nat), .int .u8 (setK (fillsS (readyS x) bs) 1 : Nat), .int .u8 (setK (fillsS (readyS x) bs) 2 : Nat)]) ∧ Below W.heap.size W w')
    clear HFI e1 e2 e3 e4 hsw hall hr hrr hB hh hbl hm
    generalize fillsS (readyS x) bs = y at *
    generalize readyS x = r at *
    generalize setK x 0 = s0, setK x 1 = s1, setK x 2 = s2, setK y 1 = t1, setK y 2 = t2 at *
    obtain ⟨z0, hz0⟩ : ∃ z, z = 255 - s0 := ⟨_, rfl⟩
    rw [← hz0] at HSR
    have hsgn : IntKind.u8.signed = false := rfl
    have hmax : IntKind.u8.max = 255 := rfl
    have hxor := xor_255 hs0
    rw [← hz0] at hxor
    clear hz0
    go_enter Try.func8, Try.ntmps8
    go_wp2_with fail
    refine (Try.wakes_any _).mono ?_
    rintro e w1 ⟨rfl, hB1⟩
    have HB1 := Lib.hid hB1
    clear hB1
    go_wp2_with fail
    refine (HSE.out _).mono ?_
    rintro e w2 ⟨rfl, hB2⟩
    have HB2 := Lib.hid (HB1.out.trans (hB2.mono HB1.out.size))
    clear hB2 HB1
    go_wp2_with fail
    refine (HRD.out _).mono ?_
    rintro e w3 ⟨rfl, hB3⟩
    have HB3 := Lib.hid (HB2.out.trans (hB3.mono HB2.out.size))
    clear hB3 HB2
    go_wp2_with fail
    refine (HSR.out _).mono ?_
    rintro e w4 ⟨rfl, hB4⟩
    have HB4 := Lib.hid (HB3.out.trans (hB4.mono HB3.out.size))
    clear hB4 HB3
    go_wp2_with fail
    refine (HF2.out w4 HB4.out).mono ?_
    rintro e w5 ⟨al, cl, rfl, hI, hB5⟩
    have HB5 := Lib.hid (HB4.out.trans (hB5.mono HB4.out.size))
    have HI := Lib.hid hI
    clear hB5 HB4 hI HF2
    go_wp2_with fail
    go_loopw [15, 16, 84] (fun _ _ j wr => wr = w5 ∧ ∃ i : Nat, i ≤ m ∧ j = .int .i64 i) (fun _ _ j _ => m - (intOf j).toNat)
    case atStart => exact ⟨rfl, 0, Nat.zero_le _, rfl⟩
    case round =>
      obtain ⟨rfl, i, hi, rfl⟩ := hrel
      by_cases hlt : i < m
      · obtain ⟨b, off, rfl, hb, hc⟩ := HI.out.get i (by simpa using hlt)
        rw [List.getElem?_map, List.getElem?_range hlt] at hc
        simp only [Option.map_some, Option.getD_some] at hc
        have hki : (i : Int) < (m : Int) := by omega
        go_wp2_with fail
        go_roundw
        case rel => exact ⟨by first | rfl | trivial, i + 1, by omega, by go_num⟩
        case measure => simp [intOf]; omega
      · obtain rfl : i = m := by omega
        go_wp2_with fail
        refine (HSW.out _).mono ?_
        rintro e w6 ⟨rfl, hB6⟩
        have HB6 := Lib.hid (HB5.out.trans (hB6.mono HB5.out.size))
        clear hB6 HI HSE HRD HSR HSW HM hmc hm0 hmn hnc hi hlt m1 hxor hs0
        have hc9 : i = 0 ∨ i = 1 ∨ i = 2 ∨ i = 3 ∨ i = 4 ∨ i = 5 ∨ i = 6 ∨ i = 7 ∨ i = 8 := by omega
        clear m2
        rcases hc9 with rfl | rfl | rfl | rfl | rfl | rfl | rfl | rfl | rfl
        all_goals
          go_wp2_with fail
          go_ret
          exact ⟨rfl, HB6.out⟩
  · have HF2 : Hid (∀ W, Below w.heap.size w W → Calls Try.prog 26 #[.int .u64 (readyS x : Nat), .slice a1 m c1] W fun e w' => ∃ (al : Option Addr) (cl : Nat), e = .returned (.tuple #[.int .u64 0, .slice al 0 cl, .int .i64 2]) ∧ Below W.heap.size W w') := Lib.hid fun W b => by
      refine (HFI.out W b).mono ?_
      rintro e w' ⟨lv, rfl, ho, hb⟩
      have e1 : fillsE (readyS x) bs = 2 := ready_bad hall
      have hL : resL (readyS x) bs = [] := by unfold resL; rw [if_neg]; rintro ⟨_, h⟩; rw [e1] at h; cases h
      rw [hL] at ho
      obtain ⟨_, al, cl, rfl, _⟩ := rowAt_own ho
      refine ⟨al, cl, ?_, hb⟩
      unfold resY resE
      rw [hrr, if_pos rfl, if_neg (by rw [e1]; decide), e1]
      rfl
    clear HFI hall hr hrr hB hh hbl hm
    generalize readyS x = r at *
    generalize setK x 0 = s0, setK x 1 = s1, setK x 2 = s2 at *
    obtain ⟨z0, hz0⟩ : ∃ z, z = 255 - s0 := ⟨_, rfl⟩
    rw [← hz0] at HSR
    have hsgn : IntKind.u8.signed = false := rfl
    have hmax : IntKind.u8.max = 255 := rfl
    have hxor := xor_255 hs0
    rw [← hz0] at hxor
    clear hz0
    go_enter Try.func8, Try.ntmps8
    go_wp2_with fail
    refine (Try.wakes_any _).mono ?_
    rintro e w1 ⟨rfl, hB1⟩
    have HB1 := Lib.hid hB1
    clear hB1
    go_wp2_with fail
    refine (HSE.out _).mono ?_
    rintro e w2 ⟨rfl, hB2⟩
    have HB2 := Lib.hid (HB1.out.trans (hB2.mono HB1.out.size))
    clear hB2 HB1
    go_wp2_with fail
    refine (HRD.out _).mono ?_
    rintro e w3 ⟨rfl, hB3⟩
    have HB3 := Lib.hid (HB2.out.trans (hB3.mono HB2.out.size))
    clear hB3 HB2
    go_wp2_with fail
    refine (HSR.out _).mono ?_
    rintro e w4 ⟨rfl, hB4⟩
    have HB4 := Lib.hid (HB3.out.trans (hB4.mono HB3.out.size))
    clear hB4 HB3
    go_wp2_with fail
    refine (HF2.out w4 HB4.out).mono ?_
    rintro e w5 ⟨al, cl, rfl, hB5⟩
    have HB5 := Lib.hid (HB4.out.trans (hB5.mono HB4.out.size))
    clear hB5 HB4 HF2
    go_wp2_with fail
    go_ret
    exact ⟨rfl, HB5.out⟩
theorem walk (a0 : Int) (a1 : Option Addr) (len1 cap1 : Nat) (z1 : List Int) (w : World) (w0 : (Lit.int .u64 a0).wf = true) (w1 : IsRow .u8 w a1 len1 cap1 z1) :
    Calls Try.prog 8 #[.int .u64 a0, .slice a1 len1 cap1] w fun e w' => e = .returned (.bool true) ∧ Below w.heap.size w w' := by
  have b1 := bounds_u64 w0
  obtain ⟨x, rfl⟩ := Int.eq_ofNat_of_zero_le b1.1
  have hc : len1 ≤ cap1 := by rcases w1 with ⟨_, rfl, rfl, _⟩ | ⟨_, _, h, _⟩ <;> omega
  obtain ⟨h1, h2, h3⟩ := rowI_of w1
  have h4 := rowI_cut h1 h2 (min len1 8) (by omega)
  obtain ⟨bs, e1, e2, e3⟩ := rowI_nat h4 fun n hn => h3 n (List.mem_of_mem_take hn)
  rw [e1] at h4
  cases hr : rightC x
  · exact walkNo x hr _ _ _ w
  · refine walkYes x hr _ _ _ (min len1 8) rfl (by omega) hc bs ?_ e3 w (rowI_ba h4)
    rw [e2, List.length_take, ← h1]
    omega
theorem laidOut : laidOutB Try.prog = true := by kernel_rfl
set_option maxRecDepth 100000 in
theorem lifted (os : Os) (started : os.Started) (H : Type) (enc : TypeId × Value → H) :
    ReturnsInHanded {} Try.checked os 8 .any (Rows.ctrlReadySpec.pre6 enc Try.prog Try.f8 Rows.ctrlReadyRow.domain false) (Rows.ctrlReadySpec.post enc Try.prog Try.f8 false true false false) := by
  refine returnsInHanded_of_change (C := Try.checked) own started (by kernel_rfl) Try.func8
    (ChangeSpec.witness6 (enc := enc) (C := Try.checked) false ⟨#[], #[.int .u64 0, .slice none 0 0], []⟩ 8 (by kernel_rfl) (by kernel_rfl) (by kernel_rfl) (by kernel_rfl)) ?_
  intro W base args ds gs before hval0 hW hcnd _
  have hval : ∀ (j : Nat) t v, Try.f8.params[j]? = some t → args[j]? = some v → Value.okWide Try.prog W .any base t v := hval0
  have hW' := hW
  obtain ⟨p, q, hA0, hV, rfl, hfz, hnd⟩ := hW
  have hA : DataW.TrodAll enc Try.prog W 0 (fun _ => true) true Try.f8.params.toList args.toList ds p := hA0
  rw [Try.params8] at hA hval
  obtain ⟨v0, vs0, d0, ds0, p0, q0, hargs, rfl, rfl, h0, r0⟩ := trodAll_cons hA
  obtain ⟨v1, vs1, d1, ds1, p1, q1, rfl, rfl, rfl, h1, r1⟩ := trodAll_cons r0
  obtain ⟨rfl, rfl, rfl⟩ := trodAll_nil r1
  obtain rfl : args = #[v0, v1] := by cases args; simp_all
  obtain ⟨rfl, rfl⟩ := trodVars_none hV
  obtain ⟨a0, rfl, rfl, rfl, w0⟩ := open_int Try.underlying25 (hval 0 25 v0 rfl rfl) h0
  obtain ⟨a1, len1, cap1, rfl⟩ := okWide_slice Try.underlying23 (hval 1 23 v1 rfl rfl)
  have k1 := h1
  have lt1 : ∀ x ∈ p1, x.block < W.heap.size := by obtain ⟨m, hm⟩ := k1; exact DataW.trod_lt m _ _ _ hm
  obtain ⟨z1, w1⟩ : ∃ zs, IsRow .u8 W a1 len1 cap1 zs := by
    obtain ⟨fuel, hf⟩ := h1
    rcases open_ints Try.underlying23 Try.underlying5 (by kernel_rfl) hf with ⟨hcs, _⟩ | ⟨x, l, c, zs, hcs, _, hl, hm, hz, _, hcell, hwz⟩
    · simp [Value.cells] at hcs
      obtain ⟨rfl, rfl, rfl⟩ := hcs
      exact ⟨[], .inl ⟨rfl, rfl, rfl, rfl⟩⟩
    · simp [Value.cells] at hcs
      obtain ⟨rfl, rfl, rfl⟩ := hcs
      exact ⟨zs, .inr ⟨_, rfl, hl, hm, by simpa using hz, hcell, hwz⟩⟩
  clear hA0 hval0
  refine (walk a0 a1 len1 cap1 z1 W w0 w1).mono fun e W' ⟨he, bel⟩ => ?_
  subst he
  exact ⟨_, rfl, _, _, _, [], _, [], hW', trodAll_mk1 (shut_bool Try.underlying4 _), (trodAll_cons_mk (shut_int Try.underlying25 w0) (trodAll_cons_mk (Below.trod laidOut (by kernel_rfl) (of_decide_eq_true (by kernel_rfl)) k1 bel lt1) trodAll_mk0)), rfl, bel.frame _, fun h => by cases h⟩

theorem over : Rows.ctrlReadyRow.holds Try.pinned (OpenSpec.ofChange Rows.ctrlReadySpec) :=
  OpenClaim.holds_of_wide 8 Try.f8 rfl rfl rfl rfl rfl rfl rfl ⟨rfl, rfl, rfl, rfl, rfl⟩ rfl rfl rfl rfl rfl (by kernel_rfl) Try.func8 (by kernel_rfl)
    (of_decide_eq_true (by kernel_rfl)) (by unfold Func.isWrapper; first | (rw [if_pos (by decide +kernel)]; kernel_rfl) | (rw [if_neg (by decide +kernel)]; exact ⟨rfl, rfl⟩))
    (fun os started H enc _ => lifted os started H enc)

theorem proved : Rows.CtrlReadySaid := over
end Go.Proofs.Ytmjlaienklheiaa.ctrlReady
