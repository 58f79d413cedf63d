/- Proved: for every word, and row of bytes, honeycomblaw09.CtrlFills returns true, and its arguments read as they did; no condition. -/
import Derived.Test.YtmjlaienklheiaaJs
import Derived.ShutString
import Derived.ChangeOld
import Derived.Below
namespace Go.Proofs.Ytmjlaienklheiaa.ctrlFills
open Go.ChangeShapes Go.WideShapes Go.ChangeAt Go.RowKit Go.Shelf
attribute [local go_sem] Oper.semAt_some

theorem own : ownKnob Try.prog.godebug = none := by kernel_rfl
theorem k_len (x : Nat) (hs : List Nat) : (fillsK x hs).length ≤ 100 := by
  unfold fillsK fillsL
  have := frTo_len x 8
  split
  · rw [List.length_take]; omega
  · decide
set_option maxRecDepth 100000 in
set_option maxHeartbeats 4000000 in
theorem walkNat (x : Nat) (hx : x < 18446744073709551616) (a1 : Option Addr) (n c1 m : Nat) (hm : m = min n 10) (hnc : n ≤ c1) (bs : List Nat) (hbl : m = bs.length) (hh : ∀ u ∈ bs, u < 256) (w : World) (hR : RowI .u8 w (.slice a1 m c1) (bs.map fun (b : Nat) => (b : Int))) :
    Calls Try.prog 5 #[.int .u64 x, .slice a1 n c1] w fun e w' => e = .returned (.bool true) ∧ Below w.heap.size w w' := by
  have m1 : min (n : Int) 10 = (m : Int) := by omega
  have m2 : m ≤ 10 := by omega
  have hmc : (m : Int) ≤ (c1 : Int) := by omega
  have hm0 : (0 : Int) ≤ (m : Int) := by omega
  have HR := Lib.hid hR
  have HBL := Lib.hid hbl
  have HCL := Lib.hid fun W (b : Below w.heap.size w W) => Try.cloneB_any a1 m c1 bs hbl (by omega) W (RowAt.below hR b)
  have HEQ := Lib.hid fun W (b : Below w.heap.size w W) v n₀ (ho : OwnsBytes n₀ bs v W) => Try.equalB_any v a1 m c1 n₀ bs hbl (by omega) W ho (RowAt.below hR b)
  have HFI := Lib.hid fun W v n₀ (ho : OwnsBytes n₀ bs v W) => Try.cFills_any x hx v bs hh (by omega) W (ba_rowAt (rowAt_own ho))
  have HRF := Lib.hid fun W v n₀ (ho : OwnsBytes n₀ bs v W) => Try.refFills_any x hx v bs hh (by omega) W (ba_rowAt (rowAt_own ho))
  have HRD := Lib.hid fun W => Try.cReady_any x W
  have HRR := Lib.hid fun W => Try.refReady_any x hx W
  have HRT := Lib.hid fun W => Try.refRight_any x hx W
  have HKL := Lib.hid (k_len x bs)
  clear hx hm hbl hh hR
  go_enter Try.func5, Try.ntmps5
  go_wp2_with fail
  refine (Try.wakes_any _).mono ?_
  rintro e w1 ⟨rfl, hB1⟩
  have HB1 := Lib.hid hB1
  clear hB1
  go_wp2_with fail
  refine (HCL.out w1 HB1.out).mono ?_
  rintro e w2 ⟨v, rfl, ho, hB2⟩
  have HB2 := Lib.hid (HB1.out.trans (hB2.mono HB1.out.size))
  obtain ⟨⟨av, cv, rfl⟩, _⟩ := owns_bytesAt ho
  rw [← HBL.out] at ho ⊢
  have HO := Lib.hid ho
  clear hB2 HB1 ho
  go_wp2_with fail
  cases hr : rightC x
  · have HRD2 : Hid (∀ W, Calls Try.prog 25 #[.int .u64 x] W fun e w' => e = .returned (.tuple #[.int .u64 0, .int .i64 190]) ∧ Below W.heap.size W w') := Lib.hid fun W => by
      have h := HRD.out W
      unfold resY resE at h
      rw [hr] at h
      exact h
    rw [hr] at HRT
    have HFI2 : Hid (∀ W v n₀, OwnsBytes n₀ bs v W → Calls Try.prog 26 #[.int .u64 x, v] W fun e w' => ∃ al cl, e = .returned (.tuple #[.int .u64 0, .slice al 0 cl, .int .i64 190]) ∧ w'.ownsRow W.heap.size 3 1 (.slice al 0 cl) 0 (nvals []) ∧ Below W.heap.size W w') := Lib.hid fun W v n₀ ho => (HFI.out W v n₀ ho).mono (by
      rintro e w' ⟨lv, rfl, h1, h2⟩
      have hL : resL x bs = [] := by unfold resL; rw [hr]; simp
      rw [hL] at h1
      obtain ⟨_, al, cl, rfl, _⟩ := rowAt_own h1
      unfold resY resE
      rw [hr]
      exact ⟨al, cl, rfl, h1, h2⟩)
    clear HRD HRR HRF HFI hr
    refine (HRD2.out w2).mono ?_
    rintro e w3 ⟨rfl, hB3⟩
    have HO3 := Lib.hid (owns_keep HO.out hB3 (Nat.le_refl _))
    have HB3 := Lib.hid (HB2.out.trans (hB3.mono HB2.out.size))
    clear hB3 HB2 HO
    go_wp2_with fail
    refine (HFI2.out w3 _ _ HO3.out).mono ?_
    rintro e w4 ⟨al, cl, rfl, hl4, hB4⟩
    have HO4 := Lib.hid (owns_keep HO3.out hB4 (Nat.le_refl _))
    have HL4 := Lib.hid hl4
    have HB4 := Lib.hid (HB3.out.trans (hB4.mono HB3.out.size))
    clear hB4 HB3 HO3 hl4
    go_wp2_with fail
    refine (HRT.out w4).mono ?_
    rintro e w5 ⟨rfl, hB5⟩
    have HO5 := Lib.hid (owns_keep HO4.out hB5 (Nat.le_refl _))
    have HL5 := Lib.hid (owns_keep HL4.out hB5 (Nat.le_refl _))
    have HB5 := Lib.hid (HB4.out.trans (hB5.mono HB4.out.size))
    clear hB5 HB4 HO4 HL4
    go_wp2_with fail
    refine (Try.equalL_any [] (by decide) _ 0 _ _ w5 HL5.out ⟨rfl, .inl ⟨rfl, rfl⟩⟩).mono ?_
    rintro e w6 ⟨rfl, hB6⟩
    have HO6 := Lib.hid (owns_keep HO5.out hB6 (Nat.le_refl _))
    have HB6 := Lib.hid (HB5.out.trans (hB6.mono HB5.out.size))
    clear hB6 HB5 HO5 HL5
    go_wp2_with fail
    refine (HEQ.out w6 HB6.out _ _ HO6.out).mono ?_
    rintro e w7 ⟨rfl, hB7⟩
    have HB7 := Lib.hid (HB6.out.trans (hB7.mono HB6.out.size))
    clear hB7
    go_wp2_with fail
    go_ret
    exact ⟨rfl, HB7.out⟩
  · have HRD2 : Hid (∀ W, Calls Try.prog 25 #[.int .u64 x] W fun e w' => e = .returned (.tuple #[.int .u64 (readyS x : Nat), .int .i64 0]) ∧ Below W.heap.size W w') := Lib.hid fun W => by
      have h := HRD.out W
      unfold resY resE at h
      rw [hr] at h
      exact h
    rw [hr] at HRT
    have HFI2 : Hid (∀ W v n₀, OwnsBytes n₀ bs v W → Calls Try.prog 26 #[.int .u64 x, v] W fun e w' => ∃ al cl, e = .returned (.tuple #[.int .u64 (fillsW x bs : Nat), .slice al (fillsK x bs).length cl, .int .i64 (fillsE x bs)]) ∧ w'.ownsRow W.heap.size 3 1 (.slice al (fillsK x bs).length cl) (fillsK x bs).length (nvals (fillsK x bs)) ∧ Below W.heap.size W w') := Lib.hid fun W v n₀ ho => (HFI.out W v n₀ ho).mono (by
      rintro e w' ⟨lv, rfl, h1, h2⟩
      have hL : resL x bs = fillsK x bs := by unfold resL fillsK; rw [hr]; simp
      rw [hL] at h1
      obtain ⟨_, al, cl, rfl, _⟩ := rowAt_own h1
      unfold resY resE
      rw [hr]
      exact ⟨al, cl, rfl, h1, h2⟩)
    have HRF2 : Hid (∀ W v n₀, OwnsBytes n₀ bs v W → Calls Try.prog 28 #[.int .u64 x, v] W fun e w' => ∃ al cl, e = .returned (.tuple #[.int .u64 (fillsW x bs : Nat), .slice al (fillsK x bs).length cl, .int .i64 (fillsE x bs)]) ∧ w'.ownsRow W.heap.size 3 1 (.slice al (fillsK x bs).length cl) (fillsK x bs).length (nvals (fillsK x bs)) ∧ Below W.heap.size W w') := Lib.hid fun W v n₀ ho => (HRF.out W v n₀ ho).mono (by
      rintro e w' ⟨lv, rfl, h1, h2⟩
      obtain ⟨_, al, cl, rfl, _⟩ := rowAt_own h1
      exact ⟨al, cl, rfl, h1, h2⟩)
    have HEL := Lib.hid fun n₁ n₂ v1 v2 W => Try.equalL_any (fillsK x bs) HKL.out n₁ n₂ v1 v2 W
    clear HRD HRF HFI hr HKL
    generalize fillsW x bs = fw, fillsE x bs = fe, fillsK x bs = fk, readyS x = rs at *
    obtain ⟨q, hq⟩ : ∃ q, fk.length = q := ⟨_, rfl⟩
    rw [hq] at HFI2 HRF2 HEL
    clear hq
    refine (HRD2.out w2).mono ?_
    rintro e w3 ⟨rfl, hB3⟩
    have HO3 := Lib.hid (owns_keep HO.out hB3 (Nat.le_refl _))
    have HB3 := Lib.hid (HB2.out.trans (hB3.mono HB2.out.size))
    clear hB3 HB2 HO
    go_wp2_with fail
    refine (HFI2.out w3 _ _ HO3.out).mono ?_
    rintro e w4 ⟨al, cl, rfl, hl4, hB4⟩
    have HO4 := Lib.hid (owns_keep HO3.out hB4 (Nat.le_refl _))
    have HL4 := Lib.hid hl4
    have HB4 := Lib.hid (HB3.out.trans (hB4.mono HB3.out.size))
    clear hB4 HB3 HO3 hl4
    go_wp2_with fail
    refine (HRT.out w4).mono ?_
    rintro e w5 ⟨rfl, hB5⟩
    have HO5 := Lib.hid (owns_keep HO4.out hB5 (Nat.le_refl _))
    have HL5 := Lib.hid (owns_keep HL4.out hB5 (Nat.le_refl _))
    have HB5 := Lib.hid (HB4.out.trans (hB5.mono HB4.out.size))
    clear hB5 HB4 HO4 HL4
    go_wp2_with fail
    refine (HRR.out w5).mono ?_
    rintro e w8 ⟨rfl, hB8⟩
    have HO8 := Lib.hid (owns_keep HO5.out hB8 (Nat.le_refl _))
    have HL8 := Lib.hid (owns_keep HL5.out hB8 (Nat.le_refl _))
    have HB8 := Lib.hid (HB5.out.trans (hB8.mono HB5.out.size))
    clear hB8 HB5 HO5 HL5
    go_wp2_with fail
    refine (HRF2.out w8 _ _ HO8.out).mono ?_
    rintro e w9 ⟨al2, cl2, rfl, hl9, hB9⟩
    have HO9 := Lib.hid (owns_keep HO8.out hB9 (Nat.le_refl _))
    have HL9 := Lib.hid (owns_keep HL8.out hB9 (Nat.le_refl _))
    have HM9 := Lib.hid hl9
    have HB9 := Lib.hid (HB8.out.trans (hB9.mono HB8.out.size))
    clear hB9 HB8 HO8 HL8 hl9
    go_wp2_with fail
    refine (HEL.out _ _ _ _ w9 HL9.out HM9.out).mono ?_
    rintro e w6 ⟨rfl, hB6⟩
    have HO6 := Lib.hid (owns_keep HO9.out hB6 (Nat.le_refl _))
    have HB6 := Lib.hid (HB9.out.trans (hB6.mono HB9.out.size))
    clear hB6 HB9 HO9 HL9 HM9
    go_wp2_with fail
    refine (HEQ.out w6 HB6.out _ _ HO6.out).mono ?_
    rintro e w7 ⟨rfl, hB7⟩
    have HB7 := Lib.hid (HB6.out.trans (hB7.mono HB6.out.size))
    clear hB7
    go_wp2_with fail
    go_ret
    exact ⟨rfl, HB7.out⟩
theorem walk (a0 : Int) (a1 : Option Addr) (len1 cap1 : Nat) (z1 : List Int) (w : World) (w0 : (Lit.int .u64 a0).wf = true) (w1 : IsRow .u8 w a1 len1 cap1 z1) :
    Calls Try.prog 5 #[.int .u64 a0, .slice a1 len1 cap1] w fun e w' => e = .returned (.bool true) ∧ Below w.heap.size w w' := by
  have b1 := bounds_u64 w0
  obtain ⟨x, rfl⟩ := Int.eq_ofNat_of_zero_le b1.1
  have hc : len1 ≤ cap1 := by rcases w1 with ⟨_, rfl, rfl, _⟩ | ⟨_, _, h, _⟩ <;> omega
  obtain ⟨h1, h2, h3⟩ := rowI_of w1
  have h4 := rowI_cut h1 h2 (min len1 10) (by omega)
  obtain ⟨bs, e1, e2, e3⟩ := rowI_nat h4 fun n hn => h3 n (List.mem_of_mem_take hn)
  rw [e1] at h4
  refine walkNat x (by omega) _ _ _ (min len1 10) rfl hc bs ?_ e3 w h4
  rw [e2, List.length_take, ← h1]
  omega
theorem laidOut : laidOutB Try.prog = true := by kernel_rfl
set_option maxRecDepth 100000 in
theorem lifted (os : Os) (started : os.Started) (H : Type) (enc : TypeId × Value → H) :
    ReturnsInHanded {} Try.checked os 5 .any (Rows.ctrlFillsSpec.pre6 enc Try.prog Try.f5 Rows.ctrlFillsRow.domain false) (Rows.ctrlFillsSpec.post enc Try.prog Try.f5 false true false false) := by
  refine returnsInHanded_of_change (C := Try.checked) own started (by kernel_rfl) Try.func5
    (ChangeSpec.witness6 (enc := enc) (C := Try.checked) false ⟨#[], #[.int .u64 0, .slice none 0 0], []⟩ 8 (by kernel_rfl) (by kernel_rfl) (by kernel_rfl) (by kernel_rfl)) ?_
  intro W base args ds gs before hval0 hW hcnd _
  have hval : ∀ (j : Nat) t v, Try.f5.params[j]? = some t → args[j]? = some v → Value.okWide Try.prog W .any base t v := hval0
  have hW' := hW
  obtain ⟨p, q, hA0, hV, rfl, hfz, hnd⟩ := hW
  have hA : DataW.TrodAll enc Try.prog W 0 (fun _ => true) true Try.f5.params.toList args.toList ds p := hA0
  rw [Try.params5] at hA hval
  obtain ⟨v0, vs0, d0, ds0, p0, q0, hargs, rfl, rfl, h0, r0⟩ := trodAll_cons hA
  obtain ⟨v1, vs1, d1, ds1, p1, q1, rfl, rfl, rfl, h1, r1⟩ := trodAll_cons r0
  obtain ⟨rfl, rfl, rfl⟩ := trodAll_nil r1
  obtain rfl : args = #[v0, v1] := by cases args; simp_all
  obtain ⟨rfl, rfl⟩ := trodVars_none hV
  obtain ⟨a0, rfl, rfl, rfl, w0⟩ := open_int Try.underlying25 (hval 0 25 v0 rfl rfl) h0
  obtain ⟨a1, len1, cap1, rfl⟩ := okWide_slice Try.underlying23 (hval 1 23 v1 rfl rfl)
  have k1 := h1
  have lt1 : ∀ x ∈ p1, x.block < W.heap.size := by obtain ⟨m, hm⟩ := k1; exact DataW.trod_lt m _ _ _ hm
  obtain ⟨z1, w1⟩ : ∃ zs, IsRow .u8 W a1 len1 cap1 zs := by
    obtain ⟨fuel, hf⟩ := h1
    rcases open_ints Try.underlying23 Try.underlying5 (by kernel_rfl) hf with ⟨hcs, _⟩ | ⟨x, l, c, zs, hcs, _, hl, hm, hz, _, hcell, hwz⟩
    · simp [Value.cells] at hcs
      obtain ⟨rfl, rfl, rfl⟩ := hcs
      exact ⟨[], .inl ⟨rfl, rfl, rfl, rfl⟩⟩
    · simp [Value.cells] at hcs
      obtain ⟨rfl, rfl, rfl⟩ := hcs
      exact ⟨zs, .inr ⟨_, rfl, hl, hm, by simpa using hz, hcell, hwz⟩⟩
  clear hA0 hval0
  refine (walk a0 a1 len1 cap1 z1 W w0 w1).mono fun e W' ⟨he, bel⟩ => ?_
  subst he
  exact ⟨_, rfl, _, _, _, [], _, [], hW', trodAll_mk1 (shut_bool Try.underlying4 _), (trodAll_cons_mk (shut_int Try.underlying25 w0) (trodAll_cons_mk (Below.trod laidOut (by kernel_rfl) (of_decide_eq_true (by kernel_rfl)) k1 bel lt1) trodAll_mk0)), rfl, bel.frame _, fun h => by cases h⟩

theorem over : Rows.ctrlFillsRow.holds Try.pinned (OpenSpec.ofChange Rows.ctrlFillsSpec) :=
  OpenClaim.holds_of_wide 5 Try.f5 rfl rfl rfl rfl rfl rfl rfl ⟨rfl, rfl, rfl, rfl, rfl⟩ rfl rfl rfl rfl rfl (by kernel_rfl) Try.func5 (by kernel_rfl)
    (of_decide_eq_true (by kernel_rfl)) (by unfold Func.isWrapper; first | (rw [if_pos (by decide +kernel)]; kernel_rfl) | (rw [if_neg (by decide +kernel)]; exact ⟨rfl, rfl⟩))
    (fun os started H enc _ => lifted os started H enc)

theorem proved : Rows.CtrlFillsSaid := over
end Go.Proofs.Ytmjlaienklheiaa.ctrlFills
