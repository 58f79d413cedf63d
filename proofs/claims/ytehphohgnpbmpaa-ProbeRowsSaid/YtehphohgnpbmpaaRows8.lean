/- Proved: for every number of groups, hash, and row of numbers, honeycomblaw08.ProbeRows returns true, and its arguments read as they did; no condition. -/
import Derived.Test.YtehphohgnpbmpaaQl
import Derived.Test.YtehphohgnpbmpaaQr
import Derived.BigQuiet
import Derived.ChangeAt
import Derived.JoinedAt
import Derived.ProofKit
import Derived.OpenShut
import Derived.Test.YtehphohgnpbmpaaRows
namespace Go.Proofs.Ytehphohgnpbmpaa.probeRows
open Go.ChangeShapes Go.WideShapes Go.ChangeAt Go.RowKit Go.Shelf
attribute [local go_sem] Oper.semAt_some

theorem own : ownKnob Try.prog.godebug = none := by kernel_rfl
theorem mayI_yes {g : Nat} (h : mayB g = true) : mayI (g : Int) = true := by unfold mayI; rw [checkE_may h]; rfl
theorem mayI_no {g : Int} (h : checkE g ≠ 0) : mayI g = false := decide_eq_false h
set_option maxRecDepth 100000 in
set_option maxHeartbeats 4000000 in
theorem walkNo (g : Int) (h : Int) (hm : checkE g ≠ 0) (a : Option Addr) (n c : Nat) (w : World) :
    Calls Try.prog 3 #[.int .i64 g, .int .u64 h, .slice a n c] w fun e w' => e = .returned (.bool true) ∧ Below w.heap.size w w' := by
  have CW := Lib.hid (Try.wakes_any w)
  have CM := fun W => Lib.hid (Try.refMay_any g W)
  rw [mayI_no hm] at CM
  have CC := fun W => Lib.hid (Try.Check_any g W)
  rw [checkE_not hm] at CC
  have CR := fun W => Lib.hid (Try.Row_no g h hm W)
  have CA := fun W => Lib.hid (Try.At_no g h 0 hm W)
  have CP := fun W => Lib.hid (Try.Place_no g h 0 hm W)
  clear hm
  go_enter Try.func3, Try.ntmps3
  go_wp2_with fail
  refine CW.out.mono ?_
  rintro e w1 ⟨rfl, hB1⟩
  have HB1 := Lib.hid hB1
  clear hB1 CW
  go_wp2_with fail
  refine (CM _).out.mono ?_
  rintro e w2 ⟨rfl, rfl⟩
  go_wp2_with fail
  refine (CC _).out.mono ?_
  rintro e w2 ⟨rfl, rfl⟩
  go_wp2_with fail
  refine (CR _).out.mono ?_
  rintro e w2 ⟨rfl, rfl⟩
  go_wp2_with fail
  refine (CA _).out.mono ?_
  rintro e w2 ⟨rfl, rfl⟩
  go_wp2_with fail
  refine (CP _).out.mono ?_
  rintro e w2 ⟨rfl, hB2⟩
  have HB2 := Lib.hid (HB1.out.trans (hB2.mono HB1.out.size))
  clear hB2
  go_wp2_with fail
  go_ret
  exact ⟨rfl, HB2.out⟩
set_option maxRecDepth 100000 in
set_option maxHeartbeats 8000000 in
theorem walkYes (g h : Nat) (hm : mayB g = true) (hh : h < 18446744073709551616) (a : Option Addr) (n c : Nat) (zs : List Int) (hn : n = zs.length) (w : World) (hI : IntsAt w (.slice a n c) zs) :
    Calls Try.prog 3 #[.int .i64 (g : Int), .int .u64 (h : Int), .slice a n c] w fun e w' => e = .returned (.bool true) ∧ Below w.heap.size w w' := by
  obtain ⟨hg, hg2⟩ := mayB_le hm
  have CW := Lib.hid (Try.wakes_any w)
  have CM := fun W => Lib.hid (Try.refMay_any g W)
  rw [mayI_yes hm] at CM
  have CC := fun W => Lib.hid (Try.Check_any g W)
  rw [checkE_may hm] at CC
  have CR := fun W => Lib.hid (Try.Row_ok g h hm hh W)
  have CQ := fun W => Lib.hid (Try.refRow_any g h hg hg2 hh W)
  have CA := fun i (hi : i < g) W => Lib.hid (Try.At_ok g h i hm hi hh W)
  have CP := fun i (hi : i < g) W => Lib.hid (Try.Place_ok g h i hm hi hh W)
  have CAo := fun i ho W => Lib.hid (Try.At_out g h i hm ho W)
  have CPo := fun i ho W => Lib.hid (Try.Place_out g h i hm ho W)
  have CQA := fun i (hi : i < g) W => Lib.hid (Try.refAt_any g h i hg hg2 hi hh W)
  have CQP := fun i (hi : i < g) W => Lib.hid (Try.refPlace_any g h i hm hi hh W)
  generalize h % g = l at *
  have EQ := fun b1 a2 c2 W (h1 : Rows8 W b1 53 (arr64 (keptF g l g))) (h2 : IntsAt W (.slice a2 g c2) (rowI g l)) => Lib.hid (by
    have h := Try.equalInts_any (some ⟨b1, 0, none⟩) a2 g g 64 c2 (rowI g l) (rowI g l) (by rw [rowI_len]) (by rw [rowI_len]) (by omega) (by omega) W (rowQ_at hg2 h1) h2
    rw [decide_eq_true rfl] at h
    exact h)
  have HN := Lib.hid hn
  have HI := Lib.hid hI
  have hreach : n ≤ maxLen := by
    obtain ⟨_, _, _, e, h1, h2, _⟩ := hI
    cases e
    omega
  unfold maxLen at hreach
  clear hn hI hm
  go_enter Try.func3, Try.ntmps3
  go_wp2_with fail
  refine CW.out.mono ?_
  rintro e w1 ⟨rfl, hB1⟩
  have HB1 := Lib.hid hB1
  clear hB1 CW
  go_wp2_with fail
  refine (CM _).out.mono ?_
  rintro e w2 ⟨rfl, rfl⟩
  go_wp2_with fail
  refine (CC _).out.mono ?_
  rintro e w2 ⟨rfl, rfl⟩
  go_wp2_with fail
  refine (CR _).out.mono ?_
  rintro e w2 ⟨b2, rfl, hb2, hr2, hB2⟩
  have HR2 := Lib.hid hr2
  have HB2 := Lib.hid (HB1.out.trans (hB2.mono HB1.out.size))
  clear hr2 hB2 CR HB1
  go_wp2_with fail
  refine (CQ _).out.mono ?_
  rintro e w3 ⟨v3, rfl, hO3, hB3⟩
  obtain ⟨a3, c3, rfl⟩ := ownsInts_form hO3
  rw [rowI_len]
  have hI3 : IntsAt w3 (.slice a3 g c3) (rowI g l) := by have h := rowAt_own hO3; rw [rowI_len] at h; unfold IntsAt; rw [rowI_len]; exact h
  have hE := EQ _ _ _ _ (HR2.out.below hB3 HR2.out.lt) hI3
  have HB3 := Lib.hid (HB2.out.trans (hB3.mono HB2.out.size))
  clear hI3 hO3 hB3 EQ CQ HR2 HB2
  go_wp2_with fail
  refine hE.out.mono ?_
  rintro e w4 ⟨rfl, hB4⟩
  have HB4 := Lib.hid (HB3.out.trans (hB4.mono HB3.out.size))
  clear hE hB4 HB3
  go_wp2_with fail
  go_loopw [91] (fun j wr => ∃ k : Nat, k ≤ n ∧ k ≤ 10 ∧ j = .int .i64 k ∧ Below w.heap.size w wr) (fun j _ => n - (intOf j).toNat)
  case atStart => exact ⟨0, Nat.zero_le _, Nat.zero_le _, rfl, HB4.out⟩
  case round =>
    obtain ⟨k, hk, hk10, rfl, hB⟩ := hrel
    by_cases hlt : k < n
    · have hki : (k : Int) < (n : Int) := by omega
      have hkl : k < zs.length := by rw [← HN.out]; exact hlt
      obtain ⟨b, off, rfl, hb, hc⟩ := intsAt_get (RowAt.below HI.out hB) k hkl
      rw [getD_int zs k hkl] at hc
      generalize zs[k] = z at *
      have HB := Lib.hid hB
      clear hB hkl
      by_cases hten : k = 10
      · have hq : ((k : Int) == 10) = true := by simp; omega
        clear hten
        go_wp2_with fail
        go_ret
        exact ⟨rfl, HB.out⟩
      · have hq : ((k : Int) == 10) = false := by simp; omega
        have hk11 : k + 1 ≤ 10 := by omega
        by_cases hin : 0 ≤ z ∧ z < (g : Int)
        · obtain ⟨x, rfl⟩ : ∃ x : Nat, z = x := ⟨z.toNat, by omega⟩
          have hxg : x < g := by omega
          have hxi : (x : Int) < (g : Int) := by omega
          have CA := CA x hxg
          have CP := CP x hxg
          have CQA := CQA x hxg
          have CQP := CQP x hxg
          have h0x : (0 : Int) ≤ (x : Int) := by omega
          generalize rowAt g l x = y at *
          generalize place g l x = pl at *
          have q1 : ((y : Int) != (y : Int)) = false := by simp
          have q2 : ((pl : Int) != (pl : Int)) = false := by simp
          clear CAo CPo hin
          go_wp2_with fail
          refine (CA _).out.mono ?_
          rintro e w5 ⟨rfl, hB5⟩
          have HB5 := Lib.hid (HB.out.trans (hB5.mono HB.out.size))
          clear hB5 HB
          go_wp2_with fail
          refine (CP _).out.mono ?_
          rintro e w6 ⟨rfl, hB6⟩
          have HB6 := Lib.hid (HB5.out.trans (hB6.mono HB5.out.size))
          clear hB6 HB5
          go_wp2_with fail
          refine (CQA _).out.mono ?_
          rintro e w7 ⟨rfl, rfl⟩
          go_wp2_with fail
          refine (CQP _).out.mono ?_
          rintro e w8 ⟨rfl, hB8⟩
          have HB8 := Lib.hid (HB6.out.trans (hB8.mono HB6.out.size))
          clear hB8 HB6
          go_wp2_with fail
          go_roundw
          case rel => exact ⟨k + 1, by omega, hk11, by go_num, HB8.out⟩
          case measure => simp [intOf]; omega
        · have ho : outB (g : Int) z = true := by simp [outB]; omega
          have CAo := CAo z ho
          have CPo := CPo z ho
          clear CA CP CQA CQP ho
          have hor : z < 0 ∨ (g : Int) ≤ z := by omega
          clear hin
          rcases hor with hor | hor
          · go_wp2_with fail
            refine (CAo _).out.mono ?_
            rintro e w5 ⟨rfl, rfl⟩
            go_wp2_with fail
            refine (CPo _).out.mono ?_
            rintro e w6 ⟨rfl, hB6⟩
            have HB6 := Lib.hid (HB.out.trans (hB6.mono HB.out.size))
            clear hB6 HB
            go_wp2_with fail
            go_roundw
            case rel => exact ⟨k + 1, by omega, hk11, by go_num, HB6.out⟩
            case measure => simp [intOf]; omega
          · have hz0 : 0 ≤ z := by omega
            go_wp2_with fail
            refine (CAo _).out.mono ?_
            rintro e w5 ⟨rfl, rfl⟩
            go_wp2_with fail
            refine (CPo _).out.mono ?_
            rintro e w6 ⟨rfl, hB6⟩
            have HB6 := Lib.hid (HB.out.trans (hB6.mono HB.out.size))
            clear hB6 HB
            go_wp2_with fail
            go_roundw
            case rel => exact ⟨k + 1, by omega, hk11, by go_num, HB6.out⟩
            case measure => simp [intOf]; omega
    · obtain rfl : k = n := by omega
      have HB := Lib.hid hB
      clear hB
      go_wp2_with fail
      go_ret
      exact ⟨rfl, HB.out⟩
theorem walk (a0 a1 : Int) (a2 : Option Addr) (len2 cap2 : Nat) (z2 : List Int) (w : World) (_w0 : (Lit.int .i64 a0).wf = true) (w1 : (Lit.int .u64 a1).wf = true) (n2 : len2 = z2.length) (w2 : IntsAt w (.slice a2 len2 cap2) z2) :
    Calls Try.prog 3 #[.int .i64 a0, .int .u64 a1, .slice a2 len2 cap2] w fun e w' => e = .returned (.bool true) ∧ Below w.heap.size w w' := by
  obtain ⟨h, rfl, hh⟩ := u64_nat w1
  by_cases hc : checkE a0 = 0
  · obtain ⟨g, rfl, hm, _⟩ := checkE_ok hc
    exact walkYes g h hm hh a2 len2 cap2 z2 n2 w w2
  · exact walkNo a0 h hc a2 len2 cap2 w
theorem laidOut : laidOutB Try.prog = true := by kernel_rfl
set_option maxRecDepth 100000 in
theorem lifted (os : Os) (started : os.Started) (H : Type) (enc : TypeId × Value → H) :
    ReturnsInHanded {} Try.checked os 3 .any (Rows.probeRowsSpec.pre6 enc Try.prog Try.f3 Rows.probeRowsRow.domain false) (Rows.probeRowsSpec.post enc Try.prog Try.f3 false true false false) := by
  refine returnsInHanded_of_change (C := Try.checked) own started (by kernel_rfl) Try.func3
    (ChangeSpec.witness6 (enc := enc) (C := Try.checked) false ⟨#[], #[.int .i64 0, .int .u64 0, .slice none 0 0], []⟩ 8 (by kernel_rfl) (by kernel_rfl) (by kernel_rfl) (by kernel_rfl)) ?_
  intro W base args ds gs before hval0 hW hcnd _
  have hval : ∀ (j : Nat) t v, Try.f3.params[j]? = some t → args[j]? = some v → Value.okWide Try.prog W .any base t v := hval0
  have hW' := hW
  obtain ⟨p, q, hA0, hV, rfl, hfz, hnd⟩ := hW
  have hA : DataW.TrodAll enc Try.prog W 0 (fun _ => true) true Try.f3.params.toList args.toList ds p := hA0
  rw [Try.params3] at hA hval
  obtain ⟨v0, vs0, d0, ds0, p0, q0, hargs, rfl, rfl, h0, r0⟩ := trodAll_cons hA
  obtain ⟨v1, vs1, d1, ds1, p1, q1, rfl, rfl, rfl, h1, r1⟩ := trodAll_cons r0
  obtain ⟨v2, vs2, d2, ds2, p2, q2, rfl, rfl, rfl, h2, r2⟩ := trodAll_cons r1
  obtain ⟨rfl, rfl, rfl⟩ := trodAll_nil r2
  obtain rfl : args = #[v0, v1, v2] := by cases args; simp_all
  obtain ⟨rfl, rfl⟩ := trodVars_none hV
  obtain ⟨a0, rfl, rfl, rfl, w0⟩ := open_int Try.underlying3 (hval 0 3 v0 rfl rfl) h0
  obtain ⟨a1, rfl, rfl, rfl, w1⟩ := open_int Try.underlying22 (hval 1 22 v1 rfl rfl) h1
  obtain ⟨a2, len2, cap2, rfl⟩ := okWide_slice Try.underlying23 (hval 2 23 v2 rfl rfl)
  have k2 := h2
  have lt2 : ∀ x ∈ p2, x.block < W.heap.size := by obtain ⟨m, hm⟩ := k2; exact DataW.trod_lt m _ _ _ hm
  obtain ⟨z2, n2, w2⟩ : ∃ zs, len2 = zs.length ∧ IntsAt W (.slice a2 len2 cap2) zs := by
    obtain ⟨fuel, hf⟩ := h2
    exact open_intRow hf
  clear hA0 hval0
  refine (walk a0 a1 a2 len2 cap2 z2 W w0 w1 n2 w2).mono fun e W' ⟨he, bel⟩ => ?_
  subst he
  exact ⟨_, rfl, _, _, _, [], _, [], hW', trodAll_mk1 (shut_bool Try.underlying4 _), (trodAll_cons_mk (shut_int Try.underlying3 w0) (trodAll_cons_mk (shut_int Try.underlying22 w1) (trodAll_cons_mk (Below.trod laidOut (by kernel_rfl) (of_decide_eq_true (by kernel_rfl)) k2 bel lt2) trodAll_mk0))), rfl, bel.frame _, fun h => by cases h⟩

theorem over : Rows.probeRowsRow.holds Try.pinned (OpenSpec.ofChange Rows.probeRowsSpec) :=
  OpenClaim.holds_of_wide 3 Try.f3 rfl rfl rfl rfl rfl rfl rfl ⟨rfl, rfl, rfl, rfl, rfl⟩ rfl rfl rfl rfl rfl (by kernel_rfl) Try.func3 (by kernel_rfl)
    (of_decide_eq_true (by kernel_rfl)) (by unfold Func.isWrapper; first | (rw [if_pos (by decide +kernel)]; kernel_rfl) | (rw [if_neg (by decide +kernel)]; exact ⟨rfl, rfl⟩))
    (fun os started H enc _ => lifted os started H enc)

theorem proved : Rows.ProbeRowsSaid := over
end Go.Proofs.Ytehphohgnpbmpaa.probeRows
