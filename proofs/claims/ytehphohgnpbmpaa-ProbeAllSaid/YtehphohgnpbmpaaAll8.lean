/- Proved: for every number of groups, and hash, honeycomblaw08.ProbeAll returns true, and its arguments read as they did; no condition. -/
import Derived.Test.YtehphohgnpbmpaaQl
import Derived.Test.YtehphohgnpbmpaaQr
import Derived.Test.YtehphohgnpbmpaaQv
import Derived.BigQuiet
import Derived.ChangeAt
import Derived.JoinedAt
import Derived.ProofKit
import Derived.OpenShut
import Derived.Test.YtehphohgnpbmpaaRows
namespace Go.Proofs.Ytehphohgnpbmpaa.probeAll
open Go.ChangeShapes Go.WideShapes Go.ChangeAt Go.RowKit Go.Shelf
attribute [local go_sem] Oper.semAt_some

theorem own : ownKnob Try.prog.godebug = none := by kernel_rfl
set_option maxRecDepth 100000 in
set_option maxHeartbeats 4000000 in
theorem walkNo (g h : Int) (hm : checkE g ≠ 0) (w : World) :
    Calls Try.prog 5 #[.int .i64 g, .int .u64 h] w fun e w' => e = .returned (.bool true) ∧ Below w.heap.size w w' := by
  have CW := Lib.hid (Try.wakes_any w)
  have CR := fun W => Lib.hid (Try.Row_no g h hm W)
  have CC := fun W => Lib.hid (Try.Check_any g W)
  rw [checkE_not hm] at CC
  clear hm
  go_enter Try.func5, Try.ntmps5
  go_wp2_with fail
  refine CW.out.mono ?_
  rintro e w1 ⟨rfl, hB1⟩
  have HB1 := Lib.hid hB1
  clear hB1 CW
  go_wp2_with fail
  refine (CR _).out.mono ?_
  rintro e w2 ⟨rfl, rfl⟩
  go_wp2_with fail
  refine (CC _).out.mono ?_
  rintro e w2 ⟨rfl, rfl⟩
  go_wp2_with fail
  go_ret
  exact ⟨rfl, HB1.out⟩
theorem next_out {g : Nat} {a i : Int} (h : a < 0 ∨ (g : Int) ≤ a ∨ i < 0 ∨ (g : Int) - 1 ≤ i) : nextV g a i = .tuple #[.int .i64 0, .int .i64 2] := by
  unfold nextV
  rw [if_pos]
  simp [outB]
  omega
theorem next_in {g : Nat} {a i : Int} (h : 0 ≤ a ∧ a < (g : Int) ∧ 0 ≤ i ∧ i < (g : Int) - 1) : nextV g a i = .tuple #[.int .i64 ((a + i + 1) % g), .int .i64 0] := by
  unfold nextV
  rw [if_neg]
  simp [outB]
  omega
theorem sorted_row {g l : Nat} (hm : mayB g = true) (hl : l < g) : (rowI g l).mergeSort leI = natI (List.range g) := sorted_range (rowG_perm hm hl)
set_option maxRecDepth 100000 in
set_option maxHeartbeats 8000000 in
theorem walkYes (g h : Nat) (hm : mayB g = true) (hh : h < 18446744073709551616) (w : World) :
    Calls Try.prog 5 #[.int .i64 (g : Int), .int .u64 (h : Int)] w fun e w' => e = .returned (.bool true) ∧ Below w.heap.size w w' := by
  obtain ⟨hg, hg2⟩ := mayB_le hm
  have CW := Lib.hid (Try.wakes_any w)
  have CR := fun W => Lib.hid (Try.Row_ok g h hm hh W)
  have CA := fun i (hi : i < g) W => Lib.hid (Try.At_ok g h i hm hi hh W)
  have CP := fun i (hi : i < g) W => Lib.hid (Try.Place_ok g h i hm hi hh W)
  have CN := fun a i W => Lib.hid (Try.Next_any g a i hm W)
  have hl : h % g < g := Nat.mod_lt _ hg
  generalize h % g = l at *
  have CC := fun b W (h1 : Rows8 W b 53 (arr64 (keptF g l g))) => Lib.hid (Try.cloneInts_any (some ⟨b, 0, none⟩) g 64 (rowI g l) (rowI_len g l).symm (by omega) W (rowQ_at hg2 h1))
  have CS := fun n₀ a c W hO => Lib.hid (Try.sortInts_any n₀ a g c (rowI g l) (rowI_len g l).symm (by omega) (by omega) W hO)
  rw [sorted_row hm hl] at CS
  have HM := Lib.hid hm
  clear hm
  go_enter Try.func5, Try.ntmps5
  go_wp2_with fail
  refine CW.out.mono ?_
  rintro e w1 ⟨rfl, hB1⟩
  have HB1 := Lib.hid hB1
  clear hB1 CW
  go_wp2_with fail
  refine (CR _).out.mono ?_
  rintro e w2 ⟨b2, rfl, hb2, hr2, hB2⟩
  have HR2 := Lib.hid hr2
  have HB2 := Lib.hid (HB1.out.trans (hB2.mono HB1.out.size))
  have hC := CC _ _ hr2
  clear hr2 hB2 CR HB1 CC
  go_wp2_with fail
  refine hC.out.mono ?_
  rintro e w3 ⟨v3, rfl, hO3, hB3⟩
  obtain ⟨a3, c3, rfl⟩ := ownsInts_form hO3
  rw [rowI_len] at hO3 ⊢
  have hS := CS _ _ _ _ hO3
  have HR3 := Lib.hid (HR2.out.below hB3 HR2.out.lt)
  have HB3 := Lib.hid (HB2.out.trans (hB3.mono HB2.out.size))
  have hz32 := hB3.size
  have hz2 := HR2.out.lt
  clear hC hO3 hB3 CS HR2
  go_wp2_with fail
  refine hS.out.mono ?_
  rintro e w4 ⟨rfl, hO4, g4, hg4, hgr⟩
  have hB4 : Below w2.heap.size w3 w4 := ⟨hgr.os, hgr.tape, hgr.output, hgr.size, fun k hk => hgr.block k (by omega) (fun e => by injection e with e; omega)⟩
  have HR4 := Lib.hid (HR3.out.below hB4 hz2)
  have HB4 := Lib.hid (HB3.out.trans (hB4.mono HB2.out.size))
  have HI4 : Hid (IntsAt w4 (.slice a3 g c3) (natI (List.range g))) := Lib.hid (by
    have h := rowAt_own hO4
    rw [natI_len, List.length_range] at h
    unfold IntsAt
    rw [natI_len, List.length_range]
    exact h)
  clear hS hO4 hgr hB4 HR3 HB3 HB2 hz32 hz2
  go_wp2_with fail
  go_loop [43] (fun j => ∃ i : Nat, i ≤ g ∧ j = .int .i64 i) (fun j => g - (intOf j).toNat)
  case atStart => exact ⟨0, Nat.zero_le _, rfl⟩
  case round =>
    obtain ⟨i, hi, rfl⟩ := hrel
    by_cases hlt : i < g
    · have hii : (i : Int) < (g : Int) := by omega
      obtain ⟨b, off, rfl, hb, hc⟩ := intsAt_get HI4.out i (by rw [natI_len, List.length_range]; exact hlt)
      rw [natI_get _ i (by rw [List.length_range]; exact hlt), List.getElem_range] at hc
      have hq : ((i : Int) != (i : Int)) = false := by simp
      go_wp2_with fail
      go_round
      case rel => exact ⟨i + 1, by omega, by go_num⟩
      case measure => simp [intOf]; omega
    · obtain rfl : i = g := by omega
      clear HI4
      go_wp2_with fail
      go_loopw [54] (fun j wr => ∃ k : Nat, k ≤ i ∧ j = .int .i64 k ∧ Below w4.heap.size w4 wr) (fun j _ => i - (intOf j).toNat)
      case atStart => exact ⟨0, Nat.zero_le _, rfl, Below.refl _ _⟩
      case round =>
        obtain ⟨k, hk, rfl, hB⟩ := hrel
        by_cases hlt2 : k < i
        · have hki : (k : Int) < (i : Int) := by omega
          have hRr := HR4.out.below hB HR4.out.lt
          have hc := hRr.cell k
          rw [arr64_get _ k (by omega), keptF_at hlt2] at hc
          have hzr := hRr.lt
          have hx := rowAt_lt hg l k
          have CA := CA k hlt2
          have CP := CP (rowAt i l k) hx
          rw [place_eq HM.out hl hlt2 rfl] at CP
          have hns := Lib.hid (rowAt_succ i l k)
          have CN := fun W => CN (rowAt i l k : Int) (k : Int) W
          have HB := Lib.hid hB
          have hcn := fun W (hW : Below w4.heap.size w4 W) (hk1 : k + 1 < i) => show W.cell? ⟨b2, k + 1, none⟩ = some (.int .i64 (rowAt i l (k + 1) : Int)) by
            rw [(HR4.out.below hW HR4.out.lt).cell (k + 1), arr64_get _ (k + 1) (by omega), keptF_at hk1]
          have hzz := fun W (hW : Below w4.heap.size w4 W) => (HR4.out.below hW HR4.out.lt).lt
          generalize rowAt i l k = x at *
          have q1 : ((x : Int) != (x : Int)) = false := by simp
          have q2 : ((k : Int) != (k : Int)) = false := by simp
          clear hB hRr
          go_wp2_with fail
          refine (CA _).out.mono ?_
          rintro e w5 ⟨rfl, hB5⟩
          have HB5 := Lib.hid (HB.out.trans (hB5.mono HB.out.size))
          clear hB5 HB
          go_wp2_with fail
          refine (CP _).out.mono ?_
          rintro e w6 ⟨rfl, hB6⟩
          have HB6 := Lib.hid (HB5.out.trans (hB6.mono HB5.out.size))
          clear hB6 HB5
          have hN := CN w6
          by_cases hlast : (k : Int) = (i : Int) - 1
          · rw [next_out (by omega)] at hN
            have hq : ((k : Int) == (i : Int) - 1) = true := by simp; omega
            clear hlast
            go_wp2_with fail
            refine hN.out.mono ?_
            rintro e w7 ⟨rfl, rfl⟩
            go_wp2_with fail
            go_roundw
            case rel => exact ⟨k + 1, by omega, by go_num, HB6.out⟩
            case measure => simp [intOf]; omega
          · rw [next_in (by omega)] at hN
            have hq : ((k : Int) == (i : Int) - 1) = false := by simp; omega
            have hc2 := hcn w6 HB6.out (by omega)
            have hz6 := hzz w6 HB6.out
            have hk1 : (k : Int) + 1 < (i : Int) := by omega
            have hqq : (((x : Int) + (k : Int) + 1) % (i : Int) != (rowAt i l (k + 1) : Int)) = false := by rw [hns.out]; push_cast; simp
            generalize rowAt i l (k + 1) = y at *
            clear hlast hcn hzz
            go_wp2_with fail
            refine hN.out.mono ?_
            rintro e w7 ⟨rfl, rfl⟩
            go_wp2_with fail
            go_roundw
            case rel => exact ⟨k + 1, by omega, by go_num, HB6.out⟩
            case measure => simp [intOf]; omega
        · obtain rfl : k = i := by omega
          have HB := Lib.hid hB
          have hgg : ((k : Int) == (k : Int)) = true := by simp
          clear hB
          go_wp2_with fail
          go_ret
          exact ⟨rfl, HB4.out.trans (HB.out.mono HB4.out.size)⟩
theorem walk (a0 a1 : Int) (w : World) (_w0 : (Lit.int .i64 a0).wf = true) (w1 : (Lit.int .u64 a1).wf = true) :
    Calls Try.prog 5 #[.int .i64 a0, .int .u64 a1] w fun e w' => e = .returned (.bool true) ∧ Below w.heap.size w w' := by
  obtain ⟨h, rfl, hh⟩ := u64_nat w1
  by_cases hc : checkE a0 = 0
  · obtain ⟨g, rfl, hm, _⟩ := checkE_ok hc
    exact walkYes g h hm hh w
  · exact walkNo a0 h hc w
theorem laidOut : laidOutB Try.prog = true := by kernel_rfl
set_option maxRecDepth 100000 in
theorem lifted (os : Os) (started : os.Started) (H : Type) (enc : TypeId × Value → H) :
    ReturnsInHanded {} Try.checked os 5 .any (Rows.probeAllSpec.pre6 enc Try.prog Try.f5 Rows.probeAllRow.domain false) (Rows.probeAllSpec.post enc Try.prog Try.f5 false true false false) := by
  refine returnsInHanded_of_change (C := Try.checked) own started (by kernel_rfl) Try.func5
    (ChangeSpec.witness6 (enc := enc) (C := Try.checked) false ⟨#[], #[.int .i64 0, .int .u64 0], []⟩ 8 (by kernel_rfl) (by kernel_rfl) (by kernel_rfl) (by kernel_rfl)) ?_
  intro W base args ds gs before hval0 hW hcnd _
  have hval : ∀ (j : Nat) t v, Try.f5.params[j]? = some t → args[j]? = some v → Value.okWide Try.prog W .any base t v := hval0
  have hW' := hW
  obtain ⟨p, q, hA0, hV, rfl, hfz, hnd⟩ := hW
  have hA : DataW.TrodAll enc Try.prog W 0 (fun _ => true) true Try.f5.params.toList args.toList ds p := hA0
  rw [Try.params5] at hA hval
  obtain ⟨v0, vs0, d0, ds0, p0, q0, hargs, rfl, rfl, h0, r0⟩ := trodAll_cons hA
  obtain ⟨v1, vs1, d1, ds1, p1, q1, rfl, rfl, rfl, h1, r1⟩ := trodAll_cons r0
  obtain ⟨rfl, rfl, rfl⟩ := trodAll_nil r1
  obtain rfl : args = #[v0, v1] := by cases args; simp_all
  obtain ⟨rfl, rfl⟩ := trodVars_none hV
  obtain ⟨a0, rfl, rfl, rfl, w0⟩ := open_int Try.underlying3 (hval 0 3 v0 rfl rfl) h0
  obtain ⟨a1, rfl, rfl, rfl, w1⟩ := open_int Try.underlying22 (hval 1 22 v1 rfl rfl) h1
  clear hA0 hval0
  refine (walk a0 a1 W w0 w1).mono fun e W' ⟨he, bel⟩ => ?_
  subst he
  exact ⟨_, rfl, _, _, _, [], _, [], hW', trodAll_mk1 (shut_bool Try.underlying4 _), (trodAll_cons_mk (shut_int Try.underlying3 w0) (trodAll_cons_mk (shut_int Try.underlying22 w1) trodAll_mk0)), rfl, bel.frame _, fun h => by cases h⟩

theorem over : Rows.probeAllRow.holds Try.pinned (OpenSpec.ofChange Rows.probeAllSpec) :=
  OpenClaim.holds_of_wide 5 Try.f5 rfl rfl rfl rfl rfl rfl rfl ⟨rfl, rfl, rfl, rfl, rfl⟩ rfl rfl rfl rfl rfl (by kernel_rfl) Try.func5 (by kernel_rfl)
    (of_decide_eq_true (by kernel_rfl)) (by unfold Func.isWrapper; first | (rw [if_pos (by decide +kernel)]; kernel_rfl) | (rw [if_neg (by decide +kernel)]; exact ⟨rfl, rfl⟩))
    (fun os started H enc _ => lifted os started H enc)

theorem proved : Rows.ProbeAllSaid := over
end Go.Proofs.Ytehphohgnpbmpaa.probeAll
