/- Proved: for every number of groups, hash, and word, honeycomblaw08.ProbeSame returns true, and its arguments read as they did; no condition. -/
import Derived.Test.YtehphohgnpbmpaaQl
import Derived.BigQuiet
import Derived.ChangeAt
import Derived.JoinedAt
import Derived.ProofKit
import Derived.OpenShut
import Derived.Test.YtehphohgnpbmpaaRows
namespace Go.Proofs.Ytehphohgnpbmpaa.probeSame
open Go.ChangeShapes Go.WideShapes Go.ChangeAt Go.RowKit Go.Shelf
attribute [local go_sem] Oper.semAt_some

theorem own : ownKnob Try.prog.godebug = none := by kernel_rfl
theorem moved (g l i : Nat) : (rowAt g 0 i + l) % g = rowAt g l i := by
  unfold rowAt
  rw [Nat.mod_add_mod]
  congr 1
  omega
set_option maxRecDepth 100000 in
set_option maxHeartbeats 4000000 in
theorem walkNo (g : Int) (h m : Int) (hm : checkE g ≠ 0) (w : World) :
    Calls Try.prog 6 #[.int .i64 g, .int .u64 h, .int .u64 m] w fun e w' => e = .returned (.bool true) ∧ Below w.heap.size w w' := by
  have CW := Lib.hid (Try.wakes_any w)
  have CR := fun W => Lib.hid (Try.Row_no g h hm W)
  clear hm
  go_enter Try.func6, Try.ntmps6
  go_wp2_with fail
  refine CW.out.mono ?_
  rintro e w1 ⟨rfl, hB1⟩
  go_wp2_with fail
  refine (CR _).out.mono ?_
  rintro e w2 ⟨rfl, rfl⟩
  go_wp2_with fail
  go_ret
  exact ⟨rfl, hB1⟩
set_option maxRecDepth 100000 in
set_option maxHeartbeats 4000000 in
theorem walkYes (g h m : Nat) (hm : mayB g = true) (hh : h < 18446744073709551616) (hmm : m < 18446744073709551616) (w : World) :
    Calls Try.prog 6 #[.int .i64 (g : Int), .int .u64 (h : Int), .int .u64 (m : Int)] w fun e w' => e = .returned (.bool true) ∧ Below w.heap.size w w' := by
  obtain ⟨hg, hg2⟩ := mayB_le hm
  have CW := Lib.hid (Try.wakes_any w)
  have CR := fun W => Lib.hid (Try.Row_ok g h hm hh W)
  have hl : h % g < g := Nat.mod_lt _ hg
  have hk : m % 1000 < 1000 := Nat.mod_lt _ (by decide)
  have hgk : g * (m % 1000) ≤ 64000 := by
    calc g * (m % 1000) ≤ 64 * 1000 := Nat.mul_le_mul hg2 (by omega)
      _ = 64000 := rfl
  have CS := fun W => Lib.hid (by
    have h2 := Try.Row_ok g (h % g + g * (m % 1000)) hm (by omega) W
    rw [Nat.add_mul_mod_self_left, Nat.mod_eq_of_lt hl] at h2
    exact h2)
  have CF : ∀ W, Hid (Calls Try.prog 11 #[.int .i64 (g : Int), .int .u64 0] W (RowQ g 0 W)) := fun W => Lib.hid (by
    have h2 := Try.Row_ok g 0 hm (by decide) W
    rw [Nat.zero_mod] at h2
    exact h2)
  have hr : Hid ((h : Int) % (g : Int) = ((h % g : Nat) : Int)) := Lib.hid (by rw [Int.natCast_emod])
  have hp : Hid ((g : Int) * ((m : Int) % 1000) = ((g * (m % 1000) : Nat) : Int)) := Lib.hid (by push_cast; rfl)
  have hmi : Hid ((m : Int) % 1000 = ((m % 1000 : Nat) : Int)) := Lib.hid (by rw [Int.natCast_emod]; rfl)
  have hmv := Lib.hid (moved g (h % g))
  have EQ := fun b1 b2 W (h1 : Rows8 W b1 53 (arr64 (keptF g (h % g) g))) (h2 : Rows8 W b2 53 (arr64 (keptF g (h % g) g))) => Lib.hid (by
    have h := Try.equalInts_any (some ⟨b1, 0, none⟩) (some ⟨b2, 0, none⟩) g g 64 64 (natI (rowG g (h % g))) (natI (rowG g (h % g))) (by rw [natI_len, rowG_len]) (by rw [natI_len, rowG_len]) (by omega) (by omega) W (rowQ_at (w := W) hg2 h1) (rowQ_at (w := W) hg2 h2)
    rw [decide_eq_true rfl] at h
    exact h)
  generalize h % g = l at *
  generalize hkk : m % 1000 = k at *
  generalize hpp : g * k = pr at *
  go_enter Try.func6, Try.ntmps6
  go_wp2_with fail
  refine CW.out.mono ?_
  rintro e w1 ⟨rfl, hB1⟩
  have HB1 := Lib.hid hB1
  clear hB1 CW
  go_wp2_with fail
  refine (CR _).out.mono ?_
  rintro e w2 ⟨b2, rfl, hb2, hr2, hB2⟩
  have HR2 := Lib.hid hr2
  have HB2 := Lib.hid (HB1.out.trans (hB2.mono HB1.out.size))
  clear hr2 hB2 CR HB1
  go_wp2_with fail
  have hmi2 := hmi.out
  rw [hp.out, hr.out, IntWalk.u64_in (pr : Int) (by omega), show (l : Int) + (pr : Int) = ((l + pr : Nat) : Int) by push_cast; rfl, IntWalk.u64_in ((l + pr : Nat) : Int) (by omega)]
  refine (CS _).out.mono ?_
  rintro e w3 ⟨b3, rfl, hb3, hr3, hB3⟩
  have HR3 := Lib.hid hr3
  have HR2b := Lib.hid (HR2.out.below hB3 HR2.out.lt)
  have HB3 := Lib.hid (HB2.out.trans (hB3.mono HB2.out.size))
  clear hr3 hB3 CS HR2 HB2 hmi2
  go_wp2_with fail
  refine (CF _).out.mono ?_
  rintro e w4 ⟨b4, rfl, hb4, hr4, hB4⟩
  have HR4 := Lib.hid hr4
  have HR2c := Lib.hid (HR2b.out.below hB4 HR2b.out.lt)
  have HR3b := Lib.hid (HR3.out.below hB4 HR3.out.lt)
  have HB4 := Lib.hid (HB3.out.trans (hB4.mono HB3.out.size))
  clear hr4 hB4 CF HR2b HR3 HB3
  have HE := EQ _ _ _ HR2c.out HR3b.out
  go_wp2_with fail
  refine HE.out.mono ?_
  rintro e w5 ⟨rfl, hB5⟩
  have HR2 := Lib.hid (HR2c.out.below hB5 HR2c.out.lt)
  have HR0 := Lib.hid (HR4.out.below hB5 HR4.out.lt)
  have HB5 := Lib.hid (HB4.out.trans (hB5.mono HB4.out.size))
  clear hB5 HE EQ HR2c HR3b HB4 HR4
  have hgg : ((g : Int) != (g : Int)) = false := by simp
  go_wp2_with fail
  go_loop [71] (fun j => ∃ i : Nat, i ≤ g ∧ j = .int .i64 i) (fun j => g - (intOf j).toNat)
  case atStart => exact ⟨0, Nat.zero_le _, rfl⟩
  case round =>
    obtain ⟨i, hi, rfl⟩ := hrel
    by_cases hlt : i < g
    · have hii : (i : Int) < (g : Int) := by omega
      have c2 := HR2.out.cell i
      have c0 := HR0.out.cell i
      rw [arr64_get _ i (by omega), keptF_at hlt] at c2 c0
      have hz2 := HR2.out.lt
      have hz0 := HR0.out.lt
      have hm2 := hmv.out i
      have hx := rowAt_lt hg 0 i
      have hy := rowAt_lt hg l i
      generalize rowAt g 0 i = x at *
      generalize rowAt g l i = y at *
      have hq : (((x : Int) + (l : Int)) % (g : Int) != (y : Int)) = false := by
        rw [← hm2]
        push_cast
        simp
      clear hm2
      go_wp2_with fail
      go_round
      case rel => exact ⟨i + 1, by omega, by go_num⟩
      case measure => simp [intOf]; omega
    · obtain rfl : i = g := by omega
      go_wp2_with fail
      go_ret
      exact ⟨rfl, HB5.out⟩
theorem walk (a0 a1 a2 : Int) (w : World) (w0 : (Lit.int .i64 a0).wf = true) (w1 : (Lit.int .u64 a1).wf = true) (w2 : (Lit.int .u64 a2).wf = true) :
    Calls Try.prog 6 #[.int .i64 a0, .int .u64 a1, .int .u64 a2] w fun e w' => e = .returned (.bool true) ∧ Below w.heap.size w w' := by
  obtain ⟨h, rfl, hh⟩ := u64_nat w1
  obtain ⟨m, rfl, hmm⟩ := u64_nat w2
  by_cases hc : checkE a0 = 0
  · obtain ⟨g, rfl, hm, _⟩ := checkE_ok hc
    exact walkYes g h m hm hh hmm w
  · exact walkNo a0 h m hc w
theorem laidOut : laidOutB Try.prog = true := by kernel_rfl
set_option maxRecDepth 100000 in
theorem lifted (os : Os) (started : os.Started) (H : Type) (enc : TypeId × Value → H) :
    ReturnsInHanded {} Try.checked os 6 .any (Rows.probeSameSpec.pre6 enc Try.prog Try.f6 Rows.probeSameRow.domain false) (Rows.probeSameSpec.post enc Try.prog Try.f6 false true false false) := by
  refine returnsInHanded_of_change (C := Try.checked) own started (by kernel_rfl) Try.func6
    (ChangeSpec.witness6 (enc := enc) (C := Try.checked) false ⟨#[], #[.int .i64 0, .int .u64 0, .int .u64 0], []⟩ 8 (by kernel_rfl) (by kernel_rfl) (by kernel_rfl) (by kernel_rfl)) ?_
  intro W base args ds gs before hval0 hW hcnd _
  have hval : ∀ (j : Nat) t v, Try.f6.params[j]? = some t → args[j]? = some v → Value.okWide Try.prog W .any base t v := hval0
  have hW' := hW
  obtain ⟨p, q, hA0, hV, rfl, hfz, hnd⟩ := hW
  have hA : DataW.TrodAll enc Try.prog W 0 (fun _ => true) true Try.f6.params.toList args.toList ds p := hA0
  rw [Try.params6] at hA hval
  obtain ⟨v0, vs0, d0, ds0, p0, q0, hargs, rfl, rfl, h0, r0⟩ := trodAll_cons hA
  obtain ⟨v1, vs1, d1, ds1, p1, q1, rfl, rfl, rfl, h1, r1⟩ := trodAll_cons r0
  obtain ⟨v2, vs2, d2, ds2, p2, q2, rfl, rfl, rfl, h2, r2⟩ := trodAll_cons r1
  obtain ⟨rfl, rfl, rfl⟩ := trodAll_nil r2
  obtain rfl : args = #[v0, v1, v2] := by cases args; simp_all
  obtain ⟨rfl, rfl⟩ := trodVars_none hV
  obtain ⟨a0, rfl, rfl, rfl, w0⟩ := open_int Try.underlying3 (hval 0 3 v0 rfl rfl) h0
  obtain ⟨a1, rfl, rfl, rfl, w1⟩ := open_int Try.underlying22 (hval 1 22 v1 rfl rfl) h1
  obtain ⟨a2, rfl, rfl, rfl, w2⟩ := open_int Try.underlying22 (hval 2 22 v2 rfl rfl) h2
  clear hA0 hval0
  refine (walk a0 a1 a2 W w0 w1 w2).mono fun e W' ⟨he, bel⟩ => ?_
  subst he
  exact ⟨_, rfl, _, _, _, [], _, [], hW', trodAll_mk1 (shut_bool Try.underlying4 _), (trodAll_cons_mk (shut_int Try.underlying3 w0) (trodAll_cons_mk (shut_int Try.underlying22 w1) (trodAll_cons_mk (shut_int Try.underlying22 w2) trodAll_mk0))), rfl, bel.frame _, fun h => by cases h⟩

theorem over : Rows.probeSameRow.holds Try.pinned (OpenSpec.ofChange Rows.probeSameSpec) :=
  OpenClaim.holds_of_wide 6 Try.f6 rfl rfl rfl rfl rfl rfl rfl ⟨rfl, rfl, rfl, rfl, rfl⟩ rfl rfl rfl rfl rfl (by kernel_rfl) Try.func6 (by kernel_rfl)
    (of_decide_eq_true (by kernel_rfl)) (by unfold Func.isWrapper; first | (rw [if_pos (by decide +kernel)]; kernel_rfl) | (rw [if_neg (by decide +kernel)]; exact ⟨rfl, rfl⟩))
    (fun os started H enc _ => lifted os started H enc)

theorem proved : Rows.ProbeSameSaid := over
end Go.Proofs.Ytehphohgnpbmpaa.probeSame
