/- Proved: for every two numbers, honeycomblaw03.ScriptNumbers returns true, and its arguments read as they did; no condition. -/
import Derived.Test.YtfboppjedgfacaaZYe
import Derived.Test.YtfboppjedgfacaaZUa
import Derived.Test.YtfboppjedgfacaaRows
import Derived.ProofKit
import Derived.ShutString
import Derived.ChangeOld
import Derived.ChangeAt
import Derived.JoinedAt
import Derived.OpenShut
import Derived.Below
namespace Go.Proofs.Ytfboppjedgfacaa.scriptNumbers
open Go.ChangeShapes Go.WideShapes Go.ChangeAt Go.RowKit Go.Shelf
attribute [local go_sem] Oper.semAt_some

theorem own : ownKnob Try.prog.godebug = none := by kernel_rfl
theorem num_len (n : Nat) (h : n < 2 ^ 64) : 1 ≤ (numB n).length ∧ (numB n).length ≤ 10 := numB_length 9 n (by omega)
set_option maxRecDepth 100000 in
set_option maxHeartbeats 2000000 in
theorem walkNat (a b : Nat) (ha : a < 2 ^ 64) (hb : b < 2 ^ 64) (w : World) :
    Calls Try.prog 8 #[.int .u64 (a : Int), .int .u64 (b : Int)] w fun e w' => e = .returned (.bool true) ∧ Below w.heap.size w w' := by
  have HNA := Lib.hid fun W => Try.Number_any a ha W
  have HNB := Lib.hid fun W => Try.Number_any b hb W
  have la := num_len a ha
  have lb := num_len b hb
  have ba := numB_bytes a
  have bb := numB_bytes b
  have HEQ : Hid (a = b → ∀ (x1 x2 : Option Addr) (c1 c2 : Nat) (W : World), BytesAt W (.slice x1 (numB a).length c1) (numB a) → BytesAt W (.slice x2 (numB b).length c2) (numB b) → Calls Try.prog 20 #[.slice x1 (numB a).length c1, .slice x2 (numB b).length c2] W fun e w' => e = .returned (.bool true) ∧ W = w') := Lib.hid fun e x1 x2 c1 c2 W h1 h2 => by
    subst e
    exact Try.equalB_yes x1 x2 _ c1 c2 _ rfl ba W h1 h2
  have HP1 := Lib.hid fun (e : a ≠ b) (x1 x2 : Option Addr) (c1 c2 : Nat) W (h1 : BytesAt W (.slice x1 (numB a).length c1) (numB a)) (h2 : BytesAt W (.slice x2 (numB b).length c2) (numB b)) => by
    have h := Try.hasPrefix_any x1 x2 _ _ c1 c2 _ _ rfl rfl ba bb W h1 h2
    rw [decide_eq_false (numB_not (Ne.symm e))] at h
    exact h
  have HP2 := Lib.hid fun (e : a ≠ b) (x1 x2 : Option Addr) (c1 c2 : Nat) W (h1 : BytesAt W (.slice x1 (numB b).length c1) (numB b)) (h2 : BytesAt W (.slice x2 (numB a).length c2) (numB a)) => by
    have h := Try.hasPrefix_any x1 x2 _ _ c1 c2 _ _ rfl rfl bb ba W h1 h2
    rw [decide_eq_false (numB_not e)] at h
    exact h
  have HM := Lib.hid (numB_mono a b)
  clear ha hb ba bb
  go_enter Try.func8, Try.ntmps8
  go_wp2_with fail
  refine (Try.wakes_any w).mono ?_
  rintro e w1 ⟨rfl, hB1⟩
  have HB1 := Lib.hid hB1
  clear hB1
  go_wp2_with fail
  refine (HNA.out w1).mono ?_
  rintro e w2 ⟨v2, rfl, ho2, hB2⟩
  have HB2 := Lib.hid (HB1.out.trans (hB2.mono HB1.out.size))
  have hr2 : BytesAt w2 v2 (numB a) := rowAt_own ho2
  obtain ⟨_, x1, c1, rfl, _⟩ := rowAt_own ho2
  have HR2 := Lib.hid hr2
  clear hB2 ho2 hr2 HB1 HNA
  go_wp2_with fail
  refine (HNB.out w2).mono ?_
  rintro e w3 ⟨v3, rfl, ho3, hB3⟩
  have HB3 := Lib.hid (HB2.out.trans (hB3.mono HB2.out.size))
  have hr3 : BytesAt w3 v3 (numB b) := rowAt_own ho3
  obtain ⟨_, x2, c2, rfl, _⟩ := rowAt_own ho3
  have HR3 := Lib.hid hr3
  have HS3 := Lib.hid (RowAt.below HR2.out hB3)
  clear hB3 ho3 hr3 HB2 HNB HR2
  generalize numB a = na at *
  generalize numB b = nb at *
  obtain ⟨ka, hka⟩ : ∃ k, na.length = k := ⟨_, rfl⟩
  obtain ⟨kb, hkb⟩ : ∃ k, nb.length = k := ⟨_, rfl⟩
  rw [hka] at la HEQ HP1 HP2 HM ⊢
  rw [hkb] at lb HEQ HP1 HP2 HM ⊢
  have HS4 : Hid (BytesAt w3 (.slice x1 ka c1) na) := Lib.hid (hka ▸ HS3.out)
  have HR4 : Hid (BytesAt w3 (.slice x2 kb c2) nb) := Lib.hid (hkb ▸ HR3.out)
  clear hka hkb HS3 HR3
  by_cases hab : a = b
  · have he := HEQ.out hab x1 x2 c1 c2 w3 HS4.out HR4.out
    have hab' : ((a : Int) == (b : Int)) = true := by rw [hab]; simp
    have HE := Lib.hid he
    clear he hab
    go_wp2_with fail
    refine HE.out.mono ?_
    rintro e w' ⟨rfl, rfl⟩
    go_wp2_with fail
    go_ret
    exact ⟨rfl, HB3.out⟩
  · have hab' : ((a : Int) == (b : Int)) = false := by simp; omega
    have HE1 := Lib.hid (HP1.out hab x1 x2 c1 c2 w3 HS4.out HR4.out)
    have HE2 := Lib.hid (HP2.out hab x2 x1 c2 c1 w3 HR4.out HS4.out)
    have p1 : (1 : Int) ≤ (ka : Int) := by omega
    have p2 : (ka : Int) ≤ 10 := by omega
    have p3 : (1 : Int) ≤ (kb : Int) := by omega
    have p4 : (kb : Int) ≤ 10 := by omega
    clear hab la lb
    by_cases hlt : a < b
    · have hlt' : (a : Int) < (b : Int) := by omega
      have hle : ¬ (kb : Int) < (ka : Int) := by have := HM.out (Nat.le_of_lt hlt); omega
      clear hlt
      go_wp2_with fail
      refine HE1.out.mono ?_
      rintro e w' ⟨rfl, rfl⟩
      go_wp2_with fail
      refine HE2.out.mono ?_
      rintro e w' ⟨rfl, rfl⟩
      go_wp2_with fail
      go_ret
      exact ⟨rfl, HB3.out⟩
    · have hlt' : ¬ (a : Int) < (b : Int) := by omega
      clear hlt
      go_wp2_with fail
      refine HE1.out.mono ?_
      rintro e w' ⟨rfl, rfl⟩
      go_wp2_with fail
      refine HE2.out.mono ?_
      rintro e w' ⟨rfl, rfl⟩
      go_wp2_with fail
      go_ret
      exact ⟨rfl, HB3.out⟩
theorem u64_nat {z : Int} (h : (Lit.int .u64 z).wf = true) : ∃ n : Nat, z = (n : Int) ∧ n < 2 ^ 64 := by
  simp [Lit.wf, IntKind.min, IntKind.max, IntKind.bits, IntKind.signed] at h
  exact ⟨z.toNat, by omega, by omega⟩
theorem walk (a0 a1 : Int) (w : World) (w0 : (Lit.int .u64 a0).wf = true) (w1 : (Lit.int .u64 a1).wf = true) :
    Calls Try.prog 8 #[.int .u64 a0, .int .u64 a1] w fun e w' => e = .returned (.bool true) ∧ Below w.heap.size w w' := by
  obtain ⟨a, rfl, ha⟩ := u64_nat w0
  obtain ⟨b, rfl, hb⟩ := u64_nat w1
  exact walkNat a b ha hb w
theorem laidOut : laidOutB Try.prog = true := by kernel_rfl
set_option maxRecDepth 100000 in
theorem lifted (os : Os) (started : os.Started) (H : Type) (enc : TypeId × Value → H) :
    ReturnsInHanded {} Try.checked os 8 .any (Rows.scriptNumbersSpec.pre6 enc Try.prog Try.f8 Rows.scriptNumbersRow.domain false) (Rows.scriptNumbersSpec.post enc Try.prog Try.f8 false true false false) := by
  refine returnsInHanded_of_change (C := Try.checked) own started (by kernel_rfl) Try.func8
    (ChangeSpec.witness6 (enc := enc) (C := Try.checked) false ⟨#[], #[.int .u64 0, .int .u64 0], []⟩ 8 (by kernel_rfl) (by kernel_rfl) (by kernel_rfl) (by kernel_rfl)) ?_
  intro W base args ds gs before hval0 hW hcnd _
  have hval : ∀ (j : Nat) t v, Try.f8.params[j]? = some t → args[j]? = some v → Value.okWide Try.prog W .any base t v := hval0
  have hW' := hW
  obtain ⟨p, q, hA0, hV, rfl, hfz, hnd⟩ := hW
  have hA : DataW.TrodAll enc Try.prog W 0 (fun _ => true) true Try.f8.params.toList args.toList ds p := hA0
  rw [Try.params8] at hA hval
  obtain ⟨v0, vs0, d0, ds0, p0, q0, hargs, rfl, rfl, h0, r0⟩ := trodAll_cons hA
  obtain ⟨v1, vs1, d1, ds1, p1, q1, rfl, rfl, rfl, h1, r1⟩ := trodAll_cons r0
  obtain ⟨rfl, rfl, rfl⟩ := trodAll_nil r1
  obtain rfl : args = #[v0, v1] := by cases args; simp_all
  obtain ⟨rfl, rfl⟩ := trodVars_none hV
  obtain ⟨a0, rfl, rfl, rfl, w0⟩ := open_int Try.underlying22 (hval 0 22 v0 rfl rfl) h0
  obtain ⟨a1, rfl, rfl, rfl, w1⟩ := open_int Try.underlying22 (hval 1 22 v1 rfl rfl) h1
  clear hA0 hval0
  refine (walk a0 a1 W w0 w1).mono fun e W' ⟨he, bel⟩ => ?_
  subst he
  exact ⟨_, rfl, _, _, _, [], _, [], hW', trodAll_mk1 (shut_bool Try.underlying4 _), (trodAll_cons_mk (shut_int Try.underlying22 w0) (trodAll_cons_mk (shut_int Try.underlying22 w1) trodAll_mk0)), rfl, bel.frame _, fun h => by cases h⟩

theorem over : Rows.scriptNumbersRow.holds Try.pinned (OpenSpec.ofChange Rows.scriptNumbersSpec) :=
  OpenClaim.holds_of_wide 8 Try.f8 rfl rfl rfl rfl rfl rfl rfl ⟨rfl, rfl, rfl, rfl, rfl⟩ rfl rfl rfl rfl rfl (by kernel_rfl) Try.func8 (by kernel_rfl)
    (of_decide_eq_true (by kernel_rfl)) (by unfold Func.isWrapper; first | (rw [if_pos (by decide +kernel)]; kernel_rfl) | (rw [if_neg (by decide +kernel)]; exact ⟨rfl, rfl⟩))
    (fun os started H enc _ => lifted os started H enc)

theorem proved : Rows.ScriptNumbersSaid := over
end Go.Proofs.Ytfboppjedgfacaa.scriptNumbers
