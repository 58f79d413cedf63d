/- Proved: for every two words, and number, honeycomblaw07.HashDeeper returns true, and its arguments read as they did; no condition. -/
import Derived.Test.YtdpjmabamjgmkaaHl
import Derived.BigQuiet
import Derived.ChangeAt
import Derived.JoinedAt
import Derived.ProofKit
import Derived.OpenShut
import Derived.Test.YtdpjmabamjgmkaaRows
namespace Go.Proofs.Ytdpjmabamjgmkaa.hashDeeper
open Go.ChangeShapes Go.WideShapes Go.ChangeAt Go.RowKit Go.Shelf
attribute [local go_sem] Oper.semAt_some

theorem own : ownKnob Try.prog.godebug = none := by kernel_rfl
theorem u64_nat {z : Int} (h : (Lit.int .u64 z).wf = true) : ∃ n : Nat, z = (n : Int) ∧ n < 18446744073709551616 := by
  have : 0 ≤ z ∧ z ≤ 18446744073709551615 := by simpa [Lit.wf, IntKind.min, IntKind.max, IntKind.bits, IntKind.signed] using h
  exact ⟨z.toNat, by omega, by omega⟩
theorem prefE_in (x n : Nat) (hn : n ≤ 64) : prefE x (n : Int) = (prefixB x n, 0) := by
  unfold prefE
  rw [if_neg (by simp [noBitsB]; omega), Int.toNat_natCast]
theorem rem64 (z : Int) : ∃ n : Nat, n < 64 ∧ (IntKind.u64.wrap z).tmod 64 = (n : Int) ∧ IntKind.u64.wrap z % 64 = (n : Int) := by
  rw [wrap_u64m]
  have h0 : 0 ≤ z % 18446744073709551616 := by omega
  refine ⟨(z % 18446744073709551616 % 64).toNat, by omega, ?_, by omega⟩
  rw [Int.tmod_eq_emod_of_nonneg h0]
  omega
set_option maxRecDepth 100000 in
set_option maxHeartbeats 4000000 in
theorem walkNat (a b : Nat) (z : Int) (ha : a < 18446744073709551616) (hb : b < 18446744073709551616) (w : World) :
    Calls Try.prog 7 #[.int .u64 (a : Int), .int .u64 (b : Int), .int .i64 z] w fun e w' => e = .returned (.bool true) ∧ Below w.heap.size w w' := by
  obtain ⟨n, hn, hr1, hr2⟩ := rem64 z
  have cP := fun W => Try.Prefix_any a (n : Int) W
  rw [prefE_in a n (by omega)] at cP
  have cQ := fun W => Try.Prefix_any a ((n + 1 : Nat) : Int) W
  rw [prefE_in a (n + 1) (by omega)] at cQ
  have cR := fun W => Try.Prefix_any b (n : Int) W
  rw [prefE_in b n (by omega)] at cR
  have cA := fun W => Try.Parts_any a b ha hb W
  have cB := fun W => Try.Parts_any b a hb ha W
  rw [parts_comm b a] at cB
  have hhalf : ((prefixB a (n + 1) : Nat) : Int) / 2 = (prefixB a n : Int) := by
    rw [← prefix_half hn]
    omega
  have hpr : ((prefixB a n : Int) == (prefixB b n : Int)) = decide ((n : Int) ≤ (partsB a b : Int)) := by
    rw [Bool.eq_iff_iff]
    have := prefix_eq_iff ha hb (show n ≤ 64 by omega)
    simp only [beq_iff_eq, decide_eq_true_eq]
    omega
  have h64 : ((partsB a b : Int) == 64) = ((a : Int) == (b : Int)) := by
    rw [Bool.eq_iff_iff]
    have := parts_64 ha hb
    simp only [beq_iff_eq]
    omega
  have hle := parts_le a b
  dsimp only at cP cQ cR
  generalize prefixB a (n + 1) = q at *
  generalize prefixB a n = p at *
  generalize prefixB b n = r at *
  generalize partsB a b = t at *
  have hw1 : IntKind.i64.wrap (n : Int) = (n : Int) := IntWalk.i64_in _ (by omega)
  have hw2 : IntKind.i64.wrap ((n : Int) + 1) = (n : Int) + 1 := IntWalk.i64_in _ (by omega)
  have hpp : ((p : Int) != (p : Int)) = false := by simp
  obtain ⟨ab, hab⟩ : ∃ c : Bool, ((a : Int) == (b : Int)) = c := ⟨_, rfl⟩
  obtain ⟨nt, hnt⟩ : ∃ c : Bool, decide ((n : Int) ≤ (t : Int)) = c := ⟨_, rfl⟩
  have hnt2 : decide (n ≤ t) = nt := by rw [← hnt]; simp
  rw [hab] at h64
  rw [hnt] at hpr
  have hd0 : decide ((0 : Int) ≤ (t : Int)) = true := by simp
  have hd1 : decide ((t : Int) ≤ 64) = true := by simp; omega
  have ca := Try.wakes_any w
  go_enter Try.func7, Try.ntmps7
  go_wp2_with fail
  refine ca.mono ?_
  rintro e w1 ⟨rfl, hB1⟩
  have HB1 := Lib.hid hB1
  clear ca hB1
  go_wp2_with fail
  refine (cP _).mono ?_
  rintro e w2 ⟨rfl, rfl⟩
  go_wp2_with fail
  refine (cQ _).mono ?_
  rintro e w2 ⟨rfl, rfl⟩
  go_wp2_with fail
  refine (cR _).mono ?_
  rintro e w2 ⟨rfl, rfl⟩
  go_wp2_with fail
  refine (cA _).mono ?_
  rintro e w2 ⟨rfl, rfl⟩
  go_wp2_with fail
  refine (cB _).mono ?_
  rintro e w2 ⟨rfl, rfl⟩
  go_wp2_with fail
  go_ret
  exact ⟨rfl, HB1.out⟩
theorem walk (a0 a1 a2 : Int) (w : World) (w0 : (Lit.int .u64 a0).wf = true) (w1 : (Lit.int .u64 a1).wf = true) (_w2 : (Lit.int .i64 a2).wf = true) :
    Calls Try.prog 7 #[.int .u64 a0, .int .u64 a1, .int .i64 a2] w fun e w' => e = .returned (.bool true) ∧ Below w.heap.size w w' := by
  obtain ⟨a, rfl, ha⟩ := u64_nat w0
  obtain ⟨b, rfl, hb⟩ := u64_nat w1
  exact walkNat a b a2 ha hb w
theorem laidOut : laidOutB Try.prog = true := by kernel_rfl
set_option maxRecDepth 100000 in
theorem lifted (os : Os) (started : os.Started) (H : Type) (enc : TypeId × Value → H) :
    ReturnsInHanded {} Try.checked os 7 .any (Rows.hashDeeperSpec.pre6 enc Try.prog Try.f7 Rows.hashDeeperRow.domain false) (Rows.hashDeeperSpec.post enc Try.prog Try.f7 false true false false) := by
  refine returnsInHanded_of_change (C := Try.checked) own started (by kernel_rfl) Try.func7
    (ChangeSpec.witness6 (enc := enc) (C := Try.checked) false ⟨#[], #[.int .u64 0, .int .u64 0, .int .i64 0], []⟩ 8 (by kernel_rfl) (by kernel_rfl) (by kernel_rfl) (by kernel_rfl)) ?_
  intro W base args ds gs before hval0 hW hcnd _
  have hval : ∀ (j : Nat) t v, Try.f7.params[j]? = some t → args[j]? = some v → Value.okWide Try.prog W .any base t v := hval0
  have hW' := hW
  obtain ⟨p, q, hA0, hV, rfl, hfz, hnd⟩ := hW
  have hA : DataW.TrodAll enc Try.prog W 0 (fun _ => true) true Try.f7.params.toList args.toList ds p := hA0
  rw [Try.params7] at hA hval
  obtain ⟨v0, vs0, d0, ds0, p0, q0, hargs, rfl, rfl, h0, r0⟩ := trodAll_cons hA
  obtain ⟨v1, vs1, d1, ds1, p1, q1, rfl, rfl, rfl, h1, r1⟩ := trodAll_cons r0
  obtain ⟨v2, vs2, d2, ds2, p2, q2, rfl, rfl, rfl, h2, r2⟩ := trodAll_cons r1
  obtain ⟨rfl, rfl, rfl⟩ := trodAll_nil r2
  obtain rfl : args = #[v0, v1, v2] := by cases args; simp_all
  obtain ⟨rfl, rfl⟩ := trodVars_none hV
  obtain ⟨a0, rfl, rfl, rfl, w0⟩ := open_int Try.underlying22 (hval 0 22 v0 rfl rfl) h0
  obtain ⟨a1, rfl, rfl, rfl, w1⟩ := open_int Try.underlying22 (hval 1 22 v1 rfl rfl) h1
  obtain ⟨a2, rfl, rfl, rfl, w2⟩ := open_int Try.underlying3 (hval 2 3 v2 rfl rfl) h2
  clear hA0 hval0
  refine (walk a0 a1 a2 W w0 w1 w2).mono fun e W' ⟨he, bel⟩ => ?_
  subst he
  exact ⟨_, rfl, _, _, _, [], _, [], hW', trodAll_mk1 (shut_bool Try.underlying4 _), (trodAll_cons_mk (shut_int Try.underlying22 w0) (trodAll_cons_mk (shut_int Try.underlying22 w1) (trodAll_cons_mk (shut_int Try.underlying3 w2) trodAll_mk0))), rfl, bel.frame _, fun h => by cases h⟩

theorem over : Rows.hashDeeperRow.holds Try.pinned (OpenSpec.ofChange Rows.hashDeeperSpec) :=
  OpenClaim.holds_of_wide 7 Try.f7 rfl rfl rfl rfl rfl rfl rfl ⟨rfl, rfl, rfl, rfl, rfl⟩ rfl rfl rfl rfl rfl (by kernel_rfl) Try.func7 (by kernel_rfl)
    (of_decide_eq_true (by kernel_rfl)) (by unfold Func.isWrapper; first | (rw [if_pos (by decide +kernel)]; kernel_rfl) | (rw [if_neg (by decide +kernel)]; exact ⟨rfl, rfl⟩))
    (fun os started H enc _ => lifted os started H enc)

theorem proved : Rows.HashDeeperSaid := over
end Go.Proofs.Ytdpjmabamjgmkaa.hashDeeper
