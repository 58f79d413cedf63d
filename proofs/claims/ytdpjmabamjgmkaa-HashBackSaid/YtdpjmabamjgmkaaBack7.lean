/- Proved: for every seed, and two words, honeycomblaw07.HashBack returns true, and its arguments read as they did; no condition. -/
import Derived.Test.YtdpjmabamjgmkaaHl
import Derived.BigQuiet
import Derived.ChangeAt
import Derived.JoinedAt
import Derived.ProofKit
import Derived.OpenShut
import Derived.Test.YtdpjmabamjgmkaaRows
namespace Go.Proofs.Ytdpjmabamjgmkaa.hashBack
open Go.ChangeShapes Go.WideShapes Go.ChangeAt Go.RowKit Go.Shelf
attribute [local go_sem] Oper.semAt_some

theorem own : ownKnob Try.prog.godebug = none := by kernel_rfl
theorem or_128 (x : Nat) (hx : x < 18446744073709551616) : bits .or .u64 (((x / 128 * 128 : Nat)) : Int) ((x % 128 : Nat) : Int) = (x : Int) := by
  rw [u64_or_nat _ _ (by omega) (by omega)]
  have : x / 128 * 128 ||| x % 128 = x := by
    rw [show x / 128 * 128 = 2 ^ 7 * (x / 128) by omega, ← Nat.two_pow_add_eq_or_of_lt (by omega)]
    omega
  rw [this]
set_option maxRecDepth 100000 in
set_option maxHeartbeats 4000000 in
theorem walkNat (s a b : Nat) (hs : s < 18446744073709551616) (ha : a < 18446744073709551616) (hb : b < 18446744073709551616) (w : World) :
    Calls Try.prog 6 #[.int .u64 (s : Int), .int .u64 (a : Int), .int .u64 (b : Int)] w fun e w' => e = .returned (.bool true) ∧ Below w.heap.size w w' := by
  obtain ⟨x, hx⟩ : ∃ x, x = ofB s a := ⟨_, rfl⟩
  obtain ⟨y, hy⟩ : ∃ y, y = ofB s b := ⟨_, rfl⟩
  have hxl : x < 18446744073709551616 := by rw [hx]; exact ofB_lt _ _
  have cOx := fun W => Try.Of_any s a hs ha W
  have cOy := fun W => Try.Of_any s b hs hb W
  have cK1 := fun W => Try.Key_any s x hs hxl W
  rw [show keyB s x = a by rw [hx]; exact key_of hs ha] at cK1
  have cK2 := fun W => Try.Key_any s a hs ha W
  have cO2 := fun W => Try.Of_any s (keyB s a) hs (keyB_lt hs a) W
  rw [show ofB s (keyB s a) = a from of_key ha] at cO2
  have cO3 := fun W => Try.Of_any 0 (a ^^^ s) (by decide) (xor_lt ha hs) W
  rw [show ofB 0 (a ^^^ s) = x by rw [hx]; unfold ofB; rw [Nat.zero_xor, Nat.xor_comm]] at cO3
  have cH1 := fun W => Try.H1_any x W
  have cH2 := fun W => Try.H2_any x hxl W
  have hxor := xor_walk ha hs rfl
  have hor := or_128 x hxl
  have hxy : ((x : Int) == (y : Int)) = ((a : Int) == (b : Int)) := by
    rw [Bool.eq_iff_iff]
    simp only [beq_iff_eq]
    constructor
    · intro e
      have e2 : x = y := by omega
      rw [hx, hy] at e2
      have := of_inj hs ha hb e2
      omega
    · intro e
      have e2 : a = b := by omega
      rw [hx, hy, e2]
  have hw1 : IntKind.u64.wrap (((x / 128 : Nat) : Int) * 128) = ((x / 128 * 128 : Nat) : Int) := by rw [wrap_u64m]; omega
  have hw2 : IntKind.u64.wrap ((x % 128 : Nat) : Int) = ((x % 128 : Nat) : Int) := by rw [wrap_u64m]; omega
  have hlt : decide (((x % 128 : Nat) : Int) < 128) = true := by simp; omega
  obtain ⟨ab, hab⟩ : ∃ c : Bool, c = ((a : Int) == (b : Int)) := ⟨_, rfl⟩
  rw [← hab] at hxy
  replace hab := hab.symm
  rw [← hx] at cOx
  rw [← hy] at cOy
  clear hx hy
  generalize x / 128 * 128 = x3 at *
  generalize x / 128 = x1 at *
  generalize x % 128 = x2 at *
  generalize a ^^^ s = z at *
  generalize keyB s a = q at *
  have ca := Try.wakes_any w
  go_enter Try.func6, Try.ntmps6
  go_wp2_with fail
  refine ca.mono ?_
  rintro e w1 ⟨rfl, hB1⟩
  have HB1 := Lib.hid hB1
  clear ca hB1
  go_wp2_with fail
  refine (cOx _).mono ?_
  rintro e w2 ⟨rfl, hB2⟩
  have HB2 := Lib.hid (HB1.out.trans (hB2.mono HB1.out.size))
  clear cOx hB2
  go_wp2_with fail
  refine (cOy _).mono ?_
  rintro e w3 ⟨rfl, hB3⟩
  have HB3 := Lib.hid (HB2.out.trans (hB3.mono HB2.out.size))
  clear cOy hB3
  go_wp2_with fail
  refine (cK1 _).mono ?_
  rintro e w4 ⟨rfl, hB4⟩
  have HB4 := Lib.hid (HB3.out.trans (hB4.mono HB3.out.size))
  clear cK1 hB4
  have hna : ((a : Int) != (a : Int)) = false := by simp
  go_wp2_with fail
  refine (cK2 _).mono ?_
  rintro e w5 ⟨rfl, hB5⟩
  have HB5 := Lib.hid (HB4.out.trans (hB5.mono HB4.out.size))
  clear cK2 hB5
  go_wp2_with fail
  refine (cO2 _).mono ?_
  rintro e w6 ⟨rfl, hB6⟩
  have HB6 := Lib.hid (HB5.out.trans (hB6.mono HB5.out.size))
  clear cO2 hB6
  have hnb : (ab != ab) = false := by simp
  go_wp2_with fail
  refine (cH1 _).mono ?_
  rintro e w7 ⟨rfl, rfl⟩
  go_wp2_with fail
  refine (cH2 _).mono ?_
  rintro e w7 ⟨rfl, rfl⟩
  go_wp2_with fail
  refine (cH2 _).mono ?_
  rintro e w7 ⟨rfl, rfl⟩
  go_wp2_with fail
  refine (cO3 _).mono ?_
  rintro e w8 ⟨rfl, hB7⟩
  have HB7 := Lib.hid (HB6.out.trans (hB7.mono HB6.out.size))
  clear cO3 hB7
  go_wp2_with fail
  go_ret
  exact ⟨rfl, HB7.out⟩
theorem u64_nat {z : Int} (h : (Lit.int .u64 z).wf = true) : ∃ n : Nat, z = (n : Int) ∧ n < 18446744073709551616 := by
  have : 0 ≤ z ∧ z ≤ 18446744073709551615 := by simpa [Lit.wf, IntKind.min, IntKind.max, IntKind.bits, IntKind.signed] using h
  exact ⟨z.toNat, by omega, by omega⟩
theorem walk (a0 a1 a2 : Int) (w : World) (w0 : (Lit.int .u64 a0).wf = true) (w1 : (Lit.int .u64 a1).wf = true) (w2 : (Lit.int .u64 a2).wf = true) :
    Calls Try.prog 6 #[.int .u64 a0, .int .u64 a1, .int .u64 a2] w fun e w' => e = .returned (.bool true) ∧ Below w.heap.size w w' := by
  obtain ⟨s, rfl, hs⟩ := u64_nat w0
  obtain ⟨a, rfl, ha⟩ := u64_nat w1
  obtain ⟨b, rfl, hb⟩ := u64_nat w2
  exact walkNat s a b hs ha hb w
theorem laidOut : laidOutB Try.prog = true := by kernel_rfl
set_option maxRecDepth 100000 in
theorem lifted (os : Os) (started : os.Started) (H : Type) (enc : TypeId × Value → H) :
    ReturnsInHanded {} Try.checked os 6 .any (Rows.hashBackSpec.pre6 enc Try.prog Try.f6 Rows.hashBackRow.domain false) (Rows.hashBackSpec.post enc Try.prog Try.f6 false true false false) := by
  refine returnsInHanded_of_change (C := Try.checked) own started (by kernel_rfl) Try.func6
    (ChangeSpec.witness6 (enc := enc) (C := Try.checked) false ⟨#[], #[.int .u64 0, .int .u64 0, .int .u64 0], []⟩ 8 (by kernel_rfl) (by kernel_rfl) (by kernel_rfl) (by kernel_rfl)) ?_
  intro W base args ds gs before hval0 hW hcnd _
  have hval : ∀ (j : Nat) t v, Try.f6.params[j]? = some t → args[j]? = some v → Value.okWide Try.prog W .any base t v := hval0
  have hW' := hW
  obtain ⟨p, q, hA0, hV, rfl, hfz, hnd⟩ := hW
  have hA : DataW.TrodAll enc Try.prog W 0 (fun _ => true) true Try.f6.params.toList args.toList ds p := hA0
  rw [Try.params6] at hA hval
  obtain ⟨v0, vs0, d0, ds0, p0, q0, hargs, rfl, rfl, h0, r0⟩ := trodAll_cons hA
  obtain ⟨v1, vs1, d1, ds1, p1, q1, rfl, rfl, rfl, h1, r1⟩ := trodAll_cons r0
  obtain ⟨v2, vs2, d2, ds2, p2, q2, rfl, rfl, rfl, h2, r2⟩ := trodAll_cons r1
  obtain ⟨rfl, rfl, rfl⟩ := trodAll_nil r2
  obtain rfl : args = #[v0, v1, v2] := by cases args; simp_all
  obtain ⟨rfl, rfl⟩ := trodVars_none hV
  obtain ⟨a0, rfl, rfl, rfl, w0⟩ := open_int Try.underlying22 (hval 0 22 v0 rfl rfl) h0
  obtain ⟨a1, rfl, rfl, rfl, w1⟩ := open_int Try.underlying22 (hval 1 22 v1 rfl rfl) h1
  obtain ⟨a2, rfl, rfl, rfl, w2⟩ := open_int Try.underlying22 (hval 2 22 v2 rfl rfl) h2
  clear hA0 hval0
  refine (walk a0 a1 a2 W w0 w1 w2).mono fun e W' ⟨he, bel⟩ => ?_
  subst he
  exact ⟨_, rfl, _, _, _, [], _, [], hW', trodAll_mk1 (shut_bool Try.underlying4 _), (trodAll_cons_mk (shut_int Try.underlying22 w0) (trodAll_cons_mk (shut_int Try.underlying22 w1) (trodAll_cons_mk (shut_int Try.underlying22 w2) trodAll_mk0))), rfl, bel.frame _, fun h => by cases h⟩

theorem over : Rows.hashBackRow.holds Try.pinned (OpenSpec.ofChange Rows.hashBackSpec) :=
  OpenClaim.holds_of_wide 6 Try.f6 rfl rfl rfl rfl rfl rfl rfl ⟨rfl, rfl, rfl, rfl, rfl⟩ rfl rfl rfl rfl rfl (by kernel_rfl) Try.func6 (by kernel_rfl)
    (of_decide_eq_true (by kernel_rfl)) (by unfold Func.isWrapper; first | (rw [if_pos (by decide +kernel)]; kernel_rfl) | (rw [if_neg (by decide +kernel)]; exact ⟨rfl, rfl⟩))
    (fun os started H enc _ => lifted os started H enc)

theorem proved : Rows.HashBackSaid := over
end Go.Proofs.Ytdpjmabamjgmkaa.hashBack
