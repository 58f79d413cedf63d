/- Proved: for every seed, and row of words, honeycomblaw07.HashOf returns true, and its arguments read as they did; no condition. -/
import Derived.Test.YtdpjmabamjgmkaaHs
import Derived.BigQuiet
import Derived.ChangeAt
import Derived.JoinedAt
import Derived.ProofKit
import Derived.OpenShut
import Derived.Test.YtdpjmabamjgmkaaRows
namespace Go.Proofs.Ytdpjmabamjgmkaa.hashOf
open Go.ChangeShapes Go.WideShapes Go.ChangeAt Go.RowKit Go.Shelf
attribute [local go_sem] Oper.semAt_some

theorem own : ownKnob Try.prog.godebug = none := by kernel_rfl
set_option maxRecDepth 100000 in
set_option maxHeartbeats 4000000 in
theorem walk (a0 : Int) (ax : Option Addr) (nx cx : Nat) (xs : List Int) (w : World) (w0 : (Lit.int .u64 a0).wf = true) (hnx : nx = xs.length) (hX : WordsK w (.slice ax nx cx) xs) :
    Calls Try.prog 3 #[.int .u64 a0, .slice ax nx cx] w fun e w' => e = .returned (.bool true) ∧ Below w.heap.size w w' := by
  obtain ⟨s, rfl, hs⟩ := u64_nat w0
  have ca := Try.wakes_any w
  have HX := Lib.hid hX.1
  have HK := Lib.hid hX.2
  have HN := Lib.hid hnx
  clear hX hnx w0
  go_enter Try.func3, Try.ntmps3
  go_wp2_with fail
  refine ca.mono ?_
  rintro e w1 ⟨rfl, hB1⟩
  go_wp2_with fail
  go_loopw [11] (fun j wr => ∃ k : Nat, k ≤ nx ∧ k ≤ 8 ∧ j = .int .i64 (k : Int) ∧ Below w.heap.size w wr) (fun j _ => nx - (intOf j).toNat)
  case atStart => exact ⟨0, Nat.zero_le _, Nat.zero_le _, rfl, hB1⟩
  case round =>
    obtain ⟨k, hk, hk8, rfl, hB⟩ := hrel
    by_cases hlt : k < nx
    · have hki : (k : Int) < (nx : Int) := by omega
      have hkl : k < xs.length := by rw [← HN.out]; exact hlt
      obtain ⟨b, off, rfl, hb, hc⟩ := wordsAt_get (RowAt.below HX.out hB) k hkl
      have hrg := HK.out (xs[k]?.getD 0) (by simp [hkl])
      generalize xs[k]?.getD 0 = z at *
      obtain ⟨x, rfl, hx⟩ : ∃ x : Nat, z = (x : Int) ∧ x < 18446744073709551616 := ⟨z.toNat, by omega, by omega⟩
      by_cases he : k = 8
      · subst he
        have h8 : ((8 : Nat) : Int) = 8 := rfl
        go_wp2_with fail
        go_ret
        exact ⟨rfl, hB⟩
      · have h8 : ((k : Int) == 8) = false := by simp; omega
        have c1 := fun W => Try.Of_any s x hs hx W
        have c2 := fun W => Try.refOf_any s x hs hx W
        have c3 := fun W => Try.Key_any s x hs hx W
        have c4 := fun W => Try.refKey_any s x hs hx W
        have c5 := fun W => Try.H1_any x W
        have c6 := fun W => Try.refH1_any x hx W
        have c7 := fun W => Try.H2_any x hx W
        have c8 := fun W => Try.refH2_any x hx W
        generalize ofB s x = q1 at *
        generalize keyB s x = q2 at *
        generalize x / 128 = q3 at *
        generalize x % 128 = q4 at *
        have e1 : ((q1 : Int) != (q1 : Int)) = false := by simp
        have e2 : ((q2 : Int) != (q2 : Int)) = false := by simp
        have e3 : ((q3 : Int) != (q3 : Int)) = false := by simp
        have e4 : ((q4 : Int) != (q4 : Int)) = false := by simp
        have HB := Lib.hid hB
        clear hB
        go_wp2_with fail
        refine (c1 _).mono ?_
        rintro e w2 ⟨rfl, hB2⟩
        have HB2 := Lib.hid (HB.out.trans (hB2.mono HB.out.size))
        clear hB2 c1
        go_wp2_with fail
        refine (c2 _).mono ?_
        rintro e w3 ⟨rfl, rfl⟩
        go_wp2_with fail
        refine (c3 _).mono ?_
        rintro e w3 ⟨rfl, hB3⟩
        have HB3 := Lib.hid (HB2.out.trans (hB3.mono HB2.out.size))
        clear hB3 c3
        go_wp2_with fail
        refine (c4 _).mono ?_
        rintro e w4 ⟨rfl, rfl⟩
        go_wp2_with fail
        refine (c5 _).mono ?_
        rintro e w4 ⟨rfl, rfl⟩
        go_wp2_with fail
        refine (c6 _).mono ?_
        rintro e w4 ⟨rfl, rfl⟩
        go_wp2_with fail
        refine (c7 _).mono ?_
        rintro e w4 ⟨rfl, rfl⟩
        go_wp2_with fail
        refine (c8 _).mono ?_
        rintro e w4 ⟨rfl, rfl⟩
        go_wp2_with fail
        exact ⟨⟨k + 1, by omega, by omega, by go_num, HB3.out⟩, by simp [intOf]; omega⟩
    · obtain rfl : k = nx := by omega
      go_wp2_with fail
      go_ret
      exact ⟨rfl, hB⟩
theorem laidOut : laidOutB Try.prog = true := by kernel_rfl
set_option maxRecDepth 100000 in
theorem lifted (os : Os) (started : os.Started) (H : Type) (enc : TypeId × Value → H) :
    ReturnsInHanded {} Try.checked os 3 .any (Rows.hashOfSpec.pre6 enc Try.prog Try.f3 Rows.hashOfRow.domain false) (Rows.hashOfSpec.post enc Try.prog Try.f3 false true false false) := by
  refine returnsInHanded_of_change (C := Try.checked) own started (by kernel_rfl) Try.func3
    (ChangeSpec.witness6 (enc := enc) (C := Try.checked) false ⟨#[], #[.int .u64 0, .slice none 0 0], []⟩ 8 (by kernel_rfl) (by kernel_rfl) (by kernel_rfl) (by kernel_rfl)) ?_
  intro W base args ds gs before hval0 hW hcnd _
  have hval : ∀ (j : Nat) t v, Try.f3.params[j]? = some t → args[j]? = some v → Value.okWide Try.prog W .any base t v := hval0
  have hW' := hW
  obtain ⟨p, q, hA0, hV, rfl, hfz, hnd⟩ := hW
  have hA : DataW.TrodAll enc Try.prog W 0 (fun _ => true) true Try.f3.params.toList args.toList ds p := hA0
  rw [Try.params3] at hA hval
  obtain ⟨v0, vs0, d0, ds0, p0, q0, hargs, rfl, rfl, h0, r0⟩ := trodAll_cons hA
  obtain ⟨v1, vs1, d1, ds1, p1, q1, rfl, rfl, rfl, h1, r1⟩ := trodAll_cons r0
  obtain ⟨rfl, rfl, rfl⟩ := trodAll_nil r1
  obtain rfl : args = #[v0, v1] := by cases args; simp_all
  obtain ⟨rfl, rfl⟩ := trodVars_none hV
  obtain ⟨a0, rfl, rfl, rfl, w0⟩ := open_int Try.underlying22 (hval 0 22 v0 rfl rfl) h0
  obtain ⟨a1, len1, cap1, rfl⟩ := okWide_slice Try.underlying23 (hval 1 23 v1 rfl rfl)
  have k1 := h1
  have lt1 : ∀ x ∈ p1, x.block < W.heap.size := by obtain ⟨m, hm⟩ := k1; exact DataW.trod_lt m _ _ _ hm
  obtain ⟨z1, n1, w1⟩ : ∃ zs, len1 = zs.length ∧ WordsK W (.slice a1 len1 cap1) zs := by
    obtain ⟨fuel, hf⟩ := h1
    exact open_wordsK hf
  clear hA0 hval0
  refine (walk a0 a1 len1 cap1 z1 W w0 n1 w1).mono fun e W' ⟨he, bel⟩ => ?_
  subst he
  exact ⟨_, rfl, _, _, _, [], _, [], hW', trodAll_mk1 (shut_bool Try.underlying4 _), (trodAll_cons_mk (shut_int Try.underlying22 w0) (trodAll_cons_mk (Below.trod laidOut (by kernel_rfl) (of_decide_eq_true (by kernel_rfl)) k1 bel lt1) trodAll_mk0)), rfl, bel.frame _, fun h => by cases h⟩

theorem over : Rows.hashOfRow.holds Try.pinned (OpenSpec.ofChange Rows.hashOfSpec) :=
  OpenClaim.holds_of_wide 3 Try.f3 rfl rfl rfl rfl rfl rfl rfl ⟨rfl, rfl, rfl, rfl, rfl⟩ rfl rfl rfl rfl rfl (by kernel_rfl) Try.func3 (by kernel_rfl)
    (of_decide_eq_true (by kernel_rfl)) (by unfold Func.isWrapper; first | (rw [if_pos (by decide +kernel)]; kernel_rfl) | (rw [if_neg (by decide +kernel)]; exact ⟨rfl, rfl⟩))
    (fun os started H enc _ => lifted os started H enc)

theorem proved : Rows.HashOfSaid := over
end Go.Proofs.Ytdpjmabamjgmkaa.hashOf
