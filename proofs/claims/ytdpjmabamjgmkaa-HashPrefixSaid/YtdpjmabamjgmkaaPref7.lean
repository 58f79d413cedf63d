/- Proved: for every two words, and row of numbers, honeycomblaw07.HashPrefix returns true, and its arguments read as they did; no condition. -/
import Derived.Test.YtdpjmabamjgmkaaHt
import Derived.BigQuiet
import Derived.ChangeAt
import Derived.JoinedAt
import Derived.ProofKit
import Derived.OpenShut
import Derived.Test.YtdpjmabamjgmkaaRows
namespace Go.Proofs.Ytdpjmabamjgmkaa.hashPrefix
open Go.ChangeShapes Go.WideShapes Go.ChangeAt Go.RowKit Go.Shelf
attribute [local go_sem] Oper.semAt_some

theorem own : ownKnob Try.prog.godebug = none := by kernel_rfl
set_option maxRecDepth 100000 in
set_option maxHeartbeats 4000000 in
theorem walk (a0 a1 : Int) (ax : Option Addr) (nx cx : Nat) (xs : List Int) (w : World) (w0 : (Lit.int .u64 a0).wf = true) (w1 : (Lit.int .u64 a1).wf = true) (hnx : nx = xs.length) (hX : IntsAt w (.slice ax nx cx) xs) :
    Calls Try.prog 4 #[.int .u64 a0, .int .u64 a1, .slice ax nx cx] w fun e w' => e = .returned (.bool true) ∧ Below w.heap.size w w' := by
  obtain ⟨a, rfl, ha⟩ := u64_nat w0
  obtain ⟨b, rfl, hb⟩ := u64_nat w1
  have ca := Try.wakes_any w
  have cA := fun W => Try.Parts_any a b ha hb W
  have cB := fun W => Try.refParts_any a b ha hb W
  have HX := Lib.hid hX
  have HN := Lib.hid hnx
  have hpp : ((partsB a b : Int) == (partsB a b : Int)) = true := by simp
  clear hX hnx w0 w1
  generalize partsB a b = pt at *
  go_enter Try.func4, Try.ntmps4
  go_wp2_with fail
  refine ca.mono ?_
  rintro e w1 ⟨rfl, hB1⟩
  go_wp2_with fail
  go_loopw [17] (fun j wr => ∃ k : Nat, k ≤ nx ∧ k ≤ 10 ∧ j = .int .i64 (k : Int) ∧ Hid (Below w.heap.size w wr)) (fun j _ => nx - (intOf j).toNat)
  case atStart => exact ⟨0, Nat.zero_le _, Nat.zero_le _, rfl, Lib.hid hB1⟩
  case round =>
    obtain ⟨k, hk, hk8, rfl, HB⟩ := hrel
    by_cases hlt : k < nx
    · have hki : (k : Int) < (nx : Int) := by omega
      have hkl : k < xs.length := by rw [← HN.out]; exact hlt
      obtain ⟨b', off, rfl, hb', hc⟩ := intsAt_get (RowAt.below HX.out HB.out) k hkl
      generalize xs[k]?.getD 0 = z at *
      by_cases he : k = 10
      · subst he
        have h8 : ((10 : Nat) : Int) = 10 := rfl
        go_wp2_with fail
        refine (cA _).mono ?_
        rintro e w2 ⟨rfl, rfl⟩
        go_wp2_with fail
        refine (cB _).mono ?_
        rintro e w2 ⟨rfl, rfl⟩
        go_wp2_with fail
        go_ret
        exact ⟨rfl, HB.out⟩
      · have h8 : ((k : Int) == 10) = false := by simp; omega
        have c1 := fun W => Try.Prefix_any a z W
        have c2 := fun W => Try.May_any z W
        cases hm : noBitsB z with
        | true =>
          have e1 : prefE a z = (0, 2) := by unfold prefE; rw [if_pos hm]
          rw [e1] at c1
          rw [hm] at c2
          dsimp only at c1
          have c1' : ∀ W : World, Calls Try.prog 18 #[.int .u64 (a : Int), .int .i64 z] W fun e w' => e = .returned (.tuple #[.int .u64 0, .int .i64 2]) ∧ W = w' := c1
          clear c1 hm e1
          go_wp2_with fail
          refine (c1' _).mono ?_
          rintro e w2 ⟨rfl, rfl⟩
          go_wp2_with fail
          refine (c2 _).mono ?_
          rintro e w2 ⟨rfl, rfl⟩
          go_wp2_with fail
          exact ⟨⟨k + 1, by omega, by omega, by go_num, HB⟩, by simp [intOf]; omega⟩
        | false =>
          have hz : 0 ≤ z ∧ z ≤ 64 := by simp [noBitsB] at hm; omega
          obtain ⟨n, rfl⟩ : ∃ n : Nat, z = (n : Int) := ⟨z.toNat, by omega⟩
          have e1 : prefE a (n : Int) = (prefixB a n, 0) := by unfold prefE; rw [if_neg (by rw [hm]; decide), Int.toNat_natCast]
          have c3 := fun W => Try.refPrefix_any a n ha (by omega) W
          rw [e1] at c1
          rw [hm] at c2
          dsimp only at c1
          clear hm e1 hz
          generalize prefixB a n = q at *
          have e2 : ((q : Int) != (q : Int)) = false := by simp
          go_wp2_with fail
          refine (c1 _).mono ?_
          rintro e w2 ⟨rfl, rfl⟩
          go_wp2_with fail
          refine (c2 _).mono ?_
          rintro e w2 ⟨rfl, rfl⟩
          go_wp2_with fail
          refine (c3 _).mono ?_
          rintro e w2 ⟨rfl, rfl⟩
          go_wp2_with fail
          exact ⟨⟨k + 1, by omega, by omega, by go_num, HB⟩, by simp [intOf]; omega⟩
    · obtain rfl : k = nx := by omega
      go_wp2_with fail
      refine (cA _).mono ?_
      rintro e w2 ⟨rfl, rfl⟩
      go_wp2_with fail
      refine (cB _).mono ?_
      rintro e w2 ⟨rfl, rfl⟩
      go_wp2_with fail
      go_ret
      exact ⟨rfl, HB.out⟩
theorem laidOut : laidOutB Try.prog = true := by kernel_rfl
set_option maxRecDepth 100000 in
theorem lifted (os : Os) (started : os.Started) (H : Type) (enc : TypeId × Value → H) :
    ReturnsInHanded {} Try.checked os 4 .any (Rows.hashPrefixSpec.pre6 enc Try.prog Try.f4 Rows.hashPrefixRow.domain false) (Rows.hashPrefixSpec.post enc Try.prog Try.f4 false true false false) := by
  refine returnsInHanded_of_change (C := Try.checked) own started (by kernel_rfl) Try.func4
    (ChangeSpec.witness6 (enc := enc) (C := Try.checked) false ⟨#[], #[.int .u64 0, .int .u64 0, .slice none 0 0], []⟩ 8 (by kernel_rfl) (by kernel_rfl) (by kernel_rfl) (by kernel_rfl)) ?_
  intro W base args ds gs before hval0 hW hcnd _
  have hval : ∀ (j : Nat) t v, Try.f4.params[j]? = some t → args[j]? = some v → Value.okWide Try.prog W .any base t v := hval0
  have hW' := hW
  obtain ⟨p, q, hA0, hV, rfl, hfz, hnd⟩ := hW
  have hA : DataW.TrodAll enc Try.prog W 0 (fun _ => true) true Try.f4.params.toList args.toList ds p := hA0
  rw [Try.params4] at hA hval
  obtain ⟨v0, vs0, d0, ds0, p0, q0, hargs, rfl, rfl, h0, r0⟩ := trodAll_cons hA
  obtain ⟨v1, vs1, d1, ds1, p1, q1, rfl, rfl, rfl, h1, r1⟩ := trodAll_cons r0
  obtain ⟨v2, vs2, d2, ds2, p2, q2, rfl, rfl, rfl, h2, r2⟩ := trodAll_cons r1
  obtain ⟨rfl, rfl, rfl⟩ := trodAll_nil r2
  obtain rfl : args = #[v0, v1, v2] := by cases args; simp_all
  obtain ⟨rfl, rfl⟩ := trodVars_none hV
  obtain ⟨a0, rfl, rfl, rfl, w0⟩ := open_int Try.underlying22 (hval 0 22 v0 rfl rfl) h0
  obtain ⟨a1, rfl, rfl, rfl, w1⟩ := open_int Try.underlying22 (hval 1 22 v1 rfl rfl) h1
  obtain ⟨a2, len2, cap2, rfl⟩ := okWide_slice Try.underlying29 (hval 2 29 v2 rfl rfl)
  have k2 := h2
  have lt2 : ∀ x ∈ p2, x.block < W.heap.size := by obtain ⟨m, hm⟩ := k2; exact DataW.trod_lt m _ _ _ hm
  obtain ⟨z2, n2, w2⟩ : ∃ zs, len2 = zs.length ∧ IntsAt W (.slice a2 len2 cap2) zs := by
    obtain ⟨fuel, hf⟩ := h2
    exact open_intRow hf
  clear hA0 hval0
  refine (walk a0 a1 a2 len2 cap2 z2 W w0 w1 n2 w2).mono fun e W' ⟨he, bel⟩ => ?_
  subst he
  exact ⟨_, rfl, _, _, _, [], _, [], hW', trodAll_mk1 (shut_bool Try.underlying4 _), (trodAll_cons_mk (shut_int Try.underlying22 w0) (trodAll_cons_mk (shut_int Try.underlying22 w1) (trodAll_cons_mk (Below.trod laidOut (by kernel_rfl) (of_decide_eq_true (by kernel_rfl)) k2 bel lt2) trodAll_mk0))), rfl, bel.frame _, fun h => by cases h⟩

theorem over : Rows.hashPrefixRow.holds Try.pinned (OpenSpec.ofChange Rows.hashPrefixSpec) :=
  OpenClaim.holds_of_wide 4 Try.f4 rfl rfl rfl rfl rfl rfl rfl ⟨rfl, rfl, rfl, rfl, rfl⟩ rfl rfl rfl rfl rfl (by kernel_rfl) Try.func4 (by kernel_rfl)
    (of_decide_eq_true (by kernel_rfl)) (by unfold Func.isWrapper; first | (rw [if_pos (by decide +kernel)]; kernel_rfl) | (rw [if_neg (by decide +kernel)]; exact ⟨rfl, rfl⟩))
    (fun os started H enc _ => lifted os started H enc)

theorem proved : Rows.HashPrefixSaid := over
end Go.Proofs.Ytdpjmabamjgmkaa.hashPrefix
