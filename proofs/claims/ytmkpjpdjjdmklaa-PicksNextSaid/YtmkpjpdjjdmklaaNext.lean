/- Proved: for every number of goroutines, row of turns and row of who can, honeycomblaw04.PicksNext returns true, and its arguments read as they did; no condition. -/
import Derived.Test.YtmkpjpdjjdmklaaKw
import Derived.BigQuiet
import Derived.ChangeAt
import Derived.JoinedAt
import Derived.ProofKit
import Derived.OpenShut
import Derived.Test.YtmkpjpdjjdmklaaRows
namespace Go.Proofs.Ytmkpjpdjjdmklaa.picksNext
open Go.ChangeShapes Go.WideShapes Go.ChangeAt Go.RowKit Go.Shelf
attribute [local go_sem] Oper.semAt_some

theorem own : ownKnob Try.prog.godebug = none := by kernel_rfl
theorem form {n₀ : Nat} {ts : List Tn} {v : Value} {W : World} (h : OwnsT n₀ ts v W) : ∃ a c, v = .slice a ts.length c := by
  obtain ⟨_, ⟨_, a, c, e, _⟩, _⟩ := h.at
  exact ⟨a, c, e⟩

set_option maxRecDepth 100000 in
set_option maxHeartbeats 2000000 in
theorem walk (N : Int) (at_ : Option Addr) (nt ct : Nat) (zs : List Tn) (ax : Option Addr) (nx cx : Nat) (xs : List Int) (W : World) (_ : (Lit.int .i64 N).wf = true) (hnt : nt = zs.length) (hT : TurnsAt W (.slice at_ nt ct) zs) (hnx : nx = xs.length) (hX : IntsAt W (.slice ax nx cx) xs) :
    Calls Try.prog 5 #[.int .i64 N, .slice at_ nt ct, .slice ax nx cx] W fun e w' => e = .returned (.bool true) ∧ Below W.heap.size W w' := by
  have hxc : nx ≤ cx := by
    obtain ⟨_, _, _, e', h1', _, _⟩ := hX
    cases e'
    omega
  have hcl : (xs.take 10).length ≤ 10 ∧ (xs.take 10).length ≤ nx := by rw [List.length_take]; omega
  have hcut := ints_cut hnx hX (xs.take 10).length hcl.2
  rw [show xs.take (xs.take 10).length = xs.take 10 by
    rw [List.length_take]
    by_cases h : 10 ≤ xs.length
    · rw [Nat.min_eq_left h]
    · rw [Nat.min_eq_right (by omega), List.take_length, List.take_of_length_le (by omega)]] at hcut
  have hk : (nx ≤ 10 ∧ nx = (xs.take 10).length) ∨ (10 < nx ∧ 10 = (xs.take 10).length) := by
    rw [List.length_take]; omega
  have HCUT := Lib.hid hcut
  have HFEW := Lib.hid (fun w h => Try.few_any at_ nt ct zs w (hT.below h))
  have HFB := Lib.hid (fewB_can zs)
  have hfl := fewB_length zs
  have hcl10 : (xs.take 10).length ≤ 10 := hcl.1
  have hclx : (xs.take 10).length ≤ cx := by omega
  clear hX hnx hcut hT hnt hcl
  generalize xs.take 10 = cs at *
  generalize fewB zs = ts at *
  have HCL := Lib.hid (fun (b : Option Addr) (k c : Nat) (h1 : k = cs.length) (h2 : k ≤ 100) W h3 => Try.cloneInts_any b k c cs h1 h2 W h3)
  have HNX := Lib.hid (fun a c a2 c2 W h1 h2 => Try.Next_any N a ts.length c ts (by omega) a2 cs.length c2 cs rfl W h1 h2)
  have HRI := Lib.hid (fun a c W h1 => Try.Right_any N a ts.length c ts W h1)
  have HCA := Lib.hid (fun a c W h => Try.refCan_any N a cs.length c cs rfl W h)
  have HRN := Lib.hid (fun a c a2 c2 h0 W h1 h2 => Try.refNext_any a ts.length c ts a2 cs.length c2 cs rfl h0 W h1 h2)
  have HSA := Lib.hid (fun a1 a2 c1 c2 W h1 h2 => Try.sameSelf_any ts (by omega) HFB.out a1 a2 c1 c2 W h1 h2)
  have HEQ := Lib.hid (fun a1 a2 c1 c2 W h1 h2 => Try.equalSame_any a1 a2 cs.length c1 c2 cs rfl (by omega) W h1 h2)
  have HXC := Lib.hid hxc
  clear hxc
  go_enter Try.func5, Try.ntmps5
  go_wp2_with fail
  refine (Try.wakes_any _).mono ?_
  rintro e w1 ⟨rfl, B1⟩
  go_wp2_with fail
  rcases hk with ⟨hk1, hk2⟩ | ⟨hk1, hk2⟩
  all_goals first
    | (have f1 : (nx : Int) ≤ 10 := by omega
       have f2 : ¬ (10 : Int) < (nx : Int) := by omega
       have f3 : ¬ (cx : Int) < (nx : Int) := by have := HXC.out; omega
       have f4 : (nx : Int) ≤ (cx : Int) := by have := HXC.out; omega
       have hI := HCUT.out
       rw [← hk2] at hI
       have HC := Lib.hid (fun w3 h3 => HCL.out ax nx cx hk2 (by omega) w3 (RowAt.below hI h3))
       clear hI hk2 hk1
       have f7 : min (nx : Int) 10 = (nx : Int) := by omega
       have f8 : (if (10 : Int) < (nx : Int) then (10 : Int) else (nx : Int)) = (nx : Int) := by rw [if_neg (by omega)]
       have f9 : (if (nx : Int) < 10 then (nx : Int) else (10 : Int)) = (nx : Int) := by split <;> omega)
    | (have f1 : ¬ (nx : Int) ≤ 10 := by omega
       have f2 : ¬ (nx : Int) < 10 := by omega
       have f3 : (10 : Int) < (nx : Int) := by omega
       have f4 : (10 : Nat) ≤ cx := by have := HXC.out; omega
       have f5 : ¬ (cx : Int) < 10 := by omega
       have f6 : (10 : Int) ≤ (cx : Int) := by omega
       have hI := HCUT.out
       rw [← hk2] at hI
       have HC := Lib.hid (fun w3 h3 => HCL.out ax 10 cx hk2 (by omega) w3 (RowAt.below hI h3))
       clear hI hk2 hk1)
  all_goals
    have B1d := B1.drew
    go_region_held3 (fun _ => True) (trivial) (first
      | (go_at_call 17; refine (HFEW.out _ B1d).mono ?_; rintro e w2 ⟨v1, rfl, o1, hB2⟩; have B2 := B1d.trans (hB2.mono B1d.size); obtain ⟨a1, c1, rfl⟩ := form o1)
      | (go_at_call 10; refine (HC.out _ B2).mono ?_; rintro e w3 ⟨v2, rfl, o2, hB3⟩; have B3 := B2.trans (hB3.mono B2.size); obtain ⟨_, a2, c2, rfl, _⟩ := rowAt_own o2))
    all_goals
      have HT3 := Lib.hid (OwnsT.at (o1.keep hB3 (Nat.le_refl _)))
      have HI3 := Lib.hid (show IntsAt w3 (.slice a2 cs.length c2) cs from rowAt_own o2)
      have HB3 := Lib.hid B3
      (try clear f7 f8 f9)
      clear o1 o2 hB2 hB3 B1d B1 B2 B3 HC
      go_wp2_with fail
      refine (HNX.out a1 c1 a2 c2 w3 HT3.out HI3.out).mono ?_
      rintro e w4 ⟨rfl, hB4⟩
      have HT4 := Lib.hid (HT3.out.below hB4)
      have HI4 := Lib.hid (RowAt.below HI3.out hB4)
      have HB4 := Lib.hid (HB3.out.trans (hB4.mono HB3.out.size))
      clear hB4 HT3 HI3 HB3
      have hri := HRI.out a1 c1 w4 HT4.out
      have hcxi : ¬ (cx : Int) < (cs.length : Int) := by omega
      have hcxj : (cs.length : Int) ≤ (cx : Int) := by omega
      cases hr : rightB N ts with
      | false =>
        rw [show nextR N ts cs = (0, 140) by unfold nextR; rw [if_neg (by rw [hr]; decide)]]
        rw [hr] at hri
        have HR := Lib.hid hri
        clear hr hri
        go_wp2_with fail
        refine HR.out.mono ?_
        rintro e w5 ⟨rfl, hB5⟩
        have HT5 := Lib.hid (HT4.out.below hB5)
        have HI5 := Lib.hid (RowAt.below HI4.out hB5)
        have HB5 := Lib.hid (HB4.out.trans (hB5.mono HB4.out.size))
        clear hB5 HT4 HI4 HB4 HR
        go_wp2_with fail
        refine (HFEW.out w5 HB5.out).mono ?_
        rintro e w6 ⟨v6, rfl, o6, hB6⟩
        obtain ⟨a6, c6, rfl⟩ := form o6
        have HT6 := Lib.hid (HT5.out.below hB6)
        have HO6 := Lib.hid (OwnsT.at o6)
        have HI6 := Lib.hid (RowAt.below HI5.out hB6)
        have HB6 := Lib.hid (HB5.out.trans (hB6.mono HB5.out.size))
        clear hB6 HT5 HI5 HB5 o6
        go_wp2_with fail
        refine (HSA.out a1 a6 c1 c6 w6 HT6.out HO6.out).mono ?_
        rintro e w7 ⟨rfl, hB7⟩
        have HI7 := Lib.hid (RowAt.below HI6.out hB7)
        have HB7 := Lib.hid (HB6.out.trans (hB7.mono HB6.out.size))
        clear hB7 HT6 HI6 HB6 HO6
        go_wp2_with fail
        refine (HEQ.out a2 ax c2 cx w7 HI7.out (RowAt.below HCUT.out HB7.out)).mono ?_
        rintro e w8 ⟨rfl, hB8⟩
        have HB8 := Lib.hid (HB7.out.trans (hB8.mono HB7.out.size))
        clear hB8
        go_wp2_with fail
        go_ret
        exact ⟨rfl, HB8.out⟩
      | true =>
        rw [hr] at hri
        have HR := Lib.hid hri
        clear hri
        cases hc : canB N cs with
        | false =>
          rw [show nextR N ts cs = (0, 2) by unfold nextR; rw [if_pos hr, if_neg (by rw [hc]; decide)]]
          clear hr
          go_wp2_with fail
          refine HR.out.mono ?_
          rintro e w5 ⟨rfl, hB5⟩
          have HT5 := Lib.hid (HT4.out.below hB5)
          have HI5 := Lib.hid (RowAt.below HI4.out hB5)
          have HB5 := Lib.hid (HB4.out.trans (hB5.mono HB4.out.size))
          have hca := HCA.out a2 c2 w5 HI5.out
          rw [hc] at hca
          have HCAN := Lib.hid hca
          clear hB5 HT4 HI4 HB4 HR hc hca
          go_wp2_with fail
          refine HCAN.out.mono ?_
          rintro e w' ⟨rfl, rfl⟩
          clear HCAN
          go_wp2_with fail
          refine (HFEW.out w5 HB5.out).mono ?_
          rintro e w6 ⟨v6, rfl, o6, hB6⟩
          obtain ⟨a6, c6, rfl⟩ := form o6
          have HT6 := Lib.hid (HT5.out.below hB6)
          have HO6 := Lib.hid (OwnsT.at o6)
          have HI6 := Lib.hid (RowAt.below HI5.out hB6)
          have HB6 := Lib.hid (HB5.out.trans (hB6.mono HB5.out.size))
          clear hB6 HT5 HI5 HB5 o6
          go_wp2_with fail
          refine (HSA.out a1 a6 c1 c6 w6 HT6.out HO6.out).mono ?_
          rintro e w7 ⟨rfl, hB7⟩
          have HI7 := Lib.hid (RowAt.below HI6.out hB7)
          have HB7 := Lib.hid (HB6.out.trans (hB7.mono HB6.out.size))
          clear hB7 HT6 HI6 HB6 HO6
          go_wp2_with fail
          refine (HEQ.out a2 ax c2 cx w7 HI7.out (RowAt.below HCUT.out HB7.out)).mono ?_
          rintro e w8 ⟨rfl, hB8⟩
          have HB8 := Lib.hid (HB7.out.trans (hB8.mono HB7.out.size))
          clear hB8
          go_wp2_with fail
          go_ret
          exact ⟨rfl, HB8.out⟩
        | true =>
          have hl1 := canB_len hc
          rw [show nextR N ts cs = (mostB (fun g => waitB g ts) cs, 0) by unfold nextR; rw [if_pos hr, if_pos hc]]
          clear hr
          go_wp2_with fail
          refine HR.out.mono ?_
          rintro e w5a ⟨rfl, hB5⟩
          have HT5a := Lib.hid (HT4.out.below hB5)
          have HI5a := Lib.hid (RowAt.below HI4.out hB5)
          have HB5a := Lib.hid (HB4.out.trans (hB5.mono HB4.out.size))
          have hca := HCA.out a2 c2 w5a HI5a.out
          rw [hc] at hca
          have HCAN := Lib.hid hca
          have hrn := HRN.out a1 c1 a2 c2 hl1.1 w5a HT5a.out HI5a.out
          have HRNX := Lib.hid hrn
          clear hB5 HT4 HI4 HB4 HR hc hca hl1 hrn
          generalize mostB (fun g => waitB g ts) cs = mo at *
          have hmo : (mo == mo) = true := by simp
          go_wp2_with fail
          refine HCAN.out.mono ?_
          rintro e w' ⟨rfl, rfl⟩
          clear HCAN
          go_wp2_with fail
          refine HRNX.out.mono ?_
          rintro e w5 ⟨rfl, hB5⟩
          have HT5 := Lib.hid (HT5a.out.below hB5)
          have HI5 := Lib.hid (RowAt.below HI5a.out hB5)
          have HB5 := Lib.hid (HB5a.out.trans (hB5.mono HB5a.out.size))
          clear hB5 HT5a HI5a HB5a HRNX
          go_wp2_with fail
          refine (HFEW.out w5 HB5.out).mono ?_
          rintro e w6 ⟨v6, rfl, o6, hB6⟩
          obtain ⟨a6, c6, rfl⟩ := form o6
          have HT6 := Lib.hid (HT5.out.below hB6)
          have HO6 := Lib.hid (OwnsT.at o6)
          have HI6 := Lib.hid (RowAt.below HI5.out hB6)
          have HB6 := Lib.hid (HB5.out.trans (hB6.mono HB5.out.size))
          clear hB6 HT5 HI5 HB5 o6
          go_wp2_with fail
          refine (HSA.out a1 a6 c1 c6 w6 HT6.out HO6.out).mono ?_
          rintro e w7 ⟨rfl, hB7⟩
          have HI7 := Lib.hid (RowAt.below HI6.out hB7)
          have HB7 := Lib.hid (HB6.out.trans (hB7.mono HB6.out.size))
          clear hB7 HT6 HI6 HB6 HO6
          go_wp2_with fail
          refine (HEQ.out a2 ax c2 cx w7 HI7.out (RowAt.below HCUT.out HB7.out)).mono ?_
          rintro e w8 ⟨rfl, hB8⟩
          have HB8 := Lib.hid (HB7.out.trans (hB8.mono HB7.out.size))
          clear hB8
          go_wp2_with fail
          go_ret
          exact ⟨rfl, HB8.out⟩
theorem laidOut : laidOutB Try.prog = true := by kernel_rfl
set_option maxRecDepth 100000 in
theorem lifted (os : Os) (started : os.Started) (H : Type) (enc : TypeId × Value → H) :
    ReturnsInHanded {} Try.checked os 5 .any (Rows.picksNextSpec.pre6 enc Try.prog Try.f5 Rows.picksNextRow.domain false) (Rows.picksNextSpec.post enc Try.prog Try.f5 false true false false) := by
  refine returnsInHanded_of_change (C := Try.checked) own started (by kernel_rfl) Try.func5
    (ChangeSpec.witness6 (enc := enc) (C := Try.checked) false ⟨#[], #[.int .i64 0, .slice none 0 0, .slice none 0 0], []⟩ 8 (by kernel_rfl) (by kernel_rfl) (by kernel_rfl) (by kernel_rfl)) ?_
  intro W base args ds gs before hval0 hW hcnd _
  have hval : ∀ (j : Nat) t v, Try.f5.params[j]? = some t → args[j]? = some v → Value.okWide Try.prog W .any base t v := hval0
  have hW' := hW
  obtain ⟨p, q, hA0, hV, rfl, hfz, hnd⟩ := hW
  have hA : DataW.TrodAll enc Try.prog W 0 (fun _ => true) true Try.f5.params.toList args.toList ds p := hA0
  rw [Try.params5] at hA hval
  obtain ⟨v0, vs0, d0, ds0, p0, q0, hargs, rfl, rfl, h0, r0⟩ := trodAll_cons hA
  obtain ⟨v1, vs1, d1, ds1, p1, q1, rfl, rfl, rfl, h1, r1⟩ := trodAll_cons r0
  obtain ⟨v2, vs2, d2, ds2, p2, q2, rfl, rfl, rfl, h2, r2⟩ := trodAll_cons r1
  obtain ⟨rfl, rfl, rfl⟩ := trodAll_nil r2
  obtain rfl : args = #[v0, v1, v2] := by cases args; simp_all
  obtain ⟨rfl, rfl⟩ := trodVars_none hV
  obtain ⟨a0, rfl, rfl, rfl, w0⟩ := open_int Try.underlying3 (hval 0 3 v0 rfl rfl) h0
  obtain ⟨a1, len1, cap1, rfl⟩ := okWide_slice Try.underlying32 (hval 1 32 v1 rfl rfl)
  have k1 := h1
  have lt1 : ∀ x ∈ p1, x.block < W.heap.size := by obtain ⟨m, hm⟩ := k1; exact DataW.trod_lt m _ _ _ hm
  obtain ⟨z1, n1, w1⟩ : ∃ zs, len1 = zs.length ∧ TurnsAt W (.slice a1 len1 cap1) zs := by
    obtain ⟨fuel, hf⟩ := h1
    exact open_turns hf
  obtain ⟨a2, len2, cap2, rfl⟩ := okWide_slice Try.underlying22 (hval 2 22 v2 rfl rfl)
  have k2 := h2
  have lt2 : ∀ x ∈ p2, x.block < W.heap.size := by obtain ⟨m, hm⟩ := k2; exact DataW.trod_lt m _ _ _ hm
  obtain ⟨z2, n2, w2⟩ : ∃ zs, len2 = zs.length ∧ IntsAt W (.slice a2 len2 cap2) zs := by
    obtain ⟨fuel, hf⟩ := h2
    exact open_intRow hf
  clear hA0 hval0
  refine (walk a0 a1 len1 cap1 z1 a2 len2 cap2 z2 W w0 n1 w1 n2 w2).mono fun e W' ⟨he, bel⟩ => ?_
  subst he
  exact ⟨_, rfl, _, _, _, [], _, [], hW', trodAll_mk1 (shut_bool Try.underlying4 _), (trodAll_cons_mk (shut_int Try.underlying3 w0) (trodAll_cons_mk (Below.trod laidOut (by kernel_rfl) (of_decide_eq_true (by kernel_rfl)) k1 bel lt1) (trodAll_cons_mk (Below.trod laidOut (by kernel_rfl) (of_decide_eq_true (by kernel_rfl)) k2 bel lt2) trodAll_mk0))), rfl, bel.frame _, fun h => by cases h⟩

theorem over : Rows.picksNextRow.holds Try.pinned (OpenSpec.ofChange Rows.picksNextSpec) :=
  OpenClaim.holds_of_wide 5 Try.f5 rfl rfl rfl rfl rfl rfl rfl ⟨rfl, rfl, rfl, rfl, rfl⟩ rfl rfl rfl rfl rfl (by kernel_rfl) Try.func5 (by kernel_rfl)
    (of_decide_eq_true (by kernel_rfl)) (by unfold Func.isWrapper; first | (rw [if_pos (by decide +kernel)]; kernel_rfl) | (rw [if_neg (by decide +kernel)]; exact ⟨rfl, rfl⟩))
    (fun os started H enc _ => lifted os started H enc)

theorem proved : Rows.PicksNextSaid := over
end Go.Proofs.Ytmkpjpdjjdmklaa.picksNext
