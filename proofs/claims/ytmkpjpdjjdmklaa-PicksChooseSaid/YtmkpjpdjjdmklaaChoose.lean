/- Proved: for every row of who can and every row of numbers, honeycomblaw04.PicksChoose returns true, and its arguments read as they did; no condition. -/
import Derived.Test.YtmkpjpdjjdmklaaKv
import Derived.BigQuiet
import Derived.ChangeAt
import Derived.JoinedAt
import Derived.ProofKit
import Derived.OpenShut
import Derived.Test.YtmkpjpdjjdmklaaRows
namespace Go.Proofs.Ytmkpjpdjjdmklaa.picksChoose
open Go.ChangeShapes Go.WideShapes Go.ChangeAt Go.RowKit Go.Shelf
attribute [local go_sem] Oper.semAt_some

theorem own : ownKnob Try.prog.godebug = none := by kernel_rfl
theorem idx_first (z : Int) (l : List Int) (h : z ∈ l) : ∃ i : Nat, idxI z l 0 = i ∧ i < l.length ∧ l[i]?.getD 0 = z ∧ ∀ p, p < i → ¬ l[p]?.getD 0 = z := by
  have key : ∀ (l : List Int) (k : Nat), z ∈ l → ∃ i : Nat, idxI z l k = ((k + i : Nat) : Int) ∧ i < l.length ∧ l[i]?.getD 0 = z ∧ ∀ p, p < i → ¬ l[p]?.getD 0 = z := by
    intro l
    induction l with
    | nil => intro k h; cases h
    | cons x t ih =>
      intro k h
      unfold idxI
      by_cases hx : z = x
      · exact ⟨0, by rw [if_pos hx]; rfl, by simp, by simp [hx], fun p hp => absurd hp (Nat.not_lt_zero _)⟩
      · have ht : z ∈ t := by
          rcases List.mem_cons.1 h with h | h
          · exact absurd h hx
          · exact h
        obtain ⟨i, h1, h2, h3, h4⟩ := ih (k + 1) ht
        refine ⟨i + 1, by rw [if_neg hx, h1]; omega, by simp; omega, by simpa using h3, fun p hp => ?_⟩
        cases p with
        | zero => simpa using fun e => hx e.symm
        | succ p => have := h4 p (by omega); simpa using this
  obtain ⟨i, h1, h2⟩ := key l 0 h
  exact ⟨i, by rw [h1, Nat.zero_add], h2⟩
theorem pick_lt (l : List Int) (p : Nat) (h : p < l.length) : pickB l p = l[p]?.getD 0 := by
  unfold pickB
  have : ((p : Int) % (l.length : Int)).toNat = p := by
    rw [Int.emod_eq_of_lt (by omega) (by omega)]
    omega
  rw [this]

set_option maxRecDepth 100000 in
set_option maxHeartbeats 2000000 in
theorem walk (ax : Option Addr) (nx cx : Nat) (xs : List Int) (an : Option Addr) (nn cn : Nat) (ns : List Int) (W : World) (hnx : nx = xs.length) (hX : IntsAt W (.slice ax nx cx) xs) (hnn : nn = ns.length) (hN : IntsAt W (.slice an nn cn) ns) :
    Calls Try.prog 3 #[.slice ax nx cx, .slice an nn cn] W fun e w' => e = .returned (.bool true) ∧ Below W.heap.size W w' := by
  have hreach : nn ≤ maxLen ∧ nx ≤ cx := by
    obtain ⟨_, _, _, e, h1, h2, _⟩ := hN
    obtain ⟨_, _, _, e', h1', _, _⟩ := hX
    cases e
    cases e'
    omega
  unfold maxLen at hreach
  obtain ⟨hreach, hxc⟩ := hreach
  have hcl : (xs.take 10).length ≤ 10 ∧ (xs.take 10).length ≤ nx := by rw [List.length_take]; omega
  have hcut := ints_cut hnx hX (xs.take 10).length hcl.2
  rw [show xs.take (xs.take 10).length = xs.take 10 by
    rw [List.length_take]
    by_cases h : 10 ≤ xs.length
    · rw [Nat.min_eq_left h]
    · rw [Nat.min_eq_right (by omega), List.take_length, List.take_of_length_le (by omega)]] at hcut
  have hk : (nx ≤ 10 ∧ nx = (xs.take 10).length) ∨ (10 < nx ∧ 10 = (xs.take 10).length) := by
    rw [List.length_take]; omega
  have HCUT := Lib.hid hcut
  have HN := Lib.hid hN
  have HNN := Lib.hid hnn
  clear hX hN hnn hnx hcut
  generalize xs.take 10 = cs at *
  have HCL := Lib.hid (fun (b : Option Addr) (k c : Nat) (h1 : k = cs.length) (h2 : k ≤ 100) W h3 => Try.cloneInts_any b k c cs h1 h2 W h3)
  have hcl10 : cs.length ≤ 10 := hcl.1
  have hclx : cs.length ≤ cx := by omega
  have HCH := Lib.hid (fun a c z W h => Try.Choose_any a cs.length c cs rfl z W h)
  have HST := Lib.hid (fun a c z W h => Try.Steer_any a cs.length c cs rfl z W h)
  have HCA := Lib.hid (fun a c W h => Try.refCan_any 8 a cs.length c cs rfl W h)
  have HRC := Lib.hid (fun a c h1 p W h => Try.refChoose_any a cs.length c cs rfl h1 (by omega) p W h)
  have HCO := Lib.hid (fun a c z W h => Try.contains_any a cs.length c cs rfl z W h)
  have HEQ := Lib.hid (fun a1 a2 c1 c2 W h1 h2 => Try.equalSame_any a1 a2 cs.length c1 c2 cs rfl (by omega) W h1 h2)
  clear hcl
  go_enter Try.func3, Try.ntmps3
  go_wp2_with fail
  refine (Try.wakes_any _).mono ?_
  rintro e w1 ⟨rfl, B1⟩
  rcases hk with ⟨hk1, hk2⟩ | ⟨hk1, hk2⟩
  all_goals first
    | (have f1 : (nx : Int) ≤ 10 := by omega
       have f2 : ¬ (10 : Int) < (nx : Int) := by omega
       have f3 : ¬ (cx : Int) < (nx : Int) := by omega
       have hI := HCUT.out
       rw [← hk2] at hI
       have HC := Lib.hid (HCL.out ax nx cx hk2 (by omega) w1 (RowAt.below hI B1))
       clear hI hk2
       go_wp2_with fail
       refine HC.out.mono ?_
       clear f1 f2 f3 hk1 HC)
    | (have f1 : ¬ (nx : Int) ≤ 10 := by omega
       have f2 : ¬ (nx : Int) < 10 := by omega
       have f3 : (10 : Int) < (nx : Int) := by omega
       have f4 : (10 : Nat) ≤ cx := by omega
       have f5 : ¬ (cx : Int) < 10 := by omega
       have hI := HCUT.out
       rw [← hk2] at hI
       have HC := Lib.hid (HCL.out ax 10 cx hk2 (by omega) w1 (RowAt.below hI B1))
       clear hI hk2
       go_wp2_with fail
       refine HC.out.mono ?_
       clear f1 f2 f3 f4 f5 hk1 HC)
  all_goals
    rintro e w2 ⟨v, rfl, hO, B2⟩
    obtain ⟨_, a2, c2, rfl, _⟩ := rowAt_own hO
    have hB2 := B1.trans (B2.mono B1.size)
    have HO := Lib.hid (show IntsAt w2 (.slice a2 cs.length c2) cs from rowAt_own hO)
    clear hO B2
    go_wp2_with fail
    refine (HCA.out a2 c2 w2 HO.out).mono ?_
    rintro e w' ⟨rfl, rfl⟩
    cases hr : canB 8 cs with
    | true =>
      have hlen := canB_len hr
      have hch : ∀ z, chooseB cs z = (pickB cs z, 0) := fun z => by unfold chooseB; rw [if_pos hr]
      have hst : ∀ z, steerB cs z = (if idxI z cs 0 < 0 then (0, 4) else (idxI z cs 0, 0)) := fun z => by unfold steerB; rw [if_pos hr]
      have HHC := Lib.hid hch
      have HHS := Lib.hid hst
      have hc1 : 1 ≤ cs.length := hlen.1
      clear hr hch hst hlen
      go_wp2_with fail
      go_loop [29] (fun j => ∃ k : Nat, k ≤ nn ∧ k ≤ 12 ∧ j = .int .i64 k) (fun j => nn - (intOf j).toNat)
      case atStart => exact ⟨0, Nat.zero_le _, Nat.zero_le _, rfl⟩
      case round =>
        obtain ⟨k, hk, hk12, rfl⟩ := hrel
        by_cases hlt : k < nn
        · obtain ⟨b, off, rfl, hb, hz⟩ := intsAt_get (RowAt.below HN.out hB2) k (by rw [← HNN.out]; exact hlt)
          generalize ns[k]?.getD 0 = z at *
          have hki : (k : Int) < (nn : Int) := by omega
          by_cases h12 : k = 12
          · subst h12
            have hcxi : ¬ (cx : Int) < (cs.length : Int) := by omega
            have hcxj : (cs.length : Int) ≤ (cx : Int) := by omega
            have heq := HEQ.out a2 ax c2 cx w2 HO.out (RowAt.below HCUT.out hB2)
            have HE := Lib.hid heq
            have HB := Lib.hid hB2
            clear heq
            go_wp2_with fail
            refine HE.out.mono ?_
            rintro e w9 ⟨rfl, hB9⟩
            have HB9 := Lib.hid (HB.out.trans (hB9.mono HB.out.size))
            clear hB9
            go_wp2_with fail
            go_ret
            exact ⟨rfl, HB9.out⟩
          · have h12i : ((k : Int) == 12) = false := by simp; omega
            have hc := HCH.out a2 c2 z w2 HO.out
            have hs := HST.out a2 c2 z w2 HO.out
            rw [HHC.out z] at hc
            rw [HHS.out z] at hs
            have hp := HRC.out a2 c2 hc1 z w2 HO.out
            have hco := HCO.out a2 c2 z w2 HO.out
            generalize pickB cs z = pz at *
            have HC := Lib.hid hc
            have HP := Lib.hid hp
            clear hc hp
            have hpq : (pz != pz) = false := by simp
            by_cases hmem : z ∈ cs
            · obtain ⟨i, hi1, hi2, hi3, hi4⟩ := idx_first z cs hmem
              rw [hi1, if_neg (by omega)] at hs
              rw [decide_eq_true hmem] at hco
              have hii : ((i : Int) != (i : Int)) = false := by simp
              have HS := Lib.hid hs
              have HM := Lib.hid hco
              have hrc : ∀ p : Nat, p ≤ i → Calls Try.prog 14 #[.slice a2 cs.length c2, .int .i64 p] w2 fun e w' => e = .returned (.int .i64 (cs[p]?.getD 0)) ∧ w2 = w' := fun p hp => by
                have h := HRC.out a2 c2 hc1 p w2 HO.out
                rw [pick_lt cs p (by omega)] at h
                exact h
              have HRP := Lib.hid hrc
              have HI3 := Lib.hid hi3
              have HI4 := Lib.hid hi4
              clear hs hco hmem hi1 hi3 hi4 hrc
              go_wp2_with fail
              refine HC.out.mono ?_
              rintro e w' ⟨rfl, rfl⟩
              go_wp2_with fail
              refine HS.out.mono ?_
              rintro e w' ⟨rfl, rfl⟩
              go_wp2_with fail
              refine HP.out.mono ?_
              rintro e w' ⟨rfl, rfl⟩
              go_wp2_with fail
              refine HM.out.mono ?_
              rintro e w' ⟨rfl, rfl⟩
              go_wp2_with fail
              go_loop [14] (fun p => ∃ q : Nat, q ≤ i ∧ p = .int .i64 q) (fun p => i - (intOf p).toNat)
              case atStart => exact ⟨0, Nat.zero_le _, rfl⟩
              case round =>
                obtain ⟨q, hq, rfl⟩ := hrel
                by_cases hqi : q < i
                · have hr2 := HRP.out q hq
                  have hne : (cs[q]?.getD 0 != z) = true := by simpa using HI4.out q hqi
                  have HR2 := Lib.hid hr2
                  clear hr2
                  generalize cs[q]?.getD 0 = cq at *
                  have hqb : (q : Int) < (i : Int) := by omega
                  go_wp2_with fail
                  refine HR2.out.mono ?_
                  rintro e w' ⟨rfl, rfl⟩
                  go_wp2_with fail
                  exact ⟨⟨q + 1, by omega, by go_num⟩, by simp [intOf]; omega⟩
                · obtain rfl : q = i := by omega
                  have hr2 := HRP.out q hq
                  rw [HI3.out] at hr2
                  have hne : (z != z) = false := by simp
                  have HR2 := Lib.hid hr2
                  clear hr2
                  go_wp2_with fail
                  refine HR2.out.mono ?_
                  rintro e w' ⟨rfl, rfl⟩
                  go_wp2_with fail
                  exact ⟨⟨k + 1, by omega, by omega, by go_num⟩, by simp [intOf]; omega⟩
            · have hneg : idxI z cs 0 < 0 := by
                rcases Int.lt_or_le (idxI z cs 0) 0 with h | h
                · exact h
                · exact absurd ((idxI_has z cs 0).1 h) hmem
              rw [if_pos hneg] at hs
              rw [decide_eq_false hmem] at hco
              have HS := Lib.hid hs
              have HM := Lib.hid hco
              clear hs hco hmem hneg
              go_wp2_with fail
              refine HC.out.mono ?_
              rintro e w' ⟨rfl, rfl⟩
              go_wp2_with fail
              refine HS.out.mono ?_
              rintro e w' ⟨rfl, rfl⟩
              go_wp2_with fail
              refine HP.out.mono ?_
              rintro e w' ⟨rfl, rfl⟩
              go_wp2_with fail
              refine HM.out.mono ?_
              rintro e w' ⟨rfl, rfl⟩
              go_wp2_with fail
              exact ⟨⟨k + 1, by omega, by omega, by go_num⟩, by simp [intOf]; omega⟩
        · obtain rfl : k = nn := by omega
          have hcxi : ¬ (cx : Int) < (cs.length : Int) := by omega
          have hcxj : (cs.length : Int) ≤ (cx : Int) := by omega
          have heq := HEQ.out a2 ax c2 cx w2 HO.out (RowAt.below HCUT.out hB2)
          have HE := Lib.hid heq
          have HB := Lib.hid hB2
          clear heq
          go_wp2_with fail
          refine HE.out.mono ?_
          rintro e w9 ⟨rfl, hB9⟩
          have HB9 := Lib.hid (HB.out.trans (hB9.mono HB.out.size))
          clear hB9
          go_wp2_with fail
          go_ret
          exact ⟨rfl, HB9.out⟩
    | false =>
      have hch : ∀ z, chooseB cs z = (0, 2) := fun z => by unfold chooseB; rw [if_neg (by rw [hr]; decide)]
      have hst : ∀ z, steerB cs z = (0, 2) := fun z => by unfold steerB; rw [if_neg (by rw [hr]; decide)]
      have HHC := Lib.hid hch
      have HHS := Lib.hid hst
      clear hr hch hst
      go_wp2_with fail
      go_loop [29] (fun j => ∃ k : Nat, k ≤ nn ∧ k ≤ 12 ∧ j = .int .i64 k) (fun j => nn - (intOf j).toNat)
      case atStart => exact ⟨0, Nat.zero_le _, Nat.zero_le _, rfl⟩
      case round =>
        obtain ⟨k, hk, hk12, rfl⟩ := hrel
        by_cases hlt : k < nn
        · obtain ⟨b, off, rfl, hb, hz⟩ := intsAt_get (RowAt.below HN.out hB2) k (by rw [← HNN.out]; exact hlt)
          generalize ns[k]?.getD 0 = z at *
          have hki : (k : Int) < (nn : Int) := by omega
          by_cases h12 : k = 12
          · subst h12
            have hcxi : ¬ (cx : Int) < (cs.length : Int) := by omega
            have hcxj : (cs.length : Int) ≤ (cx : Int) := by omega
            have heq := HEQ.out a2 ax c2 cx w2 HO.out (RowAt.below HCUT.out hB2)
            have HE := Lib.hid heq
            have HB := Lib.hid hB2
            clear heq
            go_wp2_with fail
            refine HE.out.mono ?_
            rintro e w9 ⟨rfl, hB9⟩
            have HB9 := Lib.hid (HB.out.trans (hB9.mono HB.out.size))
            clear hB9
            go_wp2_with fail
            go_ret
            exact ⟨rfl, HB9.out⟩
          · have h12i : ((k : Int) == 12) = false := by simp; omega
            have hc := HCH.out a2 c2 z w2 HO.out
            have hs := HST.out a2 c2 z w2 HO.out
            rw [HHC.out z] at hc
            rw [HHS.out z] at hs
            have HC := Lib.hid hc
            have HS := Lib.hid hs
            clear hc hs
            go_wp2_with fail
            refine HC.out.mono ?_
            rintro e w' ⟨rfl, rfl⟩
            go_wp2_with fail
            refine HS.out.mono ?_
            rintro e w' ⟨rfl, rfl⟩
            go_wp2_with fail
            exact ⟨⟨k + 1, by omega, by omega, by go_num⟩, by simp [intOf]; omega⟩
        · obtain rfl : k = nn := by omega
          have hcxi : ¬ (cx : Int) < (cs.length : Int) := by omega
          have hcxj : (cs.length : Int) ≤ (cx : Int) := by omega
          have heq := HEQ.out a2 ax c2 cx w2 HO.out (RowAt.below HCUT.out hB2)
          have HE := Lib.hid heq
          have HB := Lib.hid hB2
          clear heq
          go_wp2_with fail
          refine HE.out.mono ?_
          rintro e w9 ⟨rfl, hB9⟩
          have HB9 := Lib.hid (HB.out.trans (hB9.mono HB.out.size))
          clear hB9
          go_wp2_with fail
          go_ret
          exact ⟨rfl, HB9.out⟩
theorem laidOut : laidOutB Try.prog = true := by kernel_rfl
set_option maxRecDepth 100000 in
theorem lifted (os : Os) (started : os.Started) (H : Type) (enc : TypeId × Value → H) :
    ReturnsInHanded {} Try.checked os 3 .any (Rows.picksChooseSpec.pre6 enc Try.prog Try.f3 Rows.picksChooseRow.domain false) (Rows.picksChooseSpec.post enc Try.prog Try.f3 false true false false) := by
  refine returnsInHanded_of_change (C := Try.checked) own started (by kernel_rfl) Try.func3
    (ChangeSpec.witness6 (enc := enc) (C := Try.checked) false ⟨#[], #[.slice none 0 0, .slice none 0 0], []⟩ 8 (by kernel_rfl) (by kernel_rfl) (by kernel_rfl) (by kernel_rfl)) ?_
  intro W base args ds gs before hval0 hW hcnd _
  have hval : ∀ (j : Nat) t v, Try.f3.params[j]? = some t → args[j]? = some v → Value.okWide Try.prog W .any base t v := hval0
  have hW' := hW
  obtain ⟨p, q, hA0, hV, rfl, hfz, hnd⟩ := hW
  have hA : DataW.TrodAll enc Try.prog W 0 (fun _ => true) true Try.f3.params.toList args.toList ds p := hA0
  rw [Try.params3] at hA hval
  obtain ⟨v0, vs0, d0, ds0, p0, q0, hargs, rfl, rfl, h0, r0⟩ := trodAll_cons hA
  obtain ⟨v1, vs1, d1, ds1, p1, q1, rfl, rfl, rfl, h1, r1⟩ := trodAll_cons r0
  obtain ⟨rfl, rfl, rfl⟩ := trodAll_nil r1
  obtain rfl : args = #[v0, v1] := by cases args; simp_all
  obtain ⟨rfl, rfl⟩ := trodVars_none hV
  obtain ⟨a0, len0, cap0, rfl⟩ := okWide_slice Try.underlying22 (hval 0 22 v0 rfl rfl)
  have k0 := h0
  have lt0 : ∀ x ∈ p0, x.block < W.heap.size := by obtain ⟨m, hm⟩ := k0; exact DataW.trod_lt m _ _ _ hm
  obtain ⟨z0, n0, w0⟩ : ∃ zs, len0 = zs.length ∧ IntsAt W (.slice a0 len0 cap0) zs := by
    obtain ⟨fuel, hf⟩ := h0
    exact open_intRow hf
  obtain ⟨a1, len1, cap1, rfl⟩ := okWide_slice Try.underlying22 (hval 1 22 v1 rfl rfl)
  have k1 := h1
  have lt1 : ∀ x ∈ p1, x.block < W.heap.size := by obtain ⟨m, hm⟩ := k1; exact DataW.trod_lt m _ _ _ hm
  obtain ⟨z1, n1, w1⟩ : ∃ zs, len1 = zs.length ∧ IntsAt W (.slice a1 len1 cap1) zs := by
    obtain ⟨fuel, hf⟩ := h1
    exact open_intRow hf
  clear hA0 hval0
  refine (walk a0 len0 cap0 z0 a1 len1 cap1 z1 W n0 w0 n1 w1).mono fun e W' ⟨he, bel⟩ => ?_
  subst he
  exact ⟨_, rfl, _, _, _, [], _, [], hW', trodAll_mk1 (shut_bool Try.underlying4 _), (trodAll_cons_mk (Below.trod laidOut (by kernel_rfl) (of_decide_eq_true (by kernel_rfl)) k0 bel lt0) (trodAll_cons_mk (Below.trod laidOut (by kernel_rfl) (of_decide_eq_true (by kernel_rfl)) k1 bel lt1) trodAll_mk0)), rfl, bel.frame _, fun h => by cases h⟩

theorem over : Rows.picksChooseRow.holds Try.pinned (OpenSpec.ofChange Rows.picksChooseSpec) :=
  OpenClaim.holds_of_wide 3 Try.f3 rfl rfl rfl rfl rfl rfl rfl ⟨rfl, rfl, rfl, rfl, rfl⟩ rfl rfl rfl rfl rfl (by kernel_rfl) Try.func3 (by kernel_rfl)
    (of_decide_eq_true (by kernel_rfl)) (by unfold Func.isWrapper; first | (rw [if_pos (by decide +kernel)]; kernel_rfl) | (rw [if_neg (by decide +kernel)]; exact ⟨rfl, rfl⟩))
    (fun os started H enc _ => lifted os started H enc)

theorem proved : Rows.PicksChooseSaid := over
end Go.Proofs.Ytmkpjpdjjdmklaa.picksChoose
