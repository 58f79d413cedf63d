/- Proved: for every row of mutexes, every mutex's number and goroutine, honeycomblaw05.MutexBack returns true, and its arguments read as they did; no condition. -/
import Derived.Test.YtliecdpgajchbaaMy
import Derived.ChangeAt
import Derived.JoinedAt
import Derived.ProofKit
import Derived.OpenShut
import Derived.Test.YtliecdpgajchbaaRows
namespace Go.Proofs.Ytliecdpgajchbaa.mutexBack
open Go.ChangeShapes Go.WideShapes Go.ChangeAt Go.RowKit Go.Shelf
attribute [local go_sem] Oper.semAt_some

theorem own : ownKnob Try.prog.godebug = none := by kernel_rfl
theorem mem_hasF (g : Int) (l : List Mx) (k i : Nat) (h : i < l.length) (ho : l[i].own = g + 1) : ((k + i : Nat) : Int) ∈ hasF g k l := by
  induction l generalizing k i with
  | nil => simp at h
  | cons m t ih =>
    unfold hasF
    cases i with
    | zero =>
      simp only [List.getElem_cons_zero] at ho
      rw [if_pos ho]
      simp
    | succ i =>
      simp only [List.getElem_cons_succ] at ho
      have := ih (k + 1) i (by simpa using h) ho
      rw [show k + 1 + i = k + (i + 1) by omega] at this
      split
      · exact List.mem_cons_of_mem _ this
      · exact this
/-- What comes of an asking. -/
theorem ask_back {ms : List Mx} {which goer : Int} (h : (askR ms which goer).1 = 0) : rightB ms = true ∧ askR ms which goer = (0, askS ms which goer, 0) ∧ rightB (askS ms which goer) = true ∧ 0 ≤ goer ∧ goer ≤ 7 ∧ ∃ k : Nat, which = (k : Int) ∧ k < ms.length ∧
    (gotB ms which = false → waitsR (askS ms which goer) goer = (which, true) ∧ (leaveR (askS ms which goer) which goer).1 = 4) ∧
    (gotB ms which = true → leaveR (askS ms which goer) which goer = (0, ms, 0) ∧ nextB (askS ms which goer) which = -1 ∧ which ∈ hasR (askS ms which goer) goer) := by
  unfold askR resR at h
  split at h
  · rename_i hr
    have hE : askE ms which goer = 0 := h
    have hr2 := right_ask hr hE
    obtain ⟨hb, h1, h2⟩ := askE_ok hE
    have hb0 := hb
    obtain ⟨⟨hw1, hw2⟩, hg1, hg2⟩ := argB_iff.1 hb
    have hgb : goerB goer = true := by simp [goerB]; omega
    refine ⟨hr, by unfold askR resR; rw [if_pos hr, hE], hr2, hg1, hg2, ?_⟩
    obtain ⟨k, rfl⟩ : ∃ k : Nat, which = (k : Int) := ⟨which.toNat, by omega⟩
    have hk : k < ms.length := by omega
    have hk2 : k < (askS ms k goer).length := by rw [ask_len]; exact hk
    have hng := waitsB_none.1 h2
    rw [atM_eq hk] at h1
    have hS : askS ms k goer = ms.set k (if ms[k].own = 0 then ⟨goer + 1, ms[k].q⟩ else ⟨ms[k].own, ms[k].q ++ [goer]⟩) := by unfold askS; rw [atM_eq hk, Int.toNat_natCast]
    have hat : atM (askS ms k goer) k = (if ms[k].own = 0 then ⟨goer + 1, ms[k].q⟩ else ⟨ms[k].own, ms[k].q ++ [goer]⟩ : Mx) := by
      rw [atM_eq hk2]
      simp only [hS, List.getElem_set_self]
    have harg : argB (askS ms k goer) k goer = true := argB_iff.2 ⟨by rw [ask_len]; omega, hg1, hg2⟩
    refine ⟨k, rfl, hk, fun hg => ?_, fun hg => ?_⟩
    · have h0 : ¬ ms[k].own = 0 := by
        unfold gotB at hg
        rw [atM_eq hk] at hg
        simpa using hg
      rw [if_neg h0] at hS hat
      constructor
      · have hin : goer ∈ flatQ (askS ms k goer) := mem_flatQ.2 ⟨atM (askS ms k goer) k, by rw [atM_eq hk2]; exact List.getElem_mem hk2, by rw [hat]; simp⟩
        have hne : waitsB (askS ms k goer) goer ≠ -1 := fun e => (waitsB_none.1 e) hin
        obtain ⟨i, hi⟩ : ∃ i : Nat, waitsB (askS ms k goer) goer = (i : Int) := by
          rcases waitsB_le (askS ms k goer) goer with h | h
          · exact absurd h hne
          · exact ⟨(waitsB (askS ms k goer) goer).toNat, by omega⟩
        obtain ⟨hil, hiq⟩ := waitsB_at hi
        have hik : i = k := by
          by_cases e : k = i
          · exact e.symm
          · exfalso
            refine hng (mem_flatQ.2 ⟨ms[i]'(by rw [ask_len] at hil; exact hil), List.getElem_mem _, ?_⟩)
            simp only [hS, List.getElem_set_ne e] at hiq
            exact hiq
        subst hik
        unfold waitsR
        rw [if_pos hr2]
        unfold waitsP
        rw [if_neg hne, hi]
      · unfold leaveR resR
        rw [if_pos hr2]
        show leaveE _ _ _ = 4
        unfold leaveE
        rw [if_pos harg, hat, if_neg h1]
    · have h0 : ms[k].own = 0 := by
        unfold gotB at hg
        rw [atM_eq hk] at hg
        simpa using hg
      rw [if_pos h0] at hS hat
      have hq0 : ms[k].q = [] := by
        have := (right_at hk hr).1
        simp only [okB, decide_eq_true_eq] at this
        exact List.eq_nil_of_length_eq_zero (this.2.2 h0)
      rw [hq0] at hS hat
      refine ⟨?_, by unfold nextB; rw [hat], ?_⟩
      · have hle : leaveE (askS ms k goer) k goer = 0 := by
          unfold leaveE
          rw [if_pos harg, hat, if_pos rfl]
        have hls : leaveS (askS ms k goer) k = ms := by
          unfold leaveS
          rw [hat, hS, Int.toNat_natCast, List.set_set]
          show ms.set k ⟨0, []⟩ = ms
          have e : (⟨0, []⟩ : Mx) = ms[k] := by
            cases hm : ms[k] with
            | mk o q =>
              rw [hm] at h0 hq0
              simp at h0 hq0
              rw [h0, hq0]
          rw [e, List.set_getElem_self]
        unfold leaveR resR
        rw [if_pos hr2, hle, hls]
      · unfold hasR
        rw [if_pos ⟨hgb, hr2⟩]
        have := mem_hasF goer (askS ms k goer) 0 k hk2 (by rw [← atM_eq hk2, hat])
        rw [Nat.zero_add] at this
        exact this
  · cases h

set_option maxRecDepth 100000 in
set_option maxHeartbeats 8000000 in
theorem walk (a : Option Addr) (n cap : Nat) (xs : List Mx) (which goer : Int) (w : World) (hn : n = xs.length) (hI : MxAt w (.slice a n cap) xs) (_ : (Lit.int .i64 which).wf = true) (_ : (Lit.int .i64 goer).wf = true) :
    Calls Try.prog 7 #[.slice a n cap, .int .i64 which, .int .i64 goer] w fun e w' => e = .returned (.bool true) ∧ Below w.heap.size w w' := by
  have HI := Lib.hid hI
  clear hI hn
  go_enter Try.func7, Try.ntmps7
  go_wp2_with fail
  refine (Try.wakes_any w).mono ?_
  rintro e w1 ⟨rfl, b1⟩
  have B := Lib.hid b1
  clear b1
  go_wp2_with fail
  obtain ⟨ms, hms⟩ : ∃ ms, ms = cutB xs := ⟨_, rfl⟩
  have hql := cutB_q xs
  have how := Try.own_ok a n cap xs w1 (HI.out.below B.out)
  rw [← hms] at hql how
  have HQ := Lib.hid hql
  clear hms hql HI
  refine how.mono ?_
  rintro e w2 ⟨va, N, vc, rfl, hM, b2⟩
  have B2 := Lib.hid (B.out.trans (b2.mono B.out.size))
  have HM := Lib.hid hM
  clear b2 hM B how
  by_cases hE : (askR ms which goer).1 = 0
  · obtain ⟨hr, he, hr2, hg1, hg2, k, rfl, hk, hno, hyes⟩ := ask_back hE
    have hal := right_len hr2
    have hck := fun r W hM => Try.Check_any (some ⟨r, 0, none⟩) N N (askS ms k goer) W hM
    have e0 : errB (askS ms k goer) = 0 := by unfold errB; rw [if_pos hr2]
    rw [e0] at hck
    have HAL := Lib.hid hal
    cases hg : gotB ms k with
    | false =>
      obtain ⟨h1, h2⟩ := hno hg
      have hc := Try.ask_ok k goer va N vc ms (askS ms k goer) false he hg w2 HM.out
      have hw := fun r W hM => Try.Waits_any goer (some ⟨r, 0, none⟩) N N (askS ms k goer) W hM
      rw [h1] at hw
      have hlv := fun r W hM => Try.leave_err k goer (some ⟨r, 0, none⟩) N N (askS ms k goer) 4 (by decide) h2 W hM
      generalize askS ms k goer = S at *
      have HC := Lib.hid hc
      have HW := Lib.hid hw
      have HLV := Lib.hid hlv
      have HCK := Lib.hid hck
      clear hc hw hlv hck hno hyes hE he hr hr2 hk hg h1 h2 e0 hal HQ
      go_wp2_with fail
      refine HC.out.mono ?_
      rintro e w3 ⟨r, rfl, m3, b3⟩
      have M := Lib.hid m3
      have B3 := Lib.hid (B2.out.trans (b3.mono B2.out.size))
      clear m3 b3 B2
      go_wp2_with fail
      refine (HW.out r w3 M.out).mono ?_
      rintro e w4 ⟨rfl, b4⟩
      have M4 := Lib.hid (M.out.below b4)
      have B4 := Lib.hid (B3.out.trans (b4.mono B3.out.size))
      clear b4 M B3
      go_wp2_with fail
      refine (HLV.out r w4 M4.out).mono ?_
      rintro e w5 ⟨rfl, b5⟩
      have M5 := Lib.hid (M4.out.below b5)
      have B5 := Lib.hid (B4.out.trans (b5.mono B4.out.size))
      clear b5 M4 B4
      go_wp2_with fail
      refine (HCK.out r w5 M5.out).mono ?_
      rintro e w6 ⟨rfl, b6⟩
      have B6 := Lib.hid (B5.out.trans (b6.mono B5.out.size))
      clear b6 B5
      go_wp2_with fail
      go_ret
      exact ⟨by simp, B6.out⟩
    | true =>
      obtain ⟨h1, h2, h3⟩ := hyes hg
      have hc := Try.ask_ok k goer va N vc ms (askS ms k goer) true he hg w2 HM.out
      have hlv := fun r W hM => Try.leave_ok k goer (some ⟨r, 0, none⟩) N N (askS ms k goer) ms (-1) h1 h2 W hM
      have hhs := fun r W hM => Try.Has_any goer (some ⟨r, 0, none⟩) N N (askS ms k goer) W hM
      have hsm := fun r W h1 h2 => Try.same_any (some ⟨r, 0, none⟩) va N N N vc ms ms (by have := HQ.out; omega) (by have := HQ.out; omega) W h1 h2
      rw [show decide (ms = ms) = true from by simp] at hsm
      generalize hasR (askS ms k goer) goer = hs at *
      generalize askS ms k goer = S at *
      have HC := Lib.hid hc
      have HLV := Lib.hid hlv
      have HHS := Lib.hid hhs
      have HSM := Lib.hid hsm
      have HMEM := Lib.hid (decide_eq_true h3)
      clear hc hlv hhs hsm hck hno hyes hE he hr hr2 hk hg h1 h2 e0 hal HQ h3
      go_wp2_with fail
      refine HC.out.mono ?_
      rintro e w3 ⟨r, rfl, m3, b3⟩
      have M := Lib.hid m3
      have HM3 := Lib.hid (HM.out.below b3)
      have B3 := Lib.hid (B2.out.trans (b3.mono B2.out.size))
      clear m3 b3 B2 HM
      go_wp2_with fail
      refine (HLV.out r w3 M.out).mono ?_
      rintro e w4 ⟨r4, rfl, m4, b4⟩
      have M4 := Lib.hid (M.out.below b4)
      have L4 := Lib.hid m4
      have HM4 := Lib.hid (HM3.out.below b4)
      have B4 := Lib.hid (B3.out.trans (b4.mono B3.out.size))
      clear b4 m4 M HM3 B3
      go_wp2_with fail
      refine (HSM.out r4 w4 L4.out HM4.out).mono ?_
      rintro e w5 ⟨rfl, b5⟩
      have M5 := Lib.hid (M4.out.below b5)
      have B5 := Lib.hid (B4.out.trans (b5.mono B4.out.size))
      clear b5 M4 L4 HM4 B4
      go_wp2_with fail
      refine (HHS.out r w5 M5.out).mono ?_
      rintro e w6 ⟨hb, hc, rfl, h6, b6⟩
      have hcon := Try.contains_any hb hs.length hc hs rfl k w6 h6
      rw [HMEM.out] at hcon
      have HCON := Lib.hid hcon
      have B6 := Lib.hid (B5.out.trans (b6.mono B5.out.size))
      clear b6 B5 hcon h6 M5
      go_wp2_with fail
      refine HCON.out.mono ?_
      rintro e w' ⟨rfl, rfl⟩
      go_wp2_with fail
      go_ret
      exact ⟨by simp, B6.out⟩
  · have hc := Try.ask_err which goer va N vc ms _ hE rfl w2 HM.out
    generalize (askR ms which goer).1 = E at *
    have hEn : (E != 0) = true := by simpa using hE
    have HC := Lib.hid hc
    clear hc hE
    go_wp2_with fail
    refine HC.out.mono ?_
    rintro e w3 ⟨rfl, b3⟩
    have B3 := Lib.hid (B2.out.trans (b3.mono B2.out.size))
    clear b3
    go_wp2_with fail
    go_ret
    exact ⟨by simp, B3.out⟩
theorem laidOut : laidOutB Try.prog = true := by kernel_rfl
set_option maxRecDepth 100000 in
theorem lifted (os : Os) (started : os.Started) (H : Type) (enc : TypeId × Value → H) :
    ReturnsInHanded {} Try.checked os 7 .any (Rows.mutexBackSpec.pre6 enc Try.prog Try.f7 Rows.mutexBackRow.domain false) (Rows.mutexBackSpec.post enc Try.prog Try.f7 false true false false) := by
  refine returnsInHanded_of_change (C := Try.checked) own started (by kernel_rfl) Try.func7
    (ChangeSpec.witness6 (enc := enc) (C := Try.checked) false ⟨#[], #[.slice none 0 0, .int .i64 0, .int .i64 0], []⟩ 8 (by kernel_rfl) (by kernel_rfl) (by kernel_rfl) (by kernel_rfl)) ?_
  intro W base args ds gs before hval0 hW hcnd _
  have hval : ∀ (j : Nat) t v, Try.f7.params[j]? = some t → args[j]? = some v → Value.okWide Try.prog W .any base t v := hval0
  have hW' := hW
  obtain ⟨p, q, hA0, hV, rfl, hfz, hnd⟩ := hW
  have hA : DataW.TrodAll enc Try.prog W 0 (fun _ => true) true Try.f7.params.toList args.toList ds p := hA0
  rw [Try.params7] at hA hval
  obtain ⟨v0, vs0, d0, ds0, p0, q0, hargs, rfl, rfl, h0, r0⟩ := trodAll_cons hA
  obtain ⟨v1, vs1, d1, ds1, p1, q1, rfl, rfl, rfl, h1, r1⟩ := trodAll_cons r0
  obtain ⟨v2, vs2, d2, ds2, p2, q2, rfl, rfl, rfl, h2, r2⟩ := trodAll_cons r1
  obtain ⟨rfl, rfl, rfl⟩ := trodAll_nil r2
  obtain rfl : args = #[v0, v1, v2] := by cases args; simp_all
  obtain ⟨rfl, rfl⟩ := trodVars_none hV
  obtain ⟨a0, len0, cap0, rfl⟩ := okWide_slice Try.underlying22 (hval 0 22 v0 rfl rfl)
  have k0 := h0
  have lt0 : ∀ x ∈ p0, x.block < W.heap.size := by obtain ⟨m, hm⟩ := k0; exact DataW.trod_lt m _ _ _ hm
  obtain ⟨z0, n0, w0⟩ : ∃ zs, len0 = zs.length ∧ MxAt W (.slice a0 len0 cap0) zs := by
    obtain ⟨fuel, hf⟩ := h0
    exact open_mxs hf
  obtain ⟨a1, rfl, rfl, rfl, w1⟩ := open_int Try.underlying3 (hval 1 3 v1 rfl rfl) h1
  obtain ⟨a2, rfl, rfl, rfl, w2⟩ := open_int Try.underlying3 (hval 2 3 v2 rfl rfl) h2
  clear hA0 hval0
  refine (walk a0 len0 cap0 z0 a1 a2 W n0 w0 w1 w2).mono fun e W' ⟨he, bel⟩ => ?_
  subst he
  exact ⟨_, rfl, _, _, _, [], _, [], hW', trodAll_mk1 (shut_bool Try.underlying4 _), (trodAll_cons_mk (Below.trod laidOut (by kernel_rfl) (of_decide_eq_true (by kernel_rfl)) k0 bel lt0) (trodAll_cons_mk (shut_int Try.underlying3 w1) (trodAll_cons_mk (shut_int Try.underlying3 w2) trodAll_mk0))), rfl, bel.frame _, fun h => by cases h⟩

theorem over : Rows.mutexBackRow.holds Try.pinned (OpenSpec.ofChange Rows.mutexBackSpec) :=
  OpenClaim.holds_of_wide 7 Try.f7 rfl rfl rfl rfl rfl rfl rfl ⟨rfl, rfl, rfl, rfl, rfl⟩ rfl rfl rfl rfl rfl (by kernel_rfl) Try.func7 (by kernel_rfl)
    (of_decide_eq_true (by kernel_rfl)) (by unfold Func.isWrapper; first | (rw [if_pos (by decide +kernel)]; kernel_rfl) | (rw [if_neg (by decide +kernel)]; exact ⟨rfl, rfl⟩))
    (fun os started H enc _ => lifted os started H enc)

theorem proved : Rows.MutexBackSaid := over
end Go.Proofs.Ytliecdpgajchbaa.mutexBack
