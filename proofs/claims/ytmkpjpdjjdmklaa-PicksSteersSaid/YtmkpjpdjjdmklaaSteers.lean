/- Proved: for every row of who can and every two numbers, honeycomblaw04.PicksSteers returns true, and its arguments read as they did; no condition. -/
import Derived.Test.YtmkpjpdjjdmklaaKv
import Derived.BigQuiet
import Derived.ChangeAt
import Derived.JoinedAt
import Derived.ProofKit
import Derived.OpenShut
import Derived.Test.YtmkpjpdjjdmklaaRows
namespace Go.Proofs.Ytmkpjpdjjdmklaa.picksSteers
open Go.ChangeShapes Go.WideShapes Go.ChangeAt Go.RowKit Go.Shelf
attribute [local go_sem] Oper.semAt_some

theorem own : ownKnob Try.prog.godebug = none := by kernel_rfl
theorem idx_first (z : Int) (l : List Int) (h : z ∈ l) : ∃ i : Nat, idxI z l 0 = i ∧ i < l.length ∧ l[i]?.getD 0 = z ∧ ∀ p, p < i → ¬ l[p]?.getD 0 = z := by
  have key : ∀ (l : List Int) (k : Nat), z ∈ l → ∃ i : Nat, idxI z l k = ((k + i : Nat) : Int) ∧ i < l.length ∧ l[i]?.getD 0 = z ∧ ∀ p, p < i → ¬ l[p]?.getD 0 = z := by
    intro l
    induction l with
    | nil => intro k h; cases h
    | cons x t ih =>
      intro k h
      unfold idxI
      by_cases hx : z = x
      · exact ⟨0, by rw [if_pos hx]; rfl, by simp, by simp [hx], fun p hp => absurd hp (Nat.not_lt_zero _)⟩
      · have ht : z ∈ t := by
          rcases List.mem_cons.1 h with h | h
          · exact absurd h hx
          · exact h
        obtain ⟨i, h1, h2, h3, h4⟩ := ih (k + 1) ht
        refine ⟨i + 1, by rw [if_neg hx, h1]; omega, by simp; omega, by simpa using h3, fun p hp => ?_⟩
        cases p with
        | zero => simpa using fun e => hx e.symm
        | succ p => have := h4 p (by omega); simpa using this
  obtain ⟨i, h1, h2⟩ := key l 0 h
  exact ⟨i, by rw [h1, Nat.zero_add], h2⟩
theorem pick_lt (l : List Int) (p : Nat) (h : p < l.length) : pickB l p = l[p]?.getD 0 := by
  unfold pickB
  have : ((p : Int) % (l.length : Int)).toNat = p := by
    rw [Int.emod_eq_of_lt (by omega) (by omega)]
    omega
  rw [this]

theorem u_nonneg (a : Int) : 0 ≤ IntKind.u64.wrap a := by
  unfold IntKind.wrap
  simp [IntKind.bits, IntKind.signed]
  try omega
theorem u_mod (a : Int) (L : Nat) (h : 1 ≤ L) (h2 : L ≤ 1000) : ∃ j : Nat, j < L ∧ wrap64 ((IntKind.u64.wrap a).tmod (L : Int)) = (j : Int) := by
  have h0 := u_nonneg a
  generalize IntKind.u64.wrap a = b at *
  rw [Int.tmod_eq_emod_of_nonneg h0]
  have h3 := Int.emod_nonneg b (show (L : Int) ≠ 0 by omega)
  have h4 := Int.emod_lt_of_pos b (show 0 < (L : Int) by omega)
  generalize b % (L : Int) = r at *
  refine ⟨r.toNat, by omega, ?_⟩
  unfold wrap64
  omega
theorem pick_more (l : List Int) (p M : Int) : pickB l (p + M * l.length) = pickB l p := by
  unfold pickB
  rw [Int.add_mul_emod_self_right]
theorem pick_less (l : List Int) (p M : Int) : pickB l (p - M * l.length) = pickB l p := by
  unfold pickB
  rw [Int.sub_eq_add_neg, ← Int.neg_mul, Int.add_mul_emod_self_right]

set_option maxRecDepth 100000 in
set_option maxHeartbeats 2000000 in
theorem walk (ax : Option Addr) (nx cx : Nat) (xs : List Int) (aT mO : Int) (W : World) (hnx : nx = xs.length) (hX : IntsAt W (.slice ax nx cx) xs) (_ : (Lit.int .i64 aT).wf = true) (_ : (Lit.int .i64 mO).wf = true) :
    Calls Try.prog 8 #[.slice ax nx cx, .int .i64 aT, .int .i64 mO] W fun e w' => e = .returned (.bool true) ∧ Below W.heap.size W w' := by
  have hxc : nx ≤ cx := by
    obtain ⟨_, _, _, e', h1', _, _⟩ := hX
    cases e'
    omega
  have hcl : (xs.take 10).length ≤ 10 ∧ (xs.take 10).length ≤ nx := by rw [List.length_take]; omega
  have hcut := ints_cut hnx hX (xs.take 10).length hcl.2
  rw [show xs.take (xs.take 10).length = xs.take 10 by
    rw [List.length_take]
    by_cases h : 10 ≤ xs.length
    · rw [Nat.min_eq_left h]
    · rw [Nat.min_eq_right (by omega), List.take_length, List.take_of_length_le (by omega)]] at hcut
  have hk : (nx ≤ 10 ∧ nx = (xs.take 10).length) ∨ (10 < nx ∧ 10 = (xs.take 10).length) := by
    rw [List.length_take]; omega
  have HCUT := Lib.hid hcut
  clear hX hnx hcut
  generalize xs.take 10 = cs at *
  have HCL := Lib.hid (fun (b : Option Addr) (k c : Nat) (h1 : k = cs.length) (h2 : k ≤ 100) W h3 => Try.cloneInts_any b k c cs h1 h2 W h3)
  have hcl10 : cs.length ≤ 10 := hcl.1
  have HCH := Lib.hid (fun a c z W h => Try.Choose_any a cs.length c cs rfl z W h)
  have HST := Lib.hid (fun a c z W h => Try.Steer_any a cs.length c cs rfl z W h)
  clear hcl
  go_enter Try.func8, Try.ntmps8
  go_wp2_with fail
  refine (Try.wakes_any _).mono ?_
  rintro e w1 ⟨rfl, B1⟩
  rcases hk with ⟨hk1, hk2⟩ | ⟨hk1, hk2⟩
  all_goals first
    | (have f1 : (nx : Int) ≤ 10 := by omega
       have f2 : ¬ (10 : Int) < (nx : Int) := by omega
       have f3 : ¬ (cx : Int) < (nx : Int) := by omega
       have hI := HCUT.out
       rw [← hk2] at hI
       have HC := Lib.hid (HCL.out ax nx cx hk2 (by omega) w1 (RowAt.below hI B1))
       clear hI hk2
       go_wp2_with fail
       refine HC.out.mono ?_
       clear f1 f2 f3 hk1 HC)
    | (have f1 : ¬ (nx : Int) ≤ 10 := by omega
       have f2 : ¬ (nx : Int) < 10 := by omega
       have f3 : (10 : Int) < (nx : Int) := by omega
       have f4 : (10 : Nat) ≤ cx := by omega
       have f5 : ¬ (cx : Int) < 10 := by omega
       have hI := HCUT.out
       rw [← hk2] at hI
       have HC := Lib.hid (HCL.out ax 10 cx hk2 (by omega) w1 (RowAt.below hI B1))
       clear hI hk2
       go_wp2_with fail
       refine HC.out.mono ?_
       clear f1 f2 f3 f4 f5 hk1 HC)
  all_goals
    rintro e w2 ⟨v, rfl, hO, B2⟩
    obtain ⟨_, a2, c2, rfl, _⟩ := rowAt_own hO
    have HB2 := Lib.hid (B1.trans (B2.mono B1.size))
    have HO := Lib.hid (show IntsAt w2 (.slice a2 cs.length c2) cs from rowAt_own hO)
    clear hO B2 B1
    have hc0 := HCH.out a2 c2 0 w2 HO.out
    cases hr : canB 8 cs with
    | false =>
      have hs0 := HST.out a2 c2 0 w2 HO.out
      rw [show chooseB cs 0 = (0, 2) by unfold chooseB; rw [if_neg (by rw [hr]; decide)]] at hc0
      rw [show steerB cs 0 = (0, 2) by unfold steerB; rw [if_neg (by rw [hr]; decide)]] at hs0
      have HC0 := Lib.hid hc0
      have HS0 := Lib.hid hs0
      clear hc0 hs0 hr
      go_wp2_with fail
      refine HC0.out.mono ?_
      rintro e w' ⟨rfl, rfl⟩
      go_wp2_with fail
      refine HS0.out.mono ?_
      rintro e w' ⟨rfl, rfl⟩
      go_wp2_with fail
      go_ret
      exact ⟨rfl, HB2.out⟩
    | true =>
      have hlen := canB_len hr
      have hch : ∀ z, chooseB cs z = (pickB cs z, 0) := fun z => by unfold chooseB; rw [if_pos hr]
      have hst : ∀ z, steerB cs z = (if idxI z cs 0 < 0 then (0, 4) else (idxI z cs 0, 0)) := fun z => by unfold steerB; rw [if_pos hr]
      rw [hch 0] at hc0
      have HHC := Lib.hid hch
      have HHS := Lib.hid hst
      have HC0 := Lib.hid hc0
      have hc1 : 1 ≤ cs.length := hlen.1
      clear hr hch hst hlen hc0
      generalize pickB cs 0 = p0 at *
      go_wp2_with fail
      refine HC0.out.mono ?_
      rintro e w' ⟨rfl, rfl⟩
      have hlz : ¬ (cs.length : Int) = 0 := by omega
      have hl1 : (1 : Int) ≤ (cs.length : Int) := by omega
      have hl10 : (cs.length : Int) ≤ 10 := by omega
      obtain ⟨j, hj, ej⟩ := u_mod aT cs.length hc1 (by omega)
      obtain ⟨b, off, rfl, hb, hcj⟩ := intsAt_get HO.out j hj
      have hmem : cs[j]?.getD 0 ∈ cs := by rw [getD_int cs j hj]; exact List.getElem_mem hj
      generalize cs[j]?.getD 0 = who at *
      obtain ⟨i, hi1, hi2, hi3, hi4⟩ := idx_first who cs hmem
      obtain ⟨M, hM, eM⟩ := u_mod mO 1000 (by decide) (by decide)
      have eM' : wrap64 ((IntKind.u64.wrap mO).tmod 1000) = (M : Int) := eM
      obtain ⟨P, hP⟩ : ∃ P : Nat, P = M * cs.length := ⟨_, rfl⟩
      have eP : (M : Int) * (cs.length : Int) = (P : Int) := by rw [hP]; simp
      have hP10 : P ≤ 10000 := by
        rw [hP]
        exact Nat.le_trans (Nat.mul_le_mul (show M ≤ 1000 by omega) hcl10) (by decide)
      have hs := HST.out (some ⟨b, off, none⟩) c2 who w2 HO.out
      rw [HHS.out who, hi1, if_neg (by omega)] at hs
      have hpi : pickB cs i = who := by rw [pick_lt cs i hi2]; exact hi3
      have hch1 := HCH.out (some ⟨b, off, none⟩) c2 i w2 HO.out
      rw [HHC.out, hpi] at hch1
      have hch2 := HCH.out (some ⟨b, off, none⟩) c2 ((i : Int) + (P : Int)) w2 HO.out
      rw [HHC.out, ← eP, pick_more, hpi, eP] at hch2
      have hch3 := HCH.out (some ⟨b, off, none⟩) c2 ((i : Int) - (P : Int)) w2 HO.out
      rw [HHC.out, ← eP, pick_less, hpi, eP] at hch3
      have hck : ∀ p : Nat, p < i → Calls Try.prog 12 #[.slice (some ⟨b, off, none⟩) cs.length c2, .int .i64 p] w2 fun e w' => e = .returned (.tuple #[.int .i64 (cs[p]?.getD 0), .int .i64 0]) ∧ w2 = w' := fun p hp => by
        have h := HCH.out (some ⟨b, off, none⟩) c2 p w2 HO.out
        rw [HHC.out, pick_lt cs p (by omega)] at h
        exact h
      have HS := Lib.hid hs
      have H1 := Lib.hid hch1
      have H2 := Lib.hid hch2
      have H3 := Lib.hid hch3
      have HK := Lib.hid hck
      have HI4 := Lib.hid hi4
      have hii : (i : Int) < (cs.length : Int) := by omega
      have hd1 : decide (cs.length ≤ i) = false := decide_eq_false (by omega)
      have hd2 : decide ((i : Int) < 0) = false := decide_eq_false (by omega)
      have hin : ¬ (cs.length : Int) ≤ (i : Int) := by omega
      have hi0 : ¬ (i : Int) < 0 := by omega
      have hjl : (j : Int) < (cs.length : Int) := by omega
      have hww : (who != who) = false := by simp
      have hwe : (who == who) = true := by simp
      have hP10i : (P : Int) ≤ 10000 := by omega
      clear hs hch1 hch2 hch3 hck hi1 hi3 hi4 hpi hmem hP eM
      go_wp2_with fail
      refine HS.out.mono ?_
      rintro e w' ⟨rfl, rfl⟩
      go_wp2_with fail
      refine H1.out.mono ?_
      rintro e w' ⟨rfl, rfl⟩
      go_wp2_with fail
      go_loop [94] (fun p => ∃ q : Nat, q ≤ i ∧ p = .int .i64 q) (fun p => i - (intOf p).toNat)
      case atStart => exact ⟨0, Nat.zero_le _, rfl⟩
      case round =>
        obtain ⟨q, hq, rfl⟩ := hrel
        by_cases hqi : q < i
        · have hr2 := HK.out q hqi
          have hne : (cs[q]?.getD 0 == who) = false := by simpa using HI4.out q hqi
          have HR2 := Lib.hid hr2
          clear hr2
          generalize cs[q]?.getD 0 = cq at *
          have hqb : (q : Int) < (i : Int) := by omega
          go_wp2_with fail
          refine HR2.out.mono ?_
          rintro e w' ⟨rfl, rfl⟩
          go_wp2_with fail
          exact ⟨⟨q + 1, by omega, by go_num⟩, by simp [intOf]; omega⟩
        · obtain rfl : q = i := by omega
          go_wp2_with fail
          refine H2.out.mono ?_
          rintro e w' ⟨rfl, rfl⟩
          go_wp2_with fail
          refine H3.out.mono ?_
          rintro e w' ⟨rfl, rfl⟩
          go_wp2_with fail
          go_ret
          exact ⟨rfl, HB2.out⟩
theorem laidOut : laidOutB Try.prog = true := by kernel_rfl
set_option maxRecDepth 100000 in
theorem lifted (os : Os) (started : os.Started) (H : Type) (enc : TypeId × Value → H) :
    ReturnsInHanded {} Try.checked os 8 .any (Rows.picksSteersSpec.pre6 enc Try.prog Try.f8 Rows.picksSteersRow.domain false) (Rows.picksSteersSpec.post enc Try.prog Try.f8 false true false false) := by
  refine returnsInHanded_of_change (C := Try.checked) own started (by kernel_rfl) Try.func8
    (ChangeSpec.witness6 (enc := enc) (C := Try.checked) false ⟨#[], #[.slice none 0 0, .int .i64 0, .int .i64 0], []⟩ 8 (by kernel_rfl) (by kernel_rfl) (by kernel_rfl) (by kernel_rfl)) ?_
  intro W base args ds gs before hval0 hW hcnd _
  have hval : ∀ (j : Nat) t v, Try.f8.params[j]? = some t → args[j]? = some v → Value.okWide Try.prog W .any base t v := hval0
  have hW' := hW
  obtain ⟨p, q, hA0, hV, rfl, hfz, hnd⟩ := hW
  have hA : DataW.TrodAll enc Try.prog W 0 (fun _ => true) true Try.f8.params.toList args.toList ds p := hA0
  rw [Try.params8] at hA hval
  obtain ⟨v0, vs0, d0, ds0, p0, q0, hargs, rfl, rfl, h0, r0⟩ := trodAll_cons hA
  obtain ⟨v1, vs1, d1, ds1, p1, q1, rfl, rfl, rfl, h1, r1⟩ := trodAll_cons r0
  obtain ⟨v2, vs2, d2, ds2, p2, q2, rfl, rfl, rfl, h2, r2⟩ := trodAll_cons r1
  obtain ⟨rfl, rfl, rfl⟩ := trodAll_nil r2
  obtain rfl : args = #[v0, v1, v2] := by cases args; simp_all
  obtain ⟨rfl, rfl⟩ := trodVars_none hV
  obtain ⟨a0, len0, cap0, rfl⟩ := okWide_slice Try.underlying22 (hval 0 22 v0 rfl rfl)
  have k0 := h0
  have lt0 : ∀ x ∈ p0, x.block < W.heap.size := by obtain ⟨m, hm⟩ := k0; exact DataW.trod_lt m _ _ _ hm
  obtain ⟨z0, n0, w0⟩ : ∃ zs, len0 = zs.length ∧ IntsAt W (.slice a0 len0 cap0) zs := by
    obtain ⟨fuel, hf⟩ := h0
    exact open_intRow hf
  obtain ⟨a1, rfl, rfl, rfl, w1⟩ := open_int Try.underlying3 (hval 1 3 v1 rfl rfl) h1
  obtain ⟨a2, rfl, rfl, rfl, w2⟩ := open_int Try.underlying3 (hval 2 3 v2 rfl rfl) h2
  clear hA0 hval0
  refine (walk a0 len0 cap0 z0 a1 a2 W n0 w0 w1 w2).mono fun e W' ⟨he, bel⟩ => ?_
  subst he
  exact ⟨_, rfl, _, _, _, [], _, [], hW', trodAll_mk1 (shut_bool Try.underlying4 _), (trodAll_cons_mk (Below.trod laidOut (by kernel_rfl) (of_decide_eq_true (by kernel_rfl)) k0 bel lt0) (trodAll_cons_mk (shut_int Try.underlying3 w1) (trodAll_cons_mk (shut_int Try.underlying3 w2) trodAll_mk0))), rfl, bel.frame _, fun h => by cases h⟩

theorem over : Rows.picksSteersRow.holds Try.pinned (OpenSpec.ofChange Rows.picksSteersSpec) :=
  OpenClaim.holds_of_wide 8 Try.f8 rfl rfl rfl rfl rfl rfl rfl ⟨rfl, rfl, rfl, rfl, rfl⟩ rfl rfl rfl rfl rfl (by kernel_rfl) Try.func8 (by kernel_rfl)
    (of_decide_eq_true (by kernel_rfl)) (by unfold Func.isWrapper; first | (rw [if_pos (by decide +kernel)]; kernel_rfl) | (rw [if_neg (by decide +kernel)]; exact ⟨rfl, rfl⟩))
    (fun os started H enc _ => lifted os started H enc)

theorem proved : Rows.PicksSteersSaid := over
end Go.Proofs.Ytmkpjpdjjdmklaa.picksSteers
