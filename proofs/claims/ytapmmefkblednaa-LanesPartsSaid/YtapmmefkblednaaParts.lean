/- Proved: for every two words and byte, honeycomblaw01.LanesParts returns true, and its arguments read as they did; no condition. -/
import Derived.Test.YtapmmefkblednaaI
namespace Go.Proofs.Ytapmmefkblednaa.lanesParts
open Go.ChangeShapes Go.WideShapes Go.ChangeAt Go.RowKit Go.Shelf
attribute [local go_sem] Oper.semAt_some

theorem own : ownKnob Try.prog.godebug = none := by kernel_rfl

theorem equalP (p b m : Nat) (hm : (maskB fun n => byt p n == b) = m) (w : World) : Calls Try.prog 22 #[.int .u64 p, .int .u8 b] w fun e w' => e = .returned (.int .u8 m) ∧ Below w.heap.size w w' := by
  subst hm
  exact Try.Equal_any p b w
theorem belowP (p b m : Nat) (hm : (maskB fun n => decide (byt p n < b)) = m) (w : World) : Calls Try.prog 24 #[.int .u64 p, .int .u8 b] w fun e w' => e = .returned (.int .u8 m) ∧ Below w.heap.size w w' := by
  subst hm
  exact Try.Below_any p b w
theorem belowS (p b m : Nat) (hm : (maskB fun n => decide (byt p n < b + 1)) = m) (w : World) : Calls Try.prog 24 #[.int .u64 p, .int .u8 ((b : Int) + 1)] w fun e w' => e = .returned (.int .u8 m) ∧ Below w.heap.size w w' := belowP p (b + 1) m hm w
theorem alikeP (p x m : Nat) (hm : (maskB fun n => byt p n == byt x n) = m) (w : World) : Calls Try.prog 26 #[.int .u64 p, .int .u64 x] w fun e w' => e = .returned (.int .u8 m) ∧ Below w.heap.size w w' := by
  subst hm
  exact Try.Alike_any p x w
theorem blendP (x z m t : Nat) (hx : x < 18446744073709551616) (hm : m < 256) (ht : setAll (byt z) x (lanesOf m) = t) (w : World) :
    Calls Try.prog 30 #[.int .u64 x, .int .u64 z, .int .u8 m] w fun e w' => e = .returned (.int .u64 t) ∧ Below w.heap.size w w' := by
  subst ht
  exact Try.Blend_any x z m hx hm w
theorem onesP (m c : Nat) (hm : m < 256) (hc : (lanesOf m).length = c) (w : World) :
    Calls Try.prog 36 #[.int .u8 m] w fun e w' => e = .returned (.int .i64 (c : Nat)) ∧ w = w' := by
  subst hc
  exact Try.ones_any m hm w
theorem owns_shape {n₀ : Nat} {l : List (Fin 8)} {v : Value} {W : World} (h : OwnsLanes n₀ l v W) : ∃ a cap, v = .slice a l.length cap := by
  rcases h.1.2 with ⟨h1, h2⟩ | ⟨g, cap, _, h1, _⟩
  · exact ⟨none, 0, by rw [h2]; exact h1⟩
  · exact ⟨some ⟨g, 0, none⟩, cap, h1⟩
def LenQ (c : Nat) (w : World) (e : Ending) (w' : World) : Prop := ∃ a cap, e = .returned (.slice a c cap) ∧ Below w.heap.size w w'
theorem allP (m c : Nat) (hm : m < 256) (hc : (lanesOf m).length = c) (w : World) : Calls Try.prog 33 #[.int .u8 m] w (LenQ c w) :=
  (Try.All_any m hm w).mono fun e w' ⟨v, he, ho, hb⟩ => by
    obtain ⟨a, cap, hv⟩ := owns_shape ho
    exact ⟨a, cap, by rw [he, hv, hc], hb⟩

theorem blend_all {v x : Nat} (hv : v < 18446744073709551616) (hx : x < 18446744073709551616) : setAll (byt x) v (lanesOf 255) = x := by
  refine byt_ext (setAll_lt (byt_lt x) hv _) hx fun k hk => ?_
  rw [lanesOf_255]
  have := byt_setAll (byt_lt x) v all8 ⟨k, hk⟩
  rw [if_pos (mem_all8 _)] at this
  exact this
theorem lanesOf_0 : lanesOf 0 = [] := by decide
theorem blend_none (v x : Nat) : setAll (byt x) v (lanesOf 0) = v := by rw [lanesOf_0]; rfl
theorem blend_alike {v x : Nat} (hv : v < 18446744073709551616) : setAll (byt x) v (lanesOf (maskB fun n => byt v n == byt x n)) = v := by
  refine byt_ext (setAll_lt (byt_lt x) hv _) hv fun k hk => ?_
  have := byt_setAll (byt_lt x) v (lanesOf (maskB fun n => byt v n == byt x n)) ⟨k, hk⟩
  rw [this]
  split
  · rename_i h
    rw [mem_lanesOf, testBit_maskB] at h
    exact (eq_of_beq h).symm
  · rfl

set_option maxRecDepth 100000 in
set_option maxHeartbeats 4000000 in
theorem walkNat (v x b eq be al ca : Nat) (hv : v < 18446744073709551616) (hx : x < 18446744073709551616) (hb : b < 256)
    (heq : (maskB fun n => byt x n == b) = eq) (hbe : (maskB fun n => decide (byt x n < b)) = be) (hal : (maskB fun n => byt v n == byt x n) = al) (hca : (lanesOf eq).length = ca)
    (h1 : (bits .and .u8 ((eq : Nat) : Int) ((be : Nat) : Int) != 0) = false) (h2 : (((eq ||| be : Nat) : Int) != bits .or .u8 ((eq : Nat) : Int) ((be : Nat) : Int)) = false) (w : World) :
    Calls Try.prog 7 #[.int .u64 v, .int .u64 x, .int .u8 b] w fun e w' => e = .returned (.bool true) ∧ Below w.heap.size w w' := by
  have HV := Lib.hid hv
  have HX := Lib.hid hx
  have HEQ := Lib.hid heq
  have HBE := Lib.hid hbe
  have HAL := Lib.hid hal
  have HCA := Lib.hid hca
  have HB1 := Lib.hid (show b < 255 → (maskB fun n => decide (byt x n < b + 1)) = (eq ||| be) from fun _ => by
    have heq' : eq < 256 := by rw [← heq]; exact maskB_lt _
    have hbe' : be < 256 := by rw [← hbe]; exact maskB_lt _
    refine mask_ext (maskB_lt _) (Nat.or_lt_two_pow (n := 8) heq' hbe') fun k => ?_
    rw [Nat.testBit_or, testBit_maskB, ← heq, ← hbe, testBit_maskB, testBit_maskB, Bool.eq_iff_iff]
    simp
    omega)
  clear hv hx heq hbe hal hca
  by_cases hb255 : b < 255
  all_goals
    go_enter Try.func7, Try.ntmps7
    go_wp2_with fail
    refine (Try.wakes_any _).mono ?_
    rintro e wa ⟨rfl, hBa⟩
    go_wp2_with fail
    refine (equalP x b eq HEQ.out _).mono ?_
    rintro e wb ⟨rfl, hBb⟩
    have hB := hBa.trans (hBb.mono hBa.size)
    clear hBa hBb
    go_wp2_with fail
    refine (belowP x b be HBE.out _).mono ?_
    rintro e wc ⟨rfl, hBc⟩
    replace hB := hB.trans (hBc.mono hB.size)
    clear hBc
    go_wp2_with fail
    refine (belowP x 0 0 (by simp; decide) _).mono ?_
    rintro e wd ⟨rfl, hBd⟩
    replace hB := hB.trans (hBd.mono hB.size)
    clear hBd
    go_wp2_with fail
    try (refine (belowS x b (eq ||| be) (HB1.out hb255) _).mono ?_
         rintro e wk ⟨rfl, hBk⟩
         replace hB := hB.trans (hBk.mono hB.size)
         clear hBk
         go_wp2_with fail)
    clear h1 h2
    go_loopw [9, 10, 42] (fun mv _ j wr => ∃ k : Nat, k ≤ 256 ∧ j = .int .i64 k ∧ mv = .int .i64 (cnt x k : Nat) ∧ Below w.heap.size w wr) (fun _ _ j _ => 256 - (intOf j).toNat)
    case atStart => exact ⟨0, Nat.zero_le _, rfl, by rw [cnt_zero]; rfl, hB⟩
    case round =>
      clear hB
      obtain ⟨k, hk, rfl, rfl, hB⟩ := hrel
      by_cases hlt : k < 256
      · have hc8 := cnt_le x k
        obtain ⟨m, hm⟩ : ∃ m, (maskB fun n => byt x n == k) = m := ⟨_, rfl⟩
        have hm256 : m < 256 := by rw [← hm]; exact maskB_lt _
        obtain ⟨c, hc⟩ : ∃ c, (lanesOf m).length = c := ⟨_, rfl⟩
        have hs := cnt_succ x k
        rw [hm, hc] at hs
        have hs8 := cnt_le x (k + 1)
        have hcc : c ≤ 8 := by omega
        have HS := Lib.hid hs
        have HM := Lib.hid hm
        have HC := Lib.hid hc
        have HM2 := Lib.hid hm256
        clear hs hm hc hm256 hs8
        go_wp2_with fail
        refine (equalP x k m HM.out _).mono ?_
        rintro e we ⟨rfl, hBe⟩
        replace hB := hB.trans (hBe.mono hB.size)
        clear hBe
        go_wp2_with fail
        refine (onesP m c HM2.out HC.out _).mono ?_
        rintro e wf ⟨rfl, rfl⟩
        go_wp2_with fail
        go_roundw
        case rel => exact ⟨k + 1, by omega, by go_num, by rw [HS.out]; go_num, hB⟩
        case measure => simp [intOf]; omega
      · obtain rfl : k = 256 := by omega
        rw [cnt_all x]
        have h8 : ((8 : Nat) : Int) = 8 := rfl
        rw [h8]
        clear h8 hk hlt
        have heq256 : eq < 256 := by rw [← HEQ.out]; exact maskB_lt _
        have hal256 : al < 256 := by rw [← HAL.out]; exact maskB_lt _
        have HE2 := Lib.hid heq256
        have HA2 := Lib.hid hal256
        clear heq256 hal256
        go_wp2_with fail
        refine (allP eq ca HE2.out HCA.out _).mono ?_
        rintro e wg ⟨a, cap, rfl, hBg⟩
        replace hB := hB.trans (hBg.mono hB.size)
        clear hBg
        go_wp2_with fail
        refine (onesP eq ca HE2.out HCA.out _).mono ?_
        rintro e wh ⟨rfl, rfl⟩
        go_wp2_with fail
        refine (blendP v x 255 x HV.out (by decide) (blend_all HV.out HX.out) _).mono ?_
        rintro e wi ⟨rfl, hBi⟩
        replace hB := hB.trans (hBi.mono hB.size)
        clear hBi
        go_wp2_with fail
        refine (blendP v x 0 v HV.out (by decide) (blend_none v x) _).mono ?_
        rintro e wj ⟨rfl, hBj⟩
        replace hB := hB.trans (hBj.mono hB.size)
        clear hBj
        go_wp2_with fail
        refine (alikeP v x al HAL.out _).mono ?_
        rintro e wl ⟨rfl, hBl⟩
        replace hB := hB.trans (hBl.mono hB.size)
        clear hBl
        go_wp2_with fail
        refine (blendP v x al v HV.out HA2.out (by rw [← HAL.out]; exact blend_alike HV.out) _).mono ?_
        rintro e wm ⟨rfl, hBm⟩
        replace hB := hB.trans (hBm.mono hB.size)
        clear hBm
        go_wp2
        go_ret
        exact ⟨rfl, hB⟩

theorem walk (a0 : Int) (a1 : Int) (a2 : Int) (w0 : (Lit.int .u64 a0).wf = true) (w1 : (Lit.int .u64 a1).wf = true) (w2 : (Lit.int .u8 a2).wf = true) (w : World) :
    Calls Try.prog 7 #[.int .u64 a0, .int .u64 a1, .int .u8 a2] w fun e w' => e = .returned (.bool true) ∧ Below w.heap.size w w' := by
  have b0 := bounds_u64 w0
  have b1 := bounds_u64 w1
  have b2 := bounds_u8 w2
  obtain ⟨v, rfl⟩ := Int.eq_ofNat_of_zero_le b0.1
  obtain ⟨x, rfl⟩ := Int.eq_ofNat_of_zero_le b1.1
  obtain ⟨b, rfl⟩ := Int.eq_ofNat_of_zero_le b2.1
  refine walkNat v x b _ _ _ _ (by omega) (by omega) (by omega) rfl rfl rfl rfl ?_ ?_ w
  · rw [u8_and_nat _ _ (maskB_lt _) (maskB_lt _)]
    have e : (maskB fun n => byt x n == b) &&& (maskB fun n => decide (byt x n < b)) = 0 := by
      refine mask_ext (Nat.and_lt_two_pow (n := 8) _ (maskB_lt _)) (by decide) fun k => ?_
      rw [Nat.testBit_and, testBit_maskB, testBit_maskB, Nat.zero_testBit, Bool.eq_false_iff]
      simp
      omega
    rw [e]
    rfl
  · rw [u8_or_nat _ _ (maskB_lt _) (maskB_lt _)]
    simp

set_option maxRecDepth 100000 in
theorem lifted (os : Os) (started : os.Started) (H : Type) (enc : TypeId × Value → H) :
    ReturnsInHanded {} Try.checked os 7 .any (Rows.lanesPartsSpec.pre6 enc Try.prog Try.f7 Rows.lanesPartsRow.domain false) (Rows.lanesPartsSpec.post enc Try.prog Try.f7 false true false false) := by
  refine returnsInHanded_of_change (C := Try.checked) own started (by kernel_rfl) Try.func7
    (ChangeSpec.witness6 (enc := enc) (C := Try.checked) false ⟨#[], #[.int .u64 0, .int .u64 0, .int .u8 0], []⟩ 8 (by kernel_rfl) (by kernel_rfl) (by kernel_rfl) (by kernel_rfl)) ?_
  intro W base args ds gs before hval0 hW hcnd _
  have hval : ∀ (j : Nat) t v, Try.f7.params[j]? = some t → args[j]? = some v → Value.okWide Try.prog W .any base t v := hval0
  have hW' := hW
  obtain ⟨p, q, hA0, hV, rfl, hfz, hnd⟩ := hW
  have hA : DataW.TrodAll enc Try.prog W 0 (fun _ => true) true Try.f7.params.toList args.toList ds p := hA0
  rw [Try.params7] at hA hval
  obtain ⟨v0, vs0, d0, ds0, p0, q0, hargs, rfl, rfl, h0, r0⟩ := trodAll_cons hA
  obtain ⟨v1, vs1, d1, ds1, p1, q1, rfl, rfl, rfl, h1, r1⟩ := trodAll_cons r0
  obtain ⟨v2, vs2, d2, ds2, p2, q2, rfl, rfl, rfl, h2, r2⟩ := trodAll_cons r1
  obtain ⟨rfl, rfl, rfl⟩ := trodAll_nil r2
  obtain rfl : args = #[v0, v1, v2] := by cases args; simp_all
  obtain ⟨rfl, rfl⟩ := trodVars_none hV
  obtain ⟨a0, rfl, rfl, rfl, w0⟩ := open_int Try.underlying23 (hval 0 23 v0 rfl rfl) h0
  obtain ⟨a1, rfl, rfl, rfl, w1⟩ := open_int Try.underlying23 (hval 1 23 v1 rfl rfl) h1
  obtain ⟨a2, rfl, rfl, rfl, w2⟩ := open_int Try.underlying5 (hval 2 5 v2 rfl rfl) h2
  clear hA0 hval0
  simp only [List.append_nil] at hW'
  refine (walk a0 a1 a2 w0 w1 w2 W).mono fun e W' ⟨he, hg⟩ => ?_
  subst he
  exact ⟨_, rfl, post_lies (pa := []) (pv := []) hW' (fun _ _ _ => (trodAll_cons_mk (shut_bool Try.underlying4 _) trodAll_mk0)) (fun sp _ => (trodAll_cons_mk (shut_int Try.underlying23 w0) (trodAll_cons_mk (shut_int Try.underlying23 w1) (trodAll_cons_mk (shut_int Try.underlying5 w2) trodAll_mk0)))) (fun _ _ => rfl) hg⟩

theorem over : Rows.lanesPartsRow.holds Try.pinned (OpenSpec.ofChange Rows.lanesPartsSpec) :=
  OpenClaim.holds_of_wide 7 Try.f7 rfl rfl rfl rfl rfl rfl rfl ⟨rfl, rfl, rfl, rfl, rfl⟩ rfl rfl rfl rfl rfl (by kernel_rfl) Try.func7 (by kernel_rfl)
    (of_decide_eq_true (by kernel_rfl)) (by unfold Func.isWrapper; first | (rw [if_pos (by decide +kernel)]; kernel_rfl) | (rw [if_neg (by decide +kernel)]; exact ⟨rfl, rfl⟩))
    (fun os started H enc _ => lifted os started H enc)

theorem proved : Rows.LanesPartsSaid := over
end Go.Proofs.Ytapmmefkblednaa.lanesParts
