/- Proved: for every word and every number, honeycomblaw01.LanesTurns returns true, and its arguments read as they did; no condition. -/
import Derived.Test.YtapmmefkblednaaH
namespace Go.Proofs.Ytapmmefkblednaa.lanesTurns
open Go.ChangeShapes Go.WideShapes Go.ChangeAt Go.RowKit Go.Shelf
attribute [local go_sem] Oper.semAt_some

theorem own : ownKnob Try.prog.godebug = none := by kernel_rfl

/-- One turn, what comes of it named. -/
theorem turn (x : Nat) (i : Int) (t : Nat) (ht : tw x i = t) (w : World) : Calls Try.prog 34 #[.int .u64 x, .int .i64 i] w fun e w' => e = .returned (.int .u64 t) ∧ Below w.heap.size w w' := by
  subst ht
  exact Try.Turn_any x i w

theorem ne_same (a : Nat) : (((a : Nat) : Int) != ((a : Nat) : Int)) = false := by simp
theorem get_arr (g : Nat → Nat) (W : World) (B : Nat) (tt : TypeId) (h : Rows8 W B tt (arr8 fun n => .int .u8 (g n : Nat))) (k : Nat) (hk : k < 8) : W.cell? ⟨B, k, none⟩ = some (.int .u8 (g k : Nat)) :=
  (h.cell k).trans (arr8_get _ ⟨k, hk⟩)

/-- The last loop's relation. -/
def Rel (x t B : Nat) (w wr : World) (k : Nat) : Prop := k ≤ 8 ∧ Below w.heap.size w wr ∧ Rows8 wr B 27 (arr8 fun n => .int .u8 (byt x n : Nat)) ∧ Rows8 wr (B + 1) 27 (arr8 fun n => .int .u8 (byt t n : Nat))

set_option maxHeartbeats 4000000 in
theorem walkNat (x t : Nat) (hx : x < 18446744073709551616) (i r : Int) (_w1 : -9223372036854775808 ≤ i ∧ i ≤ 9223372036854775807) (ht : tw x i = t) (hr : i.tmod 8 = r) (hr1 : -8 < r ∧ r < 8)
    (b8 : Bool) (h8 : (r == 0) = b8) (hb8 : b8 = true → ((t : Int) != (x : Int)) = false) (bg : Bool) (hg : decide (-4611686018427387904 < i) = bg)
    (hlast : ∀ k : Nat, k < 8 → byt t k = byt x (((k : Int) + r + 8) % 8).toNat) (w : World) :
    Calls Try.prog 8 #[.int .u64 x, .int .i64 i] w fun e w' => e = .returned (.bool true) ∧ Below w.heap.size w w' := by
  have HX := Lib.hid hx
  have HT := Lib.hid ht
  have HL := Lib.hid hlast
  clear hx ht hlast
  cases b8
  all_goals
    cases bg
    all_goals
      simp only [true_implies, Bool.false_eq_true, false_implies] at hb8
      go_enter Try.func8, Try.ntmps8
      go_wp2_with fail
      refine (Try.wakes_any _).mono ?_
      rintro e wa ⟨rfl, hBa⟩
      go_wp2_with fail
      refine (turn x i t HT.out _).mono ?_
      rintro e wb ⟨rfl, hBb⟩
      have hb := hBa.trans (hBb.mono hBa.size)
      clear hBa hBb
      go_wp2_with fail
      go_loopw [6, 16] (fun xv j wr => ∃ k : Nat, k ≤ 8 ∧ j = .int .i64 k ∧ xv = .int .u64 (tw x k : Nat) ∧ Below w.heap.size w wr) (fun _ j _ => 8 - (intOf j).toNat)
      case atStart => exact ⟨0, Nat.zero_le _, rfl, by rw [tw_all HX.out rfl], hb⟩
      case round =>
        obtain ⟨k, hk, rfl, rfl, hr⟩ := hrel
        by_cases hlt : k < 8
        · go_wp2_with fail
          refine (turn (tw x k) 1 (tw x (k + 1 : Nat)) (by rw [tw_tw]; rfl) _).mono ?_
          rintro e wc ⟨rfl, hBc⟩
          have hc := hr.trans (hBc.mono hr.size)
          clear hr hBc
          go_wp2_with fail
          go_roundw
          case rel => exact ⟨k + 1, by omega, by go_num, rfl, hc⟩
          case measure => simp [intOf]; omega
        · obtain rfl : k = 8 := by omega
          have h8 : tw x ((8 : Nat) : Int) = x := tw_all HX.out (by decide)
          rw [h8]
          clear h8
          go_wp2_with fail
          refine (turn x 0 x (tw_all HX.out (by decide)) _).mono ?_
          rintro e wc ⟨rfl, hBc⟩
          have hc := hr.trans (hBc.mono hr.size)
          clear hr hBc hb hk hlt
          go_wp2_with fail
          try (refine (turn t (wrap64 (-i)) x (by rw [← HT.out, tw_mod _ (wrap64_mod (-i))]; exact tw_back HX.out i) _).mono ?_
               rintro e wd ⟨rfl, hBd⟩
               replace hc := hc.trans (hBd.mono hc.size)
               clear hBd
               go_wp2_with fail)
          refine (Try.Bytes_any x _).mono ?_
          rintro e we ⟨rfl, hBe⟩
          replace hc := hc.trans (hBe.mono hc.size)
          clear hBe
          go_wp2_with fail
          refine (Try.Bytes_any t _).mono ?_
          rintro e wf ⟨rfl, hBf⟩
          replace hc := hc.trans (hBf.mono hc.size)
          clear hBf
          simp only [arr8]
          go_wp2_with fail
          have q7 : Rows8 ((wf.alloc (.cells #[.int .u8 (byt x 0 : Nat), .int .u8 (byt x 1 : Nat), .int .u8 (byt x 2 : Nat), .int .u8 (byt x 3 : Nat), .int .u8 (byt x 4 : Nat), .int .u8 (byt x 5 : Nat), .int .u8 (byt x 6 : Nat), .int .u8 (byt x 7 : Nat)] 27)).alloc (.cells #[.int .u8 (byt t 0 : Nat), .int .u8 (byt t 1 : Nat), .int .u8 (byt t 2 : Nat), .int .u8 (byt t 3 : Nat), .int .u8 (byt t 4 : Nat), .int .u8 (byt t 5 : Nat), .int .u8 (byt t 6 : Nat), .int .u8 (byt t 7 : Nat)] 27)) wf.heap.size 27 (arr8 fun n => .int .u8 (byt x n : Nat)) := (Rows8.new wf 27 #[.int .u8 (byt x 0 : Nat), .int .u8 (byt x 1 : Nat), .int .u8 (byt x 2 : Nat), .int .u8 (byt x 3 : Nat), .int .u8 (byt x 4 : Nat), .int .u8 (byt x 5 : Nat), .int .u8 (byt x 6 : Nat), .int .u8 (byt x 7 : Nat)]).alloc _
          have q8 : Rows8 ((wf.alloc (.cells #[.int .u8 (byt x 0 : Nat), .int .u8 (byt x 1 : Nat), .int .u8 (byt x 2 : Nat), .int .u8 (byt x 3 : Nat), .int .u8 (byt x 4 : Nat), .int .u8 (byt x 5 : Nat), .int .u8 (byt x 6 : Nat), .int .u8 (byt x 7 : Nat)] 27)).alloc (.cells #[.int .u8 (byt t 0 : Nat), .int .u8 (byt t 1 : Nat), .int .u8 (byt t 2 : Nat), .int .u8 (byt t 3 : Nat), .int .u8 (byt t 4 : Nat), .int .u8 (byt t 5 : Nat), .int .u8 (byt t 6 : Nat), .int .u8 (byt t 7 : Nat)] 27)) (wf.heap.size + 1) 27 (arr8 fun n => .int .u8 (byt t n : Nat)) := by
            have := Rows8.new (wf.alloc (.cells #[.int .u8 (byt x 0 : Nat), .int .u8 (byt x 1 : Nat), .int .u8 (byt x 2 : Nat), .int .u8 (byt x 3 : Nat), .int .u8 (byt x 4 : Nat), .int .u8 (byt x 5 : Nat), .int .u8 (byt x 6 : Nat), .int .u8 (byt x 7 : Nat)] 27)) 27 #[.int .u8 (byt t 0 : Nat), .int .u8 (byt t 1 : Nat), .int .u8 (byt t 2 : Nat), .int .u8 (byt t 3 : Nat), .int .u8 (byt t 4 : Nat), .int .u8 (byt t 5 : Nat), .int .u8 (byt t 6 : Nat), .int .u8 (byt t 7 : Nat)]
            rw [World.size_alloc] at this
            exact this
          have hB : Below w.heap.size w ((wf.alloc (.cells #[.int .u8 (byt x 0 : Nat), .int .u8 (byt x 1 : Nat), .int .u8 (byt x 2 : Nat), .int .u8 (byt x 3 : Nat), .int .u8 (byt x 4 : Nat), .int .u8 (byt x 5 : Nat), .int .u8 (byt x 6 : Nat), .int .u8 (byt x 7 : Nat)] 27)).alloc (.cells #[.int .u8 (byt t 0 : Nat), .int .u8 (byt t 1 : Nat), .int .u8 (byt t 2 : Nat), .int .u8 (byt t 3 : Nat), .int .u8 (byt t 4 : Nat), .int .u8 (byt t 5 : Nat), .int .u8 (byt t 6 : Nat), .int .u8 (byt t 7 : Nat)] 27)) := (hc.alloc hc.size _).alloc (Nat.le_trans hc.size (by simp)) _
          generalize ((wf.alloc (.cells #[.int .u8 (byt x 0 : Nat), .int .u8 (byt x 1 : Nat), .int .u8 (byt x 2 : Nat), .int .u8 (byt x 3 : Nat), .int .u8 (byt x 4 : Nat), .int .u8 (byt x 5 : Nat), .int .u8 (byt x 6 : Nat), .int .u8 (byt x 7 : Nat)] 27)).alloc (.cells #[.int .u8 (byt t 0 : Nat), .int .u8 (byt t 1 : Nat), .int .u8 (byt t 2 : Nat), .int .u8 (byt t 3 : Nat), .int .u8 (byt t 4 : Nat), .int .u8 (byt t 5 : Nat), .int .u8 (byt t 6 : Nat), .int .u8 (byt t 7 : Nat)] 27)) = W0 at *
          have hR : Rel x t wf.heap.size w W0 0 := ⟨Nat.zero_le _, hB, q7, q8⟩
          clear q7 q8 hB hc
          generalize wf.heap.size = B at *
          go_loopw [9, 54] (fun _ j wr => ∃ k : Nat, j = .int .i64 k ∧ Rel x t B w wr k) (fun _ j _ => 8 - (intOf j).toNat)
          case atStart => exact ⟨0, rfl, hR⟩
          case round =>
            clear hR
            obtain ⟨k, rfl, hk, hBk, r7, r8⟩ := hrel
            by_cases hlt : k < 8
            · have hmx : Try.prog.follows .mixedOrders = true := by kernel_rfl
              obtain ⟨m, hm⟩ : ∃ m : Nat, m = (((k : Int) + r + 8) % 8).toNat := ⟨_, rfl⟩
              have hm8 : m < 8 := by omega
              have em : ((k : Int) + r + 8) % 8 = (m : Int) := by omega
              have em2 : ((k : Int) + r + 8).tmod 8 = (m : Int) := by rw [Int.tmod_eq_emod_of_nonneg (by omega)]; exact em
              have ew1 : IntKind.i64.wrap ((k : Int) + r) = (k : Int) + r := IntWalk.i64_in _ (by omega)
              have ew2 : IntKind.i64.wrap ((k : Int) + r + 8) = (k : Int) + r + 8 := IntWalk.i64_in _ (by omega)
              have c7 := get_arr (byt x) _ B _ r7 m hm8
              have c8 := get_arr (byt t) _ (B + 1) _ r8 k hlt
              have hl := HL.out k hlt
              rw [← hm] at hl
              rw [hl] at c8
              have hne := ne_same (byt x m)
              have R7 := Lib.hid r7
              have R8 := Lib.hid r8
              clear hl hm r7 r8
              go_wp2
              refine wp_region_still_lit hmx (by kernel_rfl) ?_
              have hmi : (m : Int) < 8 := by omega
              repeat still_step
              refine wpStill_nil ?_
              clear em em2 ew1 ew2
              go_wp2
              exact ⟨⟨k + 1, by go_num, by omega, hBk.drew, R7.out, R8.out⟩, by simp [intOf]; omega⟩
            · obtain rfl : k = 8 := by omega
              clear r7 r8
              go_wp2
              go_ret
              exact ⟨rfl, hBk⟩

theorem walk (a0 : Int) (a1 : Int) (w0 : (Lit.int .u64 a0).wf = true) (w1 : (Lit.int .i64 a1).wf = true) (w : World) :
    Calls Try.prog 8 #[.int .u64 a0, .int .i64 a1] w fun e w' => e = .returned (.bool true) ∧ Below w.heap.size w w' := by
  have b0 := bounds_u64 w0
  have b1 := bounds_i64 w1
  obtain ⟨x, rfl⟩ := Int.eq_ofNat_of_zero_le b0.1
  have hx : x < 18446744073709551616 := by omega
  refine walkNat x (tw x a1) hx a1 (a1.tmod 8) b1 rfl rfl ?_ _ rfl ?_ _ rfl ?_ w
  · have h1 := Int.tmod_lt_of_pos a1 (show (0 : Int) < 8 by decide)
    have h2 : -8 < a1.tmod 8 := by
      rw [Int.tmod_eq_emod]
      split
      · omega
      · simp only [Int.natAbs]
        omega
    exact ⟨h2, h1⟩
  · intro h
    rw [tw_all hx ((tmod_zero a1).1 (eq_of_beq h))]
    simp
  · intro k hk
    have h1 := tmod_ring k a1 hk
    rw [byt_tw _ _ hk, h1]
    congr 1
    have h2 : -8 < a1.tmod 8 := by
      rw [Int.tmod_eq_emod]
      split
      · omega
      · simp only [Int.natAbs]
        omega
    rw [Int.tmod_eq_emod_of_nonneg (by omega)]

set_option maxRecDepth 100000 in
theorem lifted (os : Os) (started : os.Started) (H : Type) (enc : TypeId × Value → H) :
    ReturnsInHanded {} Try.checked os 8 .any (Rows.lanesTurnsSpec.pre6 enc Try.prog Try.f8 Rows.lanesTurnsRow.domain false) (Rows.lanesTurnsSpec.post enc Try.prog Try.f8 false true false false) := by
  refine returnsInHanded_of_change (C := Try.checked) own started (by kernel_rfl) Try.func8
    (ChangeSpec.witness6 (enc := enc) (C := Try.checked) false ⟨#[], #[.int .u64 0, .int .i64 0], []⟩ 8 (by kernel_rfl) (by kernel_rfl) (by kernel_rfl) (by kernel_rfl)) ?_
  intro W base args ds gs before hval0 hW hcnd _
  have hval : ∀ (j : Nat) t v, Try.f8.params[j]? = some t → args[j]? = some v → Value.okWide Try.prog W .any base t v := hval0
  have hW' := hW
  obtain ⟨p, q, hA0, hV, rfl, hfz, hnd⟩ := hW
  have hA : DataW.TrodAll enc Try.prog W 0 (fun _ => true) true Try.f8.params.toList args.toList ds p := hA0
  rw [Try.params8] at hA hval
  obtain ⟨v0, vs0, d0, ds0, p0, q0, hargs, rfl, rfl, h0, r0⟩ := trodAll_cons hA
  obtain ⟨v1, vs1, d1, ds1, p1, q1, rfl, rfl, rfl, h1, r1⟩ := trodAll_cons r0
  obtain ⟨rfl, rfl, rfl⟩ := trodAll_nil r1
  obtain rfl : args = #[v0, v1] := by cases args; simp_all
  obtain ⟨rfl, rfl⟩ := trodVars_none hV
  obtain ⟨a0, rfl, rfl, rfl, w0⟩ := open_int Try.underlying23 (hval 0 23 v0 rfl rfl) h0
  obtain ⟨a1, rfl, rfl, rfl, w1⟩ := open_int Try.underlying3 (hval 1 3 v1 rfl rfl) h1
  clear hA0 hval0
  simp only [List.append_nil] at hW'
  refine (walk a0 a1 w0 w1 W).mono fun e W' ⟨he, hg⟩ => ?_
  subst he
  exact ⟨_, rfl, post_lies (pa := []) (pv := []) hW' (fun _ _ _ => (trodAll_cons_mk (shut_bool Try.underlying4 _) trodAll_mk0)) (fun sp _ => (trodAll_cons_mk (shut_int Try.underlying23 w0) (trodAll_cons_mk (shut_int Try.underlying3 w1) trodAll_mk0))) (fun _ _ => rfl) hg⟩

theorem over : Rows.lanesTurnsRow.holds Try.pinned (OpenSpec.ofChange Rows.lanesTurnsSpec) :=
  OpenClaim.holds_of_wide 8 Try.f8 rfl rfl rfl rfl rfl rfl rfl ⟨rfl, rfl, rfl, rfl, rfl⟩ rfl rfl rfl rfl rfl (by kernel_rfl) Try.func8 (by kernel_rfl)
    (of_decide_eq_true (by kernel_rfl)) (by unfold Func.isWrapper; first | (rw [if_pos (by decide +kernel)]; kernel_rfl) | (rw [if_neg (by decide +kernel)]; exact ⟨rfl, rfl⟩))
    (fun os started H enc _ => lifted os started H enc)

theorem proved : Rows.LanesTurnsSaid := over
end Go.Proofs.Ytapmmefkblednaa.lanesTurns
