/- Proved: for every word, byte and number, honeycomblaw01.LanesThere returns true, and its arguments read as they did; no condition. -/
import Derived.Test.YtapmmefkblednaaH
import Derived.Deep.RegionHeld3
namespace Go.Proofs.Ytapmmefkblednaa.lanesThere
open Go.ChangeShapes Go.WideShapes Go.ChangeAt Go.RowKit Go.Shelf
attribute [local go_sem] Oper.semAt_some

theorem own : ownKnob Try.prog.godebug = none := by kernel_rfl

/-- The eight bytes of an array's slice. -/
theorem bytesAt8 (g : Nat → Nat) (W : World) (B : Nat) (tt : TypeId) (h : Rows8 W B tt (arr8 fun n => .int .u8 (g n : Nat))) : BytesAt W (.slice (some ⟨B, 0, none⟩) 8 8) [g 0, g 1, g 2, g 3, g 4, g 5, g 6, g 7] :=
  .inr ⟨B, 0, 8, rfl, h.lt, fun j hj => by
    match j, hj with
    | 0, _ => exact h.cell 0
    | 1, _ => exact h.cell 1
    | 2, _ => exact h.cell 2
    | 3, _ => exact h.cell 3
    | 4, _ => exact h.cell 4
    | 5, _ => exact h.cell 5
    | 6, _ => exact h.cell 6
    | 7, _ => exact h.cell 7⟩
theorem bytes8_lt (x : Nat) (n : Nat) : ([byt x 0, byt x 1, byt x 2, byt x 3, byt x 4, byt x 5, byt x 6, byt x 7] : List Nat)[n]?.getD 0 < 256 := by
  match n with
  | 0 => exact byt_lt x 0
  | 1 => exact byt_lt x 1
  | 2 => exact byt_lt x 2
  | 3 => exact byt_lt x 3
  | 4 => exact byt_lt x 4
  | 5 => exact byt_lt x 5
  | 6 => exact byt_lt x 6
  | 7 => exact byt_lt x 7
  | n + 8 => simp
theorem ofB_bytes {x : Nat} (hx : x < 18446744073709551616) : (ofB fun (n : Nat) => ([byt x 0, byt x 1, byt x 2, byt x 3, byt x 4, byt x 5, byt x 6, byt x 7] : List Nat)[n]?.getD 0) = x := by
  refine byt_ext (ofB_lt (bytes8_lt x)) hx fun k hk => ?_
  rw [byt_ofB (bytes8_lt x) hk]
  match k, hk with
  | 0, _ => rfl
  | 1, _ => rfl
  | 2, _ => rfl
  | 3, _ => rfl
  | 4, _ => rfl
  | 5, _ => rfl
  | 6, _ => rfl
  | 7, _ => rfl
theorem of8 (x : Nat) (hx : x < 18446744073709551616) (W : World) (B : Nat) (tt : TypeId) (h : Rows8 W B tt (arr8 fun n => .int .u8 (byt x n : Nat))) :
    Calls Try.prog 12 #[.slice (some ⟨B, 0, none⟩) 8 8] W fun e w' => e = .returned (.int .u64 x) ∧ Below W.heap.size W w' := by
  have h1 := Try.Of_any (some ⟨B, 0, none⟩) 8 8 _ (bytes8_lt x) rfl W (bytesAt8 (byt x) W B tt h)
  rw [ofB_bytes hx] at h1
  exact h1

/-- One lane that is put. -/
theorem putOne (x b k : Nat) (hx : x < 18446744073709551616) (hb : b < 256) (hk : k < 8) (W : World) (B : Nat) (tt : TypeId) (h : Rows8 W B tt #[.int .i64 k]) :
    Calls Try.prog 19 #[.int .u64 x, .int .u8 b, .slice (some ⟨B, 0, none⟩) 1 1] W fun e w' => e = .returned (.tuple #[.int .u64 (setB x k b : Nat), .int .i64 0]) ∧ Below W.heap.size W w' :=
  Try.Put_yes x b hx hb (some ⟨B, 0, none⟩) 1 1 [⟨k, hk⟩] (by simp) W (.inr ⟨B, 0, 1, rfl, h.lt, fun j hj => by
    match j, hj with
    | 0, _ => exact h.cell 0⟩)
theorem putNone (x b i : Int) (hi : bad i) (W : World) (B : Nat) (tt : TypeId) (h : Rows8 W B tt #[.int .i64 i]) :
    Calls Try.prog 19 #[.int .u64 x, .int .u8 b, .slice (some ⟨B, 0, none⟩) 1 1] W fun e w' => e = .returned (.tuple #[.int .u64 0, .int .i64 110]) ∧ Below W.heap.size W w' :=
  Try.Put_no x b (some ⟨B, 0, none⟩) 1 1 [i] (by simp) W (.inr ⟨B, 0, 1, rfl, h.lt, fun j hj => by
    match j, hj with
    | 0, _ => exact h.cell 0⟩) ⟨i, by simp, hi⟩

set_option maxHeartbeats 2000000 in
theorem walkBad (x b : Nat) (hx : x < 18446744073709551616) (i : Int) (hi : bad i) (w : World) :
    Calls Try.prog 6 #[.int .u64 x, .int .u8 b, .int .i64 i] w fun e w' => e = .returned (.bool true) ∧ Below w.heap.size w w' := by
  have HX := Lib.hid hx
  have HI := Lib.hid hi
  clear hx
  by_cases h0 : i < 0
  all_goals
    have h8 : ¬ i < 0 → 8 ≤ i := fun h => hi.elim (fun h' => absurd h' h) id
    clear hi
    try replace h8 := h8 h0
    go_enter Try.func6, Try.ntmps6
    go_wp2_with fail
    refine (Try.wakes_any _).mono ?_
    rintro e wa ⟨rfl, hBa⟩
    go_wp2_with fail
    refine (Try.Bytes_any x _).mono ?_
    rintro e wb ⟨rfl, hBb⟩
    have hb := hBa.trans (hBb.mono hBa.size)
    clear hBa hBb
    simp only [arr8]
    go_wp2_with fail
    have q7 : Rows8 (wb.alloc (.cells #[.int .u8 (byt x 0 : Nat), .int .u8 (byt x 1 : Nat), .int .u8 (byt x 2 : Nat), .int .u8 (byt x 3 : Nat), .int .u8 (byt x 4 : Nat), .int .u8 (byt x 5 : Nat), .int .u8 (byt x 6 : Nat), .int .u8 (byt x 7 : Nat)] 27)) wb.heap.size 27 (arr8 fun n => .int .u8 (byt x n : Nat)) := Rows8.new wb 27 #[.int .u8 (byt x 0 : Nat), .int .u8 (byt x 1 : Nat), .int .u8 (byt x 2 : Nat), .int .u8 (byt x 3 : Nat), .int .u8 (byt x 4 : Nat), .int .u8 (byt x 5 : Nat), .int .u8 (byt x 6 : Nat), .int .u8 (byt x 7 : Nat)]
    have hB : Below w.heap.size w (wb.alloc (.cells #[.int .u8 (byt x 0 : Nat), .int .u8 (byt x 1 : Nat), .int .u8 (byt x 2 : Nat), .int .u8 (byt x 3 : Nat), .int .u8 (byt x 4 : Nat), .int .u8 (byt x 5 : Nat), .int .u8 (byt x 6 : Nat), .int .u8 (byt x 7 : Nat)] 27)) := hb.alloc hb.size _
    generalize (wb.alloc (.cells #[.int .u8 (byt x 0 : Nat), .int .u8 (byt x 1 : Nat), .int .u8 (byt x 2 : Nat), .int .u8 (byt x 3 : Nat), .int .u8 (byt x 4 : Nat), .int .u8 (byt x 5 : Nat), .int .u8 (byt x 6 : Nat), .int .u8 (byt x 7 : Nat)] 27)) = W0 at *
    refine (of8 x HX.out _ _ _ q7).mono ?_
    rintro e wc ⟨rfl, hBc⟩
    replace hB := hB.trans (hBc.mono hB.size)
    clear hBc q7 hb
    go_wp2_with fail
    have q8 := Rows8.new wc 3 #[.int .i64 i]
    replace hB : Below w.heap.size w (wc.alloc (.cells #[.int .i64 i] 3)) := hB.alloc hB.size _
    generalize (wc.alloc (.cells #[.int .i64 i] 3)) = W1 at *
    refine (putNone x b i HI.out _ _ _ q8).mono ?_
    rintro e wd ⟨rfl, hBd⟩
    replace hB := hB.trans (hBd.mono hB.size)
    clear hBd q8
    go_wp2
    go_ret
    exact ⟨rfl, hB⟩

theorem getP (p k g : Nat) (h : k < 8) (hg : byt p k = g) (w : World) : Calls Try.prog 16 #[.int .u64 p, .int .i64 k] w fun e w' => e = .returned (.tuple #[.int .u8 (g : Nat), .int .i64 0]) ∧ w = w' := by
  subst hg
  exact Try.Get_yes p k h w
theorem alikeP (p x m : Nat) (hm : (maskB fun n => byt p n == byt x n) = m) (w : World) : Calls Try.prog 26 #[.int .u64 p, .int .u64 x] w fun e w' => e = .returned (.int .u8 m) ∧ Below w.heap.size w w' := by
  subst hm
  exact Try.Alike_any p x w
theorem equalP (p b m : Nat) (hm : (maskB fun n => byt p n == b) = m) (w : World) : Calls Try.prog 22 #[.int .u64 p, .int .u8 b] w fun e w' => e = .returned (.int .u8 m) ∧ Below w.heap.size w w' := by
  subst hm
  exact Try.Equal_any p b w

set_option maxHeartbeats 2000000 in
theorem walkOk (x b k c p m n : Nat) (hx : x < 18446744073709551616) (hb : b < 256) (hk : k < 8) (hc : byt x k = c) (hp : setB x k b = p) (hpb : byt p k = b) (hm : (maskB fun n => byt p n == byt x n) = m) (hn : (maskB fun n => byt p n == b) = n)
    (h16a : (((m : Nat) : Int) == bits .andNot .u8 255 (IntKind.u8.wrap (2 ^ k))) = true ∨ (((c : Nat) : Int) == ((b : Nat) : Int)) = true)
    (h16b : (bits .and .u8 ((n : Nat) : Int) (IntKind.u8.wrap (2 ^ k)) != 0) = true)
    (hcase : ((((c : Nat) : Int) == ((b : Nat) : Int)) = true ∧ (((m : Nat) : Int) == 255) = true ∧ (((p : Nat) : Int) == ((x : Nat) : Int)) = true) ∨ ((((c : Nat) : Int) == ((b : Nat) : Int)) = false)) (w : World) :
    Calls Try.prog 6 #[.int .u64 x, .int .u8 b, .int .i64 k] w fun e w' => e = .returned (.bool true) ∧ Below w.heap.size w w' := by
  have HX := Lib.hid hx
  have HPut := Lib.hid (putOne x b k hx hb hk)
  have HC := Lib.hid hc
  have HP := Lib.hid hp
  have HM := Lib.hid hm
  have HN := Lib.hid hn
  have HPB := Lib.hid hpb
  have HA := Lib.hid h16a
  have HB := Lib.hid h16b
  have HCase := Lib.hid hcase
  clear h16a h16b hcase
  rw [hp] at HPut
  clear hx hb hc hp hm hn hpb
  go_enter Try.func6, Try.ntmps6
  go_wp2_with fail
  refine (Try.wakes_any _).mono ?_
  rintro e wa ⟨rfl, hBa⟩
  go_wp2_with fail
  refine (Try.Bytes_any x _).mono ?_
  rintro e wb ⟨rfl, hBb⟩
  have hb := hBa.trans (hBb.mono hBa.size)
  clear hBa hBb
  simp only [arr8]
  go_wp2_with fail
  have q7 : Rows8 (wb.alloc (.cells #[.int .u8 (byt x 0 : Nat), .int .u8 (byt x 1 : Nat), .int .u8 (byt x 2 : Nat), .int .u8 (byt x 3 : Nat), .int .u8 (byt x 4 : Nat), .int .u8 (byt x 5 : Nat), .int .u8 (byt x 6 : Nat), .int .u8 (byt x 7 : Nat)] 27)) wb.heap.size 27 (arr8 fun n => .int .u8 (byt x n : Nat)) := Rows8.new wb 27 #[.int .u8 (byt x 0 : Nat), .int .u8 (byt x 1 : Nat), .int .u8 (byt x 2 : Nat), .int .u8 (byt x 3 : Nat), .int .u8 (byt x 4 : Nat), .int .u8 (byt x 5 : Nat), .int .u8 (byt x 6 : Nat), .int .u8 (byt x 7 : Nat)]
  have hB : Below w.heap.size w (wb.alloc (.cells #[.int .u8 (byt x 0 : Nat), .int .u8 (byt x 1 : Nat), .int .u8 (byt x 2 : Nat), .int .u8 (byt x 3 : Nat), .int .u8 (byt x 4 : Nat), .int .u8 (byt x 5 : Nat), .int .u8 (byt x 6 : Nat), .int .u8 (byt x 7 : Nat)] 27)) := hb.alloc hb.size _
  generalize (wb.alloc (.cells #[.int .u8 (byt x 0 : Nat), .int .u8 (byt x 1 : Nat), .int .u8 (byt x 2 : Nat), .int .u8 (byt x 3 : Nat), .int .u8 (byt x 4 : Nat), .int .u8 (byt x 5 : Nat), .int .u8 (byt x 6 : Nat), .int .u8 (byt x 7 : Nat)] 27)) = W0 at *
  refine (of8 x HX.out _ _ _ q7).mono ?_
  rintro e wc ⟨rfl, hBc⟩
  replace hB := hB.trans (hBc.mono hB.size)
  clear hBc q7 hb
  go_wp2_with fail
  have q8 := Rows8.new wc 3 #[.int .i64 k]
  replace hB : Below w.heap.size w (wc.alloc (.cells #[.int .i64 k] 3)) := hB.alloc hB.size _
  generalize (wc.alloc (.cells #[.int .i64 k] 3)) = W1 at *
  refine (HPut.out _ _ _ q8).mono ?_
  rintro e wd ⟨rfl, hBd⟩
  replace hB := hB.trans (hBd.mono hB.size)
  clear hBd q8
  go_wp2_with fail
  refine (getP p k b hk HPB.out _).mono ?_
  rintro e we ⟨rfl, rfl⟩
  go_wp2_with fail
  refine (alikeP p x m HM.out _).mono ?_
  rintro e wf ⟨rfl, hBf⟩
  replace hB := hB.trans (hBf.mono hB.size)
  clear hBf
  go_wp2_with fail
  refine (getP x k c hk HC.out _).mono ?_
  rintro e we ⟨rfl, rfl⟩
  rcases HCase.out with ⟨hc1, hc2, hc3⟩ | hc1
  · go_wp2
    go_ret
    exact ⟨rfl, hB⟩
  · go_wp2_with fail
    have ha := HA.out.resolve_right (by rw [hc1]; decide)
    have hb := HB.out
    go_region_held3 (fun _ => True) (trivial) (first | (go_at_call 22; refine (equalP p b n HN.out _).mono ?_; rintro e wg ⟨rfl, hBg⟩))
    clear ha hb
    go_wp2
    go_ret
    exact ⟨rfl, hB.drew.trans (hBg.mono hB.size)⟩

theorem mask_not (k : Fin 8) : 255 &&& (255 - 2 ^ (k : Nat)) < 256 ∧ ∀ j : Fin 8, (255 &&& (255 - 2 ^ (k : Nat))).testBit j = decide (j ≠ k) := by
  revert k
  decide
theorem setB_self {x k : Nat} (hx : x < 18446744073709551616) (hk : k < 8) : setB x k (byt x k) = x :=
  byt_ext (setB_lt hx hk (byt_lt x k)) hx fun j _ => by
    rw [byt_setB (byt_lt x k)]
    split
    · rename_i h; rw [h]
    · rfl
theorem alike_all (x : Nat) : (maskB fun n => byt x n == byt x n) = 255 :=
  mask_ext (maskB_lt _) (by decide) fun j => by
    rw [testBit_maskB]
    revert j
    simp only [beq_self_eq_true]
    decide
theorem wrap_pow {k : Nat} (hk : k < 8) : IntKind.u8.wrap (2 ^ k) = ((2 ^ k : Nat) : Int) := by
  have h := pow_lt_256 hk
  rw [IntKind.wrap_u8']
  have e : (2 ^ k % 256 : Int) = ((2 ^ k % 256 : Nat) : Int) := by simp
  rw [e, Nat.mod_eq_of_lt h]

theorem walk (a0 : Int) (a1 : Int) (a2 : Int) (w0 : (Lit.int .u64 a0).wf = true) (w1 : (Lit.int .u8 a1).wf = true) (_w2 : (Lit.int .i64 a2).wf = true) (w : World) :
    Calls Try.prog 6 #[.int .u64 a0, .int .u8 a1, .int .i64 a2] w fun e w' => e = .returned (.bool true) ∧ Below w.heap.size w w' := by
  have b0 := bounds_u64 w0
  have b1 := bounds_u8 w1
  obtain ⟨x, rfl⟩ := Int.eq_ofNat_of_zero_le b0.1
  obtain ⟨b, rfl⟩ := Int.eq_ofNat_of_zero_le b1.1
  have hx : x < 18446744073709551616 := by omega
  have hb : b < 256 := by omega
  by_cases hbad : bad a2
  · exact walkBad x b hx a2 hbad w
  · have h2 : 0 ≤ a2 ∧ a2 < 8 := by unfold bad at hbad; omega
    obtain ⟨k, rfl⟩ := Int.eq_ofNat_of_zero_le h2.1
    have hk : k < 8 := by omega
    have hpb := byt_setB_same (x := x) (n := k) hb
    refine walkOk x b k (byt x k) (setB x k b) _ _ hx hb hk rfl rfl hpb rfl rfl ?_ ?_ ?_ w
    · by_cases hc : byt x k = b
      · right; rw [natEq_walk]; simp [hc]
      · left
        have hlt := pow_lt_256 hk
        rw [wrap_pow hk, show (255 : Int) = ((255 : Nat) : Int) from rfl, u8_andNot_nat _ _ (by decide) hlt, natEq_walk, beq_iff_eq]
        obtain ⟨h1, h2⟩ := mask_not ⟨k, hk⟩
        refine mask_ext (maskB_lt _) h1 fun j => ?_
        rw [testBit_maskB, h2 j, byt_setB hb]
        by_cases hj : j = ⟨k, hk⟩
        · subst hj
          simp only [if_true, ne_eq, not_true, decide_false]
          rw [beq_eq_false_iff_ne]
          exact fun h => hc h.symm
        · have hj' : (j : Nat) ≠ k := fun h => hj (Fin.ext h)
          simp [hj, hj']
    · have hlt := pow_lt_256 hk
      rw [wrap_pow hk, u8_and_nat _ _ (maskB_lt _) hlt, bne_iff_ne]
      intro h
      have h0 : (maskB fun n => byt (setB x k b) n == b) &&& 2 ^ k = 0 := by omega
      have h1 := congrArg (fun z => Nat.testBit z k) h0
      simp only [Nat.testBit_and, Nat.testBit_two_pow_self, Bool.and_true, Nat.zero_testBit] at h1
      have h2 := testBit_maskB (fun n => byt (setB x k b) n == b) ⟨k, hk⟩
      simp only [hpb, beq_self_eq_true] at h2
      rw [h2] at h1
      cases h1
    · by_cases hc : byt x k = b
      · left
        subst hc
        rw [setB_self hx hk, alike_all]
        exact ⟨by simp, by decide, by simp⟩
      · right; rw [natEq_walk]; simp [hc]

set_option maxRecDepth 100000 in
theorem lifted (os : Os) (started : os.Started) (H : Type) (enc : TypeId × Value → H) :
    ReturnsInHanded {} Try.checked os 6 .any (Rows.lanesThereSpec.pre6 enc Try.prog Try.f6 Rows.lanesThereRow.domain false) (Rows.lanesThereSpec.post enc Try.prog Try.f6 false true false false) := by
  refine returnsInHanded_of_change (C := Try.checked) own started (by kernel_rfl) Try.func6
    (ChangeSpec.witness6 (enc := enc) (C := Try.checked) false ⟨#[], #[.int .u64 0, .int .u8 0, .int .i64 0], []⟩ 8 (by kernel_rfl) (by kernel_rfl) (by kernel_rfl) (by kernel_rfl)) ?_
  intro W base args ds gs before hval0 hW hcnd _
  have hval : ∀ (j : Nat) t v, Try.f6.params[j]? = some t → args[j]? = some v → Value.okWide Try.prog W .any base t v := hval0
  have hW' := hW
  obtain ⟨p, q, hA0, hV, rfl, hfz, hnd⟩ := hW
  have hA : DataW.TrodAll enc Try.prog W 0 (fun _ => true) true Try.f6.params.toList args.toList ds p := hA0
  rw [Try.params6] at hA hval
  obtain ⟨v0, vs0, d0, ds0, p0, q0, hargs, rfl, rfl, h0, r0⟩ := trodAll_cons hA
  obtain ⟨v1, vs1, d1, ds1, p1, q1, rfl, rfl, rfl, h1, r1⟩ := trodAll_cons r0
  obtain ⟨v2, vs2, d2, ds2, p2, q2, rfl, rfl, rfl, h2, r2⟩ := trodAll_cons r1
  obtain ⟨rfl, rfl, rfl⟩ := trodAll_nil r2
  obtain rfl : args = #[v0, v1, v2] := by cases args; simp_all
  obtain ⟨rfl, rfl⟩ := trodVars_none hV
  obtain ⟨a0, rfl, rfl, rfl, w0⟩ := open_int Try.underlying23 (hval 0 23 v0 rfl rfl) h0
  obtain ⟨a1, rfl, rfl, rfl, w1⟩ := open_int Try.underlying5 (hval 1 5 v1 rfl rfl) h1
  obtain ⟨a2, rfl, rfl, rfl, w2⟩ := open_int Try.underlying3 (hval 2 3 v2 rfl rfl) h2
  clear hA0 hval0
  simp only [List.append_nil] at hW'
  refine (walk a0 a1 a2 w0 w1 w2 W).mono fun e W' ⟨he, hg⟩ => ?_
  subst he
  exact ⟨_, rfl, post_lies (pa := []) (pv := []) hW' (fun _ _ _ => (trodAll_cons_mk (shut_bool Try.underlying4 _) trodAll_mk0)) (fun sp _ => (trodAll_cons_mk (shut_int Try.underlying23 w0) (trodAll_cons_mk (shut_int Try.underlying5 w1) (trodAll_cons_mk (shut_int Try.underlying3 w2) trodAll_mk0)))) (fun _ _ => rfl) hg⟩

theorem over : Rows.lanesThereRow.holds Try.pinned (OpenSpec.ofChange Rows.lanesThereSpec) :=
  OpenClaim.holds_of_wide 6 Try.f6 rfl rfl rfl rfl rfl rfl rfl ⟨rfl, rfl, rfl, rfl, rfl⟩ rfl rfl rfl rfl rfl (by kernel_rfl) Try.func6 (by kernel_rfl)
    (of_decide_eq_true (by kernel_rfl)) (by unfold Func.isWrapper; first | (rw [if_pos (by decide +kernel)]; kernel_rfl) | (rw [if_neg (by decide +kernel)]; exact ⟨rfl, rfl⟩))
    (fun os started H enc _ => lifted os started H enc)

theorem proved : Rows.LanesThereSaid := over
end Go.Proofs.Ytapmmefkblednaa.lanesThere
