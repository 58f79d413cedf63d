/- Ctrl: which lanes are what; Check, Stops, Sets, Match, New. -/
import Derived.Test.YtmjlaienklheiaaJc
namespace Go.Proofs
set_option maxRecDepth 100000
open Go.RowKit Go.Shelf
attribute [local go_sem] Oper.semAt_some

/-- The lanes whose byte says that. -/
def setK (x t : Nat) : Nat := maskB fun k => kd (byt x k) == t
/-- May the word be? -/
def rightC (x : Nat) : Bool := setK x 3 == 0
/-- Does it stop? -/
def stopsC (x : Nat) : Bool := !(setK x 1 == 0)
theorem setK_lt (x t : Nat) : setK x t < 256 := maskB_lt _
theorem Try.are_any (x t : Nat) (w : World) : Calls Try.prog 51 #[.int .u64 x, .int .i64 t] w fun e w' => e = .returned (.int .u8 (setK x t : Nat)) ∧ Below w.heap.size w w' := by
  have a0 := (Rows8.new w 63 #[.int .i64 t]).alloc (.cells #[.int .u64 x] 59)
  have a1 := Rows8.new (w.alloc (.cells #[.int .i64 t] 63)) 59 #[.int .u64 x]
  rw [World.size_alloc] at a1
  have hB0 : Below w.heap.size w ((w.alloc (.cells #[.int .i64 t] 63)).alloc (.cells #[.int .u64 x] 59)) := ((Below.refl _ w).alloc (Nat.le_refl _) _).alloc (by simp) _
  have HW := Lib.hid (Try.whereK_any x t _ _ _ a1 a0)
  have HB := Lib.hid hB0
  clear a0 a1 hB0
  go_enter Try.func51, Try.ntmps51
  go_wp2_with (first
    | (go_at_call 62; refine (Try.slots_any _ _).mono ?_; rintro e w' ⟨rfl, rfl⟩)
    | (go_at_call 63; refine HW.out.mono ?_; rintro e w2 ⟨rfl, hB2⟩))
  go_ret
  exact ⟨rfl, HB.out.trans (hB2.mono HB.out.size)⟩
theorem Try.mayBe_any (x : Nat) (w : World) : Calls Try.prog 34 #[.int .u64 x] w fun e w' => e = .returned (.bool (rightC x)) ∧ Below w.heap.size w w' := by
  have HA := Lib.hid (Try.are_any x 3 w)
  have e : rightC x = (((setK x 3 : Nat) : Int) == 0) := by
    unfold rightC
    exact (natEq_walk _ 0).symm
  rw [e]
  clear e
  go_enter Try.func34, Try.ntmps34
  go_wp2_with (go_at_call 51; refine HA.out.mono ?_; rintro e w2 ⟨rfl, hB2⟩)
  go_ret
  exact ⟨rfl, hB2⟩
theorem Try.stops_any (x : Nat) (w : World) : Calls Try.prog 37 #[.int .u64 x] w fun e w' => e = .returned (.bool (stopsC x)) ∧ Below w.heap.size w w' := by
  have HA := Lib.hid (Try.are_any x 1 w)
  have e : stopsC x = !(((setK x 1 : Nat) : Int) == 0) := by
    unfold stopsC
    exact congrArg _ (natEq_walk _ 0).symm
  rw [e]
  clear e
  go_enter Try.func37, Try.ntmps37
  go_wp2_with (go_at_call 51; refine HA.out.mono ?_; rintro e w2 ⟨rfl, hB2⟩)
  go_ret
  exact ⟨rfl, hB2⟩
theorem Try.Check_any (x : Nat) (w : World) : Calls Try.prog 11 #[.int .u64 x] w fun e w' => e = .returned (.int .i64 (if rightC x then 0 else 190)) ∧ Below w.heap.size w w' := by
  have HA := Lib.hid (Try.mayBe_any x w)
  cases h : rightC x
  · rw [h] at HA
    go_enter Try.func11, Try.ntmps11
    go_wp2_with (go_at_call 34; refine HA.out.mono ?_; rintro e w2 ⟨rfl, hB2⟩)
    go_ret
    exact ⟨rfl, hB2⟩
  · rw [h] at HA
    go_enter Try.func11, Try.ntmps11
    go_wp2_with (go_at_call 34; refine HA.out.mono ?_; rintro e w2 ⟨rfl, hB2⟩)
    go_ret
    exact ⟨rfl, hB2⟩
theorem Try.Stops_any (x : Nat) (w : World) : Calls Try.prog 14 #[.int .u64 x] w fun e w' => e = .returned (.bool (rightC x && stopsC x)) ∧ Below w.heap.size w w' := by
  have HA := Lib.hid (Try.mayBe_any x w)
  have HS := Lib.hid fun W => Try.stops_any x W
  cases h : rightC x
  · rw [h] at HA
    go_enter Try.func14, Try.ntmps14
    go_wp2_with (go_at_call 34; refine HA.out.mono ?_; rintro e w2 ⟨rfl, hB2⟩)
    go_ret
    exact ⟨rfl, hB2⟩
  · rw [h] at HA
    go_enter Try.func14, Try.ntmps14
    go_wp2_with (first
      | (go_at_call 34; refine HA.out.mono ?_; rintro e w2 ⟨rfl, hB2⟩)
      | (go_at_call 37; refine (HS.out _).mono ?_; rintro e w3 ⟨rfl, hB3⟩))
    go_ret
    exact ⟨by simp, hB2.trans (hB3.mono hB2.size)⟩
theorem Try.New_any (w : World) : Calls Try.prog 18 #[] w fun e w' => e = .returned (.int .u64 (ofB fun _ => 128 : Nat)) ∧ Below w.heap.size w w' := by
  have HF := Lib.hid (Try.Fill_any 128 (by decide) w)
  go_enter Try.func18, Try.ntmps18
  go_wp2_with (go_at_call 42; refine HF.out.mono ?_; rintro e w2 ⟨rfl, hB2⟩)
  go_ret
  exact ⟨rfl, hB2⟩

def arr4 (x k : Nat) : Array Value := #[.int .u8 (if 0 < k then setK x 0 else 0 : Nat), .int .u8 (if 1 < k then setK x 1 else 0 : Nat), .int .u8 (if 2 < k then setK x 2 else 0 : Nat), .int .u8 (if 3 < k then setK x 3 else 0 : Nat)]
set_option maxHeartbeats 2000000 in
theorem Try.sets_any (x : Nat) (w : World) : Calls Try.prog 35 #[.int .u64 x] w fun e w' => e = .returned (.agg (arr4 x 4)) ∧ Below w.heap.size w w' := by
  have HA := Lib.hid fun t W => Try.are_any x t W
  have a0 := (Rows8.new w 61 #[.int .u8 0, .int .u8 0, .int .u8 0, .int .u8 0]).alloc (.cells #[.int .u8 0, .int .u8 0, .int .u8 0, .int .u8 0] 61)
  have a1 := Rows8.new (w.alloc (.cells #[.int .u8 0, .int .u8 0, .int .u8 0, .int .u8 0] 61)) 61 #[.int .u8 0, .int .u8 0, .int .u8 0, .int .u8 0]
  rw [World.size_alloc] at a1
  have hB0 : Below w.heap.size w ((w.alloc (.cells #[.int .u8 0, .int .u8 0, .int .u8 0, .int .u8 0] 61)).alloc (.cells #[.int .u8 0, .int .u8 0, .int .u8 0, .int .u8 0] 61)) := ((Below.refl _ w).alloc (Nat.le_refl _) _).alloc (by simp) _
  go_enter Try.func35, Try.ntmps35
  go_wp2
  generalize ((w.alloc (.cells #[.int .u8 0, .int .u8 0, .int .u8 0, .int .u8 0] 61)).alloc (.cells #[.int .u8 0, .int .u8 0, .int .u8 0, .int .u8 0] 61)) = W0 at *
  go_loopw [4, 5] (fun u j wr => ∃ k : Nat, k ≤ 4 ∧ j = .int .i64 k ∧ Rows8 wr w.heap.size 61 #[.int .u8 0, .int .u8 0, .int .u8 0, .int .u8 0] ∧ Rows8 wr (w.heap.size + 1) 61 (arr4 x k) ∧ Below w.heap.size w wr) (fun _ j _ => 4 - (intOf j).toNat)
  case atStart => exact ⟨0, Nat.zero_le _, rfl, a0, a1, hB0⟩
  case round =>
    obtain ⟨k, hk, rfl, h0, h1, hb⟩ := hrel
    have H0 := Lib.hid h0
    have HB := Lib.hid hb
    by_cases hlt : k < 4
    · have H1 := Lib.hid h1
      have hl1 := h1.lt
      have HC : Hid (∀ W, Below wr.heap.size wr W → W.cell? ⟨w.heap.size + 1, k, none⟩ = (arr4 x k)[k]? ∧ W.frozen? ⟨w.heap.size + 1, k, none⟩ = false) := Lib.hid fun W b => ⟨(h1.below b hl1).cell k, (h1.below b hl1).frozen k⟩
      have HS : Hid ((arr4 x k).setIfInBounds k (.int .u8 (setK x k : Nat)) = arr4 x (k + 1)) := Lib.hid (by
        match k, hlt with
        | 0, _ => simp [arr4]
        | 1, _ => simp [arr4]
        | 2, _ => simp [arr4]
        | 3, _ => simp [arr4])
      have hk4 : ∃ v, (arr4 x k)[k]? = some v := by
        match k, hlt with
        | 0, _ => exact ⟨_, rfl⟩
        | 1, _ => exact ⟨_, rfl⟩
        | 2, _ => exact ⟨_, rfl⟩
        | 3, _ => exact ⟨_, rfl⟩
      obtain ⟨v, hv⟩ := hk4
      rw [hv] at HC
      have hki : (k : Int) < 4 := by omega
      clear h0 hb h1 a0 a1 hB0 hv
      go_wp2_with fail
      refine (HA.out k wr).mono ?_
      rintro e w2 ⟨rfl, hB2⟩
      obtain ⟨hc, hf⟩ := HC.out w2 hB2
      have HB2 := Lib.hid hB2
      clear hB2
      go_wp2_with fail
      refine ⟨⟨k + 1, by omega, by go_num, ?_, ?_, ?_⟩, by simp [intOf]; omega⟩
      · exact (H0.out.below HB2.out H0.out.lt).setOther (by simp) _
      · have h := (H1.out.below HB2.out hl1).set k (.int .u8 (setK x k : Nat))
        rw [HS.out] at h
        exact h
      · exact (HB.out.trans (HB2.out.mono HB.out.size)).setCell (by simp) _
    · obtain rfl : k = 4 := by omega
      have h1' : Rows8 wr (w.heap.size + 1) 61 (arr4 x 4) := h1
      obtain ⟨c0, c1, c2, c3⟩ : wr.cell? ⟨w.heap.size + 1, 0, none⟩ = some (.int .u8 (setK x 0 : Nat)) ∧ wr.cell? ⟨w.heap.size + 1, 1, none⟩ = some (.int .u8 (setK x 1 : Nat)) ∧ wr.cell? ⟨w.heap.size + 1, 2, none⟩ = some (.int .u8 (setK x 2 : Nat)) ∧ wr.cell? ⟨w.heap.size + 1, 3, none⟩ = some (.int .u8 (setK x 3 : Nat)) := ⟨h1.cell 0, h1.cell 1, h1.cell 2, h1.cell 3⟩
      obtain ⟨d0, d1, d2, d3⟩ : wr.cell? ⟨w.heap.size, 0, none⟩ = some (.int .u8 0) ∧ wr.cell? ⟨w.heap.size, 1, none⟩ = some (.int .u8 0) ∧ wr.cell? ⟨w.heap.size, 2, none⟩ = some (.int .u8 0) ∧ wr.cell? ⟨w.heap.size, 3, none⟩ = some (.int .u8 0) := ⟨h0.cell 0, h0.cell 1, h0.cell 2, h0.cell 3⟩
      obtain ⟨f0, f1, f2, f3⟩ : wr.frozen? ⟨w.heap.size, 0, none⟩ = false ∧ wr.frozen? ⟨w.heap.size, 1, none⟩ = false ∧ wr.frozen? ⟨w.heap.size, 2, none⟩ = false ∧ wr.frozen? ⟨w.heap.size, 3, none⟩ = false := ⟨h0.frozen 0, h0.frozen 1, h0.frozen 2, h0.frozen 3⟩
      clear h0 h1 h1' hb a0 a1 hB0
      go_wp2_with fail
      have hfin := (((H0.out.set 0 (.int .u8 (setK x 0 : Nat))).set 1 (.int .u8 (setK x 1 : Nat))).set 2 (.int .u8 (setK x 2 : Nat))).set 3 (.int .u8 (setK x 3 : Nat))
      simp only [List.setIfInBounds_toArray, List.set_cons_zero, List.set_cons_succ] at hfin
      refine bodyPost_ret (results_cell_row rfl _ _ w.heap.size 61 _ (0, 0) _ rfl hfin Try.underlying61 rfl (by kernel_rfl)) rfl ⟨rfl, ?_⟩
      exact (((HB.out.setCell (p := ⟨w.heap.size, 0, none⟩) (Nat.le_refl _) _).setCell (p := ⟨w.heap.size, 1, none⟩) (Nat.le_refl _) _).setCell (p := ⟨w.heap.size, 2, none⟩) (Nat.le_refl _) _).setCell (p := ⟨w.heap.size, 3, none⟩) (Nat.le_refl _) _
end Go.Proofs
