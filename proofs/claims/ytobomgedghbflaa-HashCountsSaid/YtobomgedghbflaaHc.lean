/- Hashes: made, unmade; Of, Key. -/
import Derived.Test.YtobomgedghbflaaHb
namespace Go.Proofs
open Go.RowKit Go.Shelf
attribute [local go_sem] Oper.semAt_some

theorem Try.infoDraft : (Try.prog.info? 52).map (·.size) = some 1 := by kernel_rfl
/-- What a draft is handed back as. -/
def draftV (x : Nat) : Value := .agg #[.int .u64 (x : Int)]
theorem Rows8.grown {A B : World} {b b' : Nat} {t : TypeId} {cs : Array Value} (r : Rows8 A b t cs) (h : A.grownBy B (some b')) (hne : b ≠ b') : Rows8 B b t cs := (h.block b r.lt (fun e => hne (by injection e))).trans r
set_option maxRecDepth 100000 in
set_option maxHeartbeats 2000000 in
theorem Try.made_any (s k : Nat) (hs : s < 18446744073709551616) (hk : k < 18446744073709551616) (w : World) :
    Calls Try.prog 23 #[.int .u64 (s : Int), .int .u64 (k : Int)] w fun e w' => e = .returned (draftV (ofB s k)) ∧ Below w.heap.size w w' := by
  have hx := xor_walk hs hk rfl
  have hl0 := xor_lt hs hk
  have hd : Hid (ofB s k = turnB 29 (mulB 10723151780598845931 (turnB 32 (mulB 13787848793156543929 (s ^^^ k))))) := Lib.hid rfl
  generalize ofB s k = r at *
  generalize s ^^^ k = x0 at *
  have hA : DraftAt ((w.alloc (.cells #[.int .u64 0] 52)).alloc (.cells #[.int .u64 (x0 : Int)] 52)) (w.heap.size + 1) x0 := rows_new2 w _ _ _
  have hR : Rows8 ((w.alloc (.cells #[.int .u64 0] 52)).alloc (.cells #[.int .u64 (x0 : Int)] 52)) w.heap.size 52 #[.int .u64 0] := (Rows8.new w _ _).alloc _
  have hB : Below w.heap.size w ((w.alloc (.cells #[.int .u64 0] 52)).alloc (.cells #[.int .u64 (x0 : Int)] 52)) := ((Below.refl _ w).alloc (Nat.le_refl _) _).alloc (by simp) _
  have HS : ((w.alloc (.cells #[.int .u64 0] 52)).alloc (.cells #[.int .u64 (x0 : Int)] 52)).heap.size = w.heap.size + 2 := by simp [World.size_alloc]
  have hus := Try.underlying52
  go_enter Try.func23, Try.ntmps23
  go_wp2_with fail
  generalize (w.alloc (.cells #[.int .u64 0] 52)).alloc (.cells #[.int .u64 (x0 : Int)] 52) = w0 at *
  have hl1 : mulB 13787848793156543929 x0 < 18446744073709551616 := mulB_lt _ _
  refine (Try.times_any (w.heap.size + 1) x0 13787848793156543929 w0 (by first | exact hA | exact hA)).mono ?_
  rintro e w1 ⟨rfl, hD1, hG1⟩
  replace hR := Rows8.grown hR hG1 (by omega)
  replace hB := hB.grown hG1 (by omega) (fun j ej => by injection ej with ej; omega)
  replace HS : w.heap.size + 2 ≤ w1.heap.size := Nat.le_trans (by omega) hG1.size
  clear hA
  have hA := hD1
  obtain ⟨x1, hx1⟩ : ∃ y, y = mulB 13787848793156543929 x0 := ⟨_, rfl⟩
  rw [← hx1] at hA hl1
  replace hd : Hid (r = turnB 29 (mulB 10723151780598845931 (turnB 32 (x1)))) := Lib.hid (by rw [hd.out, hx1])
  clear hx1 hG1
  go_wp2_with fail
  have hl2 : turnB 32 x1 < 18446744073709551616 := turnB_lt hl1
  refine (Try.turn_any (w.heap.size + 1) x1 32 hl1 (by decide) w1 hA).mono ?_
  rintro e w2 ⟨rfl, hD2, hG2⟩
  replace hR := Rows8.grown hR hG2 (by omega)
  replace hB := hB.grown hG2 (by omega) (fun j ej => by injection ej with ej; omega)
  replace HS : w.heap.size + 2 ≤ w2.heap.size := Nat.le_trans (by omega) hG2.size
  clear hA
  have hA := hD2
  obtain ⟨x2, hx2⟩ : ∃ y, y = turnB 32 x1 := ⟨_, rfl⟩
  rw [← hx2] at hA hl2
  replace hd : Hid (r = turnB 29 (mulB 10723151780598845931 (x2))) := Lib.hid (by rw [hd.out, hx2])
  clear hx2 hG2
  go_wp2_with fail
  have hl3 : mulB 10723151780598845931 x2 < 18446744073709551616 := mulB_lt _ _
  refine (Try.times_any (w.heap.size + 1) x2 10723151780598845931 w2 (by first | exact hA | exact hA)).mono ?_
  rintro e w3 ⟨rfl, hD3, hG3⟩
  replace hR := Rows8.grown hR hG3 (by omega)
  replace hB := hB.grown hG3 (by omega) (fun j ej => by injection ej with ej; omega)
  replace HS : w.heap.size + 2 ≤ w3.heap.size := Nat.le_trans (by omega) hG3.size
  clear hA
  have hA := hD3
  obtain ⟨x3, hx3⟩ : ∃ y, y = mulB 10723151780598845931 x2 := ⟨_, rfl⟩
  rw [← hx3] at hA hl3
  replace hd : Hid (r = turnB 29 (x3)) := Lib.hid (by rw [hd.out, hx3])
  clear hx3 hG3
  go_wp2_with fail
  have hl4 : turnB 29 x3 < 18446744073709551616 := turnB_lt hl3
  refine (Try.turn_any (w.heap.size + 1) x3 29 hl3 (by decide) w3 hA).mono ?_
  rintro e w4 ⟨rfl, hD4, hG4⟩
  replace hR := Rows8.grown hR hG4 (by omega)
  replace hB := hB.grown hG4 (by omega) (fun j ej => by injection ej with ej; omega)
  replace HS : w.heap.size + 2 ≤ w4.heap.size := Nat.le_trans (by omega) hG4.size
  clear hA
  have hA := hD4
  obtain ⟨x4, hx4⟩ : ∃ y, y = turnB 29 x3 := ⟨_, rfl⟩
  rw [← hx4] at hA hl4
  replace hd : Hid (r = x4) := Lib.hid (by rw [hd.out, hx4])
  clear hx4 hG4
  have hc0 := Rows8.cell hA 0
  have hf := Rows8.frozen hR 0
  have hS := Rows8.set hR 0 (.int .u64 (x4 : Int))
  have hBS : Below w.heap.size w (w4.setCell ⟨w.heap.size, 0, none⟩ (.int .u64 (x4 : Int))) := hB.grown (grownBy_setCell' _ _ _) (by omega) (fun j ej => by injection ej with ej; omega)
  have hc1 := Rows8.cell hR 0
  simp at hc0 hc1
  rw [List.setIfInBounds_toArray, List.set_cons_zero] at hS
  clear hA hD1 hD2 hD3 hD4 hR hB
  go_wp2_with fail
  refine bodyPost_ret (results_c rfl _ _ _ _ _ (0, 0) _ rfl hS hus rfl Try.infoDraft) rfl ?_
  exact ⟨by rw [hd.out]; rfl, hBS⟩
set_option maxRecDepth 100000 in
set_option maxHeartbeats 2000000 in
theorem Try.unmade_any (x0 : Nat) (hl0 : x0 < 18446744073709551616) (w : World) :
    Calls Try.prog 25 #[.int .u64 (x0 : Int)] w fun e w' => e = .returned (draftV (unmixB x0)) ∧ Below w.heap.size w w' := by
  have hd : Hid (unmixB x0 = mulB 10871156337175269513 (turnB 32 (mulB 3573116690164977347 (unturn29 (x0))))) := Lib.hid rfl
  generalize unmixB x0 = r at *
  have hA : DraftAt ((w.alloc (.cells #[.int .u64 0] 52)).alloc (.cells #[.int .u64 (x0 : Int)] 52)) (w.heap.size + 1) x0 := rows_new2 w _ _ _
  have hR : Rows8 ((w.alloc (.cells #[.int .u64 0] 52)).alloc (.cells #[.int .u64 (x0 : Int)] 52)) w.heap.size 52 #[.int .u64 0] := (Rows8.new w _ _).alloc _
  have hB : Below w.heap.size w ((w.alloc (.cells #[.int .u64 0] 52)).alloc (.cells #[.int .u64 (x0 : Int)] 52)) := ((Below.refl _ w).alloc (Nat.le_refl _) _).alloc (by simp) _
  have HS : ((w.alloc (.cells #[.int .u64 0] 52)).alloc (.cells #[.int .u64 (x0 : Int)] 52)).heap.size = w.heap.size + 2 := by simp [World.size_alloc]
  have hus := Try.underlying52
  go_enter Try.func25, Try.ntmps25
  go_wp2_with fail
  generalize (w.alloc (.cells #[.int .u64 0] 52)).alloc (.cells #[.int .u64 (x0 : Int)] 52) = w0 at *
  have hl1 : unturn29 x0 < 18446744073709551616 := unturn29_lt hl0
  refine (Try.unturn29_any (w.heap.size + 1) x0 hl0 w0 hA).mono ?_
  rintro e w1 ⟨rfl, hD1, hG1⟩
  replace hR := Rows8.grown hR hG1 (by omega)
  replace hB := hB.grown hG1 (by omega) (fun j ej => by injection ej with ej; omega)
  replace HS : w.heap.size + 2 ≤ w1.heap.size := Nat.le_trans (by omega) hG1.size
  clear hA
  have hA := hD1
  obtain ⟨x1, hx1⟩ : ∃ y, y = unturn29 x0 := ⟨_, rfl⟩
  rw [← hx1] at hA hl1
  replace hd : Hid (r = mulB 10871156337175269513 (turnB 32 (mulB 3573116690164977347 (x1)))) := Lib.hid (by rw [hd.out, hx1])
  clear hx1 hG1
  go_wp2_with fail
  have hl2 : mulB 3573116690164977347 x1 < 18446744073709551616 := mulB_lt _ _
  refine (Try.inverse2_any w1).mono ?_
  rintro e w' ⟨rfl, rfl⟩
  go_wp2_with fail
  refine (Try.times_any (w.heap.size + 1) x1 3573116690164977347 w1 (by first | exact hA | exact hA)).mono ?_
  rintro e w2 ⟨rfl, hD2, hG2⟩
  replace hR := Rows8.grown hR hG2 (by omega)
  replace hB := hB.grown hG2 (by omega) (fun j ej => by injection ej with ej; omega)
  replace HS : w.heap.size + 2 ≤ w2.heap.size := Nat.le_trans (by omega) hG2.size
  clear hA
  have hA := hD2
  obtain ⟨x2, hx2⟩ : ∃ y, y = mulB 3573116690164977347 x1 := ⟨_, rfl⟩
  rw [← hx2] at hA hl2
  replace hd : Hid (r = mulB 10871156337175269513 (turnB 32 (x2))) := Lib.hid (by rw [hd.out, hx2])
  clear hx2 hG2
  go_wp2_with fail
  have hl3 : turnB 32 x2 < 18446744073709551616 := turnB_lt hl2
  refine (Try.unturn32_any (w.heap.size + 1) x2 hl2 w2 hA).mono ?_
  rintro e w3 ⟨rfl, hD3, hG3⟩
  replace hR := Rows8.grown hR hG3 (by omega)
  replace hB := hB.grown hG3 (by omega) (fun j ej => by injection ej with ej; omega)
  replace HS : w.heap.size + 2 ≤ w3.heap.size := Nat.le_trans (by omega) hG3.size
  clear hA
  have hA := hD3
  obtain ⟨x3, hx3⟩ : ∃ y, y = turnB 32 x2 := ⟨_, rfl⟩
  rw [← hx3] at hA hl3
  replace hd : Hid (r = mulB 10871156337175269513 (x3)) := Lib.hid (by rw [hd.out, hx3])
  clear hx3 hG3
  go_wp2_with fail
  have hl4 : mulB 10871156337175269513 x3 < 18446744073709551616 := mulB_lt _ _
  refine (Try.inverse1_any w3).mono ?_
  rintro e w' ⟨rfl, rfl⟩
  go_wp2_with fail
  refine (Try.times_any (w.heap.size + 1) x3 10871156337175269513 w3 (by first | exact hA | exact hA)).mono ?_
  rintro e w4 ⟨rfl, hD4, hG4⟩
  replace hR := Rows8.grown hR hG4 (by omega)
  replace hB := hB.grown hG4 (by omega) (fun j ej => by injection ej with ej; omega)
  replace HS : w.heap.size + 2 ≤ w4.heap.size := Nat.le_trans (by omega) hG4.size
  clear hA
  have hA := hD4
  obtain ⟨x4, hx4⟩ : ∃ y, y = mulB 10871156337175269513 x3 := ⟨_, rfl⟩
  rw [← hx4] at hA hl4
  replace hd : Hid (r = x4) := Lib.hid (by rw [hd.out, hx4])
  clear hx4 hG4
  have hc0 := Rows8.cell hA 0
  have hf := Rows8.frozen hR 0
  have hS := Rows8.set hR 0 (.int .u64 (x4 : Int))
  have hBS : Below w.heap.size w (w4.setCell ⟨w.heap.size, 0, none⟩ (.int .u64 (x4 : Int))) := hB.grown (grownBy_setCell' _ _ _) (by omega) (fun j ej => by injection ej with ej; omega)
  have hc1 := Rows8.cell hR 0
  simp at hc0 hc1
  rw [List.setIfInBounds_toArray, List.set_cons_zero] at hS
  clear hA hD1 hD2 hD3 hD4 hR hB
  go_wp2_with fail
  refine bodyPost_ret (results_c rfl _ _ _ _ _ (0, 0) _ rfl hS hus rfl Try.infoDraft) rfl ?_
  exact ⟨by rw [hd.out]; rfl, hBS⟩
end Go.Proofs
