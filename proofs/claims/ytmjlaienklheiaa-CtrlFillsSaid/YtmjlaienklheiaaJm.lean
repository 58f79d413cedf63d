/- Ctrl: the layer does what it is asked. -/
import Derived.Test.YtmjlaienklheiaaJl
import Derived.Test.YtmjlaienklheiaaQ
namespace Go.Proofs
set_option maxRecDepth 100000
open Go.RowKit Go.Shelf
attribute [local go_sem] Oper.semAt_some

theorem Try.wkNew (w : World) : Calls Try.prog 18 #[] w fun e w' => e = .returned (.int .u64 9259542123273814144) ∧ Below w.heap.size w w' := by
  have h := Try.New_any w
  have e : (ofB fun _ => 128) = 9259542123273814144 := by decide +kernel
  rw [e] at h
  exact h
theorem Try.wkFills (w : World) (b : Nat) (t : TypeId) (hb : Rows8 w b t #[.int .u8 5, .int .u8 9, .int .u8 5]) :
    Calls Try.prog 26 #[.int .u64 9259542123273814144, .slice (some ⟨b, 0, none⟩) 3 3] w fun e w' => ∃ lv, e = .returned (.tuple #[.int .u64 9259542123265722629, lv, .int .i64 0]) ∧ w'.ownsRow w.heap.size 3 1 lv 3 (nvals [0, 1, 2]) ∧ Below w.heap.size w w' := by
  have h := Try.cFills_any 9259542123273814144 (by decide) (.slice (some ⟨b, 0, none⟩) 3 3) [5, 9, 5] (by decide) (by decide) w ⟨_, 3, rfl, by decide, fun i hi => ⟨b, 0, rfl, hb.lt, by
    match i, hi with
    | 0, _ => exact hb.cell 0
    | 1, _ => exact hb.cell 1
    | 2, _ => exact hb.cell 2⟩⟩
  unfold FillsQ at h
  have e1 : resY 9259542123273814144 (fillsE 9259542123273814144 [5, 9, 5]) (fillsS 9259542123273814144 [5, 9, 5]) = 9259542123265722629 := by decide +kernel
  have e2 : resL 9259542123273814144 [5, 9, 5] = [0, 1, 2] := by decide +kernel
  have e3 : resE 9259542123273814144 (fillsE 9259542123273814144 [5, 9, 5]) = 0 := by decide +kernel
  rw [e1, e2, e3] at h
  exact h
theorem Try.wkMatch (w : World) : Calls Try.prog 16 #[.int .u64 9259542123265722629, .int .u8 5] w fun e w' => e = .returned (.tuple #[.int .u8 5, .int .i64 0]) ∧ Below w.heap.size w w' := by
  have h := Try.Match_any 9259542123265722629 5 w
  have e1 : matchM 9259542123265722629 5 = 5 := by decide +kernel
  have e2 : matchE 9259542123265722629 5 = 0 := by decide +kernel
  rw [e1, e2] at h
  exact h
theorem Try.wkErase (w : World) : Calls Try.prog 21 #[.int .u64 9259542123265722629, .int .i64 1] w fun e w' => e = .returned (.tuple #[.int .u64 9259542123265753093, .int .i64 0]) ∧ Below w.heap.size w w' := by
  have h := Try.cErase_any 9259542123265722629 1 (by decide) w
  have e1 : resY 9259542123265722629 (eraseE 9259542123265722629 1) (eraseS 9259542123265722629 1) = 9259542123265753093 := by decide +kernel
  have e2 : resE 9259542123265722629 (eraseE 9259542123265722629 1) = 0 := by decide +kernel
  rw [e1, e2] at h
  exact h
theorem Try.wkSets (w : World) : Calls Try.prog 12 #[.int .u64 9259542123265753093] w fun e w' => e = .returned (.tuple #[.int .u8 5, .int .u8 250, .int .u8 0]) ∧ Below w.heap.size w w' := by
  have h := Try.Sets_any 9259542123265753093 w
  have e1 : setsE 9259542123265753093 0 = 5 := by decide +kernel
  have e2 : setsE 9259542123265753093 1 = 250 := by decide +kernel
  have e3 : setsE 9259542123265753093 2 = 0 := by decide +kernel
  rw [e1, e2, e3] at h
  exact h
theorem Try.wkErase2 (w : World) : Calls Try.prog 21 #[.int .u64 217020518514230019, .int .i64 4] w fun e w' => e = .returned (.tuple #[.int .u64 217021596551021315, .int .i64 0]) ∧ Below w.heap.size w w' := by
  have h := Try.cErase_any 217020518514230019 4 (by decide) w
  have e1 : resY 217020518514230019 (eraseE 217020518514230019 4) (eraseS 217020518514230019 4) = 217021596551021315 := by decide +kernel
  have e2 : resE 217020518514230019 (eraseE 217020518514230019 4) = 0 := by decide +kernel
  rw [e1, e2] at h
  exact h
theorem Try.wkFill9 (w : World) : Calls Try.prog 20 #[.int .u64 9259542123265722629, .int .i64 0, .int .u8 7] w fun e w' => e = .returned (.tuple #[.int .u64 0, .int .i64 5]) ∧ Below w.heap.size w w' := by
  have h := Try.cFill_any 9259542123265722629 0 7 (by decide) (by decide) w
  have e1 : resY 9259542123265722629 (fillE 9259542123265722629 0 7) (fillS 9259542123265722629 0 7) = 0 := by decide +kernel
  have e2 : resE 9259542123265722629 (fillE 9259542123265722629 0 7) = 5 := by decide +kernel
  rw [e1, e2] at h
  exact h
theorem Try.wkStops (w : World) : Calls Try.prog 14 #[.int .u64 217021596551021315] w fun e w' => e = .returned (.bool false) ∧ Below w.heap.size w w' := by
  have h := Try.Stops_any 217021596551021315 w
  have e1 : (rightC 217021596551021315 && stopsC 217021596551021315) = false := by decide +kernel
  rw [e1] at h
  exact h
theorem Try.wkCheck (w : World) : Calls Try.prog 11 #[.int .u64 255] w fun e w' => e = .returned (.int .i64 190) ∧ Below w.heap.size w w' := by
  have h := Try.Check_any 255 w
  have e1 : rightC 255 = false := by decide +kernel
  rw [e1] at h
  exact h
theorem Try.wkOf8 (w : World) (b : Nat) (t : TypeId) (hb : Rows8 w b t #[.int .u8 3, .int .u8 3, .int .u8 3, .int .u8 3, .int .u8 3, .int .u8 3, .int .u8 3, .int .u8 3]) :
    Calls Try.prog 19 #[.slice (some ⟨b, 0, none⟩) 8 8] w fun e w' => e = .returned (.int .u64 217020518514230019) ∧ w = w' := by
  have h := Try.refOf_any (some ⟨b, 0, none⟩) 8 8 [3, 3, 3, 3, 3, 3, 3, 3] (fun n => by
    rcases Nat.lt_or_ge n 8 with h | h
    · match n, h with
      | 0, _ => decide
      | 1, _ => decide
      | 2, _ => decide
      | 3, _ => decide
      | 4, _ => decide
      | 5, _ => decide
      | 6, _ => decide
      | 7, _ => decide
    · rw [List.getElem?_eq_none (by simpa using h)]; decide) rfl (by decide) w (.inr ⟨b, 0, 8, rfl, hb.lt, fun j hj => by
    match j, hj with
    | 0, _ => exact hb.cell 0
    | 1, _ => exact hb.cell 1
    | 2, _ => exact hb.cell 2
    | 3, _ => exact hb.cell 3
    | 4, _ => exact hb.cell 4
    | 5, _ => exact hb.cell 5
    | 6, _ => exact hb.cell 6
    | 7, _ => exact hb.cell 7⟩)
  have e : (ofB fun (n : Nat) => ([3, 3, 3, 3, 3, 3, 3, 3] : List Nat)[n]?.getD 0) = 217020518514230019 := by decide +kernel
  rw [e] at h
  exact h
end Go.Proofs
