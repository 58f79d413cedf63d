/- Of of lanes; what wakes asks. -/
import Derived.Test.YtacphakpmmickaaGreatZF
import Derived.Laws.CopyOwn
namespace Go.Proofs
set_option maxRecDepth 100000
open Go.RowKit Go.Shelf
attribute [local go_sem] Oper.semAt_some

/-- The slice value sv holds the bytes bs. -/
def BytesAt (W : World) (sv : Value) (bs : List Nat) : Prop :=
  (sv = .slice none 0 0 ∧ bs = []) ∨ ∃ b off cap, sv = .slice (some ⟨b, off, none⟩) bs.length cap ∧ b < W.heap.size ∧ ∀ j, j < bs.length → W.cell? ⟨b, off + j, none⟩ = some (.int .u8 ((bs[j]?.getD 0 : Nat) : Int))
theorem BytesAt.below {A B : World} {h : Nat} (p : Below h A B) (hh : A.heap.size ≤ h) {sv : Value} {bs : List Nat} : BytesAt A sv bs → BytesAt B sv bs
  | .inl e => .inl e
  | .inr ⟨b, off, cap, e, hb, hc⟩ => .inr ⟨b, off, cap, e, Nat.lt_of_lt_of_le hb p.size, fun j hj => (p.cell (p := ⟨b, off + j, none⟩) (Nat.lt_of_lt_of_le hb hh)).trans (hc j hj)⟩

theorem splice8 (bs : List Nat) : (splice [Value.int .u8 0, .int .u8 0, .int .u8 0, .int .u8 0, .int .u8 0, .int .u8 0, .int .u8 0, .int .u8 0] 0 ((bs.take 8).map fun b => Value.int .u8 ((b : Nat) : Int))).toArray = arr8 fun (n : Nat) => .int .u8 ((bs[n]?.getD 0 : Nat) : Int) := by
  match bs with
  | [] => rfl
  | [a] => simp [splice, arr8]
  | [a, b] => simp [splice, arr8]
  | [a, b, c] => simp [splice, arr8]
  | [a, b, c, d] => simp [splice, arr8]
  | [a, b, c, d, e] => simp [splice, arr8]
  | [a, b, c, d, e, f] => simp [splice, arr8]
  | [a, b, c, d, e, f, g] => simp [splice, arr8]
  | a :: b :: c :: d :: e :: f :: g :: h :: r => simp [splice, arr8]

theorem Tryz.wkPut (w : World) (b : Nat) (t : TypeId) (hb : Rows8 w b t #[.int .i64 1, .int .i64 0]) :
    Calls Tryz.prog 100 #[.int .u64 0, .int .u8 7, .slice (some ⟨b, 0, none⟩) 2 2] w fun e w' => e = .returned (.tuple #[.int .u64 1799, .int .i64 0]) ∧ Below w.heap.size w w' := by
  have h := Tryz.Put_yes 0 7 (by decide) (by decide) (some ⟨b, 0, none⟩) 2 2 [⟨1, by decide⟩, ⟨0, by decide⟩] (by decide) w (.inr ⟨b, 0, 2, rfl, hb.lt, fun j hj => by
    match j, hj with
    | 0, _ => exact hb.cell 0
    | 1, _ => exact hb.cell 1⟩)
  have e : setAll (fun _ => 7) 0 [⟨1, by decide⟩, ⟨0, by decide⟩] = 1799 := by decide +kernel
  rw [e] at h
  exact h
theorem Tryz.wkGet (w : World) : Calls Tryz.prog 42 #[.int .u64 513, .int .i64 8] w fun e w' => e = .returned (.tuple #[.int .u8 0, .int .i64 110]) ∧ w = w' := Tryz.Get_no 513 8 (by omega) w
theorem Tryz.wkFirst (w : World) : Calls Tryz.prog 50 #[.int .u8 12] w fun e w' => e = .returned (.tuple #[.int .i64 2, .bool true]) ∧ Below w.heap.size w w' := by
  have h := Tryz.First_any 12 (by decide) w
  have e : lanesOf 12 = [⟨2, by decide⟩, ⟨3, by decide⟩] := by decide
  rw [e] at h
  exact h
theorem Tryz.wkFill (w : World) : Calls Tryz.prog 53 #[.int .u8 3] w fun e w' => e = .returned (.int .u64 217020518514230019) ∧ Below w.heap.size w w' := by
  have h := Tryz.Fill_any 3 (by decide) w
  have e : (ofB fun _ => 3) = 217020518514230019 := by decide +kernel
  rw [e] at h
  exact h
theorem Tryz.wkBelow (w : World) : Calls Tryz.prog 64 #[.int .u64 513, .int .u8 2] w fun e w' => e = .returned (.int .u8 253) ∧ Below w.heap.size w w' := by
  have h := Tryz.Below_any 513 2 w
  have e : (maskB fun n => decide (byt 513 n < 2)) = 253 := by decide +kernel
  rw [e] at h
  exact h
/-- wakes: the layer does what it is asked. -/
def wakesQ (w : World) (e : Ending) (w' : World) : Prop := e = .returned (.bool true) ∧ Below w.heap.size w w'
end Go.Proofs
