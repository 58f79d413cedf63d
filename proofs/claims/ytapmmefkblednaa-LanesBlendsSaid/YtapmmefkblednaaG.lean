/- Of of lanes; what wakes asks. -/
import Derived.Test.YtapmmefkblednaaF
import Derived.Laws.CopyOwn
namespace Go.Proofs
open Go.RowKit Go.Shelf
attribute [local go_sem] Oper.semAt_some

/-- The slice value sv holds the bytes bs. -/
def BytesAt (W : World) (sv : Value) (bs : List Nat) : Prop :=
  (sv = .slice none 0 0 ∧ bs = []) ∨ ∃ b off cap, sv = .slice (some ⟨b, off, none⟩) bs.length cap ∧ b < W.heap.size ∧ ∀ j, j < bs.length → W.cell? ⟨b, off + j, none⟩ = some (.int .u8 ((bs[j]?.getD 0 : Nat) : Int))
theorem BytesAt.below {A B : World} {h : Nat} (p : Below h A B) (hh : A.heap.size ≤ h) {sv : Value} {bs : List Nat} : BytesAt A sv bs → BytesAt B sv bs
  | .inl e => .inl e
  | .inr ⟨b, off, cap, e, hb, hc⟩ => .inr ⟨b, off, cap, e, Nat.lt_of_lt_of_le hb p.size, fun j hj => (p.cell (p := ⟨b, off + j, none⟩) (Nat.lt_of_lt_of_le hb hh)).trans (hc j hj)⟩

theorem splice8 (bs : List Nat) : (splice [Value.int .u8 0, .int .u8 0, .int .u8 0, .int .u8 0, .int .u8 0, .int .u8 0, .int .u8 0, .int .u8 0] 0 ((bs.take 8).map fun b => Value.int .u8 ((b : Nat) : Int))).toArray = arr8 fun (n : Nat) => .int .u8 ((bs[n]?.getD 0 : Nat) : Int) := by
  match bs with
  | [] => rfl
  | [a] => simp [splice, arr8]
  | [a, b] => simp [splice, arr8]
  | [a, b, c] => simp [splice, arr8]
  | [a, b, c, d] => simp [splice, arr8]
  | [a, b, c, d, e] => simp [splice, arr8]
  | [a, b, c, d, e, f] => simp [splice, arr8]
  | [a, b, c, d, e, f, g] => simp [splice, arr8]
  | a :: b :: c :: d :: e :: f :: g :: h :: r => simp [splice, arr8]

set_option maxHeartbeats 1000000 in
theorem Try.Of_any (a : Option Addr) (len cap : Nat) (bs : List Nat) (hb : ∀ n : Nat, bs[n]?.getD 0 < 256) (hlen : len = bs.length) (w : World) (hI : BytesAt w (.slice a len cap) bs) :
    Calls Try.prog 12 #[.slice a len cap] w fun e w' => e = .returned (.int .u64 (ofB fun (n : Nat) => bs[n]?.getD 0 : Nat)) ∧ Below w.heap.size w w' := by
  have hB0 : Below w.heap.size w (w.alloc (.cells #[.int .u8 0, .int .u8 0, .int .u8 0, .int .u8 0, .int .u8 0, .int .u8 0, .int .u8 0, .int .u8 0] 27)) := (Below.refl _ w).alloc (Nat.le_refl _) _
  have b0 := Rows8.new w 27 #[.int .u8 0, .int .u8 0, .int .u8 0, .int .u8 0, .int .u8 0, .int .u8 0, .int .u8 0, .int .u8 0]
  have hI' := hI.below hB0 (Nat.le_refl _)
  have HI := Lib.hid hI'
  have HB := Lib.hid hb
  have HL := Lib.hid hlen
  clear hI hI' hb hlen
  go_enter Try.func12, Try.ntmps12
  go_wp2_with (refine wpList_copy_splice rfl (.tmp 4) (.tmp 5) 22 22 rfl 5 Try.underlying22 (by kernel_rfl) (some ⟨w.heap.size, 0, none⟩) a 8 8 len cap rfl rfl w.heap.size 0 [.int .u8 0, .int .u8 0, .int .u8 0, .int .u8 0, .int .u8 0, .int .u8 0, .int .u8 0, .int .u8 0] 27 b0 ((bs.take 8).map fun (b : Nat) => Value.int .u8 (b : Int)) ?c1 ?c2 ?c3 ?c4 w.heap.size w hB0 (Nat.le_refl _) ?_)
  case c1 => simp [HL.out, Nat.min_comm]
  case c2 =>
    intro hpos
    rcases HI.out with ⟨e1, e2⟩ | ⟨b, off, cap', e1, _, e3⟩
    · subst e2; simp at hpos
    · cases e1
      refine ⟨_, rfl, fun j v hv => ?_⟩
      rw [List.getElem?_take] at hv
      by_cases h8 : j < 8
      · rw [if_pos h8, List.getElem?_map] at hv
        cases hj : bs[j]? with
        | none => rw [hj] at hv; cases hv
        | some x =>
          rw [hj] at hv
          have hl : j < bs.length := (List.getElem?_eq_some_iff.1 hj).1
          have h3 := e3 j hl
          rw [hj] at h3
          have hadd : (⟨b, off, none⟩ : Addr).add j = ⟨b, off + j, none⟩ := by unfold Addr.add; split <;> simp_all
          rw [hadd]
          simpa using h3.trans hv
      · rw [if_neg h8] at hv; cases hv
  case c3 => simp; omega
  case c4 =>
    intro v hv
    obtain ⟨b, _, rfl⟩ := List.mem_map.1 hv
    rfl
  intro w1 hg hB1
  have hr : Rows8 w1 w.heap.size 27 (arr8 fun (n : Nat) => .int .u8 ((bs[n]?.getD 0 : Nat) : Int)) := by
    rw [← splice8, List.map_take]
    exact hg.out
  obtain ⟨r0, r1, r2, r3, r4, r5, r6, r7⟩ := Rows8.all hr
  have hj := Try.join_any (fun (n : Nat) => bs[n]?.getD 0) HB.out w1
  unfold arr8 at hj
  have HJ := Lib.hid hj
  clear hr hj hg HI b0
  go_wp2_with fail
  refine HJ.out.mono ?_
  rintro e w2 ⟨rfl, hB2⟩
  go_wp2
  go_ret
  exact ⟨rfl, hB1.trans (hB2.mono hB1.size)⟩

theorem Try.wkPut (w : World) (b : Nat) (t : TypeId) (hb : Rows8 w b t #[.int .i64 1, .int .i64 0]) :
    Calls Try.prog 19 #[.int .u64 0, .int .u8 7, .slice (some ⟨b, 0, none⟩) 2 2] w fun e w' => e = .returned (.tuple #[.int .u64 1799, .int .i64 0]) ∧ Below w.heap.size w w' := by
  have h := Try.Put_yes 0 7 (by decide) (by decide) (some ⟨b, 0, none⟩) 2 2 [⟨1, by decide⟩, ⟨0, by decide⟩] (by decide) w (.inr ⟨b, 0, 2, rfl, hb.lt, fun j hj => by
    match j, hj with
    | 0, _ => exact hb.cell 0
    | 1, _ => exact hb.cell 1⟩)
  have e : setAll (fun _ => 7) 0 [⟨1, by decide⟩, ⟨0, by decide⟩] = 1799 := by decide +kernel
  rw [e] at h
  exact h
theorem Try.wkGet (w : World) : Calls Try.prog 16 #[.int .u64 513, .int .i64 8] w fun e w' => e = .returned (.tuple #[.int .u8 0, .int .i64 110]) ∧ w = w' := Try.Get_no 513 8 (by omega) w
theorem Try.wkFirst (w : World) : Calls Try.prog 29 #[.int .u8 12] w fun e w' => e = .returned (.tuple #[.int .i64 2, .bool true]) ∧ Below w.heap.size w w' := by
  have h := Try.First_any 12 (by decide) w
  have e : lanesOf 12 = [⟨2, by decide⟩, ⟨3, by decide⟩] := by decide
  rw [e] at h
  exact h
theorem Try.wkOf (w : World) (b : Nat) (t : TypeId) (hb : Rows8 w b t #[.int .u8 1, .int .u8 2, .int .u8 255]) :
    Calls Try.prog 12 #[.slice (some ⟨b, 0, none⟩) 3 3] w fun e w' => e = .returned (.int .u64 16712193) ∧ Below w.heap.size w w' := by
  have h := Try.Of_any (some ⟨b, 0, none⟩) 3 3 [1, 2, 255] (fun n => by
    match n with
    | 0 => decide
    | 1 => decide
    | 2 => decide
    | n + 3 => simp) rfl w (.inr ⟨b, 0, 3, rfl, hb.lt, fun j hj => by
    match j, hj with
    | 0, _ => exact hb.cell 0
    | 1, _ => exact hb.cell 1
    | 2, _ => exact hb.cell 2⟩)
  have e : (ofB fun (n : Nat) => ([1, 2, 255] : List Nat)[n]?.getD 0) = 16712193 := by decide +kernel
  rw [e] at h
  exact h
theorem Try.wkFill (w : World) : Calls Try.prog 21 #[.int .u8 3] w fun e w' => e = .returned (.int .u64 217020518514230019) ∧ Below w.heap.size w w' := by
  have h := Try.Fill_any 3 (by decide) w
  have e : (ofB fun _ => 3) = 217020518514230019 := by decide +kernel
  rw [e] at h
  exact h
theorem Try.wkEqual (w : World) : Calls Try.prog 22 #[.int .u64 513, .int .u8 0] w fun e w' => e = .returned (.int .u8 252) ∧ Below w.heap.size w w' := by
  have h := Try.Equal_any 513 0 w
  have e : (maskB fun n => byt 513 n == 0) = 252 := by decide +kernel
  rw [e] at h
  exact h
theorem Try.wkBelow (w : World) : Calls Try.prog 24 #[.int .u64 513, .int .u8 2] w fun e w' => e = .returned (.int .u8 253) ∧ Below w.heap.size w w' := by
  have h := Try.Below_any 513 2 w
  have e : (maskB fun n => decide (byt 513 n < 2)) = 253 := by decide +kernel
  rw [e] at h
  exact h
theorem Try.wkTurn (w : World) : Calls Try.prog 34 #[.int .u64 513, .int .i64 (-1)] w fun e w' => e = .returned (.int .u64 131328) ∧ Below w.heap.size w w' := by
  have h := Try.Turn_any 513 (-1) w
  have e : (ofB fun (n : Nat) => byt 513 (((n : Int) + -1) % 8).toNat) = 131328 := by decide +kernel
  rw [e] at h
  exact h

/-- wakes: the layer does what it is asked. -/
def wakesQ (w : World) (e : Ending) (w' : World) : Prop := e = .returned (.bool true) ∧ Below w.heap.size w w'
set_option maxHeartbeats 2000000 in
theorem Try.wakes_any (w : World) : Calls Try.prog 9 #[] w (wakesQ w) := by
  go_enter Try.func9, Try.ntmps9
  go_wp2_with fail
  have b0 := Rows8.new w 3 #[.int .i64 1, .int .i64 0]
  have hB0 : Below w.heap.size w (w.alloc (.cells #[.int .i64 1, .int .i64 0] 3)) := (Below.refl _ w).alloc (Nat.le_refl _) _
  generalize (w.alloc (.cells #[.int .i64 1, .int .i64 0] 3)) = W0 at *
  refine (Try.wkPut _ _ _ b0).mono ?_
  rintro e w1 ⟨rfl, hB1⟩
  have hb1 := hB0.trans (hB1.mono hB0.size)
  clear hB1 hB0 b0
  go_wp2_with fail
  refine (Try.wkGet _).mono ?_
  rintro e w2 ⟨rfl, rfl⟩
  go_wp2_with fail
  refine (Try.wkFirst _).mono ?_
  rintro e w2 ⟨rfl, hB2⟩
  have hb2 := hb1.trans (hB2.mono hb1.size)
  clear hb1 hB2
  go_wp2_with fail
  have c0 := Rows8.new w2 5 #[.int .u8 1, .int .u8 2, .int .u8 255]
  have hC0 : Below w.heap.size w (w2.alloc (.cells #[.int .u8 1, .int .u8 2, .int .u8 255] 5)) := hb2.alloc hb2.size _
  generalize (w2.alloc (.cells #[.int .u8 1, .int .u8 2, .int .u8 255] 5)) = W2 at *
  refine (Try.wkOf _ _ _ c0).mono ?_
  rintro e w3 ⟨rfl, hB3⟩
  have hb3 := hC0.trans (hB3.mono hC0.size)
  clear hb2 hB3 hC0 c0
  go_wp2_with fail
  refine (Try.wkFill _).mono ?_
  rintro e w4 ⟨rfl, hB4⟩
  have hb4 := hb3.trans (hB4.mono hb3.size)
  clear hb3 hB4
  go_wp2_with fail
  refine (Try.wkEqual _).mono ?_
  rintro e w5 ⟨rfl, hB5⟩
  have hb5 := hb4.trans (hB5.mono hb4.size)
  clear hb4 hB5
  go_wp2_with fail
  refine (Try.wkBelow _).mono ?_
  rintro e w6 ⟨rfl, hB6⟩
  have hb6 := hb5.trans (hB6.mono hb5.size)
  clear hb5 hB6
  go_wp2_with fail
  refine (Try.wkTurn _).mono ?_
  rintro e w7 ⟨rfl, hB7⟩
  have hb7 := hb6.trans (hB7.mono hb6.size)
  clear hb6 hB7
  go_wp2
  go_ret
  exact ⟨rfl, hb7⟩
end Go.Proofs
