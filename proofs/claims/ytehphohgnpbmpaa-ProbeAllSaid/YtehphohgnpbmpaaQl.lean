/- Far; wakes. -/
import Derived.Test.YtehphohgnpbmpaaQk
import Derived.Test.YtehphohgnpbmpaaQi
namespace Go.Proofs
open Go.RowKit Go.Shelf
attribute [local go_sem] Oper.semAt_some

theorem Try.Far_no (g : Int) (a : Option Addr) (n c : Nat) (hm : checkE g ≠ 0) (w : World) :
    Calls Try.prog 20 #[.int .i64 g, .slice a n c] w fun e w' => e = .returned (.tuple #[.slice none 0 0, .int .i64 180]) ∧ w = w' := by
  have HC := Lib.hid (Try.Check_any g w)
  rw [checkE_not hm] at HC
  clear hm
  go_enter Try.func20, Try.ntmps20
  go_wp2_with fail
  refine HC.out.mono ?_
  rintro e w1 ⟨rfl, rfl⟩
  go_wp2_with fail
  go_ret2
  exact ⟨rfl, rfl⟩
/-- What Far answers. -/
def FarsQ (g : Nat) (ls : List Nat) (w : World) (e : Ending) (w' : World) : Prop :=
  ∃ b, e = .returned (.tuple #[.slice (some ⟨b, 0, none⟩) g g, .int .i64 0]) ∧ w.heap.size ≤ b ∧ Rows8 w' b 3 (arrN g (farB g ls)) ∧ Below w.heap.size w w'
theorem Try.Far_ok (g : Nat) (hm : mayB g = true) (ws : List Int) (hk : KeysOk ws) (a : Option Addr) (n c : Nat) (hn : n = ws.length) (hl : n ≤ 1000) (w : World) (hI : WordsAt w (.slice a n c) ws) :
    Calls Try.prog 20 #[.int .i64 (g : Int), .slice a n c] w (FarsQ g (lefts g ws) w) := by
  have HC := Lib.hid (Try.Check_any (g : Int) w)
  rw [checkE_may hm] at HC
  have HF := Lib.hid (Try.far_any g hm ws hk a n c hn hl w hI)
  unfold FarsQ
  clear hm hk hn hI
  go_enter Try.func20, Try.ntmps20
  go_wp2_with fail
  refine HC.out.mono ?_
  rintro e w1 ⟨rfl, rfl⟩
  go_wp2_with fail
  refine HF.out.mono ?_
  rintro e w1 ⟨b, rfl, hb, hr, hB⟩
  have HR := Lib.hid hr
  have HB := Lib.hid hB
  clear hr hB
  go_wp2_with fail
  go_ret2
  exact ⟨_, rfl, hb, HR.out, HB.out⟩
theorem farL_at {W : World} {b g : Nat} {ls : List Nat} (hg2 : g ≤ 64) (h : Rows8 W b 3 (arrN g (farB g ls))) : IntsAt W (.slice (some ⟨b, 0, none⟩) g g) (natI (farL g ls)) :=
  arrN_at h (farL_len g ls).symm hg2 (fun k hk => by simp [farL])
theorem words_lit {W : World} {B : Nat} (ws : List Int) (h : Rows8 W B 22 (wordVals ws).toArray) (hl : ws.length ≤ maxLen) : WordsAt W (.slice (some ⟨B, 0, none⟩) ws.length ws.length) ws :=
  ⟨by rw [wordVals_length, Nat.mul_one], _, ws.length, rfl, Nat.le_refl _, hl, (fun e => by cases e), fun j hj => ⟨B, 0, rfl, h.lt, by rw [Nat.zero_add, Rows8.cell h]; simp⟩⟩
theorem bools_lit {W : World} {B : Nat} (ws : List Bool) (h : Rows8 W B 4 (bVals ws).toArray) (hl : ws.length ≤ maxLen) : BAt W (.slice (some ⟨B, 0, none⟩) ws.length ws.length) ws :=
  ⟨by rw [bVals_length, Nat.mul_one], _, ws.length, rfl, Nat.le_refl _, hl, (fun e => by cases e), fun j hj => ⟨B, 0, rfl, h.lt, by rw [Nat.zero_add, Rows8.cell h]; simp⟩⟩
theorem ints_lit {W : World} {B : Nat} (ws : List Int) (h : Rows8 W B 3 (intVals ws).toArray) (hl : ws.length ≤ maxLen) : IntsAt W (.slice (some ⟨B, 0, none⟩) ws.length ws.length) ws :=
  ⟨by rw [intVals_length, Nat.mul_one], _, ws.length, rfl, Nat.le_refl _, hl, (fun e => by cases e), fun j hj => ⟨B, 0, rfl, h.lt, by rw [Nat.zero_add, Rows8.cell h]; simp⟩⟩
set_option maxRecDepth 100000 in
set_option maxHeartbeats 4000000 in
theorem Try.wakes_any (w : World) : Calls Try.prog 8 #[] w fun e w' => e = .returned (.bool true) ∧ Below w.heap.size w w' := by
  have C1 : ∀ W, Hid (Calls Try.prog 11 #[.int .i64 8, .int .u64 0] W (RowQ 8 0 W)) := fun W => Lib.hid (Try.Row_ok 8 0 (by decide) (by decide) W)
  have C2 : ∀ W, Hid (Calls Try.prog 13 #[.int .i64 4, .int .u64 5, .int .i64 0] W fun e w' => e = .returned (.tuple #[.int .i64 2, .int .i64 0]) ∧ Below W.heap.size W w') := fun W => Lib.hid (by
    have h := Try.Place_ok 4 5 0 (by decide) (by decide) (by decide) W
    rw [show place 4 (5 % 4) 0 = 2 by decide] at h
    exact h)
  have C3 : ∀ W, Hid (Calls Try.prog 22 #[.int .i64 4, .int .i64 2, .int .i64 1] W fun e w' => e = .returned (.tuple #[.int .i64 0, .int .i64 0]) ∧ W = w') := fun W => Lib.hid (by
    have h := Try.Next_any 4 2 1 (by decide) W
    have e : nextV ((4 : Nat) : Int) 2 1 = .tuple #[.int .i64 0, .int .i64 0] := by
      unfold nextV
      rw [if_neg (by decide)]
      rfl
    rw [e] at h
    exact h)
  have C4 : ∀ B W, Rows8 W B 4 #[.bool true, .bool false, .bool false, .bool true] → Hid (Calls Try.prog 21 #[.int .i64 4, .int .u64 5, .slice (some ⟨B, 0, none⟩) 4 4] W fun e w' => e = .returned (.tuple #[.int .i64 2, .int .i64 0, .int .i64 0]) ∧ Below W.heap.size W w') := fun B W hR => Lib.hid (by
    have h := Try.First_ok 4 5 (by decide) (by decide) [true, false, false, true] (some ⟨B, 0, none⟩) 4 4 rfl W (bools_lit [true, false, false, true] hR (by unfold maxLen; decide))
    rw [show firstP (flagB [true, false, false, true]) 4 (5 % 4) = some (2, 0) by decide] at h
    exact h)
  have C5 : ∀ B W, Rows8 W B 22 #[.int .u64 0, .int .u64 0, .int .u64 1] → Hid (Calls Try.prog 20 #[.int .i64 2, .slice (some ⟨B, 0, none⟩) 3 3] W (FarsQ 2 [0, 0, 1] W)) := fun B W hR => Lib.hid (by
    have h := Try.Far_ok 2 (by decide) [0, 0, 1] (by intro k hk; simp at hk; omega) (some ⟨B, 0, none⟩) 3 3 rfl (by decide) W (words_lit [0, 0, 1] hR (by unfold maxLen; decide))
    exact h)
  have C6 : ∀ W, Hid (Calls Try.prog 11 #[.int .i64 3, .int .u64 0] W fun e w' => e = .returned (.tuple #[.slice none 0 0, .int .i64 180]) ∧ W = w') := fun W => Lib.hid (Try.Row_no 3 0 (by decide) W)
  have C7 : ∀ B C W, Rows8 W B 53 (arr64 (keptF 8 0 8)) → Rows8 W C 3 #[.int .i64 0, .int .i64 1, .int .i64 3, .int .i64 6, .int .i64 2, .int .i64 7, .int .i64 5, .int .i64 4] →
      Hid (Calls Try.prog 14 #[.slice (some ⟨B, 0, none⟩) 8 64, .slice (some ⟨C, 0, none⟩) 8 8] W fun e w' => e = .returned (.bool true) ∧ Below W.heap.size W w') := fun B C W h1 h2 => Lib.hid (by
    have h := Try.equalInts_any (some ⟨B, 0, none⟩) (some ⟨C, 0, none⟩) 8 8 64 8 (natI (rowG 8 0)) [0, 1, 3, 6, 2, 7, 5, 4] rfl rfl (by decide) (by decide) W (rowQ_at (by decide) h1) (ints_lit [0, 1, 3, 6, 2, 7, 5, 4] h2 (by unfold maxLen; decide))
    rw [show decide (natI (rowG 8 0) = [0, 1, 3, 6, 2, 7, 5, 4]) = true by decide] at h
    exact h)
  have C8 : ∀ B C W, Rows8 W B 3 (arrN 2 (farB 2 [0, 0, 1])) → Rows8 W C 3 #[.int .i64 1, .int .i64 2] →
      Hid (Calls Try.prog 14 #[.slice (some ⟨B, 0, none⟩) 2 2, .slice (some ⟨C, 0, none⟩) 2 2] W fun e w' => e = .returned (.bool true) ∧ Below W.heap.size W w') := fun B C W h1 h2 => Lib.hid (by
    have h := Try.equalInts_any (some ⟨B, 0, none⟩) (some ⟨C, 0, none⟩) 2 2 2 2 (natI (farL 2 [0, 0, 1])) [1, 2] rfl rfl (by decide) (by decide) W (farL_at (by decide) h1) (ints_lit [1, 2] h2 (by unfold maxLen; decide))
    rw [show decide (natI (farL 2 [0, 0, 1]) = [1, 2]) = true by decide] at h
    exact h)
  go_enter Try.func8, Try.ntmps8
  go_wp2_with fail
  refine (C1 _).out.mono ?_
  rintro e w1 ⟨b1, rfl, hb1, hr1, hB1⟩
  have HR1 := Lib.hid hr1
  have HB1 := Lib.hid hB1
  clear hr1 hB1 C1
  go_wp2_with fail
  refine (C2 _).out.mono ?_
  rintro e w2 ⟨rfl, hB2⟩
  have HR2 := Lib.hid (HR1.out.below hB2 HR1.out.lt)
  have HB2 := Lib.hid (HB1.out.trans (hB2.mono HB1.out.size))
  clear hB2 C2 HR1 HB1
  go_wp2_with fail
  refine (C3 _).out.mono ?_
  rintro e w3 ⟨rfl, rfl⟩
  have h4 := C4 _ _ (Rows8.new w2 4 #[.bool true, .bool false, .bool false, .bool true])
  have HB3 : Hid (Below w.heap.size w (w2.alloc (.cells #[.bool true, .bool false, .bool false, .bool true] 4))) := Lib.hid (HB2.out.alloc HB2.out.size _)
  have HR3 := Lib.hid (HR2.out.alloc (.cells #[.bool true, .bool false, .bool false, .bool true] 4))
  clear C3 C4 HB2 HR2
  go_wp2_with fail
  generalize w2.alloc (.cells #[.bool true, .bool false, .bool false, .bool true] 4) = w3 at *
  refine h4.out.mono ?_
  rintro e w4 ⟨rfl, hB4⟩
  have HR4 := Lib.hid (HR3.out.below hB4 HR3.out.lt)
  have HB4 := Lib.hid (HB3.out.trans (hB4.mono HB3.out.size))
  have h5 := C5 _ _ (Rows8.new w4 22 #[.int .u64 0, .int .u64 0, .int .u64 1])
  have HB5 : Hid (Below w.heap.size w (w4.alloc (.cells #[.int .u64 0, .int .u64 0, .int .u64 1] 22))) := Lib.hid (HB4.out.alloc HB4.out.size _)
  have HR5 := Lib.hid (HR4.out.alloc (.cells #[.int .u64 0, .int .u64 0, .int .u64 1] 22))
  clear hB4 h4 HR3 HB3 HR4 HB4 C5
  go_wp2_with fail
  generalize w4.alloc (.cells #[.int .u64 0, .int .u64 0, .int .u64 1] 22) = w5 at *
  refine h5.out.mono ?_
  rintro e w6 ⟨b6, rfl, hb6, hr6, hB6⟩
  have HR6 := Lib.hid (HR5.out.below hB6 HR5.out.lt)
  have HF6 := Lib.hid hr6
  have HB6 := Lib.hid (HB5.out.trans (hB6.mono HB5.out.size))
  clear h5 HR5 HB5 hr6 hB6
  go_wp2_with fail
  refine (C6 _).out.mono ?_
  rintro e w7 ⟨rfl, rfl⟩
  have h7 := C7 _ _ _ (HR6.out.alloc (.cells #[.int .i64 0, .int .i64 1, .int .i64 3, .int .i64 6, .int .i64 2, .int .i64 7, .int .i64 5, .int .i64 4] 3)) (Rows8.new w6 3 _)
  have HB7 : Hid (Below w.heap.size w (w6.alloc (.cells #[.int .i64 0, .int .i64 1, .int .i64 3, .int .i64 6, .int .i64 2, .int .i64 7, .int .i64 5, .int .i64 4] 3))) := Lib.hid (HB6.out.alloc HB6.out.size _)
  have HF7 := Lib.hid (HF6.out.alloc (.cells #[.int .i64 0, .int .i64 1, .int .i64 3, .int .i64 6, .int .i64 2, .int .i64 7, .int .i64 5, .int .i64 4] 3))
  clear C6 C7 HR6 HF6 HB6
  go_wp2_with fail
  generalize w6.alloc (.cells #[.int .i64 0, .int .i64 1, .int .i64 3, .int .i64 6, .int .i64 2, .int .i64 7, .int .i64 5, .int .i64 4] 3) = w7 at *
  refine h7.out.mono ?_
  rintro e w8 ⟨rfl, hB8⟩
  have h8 := C8 _ _ _ ((HF7.out.below hB8 HF7.out.lt).alloc (.cells #[.int .i64 1, .int .i64 2] 3)) (Rows8.new w8 3 _)
  have HB8 := Lib.hid (HB7.out.trans (hB8.mono HB7.out.size))
  have HB9 : Hid (Below w.heap.size w (w8.alloc (.cells #[.int .i64 1, .int .i64 2] 3))) := Lib.hid (HB8.out.alloc HB8.out.size _)
  clear hB8 C8 HB8 HB7 HF7 h7
  go_wp2_with fail
  generalize w8.alloc (.cells #[.int .i64 1, .int .i64 2] 3) = w9 at *
  refine h8.out.mono ?_
  rintro e w10 ⟨rfl, hB10⟩
  go_wp2_with fail
  go_ret
  exact ⟨rfl, HB9.out.trans (hB10.mono HB9.out.size)⟩
end Go.Proofs
