/- The layer does something. -/
import Derived.Test.YtmkpjpdjjdmklaaKu
namespace Go.Proofs
open Go.RowKit Go.Shelf
attribute [local go_sem] Oper.semAt_some

theorem choose4 : chooseB [0, 2, 5] 4 = (2, 0) := by decide +kernel
theorem choosem : chooseB [0, 2, 5] (-1) = (5, 0) := by decide +kernel
theorem steer5 : steerB [0, 2, 5] 5 = (2, 0) := by decide +kernel
theorem steer1 : steerB [0] 1 = (0, 4) := by decide +kernel
def l3 : List Tn := bothB [0, 0, 1]
theorem next3 : nextR 2 l3 [0, 1] = (0, 0) := by decide +kernel
theorem hungry3 : hungryR 2 l3 2 = [1] := by decide +kernel
theorem least3 : leastR 2 l3 = 3 := by decide +kernel
theorem shares3 : sharesR 2 l3 = [2, 1] := by decide +kernel
theorem laps3 : lapsR 2 l3 = 1 := by
  have h1 : rightB 2 l3 = true := by decide +kernel
  have h2 : lapB 2 l3 = 3 := by decide +kernel
  have h3 : lapsB 2 l3 = 1 := by
    rw [lapsB_yes (by rw [h2]; decide), h2, lapsB_no (by decide)]
  unfold lapsR
  rw [if_pos h1, show (2 : Int).toNat = 2 from rfl, h3]
  rfl
theorem ints_lit (W : World) (zs : List Int) (hz : zs.length ≤ 1000) : IntsAt (W.alloc (.cells (intVals zs).toArray 3)) (.slice (some ⟨W.heap.size, 0, none⟩) zs.length zs.length) zs := by
  have h := World.ownsRow_lit (base := W.heap.size) (e := 3) (size := 1) W (intVals zs).toArray zs.length (Nat.le_refl _) (by unfold maxLen; omega) (by simp [intVals_length])
  exact rowAt_own h

theorem Try.equalSame_any (a1 a2 : Option Addr) (n c1 c2 : Nat) (xs : List Int) (hx : n = xs.length) (hl : n ≤ 10000) (w : World) (h1 : IntsAt w (.slice a1 n c1) xs) (h2 : IntsAt w (.slice a2 n c2) xs) :
    Calls Try.prog 16 #[.slice a1 n c1, .slice a2 n c2] w fun e w' => e = .returned (.bool true) ∧ Below w.heap.size w w' :=
  (Try.equalInts_any a1 a2 n n c1 c2 xs xs hx hx hl hl w h1 h2).mono fun e w' ⟨he, hB⟩ => ⟨by rw [he]; simp, hB⟩
set_option maxRecDepth 100000 in
set_option maxHeartbeats 8000000 in
theorem Try.wakes_any (w : World) :
    Calls Try.prog 9 #[] w fun e w' => e = .returned (.bool true) ∧ Below w.heap.size w w' := by
  have c4 := fun (W : World) h => Try.Choose_any (some ⟨W.heap.size, 0, none⟩) 3 3 [0, 2, 5] rfl 4 (W.alloc (.cells #[.int .i64 0, .int .i64 2, .int .i64 5] 3)) h
  have cm := fun (W : World) h => Try.Choose_any (some ⟨W.heap.size, 0, none⟩) 3 3 [0, 2, 5] rfl (-1) (W.alloc (.cells #[.int .i64 0, .int .i64 2, .int .i64 5] 3)) h
  have s5 := fun (W : World) h => Try.Steer_any (some ⟨W.heap.size, 0, none⟩) 3 3 [0, 2, 5] rfl 5 (W.alloc (.cells #[.int .i64 0, .int .i64 2, .int .i64 5] 3)) h
  have s1 := fun (W : World) h => Try.Steer_any (some ⟨W.heap.size, 0, none⟩) 1 1 [0] rfl 1 (W.alloc (.cells #[.int .i64 0] 3)) h
  rw [choose4] at c4
  rw [choosem] at cm
  rw [steer5] at s5
  rw [steer1] at s1
  have C4 := Lib.hid c4
  have CM := Lib.hid cm
  have S5 := Lib.hid s5
  have S1 := Lib.hid s1
  clear c4 cm s5 s1
  go_enter Try.func9, Try.ntmps9
  go_wp2_with fail
  refine (C4.out w (ints_lit w [0, 2, 5] (by decide))).mono ?_
  rintro e w1 ⟨rfl, rfl⟩
  have B1 : Below w.heap.size w (w.alloc (.cells #[.int .i64 0, .int .i64 2, .int .i64 5] 3)) := (Below.refl _ w).alloc (Nat.le_refl _) _
  generalize (w.alloc (.cells #[.int .i64 0, .int .i64 2, .int .i64 5] 3)) = w1 at *
  go_wp2_with fail
  refine (CM.out w1 (ints_lit w1 [0, 2, 5] (by decide))).mono ?_
  rintro e w2 ⟨rfl, rfl⟩
  have B2 := B1.alloc B1.size (.cells #[.int .i64 0, .int .i64 2, .int .i64 5] 3)
  clear B1
  generalize (w1.alloc (.cells #[.int .i64 0, .int .i64 2, .int .i64 5] 3)) = w2 at *
  go_wp2_with fail
  refine (S5.out w2 (ints_lit w2 [0, 2, 5] (by decide))).mono ?_
  rintro e w3 ⟨rfl, rfl⟩
  have B3 := B2.alloc B2.size (.cells #[.int .i64 0, .int .i64 2, .int .i64 5] 3)
  clear B2
  generalize (w2.alloc (.cells #[.int .i64 0, .int .i64 2, .int .i64 5] 3)) = w3 at *
  go_wp2_with fail
  have hboth := Try.both_any (some ⟨w3.heap.size, 0, none⟩) 3 3 [0, 0, 1] rfl (by decide) _ (ints_lit w3 [0, 0, 1] (by decide))
  have B4 := B3.alloc B3.size (.cells #[.int .i64 0, .int .i64 0, .int .i64 1] 3)
  clear B3
  refine hboth.mono ?_
  rintro e w5 ⟨v, rfl, hO, hB⟩
  have hT := hO.at
  obtain ⟨_, ⟨_, a5, c5, rfl, _⟩, _⟩ := hT
  have hT := Lib.hid (show TurnsAt w5 (.slice a5 3 c5) l3 from hO.at)
  have B5 := B4.trans (hB.mono B4.size)
  clear B4 hB hO hboth
  rw [show (bothB [0, 0, 1]).length = 3 from rfl]
  go_wp2_with fail
  have t6 := hT.out.below ((Below.refl _ w5).alloc (Nat.le_refl _) (.cells #[.int .i64 0, .int .i64 1] 3))
  have B6 := B5.alloc B5.size (.cells #[.int .i64 0, .int .i64 1] 3)
  have hnx := Try.Next_any 2 a5 3 c5 l3 (by decide) (some ⟨w5.heap.size, 0, none⟩) 2 2 [0, 1] rfl _ t6 (ints_lit w5 [0, 1] (by decide))
  rw [next3] at hnx
  refine hnx.mono ?_
  rintro e w7 ⟨rfl, hB⟩
  have T7 := Lib.hid (t6.below hB)
  have B7 := B6.trans (hB.mono B6.size)
  clear t6 B6 B5 hnx hB hT
  go_wp2_with fail
  refine (S1.out w7 (ints_lit w7 [0] (by decide))).mono ?_
  rintro e w8 ⟨rfl, rfl⟩
  have T8 := Lib.hid (T7.out.below ((Below.refl _ w7).alloc (Nat.le_refl _) (.cells #[.int .i64 0] 3)))
  have B8 := B7.alloc B7.size (.cells #[.int .i64 0] 3)
  clear B7 T7
  generalize (w7.alloc (.cells #[.int .i64 0] 3)) = w8 at *
  go_wp2_with fail
  have hhu := Try.Hungry_any 2 2 a5 3 c5 l3 w8 T8.out
  rw [hungry3] at hhu
  refine hhu.mono ?_
  rintro e w9 ⟨a9, c9, rfl, h9, hB⟩
  have T9 := T8.out.below hB
  have B9 := B8.trans (hB.mono B8.size)
  clear B8 T8 hhu hB
  have h9a := RowAt.below h9 ((Below.refl _ w9).alloc (Nat.le_refl _) (.cells #[.int .i64 1] 3))
  have T10 := Lib.hid (T9.below ((Below.refl _ w9).alloc (Nat.le_refl _) (.cells #[.int .i64 1] 3)))
  have B10 := B9.alloc B9.size (.cells #[.int .i64 1] 3)
  have heq := Try.equalSame_any a9 (some ⟨w9.heap.size, 0, none⟩) 1 c9 1 [1] rfl (by decide) _ h9a (ints_lit w9 [1] (by decide))
  have HEQ := Lib.hid heq
  clear h9 T9 B9 h9a heq
  go_wp2_with fail
  refine HEQ.out.mono ?_
  rintro e w11 ⟨rfl, hB⟩
  have T11 := Lib.hid (T10.out.below hB)
  have B11 := B10.trans (hB.mono B10.size)
  clear T10 B10 hB HEQ
  go_wp2_with fail
  have hle := Try.Least_any 2 a5 3 c5 l3 (by decide) w11 T11.out
  rw [least3] at hle
  refine hle.mono ?_
  rintro e w12 ⟨rfl, hB⟩
  have T12 := Lib.hid (T11.out.below hB)
  have B12 := B11.trans (hB.mono B11.size)
  clear T11 B11 hB hle
  go_wp2_with fail
  have hla := Try.Laps_any 2 a5 3 c5 l3 (by decide) w12 T12.out
  rw [laps3] at hla
  refine hla.mono ?_
  rintro e w13 ⟨rfl, hB⟩
  have T13 := Lib.hid (T12.out.below hB)
  have B13 := B12.trans (hB.mono B12.size)
  clear T12 B12 hB hla
  go_wp2_with fail
  have hsh := Try.Shares_any 2 a5 3 c5 l3 w13 T13.out
  rw [shares3] at hsh
  refine hsh.mono ?_
  rintro e w14 ⟨a14, c14, rfl, h14, hB⟩
  have B14 := B13.trans (hB.mono B13.size)
  clear T13 B13 hB hsh
  have h14a := RowAt.below h14 ((Below.refl _ w14).alloc (Nat.le_refl _) (.cells #[.int .i64 2, .int .i64 1] 3))
  have B15 := B14.alloc B14.size (.cells #[.int .i64 2, .int .i64 1] 3)
  have heq := Try.equalSame_any a14 (some ⟨w14.heap.size, 0, none⟩) 2 c14 2 [2, 1] rfl (by decide) _ h14a (ints_lit w14 [2, 1] (by decide))
  have HEQ := Lib.hid heq
  clear h14 h14a heq B14
  go_wp2_with fail
  refine HEQ.out.mono ?_
  rintro e w16 ⟨rfl, hB⟩
  have B16 := B15.trans (hB.mono B15.size)
  clear B15 hB HEQ
  go_wp2_with fail
  go_ret
  exact ⟨rfl, B16⟩
end Go.Proofs
