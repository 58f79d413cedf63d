/- where of lanes; the calls that are built of each, join and where. -/
import Derived.Test.YtmjlaienklheiaaC
namespace Go.Proofs
set_option maxRecDepth 100000
open Go.RowKit Go.Shelf
attribute [local go_sem] Oper.semAt_some

theorem arr8_get (g : Nat → Value) (y : Fin 8) : (arr8 g)[(y : Nat)]? = some (g y) := by
  obtain ⟨k, hk⟩ := y
  match k, hk with
  | 0, _ => rfl
  | 1, _ => rfl
  | 2, _ => rfl
  | 3, _ => rfl
  | 4, _ => rfl
  | 5, _ => rfl
  | 6, _ => rfl
  | 7, _ => rfl

theorem drewN_one (W : World) : W.drew = W.drewN 1 := rfl
theorem Try.fill1_any (b : Int) (Bb : Nat) (y : Nat) (W : World) (h2 : W.cell? ⟨Bb, 0, none⟩ = some (.int .u8 b)) :
    Calls Try.prog 57 #[.int .i64 y, .pointer (some ⟨Bb, 0, none⟩)] W fun e W' => e = .returned (.int .u8 b) ∧ W = W' := by
  go_enter Try.func57, Try.ntmps57
  go_wp2
  go_ret
  exact ⟨rfl, rfl⟩
theorem Try.put1_any (b : Int) (Bb : Nat) (y : Nat) (W : World) (h2 : W.cell? ⟨Bb, 0, none⟩ = some (.int .u8 b)) :
    Calls Try.prog 79 #[.int .i64 y, .pointer (some ⟨Bb, 0, none⟩)] W fun e W' => e = .returned (.int .u8 b) ∧ W = W' := by
  go_enter Try.func79, Try.ntmps79
  go_wp2
  go_ret
  exact ⟨rfl, rfl⟩
set_option maxHeartbeats 1000000 in
set_option maxHeartbeats 1000000 in
/-- Bytes: the array of the lanes' bytes. -/
theorem Try.Bytes_any (x : Nat) (w : World) :
    Calls Try.prog 53 #[.int .u64 x] w fun e w' => e = .returned (.agg (arr8 fun n => .int .u8 (byt x n : Nat))) ∧ Below w.heap.size w w' := by
  have hE := Try.each37_any 65 #[.int .u64 x] #[] (fun n => (byt x n : Nat)) (w.alloc (.cells #[.int .u8 0, .int .u8 0, .int .u8 0, .int .u8 0, .int .u8 0, .int .u8 0, .int .u8 0, .int .u8 0] 81))
    (fun y W hW => (Try.at_any x y y.isLt W).mono fun e W' ⟨h1, h2⟩ => ⟨h1, 0, h2.symm⟩)
    (enters_of Try.func65 (by kernel_rfl) rfl)
  have b0 := Rows8.new w 81 #[.int .u8 0, .int .u8 0, .int .u8 0, .int .u8 0, .int .u8 0, .int .u8 0, .int .u8 0, .int .u8 0]
  have hB0 : Below w.heap.size w (w.alloc (.cells #[.int .u8 0, .int .u8 0, .int .u8 0, .int .u8 0, .int .u8 0, .int .u8 0, .int .u8 0, .int .u8 0] 81)) := (Below.refl _ w).alloc (Nat.le_refl _) _
  have HE := Lib.hid hE
  clear hE
  go_enter Try.func53, Try.ntmps53
  go_wp2_with fail
  generalize (w.alloc (.cells #[.int .u8 0, .int .u8 0, .int .u8 0, .int .u8 0, .int .u8 0, .int .u8 0, .int .u8 0, .int .u8 0] 81)) = W0 at *
  refine HE.out.mono ?_
  rintro e W1 ⟨rfl, hB⟩
  have hb2 : Rows8 W1 w.heap.size 81 _ := (hB.block _ b0.lt).trans b0
  obtain ⟨s0, s1, s2, s3, s4, s5, s6, s7⟩ := Rows8.all hb2
  obtain ⟨f0, f1, f2, f3, f4, f5, f6, f7⟩ := Rows8.allf hb2
  have HB2 := Lib.hid hb2
  clear hb2
  simp only [arr8]
  go_wp2
  refine bodyPost_ret (results_cell_row rfl _ _ w.heap.size 81 _ (0, 0) _ rfl (Rows8.set8 HB2.out (fun n => .int .u8 (byt x n : Nat))) Try.underlying81 rfl (by kernel_rfl)) rfl ⟨rfl, ?_⟩
  exact (((((((((hB0.trans (hB.mono hB0.size)).setCell (p := ⟨w.heap.size, 0, none⟩) (Nat.le_refl _) (.int .u8 (byt x 0 : Nat))).setCell (p := ⟨w.heap.size, 1, none⟩) (Nat.le_refl _) (.int .u8 (byt x 1 : Nat))).setCell (p := ⟨w.heap.size, 2, none⟩) (Nat.le_refl _) (.int .u8 (byt x 2 : Nat))).setCell (p := ⟨w.heap.size, 3, none⟩) (Nat.le_refl _) (.int .u8 (byt x 3 : Nat))).setCell (p := ⟨w.heap.size, 4, none⟩) (Nat.le_refl _) (.int .u8 (byt x 4 : Nat))).setCell (p := ⟨w.heap.size, 5, none⟩) (Nat.le_refl _) (.int .u8 (byt x 5 : Nat))).setCell (p := ⟨w.heap.size, 6, none⟩) (Nat.le_refl _) (.int .u8 (byt x 6 : Nat))).setCell (p := ⟨w.heap.size, 7, none⟩) (Nat.le_refl _) (.int .u8 (byt x 7 : Nat)))

set_option maxHeartbeats 1000000 in
theorem Try.Fill_any (b : Nat) (hb : b < 256) (w : World) :
    Calls Try.prog 42 #[.int .u8 b] w fun e w' => e = .returned (.int .u64 (ofB fun _ => b)) ∧ Below w.heap.size w w' := by
  have hb' : ∀ _ : Nat, b < 256 := fun _ => hb
  have HBB := Lib.hid hb'
  clear hb hb'
  go_enter Try.func42, Try.ntmps42
  go_wp2_with fail
  have b0 := Rows8.new w 5 #[.int .u8 b]
  have hB0 : Below w.heap.size w (w.alloc (.cells #[.int .u8 b] 5)) := (Below.refl _ w).alloc (Nat.le_refl _) _
  generalize (w.alloc (.cells #[.int .u8 b] 5)) = W0 at *
  have hE := Try.each37_any 57 #[] #[.pointer (some ⟨w.heap.size, 0, none⟩)] (fun _ => (b : Nat)) W0
    (fun y W hW => (Try.fill1_any b w.heap.size y W ((hW.cell (p := ⟨w.heap.size, 0, none⟩) b0.lt).trans (b0.cell 0))).mono fun e W' ⟨h1, h2⟩ => ⟨h1, 0, h2.symm⟩)
    (enters_of Try.func57 (by kernel_rfl) rfl)
  have HE := Lib.hid hE
  clear hE
  refine HE.out.mono ?_
  rintro e W1 ⟨rfl, hB⟩
  have hJ := Try.join_any (fun _ => b) HBB.out W1
  have HJ := Lib.hid hJ
  clear hJ
  go_wp2_with fail
  refine HJ.out.mono ?_
  rintro e W2 ⟨rfl, hB2⟩
  go_wp2
  go_ret
  exact ⟨rfl, hB0.trans ((hB.mono hB0.size).trans (hB2.mono (Nat.le_trans hB0.size hB.size)))⟩

theorem Try.Get_no (x i : Int) (h : i < 0 ∨ 8 ≤ i) (w : World) : Calls Try.prog 71 #[.int .u64 x, .int .i64 i] w fun e w' => e = .returned (.tuple #[.int .u8 0, .int .i64 110]) ∧ w = w' := by
  have hn := Try.noLane_any i w
  rw [decide_eq_true h] at hn
  have HN := Lib.hid hn
  clear hn h
  go_enter Try.func71, Try.ntmps71
  go_wp2_with (go_at_call 76; refine HN.out.mono ?_; rintro e w' ⟨rfl, rfl⟩)
  go_ret2
  exact ⟨rfl, rfl⟩
theorem Try.Get_yes (x n : Nat) (h : n < 8) (w : World) : Calls Try.prog 71 #[.int .u64 x, .int .i64 n] w fun e w' => e = .returned (.tuple #[.int .u8 (byt x n : Nat), .int .i64 0]) ∧ w = w' := by
  have hn := Try.noLane_any n w
  rw [decide_eq_false (by omega)] at hn
  have ha := Try.at_any x n h w
  have HN := Lib.hid hn
  have HA := Lib.hid ha
  clear hn ha
  go_enter Try.func71, Try.ntmps71
  go_wp2_with (first | (go_at_call 76; refine HN.out.mono ?_; rintro e w' ⟨rfl, rfl⟩) | (go_at_call 65; refine HA.out.mono ?_; rintro e w' ⟨rfl, rfl⟩))
  go_ret2
  exact ⟨rfl, rfl⟩

set_option maxHeartbeats 1000000 in
/-- Blend: the word that has of z the lanes of m, of x all others. -/
theorem Try.Blend_any (x z m : Nat) (hx : x < 18446744073709551616) (hm : m < 256) (w : World) :
    Calls Try.prog 61 #[.int .u64 x, .int .u64 z, .int .u8 m] w fun e w' => e = .returned (.int .u64 (setAll (byt z) x (lanesOf m) : Nat)) ∧ Below w.heap.size w w' := by
  have HX := Lib.hid hx
  clear hx
  go_enter Try.func61, Try.ntmps61
  go_wp2_with (go_at_call 67; refine (Try.in_any _ _).mono ?_; rintro e w' ⟨rfl, rfl⟩)
  have b0 := (Rows8.new w 99 #[.int .u64 x]).alloc (.cells #[.int .u8 m] 29)
  have b1 := Rows8.new (w.alloc (.cells #[.int .u64 x] 99)) 29 #[.int .u8 m]
  rw [World.size_alloc] at b1
  have hB0 : Below w.heap.size w ((w.alloc (.cells #[.int .u64 x] 99)).alloc (.cells #[.int .u8 m] 29)) := ((Below.refl _ w).alloc (Nat.le_refl _) _).alloc (by simp) _
  have hsz : ((w.alloc (.cells #[.int .u64 x] 99)).alloc (.cells #[.int .u8 m] 29)).heap.size = w.heap.size + 2 := by simp
  generalize ((w.alloc (.cells #[.int .u64 x] 99)).alloc (.cells #[.int .u8 m] 29)) = W0 at *
  have HSZ := Lib.hid hsz
  clear hsz
  have hL := Try.lay_any 75 #[.pointer (some ⟨w.heap.size + 1, 0, none⟩)] 65 #[.int .u64 z] #[] w.heap.size x (w.heap.size + 2) 8 (byt z) (lanesOf m) _ W0 HX.out (byt_lt z) (by rw [HSZ.out]; exact Nat.le_refl _)
    (Try.in_stops Fence.wide 2 rfl trivial rfl (by omega) (w.heap.size + 1) (w.heap.size + 2) w.heap.size m hm (by omega) (by omega) W0 (by rw [HSZ.out]; exact Nat.le_refl _) (b1.cell 0))
    (fun y W _ => Try.at_any z y y.isLt W)
    b0 (enters_of Try.func75 (by kernel_rfl) rfl) (enters_of Try.func65 (by kernel_rfl) rfl)
  have HL := Lib.hid hL
  clear hL b0 b1
  refine HL.out.mono ?_
  rintro e W1 ⟨⟨v, rfl⟩, hr, hB⟩
  have hc : W1.cell? ⟨w.heap.size, 0, none⟩ = some (.int .u64 (setAll (byt z) x (lanesOf m) : Nat)) := hr.cell 0
  clear hr
  go_wp2_with (go_at_call 70; refine (Try.number_any _ _).mono ?_; rintro e w' ⟨rfl, rfl⟩)
  go_ret
  exact ⟨rfl, hB0.trans (hB.below hB0.size (Nat.le_refl _))⟩
end Go.Proofs
