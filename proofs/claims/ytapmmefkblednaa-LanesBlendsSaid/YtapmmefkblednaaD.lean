/- where of lanes; the calls that are built of each, join and where. -/
import Derived.Test.YtapmmefkblednaaC
namespace Go.Proofs
open Go.RowKit Go.Shelf
attribute [local go_sem] Oper.semAt_some

theorem arr8_get (g : Nat → Value) (y : Fin 8) : (arr8 g)[(y : Nat)]? = some (g y) := by
  obtain ⟨k, hk⟩ := y
  match k, hk with
  | 0, _ => rfl
  | 1, _ => rfl
  | 2, _ => rfl
  | 3, _ => rfl
  | 4, _ => rfl
  | 5, _ => rfl
  | 6, _ => rfl
  | 7, _ => rfl

set_option maxRecDepth 100000 in
set_option maxHeartbeats 2000000 in
theorem Try.where_any (g : Nat → Bool) (w : World) :
    Calls Try.prog 48 #[.agg (arr8 fun n => .bool (g n))] w fun e w' => e = .returned (.int .u8 (maskB g)) ∧ Below w.heap.size w w' := by
  unfold arr8
  refine (callsIn_wide (n := 3)).1 ?_
  refine callsIn_of_wp_marks Try.func48 rfl trivial ?_ rfl
  simp only [Try.ntmps48, List.size_toArray, List.length_cons, List.length_nil, Nat.reduceAdd, Nat.reduceSub, Array.replicate_succ, Array.replicate_zero, List.push_toArray, List.append_toArray, List.nil_append, List.cons_append]
  gi_wp2_with (refine ⟨trivial, ?_⟩; gi_at_call 55; refine (callsIn_wide.2 (Try.in_any _ _)).mono ?_; rintro e w' ⟨rfl, rfl⟩)
  have b0 : Rows8 (((w.alloc (.cells #[.bool (g 0), .bool (g 1), .bool (g 2), .bool (g 3), .bool (g 4), .bool (g 5), .bool (g 6), .bool (g 7)] 73)).alloc (.cells #[.int .u8 0] 43)).alloc (.cells #[.int .u8 255] 43)) w.heap.size 73 (arr8 fun n => .bool (g n)) := ((Rows8.new w 73 #[.bool (g 0), .bool (g 1), .bool (g 2), .bool (g 3), .bool (g 4), .bool (g 5), .bool (g 6), .bool (g 7)]).alloc (.cells #[.int .u8 0] 43)).alloc (.cells #[.int .u8 255] 43)
  have b1 := (Rows8.new (w.alloc (.cells #[.bool (g 0), .bool (g 1), .bool (g 2), .bool (g 3), .bool (g 4), .bool (g 5), .bool (g 6), .bool (g 7)] 73)) 43 #[.int .u8 0]).alloc (.cells #[.int .u8 255] 43)
  have b2 := Rows8.new ((w.alloc (.cells #[.bool (g 0), .bool (g 1), .bool (g 2), .bool (g 3), .bool (g 4), .bool (g 5), .bool (g 6), .bool (g 7)] 73)).alloc (.cells #[.int .u8 0] 43)) 43 #[.int .u8 255]
  simp only [World.size_alloc] at b1 b2
  have hB0 : Below w.heap.size w (((w.alloc (.cells #[.bool (g 0), .bool (g 1), .bool (g 2), .bool (g 3), .bool (g 4), .bool (g 5), .bool (g 6), .bool (g 7)] 73)).alloc (.cells #[.int .u8 0] 43)).alloc (.cells #[.int .u8 255] 43)) := (((Below.refl _ w).alloc (Nat.le_refl _) _).alloc (by simp) _).alloc (by simp [Nat.add_assoc]) _
  have hsz : (((w.alloc (.cells #[.bool (g 0), .bool (g 1), .bool (g 2), .bool (g 3), .bool (g 4), .bool (g 5), .bool (g 6), .bool (g 7)] 73)).alloc (.cells #[.int .u8 0] 43)).alloc (.cells #[.int .u8 255] 43)).heap.size = w.heap.size + 3 := by simp
  generalize (((w.alloc (.cells #[.bool (g 0), .bool (g 1), .bool (g 2), .bool (g 3), .bool (g 4), .bool (g 5), .bool (g 6), .bool (g 7)] 73)).alloc (.cells #[.int .u8 0] 43)).alloc (.cells #[.int .u8 255] 43)) = W0 at *
  have HSZ := Lib.hid hsz
  clear hsz
  refine wpIn_rangeFunc_ownG rfl (by omega) (gf := 63) (lb := #[.pointer (some ⟨w.heap.size + 1 + 1, 0, none⟩)]) rfl trivial (enters_of Try.func63 (by kernel_rfl) rfl)
    (Try.in_stops Fence.wide _ rfl trivial rfl (by omega) (w.heap.size + 1 + 1) (w.heap.size + 3) (w.heap.size + 1) 255 (by decide) (by omega) (by omega) W0 (by rw [HSZ.out]; exact Nat.le_refl _) (b2.cell 0)) but_t (but_b (by rw [HSZ.out]; exact Nat.le_refl _)) (Below.refl _ _) (fun _ => rfl)
    (fun pre W => Rows8 W (w.heap.size + 1) 43 #[.int .u8 (orAll g 0 pre : Nat)] ∧ But (w.heap.size + 3) (w.heap.size + 1) W0 W)
    (fun _ _ _ => False)
    (OwnFrom.and (Own.from (Rows8.own _ _ (fun pre => #[.int .u8 (orAll g 0 pre : Nat)])) _) (ownFrom_but (by rw [HSZ.out]; exact Nat.le_refl _) (by rw [HSZ.out]; exact Nat.le_refl _)))
    (fun _ _ _ _ _ hs _ _ => hs)
    ⟨b1, But.refl _ _ _⟩
    (fun x => { tmps := #[.agg #[.bool (g 0), .bool (g 1), .bool (g 2), .bool (g 3), .bool (g 4), .bool (g 5), .bool (g 6), .bool (g 7)], .pointer (some ⟨w.heap.size, 0, none⟩), .int .u8 0, .pointer (some ⟨w.heap.size + 1, 0, none⟩), .int .i64 (x : Nat), .func (.func 63) #[] #[.pointer (some ⟨w.heap.size + 1 + 1, 0, none⟩)], .int .i64 (x : Nat), undef, undef, undef, undef, undef, undef, undef, undef], defers := [] }) ?assign ?body ?done ?stop
  case assign =>
    intro l x W K hK
    gi_wp2
    exact hK
  case body =>
    rintro l pre x W ⟨hr, hB⟩ _
    have hso : W.cell? ⟨w.heap.size, (x : Nat), none⟩ = some (.bool (g x)) := (hB.cell (a := ⟨w.heap.size, (x : Nat), none⟩) (by simp) (by simp)).trans ((b0.cell _).trans (arr8_get _ x))
    have hx := x.isLt
    have hmx : Try.prog.follows .mixedOrders = true := by kernel_rfl
    have hcl : W.cell? ⟨w.heap.size + 1, 0, none⟩ = some (.int .u8 (orAll g 0 pre : Nat)) := hr.cell 0
    have hfr := hr.frozen 0
    have HR := Lib.hid hr
    clear hr
    cases hgx : g x
    · have HG := Lib.hid hgx
      rw [hgx] at hso
      clear hgx
      gi_wp2
      exact ⟨KeepsFrom.refl _ _, But.refl _ _ _, by rw [orAll_snoc, if_neg (by rw [HG.out]; decide)]; exact HR.out, hB⟩
    · have HG := Lib.hid hgx
      rw [hgx] at hso
      clear hgx
      gi_wp2
      refine wpIn_region_still_tail (free_round l) 4 hmx rfl (by kernel_rfl) ?_
      simp only [List.take_succ_cons, List.take_zero, List.drop_succ_cons, List.drop_zero]
      repeat still_step
      refine wpStill_nil ?_
      gi_wp2
      refine ⟨KeepsOthers.from ((KeepsOthers.setCell _ _ _).trans (KeepsOthers.drew _)) _, ((But.refl _ _ _).setCell _ _).drew, ?_, (hB.setCell _ _).drew⟩
      rw [orAll_snoc, if_pos HG.out, or_walk (orAll_lt g (by decide) pre) hx]
      exact (Rows8.set1 HR.out _).drew
  case done =>
    rintro D ys W hD rfl ⟨hr, hB⟩ hK
    rw [lanesOf_255] at hr
    have hcl : W.cell? ⟨w.heap.size + 1, 0, none⟩ = some (.int .u8 (maskB g)) := hr.cell 0
    clear hr
    gi_wp2
    refine ⟨by simp, .inl ⟨_, _, rfl, run_takeDeferred hK, ?_⟩⟩
    exact ⟨_, results_tmp rfl _ _ _, rfl, (hB0.trans (hB.below (by omega) (by omega))).trans (belowK_b (w := w) (Nat.le_refl _) W D _ _ (by have := HSZ.out; omega) hK rfl rfl)⟩
  case stop =>
    rintro D c pre W _ _ h _
    exact h.elim

theorem drewN_one (W : World) : W.drew = W.drewN 1 := rfl
theorem Try.fill1_any (b : Int) (Bb : Nat) (y : Nat) (W : World) (h2 : W.cell? ⟨Bb, 0, none⟩ = some (.int .u8 b)) :
    Calls Try.prog 47 #[.int .i64 y, .pointer (some ⟨Bb, 0, none⟩)] W fun e W' => e = .returned (.int .u8 b) ∧ W = W' := by
  go_enter Try.func47, Try.ntmps47
  go_wp2
  go_ret
  exact ⟨rfl, rfl⟩
theorem Try.put1_any (b : Int) (Bb : Nat) (y : Nat) (W : World) (h2 : W.cell? ⟨Bb, 0, none⟩ = some (.int .u8 b)) :
    Calls Try.prog 44 #[.int .i64 y, .pointer (some ⟨Bb, 0, none⟩)] W fun e W' => e = .returned (.int .u8 b) ∧ W = W' := by
  go_enter Try.func44, Try.ntmps44
  go_wp2
  go_ret
  exact ⟨rfl, rfl⟩
theorem Try.equal1_any (x b Bx Bb y : Nat) (hy : y < 8) (W : World) (h1 : W.cell? ⟨Bx, 0, none⟩ = some (.int .u64 x)) (h2 : W.cell? ⟨Bb, 0, none⟩ = some (.int .u8 b)) :
    Calls Try.prog 50 #[.int .i64 y, .pointer (some ⟨Bx, 0, none⟩), .pointer (some ⟨Bb, 0, none⟩)] W fun e W' => e = .returned (.bool (byt x y == b)) ∧ W.drew = W' := by
  rw [← natEq_walk]
  go_enter Try.func50, Try.ntmps50
  go_wp2
  refine wp_region_still_lit (by kernel_rfl) (by kernel_rfl) ?_
  repeat still_step
  still_call (quietR (Try.at_any x y hy _))
  repeat still_step
  refine wpStill_nil ?_
  go_wp2
  go_ret
  exact ⟨rfl, rfl⟩
theorem Try.below1_any (x b Bx Bb y : Nat) (hy : y < 8) (W : World) (h1 : W.cell? ⟨Bx, 0, none⟩ = some (.int .u64 x)) (h2 : W.cell? ⟨Bb, 0, none⟩ = some (.int .u8 b)) :
    Calls Try.prog 52 #[.int .i64 y, .pointer (some ⟨Bx, 0, none⟩), .pointer (some ⟨Bb, 0, none⟩)] W fun e W' => e = .returned (.bool (decide (byt x y < b))) ∧ W.drew = W' := by
  go_enter Try.func52, Try.ntmps52
  go_wp2
  refine wp_region_still_lit (by kernel_rfl) (by kernel_rfl) ?_
  repeat still_step
  still_call (quietR (Try.at_any x y hy _))
  repeat still_step
  refine wpStill_nil ?_
  go_wp2
  go_ret
  exact ⟨rfl, rfl⟩
theorem Try.alike1_any (x z Bx Bz y : Nat) (hy : y < 8) (W : World) (h1 : W.cell? ⟨Bx, 0, none⟩ = some (.int .u64 x)) (h2 : W.cell? ⟨Bz, 0, none⟩ = some (.int .u64 z)) :
    Calls Try.prog 53 #[.int .i64 y, .pointer (some ⟨Bx, 0, none⟩), .pointer (some ⟨Bz, 0, none⟩)] W fun e W' => e = .returned (.bool (byt x y == byt z y)) ∧ W.drew = W' := by
  rw [← natEq_walk]
  go_enter Try.func53, Try.ntmps53
  go_wp2
  refine wp_region_still_lit (by kernel_rfl) (by kernel_rfl) ?_
  repeat still_step
  still_call (quietR (Try.at_any x y hy _))
  repeat still_step
  still_call (quietR (Try.at_any z y hy _))
  repeat still_step
  refine wpStill_nil ?_
  go_wp2
  go_ret
  exact ⟨rfl, rfl⟩
theorem Try.turn1_any (x Bx Bi y : Nat) (i : Int) (W : World) (h1 : W.cell? ⟨Bx, 0, none⟩ = some (.int .u64 x)) (h2 : W.cell? ⟨Bi, 0, none⟩ = some (.int .i64 i)) :
    Calls Try.prog 57 #[.int .i64 y, .pointer (some ⟨Bx, 0, none⟩), .pointer (some ⟨Bi, 0, none⟩)] W fun e W' => e = .returned (.int .u8 (byt x (((y : Int) + i) % 8).toNat : Nat)) ∧ W.drew = W' := by
  have hr := Try.ring_any y i W.drew
  rw [ring_cast] at hr
  have ha := Try.at_any x (((y : Int) + i) % 8).toNat (ring_lt y i) W.drew
  generalize (((y : Int) + i) % 8).toNat = k at *
  go_enter Try.func57, Try.ntmps57
  go_wp2
  have HR := Lib.hid hr
  have HA := Lib.hid ha
  clear hr ha
  refine wp_region_still_lit (by kernel_rfl) (by kernel_rfl) ?_
  repeat still_step
  still_call (quietR HR.out)
  repeat still_step
  still_call (quietR HA.out)
  repeat still_step
  refine wpStill_nil ?_
  go_wp2
  go_ret
  exact ⟨rfl, rfl⟩

set_option maxHeartbeats 1000000 in
set_option maxHeartbeats 1000000 in
/-- Bytes: the array of the lanes' bytes. -/
theorem Try.Bytes_any (x : Nat) (w : World) :
    Calls Try.prog 11 #[.int .u64 x] w fun e w' => e = .returned (.agg (arr8 fun n => .int .u8 (byt x n : Nat))) ∧ Below w.heap.size w w' := by
  have hE := Try.each37_any 38 #[.int .u64 x] #[] (fun n => (byt x n : Nat)) (w.alloc (.cells #[.int .u8 0, .int .u8 0, .int .u8 0, .int .u8 0, .int .u8 0, .int .u8 0, .int .u8 0, .int .u8 0] 27))
    (fun y W hW => (Try.at_any x y y.isLt W).mono fun e W' ⟨h1, h2⟩ => ⟨h1, 0, h2.symm⟩)
    (enters_of Try.func38 (by kernel_rfl) rfl)
  have b0 := Rows8.new w 27 #[.int .u8 0, .int .u8 0, .int .u8 0, .int .u8 0, .int .u8 0, .int .u8 0, .int .u8 0, .int .u8 0]
  have hB0 : Below w.heap.size w (w.alloc (.cells #[.int .u8 0, .int .u8 0, .int .u8 0, .int .u8 0, .int .u8 0, .int .u8 0, .int .u8 0, .int .u8 0] 27)) := (Below.refl _ w).alloc (Nat.le_refl _) _
  have HE := Lib.hid hE
  clear hE
  go_enter Try.func11, Try.ntmps11
  go_wp2_with fail
  generalize (w.alloc (.cells #[.int .u8 0, .int .u8 0, .int .u8 0, .int .u8 0, .int .u8 0, .int .u8 0, .int .u8 0, .int .u8 0] 27)) = W0 at *
  refine HE.out.mono ?_
  rintro e W1 ⟨rfl, hB⟩
  have hb2 : Rows8 W1 w.heap.size 27 _ := (hB.block _ b0.lt).trans b0
  obtain ⟨s0, s1, s2, s3, s4, s5, s6, s7⟩ := Rows8.all hb2
  obtain ⟨f0, f1, f2, f3, f4, f5, f6, f7⟩ := Rows8.allf hb2
  have HB2 := Lib.hid hb2
  clear hb2
  simp only [arr8]
  go_wp2
  refine bodyPost_ret (results_cell_row rfl _ _ w.heap.size 27 _ (0, 0) _ rfl (Rows8.set8 HB2.out (fun n => .int .u8 (byt x n : Nat))) Try.underlying27 rfl (by kernel_rfl)) rfl ⟨rfl, ?_⟩
  exact (((((((((hB0.trans (hB.mono hB0.size)).setCell (p := ⟨w.heap.size, 0, none⟩) (Nat.le_refl _) (.int .u8 (byt x 0 : Nat))).setCell (p := ⟨w.heap.size, 1, none⟩) (Nat.le_refl _) (.int .u8 (byt x 1 : Nat))).setCell (p := ⟨w.heap.size, 2, none⟩) (Nat.le_refl _) (.int .u8 (byt x 2 : Nat))).setCell (p := ⟨w.heap.size, 3, none⟩) (Nat.le_refl _) (.int .u8 (byt x 3 : Nat))).setCell (p := ⟨w.heap.size, 4, none⟩) (Nat.le_refl _) (.int .u8 (byt x 4 : Nat))).setCell (p := ⟨w.heap.size, 5, none⟩) (Nat.le_refl _) (.int .u8 (byt x 5 : Nat))).setCell (p := ⟨w.heap.size, 6, none⟩) (Nat.le_refl _) (.int .u8 (byt x 6 : Nat))).setCell (p := ⟨w.heap.size, 7, none⟩) (Nat.le_refl _) (.int .u8 (byt x 7 : Nat)))

set_option maxHeartbeats 1000000 in
theorem Try.Turn_any (x : Nat) (i : Int) (w : World) :
    Calls Try.prog 34 #[.int .u64 x, .int .i64 i] w fun e w' => e = .returned (.int .u64 (ofB fun n => byt x (((n : Int) + i) % 8).toNat)) ∧ Below w.heap.size w w' := by
  go_enter Try.func34, Try.ntmps34
  go_wp2_with fail
  have b0 := (Rows8.new w 23 #[.int .u64 x]).alloc (.cells #[.int .i64 i] 3)
  have b1 := Rows8.new (w.alloc (.cells #[.int .u64 x] 23)) 3 #[.int .i64 i]
  rw [World.size_alloc] at b1
  have hB0 : Below w.heap.size w ((w.alloc (.cells #[.int .u64 x] 23)).alloc (.cells #[.int .i64 i] 3)) := ((Below.refl _ w).alloc (Nat.le_refl _) _).alloc (by simp) _
  generalize ((w.alloc (.cells #[.int .u64 x] 23)).alloc (.cells #[.int .i64 i] 3)) = W0 at *
  have hE := Try.each37_any 57 #[] #[.pointer (some ⟨w.heap.size, 0, none⟩), .pointer (some ⟨w.heap.size + 1, 0, none⟩)] (fun n => (byt x (((n : Int) + i) % 8).toNat : Nat)) W0
    (fun y W hW => (Try.turn1_any x w.heap.size (w.heap.size + 1) y i W ((hW.cell (p := ⟨w.heap.size, 0, none⟩) b0.lt).trans (b0.cell 0)) ((hW.cell (p := ⟨w.heap.size + 1, 0, none⟩) b1.lt).trans (b1.cell 0))).mono fun e W' ⟨h1, h2⟩ => ⟨h1, 1, h2.symm⟩)
    (enters_of Try.func57 (by kernel_rfl) rfl)
  have HE := Lib.hid hE
  clear hE
  refine HE.out.mono ?_
  rintro e W1 ⟨rfl, hB⟩
  have hJ := Try.join_any (fun n => byt x (((n : Int) + i) % 8).toNat) (fun n => byt_lt _ _) W1
  have HJ := Lib.hid hJ
  clear hJ
  go_wp2_with fail
  refine HJ.out.mono ?_
  rintro e W2 ⟨rfl, hB2⟩
  go_wp2
  go_ret
  exact ⟨rfl, hB0.trans ((hB.mono hB0.size).trans (hB2.mono (Nat.le_trans hB0.size hB.size)))⟩

set_option maxHeartbeats 1000000 in
theorem Try.Equal_any (x b : Nat) (w : World) :
    Calls Try.prog 22 #[.int .u64 x, .int .u8 b] w fun e w' => e = .returned (.int .u8 (maskB fun n => byt x n == b)) ∧ Below w.heap.size w w' := by
  go_enter Try.func22, Try.ntmps22
  go_wp2_with fail
  have b0 := (Rows8.new w 23 #[.int .u64 x]).alloc (.cells #[.int .u8 b] 5)
  have b1 := Rows8.new (w.alloc (.cells #[.int .u64 x] 23)) 5 #[.int .u8 b]
  rw [World.size_alloc] at b1
  have hB0 : Below w.heap.size w ((w.alloc (.cells #[.int .u64 x] 23)).alloc (.cells #[.int .u8 b] 5)) := ((Below.refl _ w).alloc (Nat.le_refl _) _).alloc (by simp) _
  generalize ((w.alloc (.cells #[.int .u64 x] 23)).alloc (.cells #[.int .u8 b] 5)) = W0 at *
  have hE := Try.each49_any 50 #[] #[.pointer (some ⟨w.heap.size, 0, none⟩), .pointer (some ⟨w.heap.size + 1, 0, none⟩)] (fun n => byt x n == b) W0
    (fun y W hW => (Try.equal1_any x b w.heap.size (w.heap.size + 1) y y.isLt W ((hW.cell (p := ⟨w.heap.size, 0, none⟩) b0.lt).trans (b0.cell 0)) ((hW.cell (p := ⟨w.heap.size + 1, 0, none⟩) b1.lt).trans (b1.cell 0))).mono fun e W' ⟨h1, h2⟩ => ⟨h1, 1, h2.symm⟩)
    (enters_of Try.func50 (by kernel_rfl) rfl)
  have HE := Lib.hid hE
  clear hE
  refine HE.out.mono ?_
  rintro e W1 ⟨rfl, hB⟩
  have hJ := Try.where_any (fun n => byt x n == b) W1
  have HJ := Lib.hid hJ
  clear hJ
  go_wp2_with fail
  refine HJ.out.mono ?_
  rintro e W2 ⟨rfl, hB2⟩
  go_wp2
  go_ret
  exact ⟨rfl, hB0.trans ((hB.mono hB0.size).trans (hB2.mono (Nat.le_trans hB0.size hB.size)))⟩

set_option maxHeartbeats 1000000 in
theorem Try.Below_any (x b : Nat) (w : World) :
    Calls Try.prog 24 #[.int .u64 x, .int .u8 b] w fun e w' => e = .returned (.int .u8 (maskB fun n => decide (byt x n < b))) ∧ Below w.heap.size w w' := by
  go_enter Try.func24, Try.ntmps24
  go_wp2_with fail
  have b0 := (Rows8.new w 23 #[.int .u64 x]).alloc (.cells #[.int .u8 b] 5)
  have b1 := Rows8.new (w.alloc (.cells #[.int .u64 x] 23)) 5 #[.int .u8 b]
  rw [World.size_alloc] at b1
  have hB0 : Below w.heap.size w ((w.alloc (.cells #[.int .u64 x] 23)).alloc (.cells #[.int .u8 b] 5)) := ((Below.refl _ w).alloc (Nat.le_refl _) _).alloc (by simp) _
  generalize ((w.alloc (.cells #[.int .u64 x] 23)).alloc (.cells #[.int .u8 b] 5)) = W0 at *
  have hE := Try.each49_any 52 #[] #[.pointer (some ⟨w.heap.size, 0, none⟩), .pointer (some ⟨w.heap.size + 1, 0, none⟩)] (fun n => decide (byt x n < b)) W0
    (fun y W hW => (Try.below1_any x b w.heap.size (w.heap.size + 1) y y.isLt W ((hW.cell (p := ⟨w.heap.size, 0, none⟩) b0.lt).trans (b0.cell 0)) ((hW.cell (p := ⟨w.heap.size + 1, 0, none⟩) b1.lt).trans (b1.cell 0))).mono fun e W' ⟨h1, h2⟩ => ⟨h1, 1, h2.symm⟩)
    (enters_of Try.func52 (by kernel_rfl) rfl)
  have HE := Lib.hid hE
  clear hE
  refine HE.out.mono ?_
  rintro e W1 ⟨rfl, hB⟩
  have hJ := Try.where_any (fun n => decide (byt x n < b)) W1
  have HJ := Lib.hid hJ
  clear hJ
  go_wp2_with fail
  refine HJ.out.mono ?_
  rintro e W2 ⟨rfl, hB2⟩
  go_wp2
  go_ret
  exact ⟨rfl, hB0.trans ((hB.mono hB0.size).trans (hB2.mono (Nat.le_trans hB0.size hB.size)))⟩

set_option maxHeartbeats 1000000 in
theorem Try.Alike_any (x z : Nat) (w : World) :
    Calls Try.prog 26 #[.int .u64 x, .int .u64 z] w fun e w' => e = .returned (.int .u8 (maskB fun n => byt x n == byt z n)) ∧ Below w.heap.size w w' := by
  go_enter Try.func26, Try.ntmps26
  go_wp2_with fail
  have b0 := (Rows8.new w 23 #[.int .u64 x]).alloc (.cells #[.int .u64 z] 23)
  have b1 := Rows8.new (w.alloc (.cells #[.int .u64 x] 23)) 23 #[.int .u64 z]
  rw [World.size_alloc] at b1
  have hB0 : Below w.heap.size w ((w.alloc (.cells #[.int .u64 x] 23)).alloc (.cells #[.int .u64 z] 23)) := ((Below.refl _ w).alloc (Nat.le_refl _) _).alloc (by simp) _
  generalize ((w.alloc (.cells #[.int .u64 x] 23)).alloc (.cells #[.int .u64 z] 23)) = W0 at *
  have hE := Try.each49_any 53 #[] #[.pointer (some ⟨w.heap.size, 0, none⟩), .pointer (some ⟨w.heap.size + 1, 0, none⟩)] (fun n => byt x n == byt z n) W0
    (fun y W hW => (Try.alike1_any x z w.heap.size (w.heap.size + 1) y y.isLt W ((hW.cell (p := ⟨w.heap.size, 0, none⟩) b0.lt).trans (b0.cell 0)) ((hW.cell (p := ⟨w.heap.size + 1, 0, none⟩) b1.lt).trans (b1.cell 0))).mono fun e W' ⟨h1, h2⟩ => ⟨h1, 1, h2.symm⟩)
    (enters_of Try.func53 (by kernel_rfl) rfl)
  have HE := Lib.hid hE
  clear hE
  refine HE.out.mono ?_
  rintro e W1 ⟨rfl, hB⟩
  have hJ := Try.where_any (fun n => byt x n == byt z n) W1
  have HJ := Lib.hid hJ
  clear hJ
  go_wp2_with fail
  refine HJ.out.mono ?_
  rintro e W2 ⟨rfl, hB2⟩
  go_wp2
  go_ret
  exact ⟨rfl, hB0.trans ((hB.mono hB0.size).trans (hB2.mono (Nat.le_trans hB0.size hB.size)))⟩

set_option maxHeartbeats 1000000 in
theorem Try.Fill_any (b : Nat) (hb : b < 256) (w : World) :
    Calls Try.prog 21 #[.int .u8 b] w fun e w' => e = .returned (.int .u64 (ofB fun _ => b)) ∧ Below w.heap.size w w' := by
  have hb' : ∀ _ : Nat, b < 256 := fun _ => hb
  have HBB := Lib.hid hb'
  clear hb hb'
  go_enter Try.func21, Try.ntmps21
  go_wp2_with fail
  have b0 := Rows8.new w 5 #[.int .u8 b]
  have hB0 : Below w.heap.size w (w.alloc (.cells #[.int .u8 b] 5)) := (Below.refl _ w).alloc (Nat.le_refl _) _
  generalize (w.alloc (.cells #[.int .u8 b] 5)) = W0 at *
  have hE := Try.each37_any 47 #[] #[.pointer (some ⟨w.heap.size, 0, none⟩)] (fun _ => (b : Nat)) W0
    (fun y W hW => (Try.fill1_any b w.heap.size y W ((hW.cell (p := ⟨w.heap.size, 0, none⟩) b0.lt).trans (b0.cell 0))).mono fun e W' ⟨h1, h2⟩ => ⟨h1, 0, h2.symm⟩)
    (enters_of Try.func47 (by kernel_rfl) rfl)
  have HE := Lib.hid hE
  clear hE
  refine HE.out.mono ?_
  rintro e W1 ⟨rfl, hB⟩
  have hJ := Try.join_any (fun _ => b) HBB.out W1
  have HJ := Lib.hid hJ
  clear hJ
  go_wp2_with fail
  refine HJ.out.mono ?_
  rintro e W2 ⟨rfl, hB2⟩
  go_wp2
  go_ret
  exact ⟨rfl, hB0.trans ((hB.mono hB0.size).trans (hB2.mono (Nat.le_trans hB0.size hB.size)))⟩

theorem Try.Get_no (x i : Int) (h : i < 0 ∨ 8 ≤ i) (w : World) : Calls Try.prog 16 #[.int .u64 x, .int .i64 i] w fun e w' => e = .returned (.tuple #[.int .u8 0, .int .i64 110]) ∧ w = w' := by
  have hn := Try.noLane_any i w
  rw [decide_eq_true h] at hn
  have HN := Lib.hid hn
  clear hn h
  go_enter Try.func16, Try.ntmps16
  go_wp2_with (go_at_call 40; refine HN.out.mono ?_; rintro e w' ⟨rfl, rfl⟩)
  go_ret2
  exact ⟨rfl, rfl⟩
theorem Try.Get_yes (x n : Nat) (h : n < 8) (w : World) : Calls Try.prog 16 #[.int .u64 x, .int .i64 n] w fun e w' => e = .returned (.tuple #[.int .u8 (byt x n : Nat), .int .i64 0]) ∧ w = w' := by
  have hn := Try.noLane_any n w
  rw [decide_eq_false (by omega)] at hn
  have ha := Try.at_any x n h w
  have HN := Lib.hid hn
  have HA := Lib.hid ha
  clear hn ha
  go_enter Try.func16, Try.ntmps16
  go_wp2_with (first | (go_at_call 40; refine HN.out.mono ?_; rintro e w' ⟨rfl, rfl⟩) | (go_at_call 38; refine HA.out.mono ?_; rintro e w' ⟨rfl, rfl⟩))
  go_ret2
  exact ⟨rfl, rfl⟩

set_option maxHeartbeats 1000000 in
/-- Blend: the word that has of z the lanes of m, of x all others. -/
theorem Try.Blend_any (x z m : Nat) (hx : x < 18446744073709551616) (hm : m < 256) (w : World) :
    Calls Try.prog 30 #[.int .u64 x, .int .u64 z, .int .u8 m] w fun e w' => e = .returned (.int .u64 (setAll (byt z) x (lanesOf m) : Nat)) ∧ Below w.heap.size w w' := by
  have HX := Lib.hid hx
  clear hx
  go_enter Try.func30, Try.ntmps30
  go_wp2_with (go_at_call 55; refine (Try.in_any _ _).mono ?_; rintro e w' ⟨rfl, rfl⟩)
  have b0 := (Rows8.new w 65 #[.int .u64 x]).alloc (.cells #[.int .u8 m] 43)
  have b1 := Rows8.new (w.alloc (.cells #[.int .u64 x] 65)) 43 #[.int .u8 m]
  rw [World.size_alloc] at b1
  have hB0 : Below w.heap.size w ((w.alloc (.cells #[.int .u64 x] 65)).alloc (.cells #[.int .u8 m] 43)) := ((Below.refl _ w).alloc (Nat.le_refl _) _).alloc (by simp) _
  have hsz : ((w.alloc (.cells #[.int .u64 x] 65)).alloc (.cells #[.int .u8 m] 43)).heap.size = w.heap.size + 2 := by simp
  generalize ((w.alloc (.cells #[.int .u64 x] 65)).alloc (.cells #[.int .u8 m] 43)) = W0 at *
  have HSZ := Lib.hid hsz
  clear hsz
  have hL := Try.lay_any 63 #[.pointer (some ⟨w.heap.size + 1, 0, none⟩)] 38 #[.int .u64 z] #[] w.heap.size x (w.heap.size + 2) 8 (byt z) (lanesOf m) _ W0 HX.out (byt_lt z) (by rw [HSZ.out]; exact Nat.le_refl _)
    (Try.in_stops Fence.wide 2 rfl trivial rfl (by omega) (w.heap.size + 1) (w.heap.size + 2) w.heap.size m hm (by omega) (by omega) W0 (by rw [HSZ.out]; exact Nat.le_refl _) (b1.cell 0))
    (fun y W _ => Try.at_any z y y.isLt W)
    b0 (enters_of Try.func63 (by kernel_rfl) rfl) (enters_of Try.func38 (by kernel_rfl) rfl)
  have HL := Lib.hid hL
  clear hL b0 b1
  refine HL.out.mono ?_
  rintro e W1 ⟨⟨v, rfl⟩, hr, hB⟩
  have hc : W1.cell? ⟨w.heap.size, 0, none⟩ = some (.int .u64 (setAll (byt z) x (lanesOf m) : Nat)) := hr.cell 0
  clear hr
  go_wp2_with (go_at_call 46; refine (Try.number_any _ _).mono ?_; rintro e w' ⟨rfl, rfl⟩)
  go_ret
  exact ⟨rfl, hB0.trans (hB.below hB0.size (Nat.le_refl _))⟩
end Go.Proofs
