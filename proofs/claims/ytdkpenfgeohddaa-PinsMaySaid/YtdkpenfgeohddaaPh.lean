/- Pins: the epoch goes on; what an op does; what is tried. -/
import Derived.Test.YtdkpenfgeohddaaPg
namespace Go.Proofs
set_option maxRecDepth 100000
open Go.RowKit Go.Shelf
attribute [local go_sem] Oper.semAt_some

theorem Try.neqFlags (f : Nat → Bool) (W : World) : (binOp BinOp.neq 61 (.agg (arr8B f)) (.agg #[.bool false, .bool false, .bool false, .bool false, .bool false, .bool false, .bool false, .bool false])).run Try.prog W = .ok (.bool (f 0 || f 1 || f 2 || f 3 || f 4 || f 5 || f 6 || f 7)) W := by
  unfold arr8B
  generalize f 0 = b0
  generalize f 1 = b1
  generalize f 2 = b2
  generalize f 3 = b3
  generalize f 4 = b4
  generalize f 5 = b5
  generalize f 6 = b6
  generalize f 7 = b7
  cases b0 <;> cases b1 <;> cases b2 <;> cases b3 <;> cases b4 <;> cases b5 <;> cases b6 <;> cases b7 <;> kernel_rfl
set_option maxHeartbeats 8000000 in
theorem Try.goOn_any (H n₀ : Nat) (E : Int) (S : List Int) (o : Po) (w : World) (h : Hd H n₀ E S w) (hE : 0 ≤ E ∧ E ≤ 4611686018427387904) (hS : okW S) (h8 : S.length ≤ 8) (hn0 : n₀ ≤ w.heap.size) (hH : n₀ ≤ H) :
    Calls Try.prog 48 #[.pointer (some ⟨H, 0, none⟩), .agg #[.int .i64 o.kind, .int .i64 o.goer, .int .u64 o.by_]] w (HdQ H n₀ w (goN E S)) := by
  obtain ⟨kd, gr, by_⟩ := o
  dsimp only at *
  obtain ⟨R, hR⟩ : ∃ R, R = goN E S := ⟨_, rfl⟩
  rw [← hR]
  have HR := Lib.hid hR
  clear hR
  unfold goN heldB at HR
  obtain ⟨g, n, h⟩ := h
  have hal : Below w.heap.size w (w.alloc (.cells #[.int .i64 kd, .int .i64 gr, .int .u64 by_] 44)) := Rows8.newB
  have rw0 := Rows8.new w 44 #[.int .i64 kd, .int .i64 gr, .int .u64 by_]
  obtain ⟨W, hW⟩ : ∃ W, W = w.alloc (.cells #[.int .i64 kd, .int .i64 gr, .int .u64 by_] 44) := ⟨_, rfl⟩
  rw [← hW] at hal rw0
  have h1 := h.below hal
  have hnl := h1.len
  have HX := Lib.hid h1
  have HAL := Lib.hid (hal.mono hn0)
  have HKF := Lib.hid (Kf.of_below (T := tP) hal)
  have HR0 := Lib.hid rw0
  have c0 : W.cell? ⟨H, 0, none⟩ = some (.int .u64 E) := h1.bx.cell 0
  have c1 : W.cell? ⟨H, 1, none⟩ = some (.slice (some ⟨g, 0, none⟩) n n) := h1.bx.cell 1
  have HBK := Lib.hid (Try.backs_any E (some ⟨g, 0, none⟩) n n S hS (by omega) W (rowAt_own h1.o))
  have hneq := Try.neqFlags (bkB E S)
  generalize bkB E S = f at *
  unfold arr8B at HBK hneq
  obtain ⟨z, hz⟩ : ∃ z, z = (f 0 || f 1 || f 2 || f 3 || f 4 || f 5 || f 6 || f 7) := ⟨_, rfl⟩
  rw [← hz] at hneq HR
  clear h h1 hal rw0 hnl hz h8 HR0
  subst hW
  go_enter Try.func48, Try.ntmps48
  go_wp2_with fail
  refine HBK.out.mono ?_
  rintro e w1 ⟨rfl, hC⟩
  have HX1 := Lib.hid (HX.out.below hC)
  have HB1 := Lib.hid (HAL.out.trans (hC.mono (Nat.le_trans hn0 HAL.out.size)))
  have HK1 := Lib.hid (HKF.out.trans (Kf.of_below (T := tP) hC))
  clear hC HX HAL HKF HBK c0 c1
  have c0 : w1.cell? ⟨H, 0, none⟩ = some (.int .u64 E) := HX1.out.bx.cell 0
  have f0 := HX1.out.bx.frozen 0
  have l0 := HX1.out.bx.lt
  cases z with
  | true =>
    have HRR := Lib.hid (HR.out.trans (if_pos rfl))
    clear HR
    go_wp2_with fail
    refine ⟨rfl, ?_⟩
    rw [HRR.out]
    exact ⟨.inr ⟨by simp, rfl⟩, ⟨_, _, HX1.out⟩, HB1.out, HK1.out⟩
  | false =>
    have HR1 := Lib.hid (HR.out.trans (if_neg (by decide)))
    clear HR
    by_cases hm : E = 4611686018427387904
    · have HRR := Lib.hid (HR1.out.trans (if_pos hm))
      have hd : (E == 4611686018427387904) = true := by simp [hm]
      clear HR1 hm
      go_wp2_with fail
      refine ⟨rfl, ?_⟩
      rw [HRR.out]
      exact ⟨.inr ⟨by simp, rfl⟩, ⟨_, _, HX1.out⟩, HB1.out, HK1.out⟩
    · have HRR := Lib.hid (HR1.out.trans (if_neg hm))
      have hd : (E == 4611686018427387904) = false := by simp [hm]
      have hw1 : IntKind.u64.wrap (E + 1) = E + 1 := wrap_u _ (by omega) (by omega)
      have HX2 := Lib.hid (HX1.out.setE (E + 1))
      have HB2 := Lib.hid (HB1.out.setCell (p := ⟨H, 0, none⟩) hH (.int .u64 (E + 1)))
      have HK2 := Lib.hid (HK1.out.trans (Kf.set (T := tP) (t := 67) (by decide) w1 (a := ⟨H, 0, none⟩) HX1.out.bx (.int .u64 (E + 1))))
      clear HR1 hm
      go_wp2_with fail
      go_end0
      rw [HRR.out]
      exact ⟨.inl ⟨rfl, rfl⟩, ⟨_, _, HX2.out⟩, HB2.out, HK2.out⟩
theorem step_go {E : Int} {S : List Int} {o : Po} (h : o.kind = 3) : stepP E S o = goN E S := by
  unfold stepP
  rw [if_neg (by omega), if_pos h]
set_option maxHeartbeats 16000000 in
theorem Try.do_any (H n₀ : Nat) (E : Int) (S : List Int) (o : Po) (w : World) (h : Hd H n₀ E S w) (hE : 0 ≤ E ∧ E ≤ 4611686018427387904) (hS : okW S) (h8 : S.length ≤ 8) (hb : 0 ≤ o.by_) (hn0 : n₀ ≤ w.heap.size) (hH : n₀ ≤ H) :
    Calls Try.prog 43 #[.pointer (some ⟨H, 0, none⟩), .agg #[.int .i64 o.kind, .int .i64 o.goer, .int .u64 o.by_]] w (HdQ H n₀ w (stepP E S o)) := by
  obtain ⟨kd, gr, by_⟩ := o
  dsimp only at *
  obtain ⟨R, hR⟩ : ∃ R, R = stepP E S ⟨kd, gr, by_⟩ := ⟨_, rfl⟩
  rw [← hR]
  have HR := Lib.hid hR
  clear hR
  obtain ⟨g, n, h⟩ := h
  have hal : Below w.heap.size w (w.alloc (.cells #[.int .i64 kd, .int .i64 gr, .int .u64 by_] 44)) := Rows8.newB
  have rw0 := Rows8.new w 44 #[.int .i64 kd, .int .i64 gr, .int .u64 by_]
  obtain ⟨W, hW⟩ : ∃ W, W = w.alloc (.cells #[.int .i64 kd, .int .i64 gr, .int .u64 by_] 44) := ⟨_, rfl⟩
  rw [← hW] at hal rw0
  have h1 := h.below hal
  have hnl := h1.len
  have HX := Lib.hid h1
  have HAL := Lib.hid (hal.mono hn0)
  have HKF := Lib.hid (Kf.of_below (T := tP) hal)
  have HR0 := Lib.hid rw0
  have HONE := fun W => Lib.hid (Try.isOne_any E gr (some ⟨g, 0, none⟩) n n W)
  have hzn : decide (0 ≤ gr ∧ gr < (n : Int)) = isOneN S gr := by rw [hnl]; rfl
  rw [hzn] at HONE
  obtain ⟨one, hone⟩ : ∃ b, b = isOneN S gr := ⟨_, rfl⟩
  rw [← hone] at HONE
  have HHE := Lib.hid hE
  have HHS := Lib.hid hS
  have HH8 := Lib.hid h8
  have HBY := Lib.hid hb
  have HO1 := Lib.hid hone
  clear h h1 hal rw0 hzn hone hE hS h8 hb
  go_enter Try.func43, Try.ntmps43
  go_wp2_with fail
  rw [← hW]
  clear hW hnl
  by_cases hlow : kd < 1
  · have hd : decide (kd < 1) = true := decide_eq_true hlow
    have HRR := Lib.hid (HR.out.trans (if_pos (Or.inl hlow)))
    clear HR hlow
    refine wp_region_X (fun W' => Rows8 W' H 67 #[.int .u64 E, .slice (some ⟨g, 0, none⟩) n n] ∧ Rows8 W' w.heap.size 44 #[.int .i64 kd, .int .i64 gr, .int .u64 by_]) 23 (by kernel_rfl) ?_
    have hS0 : Rows8 W.drew H 67 #[.int .u64 E, .slice (some ⟨g, 0, none⟩) n n] ∧ Rows8 W.drew w.heap.size 44 #[.int .i64 kd, .int .i64 gr, .int .u64 by_] := ⟨HX.out.bx.drewA, HR0.out.drewA⟩
    have HX0 := Lib.hid HX.out.drew
    have HB0 := Lib.hid HAL.out.drew
    have HK0 := Lib.hid HKF.out.drew
    clear HX HAL HKF HR0
    generalize W.drew = Wd at *
    refine wpAnyN_take (i := 0) (oi := { dst := some 4, op := Go.Op.fieldAddr 44 (Go.Operand.tmp 3) 0, type := 0, pos := "hand.go:35", after := #[], guard := none }) (v := .pointer (some ⟨w.heap.size, 0, none⟩)) rfl (by decide) (by kernel_rfl) (by kernel_rfl) (by kernel_rfl) (fun _ _ _ h => h) (Or.inl ⟨by rfl, ?_⟩) hS0 ?_
    · intro W9 hS9
      obtain ⟨q0, q1⟩ := hS9
      clear q0 q1
      go_simp
    try simp only [Act.put, List.setIfInBounds_toArray, List.set_cons_zero, List.set_cons_succ]
    refine wpAnyN_take (i := 1) (oi := { dst := some 5, op := Go.Op.load 3 (Go.Operand.tmp 4), type := 3, pos := "hand.go:35", after := #[{ on := 0, ground := Go.Ground.data }], guard := none }) (v := .int .i64 kd) rfl (by decide) (by kernel_rfl) (by kernel_rfl) (by kernel_rfl) (fun _ _ _ h => h) (Or.inl ⟨by rfl, ?_⟩) hS0 ?_
    · intro W9 hS9
      obtain ⟨q0, q1⟩ := hS9
      have s0 : W9.cell? ⟨w.heap.size, 0, none⟩ = some (.int .i64 kd) := q1.cell 0
      clear q0 q1
      go_simp
    try simp only [Act.put, List.setIfInBounds_toArray, List.set_cons_zero, List.set_cons_succ]
    refine wpAnyN_take (i := 2) (oi := { dst := some 6, op := Go.Op.binOp Go.BinOp.lss 3 (Go.Operand.tmp 5) (Go.Operand.const (Go.Value.int Go.IntKind.i64 1)) 3, type := 4, pos := "hand.go:35", after := #[{ on := 1, ground := Go.Ground.data }], guard := none }) (v := .bool true) rfl (by decide) (by kernel_rfl) (by kernel_rfl) (by kernel_rfl) (fun _ _ _ h => h) (Or.inl ⟨by rfl, ?_⟩) hS0 ?_
    · intro W9 hS9
      obtain ⟨q0, q1⟩ := hS9
      clear q0 q1
      go_simp
    try simp only [Act.put, List.setIfInBounds_toArray, List.set_cons_zero, List.set_cons_succ]
    refine wpAnyN_take (i := 3) (oi := { dst := some 7, op := Go.Op.move (Go.Operand.tmp 6), type := 4, pos := "hand.go:35", after := #[{ on := 2, ground := Go.Ground.data }], guard := none }) (v := .bool true) rfl (by decide) (by kernel_rfl) (by kernel_rfl) (by kernel_rfl) (fun _ _ _ h => h) (Or.inl ⟨by rfl, ?_⟩) hS0 ?_
    · intro W9 hS9
      obtain ⟨q0, q1⟩ := hS9
      clear q0 q1
      go_simp
    try simp only [Act.put, List.setIfInBounds_toArray, List.set_cons_zero, List.set_cons_succ]
    refine wpAnyN_take (i := 4) (oi := { dst := some 8, op := Go.Op.fieldAddr 44 (Go.Operand.tmp 3) 0, type := 0, pos := "hand.go:35", after := #[{ on := 3, ground := Go.Ground.guard }], guard := some (3, false) }) (v := undef) rfl (by decide) (by kernel_rfl) (by kernel_rfl) (by kernel_rfl) (fun _ _ _ h => h) (Or.inr ⟨by rfl, rfl⟩) hS0 ?_
    try simp only [Act.put, List.setIfInBounds_toArray, List.set_cons_zero, List.set_cons_succ]
    refine wpAnyN_take (i := 5) (oi := { dst := some 9, op := Go.Op.load 3 (Go.Operand.tmp 8), type := 3, pos := "hand.go:35", after := #[{ on := 4, ground := Go.Ground.data }, { on := 3, ground := Go.Ground.guard }], guard := some (3, false) }) (v := undef) rfl (by decide) (by kernel_rfl) (by kernel_rfl) (by kernel_rfl) (fun _ _ _ h => h) (Or.inr ⟨by rfl, rfl⟩) hS0 ?_
    try simp only [Act.put, List.setIfInBounds_toArray, List.set_cons_zero, List.set_cons_succ]
    refine wpAnyN_take (i := 6) (oi := { dst := some 10, op := Go.Op.binOp Go.BinOp.gtr 3 (Go.Operand.tmp 9) (Go.Operand.const (Go.Value.int Go.IntKind.i64 3)) 3, type := 4, pos := "hand.go:35", after := #[{ on := 5, ground := Go.Ground.data }, { on := 3, ground := Go.Ground.guard }], guard := some (3, false) }) (v := undef) rfl (by decide) (by kernel_rfl) (by kernel_rfl) (by kernel_rfl) (fun _ _ _ h => h) (Or.inr ⟨by rfl, rfl⟩) hS0 ?_
    try simp only [Act.put, List.setIfInBounds_toArray, List.set_cons_zero, List.set_cons_succ]
    refine wpAnyN_take (i := 7) (oi := { dst := some 11, op := Go.Op.pick (Go.Operand.tmp 7) (Go.Operand.const (Go.Value.bool true)) (Go.Operand.tmp 10), type := 4, pos := "hand.go:35", after := #[{ on := 3, ground := Go.Ground.data }, { on := 6, ground := Go.Ground.data }], guard := none }) (v := .bool true) rfl (by decide) (by kernel_rfl) (by kernel_rfl) (by kernel_rfl) (fun _ _ _ h => h) (Or.inl ⟨by rfl, ?_⟩) hS0 ?_
    · intro W9 hS9
      obtain ⟨q0, q1⟩ := hS9
      clear q0 q1
      go_simp
    try simp only [Act.put, List.setIfInBounds_toArray, List.set_cons_zero, List.set_cons_succ]
    refine wpAnyN_take (i := 8) (oi := { dst := some 12, op := Go.Op.move (Go.Operand.tmp 11), type := 4, pos := "hand.go:35", after := #[{ on := 7, ground := Go.Ground.data }, { on := 3, ground := Go.Ground.chain }], guard := none }) (v := .bool true) rfl (by decide) (by kernel_rfl) (by kernel_rfl) (by kernel_rfl) (fun _ _ _ h => h) (Or.inl ⟨by rfl, ?_⟩) hS0 ?_
    · intro W9 hS9
      obtain ⟨q0, q1⟩ := hS9
      clear q0 q1
      go_simp
    try simp only [Act.put, List.setIfInBounds_toArray, List.set_cons_zero, List.set_cons_succ]
    refine wpAnyN_take (i := 9) (oi := { dst := some 13, op := Go.Op.fieldAddr 44 (Go.Operand.tmp 3) 0, type := 0, pos := "hand.go:35", after := #[{ on := 8, ground := Go.Ground.guard }], guard := some (8, false) }) (v := undef) rfl (by decide) (by kernel_rfl) (by kernel_rfl) (by kernel_rfl) (fun _ _ _ h => h) (Or.inr ⟨by rfl, rfl⟩) hS0 ?_
    try simp only [Act.put, List.setIfInBounds_toArray, List.set_cons_zero, List.set_cons_succ]
    refine wpAnyN_take (i := 10) (oi := { dst := some 14, op := Go.Op.load 3 (Go.Operand.tmp 13), type := 3, pos := "hand.go:35", after := #[{ on := 9, ground := Go.Ground.data }, { on := 8, ground := Go.Ground.guard }], guard := some (8, false) }) (v := undef) rfl (by decide) (by kernel_rfl) (by kernel_rfl) (by kernel_rfl) (fun _ _ _ h => h) (Or.inr ⟨by rfl, rfl⟩) hS0 ?_
    try simp only [Act.put, List.setIfInBounds_toArray, List.set_cons_zero, List.set_cons_succ]
    refine wpAnyN_take (i := 11) (oi := { dst := some 15, op := Go.Op.binOp Go.BinOp.neq 3 (Go.Operand.tmp 14) (Go.Operand.const (Go.Value.int Go.IntKind.i64 3)) 3, type := 4, pos := "hand.go:35", after := #[{ on := 10, ground := Go.Ground.data }, { on := 8, ground := Go.Ground.guard }], guard := some (8, false) }) (v := undef) rfl (by decide) (by kernel_rfl) (by kernel_rfl) (by kernel_rfl) (fun _ _ _ h => h) (Or.inr ⟨by rfl, rfl⟩) hS0 ?_
    try simp only [Act.put, List.setIfInBounds_toArray, List.set_cons_zero, List.set_cons_succ]
    refine wpAnyN_take (i := 12) (oi := { dst := some 16, op := Go.Op.move (Go.Operand.tmp 15), type := 4, pos := "hand.go:35", after := #[{ on := 11, ground := Go.Ground.data }, { on := 8, ground := Go.Ground.chain }, { on := 8, ground := Go.Ground.guard }], guard := some (8, false) }) (v := undef) rfl (by decide) (by kernel_rfl) (by kernel_rfl) (by kernel_rfl) (fun _ _ _ h => h) (Or.inr ⟨by rfl, rfl⟩) hS0 ?_
    try simp only [Act.put, List.setIfInBounds_toArray, List.set_cons_zero, List.set_cons_succ]
    refine wpAnyN_take (i := 13) (oi := { dst := some 17, op := Go.Op.move (Go.Operand.tmp 0), type := 76, pos := "hand.go:35", after := #[{ on := 12, ground := Go.Ground.guard }], guard := some (12, true) }) (v := undef) rfl (by decide) (by kernel_rfl) (by kernel_rfl) (by kernel_rfl) (fun _ _ _ h => h) (Or.inr ⟨by rfl, rfl⟩) hS0 ?_
    try simp only [Act.put, List.setIfInBounds_toArray, List.set_cons_zero, List.set_cons_succ]
    refine wpAnyN_take (i := 14) (oi := { dst := some 18, op := Go.Op.nilCheck (Go.Operand.tmp 17), type := 0, pos := "hand.go:35", after := #[{ on := 13, ground := Go.Ground.data }, { on := 12, ground := Go.Ground.guard }], guard := some (12, true) }) (v := undef) rfl (by decide) (by kernel_rfl) (by kernel_rfl) (by kernel_rfl) (fun _ _ _ h => h) (Or.inr ⟨by rfl, rfl⟩) hS0 ?_
    try simp only [Act.put, List.setIfInBounds_toArray, List.set_cons_zero, List.set_cons_succ]
    refine wpAnyN_take (i := 15) (oi := { dst := some 19, op := Go.Op.fieldAddr 67 (Go.Operand.tmp 18) 0, type := 0, pos := "hand.go:35", after := #[{ on := 14, ground := Go.Ground.data }, { on := 12, ground := Go.Ground.guard }], guard := some (12, true) }) (v := undef) rfl (by decide) (by kernel_rfl) (by kernel_rfl) (by kernel_rfl) (fun _ _ _ h => h) (Or.inr ⟨by rfl, rfl⟩) hS0 ?_
    try simp only [Act.put, List.setIfInBounds_toArray, List.set_cons_zero, List.set_cons_succ]
    refine wpAnyN_take (i := 16) (oi := { dst := some 20, op := Go.Op.load 57 (Go.Operand.tmp 19), type := 57, pos := "hand.go:35", after := #[{ on := 15, ground := Go.Ground.data }, { on := 12, ground := Go.Ground.guard }], guard := some (12, true) }) (v := undef) rfl (by decide) (by kernel_rfl) (by kernel_rfl) (by kernel_rfl) (fun _ _ _ h => h) (Or.inr ⟨by rfl, rfl⟩) hS0 ?_
    try simp only [Act.put, List.setIfInBounds_toArray, List.set_cons_zero, List.set_cons_succ]
    refine wpAnyN_take (i := 17) (oi := { dst := some 21, op := Go.Op.fieldAddr 44 (Go.Operand.tmp 3) 1, type := 0, pos := "hand.go:35", after := #[{ on := 12, ground := Go.Ground.guard }], guard := some (12, true) }) (v := undef) rfl (by decide) (by kernel_rfl) (by kernel_rfl) (by kernel_rfl) (fun _ _ _ h => h) (Or.inr ⟨by rfl, rfl⟩) hS0 ?_
    try simp only [Act.put, List.setIfInBounds_toArray, List.set_cons_zero, List.set_cons_succ]
    refine wpAnyN_take (i := 18) (oi := { dst := some 22, op := Go.Op.load 3 (Go.Operand.tmp 21), type := 3, pos := "hand.go:35", after := #[{ on := 17, ground := Go.Ground.data }, { on := 12, ground := Go.Ground.guard }], guard := some (12, true) }) (v := undef) rfl (by decide) (by kernel_rfl) (by kernel_rfl) (by kernel_rfl) (fun _ _ _ h => h) (Or.inr ⟨by rfl, rfl⟩) hS0 ?_
    try simp only [Act.put, List.setIfInBounds_toArray, List.set_cons_zero, List.set_cons_succ]
    refine wpAnyN_take (i := 19) (oi := { dst := some 23, op := Go.Op.call { callee := Go.Callee.value (Go.Operand.func 45), args := #[Go.Operand.tmp 20, Go.Operand.tmp 22], argTypes := #[57, 3] }, type := 4, pos := "hand.go:35", after := #[{ on := 16, ground := Go.Ground.data }, { on := 18, ground := Go.Ground.data }, { on := 12, ground := Go.Ground.chain }, { on := 12, ground := Go.Ground.guard }], guard := some (12, true) }) (v := undef) rfl (by decide) (by kernel_rfl) (by kernel_rfl) (by kernel_rfl) (fun _ _ _ h => h) (Or.inr ⟨by rfl, rfl⟩) hS0 ?_
    try simp only [Act.put, List.setIfInBounds_toArray, List.set_cons_zero, List.set_cons_succ]
    refine wpAnyN_take (i := 20) (oi := { dst := some 24, op := Go.Op.unOp Go.UnOp.not 4 (Go.Operand.tmp 23), type := 4, pos := "hand.go:35", after := #[{ on := 19, ground := Go.Ground.data }, { on := 12, ground := Go.Ground.guard }], guard := some (12, true) }) (v := undef) rfl (by decide) (by kernel_rfl) (by kernel_rfl) (by kernel_rfl) (fun _ _ _ h => h) (Or.inr ⟨by rfl, rfl⟩) hS0 ?_
    try simp only [Act.put, List.setIfInBounds_toArray, List.set_cons_zero, List.set_cons_succ]
    refine wpAnyN_take (i := 21) (oi := { dst := some 25, op := Go.Op.pick (Go.Operand.tmp 16) (Go.Operand.tmp 24) (Go.Operand.const (Go.Value.bool false)), type := 4, pos := "hand.go:35", after := #[{ on := 12, ground := Go.Ground.data }, { on := 20, ground := Go.Ground.data }, { on := 8, ground := Go.Ground.guard }], guard := some (8, false) }) (v := undef) rfl (by decide) (by kernel_rfl) (by kernel_rfl) (by kernel_rfl) (fun _ _ _ h => h) (Or.inr ⟨by rfl, rfl⟩) hS0 ?_
    try simp only [Act.put, List.setIfInBounds_toArray, List.set_cons_zero, List.set_cons_succ]
    refine wpAnyN_take (i := 22) (oi := { dst := some 26, op := Go.Op.pick (Go.Operand.tmp 12) (Go.Operand.const (Go.Value.bool true)) (Go.Operand.tmp 25), type := 4, pos := "hand.go:35", after := #[{ on := 8, ground := Go.Ground.data }, { on := 21, ground := Go.Ground.data }], guard := none }) (v := .bool true) rfl (by decide) (by kernel_rfl) (by kernel_rfl) (by kernel_rfl) (fun _ _ _ h => h) (Or.inl ⟨by rfl, ?_⟩) hS0 ?_
    · intro W9 hS9
      obtain ⟨q0, q1⟩ := hS9
      clear q0 q1
      go_simp
    try simp only [Act.put, List.setIfInBounds_toArray, List.set_cons_zero, List.set_cons_succ]
    refine wpAnyX_end (by kernel_rfl) ?_
    have HS := Lib.hid hS0
    clear hS0
    have HX := HX0
    have HAL := HB0
    have HKF := HK0
    clear HX0 HB0 HK0
    generalize Wd = W at *
    clear HS
    go_wp2_with fail
    refine ⟨rfl, ?_⟩
    rw [HRR.out]
    exact ⟨.inr ⟨by simp, rfl⟩, ⟨_, _, HX.out⟩, HAL.out, HKF.out⟩
  · have hd : decide (kd < 1) = false := decide_eq_false hlow
    by_cases hhigh : 3 < kd
    · have hd2 : decide (3 < kd) = true := decide_eq_true hhigh
      have hd3 : decide (kd > 3) = true := hd2
      have HRR := Lib.hid (HR.out.trans (if_pos (Or.inr hhigh)))
      clear HR hlow hhigh
      refine wp_region_X (fun W' => Rows8 W' H 67 #[.int .u64 E, .slice (some ⟨g, 0, none⟩) n n] ∧ Rows8 W' w.heap.size 44 #[.int .i64 kd, .int .i64 gr, .int .u64 by_]) 23 (by kernel_rfl) ?_
      have hS0 : Rows8 W.drew H 67 #[.int .u64 E, .slice (some ⟨g, 0, none⟩) n n] ∧ Rows8 W.drew w.heap.size 44 #[.int .i64 kd, .int .i64 gr, .int .u64 by_] := ⟨HX.out.bx.drewA, HR0.out.drewA⟩
      have HX0 := Lib.hid HX.out.drew
      have HB0 := Lib.hid HAL.out.drew
      have HK0 := Lib.hid HKF.out.drew
      clear HX HAL HKF HR0
      generalize W.drew = Wd at *
      refine wpAnyN_take (i := 0) (oi := { dst := some 4, op := Go.Op.fieldAddr 44 (Go.Operand.tmp 3) 0, type := 0, pos := "hand.go:35", after := #[], guard := none }) (v := .pointer (some ⟨w.heap.size, 0, none⟩)) rfl (by decide) (by kernel_rfl) (by kernel_rfl) (by kernel_rfl) (fun _ _ _ h => h) (Or.inl ⟨by rfl, ?_⟩) hS0 ?_
      · intro W9 hS9
        obtain ⟨q0, q1⟩ := hS9
        clear q0 q1
        go_simp
      try simp only [Act.put, List.setIfInBounds_toArray, List.set_cons_zero, List.set_cons_succ]
      refine wpAnyN_take (i := 1) (oi := { dst := some 5, op := Go.Op.load 3 (Go.Operand.tmp 4), type := 3, pos := "hand.go:35", after := #[{ on := 0, ground := Go.Ground.data }], guard := none }) (v := .int .i64 kd) rfl (by decide) (by kernel_rfl) (by kernel_rfl) (by kernel_rfl) (fun _ _ _ h => h) (Or.inl ⟨by rfl, ?_⟩) hS0 ?_
      · intro W9 hS9
        obtain ⟨q0, q1⟩ := hS9
        have s0 : W9.cell? ⟨w.heap.size, 0, none⟩ = some (.int .i64 kd) := q1.cell 0
        clear q0 q1
        go_simp
      try simp only [Act.put, List.setIfInBounds_toArray, List.set_cons_zero, List.set_cons_succ]
      refine wpAnyN_take (i := 2) (oi := { dst := some 6, op := Go.Op.binOp Go.BinOp.lss 3 (Go.Operand.tmp 5) (Go.Operand.const (Go.Value.int Go.IntKind.i64 1)) 3, type := 4, pos := "hand.go:35", after := #[{ on := 1, ground := Go.Ground.data }], guard := none }) (v := .bool false) rfl (by decide) (by kernel_rfl) (by kernel_rfl) (by kernel_rfl) (fun _ _ _ h => h) (Or.inl ⟨by rfl, ?_⟩) hS0 ?_
      · intro W9 hS9
        obtain ⟨q0, q1⟩ := hS9
        clear q0 q1
        go_simp
      try simp only [Act.put, List.setIfInBounds_toArray, List.set_cons_zero, List.set_cons_succ]
      refine wpAnyN_take (i := 3) (oi := { dst := some 7, op := Go.Op.move (Go.Operand.tmp 6), type := 4, pos := "hand.go:35", after := #[{ on := 2, ground := Go.Ground.data }], guard := none }) (v := .bool false) rfl (by decide) (by kernel_rfl) (by kernel_rfl) (by kernel_rfl) (fun _ _ _ h => h) (Or.inl ⟨by rfl, ?_⟩) hS0 ?_
      · intro W9 hS9
        obtain ⟨q0, q1⟩ := hS9
        clear q0 q1
        go_simp
      try simp only [Act.put, List.setIfInBounds_toArray, List.set_cons_zero, List.set_cons_succ]
      refine wpAnyN_take (i := 4) (oi := { dst := some 8, op := Go.Op.fieldAddr 44 (Go.Operand.tmp 3) 0, type := 0, pos := "hand.go:35", after := #[{ on := 3, ground := Go.Ground.guard }], guard := some (3, false) }) (v := .pointer (some ⟨w.heap.size, 0, none⟩)) rfl (by decide) (by kernel_rfl) (by kernel_rfl) (by kernel_rfl) (fun _ _ _ h => h) (Or.inl ⟨by rfl, ?_⟩) hS0 ?_
      · intro W9 hS9
        obtain ⟨q0, q1⟩ := hS9
        clear q0 q1
        go_simp
      try simp only [Act.put, List.setIfInBounds_toArray, List.set_cons_zero, List.set_cons_succ]
      refine wpAnyN_take (i := 5) (oi := { dst := some 9, op := Go.Op.load 3 (Go.Operand.tmp 8), type := 3, pos := "hand.go:35", after := #[{ on := 4, ground := Go.Ground.data }, { on := 3, ground := Go.Ground.guard }], guard := some (3, false) }) (v := .int .i64 kd) rfl (by decide) (by kernel_rfl) (by kernel_rfl) (by kernel_rfl) (fun _ _ _ h => h) (Or.inl ⟨by rfl, ?_⟩) hS0 ?_
      · intro W9 hS9
        obtain ⟨q0, q1⟩ := hS9
        have s0 : W9.cell? ⟨w.heap.size, 0, none⟩ = some (.int .i64 kd) := q1.cell 0
        clear q0 q1
        go_simp
      try simp only [Act.put, List.setIfInBounds_toArray, List.set_cons_zero, List.set_cons_succ]
      refine wpAnyN_take (i := 6) (oi := { dst := some 10, op := Go.Op.binOp Go.BinOp.gtr 3 (Go.Operand.tmp 9) (Go.Operand.const (Go.Value.int Go.IntKind.i64 3)) 3, type := 4, pos := "hand.go:35", after := #[{ on := 5, ground := Go.Ground.data }, { on := 3, ground := Go.Ground.guard }], guard := some (3, false) }) (v := .bool true) rfl (by decide) (by kernel_rfl) (by kernel_rfl) (by kernel_rfl) (fun _ _ _ h => h) (Or.inl ⟨by rfl, ?_⟩) hS0 ?_
      · intro W9 hS9
        obtain ⟨q0, q1⟩ := hS9
        clear q0 q1
        go_simp
      try simp only [Act.put, List.setIfInBounds_toArray, List.set_cons_zero, List.set_cons_succ]
      refine wpAnyN_take (i := 7) (oi := { dst := some 11, op := Go.Op.pick (Go.Operand.tmp 7) (Go.Operand.const (Go.Value.bool true)) (Go.Operand.tmp 10), type := 4, pos := "hand.go:35", after := #[{ on := 3, ground := Go.Ground.data }, { on := 6, ground := Go.Ground.data }], guard := none }) (v := .bool true) rfl (by decide) (by kernel_rfl) (by kernel_rfl) (by kernel_rfl) (fun _ _ _ h => h) (Or.inl ⟨by rfl, ?_⟩) hS0 ?_
      · intro W9 hS9
        obtain ⟨q0, q1⟩ := hS9
        clear q0 q1
        go_simp
      try simp only [Act.put, List.setIfInBounds_toArray, List.set_cons_zero, List.set_cons_succ]
      refine wpAnyN_take (i := 8) (oi := { dst := some 12, op := Go.Op.move (Go.Operand.tmp 11), type := 4, pos := "hand.go:35", after := #[{ on := 7, ground := Go.Ground.data }, { on := 3, ground := Go.Ground.chain }], guard := none }) (v := .bool true) rfl (by decide) (by kernel_rfl) (by kernel_rfl) (by kernel_rfl) (fun _ _ _ h => h) (Or.inl ⟨by rfl, ?_⟩) hS0 ?_
      · intro W9 hS9
        obtain ⟨q0, q1⟩ := hS9
        clear q0 q1
        go_simp
      try simp only [Act.put, List.setIfInBounds_toArray, List.set_cons_zero, List.set_cons_succ]
      refine wpAnyN_take (i := 9) (oi := { dst := some 13, op := Go.Op.fieldAddr 44 (Go.Operand.tmp 3) 0, type := 0, pos := "hand.go:35", after := #[{ on := 8, ground := Go.Ground.guard }], guard := some (8, false) }) (v := undef) rfl (by decide) (by kernel_rfl) (by kernel_rfl) (by kernel_rfl) (fun _ _ _ h => h) (Or.inr ⟨by rfl, rfl⟩) hS0 ?_
      try simp only [Act.put, List.setIfInBounds_toArray, List.set_cons_zero, List.set_cons_succ]
      refine wpAnyN_take (i := 10) (oi := { dst := some 14, op := Go.Op.load 3 (Go.Operand.tmp 13), type := 3, pos := "hand.go:35", after := #[{ on := 9, ground := Go.Ground.data }, { on := 8, ground := Go.Ground.guard }], guard := some (8, false) }) (v := undef) rfl (by decide) (by kernel_rfl) (by kernel_rfl) (by kernel_rfl) (fun _ _ _ h => h) (Or.inr ⟨by rfl, rfl⟩) hS0 ?_
      try simp only [Act.put, List.setIfInBounds_toArray, List.set_cons_zero, List.set_cons_succ]
      refine wpAnyN_take (i := 11) (oi := { dst := some 15, op := Go.Op.binOp Go.BinOp.neq 3 (Go.Operand.tmp 14) (Go.Operand.const (Go.Value.int Go.IntKind.i64 3)) 3, type := 4, pos := "hand.go:35", after := #[{ on := 10, ground := Go.Ground.data }, { on := 8, ground := Go.Ground.guard }], guard := some (8, false) }) (v := undef) rfl (by decide) (by kernel_rfl) (by kernel_rfl) (by kernel_rfl) (fun _ _ _ h => h) (Or.inr ⟨by rfl, rfl⟩) hS0 ?_
      try simp only [Act.put, List.setIfInBounds_toArray, List.set_cons_zero, List.set_cons_succ]
      refine wpAnyN_take (i := 12) (oi := { dst := some 16, op := Go.Op.move (Go.Operand.tmp 15), type := 4, pos := "hand.go:35", after := #[{ on := 11, ground := Go.Ground.data }, { on := 8, ground := Go.Ground.chain }, { on := 8, ground := Go.Ground.guard }], guard := some (8, false) }) (v := undef) rfl (by decide) (by kernel_rfl) (by kernel_rfl) (by kernel_rfl) (fun _ _ _ h => h) (Or.inr ⟨by rfl, rfl⟩) hS0 ?_
      try simp only [Act.put, List.setIfInBounds_toArray, List.set_cons_zero, List.set_cons_succ]
      refine wpAnyN_take (i := 13) (oi := { dst := some 17, op := Go.Op.move (Go.Operand.tmp 0), type := 76, pos := "hand.go:35", after := #[{ on := 12, ground := Go.Ground.guard }], guard := some (12, true) }) (v := undef) rfl (by decide) (by kernel_rfl) (by kernel_rfl) (by kernel_rfl) (fun _ _ _ h => h) (Or.inr ⟨by rfl, rfl⟩) hS0 ?_
      try simp only [Act.put, List.setIfInBounds_toArray, List.set_cons_zero, List.set_cons_succ]
      refine wpAnyN_take (i := 14) (oi := { dst := some 18, op := Go.Op.nilCheck (Go.Operand.tmp 17), type := 0, pos := "hand.go:35", after := #[{ on := 13, ground := Go.Ground.data }, { on := 12, ground := Go.Ground.guard }], guard := some (12, true) }) (v := undef) rfl (by decide) (by kernel_rfl) (by kernel_rfl) (by kernel_rfl) (fun _ _ _ h => h) (Or.inr ⟨by rfl, rfl⟩) hS0 ?_
      try simp only [Act.put, List.setIfInBounds_toArray, List.set_cons_zero, List.set_cons_succ]
      refine wpAnyN_take (i := 15) (oi := { dst := some 19, op := Go.Op.fieldAddr 67 (Go.Operand.tmp 18) 0, type := 0, pos := "hand.go:35", after := #[{ on := 14, ground := Go.Ground.data }, { on := 12, ground := Go.Ground.guard }], guard := some (12, true) }) (v := undef) rfl (by decide) (by kernel_rfl) (by kernel_rfl) (by kernel_rfl) (fun _ _ _ h => h) (Or.inr ⟨by rfl, rfl⟩) hS0 ?_
      try simp only [Act.put, List.setIfInBounds_toArray, List.set_cons_zero, List.set_cons_succ]
      refine wpAnyN_take (i := 16) (oi := { dst := some 20, op := Go.Op.load 57 (Go.Operand.tmp 19), type := 57, pos := "hand.go:35", after := #[{ on := 15, ground := Go.Ground.data }, { on := 12, ground := Go.Ground.guard }], guard := some (12, true) }) (v := undef) rfl (by decide) (by kernel_rfl) (by kernel_rfl) (by kernel_rfl) (fun _ _ _ h => h) (Or.inr ⟨by rfl, rfl⟩) hS0 ?_
      try simp only [Act.put, List.setIfInBounds_toArray, List.set_cons_zero, List.set_cons_succ]
      refine wpAnyN_take (i := 17) (oi := { dst := some 21, op := Go.Op.fieldAddr 44 (Go.Operand.tmp 3) 1, type := 0, pos := "hand.go:35", after := #[{ on := 12, ground := Go.Ground.guard }], guard := some (12, true) }) (v := undef) rfl (by decide) (by kernel_rfl) (by kernel_rfl) (by kernel_rfl) (fun _ _ _ h => h) (Or.inr ⟨by rfl, rfl⟩) hS0 ?_
      try simp only [Act.put, List.setIfInBounds_toArray, List.set_cons_zero, List.set_cons_succ]
      refine wpAnyN_take (i := 18) (oi := { dst := some 22, op := Go.Op.load 3 (Go.Operand.tmp 21), type := 3, pos := "hand.go:35", after := #[{ on := 17, ground := Go.Ground.data }, { on := 12, ground := Go.Ground.guard }], guard := some (12, true) }) (v := undef) rfl (by decide) (by kernel_rfl) (by kernel_rfl) (by kernel_rfl) (fun _ _ _ h => h) (Or.inr ⟨by rfl, rfl⟩) hS0 ?_
      try simp only [Act.put, List.setIfInBounds_toArray, List.set_cons_zero, List.set_cons_succ]
      refine wpAnyN_take (i := 19) (oi := { dst := some 23, op := Go.Op.call { callee := Go.Callee.value (Go.Operand.func 45), args := #[Go.Operand.tmp 20, Go.Operand.tmp 22], argTypes := #[57, 3] }, type := 4, pos := "hand.go:35", after := #[{ on := 16, ground := Go.Ground.data }, { on := 18, ground := Go.Ground.data }, { on := 12, ground := Go.Ground.chain }, { on := 12, ground := Go.Ground.guard }], guard := some (12, true) }) (v := undef) rfl (by decide) (by kernel_rfl) (by kernel_rfl) (by kernel_rfl) (fun _ _ _ h => h) (Or.inr ⟨by rfl, rfl⟩) hS0 ?_
      try simp only [Act.put, List.setIfInBounds_toArray, List.set_cons_zero, List.set_cons_succ]
      refine wpAnyN_take (i := 20) (oi := { dst := some 24, op := Go.Op.unOp Go.UnOp.not 4 (Go.Operand.tmp 23), type := 4, pos := "hand.go:35", after := #[{ on := 19, ground := Go.Ground.data }, { on := 12, ground := Go.Ground.guard }], guard := some (12, true) }) (v := undef) rfl (by decide) (by kernel_rfl) (by kernel_rfl) (by kernel_rfl) (fun _ _ _ h => h) (Or.inr ⟨by rfl, rfl⟩) hS0 ?_
      try simp only [Act.put, List.setIfInBounds_toArray, List.set_cons_zero, List.set_cons_succ]
      refine wpAnyN_take (i := 21) (oi := { dst := some 25, op := Go.Op.pick (Go.Operand.tmp 16) (Go.Operand.tmp 24) (Go.Operand.const (Go.Value.bool false)), type := 4, pos := "hand.go:35", after := #[{ on := 12, ground := Go.Ground.data }, { on := 20, ground := Go.Ground.data }, { on := 8, ground := Go.Ground.guard }], guard := some (8, false) }) (v := undef) rfl (by decide) (by kernel_rfl) (by kernel_rfl) (by kernel_rfl) (fun _ _ _ h => h) (Or.inr ⟨by rfl, rfl⟩) hS0 ?_
      try simp only [Act.put, List.setIfInBounds_toArray, List.set_cons_zero, List.set_cons_succ]
      refine wpAnyN_take (i := 22) (oi := { dst := some 26, op := Go.Op.pick (Go.Operand.tmp 12) (Go.Operand.const (Go.Value.bool true)) (Go.Operand.tmp 25), type := 4, pos := "hand.go:35", after := #[{ on := 8, ground := Go.Ground.data }, { on := 21, ground := Go.Ground.data }], guard := none }) (v := .bool true) rfl (by decide) (by kernel_rfl) (by kernel_rfl) (by kernel_rfl) (fun _ _ _ h => h) (Or.inl ⟨by rfl, ?_⟩) hS0 ?_
      · intro W9 hS9
        obtain ⟨q0, q1⟩ := hS9
        clear q0 q1
        go_simp
      try simp only [Act.put, List.setIfInBounds_toArray, List.set_cons_zero, List.set_cons_succ]
      refine wpAnyX_end (by kernel_rfl) ?_
      have HS := Lib.hid hS0
      clear hS0
      have HX := HX0
      have HAL := HB0
      have HKF := HK0
      clear HX0 HB0 HK0
      generalize Wd = W at *
      clear HS
      go_wp2_with fail
      refine ⟨rfl, ?_⟩
      rw [HRR.out]
      exact ⟨.inr ⟨by simp, rfl⟩, ⟨_, _, HX.out⟩, HAL.out, HKF.out⟩
    · have hd2 : decide (3 < kd) = false := decide_eq_false hhigh
      have hd3 : decide (kd > 3) = false := hd2
      by_cases h3 : kd = 3
      · subst h3
        have hd4 : ((3 : Int) != 3) = false := rfl
        have HRR := Lib.hid (HR.out.trans (step_go rfl))
        clear HR
        refine wp_region_X (fun W' => Rows8 W' H 67 #[.int .u64 E, .slice (some ⟨g, 0, none⟩) n n] ∧ Rows8 W' w.heap.size 44 #[.int .i64 3, .int .i64 gr, .int .u64 by_]) 23 (by kernel_rfl) ?_
        have hS0 : Rows8 W.drew H 67 #[.int .u64 E, .slice (some ⟨g, 0, none⟩) n n] ∧ Rows8 W.drew w.heap.size 44 #[.int .i64 3, .int .i64 gr, .int .u64 by_] := ⟨HX.out.bx.drewA, HR0.out.drewA⟩
        have HX0 := Lib.hid HX.out.drew
        have HB0 := Lib.hid HAL.out.drew
        have HK0 := Lib.hid HKF.out.drew
        clear HX HAL HKF HR0
        generalize W.drew = Wd at *
        refine wpAnyN_take (i := 0) (oi := { dst := some 4, op := Go.Op.fieldAddr 44 (Go.Operand.tmp 3) 0, type := 0, pos := "hand.go:35", after := #[], guard := none }) (v := .pointer (some ⟨w.heap.size, 0, none⟩)) rfl (by decide) (by kernel_rfl) (by kernel_rfl) (by kernel_rfl) (fun _ _ _ h => h) (Or.inl ⟨by rfl, ?_⟩) hS0 ?_
        · intro W9 hS9
          obtain ⟨q0, q1⟩ := hS9
          clear q0 q1
          go_simp
        try simp only [Act.put, List.setIfInBounds_toArray, List.set_cons_zero, List.set_cons_succ]
        refine wpAnyN_take (i := 1) (oi := { dst := some 5, op := Go.Op.load 3 (Go.Operand.tmp 4), type := 3, pos := "hand.go:35", after := #[{ on := 0, ground := Go.Ground.data }], guard := none }) (v := .int .i64 3) rfl (by decide) (by kernel_rfl) (by kernel_rfl) (by kernel_rfl) (fun _ _ _ h => h) (Or.inl ⟨by rfl, ?_⟩) hS0 ?_
        · intro W9 hS9
          obtain ⟨q0, q1⟩ := hS9
          have s0 : W9.cell? ⟨w.heap.size, 0, none⟩ = some (.int .i64 3) := q1.cell 0
          clear q0 q1
          go_simp
        try simp only [Act.put, List.setIfInBounds_toArray, List.set_cons_zero, List.set_cons_succ]
        refine wpAnyN_take (i := 2) (oi := { dst := some 6, op := Go.Op.binOp Go.BinOp.lss 3 (Go.Operand.tmp 5) (Go.Operand.const (Go.Value.int Go.IntKind.i64 1)) 3, type := 4, pos := "hand.go:35", after := #[{ on := 1, ground := Go.Ground.data }], guard := none }) (v := .bool false) rfl (by decide) (by kernel_rfl) (by kernel_rfl) (by kernel_rfl) (fun _ _ _ h => h) (Or.inl ⟨by rfl, ?_⟩) hS0 ?_
        · intro W9 hS9
          obtain ⟨q0, q1⟩ := hS9
          clear q0 q1
          go_simp
        try simp only [Act.put, List.setIfInBounds_toArray, List.set_cons_zero, List.set_cons_succ]
        refine wpAnyN_take (i := 3) (oi := { dst := some 7, op := Go.Op.move (Go.Operand.tmp 6), type := 4, pos := "hand.go:35", after := #[{ on := 2, ground := Go.Ground.data }], guard := none }) (v := .bool false) rfl (by decide) (by kernel_rfl) (by kernel_rfl) (by kernel_rfl) (fun _ _ _ h => h) (Or.inl ⟨by rfl, ?_⟩) hS0 ?_
        · intro W9 hS9
          obtain ⟨q0, q1⟩ := hS9
          clear q0 q1
          go_simp
        try simp only [Act.put, List.setIfInBounds_toArray, List.set_cons_zero, List.set_cons_succ]
        refine wpAnyN_take (i := 4) (oi := { dst := some 8, op := Go.Op.fieldAddr 44 (Go.Operand.tmp 3) 0, type := 0, pos := "hand.go:35", after := #[{ on := 3, ground := Go.Ground.guard }], guard := some (3, false) }) (v := .pointer (some ⟨w.heap.size, 0, none⟩)) rfl (by decide) (by kernel_rfl) (by kernel_rfl) (by kernel_rfl) (fun _ _ _ h => h) (Or.inl ⟨by rfl, ?_⟩) hS0 ?_
        · intro W9 hS9
          obtain ⟨q0, q1⟩ := hS9
          clear q0 q1
          go_simp
        try simp only [Act.put, List.setIfInBounds_toArray, List.set_cons_zero, List.set_cons_succ]
        refine wpAnyN_take (i := 5) (oi := { dst := some 9, op := Go.Op.load 3 (Go.Operand.tmp 8), type := 3, pos := "hand.go:35", after := #[{ on := 4, ground := Go.Ground.data }, { on := 3, ground := Go.Ground.guard }], guard := some (3, false) }) (v := .int .i64 3) rfl (by decide) (by kernel_rfl) (by kernel_rfl) (by kernel_rfl) (fun _ _ _ h => h) (Or.inl ⟨by rfl, ?_⟩) hS0 ?_
        · intro W9 hS9
          obtain ⟨q0, q1⟩ := hS9
          have s0 : W9.cell? ⟨w.heap.size, 0, none⟩ = some (.int .i64 3) := q1.cell 0
          clear q0 q1
          go_simp
        try simp only [Act.put, List.setIfInBounds_toArray, List.set_cons_zero, List.set_cons_succ]
        refine wpAnyN_take (i := 6) (oi := { dst := some 10, op := Go.Op.binOp Go.BinOp.gtr 3 (Go.Operand.tmp 9) (Go.Operand.const (Go.Value.int Go.IntKind.i64 3)) 3, type := 4, pos := "hand.go:35", after := #[{ on := 5, ground := Go.Ground.data }, { on := 3, ground := Go.Ground.guard }], guard := some (3, false) }) (v := .bool false) rfl (by decide) (by kernel_rfl) (by kernel_rfl) (by kernel_rfl) (fun _ _ _ h => h) (Or.inl ⟨by rfl, ?_⟩) hS0 ?_
        · intro W9 hS9
          obtain ⟨q0, q1⟩ := hS9
          clear q0 q1
          go_simp
        try simp only [Act.put, List.setIfInBounds_toArray, List.set_cons_zero, List.set_cons_succ]
        refine wpAnyN_take (i := 7) (oi := { dst := some 11, op := Go.Op.pick (Go.Operand.tmp 7) (Go.Operand.const (Go.Value.bool true)) (Go.Operand.tmp 10), type := 4, pos := "hand.go:35", after := #[{ on := 3, ground := Go.Ground.data }, { on := 6, ground := Go.Ground.data }], guard := none }) (v := .bool false) rfl (by decide) (by kernel_rfl) (by kernel_rfl) (by kernel_rfl) (fun _ _ _ h => h) (Or.inl ⟨by rfl, ?_⟩) hS0 ?_
        · intro W9 hS9
          obtain ⟨q0, q1⟩ := hS9
          clear q0 q1
          go_simp
        try simp only [Act.put, List.setIfInBounds_toArray, List.set_cons_zero, List.set_cons_succ]
        refine wpAnyN_take (i := 8) (oi := { dst := some 12, op := Go.Op.move (Go.Operand.tmp 11), type := 4, pos := "hand.go:35", after := #[{ on := 7, ground := Go.Ground.data }, { on := 3, ground := Go.Ground.chain }], guard := none }) (v := .bool false) rfl (by decide) (by kernel_rfl) (by kernel_rfl) (by kernel_rfl) (fun _ _ _ h => h) (Or.inl ⟨by rfl, ?_⟩) hS0 ?_
        · intro W9 hS9
          obtain ⟨q0, q1⟩ := hS9
          clear q0 q1
          go_simp
        try simp only [Act.put, List.setIfInBounds_toArray, List.set_cons_zero, List.set_cons_succ]
        refine wpAnyN_take (i := 9) (oi := { dst := some 13, op := Go.Op.fieldAddr 44 (Go.Operand.tmp 3) 0, type := 0, pos := "hand.go:35", after := #[{ on := 8, ground := Go.Ground.guard }], guard := some (8, false) }) (v := .pointer (some ⟨w.heap.size, 0, none⟩)) rfl (by decide) (by kernel_rfl) (by kernel_rfl) (by kernel_rfl) (fun _ _ _ h => h) (Or.inl ⟨by rfl, ?_⟩) hS0 ?_
        · intro W9 hS9
          obtain ⟨q0, q1⟩ := hS9
          clear q0 q1
          go_simp
        try simp only [Act.put, List.setIfInBounds_toArray, List.set_cons_zero, List.set_cons_succ]
        refine wpAnyN_take (i := 10) (oi := { dst := some 14, op := Go.Op.load 3 (Go.Operand.tmp 13), type := 3, pos := "hand.go:35", after := #[{ on := 9, ground := Go.Ground.data }, { on := 8, ground := Go.Ground.guard }], guard := some (8, false) }) (v := .int .i64 3) rfl (by decide) (by kernel_rfl) (by kernel_rfl) (by kernel_rfl) (fun _ _ _ h => h) (Or.inl ⟨by rfl, ?_⟩) hS0 ?_
        · intro W9 hS9
          obtain ⟨q0, q1⟩ := hS9
          have s0 : W9.cell? ⟨w.heap.size, 0, none⟩ = some (.int .i64 3) := q1.cell 0
          clear q0 q1
          go_simp
        try simp only [Act.put, List.setIfInBounds_toArray, List.set_cons_zero, List.set_cons_succ]
        refine wpAnyN_take (i := 11) (oi := { dst := some 15, op := Go.Op.binOp Go.BinOp.neq 3 (Go.Operand.tmp 14) (Go.Operand.const (Go.Value.int Go.IntKind.i64 3)) 3, type := 4, pos := "hand.go:35", after := #[{ on := 10, ground := Go.Ground.data }, { on := 8, ground := Go.Ground.guard }], guard := some (8, false) }) (v := .bool false) rfl (by decide) (by kernel_rfl) (by kernel_rfl) (by kernel_rfl) (fun _ _ _ h => h) (Or.inl ⟨by rfl, ?_⟩) hS0 ?_
        · intro W9 hS9
          obtain ⟨q0, q1⟩ := hS9
          clear q0 q1
          go_simp
        try simp only [Act.put, List.setIfInBounds_toArray, List.set_cons_zero, List.set_cons_succ]
        refine wpAnyN_take (i := 12) (oi := { dst := some 16, op := Go.Op.move (Go.Operand.tmp 15), type := 4, pos := "hand.go:35", after := #[{ on := 11, ground := Go.Ground.data }, { on := 8, ground := Go.Ground.chain }, { on := 8, ground := Go.Ground.guard }], guard := some (8, false) }) (v := .bool false) rfl (by decide) (by kernel_rfl) (by kernel_rfl) (by kernel_rfl) (fun _ _ _ h => h) (Or.inl ⟨by rfl, ?_⟩) hS0 ?_
        · intro W9 hS9
          obtain ⟨q0, q1⟩ := hS9
          clear q0 q1
          go_simp
        try simp only [Act.put, List.setIfInBounds_toArray, List.set_cons_zero, List.set_cons_succ]
        refine wpAnyN_take (i := 13) (oi := { dst := some 17, op := Go.Op.move (Go.Operand.tmp 0), type := 76, pos := "hand.go:35", after := #[{ on := 12, ground := Go.Ground.guard }], guard := some (12, true) }) (v := undef) rfl (by decide) (by kernel_rfl) (by kernel_rfl) (by kernel_rfl) (fun _ _ _ h => h) (Or.inr ⟨by rfl, rfl⟩) hS0 ?_
        try simp only [Act.put, List.setIfInBounds_toArray, List.set_cons_zero, List.set_cons_succ]
        refine wpAnyN_take (i := 14) (oi := { dst := some 18, op := Go.Op.nilCheck (Go.Operand.tmp 17), type := 0, pos := "hand.go:35", after := #[{ on := 13, ground := Go.Ground.data }, { on := 12, ground := Go.Ground.guard }], guard := some (12, true) }) (v := undef) rfl (by decide) (by kernel_rfl) (by kernel_rfl) (by kernel_rfl) (fun _ _ _ h => h) (Or.inr ⟨by rfl, rfl⟩) hS0 ?_
        try simp only [Act.put, List.setIfInBounds_toArray, List.set_cons_zero, List.set_cons_succ]
        refine wpAnyN_take (i := 15) (oi := { dst := some 19, op := Go.Op.fieldAddr 67 (Go.Operand.tmp 18) 0, type := 0, pos := "hand.go:35", after := #[{ on := 14, ground := Go.Ground.data }, { on := 12, ground := Go.Ground.guard }], guard := some (12, true) }) (v := undef) rfl (by decide) (by kernel_rfl) (by kernel_rfl) (by kernel_rfl) (fun _ _ _ h => h) (Or.inr ⟨by rfl, rfl⟩) hS0 ?_
        try simp only [Act.put, List.setIfInBounds_toArray, List.set_cons_zero, List.set_cons_succ]
        refine wpAnyN_take (i := 16) (oi := { dst := some 20, op := Go.Op.load 57 (Go.Operand.tmp 19), type := 57, pos := "hand.go:35", after := #[{ on := 15, ground := Go.Ground.data }, { on := 12, ground := Go.Ground.guard }], guard := some (12, true) }) (v := undef) rfl (by decide) (by kernel_rfl) (by kernel_rfl) (by kernel_rfl) (fun _ _ _ h => h) (Or.inr ⟨by rfl, rfl⟩) hS0 ?_
        try simp only [Act.put, List.setIfInBounds_toArray, List.set_cons_zero, List.set_cons_succ]
        refine wpAnyN_take (i := 17) (oi := { dst := some 21, op := Go.Op.fieldAddr 44 (Go.Operand.tmp 3) 1, type := 0, pos := "hand.go:35", after := #[{ on := 12, ground := Go.Ground.guard }], guard := some (12, true) }) (v := undef) rfl (by decide) (by kernel_rfl) (by kernel_rfl) (by kernel_rfl) (fun _ _ _ h => h) (Or.inr ⟨by rfl, rfl⟩) hS0 ?_
        try simp only [Act.put, List.setIfInBounds_toArray, List.set_cons_zero, List.set_cons_succ]
        refine wpAnyN_take (i := 18) (oi := { dst := some 22, op := Go.Op.load 3 (Go.Operand.tmp 21), type := 3, pos := "hand.go:35", after := #[{ on := 17, ground := Go.Ground.data }, { on := 12, ground := Go.Ground.guard }], guard := some (12, true) }) (v := undef) rfl (by decide) (by kernel_rfl) (by kernel_rfl) (by kernel_rfl) (fun _ _ _ h => h) (Or.inr ⟨by rfl, rfl⟩) hS0 ?_
        try simp only [Act.put, List.setIfInBounds_toArray, List.set_cons_zero, List.set_cons_succ]
        refine wpAnyN_take (i := 19) (oi := { dst := some 23, op := Go.Op.call { callee := Go.Callee.value (Go.Operand.func 45), args := #[Go.Operand.tmp 20, Go.Operand.tmp 22], argTypes := #[57, 3] }, type := 4, pos := "hand.go:35", after := #[{ on := 16, ground := Go.Ground.data }, { on := 18, ground := Go.Ground.data }, { on := 12, ground := Go.Ground.chain }, { on := 12, ground := Go.Ground.guard }], guard := some (12, true) }) (v := undef) rfl (by decide) (by kernel_rfl) (by kernel_rfl) (by kernel_rfl) (fun _ _ _ h => h) (Or.inr ⟨by rfl, rfl⟩) hS0 ?_
        try simp only [Act.put, List.setIfInBounds_toArray, List.set_cons_zero, List.set_cons_succ]
        refine wpAnyN_take (i := 20) (oi := { dst := some 24, op := Go.Op.unOp Go.UnOp.not 4 (Go.Operand.tmp 23), type := 4, pos := "hand.go:35", after := #[{ on := 19, ground := Go.Ground.data }, { on := 12, ground := Go.Ground.guard }], guard := some (12, true) }) (v := undef) rfl (by decide) (by kernel_rfl) (by kernel_rfl) (by kernel_rfl) (fun _ _ _ h => h) (Or.inr ⟨by rfl, rfl⟩) hS0 ?_
        try simp only [Act.put, List.setIfInBounds_toArray, List.set_cons_zero, List.set_cons_succ]
        refine wpAnyN_take (i := 21) (oi := { dst := some 25, op := Go.Op.pick (Go.Operand.tmp 16) (Go.Operand.tmp 24) (Go.Operand.const (Go.Value.bool false)), type := 4, pos := "hand.go:35", after := #[{ on := 12, ground := Go.Ground.data }, { on := 20, ground := Go.Ground.data }, { on := 8, ground := Go.Ground.guard }], guard := some (8, false) }) (v := .bool false) rfl (by decide) (by kernel_rfl) (by kernel_rfl) (by kernel_rfl) (fun _ _ _ h => h) (Or.inl ⟨by rfl, ?_⟩) hS0 ?_
        · intro W9 hS9
          obtain ⟨q0, q1⟩ := hS9
          clear q0 q1
          go_simp
        try simp only [Act.put, List.setIfInBounds_toArray, List.set_cons_zero, List.set_cons_succ]
        refine wpAnyN_take (i := 22) (oi := { dst := some 26, op := Go.Op.pick (Go.Operand.tmp 12) (Go.Operand.const (Go.Value.bool true)) (Go.Operand.tmp 25), type := 4, pos := "hand.go:35", after := #[{ on := 8, ground := Go.Ground.data }, { on := 21, ground := Go.Ground.data }], guard := none }) (v := .bool false) rfl (by decide) (by kernel_rfl) (by kernel_rfl) (by kernel_rfl) (fun _ _ _ h => h) (Or.inl ⟨by rfl, ?_⟩) hS0 ?_
        · intro W9 hS9
          obtain ⟨q0, q1⟩ := hS9
          clear q0 q1
          go_simp
        try simp only [Act.put, List.setIfInBounds_toArray, List.set_cons_zero, List.set_cons_succ]
        refine wpAnyX_end (by kernel_rfl) ?_
        have HS := Lib.hid hS0
        clear hS0
        have HX := HX0
        have HAL := HB0
        have HKF := HK0
        clear HX0 HB0 HK0
        generalize Wd = W at *
        have HR0 := Lib.hid HS.out.2
        clear HS
        go_wp2_with fail
        refine wp_region_L (fun W' => Rows8 W' w.heap.size 44 #[.int .i64 3, .int .i64 gr, .int .u64 by_]) 6 (by kernel_rfl) ?_
        have hS5 : Rows8 W.drew w.heap.size 44 #[.int .i64 3, .int .i64 gr, .int .u64 by_] := HR0.out.drewA
        have HX5 := Lib.hid HX.out.drew
        have HB5 := Lib.hid HAL.out.drew
        have HK5 := Lib.hid HKF.out.drew
        clear HX HAL HKF HR0
        generalize W.drew = We at *
        refine wpAnyL_takeT (i := 0) (oi := { dst := some 28, op := Go.Op.build 81 #[(1, Go.Operand.func 46), (2, Go.Operand.func 47), (3, Go.Operand.func 48)], type := 81, pos := "hand.go:38", after := #[], guard := none }) (v := .agg #[.nilFunc, .func (.func 46) #[] #[], .func (.func 47) #[] #[], .func (.func 48) #[] #[]]) [3, 6] rfl (by kernel_rfl) (by kernel_rfl) (by kernel_rfl) (by kernel_rfl) (fun _ _ _ h => h) (Or.inl ⟨by rfl, ?_⟩) hS5 ?_
        · intro W9 hS9
          clear hS9
          first | (go_simp; done) | kernel_rfl
        try simp only [Act.put, List.setIfInBounds_toArray, List.set_cons_zero, List.set_cons_succ]
        refine wpAnyL_takeT (i := 1) (oi := { dst := some 29, op := Go.Op.fieldAddr 44 (Go.Operand.tmp 3) 0, type := 0, pos := "hand.go:38", after := #[], guard := none }) (v := .pointer (some ⟨w.heap.size, 0, none⟩)) [2, 3, 6] rfl (by kernel_rfl) (by kernel_rfl) (by kernel_rfl) (by kernel_rfl) (fun _ _ _ h => h) (Or.inl ⟨by rfl, ?_⟩) hS5 ?_
        · intro W9 hS9
          clear hS9
          go_simp
        try simp only [Act.put, List.setIfInBounds_toArray, List.set_cons_zero, List.set_cons_succ]
        refine wpAnyL_takeT (i := 2) (oi := { dst := some 30, op := Go.Op.load 3 (Go.Operand.tmp 29), type := 3, pos := "hand.go:38", after := #[{ on := 1, ground := Go.Ground.data }], guard := none }) (v := .int .i64 3) [3, 6] rfl (by kernel_rfl) (by kernel_rfl) (by kernel_rfl) (by kernel_rfl) (fun _ _ _ h => h) (Or.inl ⟨by rfl, ?_⟩) hS5 ?_
        · intro W9 hS9
          have s0 : W9.cell? ⟨w.heap.size, 0, none⟩ = some (.int .i64 3) := hS9.cell 0
          clear hS9
          go_simp
        try simp only [Act.put, List.setIfInBounds_toArray, List.set_cons_zero, List.set_cons_succ]
        refine wpAnyL_takeT (i := 3) (oi := { dst := some 31, op := Go.Op.index 81 (Go.Operand.tmp 28) (Go.Operand.tmp 30), type := 80, pos := "hand.go:38", after := #[{ on := 0, ground := Go.Ground.data }, { on := 2, ground := Go.Ground.data }], guard := none }) (v := .func (.func 48) #[] #[]) [6] rfl (by kernel_rfl) (by kernel_rfl) (by kernel_rfl) (by kernel_rfl) (fun _ _ _ h => h) (Or.inl ⟨by rfl, ?_⟩) hS5 ?_
        · intro W9 hS9
          clear hS9
          first | (go_simp; done) | kernel_rfl
        try simp only [Act.put, List.setIfInBounds_toArray, List.set_cons_zero, List.set_cons_succ]
        refine wpAnyL_takeT (i := 4) (oi := { dst := some 32, op := Go.Op.move (Go.Operand.tmp 0), type := 76, pos := "hand.go:38", after := #[], guard := none }) (v := .pointer (some ⟨H, 0, none⟩)) [6] rfl (by kernel_rfl) (by kernel_rfl) (by kernel_rfl) (by kernel_rfl) (fun _ _ _ h => h) (Or.inl ⟨by rfl, ?_⟩) hS5 ?_
        · intro W9 hS9
          clear hS9
          go_simp
        try simp only [Act.put, List.setIfInBounds_toArray, List.set_cons_zero, List.set_cons_succ]
        refine wpAnyL_takeT (i := 5) (oi := { dst := some 33, op := Go.Op.load 44 (Go.Operand.tmp 3), type := 44, pos := "hand.go:38", after := #[], guard := none }) (v := .agg #[.int .i64 3, .int .i64 gr, .int .u64 by_]) [6] rfl (by kernel_rfl) (by kernel_rfl) (by kernel_rfl) (by kernel_rfl) (fun _ _ _ h => h) (Or.inl ⟨by rfl, ?_⟩) hS5 ?_
        · intro W9 hS9
          have s0 : W9.cell? ⟨w.heap.size, 0, none⟩ = some (.int .i64 3) := hS9.cell 0
          have s1 : W9.cell? ⟨w.heap.size, 1, none⟩ = some (.int .i64 gr) := hS9.cell 1
          have s2 : W9.cell? ⟨w.heap.size, 2, none⟩ = some (.int .u64 by_) := hS9.cell 2
          clear hS9
          go_simp
        try simp only [Act.put, List.setIfInBounds_toArray, List.set_cons_zero, List.set_cons_succ]
        have hcon := Try.goOn_any H n₀ E S ⟨3, gr, by_⟩ We ⟨_, _, HX5.out⟩ HHE.out HHS.out HH8.out (Nat.le_trans hn0 HB5.out.size) hH
        dsimp only at hcon
        rw [← HRR.out] at hcon
        have HCON := Lib.hid hcon
        clear hcon
        refine wpAnyL_one (i := 6) (o := { dst := some 34, op := Go.Op.call { callee := Go.Callee.value (Go.Operand.tmp 31), args := #[Go.Operand.tmp 32, Go.Operand.tmp 33], argTypes := #[76, 44] }, type := 0, pos := "hand.go:42", after := #[{ on := 3, ground := Go.Ground.data }, { on := 4, ground := Go.Ground.data }, { on := 5, ground := Go.Ground.data }], guard := none }) (by kernel_rfl) rfl (fun K hK => ?_)
        refine step_call_v (by rfl) 48 31 _ _ rfl #[] (by rfl) (fun _ _ => by kernel_rfl) #[.pointer (some ⟨H, 0, none⟩), .agg #[.int .i64 3, .int .i64 gr, .int .u64 by_]] (by simp [go_sem]) _ HCON.out ?_
        rintro e w9 hQ
        have hQ2 := HdQ.behind HB5.out HK5.out hQ
        rcases hQ2 with ⟨⟨hr, rfl⟩ | ⟨hr, rfl⟩, hq⟩
        · refine Or.inl ⟨_, rfl, ?_⟩
          have HQ := Lib.hid (show HdQ H n₀ w R (.returned (.tuple #[])) w9 from ⟨.inl ⟨hr, rfl⟩, hq⟩)
          clear hQ hq hr
          refine hK.out _ _ (fun h => absurd h (by decide)) ?_
          clear hK K
          try simp only [Act.put, List.setIfInBounds_toArray, List.set_cons_zero, List.set_cons_succ]
          refine wpAnyL_end (by kernel_rfl) ?_
          go_end0
          exact HQ.out
        · refine Or.inr ⟨_, rfl, ?_⟩
          have HQ := Lib.hid (show HdQ H n₀ w R (.panicked (panicA R.1)) w9 from ⟨.inr ⟨hr, rfl⟩, hq⟩)
          clear hQ hq hr
          refine ⟨rfl, ?_⟩
          exact HQ.out
      · have hd4 : (kd != 3) = true := by simp [h3]
        have HR1 := Lib.hid (HR.out.trans ((if_neg (show ¬ (kd < 1 ∨ 3 < kd) by omega)).trans (if_neg h3)))
        clear HR
        cases one with
        | false =>
          have HRR := Lib.hid (HR1.out.trans (if_pos HO1.out.symm))
          clear HR1 hlow hhigh h3
          refine wp_region_X (fun W' => Rows8 W' H 67 #[.int .u64 E, .slice (some ⟨g, 0, none⟩) n n] ∧ Rows8 W' w.heap.size 44 #[.int .i64 kd, .int .i64 gr, .int .u64 by_]) 23 (by kernel_rfl) ?_
          have hS0 : Rows8 W.drew H 67 #[.int .u64 E, .slice (some ⟨g, 0, none⟩) n n] ∧ Rows8 W.drew w.heap.size 44 #[.int .i64 kd, .int .i64 gr, .int .u64 by_] := ⟨HX.out.bx.drewA, HR0.out.drewA⟩
          have HX0 := Lib.hid HX.out.drew
          have HB0 := Lib.hid HAL.out.drew
          have HK0 := Lib.hid HKF.out.drew
          clear HX HAL HKF HR0
          generalize W.drew = Wd at *
          refine wpAnyN_take (i := 0) (oi := { dst := some 4, op := Go.Op.fieldAddr 44 (Go.Operand.tmp 3) 0, type := 0, pos := "hand.go:35", after := #[], guard := none }) (v := .pointer (some ⟨w.heap.size, 0, none⟩)) rfl (by decide) (by kernel_rfl) (by kernel_rfl) (by kernel_rfl) (fun _ _ _ h => h) (Or.inl ⟨by rfl, ?_⟩) hS0 ?_
          · intro W9 hS9
            obtain ⟨q0, q1⟩ := hS9
            clear q0 q1
            go_simp
          try simp only [Act.put, List.setIfInBounds_toArray, List.set_cons_zero, List.set_cons_succ]
          refine wpAnyN_take (i := 1) (oi := { dst := some 5, op := Go.Op.load 3 (Go.Operand.tmp 4), type := 3, pos := "hand.go:35", after := #[{ on := 0, ground := Go.Ground.data }], guard := none }) (v := .int .i64 kd) rfl (by decide) (by kernel_rfl) (by kernel_rfl) (by kernel_rfl) (fun _ _ _ h => h) (Or.inl ⟨by rfl, ?_⟩) hS0 ?_
          · intro W9 hS9
            obtain ⟨q0, q1⟩ := hS9
            have s0 : W9.cell? ⟨w.heap.size, 0, none⟩ = some (.int .i64 kd) := q1.cell 0
            clear q0 q1
            go_simp
          try simp only [Act.put, List.setIfInBounds_toArray, List.set_cons_zero, List.set_cons_succ]
          refine wpAnyN_take (i := 2) (oi := { dst := some 6, op := Go.Op.binOp Go.BinOp.lss 3 (Go.Operand.tmp 5) (Go.Operand.const (Go.Value.int Go.IntKind.i64 1)) 3, type := 4, pos := "hand.go:35", after := #[{ on := 1, ground := Go.Ground.data }], guard := none }) (v := .bool false) rfl (by decide) (by kernel_rfl) (by kernel_rfl) (by kernel_rfl) (fun _ _ _ h => h) (Or.inl ⟨by rfl, ?_⟩) hS0 ?_
          · intro W9 hS9
            obtain ⟨q0, q1⟩ := hS9
            clear q0 q1
            go_simp
          try simp only [Act.put, List.setIfInBounds_toArray, List.set_cons_zero, List.set_cons_succ]
          refine wpAnyN_take (i := 3) (oi := { dst := some 7, op := Go.Op.move (Go.Operand.tmp 6), type := 4, pos := "hand.go:35", after := #[{ on := 2, ground := Go.Ground.data }], guard := none }) (v := .bool false) rfl (by decide) (by kernel_rfl) (by kernel_rfl) (by kernel_rfl) (fun _ _ _ h => h) (Or.inl ⟨by rfl, ?_⟩) hS0 ?_
          · intro W9 hS9
            obtain ⟨q0, q1⟩ := hS9
            clear q0 q1
            go_simp
          try simp only [Act.put, List.setIfInBounds_toArray, List.set_cons_zero, List.set_cons_succ]
          refine wpAnyN_take (i := 4) (oi := { dst := some 8, op := Go.Op.fieldAddr 44 (Go.Operand.tmp 3) 0, type := 0, pos := "hand.go:35", after := #[{ on := 3, ground := Go.Ground.guard }], guard := some (3, false) }) (v := .pointer (some ⟨w.heap.size, 0, none⟩)) rfl (by decide) (by kernel_rfl) (by kernel_rfl) (by kernel_rfl) (fun _ _ _ h => h) (Or.inl ⟨by rfl, ?_⟩) hS0 ?_
          · intro W9 hS9
            obtain ⟨q0, q1⟩ := hS9
            clear q0 q1
            go_simp
          try simp only [Act.put, List.setIfInBounds_toArray, List.set_cons_zero, List.set_cons_succ]
          refine wpAnyN_take (i := 5) (oi := { dst := some 9, op := Go.Op.load 3 (Go.Operand.tmp 8), type := 3, pos := "hand.go:35", after := #[{ on := 4, ground := Go.Ground.data }, { on := 3, ground := Go.Ground.guard }], guard := some (3, false) }) (v := .int .i64 kd) rfl (by decide) (by kernel_rfl) (by kernel_rfl) (by kernel_rfl) (fun _ _ _ h => h) (Or.inl ⟨by rfl, ?_⟩) hS0 ?_
          · intro W9 hS9
            obtain ⟨q0, q1⟩ := hS9
            have s0 : W9.cell? ⟨w.heap.size, 0, none⟩ = some (.int .i64 kd) := q1.cell 0
            clear q0 q1
            go_simp
          try simp only [Act.put, List.setIfInBounds_toArray, List.set_cons_zero, List.set_cons_succ]
          refine wpAnyN_take (i := 6) (oi := { dst := some 10, op := Go.Op.binOp Go.BinOp.gtr 3 (Go.Operand.tmp 9) (Go.Operand.const (Go.Value.int Go.IntKind.i64 3)) 3, type := 4, pos := "hand.go:35", after := #[{ on := 5, ground := Go.Ground.data }, { on := 3, ground := Go.Ground.guard }], guard := some (3, false) }) (v := .bool false) rfl (by decide) (by kernel_rfl) (by kernel_rfl) (by kernel_rfl) (fun _ _ _ h => h) (Or.inl ⟨by rfl, ?_⟩) hS0 ?_
          · intro W9 hS9
            obtain ⟨q0, q1⟩ := hS9
            clear q0 q1
            go_simp
          try simp only [Act.put, List.setIfInBounds_toArray, List.set_cons_zero, List.set_cons_succ]
          refine wpAnyN_take (i := 7) (oi := { dst := some 11, op := Go.Op.pick (Go.Operand.tmp 7) (Go.Operand.const (Go.Value.bool true)) (Go.Operand.tmp 10), type := 4, pos := "hand.go:35", after := #[{ on := 3, ground := Go.Ground.data }, { on := 6, ground := Go.Ground.data }], guard := none }) (v := .bool false) rfl (by decide) (by kernel_rfl) (by kernel_rfl) (by kernel_rfl) (fun _ _ _ h => h) (Or.inl ⟨by rfl, ?_⟩) hS0 ?_
          · intro W9 hS9
            obtain ⟨q0, q1⟩ := hS9
            clear q0 q1
            go_simp
          try simp only [Act.put, List.setIfInBounds_toArray, List.set_cons_zero, List.set_cons_succ]
          refine wpAnyN_take (i := 8) (oi := { dst := some 12, op := Go.Op.move (Go.Operand.tmp 11), type := 4, pos := "hand.go:35", after := #[{ on := 7, ground := Go.Ground.data }, { on := 3, ground := Go.Ground.chain }], guard := none }) (v := .bool false) rfl (by decide) (by kernel_rfl) (by kernel_rfl) (by kernel_rfl) (fun _ _ _ h => h) (Or.inl ⟨by rfl, ?_⟩) hS0 ?_
          · intro W9 hS9
            obtain ⟨q0, q1⟩ := hS9
            clear q0 q1
            go_simp
          try simp only [Act.put, List.setIfInBounds_toArray, List.set_cons_zero, List.set_cons_succ]
          refine wpAnyN_take (i := 9) (oi := { dst := some 13, op := Go.Op.fieldAddr 44 (Go.Operand.tmp 3) 0, type := 0, pos := "hand.go:35", after := #[{ on := 8, ground := Go.Ground.guard }], guard := some (8, false) }) (v := .pointer (some ⟨w.heap.size, 0, none⟩)) rfl (by decide) (by kernel_rfl) (by kernel_rfl) (by kernel_rfl) (fun _ _ _ h => h) (Or.inl ⟨by rfl, ?_⟩) hS0 ?_
          · intro W9 hS9
            obtain ⟨q0, q1⟩ := hS9
            clear q0 q1
            go_simp
          try simp only [Act.put, List.setIfInBounds_toArray, List.set_cons_zero, List.set_cons_succ]
          refine wpAnyN_take (i := 10) (oi := { dst := some 14, op := Go.Op.load 3 (Go.Operand.tmp 13), type := 3, pos := "hand.go:35", after := #[{ on := 9, ground := Go.Ground.data }, { on := 8, ground := Go.Ground.guard }], guard := some (8, false) }) (v := .int .i64 kd) rfl (by decide) (by kernel_rfl) (by kernel_rfl) (by kernel_rfl) (fun _ _ _ h => h) (Or.inl ⟨by rfl, ?_⟩) hS0 ?_
          · intro W9 hS9
            obtain ⟨q0, q1⟩ := hS9
            have s0 : W9.cell? ⟨w.heap.size, 0, none⟩ = some (.int .i64 kd) := q1.cell 0
            clear q0 q1
            go_simp
          try simp only [Act.put, List.setIfInBounds_toArray, List.set_cons_zero, List.set_cons_succ]
          refine wpAnyN_take (i := 11) (oi := { dst := some 15, op := Go.Op.binOp Go.BinOp.neq 3 (Go.Operand.tmp 14) (Go.Operand.const (Go.Value.int Go.IntKind.i64 3)) 3, type := 4, pos := "hand.go:35", after := #[{ on := 10, ground := Go.Ground.data }, { on := 8, ground := Go.Ground.guard }], guard := some (8, false) }) (v := .bool true) rfl (by decide) (by kernel_rfl) (by kernel_rfl) (by kernel_rfl) (fun _ _ _ h => h) (Or.inl ⟨by rfl, ?_⟩) hS0 ?_
          · intro W9 hS9
            obtain ⟨q0, q1⟩ := hS9
            clear q0 q1
            go_simp
          try simp only [Act.put, List.setIfInBounds_toArray, List.set_cons_zero, List.set_cons_succ]
          refine wpAnyN_take (i := 12) (oi := { dst := some 16, op := Go.Op.move (Go.Operand.tmp 15), type := 4, pos := "hand.go:35", after := #[{ on := 11, ground := Go.Ground.data }, { on := 8, ground := Go.Ground.chain }, { on := 8, ground := Go.Ground.guard }], guard := some (8, false) }) (v := .bool true) rfl (by decide) (by kernel_rfl) (by kernel_rfl) (by kernel_rfl) (fun _ _ _ h => h) (Or.inl ⟨by rfl, ?_⟩) hS0 ?_
          · intro W9 hS9
            obtain ⟨q0, q1⟩ := hS9
            clear q0 q1
            go_simp
          try simp only [Act.put, List.setIfInBounds_toArray, List.set_cons_zero, List.set_cons_succ]
          refine wpAnyN_take (i := 13) (oi := { dst := some 17, op := Go.Op.move (Go.Operand.tmp 0), type := 76, pos := "hand.go:35", after := #[{ on := 12, ground := Go.Ground.guard }], guard := some (12, true) }) (v := .pointer (some ⟨H, 0, none⟩)) rfl (by decide) (by kernel_rfl) (by kernel_rfl) (by kernel_rfl) (fun _ _ _ h => h) (Or.inl ⟨by rfl, ?_⟩) hS0 ?_
          · intro W9 hS9
            obtain ⟨q0, q1⟩ := hS9
            clear q0 q1
            go_simp
          try simp only [Act.put, List.setIfInBounds_toArray, List.set_cons_zero, List.set_cons_succ]
          refine wpAnyN_take (i := 14) (oi := { dst := some 18, op := Go.Op.nilCheck (Go.Operand.tmp 17), type := 0, pos := "hand.go:35", after := #[{ on := 13, ground := Go.Ground.data }, { on := 12, ground := Go.Ground.guard }], guard := some (12, true) }) (v := .pointer (some ⟨H, 0, none⟩)) rfl (by decide) (by kernel_rfl) (by kernel_rfl) (by kernel_rfl) (fun _ _ _ h => h) (Or.inl ⟨by rfl, ?_⟩) hS0 ?_
          · intro W9 hS9
            obtain ⟨q0, q1⟩ := hS9
            clear q0 q1
            go_simp
          try simp only [Act.put, List.setIfInBounds_toArray, List.set_cons_zero, List.set_cons_succ]
          refine wpAnyN_take (i := 15) (oi := { dst := some 19, op := Go.Op.fieldAddr 67 (Go.Operand.tmp 18) 0, type := 0, pos := "hand.go:35", after := #[{ on := 14, ground := Go.Ground.data }, { on := 12, ground := Go.Ground.guard }], guard := some (12, true) }) (v := .pointer (some ⟨H, 0, none⟩)) rfl (by decide) (by kernel_rfl) (by kernel_rfl) (by kernel_rfl) (fun _ _ _ h => h) (Or.inl ⟨by rfl, ?_⟩) hS0 ?_
          · intro W9 hS9
            obtain ⟨q0, q1⟩ := hS9
            clear q0 q1
            go_simp
          try simp only [Act.put, List.setIfInBounds_toArray, List.set_cons_zero, List.set_cons_succ]
          refine wpAnyN_take (i := 16) (oi := { dst := some 20, op := Go.Op.load 57 (Go.Operand.tmp 19), type := 57, pos := "hand.go:35", after := #[{ on := 15, ground := Go.Ground.data }, { on := 12, ground := Go.Ground.guard }], guard := some (12, true) }) (v := .agg #[.int .u64 E, .slice (some ⟨g, 0, none⟩) n n]) rfl (by decide) (by kernel_rfl) (by kernel_rfl) (by kernel_rfl) (fun _ _ _ h => h) (Or.inl ⟨by rfl, ?_⟩) hS0 ?_
          · intro W9 hS9
            obtain ⟨q0, q1⟩ := hS9
            have s0 : W9.cell? ⟨H, 0, none⟩ = some (.int .u64 E) := q0.cell 0
            have s1 : W9.cell? ⟨H, 1, none⟩ = some (.slice (some ⟨g, 0, none⟩) n n) := q0.cell 1
            clear q0 q1
            go_simp
          try simp only [Act.put, List.setIfInBounds_toArray, List.set_cons_zero, List.set_cons_succ]
          refine wpAnyN_take (i := 17) (oi := { dst := some 21, op := Go.Op.fieldAddr 44 (Go.Operand.tmp 3) 1, type := 0, pos := "hand.go:35", after := #[{ on := 12, ground := Go.Ground.guard }], guard := some (12, true) }) (v := .pointer (some ⟨w.heap.size, 1, none⟩)) rfl (by decide) (by kernel_rfl) (by kernel_rfl) (by kernel_rfl) (fun _ _ _ h => h) (Or.inl ⟨by rfl, ?_⟩) hS0 ?_
          · intro W9 hS9
            obtain ⟨q0, q1⟩ := hS9
            clear q0 q1
            go_simp
          try simp only [Act.put, List.setIfInBounds_toArray, List.set_cons_zero, List.set_cons_succ]
          refine wpAnyN_take (i := 18) (oi := { dst := some 22, op := Go.Op.load 3 (Go.Operand.tmp 21), type := 3, pos := "hand.go:35", after := #[{ on := 17, ground := Go.Ground.data }, { on := 12, ground := Go.Ground.guard }], guard := some (12, true) }) (v := .int .i64 gr) rfl (by decide) (by kernel_rfl) (by kernel_rfl) (by kernel_rfl) (fun _ _ _ h => h) (Or.inl ⟨by rfl, ?_⟩) hS0 ?_
          · intro W9 hS9
            obtain ⟨q0, q1⟩ := hS9
            have s0 : W9.cell? ⟨w.heap.size, 1, none⟩ = some (.int .i64 gr) := q1.cell 1
            clear q0 q1
            go_simp
          try simp only [Act.put, List.setIfInBounds_toArray, List.set_cons_zero, List.set_cons_succ]
          refine wpAnyX_one (i := 19) (o := { dst := some 23, op := Go.Op.call { callee := Go.Callee.value (Go.Operand.func 45), args := #[Go.Operand.tmp 20, Go.Operand.tmp 22], argTypes := #[57, 3] }, type := 4, pos := "hand.go:35", after := #[{ on := 16, ground := Go.Ground.data }, { on := 18, ground := Go.Ground.data }, { on := 12, ground := Go.Ground.chain }, { on := 12, ground := Go.Ground.guard }], guard := some (12, true) }) (by kernel_rfl) rfl (fun K hK => ?_)
          refine step_call_g (by rfl) 45 _ _ rfl (fun _ _ => by kernel_rfl) #[.agg #[.int .u64 E, .slice (some ⟨g, 0, none⟩) n n], .int .i64 gr] (by simp [go_sem]) _ (HONE Wd).out ?_
          rintro e w1 ⟨rfl, hC⟩
          refine ⟨_, rfl, ?_⟩
          have hS1 : Rows8 w1 H 67 #[.int .u64 E, .slice (some ⟨g, 0, none⟩) n n] ∧ Rows8 w1 w.heap.size 44 #[.int .i64 kd, .int .i64 gr, .int .u64 by_] := ⟨hS0.1.below hC hS0.1.lt, hS0.2.below hC hS0.2.lt⟩
          have HX1 := Lib.hid (HX0.out.below hC)
          have HB1 := Lib.hid (HB0.out.trans (hC.mono (Nat.le_trans hn0 HB0.out.size)))
          have HK1 := Lib.hid (HK0.out.trans (Kf.of_below (T := tP) hC))
          clear hC HX0 HB0 HK0
          refine hK.out _ _ (fun _ => hS1) ?_
          clear hK K
          try simp only [Act.put, List.setIfInBounds_toArray, List.set_cons_zero, List.set_cons_succ]
          refine wpAnyN_take (i := 20) (oi := { dst := some 24, op := Go.Op.unOp Go.UnOp.not 4 (Go.Operand.tmp 23), type := 4, pos := "hand.go:35", after := #[{ on := 19, ground := Go.Ground.data }, { on := 12, ground := Go.Ground.guard }], guard := some (12, true) }) (v := .bool true) rfl (by decide) (by kernel_rfl) (by kernel_rfl) (by kernel_rfl) (fun _ _ _ h => h) (Or.inl ⟨by rfl, ?_⟩) hS1 ?_
          · intro W9 hS9
            obtain ⟨q0, q1⟩ := hS9
            clear q0 q1
            go_simp
          try simp only [Act.put, List.setIfInBounds_toArray, List.set_cons_zero, List.set_cons_succ]
          refine wpAnyN_take (i := 21) (oi := { dst := some 25, op := Go.Op.pick (Go.Operand.tmp 16) (Go.Operand.tmp 24) (Go.Operand.const (Go.Value.bool false)), type := 4, pos := "hand.go:35", after := #[{ on := 12, ground := Go.Ground.data }, { on := 20, ground := Go.Ground.data }, { on := 8, ground := Go.Ground.guard }], guard := some (8, false) }) (v := .bool true) rfl (by decide) (by kernel_rfl) (by kernel_rfl) (by kernel_rfl) (fun _ _ _ h => h) (Or.inl ⟨by rfl, ?_⟩) hS1 ?_
          · intro W9 hS9
            obtain ⟨q0, q1⟩ := hS9
            clear q0 q1
            go_simp
          try simp only [Act.put, List.setIfInBounds_toArray, List.set_cons_zero, List.set_cons_succ]
          refine wpAnyN_take (i := 22) (oi := { dst := some 26, op := Go.Op.pick (Go.Operand.tmp 12) (Go.Operand.const (Go.Value.bool true)) (Go.Operand.tmp 25), type := 4, pos := "hand.go:35", after := #[{ on := 8, ground := Go.Ground.data }, { on := 21, ground := Go.Ground.data }], guard := none }) (v := .bool true) rfl (by decide) (by kernel_rfl) (by kernel_rfl) (by kernel_rfl) (fun _ _ _ h => h) (Or.inl ⟨by rfl, ?_⟩) hS1 ?_
          · intro W9 hS9
            obtain ⟨q0, q1⟩ := hS9
            clear q0 q1
            go_simp
          try simp only [Act.put, List.setIfInBounds_toArray, List.set_cons_zero, List.set_cons_succ]
          refine wpAnyX_end (by kernel_rfl) ?_
          have HS := Lib.hid hS1
          clear hS0 hS1
          have HX := HX1
          have HAL := HB1
          have HKF := HK1
          clear HX1 HB1 HK1
          generalize w1 = W at *
          clear HS
          go_wp2_with fail
          refine ⟨rfl, ?_⟩
          rw [HRR.out]
          exact ⟨.inr ⟨by simp, rfl⟩, ⟨_, _, HX.out⟩, HAL.out, HKF.out⟩
        | true =>
          have HR2 := Lib.hid (HR1.out.trans (if_neg (by rw [← HO1.out]; decide)))
          have hg9 : 0 ≤ gr ∧ gr < S.length := by
            have h := HO1.out.symm
            unfold isOneN at h
            exact of_decide_eq_true h
          have HG9 := Lib.hid hg9
          clear HR1 hg9
          by_cases h1 : kd = 1
          · subst h1
            clear hlow hhigh h3
            have HRR := Lib.hid (HR2.out.trans (if_pos rfl))
            clear HR2
            refine wp_region_X (fun W' => Rows8 W' H 67 #[.int .u64 E, .slice (some ⟨g, 0, none⟩) n n] ∧ Rows8 W' w.heap.size 44 #[.int .i64 1, .int .i64 gr, .int .u64 by_]) 23 (by kernel_rfl) ?_
            have hS0 : Rows8 W.drew H 67 #[.int .u64 E, .slice (some ⟨g, 0, none⟩) n n] ∧ Rows8 W.drew w.heap.size 44 #[.int .i64 1, .int .i64 gr, .int .u64 by_] := ⟨HX.out.bx.drewA, HR0.out.drewA⟩
            have HX0 := Lib.hid HX.out.drew
            have HB0 := Lib.hid HAL.out.drew
            have HK0 := Lib.hid HKF.out.drew
            clear HX HAL HKF HR0
            generalize W.drew = Wd at *
            refine wpAnyN_take (i := 0) (oi := { dst := some 4, op := Go.Op.fieldAddr 44 (Go.Operand.tmp 3) 0, type := 0, pos := "hand.go:35", after := #[], guard := none }) (v := .pointer (some ⟨w.heap.size, 0, none⟩)) rfl (by decide) (by kernel_rfl) (by kernel_rfl) (by kernel_rfl) (fun _ _ _ h => h) (Or.inl ⟨by rfl, ?_⟩) hS0 ?_
            · intro W9 hS9
              obtain ⟨q0, q1⟩ := hS9
              clear q0 q1
              go_simp
            try simp only [Act.put, List.setIfInBounds_toArray, List.set_cons_zero, List.set_cons_succ]
            refine wpAnyN_take (i := 1) (oi := { dst := some 5, op := Go.Op.load 3 (Go.Operand.tmp 4), type := 3, pos := "hand.go:35", after := #[{ on := 0, ground := Go.Ground.data }], guard := none }) (v := .int .i64 1) rfl (by decide) (by kernel_rfl) (by kernel_rfl) (by kernel_rfl) (fun _ _ _ h => h) (Or.inl ⟨by rfl, ?_⟩) hS0 ?_
            · intro W9 hS9
              obtain ⟨q0, q1⟩ := hS9
              have s0 : W9.cell? ⟨w.heap.size, 0, none⟩ = some (.int .i64 1) := q1.cell 0
              clear q0 q1
              go_simp
            try simp only [Act.put, List.setIfInBounds_toArray, List.set_cons_zero, List.set_cons_succ]
            refine wpAnyN_take (i := 2) (oi := { dst := some 6, op := Go.Op.binOp Go.BinOp.lss 3 (Go.Operand.tmp 5) (Go.Operand.const (Go.Value.int Go.IntKind.i64 1)) 3, type := 4, pos := "hand.go:35", after := #[{ on := 1, ground := Go.Ground.data }], guard := none }) (v := .bool false) rfl (by decide) (by kernel_rfl) (by kernel_rfl) (by kernel_rfl) (fun _ _ _ h => h) (Or.inl ⟨by rfl, ?_⟩) hS0 ?_
            · intro W9 hS9
              obtain ⟨q0, q1⟩ := hS9
              clear q0 q1
              go_simp
            try simp only [Act.put, List.setIfInBounds_toArray, List.set_cons_zero, List.set_cons_succ]
            refine wpAnyN_take (i := 3) (oi := { dst := some 7, op := Go.Op.move (Go.Operand.tmp 6), type := 4, pos := "hand.go:35", after := #[{ on := 2, ground := Go.Ground.data }], guard := none }) (v := .bool false) rfl (by decide) (by kernel_rfl) (by kernel_rfl) (by kernel_rfl) (fun _ _ _ h => h) (Or.inl ⟨by rfl, ?_⟩) hS0 ?_
            · intro W9 hS9
              obtain ⟨q0, q1⟩ := hS9
              clear q0 q1
              go_simp
            try simp only [Act.put, List.setIfInBounds_toArray, List.set_cons_zero, List.set_cons_succ]
            refine wpAnyN_take (i := 4) (oi := { dst := some 8, op := Go.Op.fieldAddr 44 (Go.Operand.tmp 3) 0, type := 0, pos := "hand.go:35", after := #[{ on := 3, ground := Go.Ground.guard }], guard := some (3, false) }) (v := .pointer (some ⟨w.heap.size, 0, none⟩)) rfl (by decide) (by kernel_rfl) (by kernel_rfl) (by kernel_rfl) (fun _ _ _ h => h) (Or.inl ⟨by rfl, ?_⟩) hS0 ?_
            · intro W9 hS9
              obtain ⟨q0, q1⟩ := hS9
              clear q0 q1
              go_simp
            try simp only [Act.put, List.setIfInBounds_toArray, List.set_cons_zero, List.set_cons_succ]
            refine wpAnyN_take (i := 5) (oi := { dst := some 9, op := Go.Op.load 3 (Go.Operand.tmp 8), type := 3, pos := "hand.go:35", after := #[{ on := 4, ground := Go.Ground.data }, { on := 3, ground := Go.Ground.guard }], guard := some (3, false) }) (v := .int .i64 1) rfl (by decide) (by kernel_rfl) (by kernel_rfl) (by kernel_rfl) (fun _ _ _ h => h) (Or.inl ⟨by rfl, ?_⟩) hS0 ?_
            · intro W9 hS9
              obtain ⟨q0, q1⟩ := hS9
              have s0 : W9.cell? ⟨w.heap.size, 0, none⟩ = some (.int .i64 1) := q1.cell 0
              clear q0 q1
              go_simp
            try simp only [Act.put, List.setIfInBounds_toArray, List.set_cons_zero, List.set_cons_succ]
            refine wpAnyN_take (i := 6) (oi := { dst := some 10, op := Go.Op.binOp Go.BinOp.gtr 3 (Go.Operand.tmp 9) (Go.Operand.const (Go.Value.int Go.IntKind.i64 3)) 3, type := 4, pos := "hand.go:35", after := #[{ on := 5, ground := Go.Ground.data }, { on := 3, ground := Go.Ground.guard }], guard := some (3, false) }) (v := .bool false) rfl (by decide) (by kernel_rfl) (by kernel_rfl) (by kernel_rfl) (fun _ _ _ h => h) (Or.inl ⟨by rfl, ?_⟩) hS0 ?_
            · intro W9 hS9
              obtain ⟨q0, q1⟩ := hS9
              clear q0 q1
              go_simp
            try simp only [Act.put, List.setIfInBounds_toArray, List.set_cons_zero, List.set_cons_succ]
            refine wpAnyN_take (i := 7) (oi := { dst := some 11, op := Go.Op.pick (Go.Operand.tmp 7) (Go.Operand.const (Go.Value.bool true)) (Go.Operand.tmp 10), type := 4, pos := "hand.go:35", after := #[{ on := 3, ground := Go.Ground.data }, { on := 6, ground := Go.Ground.data }], guard := none }) (v := .bool false) rfl (by decide) (by kernel_rfl) (by kernel_rfl) (by kernel_rfl) (fun _ _ _ h => h) (Or.inl ⟨by rfl, ?_⟩) hS0 ?_
            · intro W9 hS9
              obtain ⟨q0, q1⟩ := hS9
              clear q0 q1
              go_simp
            try simp only [Act.put, List.setIfInBounds_toArray, List.set_cons_zero, List.set_cons_succ]
            refine wpAnyN_take (i := 8) (oi := { dst := some 12, op := Go.Op.move (Go.Operand.tmp 11), type := 4, pos := "hand.go:35", after := #[{ on := 7, ground := Go.Ground.data }, { on := 3, ground := Go.Ground.chain }], guard := none }) (v := .bool false) rfl (by decide) (by kernel_rfl) (by kernel_rfl) (by kernel_rfl) (fun _ _ _ h => h) (Or.inl ⟨by rfl, ?_⟩) hS0 ?_
            · intro W9 hS9
              obtain ⟨q0, q1⟩ := hS9
              clear q0 q1
              go_simp
            try simp only [Act.put, List.setIfInBounds_toArray, List.set_cons_zero, List.set_cons_succ]
            refine wpAnyN_take (i := 9) (oi := { dst := some 13, op := Go.Op.fieldAddr 44 (Go.Operand.tmp 3) 0, type := 0, pos := "hand.go:35", after := #[{ on := 8, ground := Go.Ground.guard }], guard := some (8, false) }) (v := .pointer (some ⟨w.heap.size, 0, none⟩)) rfl (by decide) (by kernel_rfl) (by kernel_rfl) (by kernel_rfl) (fun _ _ _ h => h) (Or.inl ⟨by rfl, ?_⟩) hS0 ?_
            · intro W9 hS9
              obtain ⟨q0, q1⟩ := hS9
              clear q0 q1
              go_simp
            try simp only [Act.put, List.setIfInBounds_toArray, List.set_cons_zero, List.set_cons_succ]
            refine wpAnyN_take (i := 10) (oi := { dst := some 14, op := Go.Op.load 3 (Go.Operand.tmp 13), type := 3, pos := "hand.go:35", after := #[{ on := 9, ground := Go.Ground.data }, { on := 8, ground := Go.Ground.guard }], guard := some (8, false) }) (v := .int .i64 1) rfl (by decide) (by kernel_rfl) (by kernel_rfl) (by kernel_rfl) (fun _ _ _ h => h) (Or.inl ⟨by rfl, ?_⟩) hS0 ?_
            · intro W9 hS9
              obtain ⟨q0, q1⟩ := hS9
              have s0 : W9.cell? ⟨w.heap.size, 0, none⟩ = some (.int .i64 1) := q1.cell 0
              clear q0 q1
              go_simp
            try simp only [Act.put, List.setIfInBounds_toArray, List.set_cons_zero, List.set_cons_succ]
            refine wpAnyN_take (i := 11) (oi := { dst := some 15, op := Go.Op.binOp Go.BinOp.neq 3 (Go.Operand.tmp 14) (Go.Operand.const (Go.Value.int Go.IntKind.i64 3)) 3, type := 4, pos := "hand.go:35", after := #[{ on := 10, ground := Go.Ground.data }, { on := 8, ground := Go.Ground.guard }], guard := some (8, false) }) (v := .bool true) rfl (by decide) (by kernel_rfl) (by kernel_rfl) (by kernel_rfl) (fun _ _ _ h => h) (Or.inl ⟨by rfl, ?_⟩) hS0 ?_
            · intro W9 hS9
              obtain ⟨q0, q1⟩ := hS9
              clear q0 q1
              go_simp
            try simp only [Act.put, List.setIfInBounds_toArray, List.set_cons_zero, List.set_cons_succ]
            refine wpAnyN_take (i := 12) (oi := { dst := some 16, op := Go.Op.move (Go.Operand.tmp 15), type := 4, pos := "hand.go:35", after := #[{ on := 11, ground := Go.Ground.data }, { on := 8, ground := Go.Ground.chain }, { on := 8, ground := Go.Ground.guard }], guard := some (8, false) }) (v := .bool true) rfl (by decide) (by kernel_rfl) (by kernel_rfl) (by kernel_rfl) (fun _ _ _ h => h) (Or.inl ⟨by rfl, ?_⟩) hS0 ?_
            · intro W9 hS9
              obtain ⟨q0, q1⟩ := hS9
              clear q0 q1
              go_simp
            try simp only [Act.put, List.setIfInBounds_toArray, List.set_cons_zero, List.set_cons_succ]
            refine wpAnyN_take (i := 13) (oi := { dst := some 17, op := Go.Op.move (Go.Operand.tmp 0), type := 76, pos := "hand.go:35", after := #[{ on := 12, ground := Go.Ground.guard }], guard := some (12, true) }) (v := .pointer (some ⟨H, 0, none⟩)) rfl (by decide) (by kernel_rfl) (by kernel_rfl) (by kernel_rfl) (fun _ _ _ h => h) (Or.inl ⟨by rfl, ?_⟩) hS0 ?_
            · intro W9 hS9
              obtain ⟨q0, q1⟩ := hS9
              clear q0 q1
              go_simp
            try simp only [Act.put, List.setIfInBounds_toArray, List.set_cons_zero, List.set_cons_succ]
            refine wpAnyN_take (i := 14) (oi := { dst := some 18, op := Go.Op.nilCheck (Go.Operand.tmp 17), type := 0, pos := "hand.go:35", after := #[{ on := 13, ground := Go.Ground.data }, { on := 12, ground := Go.Ground.guard }], guard := some (12, true) }) (v := .pointer (some ⟨H, 0, none⟩)) rfl (by decide) (by kernel_rfl) (by kernel_rfl) (by kernel_rfl) (fun _ _ _ h => h) (Or.inl ⟨by rfl, ?_⟩) hS0 ?_
            · intro W9 hS9
              obtain ⟨q0, q1⟩ := hS9
              clear q0 q1
              go_simp
            try simp only [Act.put, List.setIfInBounds_toArray, List.set_cons_zero, List.set_cons_succ]
            refine wpAnyN_take (i := 15) (oi := { dst := some 19, op := Go.Op.fieldAddr 67 (Go.Operand.tmp 18) 0, type := 0, pos := "hand.go:35", after := #[{ on := 14, ground := Go.Ground.data }, { on := 12, ground := Go.Ground.guard }], guard := some (12, true) }) (v := .pointer (some ⟨H, 0, none⟩)) rfl (by decide) (by kernel_rfl) (by kernel_rfl) (by kernel_rfl) (fun _ _ _ h => h) (Or.inl ⟨by rfl, ?_⟩) hS0 ?_
            · intro W9 hS9
              obtain ⟨q0, q1⟩ := hS9
              clear q0 q1
              go_simp
            try simp only [Act.put, List.setIfInBounds_toArray, List.set_cons_zero, List.set_cons_succ]
            refine wpAnyN_take (i := 16) (oi := { dst := some 20, op := Go.Op.load 57 (Go.Operand.tmp 19), type := 57, pos := "hand.go:35", after := #[{ on := 15, ground := Go.Ground.data }, { on := 12, ground := Go.Ground.guard }], guard := some (12, true) }) (v := .agg #[.int .u64 E, .slice (some ⟨g, 0, none⟩) n n]) rfl (by decide) (by kernel_rfl) (by kernel_rfl) (by kernel_rfl) (fun _ _ _ h => h) (Or.inl ⟨by rfl, ?_⟩) hS0 ?_
            · intro W9 hS9
              obtain ⟨q0, q1⟩ := hS9
              have s0 : W9.cell? ⟨H, 0, none⟩ = some (.int .u64 E) := q0.cell 0
              have s1 : W9.cell? ⟨H, 1, none⟩ = some (.slice (some ⟨g, 0, none⟩) n n) := q0.cell 1
              clear q0 q1
              go_simp
            try simp only [Act.put, List.setIfInBounds_toArray, List.set_cons_zero, List.set_cons_succ]
            refine wpAnyN_take (i := 17) (oi := { dst := some 21, op := Go.Op.fieldAddr 44 (Go.Operand.tmp 3) 1, type := 0, pos := "hand.go:35", after := #[{ on := 12, ground := Go.Ground.guard }], guard := some (12, true) }) (v := .pointer (some ⟨w.heap.size, 1, none⟩)) rfl (by decide) (by kernel_rfl) (by kernel_rfl) (by kernel_rfl) (fun _ _ _ h => h) (Or.inl ⟨by rfl, ?_⟩) hS0 ?_
            · intro W9 hS9
              obtain ⟨q0, q1⟩ := hS9
              clear q0 q1
              go_simp
            try simp only [Act.put, List.setIfInBounds_toArray, List.set_cons_zero, List.set_cons_succ]
            refine wpAnyN_take (i := 18) (oi := { dst := some 22, op := Go.Op.load 3 (Go.Operand.tmp 21), type := 3, pos := "hand.go:35", after := #[{ on := 17, ground := Go.Ground.data }, { on := 12, ground := Go.Ground.guard }], guard := some (12, true) }) (v := .int .i64 gr) rfl (by decide) (by kernel_rfl) (by kernel_rfl) (by kernel_rfl) (fun _ _ _ h => h) (Or.inl ⟨by rfl, ?_⟩) hS0 ?_
            · intro W9 hS9
              obtain ⟨q0, q1⟩ := hS9
              have s0 : W9.cell? ⟨w.heap.size, 1, none⟩ = some (.int .i64 gr) := q1.cell 1
              clear q0 q1
              go_simp
            try simp only [Act.put, List.setIfInBounds_toArray, List.set_cons_zero, List.set_cons_succ]
            refine wpAnyX_one (i := 19) (o := { dst := some 23, op := Go.Op.call { callee := Go.Callee.value (Go.Operand.func 45), args := #[Go.Operand.tmp 20, Go.Operand.tmp 22], argTypes := #[57, 3] }, type := 4, pos := "hand.go:35", after := #[{ on := 16, ground := Go.Ground.data }, { on := 18, ground := Go.Ground.data }, { on := 12, ground := Go.Ground.chain }, { on := 12, ground := Go.Ground.guard }], guard := some (12, true) }) (by kernel_rfl) rfl (fun K hK => ?_)
            refine step_call_g (by rfl) 45 _ _ rfl (fun _ _ => by kernel_rfl) #[.agg #[.int .u64 E, .slice (some ⟨g, 0, none⟩) n n], .int .i64 gr] (by simp [go_sem]) _ (HONE Wd).out ?_
            rintro e w1 ⟨rfl, hC⟩
            refine ⟨_, rfl, ?_⟩
            have hS1 : Rows8 w1 H 67 #[.int .u64 E, .slice (some ⟨g, 0, none⟩) n n] ∧ Rows8 w1 w.heap.size 44 #[.int .i64 1, .int .i64 gr, .int .u64 by_] := ⟨hS0.1.below hC hS0.1.lt, hS0.2.below hC hS0.2.lt⟩
            have HX1 := Lib.hid (HX0.out.below hC)
            have HB1 := Lib.hid (HB0.out.trans (hC.mono (Nat.le_trans hn0 HB0.out.size)))
            have HK1 := Lib.hid (HK0.out.trans (Kf.of_below (T := tP) hC))
            clear hC HX0 HB0 HK0
            refine hK.out _ _ (fun _ => hS1) ?_
            clear hK K
            try simp only [Act.put, List.setIfInBounds_toArray, List.set_cons_zero, List.set_cons_succ]
            refine wpAnyN_take (i := 20) (oi := { dst := some 24, op := Go.Op.unOp Go.UnOp.not 4 (Go.Operand.tmp 23), type := 4, pos := "hand.go:35", after := #[{ on := 19, ground := Go.Ground.data }, { on := 12, ground := Go.Ground.guard }], guard := some (12, true) }) (v := .bool false) rfl (by decide) (by kernel_rfl) (by kernel_rfl) (by kernel_rfl) (fun _ _ _ h => h) (Or.inl ⟨by rfl, ?_⟩) hS1 ?_
            · intro W9 hS9
              obtain ⟨q0, q1⟩ := hS9
              clear q0 q1
              go_simp
            try simp only [Act.put, List.setIfInBounds_toArray, List.set_cons_zero, List.set_cons_succ]
            refine wpAnyN_take (i := 21) (oi := { dst := some 25, op := Go.Op.pick (Go.Operand.tmp 16) (Go.Operand.tmp 24) (Go.Operand.const (Go.Value.bool false)), type := 4, pos := "hand.go:35", after := #[{ on := 12, ground := Go.Ground.data }, { on := 20, ground := Go.Ground.data }, { on := 8, ground := Go.Ground.guard }], guard := some (8, false) }) (v := .bool false) rfl (by decide) (by kernel_rfl) (by kernel_rfl) (by kernel_rfl) (fun _ _ _ h => h) (Or.inl ⟨by rfl, ?_⟩) hS1 ?_
            · intro W9 hS9
              obtain ⟨q0, q1⟩ := hS9
              clear q0 q1
              go_simp
            try simp only [Act.put, List.setIfInBounds_toArray, List.set_cons_zero, List.set_cons_succ]
            refine wpAnyN_take (i := 22) (oi := { dst := some 26, op := Go.Op.pick (Go.Operand.tmp 12) (Go.Operand.const (Go.Value.bool true)) (Go.Operand.tmp 25), type := 4, pos := "hand.go:35", after := #[{ on := 8, ground := Go.Ground.data }, { on := 21, ground := Go.Ground.data }], guard := none }) (v := .bool false) rfl (by decide) (by kernel_rfl) (by kernel_rfl) (by kernel_rfl) (fun _ _ _ h => h) (Or.inl ⟨by rfl, ?_⟩) hS1 ?_
            · intro W9 hS9
              obtain ⟨q0, q1⟩ := hS9
              clear q0 q1
              go_simp
            try simp only [Act.put, List.setIfInBounds_toArray, List.set_cons_zero, List.set_cons_succ]
            refine wpAnyX_end (by kernel_rfl) ?_
            have HS := Lib.hid hS1
            clear hS0 hS1
            have HX := HX1
            have HAL := HB1
            have HKF := HK1
            clear HX1 HB1 HK1
            generalize w1 = W at *
            have HR0 := Lib.hid HS.out.2
            clear HS
            go_wp2_with fail
            refine wp_region_L (fun W' => Rows8 W' w.heap.size 44 #[.int .i64 1, .int .i64 gr, .int .u64 by_]) 6 (by kernel_rfl) ?_
            have hS5 : Rows8 W.drew w.heap.size 44 #[.int .i64 1, .int .i64 gr, .int .u64 by_] := HR0.out.drewA
            have HX5 := Lib.hid HX.out.drew
            have HB5 := Lib.hid HAL.out.drew
            have HK5 := Lib.hid HKF.out.drew
            clear HX HAL HKF HR0
            generalize W.drew = We at *
            refine wpAnyL_takeT (i := 0) (oi := { dst := some 28, op := Go.Op.build 81 #[(1, Go.Operand.func 46), (2, Go.Operand.func 47), (3, Go.Operand.func 48)], type := 81, pos := "hand.go:38", after := #[], guard := none }) (v := .agg #[.nilFunc, .func (.func 46) #[] #[], .func (.func 47) #[] #[], .func (.func 48) #[] #[]]) [3, 6] rfl (by kernel_rfl) (by kernel_rfl) (by kernel_rfl) (by kernel_rfl) (fun _ _ _ h => h) (Or.inl ⟨by rfl, ?_⟩) hS5 ?_
            · intro W9 hS9
              clear hS9
              first | (go_simp; done) | kernel_rfl
            try simp only [Act.put, List.setIfInBounds_toArray, List.set_cons_zero, List.set_cons_succ]
            refine wpAnyL_takeT (i := 1) (oi := { dst := some 29, op := Go.Op.fieldAddr 44 (Go.Operand.tmp 3) 0, type := 0, pos := "hand.go:38", after := #[], guard := none }) (v := .pointer (some ⟨w.heap.size, 0, none⟩)) [2, 3, 6] rfl (by kernel_rfl) (by kernel_rfl) (by kernel_rfl) (by kernel_rfl) (fun _ _ _ h => h) (Or.inl ⟨by rfl, ?_⟩) hS5 ?_
            · intro W9 hS9
              clear hS9
              go_simp
            try simp only [Act.put, List.setIfInBounds_toArray, List.set_cons_zero, List.set_cons_succ]
            refine wpAnyL_takeT (i := 2) (oi := { dst := some 30, op := Go.Op.load 3 (Go.Operand.tmp 29), type := 3, pos := "hand.go:38", after := #[{ on := 1, ground := Go.Ground.data }], guard := none }) (v := .int .i64 1) [3, 6] rfl (by kernel_rfl) (by kernel_rfl) (by kernel_rfl) (by kernel_rfl) (fun _ _ _ h => h) (Or.inl ⟨by rfl, ?_⟩) hS5 ?_
            · intro W9 hS9
              have s0 : W9.cell? ⟨w.heap.size, 0, none⟩ = some (.int .i64 1) := hS9.cell 0
              clear hS9
              go_simp
            try simp only [Act.put, List.setIfInBounds_toArray, List.set_cons_zero, List.set_cons_succ]
            refine wpAnyL_takeT (i := 3) (oi := { dst := some 31, op := Go.Op.index 81 (Go.Operand.tmp 28) (Go.Operand.tmp 30), type := 80, pos := "hand.go:38", after := #[{ on := 0, ground := Go.Ground.data }, { on := 2, ground := Go.Ground.data }], guard := none }) (v := .func (.func 46) #[] #[]) [6] rfl (by kernel_rfl) (by kernel_rfl) (by kernel_rfl) (by kernel_rfl) (fun _ _ _ h => h) (Or.inl ⟨by rfl, ?_⟩) hS5 ?_
            · intro W9 hS9
              clear hS9
              first | (go_simp; done) | kernel_rfl
            try simp only [Act.put, List.setIfInBounds_toArray, List.set_cons_zero, List.set_cons_succ]
            refine wpAnyL_takeT (i := 4) (oi := { dst := some 32, op := Go.Op.move (Go.Operand.tmp 0), type := 76, pos := "hand.go:38", after := #[], guard := none }) (v := .pointer (some ⟨H, 0, none⟩)) [6] rfl (by kernel_rfl) (by kernel_rfl) (by kernel_rfl) (by kernel_rfl) (fun _ _ _ h => h) (Or.inl ⟨by rfl, ?_⟩) hS5 ?_
            · intro W9 hS9
              clear hS9
              go_simp
            try simp only [Act.put, List.setIfInBounds_toArray, List.set_cons_zero, List.set_cons_succ]
            refine wpAnyL_takeT (i := 5) (oi := { dst := some 33, op := Go.Op.load 44 (Go.Operand.tmp 3), type := 44, pos := "hand.go:38", after := #[], guard := none }) (v := .agg #[.int .i64 1, .int .i64 gr, .int .u64 by_]) [6] rfl (by kernel_rfl) (by kernel_rfl) (by kernel_rfl) (by kernel_rfl) (fun _ _ _ h => h) (Or.inl ⟨by rfl, ?_⟩) hS5 ?_
            · intro W9 hS9
              have s0 : W9.cell? ⟨w.heap.size, 0, none⟩ = some (.int .i64 1) := hS9.cell 0
              have s1 : W9.cell? ⟨w.heap.size, 1, none⟩ = some (.int .i64 gr) := hS9.cell 1
              have s2 : W9.cell? ⟨w.heap.size, 2, none⟩ = some (.int .u64 by_) := hS9.cell 2
              clear hS9
              go_simp
            try simp only [Act.put, List.setIfInBounds_toArray, List.set_cons_zero, List.set_cons_succ]
            have hcon := Try.pin_any H n₀ E S ⟨1, gr, by_⟩ We ⟨_, _, HX5.out⟩ HHE.out HG9.out HBY.out (Nat.le_trans hn0 HB5.out.size)
            dsimp only at hcon
            rw [← HRR.out] at hcon
            have HCON := Lib.hid hcon
            clear hcon
            refine wpAnyL_one (i := 6) (o := { dst := some 34, op := Go.Op.call { callee := Go.Callee.value (Go.Operand.tmp 31), args := #[Go.Operand.tmp 32, Go.Operand.tmp 33], argTypes := #[76, 44] }, type := 0, pos := "hand.go:42", after := #[{ on := 3, ground := Go.Ground.data }, { on := 4, ground := Go.Ground.data }, { on := 5, ground := Go.Ground.data }], guard := none }) (by kernel_rfl) rfl (fun K hK => ?_)
            refine step_call_v (by rfl) 46 31 _ _ rfl #[] (by rfl) (fun _ _ => by kernel_rfl) #[.pointer (some ⟨H, 0, none⟩), .agg #[.int .i64 1, .int .i64 gr, .int .u64 by_]] (by simp [go_sem]) _ HCON.out ?_
            rintro e w9 hQ
            have hQ2 := HdQ.behind HB5.out HK5.out hQ
            rcases hQ2 with ⟨⟨hr, rfl⟩ | ⟨hr, rfl⟩, hq⟩
            · refine Or.inl ⟨_, rfl, ?_⟩
              have HQ := Lib.hid (show HdQ H n₀ w R (.returned (.tuple #[])) w9 from ⟨.inl ⟨hr, rfl⟩, hq⟩)
              clear hQ hq hr
              refine hK.out _ _ (fun h => absurd h (by decide)) ?_
              clear hK K
              try simp only [Act.put, List.setIfInBounds_toArray, List.set_cons_zero, List.set_cons_succ]
              refine wpAnyL_end (by kernel_rfl) ?_
              go_end0
              exact HQ.out
            · refine Or.inr ⟨_, rfl, ?_⟩
              have HQ := Lib.hid (show HdQ H n₀ w R (.panicked (panicA R.1)) w9 from ⟨.inr ⟨hr, rfl⟩, hq⟩)
              clear hQ hq hr
              refine ⟨rfl, ?_⟩
              exact HQ.out
          · obtain rfl : kd = 2 := by omega
            clear hlow hhigh h3 h1
            have HRR := Lib.hid (HR2.out.trans (if_neg (show ¬ (2 : Int) = 1 by decide)))
            clear HR2
            refine wp_region_X (fun W' => Rows8 W' H 67 #[.int .u64 E, .slice (some ⟨g, 0, none⟩) n n] ∧ Rows8 W' w.heap.size 44 #[.int .i64 2, .int .i64 gr, .int .u64 by_]) 23 (by kernel_rfl) ?_
            have hS0 : Rows8 W.drew H 67 #[.int .u64 E, .slice (some ⟨g, 0, none⟩) n n] ∧ Rows8 W.drew w.heap.size 44 #[.int .i64 2, .int .i64 gr, .int .u64 by_] := ⟨HX.out.bx.drewA, HR0.out.drewA⟩
            have HX0 := Lib.hid HX.out.drew
            have HB0 := Lib.hid HAL.out.drew
            have HK0 := Lib.hid HKF.out.drew
            clear HX HAL HKF HR0
            generalize W.drew = Wd at *
            refine wpAnyN_take (i := 0) (oi := { dst := some 4, op := Go.Op.fieldAddr 44 (Go.Operand.tmp 3) 0, type := 0, pos := "hand.go:35", after := #[], guard := none }) (v := .pointer (some ⟨w.heap.size, 0, none⟩)) rfl (by decide) (by kernel_rfl) (by kernel_rfl) (by kernel_rfl) (fun _ _ _ h => h) (Or.inl ⟨by rfl, ?_⟩) hS0 ?_
            · intro W9 hS9
              obtain ⟨q0, q1⟩ := hS9
              clear q0 q1
              go_simp
            try simp only [Act.put, List.setIfInBounds_toArray, List.set_cons_zero, List.set_cons_succ]
            refine wpAnyN_take (i := 1) (oi := { dst := some 5, op := Go.Op.load 3 (Go.Operand.tmp 4), type := 3, pos := "hand.go:35", after := #[{ on := 0, ground := Go.Ground.data }], guard := none }) (v := .int .i64 2) rfl (by decide) (by kernel_rfl) (by kernel_rfl) (by kernel_rfl) (fun _ _ _ h => h) (Or.inl ⟨by rfl, ?_⟩) hS0 ?_
            · intro W9 hS9
              obtain ⟨q0, q1⟩ := hS9
              have s0 : W9.cell? ⟨w.heap.size, 0, none⟩ = some (.int .i64 2) := q1.cell 0
              clear q0 q1
              go_simp
            try simp only [Act.put, List.setIfInBounds_toArray, List.set_cons_zero, List.set_cons_succ]
            refine wpAnyN_take (i := 2) (oi := { dst := some 6, op := Go.Op.binOp Go.BinOp.lss 3 (Go.Operand.tmp 5) (Go.Operand.const (Go.Value.int Go.IntKind.i64 1)) 3, type := 4, pos := "hand.go:35", after := #[{ on := 1, ground := Go.Ground.data }], guard := none }) (v := .bool false) rfl (by decide) (by kernel_rfl) (by kernel_rfl) (by kernel_rfl) (fun _ _ _ h => h) (Or.inl ⟨by rfl, ?_⟩) hS0 ?_
            · intro W9 hS9
              obtain ⟨q0, q1⟩ := hS9
              clear q0 q1
              go_simp
            try simp only [Act.put, List.setIfInBounds_toArray, List.set_cons_zero, List.set_cons_succ]
            refine wpAnyN_take (i := 3) (oi := { dst := some 7, op := Go.Op.move (Go.Operand.tmp 6), type := 4, pos := "hand.go:35", after := #[{ on := 2, ground := Go.Ground.data }], guard := none }) (v := .bool false) rfl (by decide) (by kernel_rfl) (by kernel_rfl) (by kernel_rfl) (fun _ _ _ h => h) (Or.inl ⟨by rfl, ?_⟩) hS0 ?_
            · intro W9 hS9
              obtain ⟨q0, q1⟩ := hS9
              clear q0 q1
              go_simp
            try simp only [Act.put, List.setIfInBounds_toArray, List.set_cons_zero, List.set_cons_succ]
            refine wpAnyN_take (i := 4) (oi := { dst := some 8, op := Go.Op.fieldAddr 44 (Go.Operand.tmp 3) 0, type := 0, pos := "hand.go:35", after := #[{ on := 3, ground := Go.Ground.guard }], guard := some (3, false) }) (v := .pointer (some ⟨w.heap.size, 0, none⟩)) rfl (by decide) (by kernel_rfl) (by kernel_rfl) (by kernel_rfl) (fun _ _ _ h => h) (Or.inl ⟨by rfl, ?_⟩) hS0 ?_
            · intro W9 hS9
              obtain ⟨q0, q1⟩ := hS9
              clear q0 q1
              go_simp
            try simp only [Act.put, List.setIfInBounds_toArray, List.set_cons_zero, List.set_cons_succ]
            refine wpAnyN_take (i := 5) (oi := { dst := some 9, op := Go.Op.load 3 (Go.Operand.tmp 8), type := 3, pos := "hand.go:35", after := #[{ on := 4, ground := Go.Ground.data }, { on := 3, ground := Go.Ground.guard }], guard := some (3, false) }) (v := .int .i64 2) rfl (by decide) (by kernel_rfl) (by kernel_rfl) (by kernel_rfl) (fun _ _ _ h => h) (Or.inl ⟨by rfl, ?_⟩) hS0 ?_
            · intro W9 hS9
              obtain ⟨q0, q1⟩ := hS9
              have s0 : W9.cell? ⟨w.heap.size, 0, none⟩ = some (.int .i64 2) := q1.cell 0
              clear q0 q1
              go_simp
            try simp only [Act.put, List.setIfInBounds_toArray, List.set_cons_zero, List.set_cons_succ]
            refine wpAnyN_take (i := 6) (oi := { dst := some 10, op := Go.Op.binOp Go.BinOp.gtr 3 (Go.Operand.tmp 9) (Go.Operand.const (Go.Value.int Go.IntKind.i64 3)) 3, type := 4, pos := "hand.go:35", after := #[{ on := 5, ground := Go.Ground.data }, { on := 3, ground := Go.Ground.guard }], guard := some (3, false) }) (v := .bool false) rfl (by decide) (by kernel_rfl) (by kernel_rfl) (by kernel_rfl) (fun _ _ _ h => h) (Or.inl ⟨by rfl, ?_⟩) hS0 ?_
            · intro W9 hS9
              obtain ⟨q0, q1⟩ := hS9
              clear q0 q1
              go_simp
            try simp only [Act.put, List.setIfInBounds_toArray, List.set_cons_zero, List.set_cons_succ]
            refine wpAnyN_take (i := 7) (oi := { dst := some 11, op := Go.Op.pick (Go.Operand.tmp 7) (Go.Operand.const (Go.Value.bool true)) (Go.Operand.tmp 10), type := 4, pos := "hand.go:35", after := #[{ on := 3, ground := Go.Ground.data }, { on := 6, ground := Go.Ground.data }], guard := none }) (v := .bool false) rfl (by decide) (by kernel_rfl) (by kernel_rfl) (by kernel_rfl) (fun _ _ _ h => h) (Or.inl ⟨by rfl, ?_⟩) hS0 ?_
            · intro W9 hS9
              obtain ⟨q0, q1⟩ := hS9
              clear q0 q1
              go_simp
            try simp only [Act.put, List.setIfInBounds_toArray, List.set_cons_zero, List.set_cons_succ]
            refine wpAnyN_take (i := 8) (oi := { dst := some 12, op := Go.Op.move (Go.Operand.tmp 11), type := 4, pos := "hand.go:35", after := #[{ on := 7, ground := Go.Ground.data }, { on := 3, ground := Go.Ground.chain }], guard := none }) (v := .bool false) rfl (by decide) (by kernel_rfl) (by kernel_rfl) (by kernel_rfl) (fun _ _ _ h => h) (Or.inl ⟨by rfl, ?_⟩) hS0 ?_
            · intro W9 hS9
              obtain ⟨q0, q1⟩ := hS9
              clear q0 q1
              go_simp
            try simp only [Act.put, List.setIfInBounds_toArray, List.set_cons_zero, List.set_cons_succ]
            refine wpAnyN_take (i := 9) (oi := { dst := some 13, op := Go.Op.fieldAddr 44 (Go.Operand.tmp 3) 0, type := 0, pos := "hand.go:35", after := #[{ on := 8, ground := Go.Ground.guard }], guard := some (8, false) }) (v := .pointer (some ⟨w.heap.size, 0, none⟩)) rfl (by decide) (by kernel_rfl) (by kernel_rfl) (by kernel_rfl) (fun _ _ _ h => h) (Or.inl ⟨by rfl, ?_⟩) hS0 ?_
            · intro W9 hS9
              obtain ⟨q0, q1⟩ := hS9
              clear q0 q1
              go_simp
            try simp only [Act.put, List.setIfInBounds_toArray, List.set_cons_zero, List.set_cons_succ]
            refine wpAnyN_take (i := 10) (oi := { dst := some 14, op := Go.Op.load 3 (Go.Operand.tmp 13), type := 3, pos := "hand.go:35", after := #[{ on := 9, ground := Go.Ground.data }, { on := 8, ground := Go.Ground.guard }], guard := some (8, false) }) (v := .int .i64 2) rfl (by decide) (by kernel_rfl) (by kernel_rfl) (by kernel_rfl) (fun _ _ _ h => h) (Or.inl ⟨by rfl, ?_⟩) hS0 ?_
            · intro W9 hS9
              obtain ⟨q0, q1⟩ := hS9
              have s0 : W9.cell? ⟨w.heap.size, 0, none⟩ = some (.int .i64 2) := q1.cell 0
              clear q0 q1
              go_simp
            try simp only [Act.put, List.setIfInBounds_toArray, List.set_cons_zero, List.set_cons_succ]
            refine wpAnyN_take (i := 11) (oi := { dst := some 15, op := Go.Op.binOp Go.BinOp.neq 3 (Go.Operand.tmp 14) (Go.Operand.const (Go.Value.int Go.IntKind.i64 3)) 3, type := 4, pos := "hand.go:35", after := #[{ on := 10, ground := Go.Ground.data }, { on := 8, ground := Go.Ground.guard }], guard := some (8, false) }) (v := .bool true) rfl (by decide) (by kernel_rfl) (by kernel_rfl) (by kernel_rfl) (fun _ _ _ h => h) (Or.inl ⟨by rfl, ?_⟩) hS0 ?_
            · intro W9 hS9
              obtain ⟨q0, q1⟩ := hS9
              clear q0 q1
              go_simp
            try simp only [Act.put, List.setIfInBounds_toArray, List.set_cons_zero, List.set_cons_succ]
            refine wpAnyN_take (i := 12) (oi := { dst := some 16, op := Go.Op.move (Go.Operand.tmp 15), type := 4, pos := "hand.go:35", after := #[{ on := 11, ground := Go.Ground.data }, { on := 8, ground := Go.Ground.chain }, { on := 8, ground := Go.Ground.guard }], guard := some (8, false) }) (v := .bool true) rfl (by decide) (by kernel_rfl) (by kernel_rfl) (by kernel_rfl) (fun _ _ _ h => h) (Or.inl ⟨by rfl, ?_⟩) hS0 ?_
            · intro W9 hS9
              obtain ⟨q0, q1⟩ := hS9
              clear q0 q1
              go_simp
            try simp only [Act.put, List.setIfInBounds_toArray, List.set_cons_zero, List.set_cons_succ]
            refine wpAnyN_take (i := 13) (oi := { dst := some 17, op := Go.Op.move (Go.Operand.tmp 0), type := 76, pos := "hand.go:35", after := #[{ on := 12, ground := Go.Ground.guard }], guard := some (12, true) }) (v := .pointer (some ⟨H, 0, none⟩)) rfl (by decide) (by kernel_rfl) (by kernel_rfl) (by kernel_rfl) (fun _ _ _ h => h) (Or.inl ⟨by rfl, ?_⟩) hS0 ?_
            · intro W9 hS9
              obtain ⟨q0, q1⟩ := hS9
              clear q0 q1
              go_simp
            try simp only [Act.put, List.setIfInBounds_toArray, List.set_cons_zero, List.set_cons_succ]
            refine wpAnyN_take (i := 14) (oi := { dst := some 18, op := Go.Op.nilCheck (Go.Operand.tmp 17), type := 0, pos := "hand.go:35", after := #[{ on := 13, ground := Go.Ground.data }, { on := 12, ground := Go.Ground.guard }], guard := some (12, true) }) (v := .pointer (some ⟨H, 0, none⟩)) rfl (by decide) (by kernel_rfl) (by kernel_rfl) (by kernel_rfl) (fun _ _ _ h => h) (Or.inl ⟨by rfl, ?_⟩) hS0 ?_
            · intro W9 hS9
              obtain ⟨q0, q1⟩ := hS9
              clear q0 q1
              go_simp
            try simp only [Act.put, List.setIfInBounds_toArray, List.set_cons_zero, List.set_cons_succ]
            refine wpAnyN_take (i := 15) (oi := { dst := some 19, op := Go.Op.fieldAddr 67 (Go.Operand.tmp 18) 0, type := 0, pos := "hand.go:35", after := #[{ on := 14, ground := Go.Ground.data }, { on := 12, ground := Go.Ground.guard }], guard := some (12, true) }) (v := .pointer (some ⟨H, 0, none⟩)) rfl (by decide) (by kernel_rfl) (by kernel_rfl) (by kernel_rfl) (fun _ _ _ h => h) (Or.inl ⟨by rfl, ?_⟩) hS0 ?_
            · intro W9 hS9
              obtain ⟨q0, q1⟩ := hS9
              clear q0 q1
              go_simp
            try simp only [Act.put, List.setIfInBounds_toArray, List.set_cons_zero, List.set_cons_succ]
            refine wpAnyN_take (i := 16) (oi := { dst := some 20, op := Go.Op.load 57 (Go.Operand.tmp 19), type := 57, pos := "hand.go:35", after := #[{ on := 15, ground := Go.Ground.data }, { on := 12, ground := Go.Ground.guard }], guard := some (12, true) }) (v := .agg #[.int .u64 E, .slice (some ⟨g, 0, none⟩) n n]) rfl (by decide) (by kernel_rfl) (by kernel_rfl) (by kernel_rfl) (fun _ _ _ h => h) (Or.inl ⟨by rfl, ?_⟩) hS0 ?_
            · intro W9 hS9
              obtain ⟨q0, q1⟩ := hS9
              have s0 : W9.cell? ⟨H, 0, none⟩ = some (.int .u64 E) := q0.cell 0
              have s1 : W9.cell? ⟨H, 1, none⟩ = some (.slice (some ⟨g, 0, none⟩) n n) := q0.cell 1
              clear q0 q1
              go_simp
            try simp only [Act.put, List.setIfInBounds_toArray, List.set_cons_zero, List.set_cons_succ]
            refine wpAnyN_take (i := 17) (oi := { dst := some 21, op := Go.Op.fieldAddr 44 (Go.Operand.tmp 3) 1, type := 0, pos := "hand.go:35", after := #[{ on := 12, ground := Go.Ground.guard }], guard := some (12, true) }) (v := .pointer (some ⟨w.heap.size, 1, none⟩)) rfl (by decide) (by kernel_rfl) (by kernel_rfl) (by kernel_rfl) (fun _ _ _ h => h) (Or.inl ⟨by rfl, ?_⟩) hS0 ?_
            · intro W9 hS9
              obtain ⟨q0, q1⟩ := hS9
              clear q0 q1
              go_simp
            try simp only [Act.put, List.setIfInBounds_toArray, List.set_cons_zero, List.set_cons_succ]
            refine wpAnyN_take (i := 18) (oi := { dst := some 22, op := Go.Op.load 3 (Go.Operand.tmp 21), type := 3, pos := "hand.go:35", after := #[{ on := 17, ground := Go.Ground.data }, { on := 12, ground := Go.Ground.guard }], guard := some (12, true) }) (v := .int .i64 gr) rfl (by decide) (by kernel_rfl) (by kernel_rfl) (by kernel_rfl) (fun _ _ _ h => h) (Or.inl ⟨by rfl, ?_⟩) hS0 ?_
            · intro W9 hS9
              obtain ⟨q0, q1⟩ := hS9
              have s0 : W9.cell? ⟨w.heap.size, 1, none⟩ = some (.int .i64 gr) := q1.cell 1
              clear q0 q1
              go_simp
            try simp only [Act.put, List.setIfInBounds_toArray, List.set_cons_zero, List.set_cons_succ]
            refine wpAnyX_one (i := 19) (o := { dst := some 23, op := Go.Op.call { callee := Go.Callee.value (Go.Operand.func 45), args := #[Go.Operand.tmp 20, Go.Operand.tmp 22], argTypes := #[57, 3] }, type := 4, pos := "hand.go:35", after := #[{ on := 16, ground := Go.Ground.data }, { on := 18, ground := Go.Ground.data }, { on := 12, ground := Go.Ground.chain }, { on := 12, ground := Go.Ground.guard }], guard := some (12, true) }) (by kernel_rfl) rfl (fun K hK => ?_)
            refine step_call_g (by rfl) 45 _ _ rfl (fun _ _ => by kernel_rfl) #[.agg #[.int .u64 E, .slice (some ⟨g, 0, none⟩) n n], .int .i64 gr] (by simp [go_sem]) _ (HONE Wd).out ?_
            rintro e w1 ⟨rfl, hC⟩
            refine ⟨_, rfl, ?_⟩
            have hS1 : Rows8 w1 H 67 #[.int .u64 E, .slice (some ⟨g, 0, none⟩) n n] ∧ Rows8 w1 w.heap.size 44 #[.int .i64 2, .int .i64 gr, .int .u64 by_] := ⟨hS0.1.below hC hS0.1.lt, hS0.2.below hC hS0.2.lt⟩
            have HX1 := Lib.hid (HX0.out.below hC)
            have HB1 := Lib.hid (HB0.out.trans (hC.mono (Nat.le_trans hn0 HB0.out.size)))
            have HK1 := Lib.hid (HK0.out.trans (Kf.of_below (T := tP) hC))
            clear hC HX0 HB0 HK0
            refine hK.out _ _ (fun _ => hS1) ?_
            clear hK K
            try simp only [Act.put, List.setIfInBounds_toArray, List.set_cons_zero, List.set_cons_succ]
            refine wpAnyN_take (i := 20) (oi := { dst := some 24, op := Go.Op.unOp Go.UnOp.not 4 (Go.Operand.tmp 23), type := 4, pos := "hand.go:35", after := #[{ on := 19, ground := Go.Ground.data }, { on := 12, ground := Go.Ground.guard }], guard := some (12, true) }) (v := .bool false) rfl (by decide) (by kernel_rfl) (by kernel_rfl) (by kernel_rfl) (fun _ _ _ h => h) (Or.inl ⟨by rfl, ?_⟩) hS1 ?_
            · intro W9 hS9
              obtain ⟨q0, q1⟩ := hS9
              clear q0 q1
              go_simp
            try simp only [Act.put, List.setIfInBounds_toArray, List.set_cons_zero, List.set_cons_succ]
            refine wpAnyN_take (i := 21) (oi := { dst := some 25, op := Go.Op.pick (Go.Operand.tmp 16) (Go.Operand.tmp 24) (Go.Operand.const (Go.Value.bool false)), type := 4, pos := "hand.go:35", after := #[{ on := 12, ground := Go.Ground.data }, { on := 20, ground := Go.Ground.data }, { on := 8, ground := Go.Ground.guard }], guard := some (8, false) }) (v := .bool false) rfl (by decide) (by kernel_rfl) (by kernel_rfl) (by kernel_rfl) (fun _ _ _ h => h) (Or.inl ⟨by rfl, ?_⟩) hS1 ?_
            · intro W9 hS9
              obtain ⟨q0, q1⟩ := hS9
              clear q0 q1
              go_simp
            try simp only [Act.put, List.setIfInBounds_toArray, List.set_cons_zero, List.set_cons_succ]
            refine wpAnyN_take (i := 22) (oi := { dst := some 26, op := Go.Op.pick (Go.Operand.tmp 12) (Go.Operand.const (Go.Value.bool true)) (Go.Operand.tmp 25), type := 4, pos := "hand.go:35", after := #[{ on := 8, ground := Go.Ground.data }, { on := 21, ground := Go.Ground.data }], guard := none }) (v := .bool false) rfl (by decide) (by kernel_rfl) (by kernel_rfl) (by kernel_rfl) (fun _ _ _ h => h) (Or.inl ⟨by rfl, ?_⟩) hS1 ?_
            · intro W9 hS9
              obtain ⟨q0, q1⟩ := hS9
              clear q0 q1
              go_simp
            try simp only [Act.put, List.setIfInBounds_toArray, List.set_cons_zero, List.set_cons_succ]
            refine wpAnyX_end (by kernel_rfl) ?_
            have HS := Lib.hid hS1
            clear hS0 hS1
            have HX := HX1
            have HAL := HB1
            have HKF := HK1
            clear HX1 HB1 HK1
            generalize w1 = W at *
            have HR0 := Lib.hid HS.out.2
            clear HS
            go_wp2_with fail
            refine wp_region_L (fun W' => Rows8 W' w.heap.size 44 #[.int .i64 2, .int .i64 gr, .int .u64 by_]) 6 (by kernel_rfl) ?_
            have hS5 : Rows8 W.drew w.heap.size 44 #[.int .i64 2, .int .i64 gr, .int .u64 by_] := HR0.out.drewA
            have HX5 := Lib.hid HX.out.drew
            have HB5 := Lib.hid HAL.out.drew
            have HK5 := Lib.hid HKF.out.drew
            clear HX HAL HKF HR0
            generalize W.drew = We at *
            refine wpAnyL_takeT (i := 0) (oi := { dst := some 28, op := Go.Op.build 81 #[(1, Go.Operand.func 46), (2, Go.Operand.func 47), (3, Go.Operand.func 48)], type := 81, pos := "hand.go:38", after := #[], guard := none }) (v := .agg #[.nilFunc, .func (.func 46) #[] #[], .func (.func 47) #[] #[], .func (.func 48) #[] #[]]) [3, 6] rfl (by kernel_rfl) (by kernel_rfl) (by kernel_rfl) (by kernel_rfl) (fun _ _ _ h => h) (Or.inl ⟨by rfl, ?_⟩) hS5 ?_
            · intro W9 hS9
              clear hS9
              first | (go_simp; done) | kernel_rfl
            try simp only [Act.put, List.setIfInBounds_toArray, List.set_cons_zero, List.set_cons_succ]
            refine wpAnyL_takeT (i := 1) (oi := { dst := some 29, op := Go.Op.fieldAddr 44 (Go.Operand.tmp 3) 0, type := 0, pos := "hand.go:38", after := #[], guard := none }) (v := .pointer (some ⟨w.heap.size, 0, none⟩)) [2, 3, 6] rfl (by kernel_rfl) (by kernel_rfl) (by kernel_rfl) (by kernel_rfl) (fun _ _ _ h => h) (Or.inl ⟨by rfl, ?_⟩) hS5 ?_
            · intro W9 hS9
              clear hS9
              go_simp
            try simp only [Act.put, List.setIfInBounds_toArray, List.set_cons_zero, List.set_cons_succ]
            refine wpAnyL_takeT (i := 2) (oi := { dst := some 30, op := Go.Op.load 3 (Go.Operand.tmp 29), type := 3, pos := "hand.go:38", after := #[{ on := 1, ground := Go.Ground.data }], guard := none }) (v := .int .i64 2) [3, 6] rfl (by kernel_rfl) (by kernel_rfl) (by kernel_rfl) (by kernel_rfl) (fun _ _ _ h => h) (Or.inl ⟨by rfl, ?_⟩) hS5 ?_
            · intro W9 hS9
              have s0 : W9.cell? ⟨w.heap.size, 0, none⟩ = some (.int .i64 2) := hS9.cell 0
              clear hS9
              go_simp
            try simp only [Act.put, List.setIfInBounds_toArray, List.set_cons_zero, List.set_cons_succ]
            refine wpAnyL_takeT (i := 3) (oi := { dst := some 31, op := Go.Op.index 81 (Go.Operand.tmp 28) (Go.Operand.tmp 30), type := 80, pos := "hand.go:38", after := #[{ on := 0, ground := Go.Ground.data }, { on := 2, ground := Go.Ground.data }], guard := none }) (v := .func (.func 47) #[] #[]) [6] rfl (by kernel_rfl) (by kernel_rfl) (by kernel_rfl) (by kernel_rfl) (fun _ _ _ h => h) (Or.inl ⟨by rfl, ?_⟩) hS5 ?_
            · intro W9 hS9
              clear hS9
              first | (go_simp; done) | kernel_rfl
            try simp only [Act.put, List.setIfInBounds_toArray, List.set_cons_zero, List.set_cons_succ]
            refine wpAnyL_takeT (i := 4) (oi := { dst := some 32, op := Go.Op.move (Go.Operand.tmp 0), type := 76, pos := "hand.go:38", after := #[], guard := none }) (v := .pointer (some ⟨H, 0, none⟩)) [6] rfl (by kernel_rfl) (by kernel_rfl) (by kernel_rfl) (by kernel_rfl) (fun _ _ _ h => h) (Or.inl ⟨by rfl, ?_⟩) hS5 ?_
            · intro W9 hS9
              clear hS9
              go_simp
            try simp only [Act.put, List.setIfInBounds_toArray, List.set_cons_zero, List.set_cons_succ]
            refine wpAnyL_takeT (i := 5) (oi := { dst := some 33, op := Go.Op.load 44 (Go.Operand.tmp 3), type := 44, pos := "hand.go:38", after := #[], guard := none }) (v := .agg #[.int .i64 2, .int .i64 gr, .int .u64 by_]) [6] rfl (by kernel_rfl) (by kernel_rfl) (by kernel_rfl) (by kernel_rfl) (fun _ _ _ h => h) (Or.inl ⟨by rfl, ?_⟩) hS5 ?_
            · intro W9 hS9
              have s0 : W9.cell? ⟨w.heap.size, 0, none⟩ = some (.int .i64 2) := hS9.cell 0
              have s1 : W9.cell? ⟨w.heap.size, 1, none⟩ = some (.int .i64 gr) := hS9.cell 1
              have s2 : W9.cell? ⟨w.heap.size, 2, none⟩ = some (.int .u64 by_) := hS9.cell 2
              clear hS9
              go_simp
            try simp only [Act.put, List.setIfInBounds_toArray, List.set_cons_zero, List.set_cons_succ]
            have hcon := Try.unpin_any H n₀ E S ⟨2, gr, by_⟩ We ⟨_, _, HX5.out⟩ HG9.out (Nat.le_trans hn0 HB5.out.size)
            dsimp only at hcon
            rw [← HRR.out] at hcon
            have HCON := Lib.hid hcon
            clear hcon
            refine wpAnyL_one (i := 6) (o := { dst := some 34, op := Go.Op.call { callee := Go.Callee.value (Go.Operand.tmp 31), args := #[Go.Operand.tmp 32, Go.Operand.tmp 33], argTypes := #[76, 44] }, type := 0, pos := "hand.go:42", after := #[{ on := 3, ground := Go.Ground.data }, { on := 4, ground := Go.Ground.data }, { on := 5, ground := Go.Ground.data }], guard := none }) (by kernel_rfl) rfl (fun K hK => ?_)
            refine step_call_v (by rfl) 47 31 _ _ rfl #[] (by rfl) (fun _ _ => by kernel_rfl) #[.pointer (some ⟨H, 0, none⟩), .agg #[.int .i64 2, .int .i64 gr, .int .u64 by_]] (by simp [go_sem]) _ HCON.out ?_
            rintro e w9 hQ
            have hQ2 := HdQ.behind HB5.out HK5.out hQ
            rcases hQ2 with ⟨⟨hr, rfl⟩ | ⟨hr, rfl⟩, hq⟩
            · refine Or.inl ⟨_, rfl, ?_⟩
              have HQ := Lib.hid (show HdQ H n₀ w R (.returned (.tuple #[])) w9 from ⟨.inl ⟨hr, rfl⟩, hq⟩)
              clear hQ hq hr
              refine hK.out _ _ (fun h => absurd h (by decide)) ?_
              clear hK K
              try simp only [Act.put, List.setIfInBounds_toArray, List.set_cons_zero, List.set_cons_succ]
              refine wpAnyL_end (by kernel_rfl) ?_
              go_end0
              exact HQ.out
            · refine Or.inr ⟨_, rfl, ?_⟩
              have HQ := Lib.hid (show HdQ H n₀ w R (.panicked (panicA R.1)) w9 from ⟨.inr ⟨hr, rfl⟩, hq⟩)
              clear hQ hq hr
              refine ⟨rfl, ?_⟩
              exact HQ.out
end Go.Proofs
