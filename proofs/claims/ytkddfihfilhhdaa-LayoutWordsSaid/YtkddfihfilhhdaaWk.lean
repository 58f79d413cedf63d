/- Layout: wordsOfTable. -/
import Derived.Test.YtkddfihfilhhdaaWj
namespace Go.Proofs
set_option maxRecDepth 100000
open Go.RowKit Go.Shelf
attribute [local go_sem] Oper.semAt_some

theorem Try.wot_r1 : True := trivial
set_option maxHeartbeats 8000000 in
theorem Try.wordsOfTable_any (t : Tb) (hlw : t.ws.length = 34) (hi : I64 t.d ∧ I64 t.can ∧ I64 t.live) (w : World) : Calls Try.prog 53 #[.agg (tc t)] w fun e w' => Below w.heap.size w w' ∧ ((∃ x, e = .returned x ∧ (∃ B, x = .slice (some ⟨B, 0, none⟩) 40 40 ∧ w.heap.size < B ∧ Rows8 w' B 34 (wordVals (twords t)).toArray) ∧ okT t = true) ∨ ∃ q, e = .panicked (panicA q) ∧ q = 260 ∧ okT t = false) := by
  have HI := Lib.hid hi
  have HLW := Lib.hid hlw
  obtain ⟨Wt, hWt⟩ : ∃ W, W = w.alloc (.cells (tc t) 49) := ⟨_, rfl⟩
  have HB : Hid (Below w.heap.size w Wt) := Lib.hid (by rw [hWt]; exact Rows8.newB)
  have HT : Hid (Rows8 Wt w.heap.size 49 (tc t)) := Lib.hid (by rw [hWt]; exact Rows8.new _ _ _)
  obtain ⟨Wm, hWm⟩ : ∃ W, W = Wt.alloc (.cells (Array.replicate 40 (.int .u64 0)) 34) := ⟨_, rfl⟩
  have hC : Below Wt.heap.size Wt Wm := by rw [hWm]; exact Rows8.newB
  have hszt : Wt.heap.size = w.heap.size + 1 := by rw [hWt]; simp
  obtain ⟨Bw, hBw⟩ : ∃ B, B = w.heap.size + 1 := ⟨_, rfl⟩
  have HT := Lib.hid (HT.out.below hC HT.out.lt)
  have HB := Lib.hid (HB.out.trans (hC.mono HB.out.size))
  have HW : Hid (Rows8 Wm Bw 34 (wordVals zero40).toArray) := Lib.hid (by rw [hWm, hBw, ← hszt, ← zero40_vals]; exact Rows8.new _ _ _)
  have HWL := Lib.hid zero40_len
  have HLm : Hid (Bw < Wm.heap.size) := Lib.hid (HW.out.lt)
  have HL1 : Hid (w.heap.size < Bw) := Lib.hid (by omega)
  have HQ := Lib.hid (Try.rowOf_any (some ⟨Bw, 0, none⟩) 40 40 260 Wm (by decide))
  clear hi hlw hC hszt
  go_enter Try.func53, Try.ntmps53
  go_upto_region 1 with fail
  rw [← hWt]
  have hmk := Try.make40 (w.alloc (.cells (tc t) 49))
  go_wp2_with fail
  rw [← hWt, ← hWm, ← hBw]
  clear hmk hBw hWm hWt
  refine HQ.out.mono ?_
  rintro e Wq ⟨hC, ⟨_, rfl⟩ | ⟨h, _⟩⟩
  rotate_left
  · first | exact absurd rfl h | exact h.elim
  have HT := Lib.hid (HT.out.below hC HT.out.lt)
  have HW := Lib.hid (HW.out.below hC HW.out.lt)
  have HB := Lib.hid (HB.out.trans (hC.mono HB.out.size))
  have HLm := Lib.hid (Nat.lt_of_lt_of_le HLm.out hC.size)
  clear hC HQ
  obtain ⟨Br, hBr⟩ : ∃ B, B = Wq.heap.size := ⟨_, rfl⟩
  obtain ⟨W0, hW0⟩ : ∃ W, W = Wq.alloc (.cells #[.slice (some ⟨Bw, 0, none⟩) 40 40, .int .i64 260] 110) := ⟨_, rfl⟩
  have HR : Hid (Rows8 W0 Br 110 #[.slice (some ⟨Bw, 0, none⟩) 40 40, .int .i64 260]) := Lib.hid (by rw [hW0, hBr]; exact Rows8.new _ _ _)
  have hC : Below Wq.heap.size Wq W0 := by rw [hW0]; exact Rows8.newB
  have HT := Lib.hid (HT.out.below hC HT.out.lt)
  have HW := Lib.hid (HW.out.below hC HW.out.lt)
  have HB := Lib.hid (HB.out.trans (hC.mono HB.out.size))
  have HL : Hid (w.heap.size < Bw ∧ Bw < Br) := Lib.hid ⟨HL1.out, by rw [hBr]; exact HLm.out⟩
  clear hC HLm HL1
  go_upto_region 2 with fail
  rw [← hBr]
  rw [← hW0]
  clear hBr hW0
  refine wp_region_X (fun W' => Rows8 W' w.heap.size 49 (tc t) ∧ Rows8 W' Br 110 #[.slice (some ⟨Bw, 0, none⟩) 40 40, .int .i64 260]) 7 (by kernel_rfl) ?_
  have hC0 : Below W0.heap.size W0 W0.drew := (Below.refl _ _).drew
  have HT := Lib.hid (HT.out.below hC0 HT.out.lt)
  have HR := Lib.hid (HR.out.below hC0 HR.out.lt)
  have HW := Lib.hid (HW.out.below hC0 HW.out.lt)
  have HB := Lib.hid (HB.out.trans (hC0.mono HB.out.size))
  clear hC0
  generalize W0.drew = W at *
  refine wpAnyN_take (i := 0) (oi := { dst := some 8, op := Go.Op.fieldAddr 49 (Go.Operand.tmp 1) 1, type := 0, pos := "reader.go:46", after := #[], guard := none }) (v := .pointer (some ⟨w.heap.size, 1, none⟩)) rfl (by decide) (by kernel_rfl) (by kernel_rfl) (by kernel_rfl) (fun _ _ _ h => h) (Or.inl ⟨by rfl, ?_⟩) ⟨HT.out, HR.out⟩ ?_
  · intro W9 hS9
    obtain ⟨q0, q1⟩ := hS9
    go_simp
  try simp only [Act.put, List.setIfInBounds_toArray, List.set_cons_zero, List.set_cons_succ]
  refine wpAnyN_take (i := 1) (oi := { dst := some 9, op := Go.Op.load 3 (Go.Operand.tmp 8), type := 3, pos := "reader.go:46", after := #[{ on := 0, ground := Go.Ground.data }], guard := none }) (v := .int .i64 t.d) rfl (by decide) (by kernel_rfl) (by kernel_rfl) (by kernel_rfl) (fun _ _ _ h => h) (Or.inl ⟨by rfl, ?_⟩) ⟨HT.out, HR.out⟩ ?_
  · intro W9 hS9
    obtain ⟨q0, q1⟩ := hS9
    have s0 : W9.cell? ⟨w.heap.size, 1, none⟩ = some (.int .i64 t.d) := (q0.cell 1).trans (tc_1 t)
    clear q0 q1
    go_simp
  try simp only [Act.put, List.setIfInBounds_toArray, List.set_cons_zero, List.set_cons_succ]
  refine wpAnyN_take (i := 3) (oi := { dst := some 11, op := Go.Op.fieldAddr 110 (Go.Operand.tmp 3) 1, type := 0, pos := "reader.go:46", after := #[], guard := none }) (v := .pointer (some ⟨Br, 1, none⟩)) rfl (by decide) (by kernel_rfl) (by kernel_rfl) (by kernel_rfl) (fun _ _ _ h => h) (Or.inl ⟨by rfl, ?_⟩) ⟨HT.out, HR.out⟩ ?_
  · intro W9 hS9
    obtain ⟨q0, q1⟩ := hS9
    go_simp
  try simp only [Act.put, List.setIfInBounds_toArray, List.set_cons_zero, List.set_cons_succ]
  refine wpAnyN_take (i := 4) (oi := { dst := some 12, op := Go.Op.load 27 (Go.Operand.tmp 11), type := 27, pos := "reader.go:46", after := #[{ on := 3, ground := Go.Ground.data }], guard := none }) (v := .int .i64 260) rfl (by decide) (by kernel_rfl) (by kernel_rfl) (by kernel_rfl) (fun _ _ _ h => h) (Or.inl ⟨by rfl, ?_⟩) ⟨HT.out, HR.out⟩ ?_
  · intro W9 hS9
    obtain ⟨q0, q1⟩ := hS9
    have r1 : W9.cell? ⟨Br, 1, none⟩ = some (.int .i64 260) := q1.cell 1
    clear q0 q1
    go_simp
  try simp only [Act.put, List.setIfInBounds_toArray, List.set_cons_zero, List.set_cons_succ]
  refine wpAnyX_one (i := 2) (o := { dst := some 10, op := Go.Op.call { callee := Go.Callee.value (Go.Operand.func 41), args := #[Go.Operand.const (Go.Value.int Go.IntKind.u64 5)], argTypes := #[34] }, type := 83, pos := "reader.go:46", after := #[], guard := none }) (by kernel_rfl) rfl (fun K hK => ?_)
  have HN := Try.upTo_any 5 W
  refine step_call_g (by rfl) 41 _ _ rfl (fun _ _ => by kernel_rfl) #[.int .u64 5] (by simp [go_sem]) _ HN ?_
  rintro e W1 ⟨v, rfl, hm, hC⟩
  have HM := Lib.hid hm
  have HT := Lib.hid (HT.out.below hC HT.out.lt)
  have HR := Lib.hid (HR.out.below hC HR.out.lt)
  have HW := Lib.hid (HW.out.below hC HW.out.lt)
  have HB := Lib.hid (HB.out.trans (hC.mono HB.out.size))
  clear hC HN hm
  refine ⟨_, rfl, ?_⟩
  refine hK.out _ _ (fun _ => ⟨HT.out, HR.out⟩) ?_
  clear hK K
  try simp only [Act.put, List.setIfInBounds_toArray, List.set_cons_zero, List.set_cons_succ]
  refine wpAnyX_one (i := 5) (o := { dst := some 13, op := Go.Op.call { callee := Go.Callee.value (Go.Operand.func 72), args := #[Go.Operand.tmp 9, Go.Operand.tmp 10, Go.Operand.tmp 12], argTypes := #[3, 83, 27] }, type := 34, pos := "reader.go:46", after := #[{ on := 1, ground := Go.Ground.data }, { on := 2, ground := Go.Ground.data }, { on := 4, ground := Go.Ground.data }, { on := 2, ground := Go.Ground.chain }], guard := none }) (by kernel_rfl) rfl (fun K hK => ?_)
  have HN := Try.numUI_any t.d 260 v _ W1 HM.out
  refine step_callP_g (by rfl) 72 _ _ rfl (fun _ _ => by kernel_rfl) #[.int .i64 t.d, v, .int .i64 260] (by simp [go_sem]) _ HN ?_
  clear HN
  rintro e w9 ⟨hw9, hq9⟩
  subst w9
  rcases hq9 with ⟨h, rfl⟩ | ⟨h, rfl⟩
  rotate_left
  · refine .inr ⟨_, rfl, ?_⟩
    rw [up_lt HI.out.1 5 (by decide) (by decide)] at h
    exact ⟨by trivial, HB.out, .inr ⟨260, rfl, rfl, by unfold okT; rw [h]; rfl⟩⟩
  rw [up_lt HI.out.1 5 (by decide) (by decide)] at h
  have HS1 : Hid (0 ≤ t.d ∧ t.d ≤ 5) := Lib.hid (by simpa using h)
  clear h HM
  have hwx : IntKind.u64.wrap t.d = t.d := by
    rw [IntKind.wrap_u64]
    have := HS1.out
    omega
  rw [hwx]
  clear hwx
  refine .inl ⟨_, rfl, ?_⟩
  refine hK.out _ _ (fun _ => ⟨HT.out, HR.out⟩) ?_
  clear hK K
  try simp only [Act.put, List.setIfInBounds_toArray, List.set_cons_zero, List.set_cons_succ]
  refine wpAnyN_take (i := 6) (oi := { dst := some 4, op := Go.Op.assign (Go.Operand.tmp 13), type := 34, pos := "reader.go:46", after := #[{ on := 5, ground := Go.Ground.data }, { on := 5, ground := Go.Ground.chain }, { on := 0, ground := Go.Ground.phase }, { on := 1, ground := Go.Ground.phase }, { on := 2, ground := Go.Ground.phase }, { on := 3, ground := Go.Ground.phase }, { on := 4, ground := Go.Ground.phase }, { on := 5, ground := Go.Ground.phase }], guard := none }) (v := .int .u64 t.d) rfl (by decide) (by kernel_rfl) (by kernel_rfl) (by kernel_rfl) (fun _ _ _ h => h) (Or.inl ⟨by rfl, ?_⟩) ⟨HT.out, HR.out⟩ ?_
  · intro W9 hS9
    obtain ⟨q0, q1⟩ := hS9
    go_simp
  try simp only [Act.put, List.setIfInBounds_toArray, List.set_cons_zero, List.set_cons_succ]
  refine wpAnyX_end (by kernel_rfl) ?_
  go_upto_region 3 with fail
  refine wp_region_X (fun W' => Rows8 W' w.heap.size 49 (tc t) ∧ Rows8 W' Br 110 #[.slice (some ⟨Bw, 0, none⟩) 40 40, .int .i64 260]) 9 (by kernel_rfl) ?_
  have hC0 : Below W1.heap.size W1 W1.drew := (Below.refl _ _).drew
  have HT := Lib.hid (HT.out.below hC0 HT.out.lt)
  have HR := Lib.hid (HR.out.below hC0 HR.out.lt)
  have HW := Lib.hid (HW.out.below hC0 HW.out.lt)
  have HB := Lib.hid (HB.out.trans (hC0.mono HB.out.size))
  clear hC0
  generalize W1.drew = W2 at *
  refine wpAnyN_take (i := 0) (oi := { dst := some 14, op := Go.Op.fieldAddr 49 (Go.Operand.tmp 1) 2, type := 0, pos := "reader.go:47", after := #[], guard := none }) (v := .pointer (some ⟨w.heap.size, 2, none⟩)) rfl (by decide) (by kernel_rfl) (by kernel_rfl) (by kernel_rfl) (fun _ _ _ h => h) (Or.inl ⟨by rfl, ?_⟩) ⟨HT.out, HR.out⟩ ?_
  · intro W9 hS9
    obtain ⟨q0, q1⟩ := hS9
    go_simp
  try simp only [Act.put, List.setIfInBounds_toArray, List.set_cons_zero, List.set_cons_succ]
  refine wpAnyN_take (i := 1) (oi := { dst := some 15, op := Go.Op.load 34 (Go.Operand.tmp 14), type := 34, pos := "reader.go:47", after := #[{ on := 0, ground := Go.Ground.data }], guard := none }) (v := .int .u64 (t.p : Nat)) rfl (by decide) (by kernel_rfl) (by kernel_rfl) (by kernel_rfl) (fun _ _ _ h => h) (Or.inl ⟨by rfl, ?_⟩) ⟨HT.out, HR.out⟩ ?_
  · intro W9 hS9
    obtain ⟨q0, q1⟩ := hS9
    have s0 : W9.cell? ⟨w.heap.size, 2, none⟩ = some (.int .u64 (t.p : Nat)) := (q0.cell 2).trans (tc_2 t)
    clear q0 q1
    go_simp
  try simp only [Act.put, List.setIfInBounds_toArray, List.set_cons_zero, List.set_cons_succ]
  refine wpAnyN_take (i := 2) (oi := { dst := some 16, op := Go.Op.fieldAddr 49 (Go.Operand.tmp 1) 1, type := 0, pos := "reader.go:47", after := #[], guard := none }) (v := .pointer (some ⟨w.heap.size, 1, none⟩)) rfl (by decide) (by kernel_rfl) (by kernel_rfl) (by kernel_rfl) (fun _ _ _ h => h) (Or.inl ⟨by rfl, ?_⟩) ⟨HT.out, HR.out⟩ ?_
  · intro W9 hS9
    obtain ⟨q0, q1⟩ := hS9
    go_simp
  try simp only [Act.put, List.setIfInBounds_toArray, List.set_cons_zero, List.set_cons_succ]
  refine wpAnyN_take (i := 3) (oi := { dst := some 17, op := Go.Op.load 3 (Go.Operand.tmp 16), type := 3, pos := "reader.go:47", after := #[{ on := 2, ground := Go.Ground.data }], guard := none }) (v := .int .i64 t.d) rfl (by decide) (by kernel_rfl) (by kernel_rfl) (by kernel_rfl) (fun _ _ _ h => h) (Or.inl ⟨by rfl, ?_⟩) ⟨HT.out, HR.out⟩ ?_
  · intro W9 hS9
    obtain ⟨q0, q1⟩ := hS9
    have s0 : W9.cell? ⟨w.heap.size, 1, none⟩ = some (.int .i64 t.d) := (q0.cell 1).trans (tc_1 t)
    clear q0 q1
    go_simp
  try simp only [Act.put, List.setIfInBounds_toArray, List.set_cons_zero, List.set_cons_succ]
  refine wpAnyN_take (i := 5) (oi := { dst := some 19, op := Go.Op.fieldAddr 110 (Go.Operand.tmp 3) 1, type := 0, pos := "reader.go:47", after := #[], guard := none }) (v := .pointer (some ⟨Br, 1, none⟩)) rfl (by decide) (by kernel_rfl) (by kernel_rfl) (by kernel_rfl) (fun _ _ _ h => h) (Or.inl ⟨by rfl, ?_⟩) ⟨HT.out, HR.out⟩ ?_
  · intro W9 hS9
    obtain ⟨q0, q1⟩ := hS9
    go_simp
  try simp only [Act.put, List.setIfInBounds_toArray, List.set_cons_zero, List.set_cons_succ]
  refine wpAnyN_take (i := 6) (oi := { dst := some 20, op := Go.Op.load 27 (Go.Operand.tmp 19), type := 27, pos := "reader.go:47", after := #[{ on := 5, ground := Go.Ground.data }], guard := none }) (v := .int .i64 260) rfl (by decide) (by kernel_rfl) (by kernel_rfl) (by kernel_rfl) (fun _ _ _ h => h) (Or.inl ⟨by rfl, ?_⟩) ⟨HT.out, HR.out⟩ ?_
  · intro W9 hS9
    obtain ⟨q0, q1⟩ := hS9
    have r1 : W9.cell? ⟨Br, 1, none⟩ = some (.int .i64 260) := q1.cell 1
    clear q0 q1
    go_simp
  try simp only [Act.put, List.setIfInBounds_toArray, List.set_cons_zero, List.set_cons_succ]
  refine wpAnyX_one (i := 4) (o := { dst := some 18, op := Go.Op.call { callee := Go.Callee.value (Go.Operand.func 78), args := #[Go.Operand.tmp 17], argTypes := #[3] }, type := 83, pos := "reader.go:47", after := #[{ on := 3, ground := Go.Ground.data }], guard := none }) (by kernel_rfl) rfl (fun K hK => ?_)
  have HN := Try.prefixOf_any t.d.toNat (by have := HS1.out; omega) W2
  rw [show ((t.d.toNat : Nat) : Int) = t.d from Int.toNat_of_nonneg HS1.out.1] at HN
  refine step_call_g (by rfl) 78 _ _ rfl (fun _ _ => by kernel_rfl) #[.int .i64 t.d] (by simp [go_sem]) _ HN ?_
  rintro e W3 ⟨v, rfl, hm, hC⟩
  have HM := Lib.hid hm
  have HT := Lib.hid (HT.out.below hC HT.out.lt)
  have HR := Lib.hid (HR.out.below hC HR.out.lt)
  have HW := Lib.hid (HW.out.below hC HW.out.lt)
  have HB := Lib.hid (HB.out.trans (hC.mono HB.out.size))
  clear hC HN hm
  refine ⟨_, rfl, ?_⟩
  refine hK.out _ _ (fun _ => ⟨HT.out, HR.out⟩) ?_
  clear hK K
  try simp only [Act.put, List.setIfInBounds_toArray, List.set_cons_zero, List.set_cons_succ]
  refine wpAnyX_one (i := 7) (o := { dst := some 21, op := Go.Op.call { callee := Go.Callee.value (Go.Operand.func 73), args := #[Go.Operand.tmp 15, Go.Operand.tmp 18, Go.Operand.tmp 20], argTypes := #[34, 83, 27] }, type := 34, pos := "reader.go:47", after := #[{ on := 1, ground := Go.Ground.data }, { on := 4, ground := Go.Ground.data }, { on := 6, ground := Go.Ground.data }, { on := 4, ground := Go.Ground.chain }], guard := none }) (by kernel_rfl) rfl (fun K hK => ?_)
  have HN := Try.numUU_any (t.p : Nat) 260 v _ W3 HM.out
  refine step_callP_g (by rfl) 73 _ _ rfl (fun _ _ => by kernel_rfl) #[.int .u64 (t.p : Nat), v, .int .i64 260] (by simp [go_sem]) _ HN ?_
  clear HN
  rintro e w9 ⟨hw9, hq9⟩
  subst w9
  rcases hq9 with ⟨h, rfl⟩ | ⟨h, rfl⟩
  rotate_left
  · refine .inr ⟨_, rfl, ?_⟩
    rw [up_pre] at h
    exact ⟨by trivial, HB.out, .inr ⟨260, rfl, rfl, by unfold okT; rw [decide_eq_true HS1.out.1, decide_eq_true HS1.out.2, h]; rfl⟩⟩
  rw [up_pre] at h
  have HS2 := Lib.hid (of_decide_eq_true h)
  clear h HM
  refine .inl ⟨_, rfl, ?_⟩
  refine hK.out _ _ (fun _ => ⟨HT.out, HR.out⟩) ?_
  clear hK K
  try simp only [Act.put, List.setIfInBounds_toArray, List.set_cons_zero, List.set_cons_succ]
  refine wpAnyN_take (i := 8) (oi := { dst := some 5, op := Go.Op.assign (Go.Operand.tmp 21), type := 34, pos := "reader.go:47", after := #[{ on := 7, ground := Go.Ground.data }, { on := 7, ground := Go.Ground.chain }, { on := 0, ground := Go.Ground.phase }, { on := 1, ground := Go.Ground.phase }, { on := 2, ground := Go.Ground.phase }, { on := 3, ground := Go.Ground.phase }, { on := 4, ground := Go.Ground.phase }, { on := 5, ground := Go.Ground.phase }, { on := 6, ground := Go.Ground.phase }, { on := 7, ground := Go.Ground.phase }], guard := none }) (v := .int .u64 (t.p : Nat)) rfl (by decide) (by kernel_rfl) (by kernel_rfl) (by kernel_rfl) (fun _ _ _ h => h) (Or.inl ⟨by rfl, ?_⟩) ⟨HT.out, HR.out⟩ ?_
  · intro W9 hS9
    obtain ⟨q0, q1⟩ := hS9
    go_simp
  try simp only [Act.put, List.setIfInBounds_toArray, List.set_cons_zero, List.set_cons_succ]
  refine wpAnyX_end (by kernel_rfl) ?_
  have c0 : W3.cell? ⟨w.heap.size, 0, none⟩ = some (.int .u64 t.c) := (HT.out.cell 0).trans (tc_0 t)
  have d0 : W3.cell? ⟨Br, 0, none⟩ = some (.slice (some ⟨Bw, 0, none⟩) 40 40) := HR.out.cell 0
  have d1 : W3.cell? ⟨Br, 1, none⟩ = some (.int .i64 260) := HR.out.cell 1
  go_wp2_with fail
  obtain ⟨W4, hWn⟩ : ∃ W, W = W3.alloc (.cells #[.int .u64 (t.c)] 34) := ⟨_, rfl⟩
  have hC : Below W3.heap.size W3 W4 := by rw [hWn]; exact Rows8.newB
  have HT := Lib.hid (HT.out.below hC HT.out.lt)
  have HR := Lib.hid (HR.out.below hC HR.out.lt)
  have HW := Lib.hid (HW.out.below hC HW.out.lt)
  have HB := Lib.hid (HB.out.trans (hC.mono HB.out.size))
  clear hC
  have hone : WordsAt W4 (.slice (some ⟨W3.heap.size, 0, none⟩) 1 1) [t.c] := by rw [hWn]; exact one_word W3 _
  rw [← hWn]
  have HQ := Lib.hid (Try.put_any Bw _ 0 260 ⟨W3.heap.size, 0, none⟩ 1 1 [t.c] W4 HW.out HWL.out hone rfl (by decide) (by decide))
  clear hWn hone c0 d0 d1
  refine HQ.out.mono ?_
  rintro e W5 ⟨rfl, hw9, hC⟩
  have HW := Lib.hid hw9
  have HT := Lib.hid (show Rows8 W5 w.heap.size 49 (tc t) from (hC.block _ (HT.out.lt) (by have := HL.out; omega)).trans HT.out)
  have HR := Lib.hid (show Rows8 W5 Br 110 #[.slice (some ⟨Bw, 0, none⟩) 40 40, .int .i64 260] from (hC.block _ (HR.out.lt) (by have := HL.out; omega)).trans HR.out)
  have HB := Lib.hid (HB.out.trans (hC.below (h := W4.heap.size) HB.out.size (by have := HL.out; omega)))
  have HWL := Lib.hid (splice_len _ [t.c] 0 HWL.out (by simp))
  clear hC hw9
  clear HQ
  have hwp : IntKind.u64.wrap ((t.p : Int) * 256) = (t.p : Int) * 256 := by
    rw [IntKind.wrap_u64]
    have h1 := HS1.out
    have h2 := HS2.out
    have h3 : t.p < 32 := Nat.lt_of_lt_of_le h2 (Nat.pow_le_pow_right (by decide) (by omega : t.d.toNat ≤ 5))
    omega
  have hor := pre_or HS1.out HS2.out
  obtain ⟨dp, hdp⟩ : ∃ z, z = t.d + 256 * (t.p : Int) := ⟨_, rfl⟩
  have HDP := Lib.hid hdp
  rw [← hdp] at hor
  clear hdp
  have d0 : W5.cell? ⟨Br, 0, none⟩ = some (.slice (some ⟨Bw, 0, none⟩) 40 40) := HR.out.cell 0
  have d1 : W5.cell? ⟨Br, 1, none⟩ = some (.int .i64 260) := HR.out.cell 1
  go_wp2_with fail
  obtain ⟨W6, hWn⟩ : ∃ W, W = W5.alloc (.cells #[.int .u64 (dp)] 34) := ⟨_, rfl⟩
  have hC : Below W5.heap.size W5 W6 := by rw [hWn]; exact Rows8.newB
  have HT := Lib.hid (HT.out.below hC HT.out.lt)
  have HR := Lib.hid (HR.out.below hC HR.out.lt)
  have HW := Lib.hid (HW.out.below hC HW.out.lt)
  have HB := Lib.hid (HB.out.trans (hC.mono HB.out.size))
  clear hC
  have hone : WordsAt W6 (.slice (some ⟨W5.heap.size, 0, none⟩) 1 1) [dp] := by rw [hWn]; exact one_word W5 _
  rw [← hWn]
  have HQ := Lib.hid (Try.put_any Bw _ 1 260 ⟨W5.heap.size, 0, none⟩ 1 1 [dp] W6 HW.out HWL.out hone rfl (by decide) (by decide))
  clear hWn hone d0 d1 hwp hor
  refine HQ.out.mono ?_
  rintro e W7 ⟨rfl, hw9, hC⟩
  have HW := Lib.hid hw9
  have HT := Lib.hid (show Rows8 W7 w.heap.size 49 (tc t) from (hC.block _ (HT.out.lt) (by have := HL.out; omega)).trans HT.out)
  have HR := Lib.hid (show Rows8 W7 Br 110 #[.slice (some ⟨Bw, 0, none⟩) 40 40, .int .i64 260] from (hC.block _ (HR.out.lt) (by have := HL.out; omega)).trans HR.out)
  have HB := Lib.hid (HB.out.trans (hC.below (h := W6.heap.size) HB.out.size (by have := HL.out; omega)))
  have HWL := Lib.hid (splice_len _ [dp] 1 HWL.out (by simp))
  clear hC hw9
  clear HQ
  go_upto_region 6 with fail
  refine wp_region_X (fun W' => Rows8 W' w.heap.size 49 (tc t) ∧ Rows8 W' Br 110 #[.slice (some ⟨Bw, 0, none⟩) 40 40, .int .i64 260]) 9 (by kernel_rfl) ?_
  have hC0 : Below W7.heap.size W7 W7.drew := (Below.refl _ _).drew
  have HT := Lib.hid (HT.out.below hC0 HT.out.lt)
  have HR := Lib.hid (HR.out.below hC0 HR.out.lt)
  have HW := Lib.hid (HW.out.below hC0 HW.out.lt)
  have HB := Lib.hid (HB.out.trans (hC0.mono HB.out.size))
  clear hC0
  generalize W7.drew = W8 at *
  refine wpAnyN_take (i := 0) (oi := { dst := some 34, op := Go.Op.load 110 (Go.Operand.tmp 3), type := 110, pos := "reader.go:50", after := #[], guard := none }) (v := .agg #[.slice (some ⟨Bw, 0, none⟩) 40 40, .int .i64 260]) rfl (by decide) (by kernel_rfl) (by kernel_rfl) (by kernel_rfl) (fun _ _ _ h => h) (Or.inl ⟨by rfl, ?_⟩) ⟨HT.out, HR.out⟩ ?_
  · intro W9 hS9
    obtain ⟨q0, q1⟩ := hS9
    have r0 : W9.cell? ⟨Br, 0, none⟩ = some (.slice (some ⟨Bw, 0, none⟩) 40 40) := q1.cell 0
    have r1 : W9.cell? ⟨Br, 1, none⟩ = some (.int .i64 260) := q1.cell 1
    clear q0 q1
    go_simp
  try simp only [Act.put, List.setIfInBounds_toArray, List.set_cons_zero, List.set_cons_succ]
  refine wpAnyN_take (i := 1) (oi := { dst := some 35, op := Go.Op.fieldAddr 49 (Go.Operand.tmp 1) 3, type := 0, pos := "reader.go:50", after := #[], guard := none }) (v := .pointer (some ⟨w.heap.size, 3, none⟩)) rfl (by decide) (by kernel_rfl) (by kernel_rfl) (by kernel_rfl) (fun _ _ _ h => h) (Or.inl ⟨by rfl, ?_⟩) ⟨HT.out, HR.out⟩ ?_
  · intro W9 hS9
    obtain ⟨q0, q1⟩ := hS9
    go_simp
  try simp only [Act.put, List.setIfInBounds_toArray, List.set_cons_zero, List.set_cons_succ]
  refine wpAnyN_take (i := 2) (oi := { dst := some 36, op := Go.Op.load 3 (Go.Operand.tmp 35), type := 3, pos := "reader.go:50", after := #[{ on := 1, ground := Go.Ground.data }], guard := none }) (v := .int .i64 t.can) rfl (by decide) (by kernel_rfl) (by kernel_rfl) (by kernel_rfl) (fun _ _ _ h => h) (Or.inl ⟨by rfl, ?_⟩) ⟨HT.out, HR.out⟩ ?_
  · intro W9 hS9
    obtain ⟨q0, q1⟩ := hS9
    have s0 : W9.cell? ⟨w.heap.size, 3, none⟩ = some (.int .i64 t.can) := (q0.cell 3).trans (tc_3 t)
    clear q0 q1
    go_simp
  try simp only [Act.put, List.setIfInBounds_toArray, List.set_cons_zero, List.set_cons_succ]
  refine wpAnyN_take (i := 4) (oi := { dst := some 38, op := Go.Op.fieldAddr 110 (Go.Operand.tmp 3) 1, type := 0, pos := "reader.go:50", after := #[], guard := none }) (v := .pointer (some ⟨Br, 1, none⟩)) rfl (by decide) (by kernel_rfl) (by kernel_rfl) (by kernel_rfl) (fun _ _ _ h => h) (Or.inl ⟨by rfl, ?_⟩) ⟨HT.out, HR.out⟩ ?_
  · intro W9 hS9
    obtain ⟨q0, q1⟩ := hS9
    go_simp
  try simp only [Act.put, List.setIfInBounds_toArray, List.set_cons_zero, List.set_cons_succ]
  refine wpAnyN_take (i := 5) (oi := { dst := some 39, op := Go.Op.load 27 (Go.Operand.tmp 38), type := 27, pos := "reader.go:50", after := #[{ on := 4, ground := Go.Ground.data }], guard := none }) (v := .int .i64 260) rfl (by decide) (by kernel_rfl) (by kernel_rfl) (by kernel_rfl) (fun _ _ _ h => h) (Or.inl ⟨by rfl, ?_⟩) ⟨HT.out, HR.out⟩ ?_
  · intro W9 hS9
    obtain ⟨q0, q1⟩ := hS9
    have r1 : W9.cell? ⟨Br, 1, none⟩ = some (.int .i64 260) := q1.cell 1
    clear q0 q1
    go_simp
  try simp only [Act.put, List.setIfInBounds_toArray, List.set_cons_zero, List.set_cons_succ]
  refine wpAnyX_one (i := 3) (o := { dst := some 37, op := Go.Op.call { callee := Go.Callee.value (Go.Operand.func 41), args := #[Go.Operand.const (Go.Value.int Go.IntKind.u64 14)], argTypes := #[34] }, type := 83, pos := "reader.go:50", after := #[], guard := none }) (by kernel_rfl) rfl (fun K hK => ?_)
  have HN := Try.upTo_any 14 W8
  refine step_call_g (by rfl) 41 _ _ rfl (fun _ _ => by kernel_rfl) #[.int .u64 14] (by simp [go_sem]) _ HN ?_
  rintro e W10 ⟨v, rfl, hm, hC⟩
  have HM := Lib.hid hm
  have HT := Lib.hid (HT.out.below hC HT.out.lt)
  have HR := Lib.hid (HR.out.below hC HR.out.lt)
  have HW := Lib.hid (HW.out.below hC HW.out.lt)
  have HB := Lib.hid (HB.out.trans (hC.mono HB.out.size))
  clear hC HN hm
  refine ⟨_, rfl, ?_⟩
  refine hK.out _ _ (fun _ => ⟨HT.out, HR.out⟩) ?_
  clear hK K
  try simp only [Act.put, List.setIfInBounds_toArray, List.set_cons_zero, List.set_cons_succ]
  refine wpAnyX_one (i := 6) (o := { dst := some 40, op := Go.Op.call { callee := Go.Callee.value (Go.Operand.func 72), args := #[Go.Operand.tmp 36, Go.Operand.tmp 37, Go.Operand.tmp 39], argTypes := #[3, 83, 27] }, type := 34, pos := "reader.go:50", after := #[{ on := 2, ground := Go.Ground.data }, { on := 3, ground := Go.Ground.data }, { on := 5, ground := Go.Ground.data }, { on := 3, ground := Go.Ground.chain }], guard := none }) (by kernel_rfl) rfl (fun K hK => ?_)
  have HN := Try.numUI_any t.can 260 v _ W10 HM.out
  refine step_callP_g (by rfl) 72 _ _ rfl (fun _ _ => by kernel_rfl) #[.int .i64 t.can, v, .int .i64 260] (by simp [go_sem]) _ HN ?_
  clear HN
  rintro e w9 ⟨hw9, hq9⟩
  subst w9
  rcases hq9 with ⟨h, rfl⟩ | ⟨h, rfl⟩
  rotate_left
  · refine .inr ⟨_, rfl, ?_⟩
    rw [up_lt HI.out.2.1 14 (by decide) (by decide)] at h
    exact ⟨by trivial, HB.out, .inr ⟨260, rfl, rfl, by unfold okT; rw [decide_eq_true HS1.out.1, decide_eq_true HS1.out.2, decide_eq_true HS2.out, h]; rfl⟩⟩
  rw [up_lt HI.out.2.1 14 (by decide) (by decide)] at h
  have HS_can : Hid (0 ≤ t.can ∧ t.can ≤ 14) := Lib.hid (by simpa using h)
  clear h HM
  have hwx : IntKind.u64.wrap t.can = t.can := by
    rw [IntKind.wrap_u64]
    have := HS_can.out
    omega
  rw [hwx]
  clear hwx
  refine .inl ⟨_, rfl, ?_⟩
  refine hK.out _ _ (fun _ => ⟨HT.out, HR.out⟩) ?_
  clear hK K
  try simp only [Act.put, List.setIfInBounds_toArray, List.set_cons_zero, List.set_cons_succ]
  obtain ⟨W11, hWn⟩ : ∃ W, W = W10.alloc (.cells #[.int .u64 (t.can)] 34) := ⟨_, rfl⟩
  have hC : Below W10.heap.size W10 W11 := by rw [hWn]; exact Rows8.newB
  have HT := Lib.hid (HT.out.below hC HT.out.lt)
  have HR := Lib.hid (HR.out.below hC HR.out.lt)
  have HW := Lib.hid (HW.out.below hC HW.out.lt)
  have HB := Lib.hid (HB.out.trans (hC.mono HB.out.size))
  clear hC
  have hone : WordsAt W11 (.slice (some ⟨W10.heap.size, 0, none⟩) 1 1) [t.can] := by rw [hWn]; exact one_word W10 _
  refine wpAnyX_one (i := 7) (o := { dst := some 41, op := Go.Op.buildSlice 24 1 #[(0, Go.Operand.tmp 40)], type := 24, pos := "reader.go:50", after := #[{ on := 6, ground := Go.Ground.data }], guard := none }) (by kernel_rfl) rfl (fun K hK => ?_)
  refine step_value_g (by rfl) (.slice (some ⟨W10.heap.size, 0, none⟩) 1 1) (w' := W11) (by rw [hWn]; go_simp) ?_
  clear hWn
  refine hK.out _ _ (fun _ => ⟨HT.out, HR.out⟩) ?_
  clear hK K
  try simp only [Act.put, List.setIfInBounds_toArray, List.set_cons_zero, List.set_cons_succ]
  refine wpAnyX_one (i := 8) (o := { dst := some 42, op := Go.Op.call { callee := Go.Callee.value (Go.Operand.func 79), args := #[Go.Operand.tmp 34, Go.Operand.const (Go.Value.int Go.IntKind.i64 2), Go.Operand.tmp 41], argTypes := #[110, 3, 24] }, type := 0, pos := "reader.go:50", after := #[{ on := 0, ground := Go.Ground.data }, { on := 7, ground := Go.Ground.data }, { on := 6, ground := Go.Ground.chain }], guard := none }) (by kernel_rfl) rfl (fun K hK => ?_)
  have HN := Try.put_any Bw _ 2 260 ⟨W10.heap.size, 0, none⟩ 1 1 [t.can] W11 HW.out HWL.out hone rfl (by decide) (by decide)
  refine step_call_g (by rfl) 79 _ _ rfl (fun _ _ => by kernel_rfl) #[.agg #[.slice (some ⟨Bw, 0, none⟩) 40 40, .int .i64 260], .int .i64 2, .slice (some ⟨W10.heap.size, 0, none⟩) 1 1] (by simp [go_sem]) _ HN ?_
  clear HN hone
  rintro e W12 ⟨rfl, hw9, hC⟩
  have HW := Lib.hid hw9
  have HT := Lib.hid (show Rows8 W12 w.heap.size 49 (tc t) from (hC.block _ (HT.out.lt) (by have := HL.out; omega)).trans HT.out)
  have HR := Lib.hid (show Rows8 W12 Br 110 #[.slice (some ⟨Bw, 0, none⟩) 40 40, .int .i64 260] from (hC.block _ (HR.out.lt) (by have := HL.out; omega)).trans HR.out)
  have HB := Lib.hid (HB.out.trans (hC.below (h := W11.heap.size) HB.out.size (by have := HL.out; omega)))
  have HWL := Lib.hid (splice_len _ [t.can] 2 HWL.out (by simp))
  clear hC hw9
  refine ⟨_, rfl, ?_⟩
  refine hK.out _ _ (fun _ => ⟨HT.out, HR.out⟩) ?_
  clear hK K
  try simp only [Act.put, List.setIfInBounds_toArray, List.set_cons_zero, List.set_cons_succ]
  refine wpAnyX_end (by kernel_rfl) ?_
  go_upto_region 7 with fail
  refine wp_region_X (fun W' => Rows8 W' w.heap.size 49 (tc t) ∧ Rows8 W' Br 110 #[.slice (some ⟨Bw, 0, none⟩) 40 40, .int .i64 260]) 9 (by kernel_rfl) ?_
  have hC0 : Below W12.heap.size W12 W12.drew := (Below.refl _ _).drew
  have HT := Lib.hid (HT.out.below hC0 HT.out.lt)
  have HR := Lib.hid (HR.out.below hC0 HR.out.lt)
  have HW := Lib.hid (HW.out.below hC0 HW.out.lt)
  have HB := Lib.hid (HB.out.trans (hC0.mono HB.out.size))
  clear hC0
  generalize W12.drew = W13 at *
  refine wpAnyN_take (i := 0) (oi := { dst := some 43, op := Go.Op.load 110 (Go.Operand.tmp 3), type := 110, pos := "reader.go:51", after := #[], guard := none }) (v := .agg #[.slice (some ⟨Bw, 0, none⟩) 40 40, .int .i64 260]) rfl (by decide) (by kernel_rfl) (by kernel_rfl) (by kernel_rfl) (fun _ _ _ h => h) (Or.inl ⟨by rfl, ?_⟩) ⟨HT.out, HR.out⟩ ?_
  · intro W9 hS9
    obtain ⟨q0, q1⟩ := hS9
    have r0 : W9.cell? ⟨Br, 0, none⟩ = some (.slice (some ⟨Bw, 0, none⟩) 40 40) := q1.cell 0
    have r1 : W9.cell? ⟨Br, 1, none⟩ = some (.int .i64 260) := q1.cell 1
    clear q0 q1
    go_simp
  try simp only [Act.put, List.setIfInBounds_toArray, List.set_cons_zero, List.set_cons_succ]
  refine wpAnyN_take (i := 1) (oi := { dst := some 44, op := Go.Op.fieldAddr 49 (Go.Operand.tmp 1) 4, type := 0, pos := "reader.go:51", after := #[], guard := none }) (v := .pointer (some ⟨w.heap.size, 4, none⟩)) rfl (by decide) (by kernel_rfl) (by kernel_rfl) (by kernel_rfl) (fun _ _ _ h => h) (Or.inl ⟨by rfl, ?_⟩) ⟨HT.out, HR.out⟩ ?_
  · intro W9 hS9
    obtain ⟨q0, q1⟩ := hS9
    go_simp
  try simp only [Act.put, List.setIfInBounds_toArray, List.set_cons_zero, List.set_cons_succ]
  refine wpAnyN_take (i := 2) (oi := { dst := some 45, op := Go.Op.load 3 (Go.Operand.tmp 44), type := 3, pos := "reader.go:51", after := #[{ on := 1, ground := Go.Ground.data }], guard := none }) (v := .int .i64 t.live) rfl (by decide) (by kernel_rfl) (by kernel_rfl) (by kernel_rfl) (fun _ _ _ h => h) (Or.inl ⟨by rfl, ?_⟩) ⟨HT.out, HR.out⟩ ?_
  · intro W9 hS9
    obtain ⟨q0, q1⟩ := hS9
    have s0 : W9.cell? ⟨w.heap.size, 4, none⟩ = some (.int .i64 t.live) := (q0.cell 4).trans (tc_4 t)
    clear q0 q1
    go_simp
  try simp only [Act.put, List.setIfInBounds_toArray, List.set_cons_zero, List.set_cons_succ]
  refine wpAnyN_take (i := 4) (oi := { dst := some 47, op := Go.Op.fieldAddr 110 (Go.Operand.tmp 3) 1, type := 0, pos := "reader.go:51", after := #[], guard := none }) (v := .pointer (some ⟨Br, 1, none⟩)) rfl (by decide) (by kernel_rfl) (by kernel_rfl) (by kernel_rfl) (fun _ _ _ h => h) (Or.inl ⟨by rfl, ?_⟩) ⟨HT.out, HR.out⟩ ?_
  · intro W9 hS9
    obtain ⟨q0, q1⟩ := hS9
    go_simp
  try simp only [Act.put, List.setIfInBounds_toArray, List.set_cons_zero, List.set_cons_succ]
  refine wpAnyN_take (i := 5) (oi := { dst := some 48, op := Go.Op.load 27 (Go.Operand.tmp 47), type := 27, pos := "reader.go:51", after := #[{ on := 4, ground := Go.Ground.data }], guard := none }) (v := .int .i64 260) rfl (by decide) (by kernel_rfl) (by kernel_rfl) (by kernel_rfl) (fun _ _ _ h => h) (Or.inl ⟨by rfl, ?_⟩) ⟨HT.out, HR.out⟩ ?_
  · intro W9 hS9
    obtain ⟨q0, q1⟩ := hS9
    have r1 : W9.cell? ⟨Br, 1, none⟩ = some (.int .i64 260) := q1.cell 1
    clear q0 q1
    go_simp
  try simp only [Act.put, List.setIfInBounds_toArray, List.set_cons_zero, List.set_cons_succ]
  refine wpAnyX_one (i := 3) (o := { dst := some 46, op := Go.Op.call { callee := Go.Callee.value (Go.Operand.func 41), args := #[Go.Operand.const (Go.Value.int Go.IntKind.u64 14)], argTypes := #[34] }, type := 83, pos := "reader.go:51", after := #[], guard := none }) (by kernel_rfl) rfl (fun K hK => ?_)
  have HN := Try.upTo_any 14 W13
  refine step_call_g (by rfl) 41 _ _ rfl (fun _ _ => by kernel_rfl) #[.int .u64 14] (by simp [go_sem]) _ HN ?_
  rintro e W14 ⟨v, rfl, hm, hC⟩
  have HM := Lib.hid hm
  have HT := Lib.hid (HT.out.below hC HT.out.lt)
  have HR := Lib.hid (HR.out.below hC HR.out.lt)
  have HW := Lib.hid (HW.out.below hC HW.out.lt)
  have HB := Lib.hid (HB.out.trans (hC.mono HB.out.size))
  clear hC HN hm
  refine ⟨_, rfl, ?_⟩
  refine hK.out _ _ (fun _ => ⟨HT.out, HR.out⟩) ?_
  clear hK K
  try simp only [Act.put, List.setIfInBounds_toArray, List.set_cons_zero, List.set_cons_succ]
  refine wpAnyX_one (i := 6) (o := { dst := some 49, op := Go.Op.call { callee := Go.Callee.value (Go.Operand.func 72), args := #[Go.Operand.tmp 45, Go.Operand.tmp 46, Go.Operand.tmp 48], argTypes := #[3, 83, 27] }, type := 34, pos := "reader.go:51", after := #[{ on := 2, ground := Go.Ground.data }, { on := 3, ground := Go.Ground.data }, { on := 5, ground := Go.Ground.data }, { on := 3, ground := Go.Ground.chain }], guard := none }) (by kernel_rfl) rfl (fun K hK => ?_)
  have HN := Try.numUI_any t.live 260 v _ W14 HM.out
  refine step_callP_g (by rfl) 72 _ _ rfl (fun _ _ => by kernel_rfl) #[.int .i64 t.live, v, .int .i64 260] (by simp [go_sem]) _ HN ?_
  clear HN
  rintro e w9 ⟨hw9, hq9⟩
  subst w9
  rcases hq9 with ⟨h, rfl⟩ | ⟨h, rfl⟩
  rotate_left
  · refine .inr ⟨_, rfl, ?_⟩
    rw [up_lt HI.out.2.2 14 (by decide) (by decide)] at h
    exact ⟨by trivial, HB.out, .inr ⟨260, rfl, rfl, by unfold okT; rw [decide_eq_true HS1.out.1, decide_eq_true HS1.out.2, decide_eq_true HS2.out, decide_eq_true HS_can.out.1, decide_eq_true HS_can.out.2, h]; rfl⟩⟩
  rw [up_lt HI.out.2.2 14 (by decide) (by decide)] at h
  have HS_live : Hid (0 ≤ t.live ∧ t.live ≤ 14) := Lib.hid (by simpa using h)
  clear h HM
  have hwx : IntKind.u64.wrap t.live = t.live := by
    rw [IntKind.wrap_u64]
    have := HS_live.out
    omega
  rw [hwx]
  clear hwx
  refine .inl ⟨_, rfl, ?_⟩
  refine hK.out _ _ (fun _ => ⟨HT.out, HR.out⟩) ?_
  clear hK K
  try simp only [Act.put, List.setIfInBounds_toArray, List.set_cons_zero, List.set_cons_succ]
  obtain ⟨W15, hWn⟩ : ∃ W, W = W14.alloc (.cells #[.int .u64 (t.live)] 34) := ⟨_, rfl⟩
  have hC : Below W14.heap.size W14 W15 := by rw [hWn]; exact Rows8.newB
  have HT := Lib.hid (HT.out.below hC HT.out.lt)
  have HR := Lib.hid (HR.out.below hC HR.out.lt)
  have HW := Lib.hid (HW.out.below hC HW.out.lt)
  have HB := Lib.hid (HB.out.trans (hC.mono HB.out.size))
  clear hC
  have hone : WordsAt W15 (.slice (some ⟨W14.heap.size, 0, none⟩) 1 1) [t.live] := by rw [hWn]; exact one_word W14 _
  refine wpAnyX_one (i := 7) (o := { dst := some 50, op := Go.Op.buildSlice 24 1 #[(0, Go.Operand.tmp 49)], type := 24, pos := "reader.go:51", after := #[{ on := 6, ground := Go.Ground.data }], guard := none }) (by kernel_rfl) rfl (fun K hK => ?_)
  refine step_value_g (by rfl) (.slice (some ⟨W14.heap.size, 0, none⟩) 1 1) (w' := W15) (by rw [hWn]; go_simp) ?_
  clear hWn
  refine hK.out _ _ (fun _ => ⟨HT.out, HR.out⟩) ?_
  clear hK K
  try simp only [Act.put, List.setIfInBounds_toArray, List.set_cons_zero, List.set_cons_succ]
  refine wpAnyX_one (i := 8) (o := { dst := some 51, op := Go.Op.call { callee := Go.Callee.value (Go.Operand.func 79), args := #[Go.Operand.tmp 43, Go.Operand.const (Go.Value.int Go.IntKind.i64 3), Go.Operand.tmp 50], argTypes := #[110, 3, 24] }, type := 0, pos := "reader.go:51", after := #[{ on := 0, ground := Go.Ground.data }, { on := 7, ground := Go.Ground.data }, { on := 6, ground := Go.Ground.chain }], guard := none }) (by kernel_rfl) rfl (fun K hK => ?_)
  have HN := Try.put_any Bw _ 3 260 ⟨W14.heap.size, 0, none⟩ 1 1 [t.live] W15 HW.out HWL.out hone rfl (by decide) (by decide)
  refine step_call_g (by rfl) 79 _ _ rfl (fun _ _ => by kernel_rfl) #[.agg #[.slice (some ⟨Bw, 0, none⟩) 40 40, .int .i64 260], .int .i64 3, .slice (some ⟨W14.heap.size, 0, none⟩) 1 1] (by simp [go_sem]) _ HN ?_
  clear HN hone
  rintro e W16 ⟨rfl, hw9, hC⟩
  have HW := Lib.hid hw9
  have HT := Lib.hid (show Rows8 W16 w.heap.size 49 (tc t) from (hC.block _ (HT.out.lt) (by have := HL.out; omega)).trans HT.out)
  have HR := Lib.hid (show Rows8 W16 Br 110 #[.slice (some ⟨Bw, 0, none⟩) 40 40, .int .i64 260] from (hC.block _ (HR.out.lt) (by have := HL.out; omega)).trans HR.out)
  have HB := Lib.hid (HB.out.trans (hC.below (h := W15.heap.size) HB.out.size (by have := HL.out; omega)))
  have HWL := Lib.hid (splice_len _ [t.live] 3 HWL.out (by simp))
  clear hC hw9
  refine ⟨_, rfl, ?_⟩
  refine hK.out _ _ (fun _ => ⟨HT.out, HR.out⟩) ?_
  clear hK K
  try simp only [Act.put, List.setIfInBounds_toArray, List.set_cons_zero, List.set_cons_succ]
  refine wpAnyX_end (by kernel_rfl) ?_
  go_upto_region 8 with fail
  refine wp_region_X (fun W' => Rows8 W' w.heap.size 49 (tc t) ∧ Rows8 W' Br 110 #[.slice (some ⟨Bw, 0, none⟩) 40 40, .int .i64 260]) 4 (by kernel_rfl) ?_
  have hC0 : Below W16.heap.size W16 W16.drew := (Below.refl _ _).drew
  have HT := Lib.hid (HT.out.below hC0 HT.out.lt)
  have HR := Lib.hid (HR.out.below hC0 HR.out.lt)
  have HW := Lib.hid (HW.out.below hC0 HW.out.lt)
  have HB := Lib.hid (HB.out.trans (hC0.mono HB.out.size))
  clear hC0
  generalize W16.drew = W17 at *
  refine wpAnyN_take (i := 0) (oi := { dst := some 52, op := Go.Op.load 110 (Go.Operand.tmp 3), type := 110, pos := "reader.go:52", after := #[], guard := none }) (v := .agg #[.slice (some ⟨Bw, 0, none⟩) 40 40, .int .i64 260]) rfl (by decide) (by kernel_rfl) (by kernel_rfl) (by kernel_rfl) (fun _ _ _ h => h) (Or.inl ⟨by rfl, ?_⟩) ⟨HT.out, HR.out⟩ ?_
  · intro W9 hS9
    obtain ⟨q0, q1⟩ := hS9
    have r0 : W9.cell? ⟨Br, 0, none⟩ = some (.slice (some ⟨Bw, 0, none⟩) 40 40) := q1.cell 0
    have r1 : W9.cell? ⟨Br, 1, none⟩ = some (.int .i64 260) := q1.cell 1
    clear q0 q1
    go_simp
  try simp only [Act.put, List.setIfInBounds_toArray, List.set_cons_zero, List.set_cons_succ]
  refine wpAnyN_take (i := 1) (oi := { dst := some 53, op := Go.Op.fieldAddr 49 (Go.Operand.tmp 1) 5, type := 0, pos := "reader.go:52", after := #[], guard := none }) (v := .pointer (some ⟨w.heap.size, 5, none⟩)) rfl (by decide) (by kernel_rfl) (by kernel_rfl) (by kernel_rfl) (fun _ _ _ h => h) (Or.inl ⟨by rfl, ?_⟩) ⟨HT.out, HR.out⟩ ?_
  · intro W9 hS9
    obtain ⟨q0, q1⟩ := hS9
    go_simp
  try simp only [Act.put, List.setIfInBounds_toArray, List.set_cons_zero, List.set_cons_succ]
  refine wpAnyN_take (i := 2) (oi := { dst := some 54, op := Go.Op.slice 46 (Go.Operand.tmp 53) none none none, type := 24, pos := "reader.go:52", after := #[{ on := 1, ground := Go.Ground.data }], guard := none }) (v := .slice (some ⟨w.heap.size, 5, none⟩) 2 2) rfl (by decide) (by kernel_rfl) (by kernel_rfl) (by kernel_rfl) (fun _ _ _ h => h) (Or.inl ⟨by rfl, ?_⟩) ⟨HT.out, HR.out⟩ ?_
  · intro W9 hS9
    obtain ⟨q0, q1⟩ := hS9
    clear q0 q1
    go_simp
  try simp only [Act.put, List.setIfInBounds_toArray, List.set_cons_zero, List.set_cons_succ]
  refine wpAnyX_one (i := 3) (o := { dst := some 55, op := Go.Op.call { callee := Go.Callee.value (Go.Operand.func 79), args := #[Go.Operand.tmp 52, Go.Operand.const (Go.Value.int Go.IntKind.i64 4), Go.Operand.tmp 54], argTypes := #[110, 3, 24] }, type := 0, pos := "reader.go:52", after := #[{ on := 0, ground := Go.Ground.data }, { on := 2, ground := Go.Ground.data }], guard := none }) (by kernel_rfl) rfl (fun K hK => ?_)
  have HN := Try.put_any Bw _ 4 260 ⟨w.heap.size, 5 + 0, none⟩ 2 2 ((t.ws.drop 0).take 2) W17 HW.out HWL.out (tab_words HT.out HLW.out 0 2 (by decide)) (by simp [HLW.out]) (by decide) (by decide)
  refine step_call_g (by rfl) 79 _ _ rfl (fun _ _ => by kernel_rfl) #[.agg #[.slice (some ⟨Bw, 0, none⟩) 40 40, .int .i64 260], .int .i64 4, .slice (some ⟨w.heap.size, 5, none⟩) 2 2] (by simp [go_sem]) _ HN ?_
  clear HN
  rintro e W18 ⟨rfl, hw9, hC⟩
  have HW := Lib.hid hw9
  have HT := Lib.hid (show Rows8 W18 w.heap.size 49 (tc t) from (hC.block _ (HT.out.lt) (by have := HL.out; omega)).trans HT.out)
  have HR := Lib.hid (show Rows8 W18 Br 110 #[.slice (some ⟨Bw, 0, none⟩) 40 40, .int .i64 260] from (hC.block _ (HR.out.lt) (by have := HL.out; omega)).trans HR.out)
  have HB := Lib.hid (HB.out.trans (hC.below (h := W17.heap.size) HB.out.size (by have := HL.out; omega)))
  have HWL := Lib.hid (splice_len _ ((t.ws.drop 0).take 2) 4 HWL.out (by simp [HLW.out]))
  clear hC hw9
  refine ⟨_, rfl, ?_⟩
  refine hK.out _ _ (fun _ => ⟨HT.out, HR.out⟩) ?_
  clear hK K
  try simp only [Act.put, List.setIfInBounds_toArray, List.set_cons_zero, List.set_cons_succ]
  refine wpAnyX_end (by kernel_rfl) ?_
  go_upto_region 9 with fail
  refine wp_region_X (fun W' => Rows8 W' w.heap.size 49 (tc t) ∧ Rows8 W' Br 110 #[.slice (some ⟨Bw, 0, none⟩) 40 40, .int .i64 260]) 4 (by kernel_rfl) ?_
  have hC0 : Below W18.heap.size W18 W18.drew := (Below.refl _ _).drew
  have HT := Lib.hid (HT.out.below hC0 HT.out.lt)
  have HR := Lib.hid (HR.out.below hC0 HR.out.lt)
  have HW := Lib.hid (HW.out.below hC0 HW.out.lt)
  have HB := Lib.hid (HB.out.trans (hC0.mono HB.out.size))
  clear hC0
  generalize W18.drew = W19 at *
  refine wpAnyN_take (i := 0) (oi := { dst := some 56, op := Go.Op.load 110 (Go.Operand.tmp 3), type := 110, pos := "reader.go:53", after := #[], guard := none }) (v := .agg #[.slice (some ⟨Bw, 0, none⟩) 40 40, .int .i64 260]) rfl (by decide) (by kernel_rfl) (by kernel_rfl) (by kernel_rfl) (fun _ _ _ h => h) (Or.inl ⟨by rfl, ?_⟩) ⟨HT.out, HR.out⟩ ?_
  · intro W9 hS9
    obtain ⟨q0, q1⟩ := hS9
    have r0 : W9.cell? ⟨Br, 0, none⟩ = some (.slice (some ⟨Bw, 0, none⟩) 40 40) := q1.cell 0
    have r1 : W9.cell? ⟨Br, 1, none⟩ = some (.int .i64 260) := q1.cell 1
    clear q0 q1
    go_simp
  try simp only [Act.put, List.setIfInBounds_toArray, List.set_cons_zero, List.set_cons_succ]
  refine wpAnyN_take (i := 1) (oi := { dst := some 57, op := Go.Op.fieldAddr 49 (Go.Operand.tmp 1) 6, type := 0, pos := "reader.go:53", after := #[], guard := none }) (v := .pointer (some ⟨w.heap.size, 7, none⟩)) rfl (by decide) (by kernel_rfl) (by kernel_rfl) (by kernel_rfl) (fun _ _ _ h => h) (Or.inl ⟨by rfl, ?_⟩) ⟨HT.out, HR.out⟩ ?_
  · intro W9 hS9
    obtain ⟨q0, q1⟩ := hS9
    go_simp
  try simp only [Act.put, List.setIfInBounds_toArray, List.set_cons_zero, List.set_cons_succ]
  refine wpAnyN_take (i := 2) (oi := { dst := some 58, op := Go.Op.slice 47 (Go.Operand.tmp 57) none none none, type := 24, pos := "reader.go:53", after := #[{ on := 1, ground := Go.Ground.data }], guard := none }) (v := .slice (some ⟨w.heap.size, 7, none⟩) 16 16) rfl (by decide) (by kernel_rfl) (by kernel_rfl) (by kernel_rfl) (fun _ _ _ h => h) (Or.inl ⟨by rfl, ?_⟩) ⟨HT.out, HR.out⟩ ?_
  · intro W9 hS9
    obtain ⟨q0, q1⟩ := hS9
    clear q0 q1
    go_simp
  try simp only [Act.put, List.setIfInBounds_toArray, List.set_cons_zero, List.set_cons_succ]
  refine wpAnyX_one (i := 3) (o := { dst := some 59, op := Go.Op.call { callee := Go.Callee.value (Go.Operand.func 79), args := #[Go.Operand.tmp 56, Go.Operand.const (Go.Value.int Go.IntKind.i64 6), Go.Operand.tmp 58], argTypes := #[110, 3, 24] }, type := 0, pos := "reader.go:53", after := #[{ on := 0, ground := Go.Ground.data }, { on := 2, ground := Go.Ground.data }], guard := none }) (by kernel_rfl) rfl (fun K hK => ?_)
  have HN := Try.put_any Bw _ 6 260 ⟨w.heap.size, 5 + 2, none⟩ 16 16 ((t.ws.drop 2).take 16) W19 HW.out HWL.out (tab_words HT.out HLW.out 2 16 (by decide)) (by simp [HLW.out]) (by decide) (by decide)
  refine step_call_g (by rfl) 79 _ _ rfl (fun _ _ => by kernel_rfl) #[.agg #[.slice (some ⟨Bw, 0, none⟩) 40 40, .int .i64 260], .int .i64 6, .slice (some ⟨w.heap.size, 7, none⟩) 16 16] (by simp [go_sem]) _ HN ?_
  clear HN
  rintro e W20 ⟨rfl, hw9, hC⟩
  have HW := Lib.hid hw9
  have HT := Lib.hid (show Rows8 W20 w.heap.size 49 (tc t) from (hC.block _ (HT.out.lt) (by have := HL.out; omega)).trans HT.out)
  have HR := Lib.hid (show Rows8 W20 Br 110 #[.slice (some ⟨Bw, 0, none⟩) 40 40, .int .i64 260] from (hC.block _ (HR.out.lt) (by have := HL.out; omega)).trans HR.out)
  have HB := Lib.hid (HB.out.trans (hC.below (h := W19.heap.size) HB.out.size (by have := HL.out; omega)))
  have HWL := Lib.hid (splice_len _ ((t.ws.drop 2).take 16) 6 HWL.out (by simp [HLW.out]))
  clear hC hw9
  refine ⟨_, rfl, ?_⟩
  refine hK.out _ _ (fun _ => ⟨HT.out, HR.out⟩) ?_
  clear hK K
  try simp only [Act.put, List.setIfInBounds_toArray, List.set_cons_zero, List.set_cons_succ]
  refine wpAnyX_end (by kernel_rfl) ?_
  go_upto_region 10 with fail
  refine wp_region_X (fun W' => Rows8 W' w.heap.size 49 (tc t) ∧ Rows8 W' Br 110 #[.slice (some ⟨Bw, 0, none⟩) 40 40, .int .i64 260]) 4 (by kernel_rfl) ?_
  have hC0 : Below W20.heap.size W20 W20.drew := (Below.refl _ _).drew
  have HT := Lib.hid (HT.out.below hC0 HT.out.lt)
  have HR := Lib.hid (HR.out.below hC0 HR.out.lt)
  have HW := Lib.hid (HW.out.below hC0 HW.out.lt)
  have HB := Lib.hid (HB.out.trans (hC0.mono HB.out.size))
  clear hC0
  generalize W20.drew = W21 at *
  refine wpAnyN_take (i := 0) (oi := { dst := some 60, op := Go.Op.load 110 (Go.Operand.tmp 3), type := 110, pos := "reader.go:54", after := #[], guard := none }) (v := .agg #[.slice (some ⟨Bw, 0, none⟩) 40 40, .int .i64 260]) rfl (by decide) (by kernel_rfl) (by kernel_rfl) (by kernel_rfl) (fun _ _ _ h => h) (Or.inl ⟨by rfl, ?_⟩) ⟨HT.out, HR.out⟩ ?_
  · intro W9 hS9
    obtain ⟨q0, q1⟩ := hS9
    have r0 : W9.cell? ⟨Br, 0, none⟩ = some (.slice (some ⟨Bw, 0, none⟩) 40 40) := q1.cell 0
    have r1 : W9.cell? ⟨Br, 1, none⟩ = some (.int .i64 260) := q1.cell 1
    clear q0 q1
    go_simp
  try simp only [Act.put, List.setIfInBounds_toArray, List.set_cons_zero, List.set_cons_succ]
  refine wpAnyN_take (i := 1) (oi := { dst := some 61, op := Go.Op.fieldAddr 49 (Go.Operand.tmp 1) 7, type := 0, pos := "reader.go:54", after := #[], guard := none }) (v := .pointer (some ⟨w.heap.size, 23, none⟩)) rfl (by decide) (by kernel_rfl) (by kernel_rfl) (by kernel_rfl) (fun _ _ _ h => h) (Or.inl ⟨by rfl, ?_⟩) ⟨HT.out, HR.out⟩ ?_
  · intro W9 hS9
    obtain ⟨q0, q1⟩ := hS9
    go_simp
  try simp only [Act.put, List.setIfInBounds_toArray, List.set_cons_zero, List.set_cons_succ]
  refine wpAnyN_take (i := 2) (oi := { dst := some 62, op := Go.Op.slice 47 (Go.Operand.tmp 61) none none none, type := 24, pos := "reader.go:54", after := #[{ on := 1, ground := Go.Ground.data }], guard := none }) (v := .slice (some ⟨w.heap.size, 23, none⟩) 16 16) rfl (by decide) (by kernel_rfl) (by kernel_rfl) (by kernel_rfl) (fun _ _ _ h => h) (Or.inl ⟨by rfl, ?_⟩) ⟨HT.out, HR.out⟩ ?_
  · intro W9 hS9
    obtain ⟨q0, q1⟩ := hS9
    clear q0 q1
    go_simp
  try simp only [Act.put, List.setIfInBounds_toArray, List.set_cons_zero, List.set_cons_succ]
  refine wpAnyX_one (i := 3) (o := { dst := some 63, op := Go.Op.call { callee := Go.Callee.value (Go.Operand.func 79), args := #[Go.Operand.tmp 60, Go.Operand.const (Go.Value.int Go.IntKind.i64 22), Go.Operand.tmp 62], argTypes := #[110, 3, 24] }, type := 0, pos := "reader.go:54", after := #[{ on := 0, ground := Go.Ground.data }, { on := 2, ground := Go.Ground.data }], guard := none }) (by kernel_rfl) rfl (fun K hK => ?_)
  have HN := Try.put_any Bw _ 22 260 ⟨w.heap.size, 5 + 18, none⟩ 16 16 ((t.ws.drop 18).take 16) W21 HW.out HWL.out (tab_words HT.out HLW.out 18 16 (by decide)) (by simp [HLW.out]) (by decide) (by decide)
  refine step_call_g (by rfl) 79 _ _ rfl (fun _ _ => by kernel_rfl) #[.agg #[.slice (some ⟨Bw, 0, none⟩) 40 40, .int .i64 260], .int .i64 22, .slice (some ⟨w.heap.size, 23, none⟩) 16 16] (by simp [go_sem]) _ HN ?_
  clear HN
  rintro e W22 ⟨rfl, hw9, hC⟩
  have HW := Lib.hid hw9
  have HT := Lib.hid (show Rows8 W22 w.heap.size 49 (tc t) from (hC.block _ (HT.out.lt) (by have := HL.out; omega)).trans HT.out)
  have HR := Lib.hid (show Rows8 W22 Br 110 #[.slice (some ⟨Bw, 0, none⟩) 40 40, .int .i64 260] from (hC.block _ (HR.out.lt) (by have := HL.out; omega)).trans HR.out)
  have HB := Lib.hid (HB.out.trans (hC.below (h := W21.heap.size) HB.out.size (by have := HL.out; omega)))
  have HWL := Lib.hid (splice_len _ ((t.ws.drop 18).take 16) 22 HWL.out (by simp [HLW.out]))
  clear hC hw9
  refine ⟨_, rfl, ?_⟩
  refine hK.out _ _ (fun _ => ⟨HT.out, HR.out⟩) ?_
  clear hK K
  try simp only [Act.put, List.setIfInBounds_toArray, List.set_cons_zero, List.set_cons_succ]
  refine wpAnyX_end (by kernel_rfl) ?_
  have d0 : W22.cell? ⟨Br, 0, none⟩ = some (.slice (some ⟨Bw, 0, none⟩) 40 40) := HR.out.cell 0
  have d1 : W22.cell? ⟨Br, 1, none⟩ = some (.int .i64 260) := HR.out.cell 1
  go_wp2_with fail
  go_ret
  refine ⟨HB.out, .inl ⟨_, rfl, ⟨Bw, rfl, by have := HL.out; omega, ?_⟩, ?_⟩⟩
  · have h := HW.out
    rw [HDP.out, twords_put t HLW.out] at h
    exact h
  · unfold okT
    rw [decide_eq_true HS1.out.1, decide_eq_true HS1.out.2, decide_eq_true HS2.out, decide_eq_true HS_can.out.1, decide_eq_true HS_can.out.2, decide_eq_true HS_live.out.1, decide_eq_true HS_live.out.2]
    rfl
end Go.Proofs
