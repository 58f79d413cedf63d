import Derived.Test.YtkghlcoancfnfaaYj
import Derived.ProofKit
import Derived.ChangeAt
import Derived.JoinedAt
import Derived.LaidMore
import Derived.Lay
import Derived.ShutString
import Derived.ChangeOld
import Derived.Below
import Derived.Test.YtkghlcoancfnfaaRows

/- Monitor: wakes. -/
namespace Go.Proofs
set_option maxRecDepth 100000
open Go.RowKit Go.Shelf
attribute [local go_sem] Oper.semAt_some

theorem wk3_ok : okM wk3 ∧ ∀ l ∈ wk3.has, l.length ≤ 10 := okC_of (by decide +kernel)
theorem wk_hold : holdM wk1 (0, 0) = [0, 1] := by decide +kernel
theorem wk_safe : safeA wk1 (0, 0) = false := by decide +kernel
theorem wk_good1 : goodA wk1 ⟨4, 1, 0, 0⟩ = true := by decide +kernel
theorem wk_good2 : goodA wk3 ⟨5, 1, 0, 0⟩ = false := by decide +kernel
theorem wk_good3 : goodA wk3 ⟨4, 1, 0, 0⟩ = true := by decide +kernel
theorem lit_e0 (W : World) : PAt (W.alloc (.cells #[.int .i64 0, .int .u64 0] 38)) (.slice (some ⟨W.heap.size, 0, none⟩) 1 1) [(0, 0)] := by
  refine ⟨rfl, _, 1, rfl, Nat.le_refl _, by unfold maxLen; omega, (fun e => by cases e), fun j hj => ⟨W.heap.size, 0, rfl, by simp, ?_⟩⟩
  rw [Nat.zero_add, Rows8.cell (Rows8.new W _ _) j]
  simp [pVals, pCells]
theorem lit_e1 (W : World) : PAt (W.alloc (.cells #[.int .i64 0, .int .u64 1] 38)) (.slice (some ⟨W.heap.size, 0, none⟩) 1 1) [(0, 1)] := by
  refine ⟨rfl, _, 1, rfl, Nat.le_refl _, by unfold maxLen; omega, (fun e => by cases e), fun j hj => ⟨W.heap.size, 0, rfl, by simp, ?_⟩⟩
  rw [Nat.zero_add, Rows8.cell (Rows8.new W _ _) j]
  simp [pVals, pCells]
theorem lit_i2 (W : World) : IntsAt (W.alloc (.cells #[.int .i64 0, .int .i64 1] 3)) (.slice (some ⟨W.heap.size, 0, none⟩) 2 2) [0, 1] := by
  refine ⟨rfl, _, 2, rfl, Nat.le_refl _, by unfold maxLen; omega, (fun e => by cases e), fun j hj => ⟨W.heap.size, 0, rfl, by simp, ?_⟩⟩
  rw [Nat.zero_add, Rows8.cell (Rows8.new W _ _) j]
  simp [intVals]
theorem wAt_len2 {W : World} {a : Option Addr} {n c : Nat} (h : WAt W (.slice a n c) wk2.bad) : n = 1 := by
  obtain ⟨_, a', c', e, _⟩ := h
  cases e
  rfl
theorem ints2 {n₀ : Nat} {v : Value} {W : World} (h : OwnsInts n₀ [0, 1] v W) : ∃ a c, v = .slice a 2 c ∧ IntsAt W (.slice a 2 c) [0, 1] := by
  have h1 : IntsAt W v [0, 1] := rowAt_own h
  obtain ⟨_, a, c, e, _⟩ := id h1
  exact ⟨a, c, e, by rw [← show v = .slice a 2 c from e]; exact h1⟩
theorem Try.eqEnt_yes {a1 a2 : Option Addr} {c1 c2 : Nat} {xs : List Pr} {W : World} (h1 : PAt W (.slice a1 1 c1) xs) (h2 : PAt W (.slice a2 1 c2) xs) :
    Hid (Calls Try.prog 30 #[.slice a1 1 c1, .slice a2 1 c2] W fun e w' => e = .returned (.bool true) ∧ Below W.heap.size W w') := by
  have h := Try.equalEntry_any a1 a2 1 1 c1 c2 xs xs W h1 h2 (by omega) (by omega)
  rw [decide_eq_true (rfl : xs = xs)] at h
  exact Lib.hid h
theorem Try.eqInt_yes {a1 a2 : Option Addr} {c1 c2 : Nat} {W : World} (h1 : IntsAt W (.slice a1 2 c1) [0, 1]) (h2 : IntsAt W (.slice a2 2 c2) [0, 1]) :
    Hid (Calls Try.prog 18 #[.slice a1 2 c1, .slice a2 2 c2] W fun e w' => e = .returned (.bool true) ∧ Below W.heap.size W w') := by
  have h := Try.equalInts_any a1 a2 2 2 c1 c2 [0, 1] [0, 1] rfl rfl (by omega) (by omega) W h1 h2
  rw [decide_eq_true (rfl : ([0, 1] : List Int) = [0, 1])] at h
  exact Lib.hid h
theorem Try.hold_one {k0 : Nat} {y : Mv} {vs : List Value} (W : World) (h : OwnMon k0 y wk1 vs W) :
    Hid (Calls Try.prog 19 #[.agg #[.slice y.sa y.sn y.sc, .slice y.pa y.pn y.pc, .slice y.ha y.hn y.hc, .slice y.ba y.bn y.bc], .agg #[.int .i64 0, .int .u64 0]] W (IntsQ [0, 1] W)) := by
  have h1 := Try.Holders_any y wk1 (0, 0) W (h.at wk1_ok.1)
  rw [wk_hold] at h1
  exact Lib.hid h1
theorem Try.safe_one {k0 : Nat} {y : Mv} {vs : List Value} (W : World) (h : OwnMon k0 y wk1 vs W) :
    Hid (Calls Try.prog 17 #[.agg #[.slice y.sa y.sn y.sc, .slice y.pa y.pn y.pc, .slice y.ha y.hn y.hc, .slice y.ba y.bn y.bc], .agg #[.int .i64 0, .int .u64 0]] W fun e w' => e = .returned (.bool false) ∧ Below W.heap.size W w') := by
  have h1 := Try.Safe_any y wk1 (0, 0) W (h.at wk1_ok.1)
  rw [wk_safe] at h1
  exact Lib.hid h1
theorem Try.good_1 {k0 : Nat} {y : Mv} {vs : List Value} (W : World) (h : OwnMon k0 y wk1 vs W) :
    Hid (Calls Try.prog 16 #[.agg #[.slice y.sa y.sn y.sc, .slice y.pa y.pn y.pc, .slice y.ha y.hn y.hc, .slice y.ba y.bn y.bc], .agg #[.int .i64 4, .int .i64 1, .int .i64 0, .int .u64 0]] W fun e w' => e = .returned (.bool true) ∧ Below W.heap.size W w') := by
  have h1 := Try.Good_any y wk1 ⟨4, 1, 0, 0⟩ W (h.at wk1_ok.1)
  rw [wk_good1] at h1
  exact Lib.hid h1
theorem Try.good_2 {k0 : Nat} {y : Mv} {vs : List Value} (W : World) (h : OwnMon k0 y wk3 vs W) :
    Hid (Calls Try.prog 16 #[.agg #[.slice y.sa y.sn y.sc, .slice y.pa y.pn y.pc, .slice y.ha y.hn y.hc, .slice y.ba y.bn y.bc], .agg #[.int .i64 5, .int .i64 1, .int .i64 0, .int .u64 0]] W fun e w' => e = .returned (.bool false) ∧ Below W.heap.size W w') := by
  have h1 := Try.Good_any y wk3 ⟨5, 1, 0, 0⟩ W (h.at wk3_ok.1)
  rw [wk_good2] at h1
  exact Lib.hid h1
theorem Try.good_3 {k0 : Nat} {y : Mv} {vs : List Value} (W : World) (h : OwnMon k0 y wk3 vs W) :
    Hid (Calls Try.prog 16 #[.agg #[.slice y.sa y.sn y.sc, .slice y.pa y.pn y.pc, .slice y.ha y.hn y.hc, .slice y.ba y.bn y.bc], .agg #[.int .i64 4, .int .i64 1, .int .i64 0, .int .u64 0]] W fun e w' => e = .returned (.bool true) ∧ Below W.heap.size W w') := by
  have h1 := Try.Good_any y wk3 ⟨4, 1, 0, 0⟩ W (h.at wk3_ok.1)
  rw [wk_good3] at h1
  exact Lib.hid h1
set_option maxHeartbeats 64000000 in
theorem Try.wakesM_any (w : World) : Calls Try.prog 7 #[] w fun e w' => e = .returned (.bool true) ∧ Below w.heap.size w w' := by
  obtain ⟨u0, hu0⟩ : ∃ u, u = (w.alloc (.cells #[.int .i64 0, .int .u64 0] 38)).alloc (.cells #[.int .i64 0, .int .u64 0] 38) := ⟨_, rfl⟩
  have hB0 : Below w.heap.size w u0 := by rw [hu0]; exact (Rows8.newB).alloc (by simp) _
  have R1 := Lib.hid (show Rows8 u0 w.heap.size 38 #[.int .i64 0, .int .u64 0] by rw [hu0]; exact (Rows8.new _ _ _).alloc _)
  have R2 := Lib.hid (show Rows8 u0 (w.heap.size + 1) 38 #[.int .i64 0, .int .u64 0] by rw [hu0]; exact rows_new2 _ _ _ _)
  have HB := Lib.hid hB0
  have HN := Lib.hid (Try.NewM_any 2 2 u0)
  rw [wk_new] at HN
  have HWA := fun (k g : Int) (W : World) => Lib.hid (Try.lawWatch_any k g 0 0 W)
  clear hB0
  go_enter Try.func7, Try.ntmps7
  go_wp2_with fail
  rw [← hu0]
  clear hu0
  refine HN.out.mono ?_
  rintro e w1 ⟨y, vs, rfl, ho, hC⟩
  have hal : Below w1.heap.size w1 (w1.alloc (.cells #[.slice y.sa y.sn y.sc, .slice y.pa y.pn y.pc, .slice y.ha y.hn y.hc, .slice y.ba y.bn y.bc] 29)) := Rows8.newB
  obtain ⟨W2, hW2⟩ : ∃ W, W = w1.alloc (.cells #[.slice y.sa y.sn y.sc, .slice y.pa y.pn y.pc, .slice y.ha y.hn y.hc, .slice y.ba y.bn y.bc] 29) := ⟨_, rfl⟩
  have R3 := Lib.hid (show Rows8 W2 w1.heap.size 29 #[.slice y.sa y.sn y.sc, .slice y.pa y.pn y.pc, .slice y.ha y.hn y.hc, .slice y.ba y.bn y.bc] by rw [hW2]; exact Rows8.new _ _ _)
  rw [← hW2] at hal
  have R1' := Lib.hid ((R1.out.below hC R1.out.lt).below hal (R1.out.below hC R1.out.lt).lt)
  have R2' := Lib.hid ((R2.out.below hC R2.out.lt).below hal (R2.out.below hC R2.out.lt).lt)
  have HO := Lib.hid ((ho.below hal (Nat.le_refl _)).mono HB.out.size)
  have HB' := Lib.hid ((HB.out.trans (hC.mono HB.out.size)).trans (hal.mono (Nat.le_trans HB.out.size hC.size)))
  have HW2 := Lib.hid hW2
  obtain ⟨B3, hB3⟩ : ∃ b, b = w1.heap.size := ⟨_, rfl⟩
  rw [← hB3] at R3
  have H31 := Lib.hid (show w.heap.size + 1 < B3 by rw [hB3]; exact (R2.out.below hC R2.out.lt).lt)
  have HE3 := Lib.hid hB3
  clear R1 R2 HB ho hC hal HN hW2 hB3
  go_wp2_with fail
  rw [← HW2.out, ← HE3.out]
  refine wp_region_L (fun W' => Rows8 W' w.heap.size 38 #[.int .i64 0, .int .u64 0] ∧ Rows8 W' (w.heap.size + 1) 38 #[.int .i64 0, .int .u64 0] ∧ Rows8 W' B3 29 #[.slice y.sa y.sn y.sc, .slice y.pa y.pn y.pc, .slice y.ha y.hn y.hc, .slice y.ba y.bn y.bc]) 12 (by kernel_rfl) ?_
  have hS0 : Rows8 W2.drew w.heap.size 38 #[.int .i64 0, .int .u64 0] ∧ Rows8 W2.drew (w.heap.size + 1) 38 #[.int .i64 0, .int .u64 0] ∧ Rows8 W2.drew B3 29 #[.slice y.sa y.sn y.sc, .slice y.pa y.pn y.pc, .slice y.ha y.hn y.hc, .slice y.ba y.bn y.bc] := ⟨R1'.out.drewA, R2'.out.drewA, R3.out.drewA⟩
  have hB0 := HB'.out.drew
  have ho0 := HO.out.drew
  clear R1' R2' R3 HB' HO HW2 HE3
  generalize W2.drew = Wd at *
  refine wpAnyL_takeT (i := 0) (oi := { dst := some 26, op := Go.Op.load 29 (Go.Operand.tmp 3), type := 29, pos := "law.go:22", after := #[], guard := none }) (v := .agg #[.slice y.sa y.sn y.sc, .slice y.pa y.pn y.pc, .slice y.ha y.hn y.hc, .slice y.ba y.bn y.bc]) [10, 11, 12, 13, 14, 15, 16, 17] rfl (by kernel_rfl) (by kernel_rfl) (by kernel_rfl) (by kernel_rfl) (fun _ _ _ h => h) (Or.inl ⟨by rfl, ?_⟩) hS0 ?_
  · intro W9 hS9
    obtain ⟨q0, q1, q2⟩ := hS9
    have s0 : W9.cell? ⟨B3, 0, none⟩ = some (.slice y.sa y.sn y.sc) := q2.cell 0
    have s1 : W9.cell? ⟨B3, 1, none⟩ = some (.slice y.pa y.pn y.pc) := q2.cell 1
    have s2 : W9.cell? ⟨B3, 2, none⟩ = some (.slice y.ha y.hn y.hc) := q2.cell 2
    have s3 : W9.cell? ⟨B3, 3, none⟩ = some (.slice y.ba y.bn y.bc) := q2.cell 3
    clear q0 q1 q2
    go_simp
  try simp only [Act.put, List.setIfInBounds_toArray, List.set_cons_zero, List.set_cons_succ]
  refine wpAnyL_takeT (i := 1) (oi := { dst := some 27, op := Go.Op.load 38 (Go.Operand.tmp 2), type := 38, pos := "law.go:22", after := #[], guard := none }) (v := .agg #[.int .i64 0, .int .u64 0]) [2, 4, 6, 8, 9, 10, 11, 12, 13, 14, 15, 16, 17] rfl (by kernel_rfl) (by kernel_rfl) (by kernel_rfl) (by kernel_rfl) (fun _ _ _ h => h) (Or.inl ⟨by rfl, ?_⟩) hS0 ?_
  · intro W9 hS9
    obtain ⟨q0, q1, q2⟩ := hS9
    have s0 : W9.cell? ⟨w.heap.size + 1, 0, none⟩ = some (.int .i64 0) := q1.cell 0
    have s1 : W9.cell? ⟨w.heap.size + 1, 1, none⟩ = some (.int .u64 0) := q1.cell 1
    clear q0 q1 q2
    go_simp
  try simp only [Act.put, List.setIfInBounds_toArray, List.set_cons_zero, List.set_cons_succ]
  refine wpAnyL_takeT (i := 3) (oi := { dst := some 29, op := Go.Op.load 38 (Go.Operand.tmp 2), type := 38, pos := "law.go:22", after := #[], guard := none }) (v := .agg #[.int .i64 0, .int .u64 0]) [4, 6, 8, 9, 10, 11, 12, 13, 14, 15, 16, 17] rfl (by kernel_rfl) (by kernel_rfl) (by kernel_rfl) (by kernel_rfl) (fun _ _ _ h => h) (Or.inl ⟨by rfl, ?_⟩) hS0 ?_
  · intro W9 hS9
    obtain ⟨q0, q1, q2⟩ := hS9
    have s0 : W9.cell? ⟨w.heap.size + 1, 0, none⟩ = some (.int .i64 0) := q1.cell 0
    have s1 : W9.cell? ⟨w.heap.size + 1, 1, none⟩ = some (.int .u64 0) := q1.cell 1
    clear q0 q1 q2
    go_simp
  try simp only [Act.put, List.setIfInBounds_toArray, List.set_cons_zero, List.set_cons_succ]
  refine wpAnyL_takeT (i := 5) (oi := { dst := some 31, op := Go.Op.load 38 (Go.Operand.tmp 2), type := 38, pos := "law.go:22", after := #[], guard := none }) (v := .agg #[.int .i64 0, .int .u64 0]) [6, 8, 9, 10, 11, 12, 13, 14, 15, 16, 17] rfl (by kernel_rfl) (by kernel_rfl) (by kernel_rfl) (by kernel_rfl) (fun _ _ _ h => h) (Or.inl ⟨by rfl, ?_⟩) hS0 ?_
  · intro W9 hS9
    obtain ⟨q0, q1, q2⟩ := hS9
    have s0 : W9.cell? ⟨w.heap.size + 1, 0, none⟩ = some (.int .i64 0) := q1.cell 0
    have s1 : W9.cell? ⟨w.heap.size + 1, 1, none⟩ = some (.int .u64 0) := q1.cell 1
    clear q0 q1 q2
    go_simp
  try simp only [Act.put, List.setIfInBounds_toArray, List.set_cons_zero, List.set_cons_succ]
  refine wpAnyL_takeT (i := 7) (oi := { dst := some 33, op := Go.Op.load 38 (Go.Operand.tmp 1), type := 38, pos := "law.go:22", after := #[], guard := none }) (v := .agg #[.int .i64 0, .int .u64 0]) [8, 9, 10, 11, 12, 13, 14, 15, 16, 17] rfl (by kernel_rfl) (by kernel_rfl) (by kernel_rfl) (by kernel_rfl) (fun _ _ _ h => h) (Or.inl ⟨by rfl, ?_⟩) hS0 ?_
  · intro W9 hS9
    obtain ⟨q0, q1, q2⟩ := hS9
    have s0 : W9.cell? ⟨w.heap.size, 0, none⟩ = some (.int .i64 0) := q0.cell 0
    have s1 : W9.cell? ⟨w.heap.size, 1, none⟩ = some (.int .u64 0) := q0.cell 1
    clear q0 q1 q2
    go_simp
  try simp only [Act.put, List.setIfInBounds_toArray, List.set_cons_zero, List.set_cons_succ]
  refine wpAnyL_one (i := 2) (o := { dst := some 28, op := Go.Op.call { callee := Go.Callee.value (Go.Operand.func 26), args := #[Go.Operand.const (Go.Value.int Go.IntKind.i64 1), Go.Operand.const (Go.Value.int Go.IntKind.i64 0), Go.Operand.tmp 27], argTypes := #[3, 3, 38] }, type := 40, pos := "law.go:22", after := #[{ on := 1, ground := Go.Ground.data }], guard := none }) (by kernel_rfl) rfl (fun K hK => ?_)
  refine step_call_g (by rfl) 26 _ _ rfl (fun _ _ => by kernel_rfl) #[.int .i64 1, .int .i64 0, .agg #[.int .i64 0, .int .u64 0]] (by simp [go_sem]) _ (HWA 1 0 Wd).out ?_
  rintro e v1 ⟨rfl, hC⟩
  refine ⟨_, rfl, ?_⟩
  have hS1 : Rows8 v1 w.heap.size 38 #[.int .i64 0, .int .u64 0] ∧ Rows8 v1 (w.heap.size + 1) 38 #[.int .i64 0, .int .u64 0] ∧ Rows8 v1 B3 29 #[.slice y.sa y.sn y.sc, .slice y.pa y.pn y.pc, .slice y.ha y.hn y.hc, .slice y.ba y.bn y.bc] := ⟨hS0.1.below hC hS0.1.lt, hS0.2.1.below hC hS0.2.1.lt, hS0.2.2.below hC hS0.2.2.lt⟩
  have ho1 := ho0.below hC (Nat.le_refl _)
  have hB1 := hB0.trans (hC.mono hB0.size)
  clear hC ho0 hB0
  refine hK.out _ _ (fun _ => hS1) ?_
  clear hK K
  try simp only [Act.put, List.setIfInBounds_toArray, List.set_cons_zero, List.set_cons_succ]
  refine wpAnyL_one (i := 4) (o := { dst := some 30, op := Go.Op.call { callee := Go.Callee.value (Go.Operand.func 26), args := #[Go.Operand.const (Go.Value.int Go.IntKind.i64 6), Go.Operand.const (Go.Value.int Go.IntKind.i64 0), Go.Operand.tmp 29], argTypes := #[3, 3, 38] }, type := 40, pos := "law.go:22", after := #[{ on := 3, ground := Go.Ground.data }, { on := 2, ground := Go.Ground.chain }], guard := none }) (by kernel_rfl) rfl (fun K hK => ?_)
  refine step_call_g (by rfl) 26 _ _ rfl (fun _ _ => by kernel_rfl) #[.int .i64 6, .int .i64 0, .agg #[.int .i64 0, .int .u64 0]] (by simp [go_sem]) _ (HWA 6 0 v1).out ?_
  rintro e v2 ⟨rfl, hC⟩
  refine ⟨_, rfl, ?_⟩
  have hS2 : Rows8 v2 w.heap.size 38 #[.int .i64 0, .int .u64 0] ∧ Rows8 v2 (w.heap.size + 1) 38 #[.int .i64 0, .int .u64 0] ∧ Rows8 v2 B3 29 #[.slice y.sa y.sn y.sc, .slice y.pa y.pn y.pc, .slice y.ha y.hn y.hc, .slice y.ba y.bn y.bc] := ⟨hS1.1.below hC hS1.1.lt, hS1.2.1.below hC hS1.2.1.lt, hS1.2.2.below hC hS1.2.2.lt⟩
  have ho2 := ho1.below hC (Nat.le_refl _)
  have hB2 := hB1.trans (hC.mono hB1.size)
  clear hC ho1 hB1
  refine hK.out _ _ (fun _ => hS2) ?_
  clear hK K
  try simp only [Act.put, List.setIfInBounds_toArray, List.set_cons_zero, List.set_cons_succ]
  refine wpAnyL_one (i := 6) (o := { dst := some 32, op := Go.Op.call { callee := Go.Callee.value (Go.Operand.func 26), args := #[Go.Operand.const (Go.Value.int Go.IntKind.i64 1), Go.Operand.const (Go.Value.int Go.IntKind.i64 1), Go.Operand.tmp 31], argTypes := #[3, 3, 38] }, type := 40, pos := "law.go:22", after := #[{ on := 5, ground := Go.Ground.data }, { on := 4, ground := Go.Ground.chain }], guard := none }) (by kernel_rfl) rfl (fun K hK => ?_)
  refine step_call_g (by rfl) 26 _ _ rfl (fun _ _ => by kernel_rfl) #[.int .i64 1, .int .i64 1, .agg #[.int .i64 0, .int .u64 0]] (by simp [go_sem]) _ (HWA 1 1 v2).out ?_
  rintro e v3 ⟨rfl, hC⟩
  refine ⟨_, rfl, ?_⟩
  have hS3 : Rows8 v3 w.heap.size 38 #[.int .i64 0, .int .u64 0] ∧ Rows8 v3 (w.heap.size + 1) 38 #[.int .i64 0, .int .u64 0] ∧ Rows8 v3 B3 29 #[.slice y.sa y.sn y.sc, .slice y.pa y.pn y.pc, .slice y.ha y.hn y.hc, .slice y.ba y.bn y.bc] := ⟨hS2.1.below hC hS2.1.lt, hS2.2.1.below hC hS2.2.1.lt, hS2.2.2.below hC hS2.2.2.lt⟩
  have ho3 := ho2.below hC (Nat.le_refl _)
  have hB3 := hB2.trans (hC.mono hB2.size)
  clear hC ho2 hB2
  refine hK.out _ _ (fun _ => hS3) ?_
  clear hK K
  try simp only [Act.put, List.setIfInBounds_toArray, List.set_cons_zero, List.set_cons_succ]
  refine wpAnyL_one (i := 8) (o := { dst := some 34, op := Go.Op.call { callee := Go.Callee.value (Go.Operand.func 26), args := #[Go.Operand.const (Go.Value.int Go.IntKind.i64 3), Go.Operand.const (Go.Value.int Go.IntKind.i64 1), Go.Operand.tmp 33], argTypes := #[3, 3, 38] }, type := 40, pos := "law.go:22", after := #[{ on := 7, ground := Go.Ground.data }, { on := 6, ground := Go.Ground.chain }], guard := none }) (by kernel_rfl) rfl (fun K hK => ?_)
  refine step_call_g (by rfl) 26 _ _ rfl (fun _ _ => by kernel_rfl) #[.int .i64 3, .int .i64 1, .agg #[.int .i64 0, .int .u64 0]] (by simp [go_sem]) _ (HWA 3 1 v3).out ?_
  rintro e v4 ⟨rfl, hC⟩
  refine ⟨_, rfl, ?_⟩
  have hS4 : Rows8 v4 w.heap.size 38 #[.int .i64 0, .int .u64 0] ∧ Rows8 v4 (w.heap.size + 1) 38 #[.int .i64 0, .int .u64 0] ∧ Rows8 v4 B3 29 #[.slice y.sa y.sn y.sc, .slice y.pa y.pn y.pc, .slice y.ha y.hn y.hc, .slice y.ba y.bn y.bc] := ⟨hS3.1.below hC hS3.1.lt, hS3.2.1.below hC hS3.2.1.lt, hS3.2.2.below hC hS3.2.2.lt⟩
  have ho4 := ho3.below hC (Nat.le_refl _)
  have hB4 := hB3.trans (hC.mono hB3.size)
  clear hC ho3 hB3
  refine hK.out _ _ (fun _ => hS4) ?_
  clear hK K
  try simp only [Act.put, List.setIfInBounds_toArray, List.set_cons_zero, List.set_cons_succ]
  refine wpAnyL_one (i := 9) (o := { dst := some 35, op := Go.Op.buildSlice 27 4 #[(0, Go.Operand.tmp 28), (1, Go.Operand.tmp 30), (2, Go.Operand.tmp 32), (3, Go.Operand.tmp 34)], type := 27, pos := "law.go:22", after := #[{ on := 2, ground := Go.Ground.data }, { on := 4, ground := Go.Ground.data }, { on := 6, ground := Go.Ground.data }, { on := 8, ground := Go.Ground.data }], guard := none }) (by kernel_rfl) rfl (fun K hK => ?_)
  refine step_value_g (by rfl) (.slice (some ⟨v4.heap.size, 0, none⟩) 4 4) (w' := (v4.alloc (.cells #[.int .i64 1, .int .i64 0, .int .i64 0, .int .u64 0, .int .i64 6, .int .i64 0, .int .i64 0, .int .u64 0, .int .i64 1, .int .i64 1, .int .i64 0, .int .u64 0, .int .i64 3, .int .i64 1, .int .i64 0, .int .u64 0] 40))) (by go_simp) ?_
  have hC : Below v4.heap.size v4 (v4.alloc (.cells #[.int .i64 1, .int .i64 0, .int .i64 0, .int .u64 0, .int .i64 6, .int .i64 0, .int .i64 0, .int .u64 0, .int .i64 1, .int .i64 1, .int .i64 0, .int .u64 0, .int .i64 3, .int .i64 1, .int .i64 0, .int .u64 0] 40)) := Rows8.newB
  have hlit := lit_at4 v4 ⟨1, 0, 0, 0⟩ ⟨6, 0, 0, 0⟩ ⟨1, 1, 0, 0⟩ ⟨3, 1, 0, 0⟩
  have hS5 : Rows8 (v4.alloc (.cells #[.int .i64 1, .int .i64 0, .int .i64 0, .int .u64 0, .int .i64 6, .int .i64 0, .int .i64 0, .int .u64 0, .int .i64 1, .int .i64 1, .int .i64 0, .int .u64 0, .int .i64 3, .int .i64 1, .int .i64 0, .int .u64 0] 40)) w.heap.size 38 #[.int .i64 0, .int .u64 0] ∧ Rows8 (v4.alloc (.cells #[.int .i64 1, .int .i64 0, .int .i64 0, .int .u64 0, .int .i64 6, .int .i64 0, .int .i64 0, .int .u64 0, .int .i64 1, .int .i64 1, .int .i64 0, .int .u64 0, .int .i64 3, .int .i64 1, .int .i64 0, .int .u64 0] 40)) (w.heap.size + 1) 38 #[.int .i64 0, .int .u64 0] ∧ Rows8 (v4.alloc (.cells #[.int .i64 1, .int .i64 0, .int .i64 0, .int .u64 0, .int .i64 6, .int .i64 0, .int .i64 0, .int .u64 0, .int .i64 1, .int .i64 1, .int .i64 0, .int .u64 0, .int .i64 3, .int .i64 1, .int .i64 0, .int .u64 0] 40)) B3 29 #[.slice y.sa y.sn y.sc, .slice y.pa y.pn y.pc, .slice y.ha y.hn y.hc, .slice y.ba y.bn y.bc] := ⟨hS4.1.below hC hS4.1.lt, hS4.2.1.below hC hS4.2.1.lt, hS4.2.2.below hC hS4.2.2.lt⟩
  have ho5 := ho4.below hC (Nat.le_refl _)
  have hB5 := hB4.trans (hC.mono hB4.size)
  clear hC ho4 hB4
  refine hK.out _ _ (fun _ => hS5) ?_
  clear hK K
  try simp only [Act.put, List.setIfInBounds_toArray, List.set_cons_zero, List.set_cons_succ]
  have HLIT : Hid (WAt (v4.alloc (.cells #[.int .i64 1, .int .i64 0, .int .i64 0, .int .u64 0, .int .i64 6, .int .i64 0, .int .i64 0, .int .u64 0, .int .i64 1, .int .i64 1, .int .i64 0, .int .u64 0, .int .i64 3, .int .i64 1, .int .i64 0, .int .u64 0] 40)) (.slice (some ⟨v4.heap.size, 0, none⟩) 4 4) wkL1) := Lib.hid hlit
  clear hlit
  generalize hal9 : (v4.alloc (.cells #[.int .i64 1, .int .i64 0, .int .i64 0, .int .u64 0, .int .i64 6, .int .i64 0, .int .i64 0, .int .u64 0, .int .i64 1, .int .i64 1, .int .i64 0, .int .u64 0, .int .i64 3, .int .i64 1, .int .i64 0, .int .u64 0] 40)) = v5 at *
  clear hal9
  refine wpAnyL_one (i := 10) (o := { dst := some 36, op := Go.Op.call { callee := Go.Callee.value (Go.Operand.func 29), args := #[Go.Operand.tmp 26, Go.Operand.tmp 35], argTypes := #[29, 27] }, type := 68, pos := "law.go:22", after := #[{ on := 0, ground := Go.Ground.data }, { on := 9, ground := Go.Ground.data }, { on := 8, ground := Go.Ground.chain }], guard := none }) (by kernel_rfl) rfl (fun K hK => ?_)
  have HRN := Lib.hid (Try.Run_any y wk0 (some ⟨v4.heap.size, 0, none⟩) 4 4 10 wkL1 v5 (ho5.at wk0_ok.1) HLIT.out wk0_ok.2 (by decide))
  rw [wk_run1] at HRN
  refine step_call_g (by rfl) 29 _ _ rfl (fun _ _ => by kernel_rfl) #[.agg #[.slice y.sa y.sn y.sc, .slice y.pa y.pn y.pc, .slice y.ha y.hn y.hc, .slice y.ba y.bn y.bc], .slice (some ⟨v4.heap.size, 0, none⟩) 4 4] (by simp [go_sem]) _ HRN.out ?_
  rintro e v6 ⟨y1, vs1, ta, tc, rfl, hm1, ht1, hC⟩
  refine ⟨_, rfl, ?_⟩
  have hm1 := hm1.mono hB5.size
  have ht1 := OwnsP.mono ht1 hB5.size
  have hS6 : Rows8 v6 w.heap.size 38 #[.int .i64 0, .int .u64 0] ∧ Rows8 v6 (w.heap.size + 1) 38 #[.int .i64 0, .int .u64 0] ∧ Rows8 v6 B3 29 #[.slice y.sa y.sn y.sc, .slice y.pa y.pn y.pc, .slice y.ha y.hn y.hc, .slice y.ba y.bn y.bc] := ⟨hS5.1.below hC hS5.1.lt, hS5.2.1.below hC hS5.2.1.lt, hS5.2.2.below hC hS5.2.2.lt⟩
  have ho6 := ho5.below hC (Nat.le_refl _)
  have hB6 := hB5.trans (hC.mono hB5.size)
  clear hC ho5 hB5
  clear ho6 HLIT HRN
  refine hK.out _ _ (fun _ => hS6) ?_
  clear hK K
  try simp only [Act.put, List.setIfInBounds_toArray, List.set_cons_zero, List.set_cons_succ]
  refine wpAnyL_takeT (i := 11) (oi := { dst := some 25, op := Go.Op.move (Go.Operand.tmp 36), type := 68, pos := "law.go:22", after := #[{ on := 10, ground := Go.Ground.data }], guard := none }) (v := .tuple #[.agg #[.slice y1.sa y1.sn y1.sc, .slice y1.pa y1.pn y1.pc, .slice y1.ha y1.hn y1.hc, .slice y1.ba y1.bn y1.bc], .slice ta 1 tc, .int .i64 0]) [12, 13, 14, 15, 16, 17] rfl (by kernel_rfl) (by kernel_rfl) (by kernel_rfl) (by kernel_rfl) (fun _ _ _ h => h) (Or.inl ⟨by rfl, ?_⟩) hS6 ?_
  · intro W9 hS9
    obtain ⟨q0, q1, q2⟩ := hS9
    clear q0 q1 q2
    go_simp
  try simp only [Act.put, List.setIfInBounds_toArray, List.set_cons_zero, List.set_cons_succ]
  refine wpAnyL_takeP (i := 12) (oi := { dst := some 37, op := Go.Op.extract (Go.Operand.tmp 25) 0, type := 29, pos := "law.go:22", after := #[{ on := 11, ground := Go.Ground.data }], guard := none }) (v := .agg #[.slice y1.sa y1.sn y1.sc, .slice y1.pa y1.pn y1.pc, .slice y1.ha y1.hn y1.hc, .slice y1.ba y1.bn y1.bc]) rfl (by kernel_rfl) (by kernel_rfl) (by kernel_rfl) (by kernel_rfl) (fun _ _ _ h => h) (Or.inl ⟨by rfl, ?_⟩) ?_
  · intro W9 _
    go_simp
  try simp only [Act.put, List.setIfInBounds_toArray, List.set_cons_zero, List.set_cons_succ]
  refine wpAnyL_takeP (i := 13) (oi := { dst := some 38, op := Go.Op.extract (Go.Operand.tmp 25) 1, type := 62, pos := "law.go:22", after := #[{ on := 11, ground := Go.Ground.data }, { on := 15, ground := Go.Ground.gcOnly Go.Departure.lateStores }], guard := none }) (v := .slice ta 1 tc) rfl (by kernel_rfl) (by kernel_rfl) (by kernel_rfl) (by kernel_rfl) (fun _ _ _ h => h) (Or.inl ⟨by rfl, ?_⟩) ?_
  · intro W9 _
    go_simp
  try simp only [Act.put, List.setIfInBounds_toArray, List.set_cons_zero, List.set_cons_succ]
  refine wpAnyL_takeP (i := 14) (oi := { dst := some 39, op := Go.Op.extract (Go.Operand.tmp 25) 2, type := 33, pos := "law.go:22", after := #[{ on := 11, ground := Go.Ground.data }, { on := 16, ground := Go.Ground.gcOnly Go.Departure.lateStores }], guard := none }) (v := .int .i64 0) rfl (by kernel_rfl) (by kernel_rfl) (by kernel_rfl) (by kernel_rfl) (fun _ _ _ h => h) (Or.inl ⟨by rfl, ?_⟩) ?_
  · intro W9 _
    go_simp
  try simp only [Act.put, List.setIfInBounds_toArray, List.set_cons_zero, List.set_cons_succ]
  refine wpAnyL_one (i := 15) (o := { dst := none, op := Go.Op.store 29 (Go.Operand.tmp 3) (Go.Operand.tmp 37), type := 0, pos := "law.go:22", after := #[{ on := 12, ground := Go.Ground.data }, { on := 10, ground := Go.Ground.chain }, { on := 0, ground := Go.Ground.phase }, { on := 1, ground := Go.Ground.phase }, { on := 2, ground := Go.Ground.phase }, { on := 3, ground := Go.Ground.phase }, { on := 4, ground := Go.Ground.phase }, { on := 5, ground := Go.Ground.phase }, { on := 6, ground := Go.Ground.phase }, { on := 7, ground := Go.Ground.phase }, { on := 8, ground := Go.Ground.phase }, { on := 9, ground := Go.Ground.phase }, { on := 10, ground := Go.Ground.phase }, { on := 11, ground := Go.Ground.phase }, { on := 12, ground := Go.Ground.phase }, { on := 13, ground := Go.Ground.textOnly Go.Departure.lateStores }, { on := 14, ground := Go.Ground.textOnly Go.Departure.lateStores }], guard := none }) (by kernel_rfl) rfl (fun K hK => ?_)
  have ck0 : v6.cell? ⟨B3, 0, none⟩ = some (.slice y.sa y.sn y.sc) := hS6.2.2.cell 0
  have fk0 := hS6.2.2.frozen 0
  have ck1 : v6.cell? ⟨B3, 1, none⟩ = some (.slice y.pa y.pn y.pc) := hS6.2.2.cell 1
  have fk1 := hS6.2.2.frozen 1
  have ck2 : v6.cell? ⟨B3, 2, none⟩ = some (.slice y.ha y.hn y.hc) := hS6.2.2.cell 2
  have fk2 := hS6.2.2.frozen 2
  have ck3 : v6.cell? ⟨B3, 3, none⟩ = some (.slice y.ba y.bn y.bc) := hS6.2.2.cell 3
  have fk3 := hS6.2.2.frozen 3
  have hlt := hS6.2.2.lt
  refine step_skip_g (by rfl) (w' := ((((v6.setCell ⟨B3, 0, none⟩ (.slice y1.sa y1.sn y1.sc)).setCell ⟨B3, 1, none⟩ (.slice y1.pa y1.pn y1.pc)).setCell ⟨B3, 2, none⟩ (.slice y1.ha y1.hn y1.hc)).setCell ⟨B3, 3, none⟩ (.slice y1.ba y1.bn y1.bc))) (by go_simp) ?_
  clear ck0 fk0 ck1 fk1 ck2 fk2 ck3 fk3 hlt
  have a0 := hS6.1
  have b0 := hS6.2.1
  have r0 := hS6.2.2
  have m0 := hm1
  have t0 := ht1
  have h0 := hB6
  have a1 := a0.setOther (a := ⟨B3, 0, none⟩) (by show B3 ≠ w.heap.size; have := H31.out; omega) (.slice y1.sa y1.sn y1.sc)
  have b1 := b0.setOther (a := ⟨B3, 0, none⟩) (by show B3 ≠ w.heap.size + 1; have := H31.out; omega) (.slice y1.sa y1.sn y1.sc)
  have m1 := m0.set r0 (by decide) (by decide) (by decide) (by decide) (by decide) 0 (.slice y1.sa y1.sn y1.sc)
  have t1 := owns_setT t0 (a := ⟨B3, 0, none⟩) r0 (by decide) (.slice y1.sa y1.sn y1.sc)
  have h1 := h0.setCell (p := ⟨B3, 0, none⟩) (by show w.heap.size ≤ B3; have := H31.out; omega) (.slice y1.sa y1.sn y1.sc)
  have r1 := r0.set 0 (.slice y1.sa y1.sn y1.sc)
  simp only [List.setIfInBounds_toArray, List.set_cons_zero, List.set_cons_succ] at r1
  have a2 := a1.setOther (a := ⟨B3, 1, none⟩) (by show B3 ≠ w.heap.size; have := H31.out; omega) (.slice y1.pa y1.pn y1.pc)
  have b2 := b1.setOther (a := ⟨B3, 1, none⟩) (by show B3 ≠ w.heap.size + 1; have := H31.out; omega) (.slice y1.pa y1.pn y1.pc)
  have m2 := m1.set r1 (by decide) (by decide) (by decide) (by decide) (by decide) 1 (.slice y1.pa y1.pn y1.pc)
  have t2 := owns_setT t1 (a := ⟨B3, 1, none⟩) r1 (by decide) (.slice y1.pa y1.pn y1.pc)
  have h2 := h1.setCell (p := ⟨B3, 1, none⟩) (by show w.heap.size ≤ B3; have := H31.out; omega) (.slice y1.pa y1.pn y1.pc)
  have r2 := r1.set 1 (.slice y1.pa y1.pn y1.pc)
  simp only [List.setIfInBounds_toArray, List.set_cons_zero, List.set_cons_succ] at r2
  have a3 := a2.setOther (a := ⟨B3, 2, none⟩) (by show B3 ≠ w.heap.size; have := H31.out; omega) (.slice y1.ha y1.hn y1.hc)
  have b3 := b2.setOther (a := ⟨B3, 2, none⟩) (by show B3 ≠ w.heap.size + 1; have := H31.out; omega) (.slice y1.ha y1.hn y1.hc)
  have m3 := m2.set r2 (by decide) (by decide) (by decide) (by decide) (by decide) 2 (.slice y1.ha y1.hn y1.hc)
  have t3 := owns_setT t2 (a := ⟨B3, 2, none⟩) r2 (by decide) (.slice y1.ha y1.hn y1.hc)
  have h3 := h2.setCell (p := ⟨B3, 2, none⟩) (by show w.heap.size ≤ B3; have := H31.out; omega) (.slice y1.ha y1.hn y1.hc)
  have r3 := r2.set 2 (.slice y1.ha y1.hn y1.hc)
  simp only [List.setIfInBounds_toArray, List.set_cons_zero, List.set_cons_succ] at r3
  have a4 := a3.setOther (a := ⟨B3, 3, none⟩) (by show B3 ≠ w.heap.size; have := H31.out; omega) (.slice y1.ba y1.bn y1.bc)
  have b4 := b3.setOther (a := ⟨B3, 3, none⟩) (by show B3 ≠ w.heap.size + 1; have := H31.out; omega) (.slice y1.ba y1.bn y1.bc)
  have m4 := m3.set r3 (by decide) (by decide) (by decide) (by decide) (by decide) 3 (.slice y1.ba y1.bn y1.bc)
  have t4 := owns_setT t3 (a := ⟨B3, 3, none⟩) r3 (by decide) (.slice y1.ba y1.bn y1.bc)
  have h4 := h3.setCell (p := ⟨B3, 3, none⟩) (by show w.heap.size ≤ B3; have := H31.out; omega) (.slice y1.ba y1.bn y1.bc)
  have r4 := r3.set 3 (.slice y1.ba y1.bn y1.bc)
  simp only [List.setIfInBounds_toArray, List.set_cons_zero, List.set_cons_succ] at r4
  have R1 := Lib.hid a4
  have R2 := Lib.hid b4
  have R3 := Lib.hid r4
  have HM1 := Lib.hid m4
  have HT1 : Hid (OwnsP 38 w.heap.size [(0, 0)] (.slice ta 1 tc) _) := Lib.hid t4
  have HB := Lib.hid h4
  clear a0 a1 a2 a3 a4 b0 b1 b2 b3 b4 r0 r1 r2 r3 r4 m0 m1 m2 m3 m4 t0 t1 t2 t3 t4 h0 h1 h2 h3 h4 hS0 hS1 hS2 hS3 hS4 hS5 hS6 hm1 ht1 hB6
  refine hK.out _ _ (fun h => absurd h (by decide)) ?_
  clear hK K
  try simp only [Act.put, List.setIfInBounds_toArray, List.set_cons_zero, List.set_cons_succ]
  generalize ((((v6.setCell ⟨B3, 0, none⟩ (.slice y1.sa y1.sn y1.sc)).setCell ⟨B3, 1, none⟩ (.slice y1.pa y1.pn y1.pc)).setCell ⟨B3, 2, none⟩ (.slice y1.ha y1.hn y1.hc)).setCell ⟨B3, 3, none⟩ (.slice y1.ba y1.bn y1.bc)) = W3 at *
  refine wpAnyL_takeP (i := 16) (oi := { dst := some 5, op := Go.Op.assign (Go.Operand.tmp 38), type := 62, pos := "law.go:22", after := #[{ on := 13, ground := Go.Ground.data }, { on := 15, ground := Go.Ground.chain }, { on := 0, ground := Go.Ground.phase }, { on := 1, ground := Go.Ground.phase }, { on := 2, ground := Go.Ground.phase }, { on := 3, ground := Go.Ground.phase }, { on := 4, ground := Go.Ground.phase }, { on := 5, ground := Go.Ground.phase }, { on := 6, ground := Go.Ground.phase }, { on := 7, ground := Go.Ground.phase }, { on := 8, ground := Go.Ground.phase }, { on := 9, ground := Go.Ground.phase }, { on := 10, ground := Go.Ground.phase }, { on := 11, ground := Go.Ground.phase }, { on := 12, ground := Go.Ground.phase }, { on := 13, ground := Go.Ground.phase }, { on := 14, ground := Go.Ground.textOnly Go.Departure.lateStores }, { on := 15, ground := Go.Ground.phase }], guard := none }) (v := .slice ta 1 tc) rfl (by kernel_rfl) (by kernel_rfl) (by kernel_rfl) (by kernel_rfl) (fun _ _ _ h => h) (Or.inl ⟨by rfl, ?_⟩) ?_
  · intro W9 _
    go_simp
  try simp only [Act.put, List.setIfInBounds_toArray, List.set_cons_zero, List.set_cons_succ]
  refine wpAnyL_takeP (i := 17) (oi := { dst := some 6, op := Go.Op.assign (Go.Operand.tmp 39), type := 33, pos := "law.go:22", after := #[{ on := 14, ground := Go.Ground.data }, { on := 16, ground := Go.Ground.chain }, { on := 0, ground := Go.Ground.phase }, { on := 1, ground := Go.Ground.phase }, { on := 2, ground := Go.Ground.phase }, { on := 3, ground := Go.Ground.phase }, { on := 4, ground := Go.Ground.phase }, { on := 5, ground := Go.Ground.phase }, { on := 6, ground := Go.Ground.phase }, { on := 7, ground := Go.Ground.phase }, { on := 8, ground := Go.Ground.phase }, { on := 9, ground := Go.Ground.phase }, { on := 10, ground := Go.Ground.phase }, { on := 11, ground := Go.Ground.phase }, { on := 12, ground := Go.Ground.phase }, { on := 13, ground := Go.Ground.phase }, { on := 14, ground := Go.Ground.phase }, { on := 15, ground := Go.Ground.phase }, { on := 16, ground := Go.Ground.phase }], guard := none }) (v := .int .i64 0) rfl (by kernel_rfl) (by kernel_rfl) (by kernel_rfl) (by kernel_rfl) (fun _ _ _ h => h) (Or.inl ⟨by rfl, ?_⟩) ?_
  · intro W9 _
    go_simp
  try simp only [Act.put, List.setIfInBounds_toArray, List.set_cons_zero, List.set_cons_succ]
  refine wpAnyL_end (by kernel_rfl) ?_
  go_wp2_with fail
  refine Try.wk_r4 w v4 W3 B3 y y1 vs1 ta tc _ HWA H31 (Lib.hid ⟨R1.out, R2.out, R3.out, HM1.out, HT1.out, HB.out⟩) ?_ (Lib.hid ?_)
  · intro c d v a w h; cases d <;> exact h
  intro B7 y2 vs2 tb tc2 z4 W4 hb37 hC4 hr7 hm2 ht2
  have C4 := Lib.hid hC4
  have R7 := Lib.hid hr7
  have HM2 := Lib.hid hm2
  have HT2 : Hid (OwnsP 38 w.heap.size [(0, 1)] (.slice tb 1 tc2) W4) := Lib.hid ht2
  clear R1 R2 R3 HM1 HT1 HB hC4 hr7 hm2 ht2
  go_wp2_with fail
  refine Try.wk_r5 w.heap.size B3 w.heap.size y1 vs1 W4 _ HWA (Lib.hid C4.out.bl.size) (Lib.hid ⟨C4.out.r1, C4.out.r3, C4.out.o, Below.refl _ _⟩) ?_ (Lib.hid ?_)
  · intro c d v a w h; cases d <;> exact h
  intro B10 BE5 y3 vs3 z5 W5 hbn hC hrn hmn
  have RB10 := Lib.hid hrn
  have MB10 := Lib.hid hmn
  have R7 := Lib.hid (R7.out.below hC R7.out.lt)
  have HM2 := Lib.hid (HM2.out.below hC (Nat.le_refl _))
  have HT2 : Hid (OwnsP 38 w.heap.size [(0, 1)] (.slice tb 1 tc2) W5) := Lib.hid (OwnsP.below HT2.out hC (Nat.le_refl _))
  have C4 := Lib.hid (C4.out.below hC)
  clear hbn hC hrn hmn
  go_wp2_with fail
  refine Try.wk_r6 w.heap.size B7 (w.heap.size + 1) y2 vs2 W5 _ HWA (Lib.hid C4.out.bl.size) (Lib.hid ⟨C4.out.r2, R7.out, HM2.out, Below.refl _ _⟩) ?_ (Lib.hid ?_)
  · intro c d v a w h; cases d <;> exact h
  intro B13 BE6 y4 vs4 z6 W6 hbn hC hrn hmn
  have RB13 := Lib.hid hrn
  have MB13 := Lib.hid hmn
  have R7 := Lib.hid (R7.out.below hC R7.out.lt)
  have HM2 := Lib.hid (HM2.out.below hC (Nat.le_refl _))
  have RB10 := Lib.hid (RB10.out.below hC RB10.out.lt)
  have MB10 := Lib.hid (MB10.out.below hC (Nat.le_refl _))
  have HT2 : Hid (OwnsP 38 w.heap.size [(0, 1)] (.slice tb 1 tc2) W6) := Lib.hid (OwnsP.below HT2.out hC (Nat.le_refl _))
  have C4 := Lib.hid (C4.out.below hC)
  clear hbn hC hrn hmn
  go_wp2_with fail
  refine Try.wk_r7 w.heap.size B13 (w.heap.size + 1) y4 vs4 W6 _ HWA (Lib.hid C4.out.bl.size) (Lib.hid ⟨C4.out.r2, RB13.out, MB13.out, Below.refl _ _⟩) ?_ (Lib.hid ?_)
  · intro c d v a w h; cases d <;> exact h
  intro B16 BE7 y5 vs5 z7 W7 hbn hC hrn hmn
  have RB16 := Lib.hid hrn
  have MB16 := Lib.hid hmn
  have R7 := Lib.hid (R7.out.below hC R7.out.lt)
  have HM2 := Lib.hid (HM2.out.below hC (Nat.le_refl _))
  have RB10 := Lib.hid (RB10.out.below hC RB10.out.lt)
  have MB10 := Lib.hid (MB10.out.below hC (Nat.le_refl _))
  have HT2 : Hid (OwnsP 38 w.heap.size [(0, 1)] (.slice tb 1 tc2) W7) := Lib.hid (OwnsP.below HT2.out hC (Nat.le_refl _))
  have C4 := Lib.hid (C4.out.below hC)
  clear hbn hC hrn hmn
  go_wp2_with fail
  clear RB16 MB16 RB13 MB13
  have hbn2 : y2.bn = 1 := wAt_len2 (HM2.out.at wk2_ok.1).b
  refine wp_region_X (fun W' => Rows8 W' w.heap.size 38 #[.int .i64 0, .int .u64 0] ∧ Rows8 W' B3 29 #[.slice y1.sa y1.sn y1.sc, .slice y1.pa y1.pn y1.pc, .slice y1.ha y1.hn y1.hc, .slice y1.ba y1.bn y1.bc] ∧ Rows8 W' B7 29 #[.slice y2.sa y2.sn y2.sc, .slice y2.pa y2.pn y2.pc, .slice y2.ha y2.hn y2.hc, .slice y2.ba y2.bn y2.bc] ∧ Rows8 W' B10 29 #[.slice y3.sa y3.sn y3.sc, .slice y3.pa y3.pn y3.pc, .slice y3.ha y3.hn y3.hc, .slice y3.ba y3.bn y3.bc]) 73 (by kernel_rfl) ?_
  have hS0 : Rows8 W7.drew w.heap.size 38 #[.int .i64 0, .int .u64 0] ∧ Rows8 W7.drew B3 29 #[.slice y1.sa y1.sn y1.sc, .slice y1.pa y1.pn y1.pc, .slice y1.ha y1.hn y1.hc, .slice y1.ba y1.bn y1.bc] ∧ Rows8 W7.drew B7 29 #[.slice y2.sa y2.sn y2.sc, .slice y2.pa y2.pn y2.pc, .slice y2.ha y2.hn y2.hc, .slice y2.ba y2.bn y2.bc] ∧ Rows8 W7.drew B10 29 #[.slice y3.sa y3.sn y3.sc, .slice y3.pa y3.pn y3.pc, .slice y3.ha y3.hn y3.hc, .slice y3.ba y3.bn y3.bc] := ⟨C4.out.r1.drewA, C4.out.r3.drewA, R7.out.drewA, RB10.out.drewA⟩
  have HM1 : Hid (OwnMon w.heap.size y1 wk1 vs1 W7.drew) := Lib.hid C4.out.o.drew
  have HM3 : Hid (OwnMon w.heap.size y3 wk3 vs3 W7.drew) := Lib.hid MB10.out.drew
  have HT1 : Hid (PAt W7.drew (.slice ta 1 tc) [(0, 0)]) := Lib.hid C4.out.t.at
  have HT2 : Hid (PAt W7.drew (.slice tb 1 tc2) [(0, 1)]) := Lib.hid HT2.out.at
  have HB : Hid (Below w.heap.size w W7.drew) := Lib.hid C4.out.bl.drew
  clear C4 R7 HM2 RB10 MB10
  have HBN := Lib.hid hbn2
  clear hbn2
  generalize W7.drew = X0 at *
  refine wpAnyN_take (i := 0) (oi := { dst := some 79, op := Go.Op.move (Go.Operand.tmp 4), type := 33, pos := "law.go:27", after := #[], guard := none }) (v := .int .i64 0) rfl (by decide) (by kernel_rfl) (by kernel_rfl) (by kernel_rfl) (fun _ _ _ h => h) (Or.inl ⟨by rfl, ?_⟩) hS0 ?_
  · intro W9 hS9
    obtain ⟨q0, q1, q2, q3⟩ := hS9
    clear q0 q1 q2 q3
    go_simp
  try simp only [Act.put, List.setIfInBounds_toArray, List.set_cons_zero, List.set_cons_succ]
  refine wpAnyN_take (i := 1) (oi := { dst := some 80, op := Go.Op.binOp Go.BinOp.eql 33 (Go.Operand.tmp 79) (Go.Operand.const (Go.Value.int Go.IntKind.i64 0)) 33, type := 4, pos := "law.go:27", after := #[{ on := 0, ground := Go.Ground.data }], guard := none }) (v := .bool true) rfl (by decide) (by kernel_rfl) (by kernel_rfl) (by kernel_rfl) (fun _ _ _ h => h) (Or.inl ⟨by rfl, ?_⟩) hS0 ?_
  · intro W9 hS9
    obtain ⟨q0, q1, q2, q3⟩ := hS9
    clear q0 q1 q2 q3
    go_simp
  try simp only [Act.put, List.setIfInBounds_toArray, List.set_cons_zero, List.set_cons_succ]
  refine wpAnyN_take (i := 2) (oi := { dst := some 81, op := Go.Op.move (Go.Operand.tmp 80), type := 4, pos := "law.go:27", after := #[{ on := 1, ground := Go.Ground.data }], guard := none }) (v := .bool true) rfl (by decide) (by kernel_rfl) (by kernel_rfl) (by kernel_rfl) (fun _ _ _ h => h) (Or.inl ⟨by rfl, ?_⟩) hS0 ?_
  · intro W9 hS9
    obtain ⟨q0, q1, q2, q3⟩ := hS9
    clear q0 q1 q2 q3
    go_simp
  try simp only [Act.put, List.setIfInBounds_toArray, List.set_cons_zero, List.set_cons_succ]
  refine wpAnyN_take (i := 3) (oi := { dst := some 82, op := Go.Op.move (Go.Operand.tmp 6), type := 33, pos := "law.go:27", after := #[{ on := 2, ground := Go.Ground.guard }], guard := some (2, true) }) (v := .int .i64 0) rfl (by decide) (by kernel_rfl) (by kernel_rfl) (by kernel_rfl) (fun _ _ _ h => h) (Or.inl ⟨by rfl, ?_⟩) hS0 ?_
  · intro W9 hS9
    obtain ⟨q0, q1, q2, q3⟩ := hS9
    clear q0 q1 q2 q3
    go_simp
  try simp only [Act.put, List.setIfInBounds_toArray, List.set_cons_zero, List.set_cons_succ]
  refine wpAnyN_take (i := 4) (oi := { dst := some 83, op := Go.Op.binOp Go.BinOp.eql 33 (Go.Operand.tmp 82) (Go.Operand.const (Go.Value.int Go.IntKind.i64 0)) 33, type := 4, pos := "law.go:27", after := #[{ on := 3, ground := Go.Ground.data }, { on := 2, ground := Go.Ground.guard }], guard := some (2, true) }) (v := .bool true) rfl (by decide) (by kernel_rfl) (by kernel_rfl) (by kernel_rfl) (fun _ _ _ h => h) (Or.inl ⟨by rfl, ?_⟩) hS0 ?_
  · intro W9 hS9
    obtain ⟨q0, q1, q2, q3⟩ := hS9
    clear q0 q1 q2 q3
    go_simp
  try simp only [Act.put, List.setIfInBounds_toArray, List.set_cons_zero, List.set_cons_succ]
  refine wpAnyN_take (i := 5) (oi := { dst := some 84, op := Go.Op.pick (Go.Operand.tmp 81) (Go.Operand.tmp 83) (Go.Operand.const (Go.Value.bool false)), type := 4, pos := "law.go:27", after := #[{ on := 2, ground := Go.Ground.data }, { on := 4, ground := Go.Ground.data }], guard := none }) (v := .bool true) rfl (by decide) (by kernel_rfl) (by kernel_rfl) (by kernel_rfl) (fun _ _ _ h => h) (Or.inl ⟨by rfl, ?_⟩) hS0 ?_
  · intro W9 hS9
    obtain ⟨q0, q1, q2, q3⟩ := hS9
    clear q0 q1 q2 q3
    go_simp
  try simp only [Act.put, List.setIfInBounds_toArray, List.set_cons_zero, List.set_cons_succ]
  refine wpAnyN_take (i := 6) (oi := { dst := some 85, op := Go.Op.move (Go.Operand.tmp 84), type := 4, pos := "law.go:27", after := #[{ on := 5, ground := Go.Ground.data }, { on := 2, ground := Go.Ground.chain }], guard := none }) (v := .bool true) rfl (by decide) (by kernel_rfl) (by kernel_rfl) (by kernel_rfl) (fun _ _ _ h => h) (Or.inl ⟨by rfl, ?_⟩) hS0 ?_
  · intro W9 hS9
    obtain ⟨q0, q1, q2, q3⟩ := hS9
    clear q0 q1 q2 q3
    go_simp
  try simp only [Act.put, List.setIfInBounds_toArray, List.set_cons_zero, List.set_cons_succ]
  refine wpAnyN_take (i := 7) (oi := { dst := some 86, op := Go.Op.move (Go.Operand.tmp 9), type := 33, pos := "law.go:27", after := #[{ on := 6, ground := Go.Ground.guard }], guard := some (6, true) }) (v := .int .i64 0) rfl (by decide) (by kernel_rfl) (by kernel_rfl) (by kernel_rfl) (fun _ _ _ h => h) (Or.inl ⟨by rfl, ?_⟩) hS0 ?_
  · intro W9 hS9
    obtain ⟨q0, q1, q2, q3⟩ := hS9
    clear q0 q1 q2 q3
    go_simp
  try simp only [Act.put, List.setIfInBounds_toArray, List.set_cons_zero, List.set_cons_succ]
  refine wpAnyN_take (i := 8) (oi := { dst := some 87, op := Go.Op.binOp Go.BinOp.eql 33 (Go.Operand.tmp 86) (Go.Operand.const (Go.Value.int Go.IntKind.i64 0)) 33, type := 4, pos := "law.go:27", after := #[{ on := 7, ground := Go.Ground.data }, { on := 6, ground := Go.Ground.guard }], guard := some (6, true) }) (v := .bool true) rfl (by decide) (by kernel_rfl) (by kernel_rfl) (by kernel_rfl) (fun _ _ _ h => h) (Or.inl ⟨by rfl, ?_⟩) hS0 ?_
  · intro W9 hS9
    obtain ⟨q0, q1, q2, q3⟩ := hS9
    clear q0 q1 q2 q3
    go_simp
  try simp only [Act.put, List.setIfInBounds_toArray, List.set_cons_zero, List.set_cons_succ]
  refine wpAnyN_take (i := 9) (oi := { dst := some 88, op := Go.Op.pick (Go.Operand.tmp 85) (Go.Operand.tmp 87) (Go.Operand.const (Go.Value.bool false)), type := 4, pos := "law.go:27", after := #[{ on := 6, ground := Go.Ground.data }, { on := 8, ground := Go.Ground.data }], guard := none }) (v := .bool true) rfl (by decide) (by kernel_rfl) (by kernel_rfl) (by kernel_rfl) (fun _ _ _ h => h) (Or.inl ⟨by rfl, ?_⟩) hS0 ?_
  · intro W9 hS9
    obtain ⟨q0, q1, q2, q3⟩ := hS9
    clear q0 q1 q2 q3
    go_simp
  try simp only [Act.put, List.setIfInBounds_toArray, List.set_cons_zero, List.set_cons_succ]
  refine wpAnyN_take (i := 10) (oi := { dst := some 89, op := Go.Op.move (Go.Operand.tmp 88), type := 4, pos := "law.go:27", after := #[{ on := 9, ground := Go.Ground.data }, { on := 6, ground := Go.Ground.chain }], guard := none }) (v := .bool true) rfl (by decide) (by kernel_rfl) (by kernel_rfl) (by kernel_rfl) (fun _ _ _ h => h) (Or.inl ⟨by rfl, ?_⟩) hS0 ?_
  · intro W9 hS9
    obtain ⟨q0, q1, q2, q3⟩ := hS9
    clear q0 q1 q2 q3
    go_simp
  try simp only [Act.put, List.setIfInBounds_toArray, List.set_cons_zero, List.set_cons_succ]
  refine wpAnyN_take (i := 11) (oi := { dst := some 90, op := Go.Op.move (Go.Operand.tmp 12), type := 33, pos := "law.go:27", after := #[{ on := 10, ground := Go.Ground.guard }], guard := some (10, true) }) (v := .int .i64 0) rfl (by decide) (by kernel_rfl) (by kernel_rfl) (by kernel_rfl) (fun _ _ _ h => h) (Or.inl ⟨by rfl, ?_⟩) hS0 ?_
  · intro W9 hS9
    obtain ⟨q0, q1, q2, q3⟩ := hS9
    clear q0 q1 q2 q3
    go_simp
  try simp only [Act.put, List.setIfInBounds_toArray, List.set_cons_zero, List.set_cons_succ]
  refine wpAnyN_take (i := 12) (oi := { dst := some 91, op := Go.Op.binOp Go.BinOp.eql 33 (Go.Operand.tmp 90) (Go.Operand.const (Go.Value.int Go.IntKind.i64 0)) 33, type := 4, pos := "law.go:27", after := #[{ on := 11, ground := Go.Ground.data }, { on := 10, ground := Go.Ground.guard }], guard := some (10, true) }) (v := .bool true) rfl (by decide) (by kernel_rfl) (by kernel_rfl) (by kernel_rfl) (fun _ _ _ h => h) (Or.inl ⟨by rfl, ?_⟩) hS0 ?_
  · intro W9 hS9
    obtain ⟨q0, q1, q2, q3⟩ := hS9
    clear q0 q1 q2 q3
    go_simp
  try simp only [Act.put, List.setIfInBounds_toArray, List.set_cons_zero, List.set_cons_succ]
  refine wpAnyN_take (i := 13) (oi := { dst := some 92, op := Go.Op.pick (Go.Operand.tmp 89) (Go.Operand.tmp 91) (Go.Operand.const (Go.Value.bool false)), type := 4, pos := "law.go:27", after := #[{ on := 10, ground := Go.Ground.data }, { on := 12, ground := Go.Ground.data }], guard := none }) (v := .bool true) rfl (by decide) (by kernel_rfl) (by kernel_rfl) (by kernel_rfl) (fun _ _ _ h => h) (Or.inl ⟨by rfl, ?_⟩) hS0 ?_
  · intro W9 hS9
    obtain ⟨q0, q1, q2, q3⟩ := hS9
    clear q0 q1 q2 q3
    go_simp
  try simp only [Act.put, List.setIfInBounds_toArray, List.set_cons_zero, List.set_cons_succ]
  refine wpAnyN_take (i := 14) (oi := { dst := some 93, op := Go.Op.move (Go.Operand.tmp 92), type := 4, pos := "law.go:27", after := #[{ on := 13, ground := Go.Ground.data }, { on := 10, ground := Go.Ground.chain }], guard := none }) (v := .bool true) rfl (by decide) (by kernel_rfl) (by kernel_rfl) (by kernel_rfl) (fun _ _ _ h => h) (Or.inl ⟨by rfl, ?_⟩) hS0 ?_
  · intro W9 hS9
    obtain ⟨q0, q1, q2, q3⟩ := hS9
    clear q0 q1 q2 q3
    go_simp
  try simp only [Act.put, List.setIfInBounds_toArray, List.set_cons_zero, List.set_cons_succ]
  refine wpAnyN_take (i := 15) (oi := { dst := some 94, op := Go.Op.move (Go.Operand.tmp 15), type := 33, pos := "law.go:27", after := #[{ on := 14, ground := Go.Ground.guard }], guard := some (14, true) }) (v := .int .i64 0) rfl (by decide) (by kernel_rfl) (by kernel_rfl) (by kernel_rfl) (fun _ _ _ h => h) (Or.inl ⟨by rfl, ?_⟩) hS0 ?_
  · intro W9 hS9
    obtain ⟨q0, q1, q2, q3⟩ := hS9
    clear q0 q1 q2 q3
    go_simp
  try simp only [Act.put, List.setIfInBounds_toArray, List.set_cons_zero, List.set_cons_succ]
  refine wpAnyN_take (i := 16) (oi := { dst := some 95, op := Go.Op.binOp Go.BinOp.eql 33 (Go.Operand.tmp 94) (Go.Operand.const (Go.Value.int Go.IntKind.i64 0)) 33, type := 4, pos := "law.go:27", after := #[{ on := 15, ground := Go.Ground.data }, { on := 14, ground := Go.Ground.guard }], guard := some (14, true) }) (v := .bool true) rfl (by decide) (by kernel_rfl) (by kernel_rfl) (by kernel_rfl) (fun _ _ _ h => h) (Or.inl ⟨by rfl, ?_⟩) hS0 ?_
  · intro W9 hS9
    obtain ⟨q0, q1, q2, q3⟩ := hS9
    clear q0 q1 q2 q3
    go_simp
  try simp only [Act.put, List.setIfInBounds_toArray, List.set_cons_zero, List.set_cons_succ]
  refine wpAnyN_take (i := 17) (oi := { dst := some 96, op := Go.Op.pick (Go.Operand.tmp 93) (Go.Operand.tmp 95) (Go.Operand.const (Go.Value.bool false)), type := 4, pos := "law.go:27", after := #[{ on := 14, ground := Go.Ground.data }, { on := 16, ground := Go.Ground.data }], guard := none }) (v := .bool true) rfl (by decide) (by kernel_rfl) (by kernel_rfl) (by kernel_rfl) (fun _ _ _ h => h) (Or.inl ⟨by rfl, ?_⟩) hS0 ?_
  · intro W9 hS9
    obtain ⟨q0, q1, q2, q3⟩ := hS9
    clear q0 q1 q2 q3
    go_simp
  try simp only [Act.put, List.setIfInBounds_toArray, List.set_cons_zero, List.set_cons_succ]
  refine wpAnyN_take (i := 18) (oi := { dst := some 97, op := Go.Op.move (Go.Operand.tmp 96), type := 4, pos := "law.go:27", after := #[{ on := 17, ground := Go.Ground.data }, { on := 14, ground := Go.Ground.chain }], guard := none }) (v := .bool true) rfl (by decide) (by kernel_rfl) (by kernel_rfl) (by kernel_rfl) (fun _ _ _ h => h) (Or.inl ⟨by rfl, ?_⟩) hS0 ?_
  · intro W9 hS9
    obtain ⟨q0, q1, q2, q3⟩ := hS9
    clear q0 q1 q2 q3
    go_simp
  try simp only [Act.put, List.setIfInBounds_toArray, List.set_cons_zero, List.set_cons_succ]
  refine wpAnyN_take (i := 19) (oi := { dst := some 98, op := Go.Op.move (Go.Operand.tmp 18), type := 33, pos := "law.go:27", after := #[{ on := 18, ground := Go.Ground.guard }], guard := some (18, true) }) (v := .int .i64 4) rfl (by decide) (by kernel_rfl) (by kernel_rfl) (by kernel_rfl) (fun _ _ _ h => h) (Or.inl ⟨by rfl, ?_⟩) hS0 ?_
  · intro W9 hS9
    obtain ⟨q0, q1, q2, q3⟩ := hS9
    clear q0 q1 q2 q3
    go_simp
  try simp only [Act.put, List.setIfInBounds_toArray, List.set_cons_zero, List.set_cons_succ]
  refine wpAnyN_take (i := 20) (oi := { dst := some 99, op := Go.Op.binOp Go.BinOp.eql 33 (Go.Operand.tmp 98) (Go.Operand.const (Go.Value.int Go.IntKind.i64 4)) 33, type := 4, pos := "law.go:27", after := #[{ on := 19, ground := Go.Ground.data }, { on := 18, ground := Go.Ground.guard }], guard := some (18, true) }) (v := .bool true) rfl (by decide) (by kernel_rfl) (by kernel_rfl) (by kernel_rfl) (fun _ _ _ h => h) (Or.inl ⟨by rfl, ?_⟩) hS0 ?_
  · intro W9 hS9
    obtain ⟨q0, q1, q2, q3⟩ := hS9
    clear q0 q1 q2 q3
    go_simp
  try simp only [Act.put, List.setIfInBounds_toArray, List.set_cons_zero, List.set_cons_succ]
  refine wpAnyN_take (i := 21) (oi := { dst := some 100, op := Go.Op.pick (Go.Operand.tmp 97) (Go.Operand.tmp 99) (Go.Operand.const (Go.Value.bool false)), type := 4, pos := "law.go:27", after := #[{ on := 18, ground := Go.Ground.data }, { on := 20, ground := Go.Ground.data }], guard := none }) (v := .bool true) rfl (by decide) (by kernel_rfl) (by kernel_rfl) (by kernel_rfl) (fun _ _ _ h => h) (Or.inl ⟨by rfl, ?_⟩) hS0 ?_
  · intro W9 hS9
    obtain ⟨q0, q1, q2, q3⟩ := hS9
    clear q0 q1 q2 q3
    go_simp
  try simp only [Act.put, List.setIfInBounds_toArray, List.set_cons_zero, List.set_cons_succ]
  refine wpAnyN_take (i := 22) (oi := { dst := some 101, op := Go.Op.move (Go.Operand.tmp 100), type := 4, pos := "law.go:27", after := #[{ on := 21, ground := Go.Ground.data }, { on := 18, ground := Go.Ground.chain }], guard := none }) (v := .bool true) rfl (by decide) (by kernel_rfl) (by kernel_rfl) (by kernel_rfl) (fun _ _ _ h => h) (Or.inl ⟨by rfl, ?_⟩) hS0 ?_
  · intro W9 hS9
    obtain ⟨q0, q1, q2, q3⟩ := hS9
    clear q0 q1 q2 q3
    go_simp
  try simp only [Act.put, List.setIfInBounds_toArray, List.set_cons_zero, List.set_cons_succ]
  refine wpAnyN_take (i := 23) (oi := { dst := some 102, op := Go.Op.move (Go.Operand.tmp 5), type := 62, pos := "law.go:27", after := #[{ on := 22, ground := Go.Ground.guard }], guard := some (22, true) }) (v := .slice ta 1 tc) rfl (by decide) (by kernel_rfl) (by kernel_rfl) (by kernel_rfl) (fun _ _ _ h => h) (Or.inl ⟨by rfl, ?_⟩) hS0 ?_
  · intro W9 hS9
    obtain ⟨q0, q1, q2, q3⟩ := hS9
    clear q0 q1 q2 q3
    go_simp
  try simp only [Act.put, List.setIfInBounds_toArray, List.set_cons_zero, List.set_cons_succ]
  refine wpAnyN_take (i := 24) (oi := { dst := some 103, op := Go.Op.load 38 (Go.Operand.tmp 1), type := 38, pos := "law.go:27", after := #[{ on := 22, ground := Go.Ground.guard }], guard := some (22, true) }) (v := .agg #[.int .i64 0, .int .u64 0]) rfl (by decide) (by kernel_rfl) (by kernel_rfl) (by kernel_rfl) (fun _ _ _ h => h) (Or.inl ⟨by rfl, ?_⟩) hS0 ?_
  · intro W9 hS9
    obtain ⟨q0, q1, q2, q3⟩ := hS9
    have s0 : W9.cell? ⟨w.heap.size, 0, none⟩ = some (.int .i64 0) := q0.cell 0
    have s1 : W9.cell? ⟨w.heap.size, 1, none⟩ = some (.int .u64 0) := q0.cell 1
    clear q0 q1 q2 q3
    go_simp
  try simp only [Act.put, List.setIfInBounds_toArray, List.set_cons_zero, List.set_cons_succ]
  refine wpAnyX_one (i := 25) (o := { dst := some 104, op := Go.Op.buildSlice 62 1 #[(0, Go.Operand.tmp 103)], type := 62, pos := "law.go:27", after := #[{ on := 24, ground := Go.Ground.data }, { on := 22, ground := Go.Ground.guard }], guard := some (22, true) }) (by kernel_rfl) rfl (fun K hK => ?_)
  obtain ⟨g25, hg25⟩ : ∃ b, b = X0.heap.size := ⟨_, rfl⟩
  have hC : Below X0.heap.size X0 (X0.alloc (.cells #[.int .i64 0, .int .u64 0] 38)) := Rows8.newB
  have L25 := Lib.hid (lit_e0 X0)
  rw [← hg25] at L25
  refine step_value_g (by rfl) (.slice (some ⟨g25, 0, none⟩) 1 1) (w' := (X0.alloc (.cells #[.int .i64 0, .int .u64 0] 38))) (by rw [hg25]; go_simp) ?_
  clear hg25
  generalize (X0.alloc (.cells #[.int .i64 0, .int .u64 0] 38)) = x1 at *
  have hS1 : Rows8 x1 w.heap.size 38 #[.int .i64 0, .int .u64 0] ∧ Rows8 x1 B3 29 #[.slice y1.sa y1.sn y1.sc, .slice y1.pa y1.pn y1.pc, .slice y1.ha y1.hn y1.hc, .slice y1.ba y1.bn y1.bc] ∧ Rows8 x1 B7 29 #[.slice y2.sa y2.sn y2.sc, .slice y2.pa y2.pn y2.pc, .slice y2.ha y2.hn y2.hc, .slice y2.ba y2.bn y2.bc] ∧ Rows8 x1 B10 29 #[.slice y3.sa y3.sn y3.sc, .slice y3.pa y3.pn y3.pc, .slice y3.ha y3.hn y3.hc, .slice y3.ba y3.bn y3.bc] := ⟨hS0.1.below hC hS0.1.lt, hS0.2.1.below hC hS0.2.1.lt, hS0.2.2.1.below hC hS0.2.2.1.lt, hS0.2.2.2.below hC hS0.2.2.2.lt⟩
  have HM1 := Lib.hid (HM1.out.below hC (Nat.le_refl _))
  have HM3 := Lib.hid (HM3.out.below hC (Nat.le_refl _))
  have HT1 : Hid (PAt x1 (.slice ta 1 tc) [(0, 0)]) := Lib.hid (PAt.below HT1.out hC)
  have HT2 : Hid (PAt x1 (.slice tb 1 tc2) [(0, 1)]) := Lib.hid (PAt.below HT2.out hC)
  have HB := Lib.hid (HB.out.trans (hC.mono HB.out.size))
  clear hC
  refine hK.out _ _ (fun _ => hS1) ?_
  clear hK K
  try simp only [Act.put, List.setIfInBounds_toArray, List.set_cons_zero, List.set_cons_succ]
  refine wpAnyX_one (i := 26) (o := { dst := some 105, op := Go.Op.call { callee := Go.Callee.value (Go.Operand.func 30), args := #[Go.Operand.tmp 102, Go.Operand.tmp 104], argTypes := #[62, 62] }, type := 4, pos := "law.go:27", after := #[{ on := 23, ground := Go.Ground.data }, { on := 25, ground := Go.Ground.data }, { on := 22, ground := Go.Ground.chain }, { on := 22, ground := Go.Ground.guard }], guard := some (22, true) }) (by kernel_rfl) rfl (fun K hK => ?_)
  refine step_call_g (by rfl) 30 _ _ rfl (fun _ _ => by kernel_rfl) #[.slice ta 1 tc, .slice (some ⟨g25, 0, none⟩) 1 1] (by simp [go_sem]) _ (Try.eqEnt_yes HT1.out L25.out).out ?_
  rintro e x2 ⟨rfl, hC⟩
  refine ⟨_, rfl, ?_⟩
  have hS2 : Rows8 x2 w.heap.size 38 #[.int .i64 0, .int .u64 0] ∧ Rows8 x2 B3 29 #[.slice y1.sa y1.sn y1.sc, .slice y1.pa y1.pn y1.pc, .slice y1.ha y1.hn y1.hc, .slice y1.ba y1.bn y1.bc] ∧ Rows8 x2 B7 29 #[.slice y2.sa y2.sn y2.sc, .slice y2.pa y2.pn y2.pc, .slice y2.ha y2.hn y2.hc, .slice y2.ba y2.bn y2.bc] ∧ Rows8 x2 B10 29 #[.slice y3.sa y3.sn y3.sc, .slice y3.pa y3.pn y3.pc, .slice y3.ha y3.hn y3.hc, .slice y3.ba y3.bn y3.bc] := ⟨hS1.1.below hC hS1.1.lt, hS1.2.1.below hC hS1.2.1.lt, hS1.2.2.1.below hC hS1.2.2.1.lt, hS1.2.2.2.below hC hS1.2.2.2.lt⟩
  have HM1 := Lib.hid (HM1.out.below hC (Nat.le_refl _))
  have HM3 := Lib.hid (HM3.out.below hC (Nat.le_refl _))
  have HT1 : Hid (PAt x2 (.slice ta 1 tc) [(0, 0)]) := Lib.hid (PAt.below HT1.out hC)
  have HT2 : Hid (PAt x2 (.slice tb 1 tc2) [(0, 1)]) := Lib.hid (PAt.below HT2.out hC)
  have HB := Lib.hid (HB.out.trans (hC.mono HB.out.size))
  clear hC
  refine hK.out _ _ (fun _ => hS2) ?_
  clear hK K
  try simp only [Act.put, List.setIfInBounds_toArray, List.set_cons_zero, List.set_cons_succ]
  refine wpAnyN_take (i := 27) (oi := { dst := some 106, op := Go.Op.pick (Go.Operand.tmp 101) (Go.Operand.tmp 105) (Go.Operand.const (Go.Value.bool false)), type := 4, pos := "law.go:27", after := #[{ on := 22, ground := Go.Ground.data }, { on := 26, ground := Go.Ground.data }], guard := none }) (v := .bool true) rfl (by decide) (by kernel_rfl) (by kernel_rfl) (by kernel_rfl) (fun _ _ _ h => h) (Or.inl ⟨by rfl, ?_⟩) hS2 ?_
  · intro W9 hS9
    obtain ⟨q0, q1, q2, q3⟩ := hS9
    clear q0 q1 q2 q3
    go_simp
  try simp only [Act.put, List.setIfInBounds_toArray, List.set_cons_zero, List.set_cons_succ]
  refine wpAnyN_take (i := 28) (oi := { dst := some 107, op := Go.Op.move (Go.Operand.tmp 106), type := 4, pos := "law.go:27", after := #[{ on := 27, ground := Go.Ground.data }, { on := 26, ground := Go.Ground.chain }], guard := none }) (v := .bool true) rfl (by decide) (by kernel_rfl) (by kernel_rfl) (by kernel_rfl) (fun _ _ _ h => h) (Or.inl ⟨by rfl, ?_⟩) hS2 ?_
  · intro W9 hS9
    obtain ⟨q0, q1, q2, q3⟩ := hS9
    clear q0 q1 q2 q3
    go_simp
  try simp only [Act.put, List.setIfInBounds_toArray, List.set_cons_zero, List.set_cons_succ]
  refine wpAnyN_take (i := 29) (oi := { dst := some 108, op := Go.Op.move (Go.Operand.tmp 8), type := 62, pos := "law.go:27", after := #[{ on := 28, ground := Go.Ground.guard }], guard := some (28, true) }) (v := .slice tb 1 tc2) rfl (by decide) (by kernel_rfl) (by kernel_rfl) (by kernel_rfl) (fun _ _ _ h => h) (Or.inl ⟨by rfl, ?_⟩) hS2 ?_
  · intro W9 hS9
    obtain ⟨q0, q1, q2, q3⟩ := hS9
    clear q0 q1 q2 q3
    go_simp
  try simp only [Act.put, List.setIfInBounds_toArray, List.set_cons_zero, List.set_cons_succ]
  refine wpAnyN_take (i := 30) (oi := { dst := some 109, op := Go.Op.build 38 #[(1, Go.Operand.const (Go.Value.int Go.IntKind.u64 1))], type := 38, pos := "law.go:27", after := #[{ on := 28, ground := Go.Ground.guard }], guard := some (28, true) }) (v := .agg #[.int .i64 0, .int .u64 1]) rfl (by decide) (by kernel_rfl) (by kernel_rfl) (by kernel_rfl) (fun _ _ _ h => h) (Or.inl ⟨by rfl, ?_⟩) hS2 ?_
  · intro W9 hS9
    obtain ⟨q0, q1, q2, q3⟩ := hS9
    clear q0 q1 q2 q3
    go_simp
  try simp only [Act.put, List.setIfInBounds_toArray, List.set_cons_zero, List.set_cons_succ]
  refine wpAnyX_one (i := 31) (o := { dst := some 110, op := Go.Op.buildSlice 62 1 #[(0, Go.Operand.tmp 109)], type := 62, pos := "law.go:27", after := #[{ on := 30, ground := Go.Ground.data }, { on := 28, ground := Go.Ground.guard }], guard := some (28, true) }) (by kernel_rfl) rfl (fun K hK => ?_)
  obtain ⟨g31, hg31⟩ : ∃ b, b = x2.heap.size := ⟨_, rfl⟩
  have hC : Below x2.heap.size x2 (x2.alloc (.cells #[.int .i64 0, .int .u64 1] 38)) := Rows8.newB
  have L31 := Lib.hid (lit_e1 x2)
  rw [← hg31] at L31
  refine step_value_g (by rfl) (.slice (some ⟨g31, 0, none⟩) 1 1) (w' := (x2.alloc (.cells #[.int .i64 0, .int .u64 1] 38))) (by rw [hg31]; go_simp) ?_
  clear hg31
  generalize (x2.alloc (.cells #[.int .i64 0, .int .u64 1] 38)) = x3 at *
  have hS3 : Rows8 x3 w.heap.size 38 #[.int .i64 0, .int .u64 0] ∧ Rows8 x3 B3 29 #[.slice y1.sa y1.sn y1.sc, .slice y1.pa y1.pn y1.pc, .slice y1.ha y1.hn y1.hc, .slice y1.ba y1.bn y1.bc] ∧ Rows8 x3 B7 29 #[.slice y2.sa y2.sn y2.sc, .slice y2.pa y2.pn y2.pc, .slice y2.ha y2.hn y2.hc, .slice y2.ba y2.bn y2.bc] ∧ Rows8 x3 B10 29 #[.slice y3.sa y3.sn y3.sc, .slice y3.pa y3.pn y3.pc, .slice y3.ha y3.hn y3.hc, .slice y3.ba y3.bn y3.bc] := ⟨hS2.1.below hC hS2.1.lt, hS2.2.1.below hC hS2.2.1.lt, hS2.2.2.1.below hC hS2.2.2.1.lt, hS2.2.2.2.below hC hS2.2.2.2.lt⟩
  have HM1 := Lib.hid (HM1.out.below hC (Nat.le_refl _))
  have HM3 := Lib.hid (HM3.out.below hC (Nat.le_refl _))
  have HT1 : Hid (PAt x3 (.slice ta 1 tc) [(0, 0)]) := Lib.hid (PAt.below HT1.out hC)
  have HT2 : Hid (PAt x3 (.slice tb 1 tc2) [(0, 1)]) := Lib.hid (PAt.below HT2.out hC)
  have HB := Lib.hid (HB.out.trans (hC.mono HB.out.size))
  clear hC
  refine hK.out _ _ (fun _ => hS3) ?_
  clear hK K
  try simp only [Act.put, List.setIfInBounds_toArray, List.set_cons_zero, List.set_cons_succ]
  refine wpAnyX_one (i := 32) (o := { dst := some 111, op := Go.Op.call { callee := Go.Callee.value (Go.Operand.func 30), args := #[Go.Operand.tmp 108, Go.Operand.tmp 110], argTypes := #[62, 62] }, type := 4, pos := "law.go:27", after := #[{ on := 29, ground := Go.Ground.data }, { on := 31, ground := Go.Ground.data }, { on := 28, ground := Go.Ground.chain }, { on := 28, ground := Go.Ground.guard }], guard := some (28, true) }) (by kernel_rfl) rfl (fun K hK => ?_)
  refine step_call_g (by rfl) 30 _ _ rfl (fun _ _ => by kernel_rfl) #[.slice tb 1 tc2, .slice (some ⟨g31, 0, none⟩) 1 1] (by simp [go_sem]) _ (Try.eqEnt_yes HT2.out L31.out).out ?_
  rintro e x4 ⟨rfl, hC⟩
  refine ⟨_, rfl, ?_⟩
  have hS4 : Rows8 x4 w.heap.size 38 #[.int .i64 0, .int .u64 0] ∧ Rows8 x4 B3 29 #[.slice y1.sa y1.sn y1.sc, .slice y1.pa y1.pn y1.pc, .slice y1.ha y1.hn y1.hc, .slice y1.ba y1.bn y1.bc] ∧ Rows8 x4 B7 29 #[.slice y2.sa y2.sn y2.sc, .slice y2.pa y2.pn y2.pc, .slice y2.ha y2.hn y2.hc, .slice y2.ba y2.bn y2.bc] ∧ Rows8 x4 B10 29 #[.slice y3.sa y3.sn y3.sc, .slice y3.pa y3.pn y3.pc, .slice y3.ha y3.hn y3.hc, .slice y3.ba y3.bn y3.bc] := ⟨hS3.1.below hC hS3.1.lt, hS3.2.1.below hC hS3.2.1.lt, hS3.2.2.1.below hC hS3.2.2.1.lt, hS3.2.2.2.below hC hS3.2.2.2.lt⟩
  have HM1 := Lib.hid (HM1.out.below hC (Nat.le_refl _))
  have HM3 := Lib.hid (HM3.out.below hC (Nat.le_refl _))
  have HT1 : Hid (PAt x4 (.slice ta 1 tc) [(0, 0)]) := Lib.hid (PAt.below HT1.out hC)
  have HT2 : Hid (PAt x4 (.slice tb 1 tc2) [(0, 1)]) := Lib.hid (PAt.below HT2.out hC)
  have HB := Lib.hid (HB.out.trans (hC.mono HB.out.size))
  clear hC
  refine hK.out _ _ (fun _ => hS4) ?_
  clear hK K
  try simp only [Act.put, List.setIfInBounds_toArray, List.set_cons_zero, List.set_cons_succ]
  refine wpAnyN_take (i := 33) (oi := { dst := some 112, op := Go.Op.pick (Go.Operand.tmp 107) (Go.Operand.tmp 111) (Go.Operand.const (Go.Value.bool false)), type := 4, pos := "law.go:27", after := #[{ on := 28, ground := Go.Ground.data }, { on := 32, ground := Go.Ground.data }], guard := none }) (v := .bool true) rfl (by decide) (by kernel_rfl) (by kernel_rfl) (by kernel_rfl) (fun _ _ _ h => h) (Or.inl ⟨by rfl, ?_⟩) hS4 ?_
  · intro W9 hS9
    obtain ⟨q0, q1, q2, q3⟩ := hS9
    clear q0 q1 q2 q3
    go_simp
  try simp only [Act.put, List.setIfInBounds_toArray, List.set_cons_zero, List.set_cons_succ]
  refine wpAnyN_take (i := 34) (oi := { dst := some 113, op := Go.Op.move (Go.Operand.tmp 112), type := 4, pos := "law.go:27", after := #[{ on := 33, ground := Go.Ground.data }, { on := 32, ground := Go.Ground.chain }], guard := none }) (v := .bool true) rfl (by decide) (by kernel_rfl) (by kernel_rfl) (by kernel_rfl) (fun _ _ _ h => h) (Or.inl ⟨by rfl, ?_⟩) hS4 ?_
  · intro W9 hS9
    obtain ⟨q0, q1, q2, q3⟩ := hS9
    clear q0 q1 q2 q3
    go_simp
  try simp only [Act.put, List.setIfInBounds_toArray, List.set_cons_zero, List.set_cons_succ]
  refine wpAnyN_take (i := 35) (oi := { dst := some 114, op := Go.Op.load 29 (Go.Operand.tmp 3), type := 29, pos := "law.go:27", after := #[{ on := 34, ground := Go.Ground.guard }], guard := some (34, true) }) (v := .agg #[.slice y1.sa y1.sn y1.sc, .slice y1.pa y1.pn y1.pc, .slice y1.ha y1.hn y1.hc, .slice y1.ba y1.bn y1.bc]) rfl (by decide) (by kernel_rfl) (by kernel_rfl) (by kernel_rfl) (fun _ _ _ h => h) (Or.inl ⟨by rfl, ?_⟩) hS4 ?_
  · intro W9 hS9
    obtain ⟨q0, q1, q2, q3⟩ := hS9
    have s0 : W9.cell? ⟨B3, 0, none⟩ = some (.slice y1.sa y1.sn y1.sc) := q1.cell 0
    have s1 : W9.cell? ⟨B3, 1, none⟩ = some (.slice y1.pa y1.pn y1.pc) := q1.cell 1
    have s2 : W9.cell? ⟨B3, 2, none⟩ = some (.slice y1.ha y1.hn y1.hc) := q1.cell 2
    have s3 : W9.cell? ⟨B3, 3, none⟩ = some (.slice y1.ba y1.bn y1.bc) := q1.cell 3
    clear q0 q1 q2 q3
    go_simp
  try simp only [Act.put, List.setIfInBounds_toArray, List.set_cons_zero, List.set_cons_succ]
  refine wpAnyN_take (i := 36) (oi := { dst := some 115, op := Go.Op.load 38 (Go.Operand.tmp 1), type := 38, pos := "law.go:27", after := #[{ on := 34, ground := Go.Ground.guard }], guard := some (34, true) }) (v := .agg #[.int .i64 0, .int .u64 0]) rfl (by decide) (by kernel_rfl) (by kernel_rfl) (by kernel_rfl) (fun _ _ _ h => h) (Or.inl ⟨by rfl, ?_⟩) hS4 ?_
  · intro W9 hS9
    obtain ⟨q0, q1, q2, q3⟩ := hS9
    have s0 : W9.cell? ⟨w.heap.size, 0, none⟩ = some (.int .i64 0) := q0.cell 0
    have s1 : W9.cell? ⟨w.heap.size, 1, none⟩ = some (.int .u64 0) := q0.cell 1
    clear q0 q1 q2 q3
    go_simp
  try simp only [Act.put, List.setIfInBounds_toArray, List.set_cons_zero, List.set_cons_succ]
  refine wpAnyX_two (i := 37) (j := 38) (oi := { dst := some 116, op := Go.Op.call { callee := Go.Callee.value (Go.Operand.func 19), args := #[Go.Operand.tmp 114, Go.Operand.tmp 115], argTypes := #[29, 38] }, type := 41, pos := "law.go:27", after := #[{ on := 35, ground := Go.Ground.data }, { on := 36, ground := Go.Ground.data }, { on := 34, ground := Go.Ground.chain }, { on := 34, ground := Go.Ground.guard }], guard := some (34, true) }) (oj := { dst := some 117, op := Go.Op.buildSlice 41 2 #[(0, Go.Operand.const (Go.Value.int Go.IntKind.i64 0)), (1, Go.Operand.const (Go.Value.int Go.IntKind.i64 1))], type := 41, pos := "law.go:27", after := #[{ on := 34, ground := Go.Ground.guard }], guard := some (34, true) }) (by kernel_rfl) rfl rfl (fun K hK => ?_) (fun K hK => ?_)
  · refine step_call_g (by rfl) 19 _ _ rfl (fun _ _ => by kernel_rfl) #[.agg #[.slice y1.sa y1.sn y1.sc, .slice y1.pa y1.pn y1.pc, .slice y1.ha y1.hn y1.hc, .slice y1.ba y1.bn y1.bc], .agg #[.int .i64 0, .int .u64 0]] (by simp [go_sem]) _ (Try.hold_one x4 HM1.out).out ?_
    rintro e x7 ⟨v37, rfl, hO37, hC⟩
    refine ⟨_, rfl, ?_⟩
    obtain ⟨a37, d37, rfl, I37⟩ := ints2 hO37
    have I37 := Lib.hid I37
    clear hO37
    have hS5 : Rows8 x7 w.heap.size 38 #[.int .i64 0, .int .u64 0] ∧ Rows8 x7 B3 29 #[.slice y1.sa y1.sn y1.sc, .slice y1.pa y1.pn y1.pc, .slice y1.ha y1.hn y1.hc, .slice y1.ba y1.bn y1.bc] ∧ Rows8 x7 B7 29 #[.slice y2.sa y2.sn y2.sc, .slice y2.pa y2.pn y2.pc, .slice y2.ha y2.hn y2.hc, .slice y2.ba y2.bn y2.bc] ∧ Rows8 x7 B10 29 #[.slice y3.sa y3.sn y3.sc, .slice y3.pa y3.pn y3.pc, .slice y3.ha y3.hn y3.hc, .slice y3.ba y3.bn y3.bc] := ⟨hS4.1.below hC hS4.1.lt, hS4.2.1.below hC hS4.2.1.lt, hS4.2.2.1.below hC hS4.2.2.1.lt, hS4.2.2.2.below hC hS4.2.2.2.lt⟩
    have HM1 := Lib.hid (HM1.out.below hC (Nat.le_refl _))
    have HM3 := Lib.hid (HM3.out.below hC (Nat.le_refl _))
    have HT1 : Hid (PAt x7 (.slice ta 1 tc) [(0, 0)]) := Lib.hid (PAt.below HT1.out hC)
    have HT2 : Hid (PAt x7 (.slice tb 1 tc2) [(0, 1)]) := Lib.hid (PAt.below HT2.out hC)
    have HB := Lib.hid (HB.out.trans (hC.mono HB.out.size))
    clear hC
    refine hK.out _ _ (fun _ => hS5) ?_
    clear hK K
    try simp only [Act.put, List.setIfInBounds_toArray, List.set_cons_zero, List.set_cons_succ]
    refine wpAnyX_one (i := 38) (o := { dst := some 117, op := Go.Op.buildSlice 41 2 #[(0, Go.Operand.const (Go.Value.int Go.IntKind.i64 0)), (1, Go.Operand.const (Go.Value.int Go.IntKind.i64 1))], type := 41, pos := "law.go:27", after := #[{ on := 34, ground := Go.Ground.guard }], guard := some (34, true) }) (by kernel_rfl) rfl (fun K hK => ?_)
    obtain ⟨g38, hg38⟩ : ∃ b, b = x7.heap.size := ⟨_, rfl⟩
    have hC : Below x7.heap.size x7 (x7.alloc (.cells #[.int .i64 0, .int .i64 1] 3)) := Rows8.newB
    have L38 := Lib.hid (lit_i2 x7)
    rw [← hg38] at L38
    refine step_value_g (by rfl) (.slice (some ⟨g38, 0, none⟩) 2 2) (w' := (x7.alloc (.cells #[.int .i64 0, .int .i64 1] 3))) (by rw [hg38]; go_simp) ?_
    clear hg38
    generalize (x7.alloc (.cells #[.int .i64 0, .int .i64 1] 3)) = x8 at *
    have hS6 : Rows8 x8 w.heap.size 38 #[.int .i64 0, .int .u64 0] ∧ Rows8 x8 B3 29 #[.slice y1.sa y1.sn y1.sc, .slice y1.pa y1.pn y1.pc, .slice y1.ha y1.hn y1.hc, .slice y1.ba y1.bn y1.bc] ∧ Rows8 x8 B7 29 #[.slice y2.sa y2.sn y2.sc, .slice y2.pa y2.pn y2.pc, .slice y2.ha y2.hn y2.hc, .slice y2.ba y2.bn y2.bc] ∧ Rows8 x8 B10 29 #[.slice y3.sa y3.sn y3.sc, .slice y3.pa y3.pn y3.pc, .slice y3.ha y3.hn y3.hc, .slice y3.ba y3.bn y3.bc] := ⟨hS5.1.below hC hS5.1.lt, hS5.2.1.below hC hS5.2.1.lt, hS5.2.2.1.below hC hS5.2.2.1.lt, hS5.2.2.2.below hC hS5.2.2.2.lt⟩
    have HM1 := Lib.hid (HM1.out.below hC (Nat.le_refl _))
    have HM3 := Lib.hid (HM3.out.below hC (Nat.le_refl _))
    have HT1 : Hid (PAt x8 (.slice ta 1 tc) [(0, 0)]) := Lib.hid (PAt.below HT1.out hC)
    have HT2 : Hid (PAt x8 (.slice tb 1 tc2) [(0, 1)]) := Lib.hid (PAt.below HT2.out hC)
    have I37 := Lib.hid (show IntsAt _ _ _ from RowAt.below I37.out hC)
    have HB := Lib.hid (HB.out.trans (hC.mono HB.out.size))
    clear hC
    refine hK.out _ _ (fun _ => hS6) ?_
    clear hK K
    try simp only [Act.put, List.setIfInBounds_toArray, List.set_cons_zero, List.set_cons_succ]
    have I38 := L38
    clear L38
    refine wpAnyX_one (i := 39) (o := { dst := some 118, op := Go.Op.call { callee := Go.Callee.value (Go.Operand.func 18), args := #[Go.Operand.tmp 116, Go.Operand.tmp 117], argTypes := #[41, 41] }, type := 4, pos := "law.go:27", after := #[{ on := 37, ground := Go.Ground.data }, { on := 38, ground := Go.Ground.data }, { on := 37, ground := Go.Ground.chain }, { on := 34, ground := Go.Ground.guard }], guard := some (34, true) }) (by kernel_rfl) rfl (fun K hK => ?_)
    refine step_call_g (by rfl) 18 _ _ rfl (fun _ _ => by kernel_rfl) #[.slice a37 2 d37, .slice (some ⟨g38, 0, none⟩) 2 2] (by simp [go_sem]) _ (Try.eqInt_yes I37.out I38.out).out ?_
    rintro e x9 ⟨rfl, hC⟩
    refine ⟨_, rfl, ?_⟩
    have hS7 : Rows8 x9 w.heap.size 38 #[.int .i64 0, .int .u64 0] ∧ Rows8 x9 B3 29 #[.slice y1.sa y1.sn y1.sc, .slice y1.pa y1.pn y1.pc, .slice y1.ha y1.hn y1.hc, .slice y1.ba y1.bn y1.bc] ∧ Rows8 x9 B7 29 #[.slice y2.sa y2.sn y2.sc, .slice y2.pa y2.pn y2.pc, .slice y2.ha y2.hn y2.hc, .slice y2.ba y2.bn y2.bc] ∧ Rows8 x9 B10 29 #[.slice y3.sa y3.sn y3.sc, .slice y3.pa y3.pn y3.pc, .slice y3.ha y3.hn y3.hc, .slice y3.ba y3.bn y3.bc] := ⟨hS6.1.below hC hS6.1.lt, hS6.2.1.below hC hS6.2.1.lt, hS6.2.2.1.below hC hS6.2.2.1.lt, hS6.2.2.2.below hC hS6.2.2.2.lt⟩
    have HM1 := Lib.hid (HM1.out.below hC (Nat.le_refl _))
    have HM3 := Lib.hid (HM3.out.below hC (Nat.le_refl _))
    have HT1 : Hid (PAt x9 (.slice ta 1 tc) [(0, 0)]) := Lib.hid (PAt.below HT1.out hC)
    have HT2 : Hid (PAt x9 (.slice tb 1 tc2) [(0, 1)]) := Lib.hid (PAt.below HT2.out hC)
    have HB := Lib.hid (HB.out.trans (hC.mono HB.out.size))
    clear hC
    refine hK.out _ _ (fun _ => hS7) ?_
    clear hK K
    try simp only [Act.put, List.setIfInBounds_toArray, List.set_cons_zero, List.set_cons_succ]
    clear I37 I38
    refine wpAnyN_take (i := 40) (oi := { dst := some 119, op := Go.Op.pick (Go.Operand.tmp 113) (Go.Operand.tmp 118) (Go.Operand.const (Go.Value.bool false)), type := 4, pos := "law.go:27", after := #[{ on := 34, ground := Go.Ground.data }, { on := 39, ground := Go.Ground.data }], guard := none }) (v := .bool true) rfl (by decide) (by kernel_rfl) (by kernel_rfl) (by kernel_rfl) (fun _ _ _ h => h) (Or.inl ⟨by rfl, ?_⟩) hS7 ?_
    · intro W9 hS9
      obtain ⟨q0, q1, q2, q3⟩ := hS9
      clear q0 q1 q2 q3
      go_simp
    try simp only [Act.put, List.setIfInBounds_toArray, List.set_cons_zero, List.set_cons_succ]
    refine wpAnyN_take (i := 41) (oi := { dst := some 120, op := Go.Op.move (Go.Operand.tmp 119), type := 4, pos := "law.go:27", after := #[{ on := 40, ground := Go.Ground.data }, { on := 39, ground := Go.Ground.chain }], guard := none }) (v := .bool true) rfl (by decide) (by kernel_rfl) (by kernel_rfl) (by kernel_rfl) (fun _ _ _ h => h) (Or.inl ⟨by rfl, ?_⟩) hS7 ?_
    · intro W9 hS9
      obtain ⟨q0, q1, q2, q3⟩ := hS9
      clear q0 q1 q2 q3
      go_simp
    try simp only [Act.put, List.setIfInBounds_toArray, List.set_cons_zero, List.set_cons_succ]
    refine wpAnyN_take (i := 42) (oi := { dst := some 121, op := Go.Op.load 29 (Go.Operand.tmp 3), type := 29, pos := "law.go:27", after := #[{ on := 41, ground := Go.Ground.guard }], guard := some (41, true) }) (v := .agg #[.slice y1.sa y1.sn y1.sc, .slice y1.pa y1.pn y1.pc, .slice y1.ha y1.hn y1.hc, .slice y1.ba y1.bn y1.bc]) rfl (by decide) (by kernel_rfl) (by kernel_rfl) (by kernel_rfl) (fun _ _ _ h => h) (Or.inl ⟨by rfl, ?_⟩) hS7 ?_
    · intro W9 hS9
      obtain ⟨q0, q1, q2, q3⟩ := hS9
      have s0 : W9.cell? ⟨B3, 0, none⟩ = some (.slice y1.sa y1.sn y1.sc) := q1.cell 0
      have s1 : W9.cell? ⟨B3, 1, none⟩ = some (.slice y1.pa y1.pn y1.pc) := q1.cell 1
      have s2 : W9.cell? ⟨B3, 2, none⟩ = some (.slice y1.ha y1.hn y1.hc) := q1.cell 2
      have s3 : W9.cell? ⟨B3, 3, none⟩ = some (.slice y1.ba y1.bn y1.bc) := q1.cell 3
      clear q0 q1 q2 q3
      go_simp
    try simp only [Act.put, List.setIfInBounds_toArray, List.set_cons_zero, List.set_cons_succ]
    refine wpAnyN_take (i := 43) (oi := { dst := some 122, op := Go.Op.load 38 (Go.Operand.tmp 1), type := 38, pos := "law.go:27", after := #[{ on := 41, ground := Go.Ground.guard }], guard := some (41, true) }) (v := .agg #[.int .i64 0, .int .u64 0]) rfl (by decide) (by kernel_rfl) (by kernel_rfl) (by kernel_rfl) (fun _ _ _ h => h) (Or.inl ⟨by rfl, ?_⟩) hS7 ?_
    · intro W9 hS9
      obtain ⟨q0, q1, q2, q3⟩ := hS9
      have s0 : W9.cell? ⟨w.heap.size, 0, none⟩ = some (.int .i64 0) := q0.cell 0
      have s1 : W9.cell? ⟨w.heap.size, 1, none⟩ = some (.int .u64 0) := q0.cell 1
      clear q0 q1 q2 q3
      go_simp
    try simp only [Act.put, List.setIfInBounds_toArray, List.set_cons_zero, List.set_cons_succ]
    refine wpAnyX_one (i := 44) (o := { dst := some 123, op := Go.Op.call { callee := Go.Callee.value (Go.Operand.func 17), args := #[Go.Operand.tmp 121, Go.Operand.tmp 122], argTypes := #[29, 38] }, type := 4, pos := "law.go:27", after := #[{ on := 42, ground := Go.Ground.data }, { on := 43, ground := Go.Ground.data }, { on := 41, ground := Go.Ground.chain }, { on := 41, ground := Go.Ground.guard }], guard := some (41, true) }) (by kernel_rfl) rfl (fun K hK => ?_)
    refine step_call_g (by rfl) 17 _ _ rfl (fun _ _ => by kernel_rfl) #[.agg #[.slice y1.sa y1.sn y1.sc, .slice y1.pa y1.pn y1.pc, .slice y1.ha y1.hn y1.hc, .slice y1.ba y1.bn y1.bc], .agg #[.int .i64 0, .int .u64 0]] (by simp [go_sem]) _ (Try.safe_one x9 HM1.out).out ?_
    rintro e x10 ⟨rfl, hC⟩
    refine ⟨_, rfl, ?_⟩
    have hS8 : Rows8 x10 w.heap.size 38 #[.int .i64 0, .int .u64 0] ∧ Rows8 x10 B3 29 #[.slice y1.sa y1.sn y1.sc, .slice y1.pa y1.pn y1.pc, .slice y1.ha y1.hn y1.hc, .slice y1.ba y1.bn y1.bc] ∧ Rows8 x10 B7 29 #[.slice y2.sa y2.sn y2.sc, .slice y2.pa y2.pn y2.pc, .slice y2.ha y2.hn y2.hc, .slice y2.ba y2.bn y2.bc] ∧ Rows8 x10 B10 29 #[.slice y3.sa y3.sn y3.sc, .slice y3.pa y3.pn y3.pc, .slice y3.ha y3.hn y3.hc, .slice y3.ba y3.bn y3.bc] := ⟨hS7.1.below hC hS7.1.lt, hS7.2.1.below hC hS7.2.1.lt, hS7.2.2.1.below hC hS7.2.2.1.lt, hS7.2.2.2.below hC hS7.2.2.2.lt⟩
    have HM1 := Lib.hid (HM1.out.below hC (Nat.le_refl _))
    have HM3 := Lib.hid (HM3.out.below hC (Nat.le_refl _))
    have HT1 : Hid (PAt x10 (.slice ta 1 tc) [(0, 0)]) := Lib.hid (PAt.below HT1.out hC)
    have HT2 : Hid (PAt x10 (.slice tb 1 tc2) [(0, 1)]) := Lib.hid (PAt.below HT2.out hC)
    have HB := Lib.hid (HB.out.trans (hC.mono HB.out.size))
    clear hC
    refine hK.out _ _ (fun _ => hS8) ?_
    clear hK K
    try simp only [Act.put, List.setIfInBounds_toArray, List.set_cons_zero, List.set_cons_succ]
    refine wpAnyN_take (i := 45) (oi := { dst := some 124, op := Go.Op.unOp Go.UnOp.not 4 (Go.Operand.tmp 123), type := 4, pos := "law.go:27", after := #[{ on := 44, ground := Go.Ground.data }, { on := 41, ground := Go.Ground.guard }], guard := some (41, true) }) (v := .bool true) rfl (by decide) (by kernel_rfl) (by kernel_rfl) (by kernel_rfl) (fun _ _ _ h => h) (Or.inl ⟨by rfl, ?_⟩) hS8 ?_
    · intro W9 hS9
      obtain ⟨q0, q1, q2, q3⟩ := hS9
      clear q0 q1 q2 q3
      go_simp
    try simp only [Act.put, List.setIfInBounds_toArray, List.set_cons_zero, List.set_cons_succ]
    refine wpAnyN_take (i := 46) (oi := { dst := some 125, op := Go.Op.pick (Go.Operand.tmp 120) (Go.Operand.tmp 124) (Go.Operand.const (Go.Value.bool false)), type := 4, pos := "law.go:27", after := #[{ on := 41, ground := Go.Ground.data }, { on := 45, ground := Go.Ground.data }], guard := none }) (v := .bool true) rfl (by decide) (by kernel_rfl) (by kernel_rfl) (by kernel_rfl) (fun _ _ _ h => h) (Or.inl ⟨by rfl, ?_⟩) hS8 ?_
    · intro W9 hS9
      obtain ⟨q0, q1, q2, q3⟩ := hS9
      clear q0 q1 q2 q3
      go_simp
    try simp only [Act.put, List.setIfInBounds_toArray, List.set_cons_zero, List.set_cons_succ]
    refine wpAnyN_take (i := 47) (oi := { dst := some 126, op := Go.Op.move (Go.Operand.tmp 125), type := 4, pos := "law.go:27", after := #[{ on := 46, ground := Go.Ground.data }, { on := 44, ground := Go.Ground.chain }], guard := none }) (v := .bool true) rfl (by decide) (by kernel_rfl) (by kernel_rfl) (by kernel_rfl) (fun _ _ _ h => h) (Or.inl ⟨by rfl, ?_⟩) hS8 ?_
    · intro W9 hS9
      obtain ⟨q0, q1, q2, q3⟩ := hS9
      clear q0 q1 q2 q3
      go_simp
    try simp only [Act.put, List.setIfInBounds_toArray, List.set_cons_zero, List.set_cons_succ]
    refine wpAnyN_take (i := 48) (oi := { dst := some 127, op := Go.Op.load 29 (Go.Operand.tmp 3), type := 29, pos := "law.go:27", after := #[{ on := 47, ground := Go.Ground.guard }], guard := some (47, true) }) (v := .agg #[.slice y1.sa y1.sn y1.sc, .slice y1.pa y1.pn y1.pc, .slice y1.ha y1.hn y1.hc, .slice y1.ba y1.bn y1.bc]) rfl (by decide) (by kernel_rfl) (by kernel_rfl) (by kernel_rfl) (fun _ _ _ h => h) (Or.inl ⟨by rfl, ?_⟩) hS8 ?_
    · intro W9 hS9
      obtain ⟨q0, q1, q2, q3⟩ := hS9
      have s0 : W9.cell? ⟨B3, 0, none⟩ = some (.slice y1.sa y1.sn y1.sc) := q1.cell 0
      have s1 : W9.cell? ⟨B3, 1, none⟩ = some (.slice y1.pa y1.pn y1.pc) := q1.cell 1
      have s2 : W9.cell? ⟨B3, 2, none⟩ = some (.slice y1.ha y1.hn y1.hc) := q1.cell 2
      have s3 : W9.cell? ⟨B3, 3, none⟩ = some (.slice y1.ba y1.bn y1.bc) := q1.cell 3
      clear q0 q1 q2 q3
      go_simp
    try simp only [Act.put, List.setIfInBounds_toArray, List.set_cons_zero, List.set_cons_succ]
    refine wpAnyN_take (i := 49) (oi := { dst := some 128, op := Go.Op.load 38 (Go.Operand.tmp 1), type := 38, pos := "law.go:27", after := #[{ on := 47, ground := Go.Ground.guard }], guard := some (47, true) }) (v := .agg #[.int .i64 0, .int .u64 0]) rfl (by decide) (by kernel_rfl) (by kernel_rfl) (by kernel_rfl) (fun _ _ _ h => h) (Or.inl ⟨by rfl, ?_⟩) hS8 ?_
    · intro W9 hS9
      obtain ⟨q0, q1, q2, q3⟩ := hS9
      have s0 : W9.cell? ⟨w.heap.size, 0, none⟩ = some (.int .i64 0) := q0.cell 0
      have s1 : W9.cell? ⟨w.heap.size, 1, none⟩ = some (.int .u64 0) := q0.cell 1
      clear q0 q1 q2 q3
      go_simp
    try simp only [Act.put, List.setIfInBounds_toArray, List.set_cons_zero, List.set_cons_succ]
    refine wpAnyX_one (i := 50) (o := { dst := some 129, op := Go.Op.call { callee := Go.Callee.value (Go.Operand.func 26), args := #[Go.Operand.const (Go.Value.int Go.IntKind.i64 4), Go.Operand.const (Go.Value.int Go.IntKind.i64 1), Go.Operand.tmp 128], argTypes := #[3, 3, 38] }, type := 40, pos := "law.go:27", after := #[{ on := 49, ground := Go.Ground.data }, { on := 47, ground := Go.Ground.chain }, { on := 47, ground := Go.Ground.guard }], guard := some (47, true) }) (by kernel_rfl) rfl (fun K hK => ?_)
    refine step_call_g (by rfl) 26 _ _ rfl (fun _ _ => by kernel_rfl) #[.int .i64 4, .int .i64 1, .agg #[.int .i64 0, .int .u64 0]] (by simp [go_sem]) _ (HWA 4 1 x10).out ?_
    rintro e x11 ⟨rfl, hC⟩
    refine ⟨_, rfl, ?_⟩
    have hS9 : Rows8 x11 w.heap.size 38 #[.int .i64 0, .int .u64 0] ∧ Rows8 x11 B3 29 #[.slice y1.sa y1.sn y1.sc, .slice y1.pa y1.pn y1.pc, .slice y1.ha y1.hn y1.hc, .slice y1.ba y1.bn y1.bc] ∧ Rows8 x11 B7 29 #[.slice y2.sa y2.sn y2.sc, .slice y2.pa y2.pn y2.pc, .slice y2.ha y2.hn y2.hc, .slice y2.ba y2.bn y2.bc] ∧ Rows8 x11 B10 29 #[.slice y3.sa y3.sn y3.sc, .slice y3.pa y3.pn y3.pc, .slice y3.ha y3.hn y3.hc, .slice y3.ba y3.bn y3.bc] := ⟨hS8.1.below hC hS8.1.lt, hS8.2.1.below hC hS8.2.1.lt, hS8.2.2.1.below hC hS8.2.2.1.lt, hS8.2.2.2.below hC hS8.2.2.2.lt⟩
    have HM1 := Lib.hid (HM1.out.below hC (Nat.le_refl _))
    have HM3 := Lib.hid (HM3.out.below hC (Nat.le_refl _))
    have HT1 : Hid (PAt x11 (.slice ta 1 tc) [(0, 0)]) := Lib.hid (PAt.below HT1.out hC)
    have HT2 : Hid (PAt x11 (.slice tb 1 tc2) [(0, 1)]) := Lib.hid (PAt.below HT2.out hC)
    have HB := Lib.hid (HB.out.trans (hC.mono HB.out.size))
    clear hC
    refine hK.out _ _ (fun _ => hS9) ?_
    clear hK K
    try simp only [Act.put, List.setIfInBounds_toArray, List.set_cons_zero, List.set_cons_succ]
    refine wpAnyX_one (i := 51) (o := { dst := some 130, op := Go.Op.call { callee := Go.Callee.value (Go.Operand.func 16), args := #[Go.Operand.tmp 127, Go.Operand.tmp 129], argTypes := #[29, 40] }, type := 4, pos := "law.go:27", after := #[{ on := 48, ground := Go.Ground.data }, { on := 50, ground := Go.Ground.data }, { on := 50, ground := Go.Ground.chain }, { on := 47, ground := Go.Ground.guard }], guard := some (47, true) }) (by kernel_rfl) rfl (fun K hK => ?_)
    refine step_call_g (by rfl) 16 _ _ rfl (fun _ _ => by kernel_rfl) #[.agg #[.slice y1.sa y1.sn y1.sc, .slice y1.pa y1.pn y1.pc, .slice y1.ha y1.hn y1.hc, .slice y1.ba y1.bn y1.bc], .agg #[.int .i64 4, .int .i64 1, .int .i64 0, .int .u64 0]] (by simp [go_sem]) _ (Try.good_1 x11 HM1.out).out ?_
    rintro e x12 ⟨rfl, hC⟩
    refine ⟨_, rfl, ?_⟩
    have hS10 : Rows8 x12 w.heap.size 38 #[.int .i64 0, .int .u64 0] ∧ Rows8 x12 B3 29 #[.slice y1.sa y1.sn y1.sc, .slice y1.pa y1.pn y1.pc, .slice y1.ha y1.hn y1.hc, .slice y1.ba y1.bn y1.bc] ∧ Rows8 x12 B7 29 #[.slice y2.sa y2.sn y2.sc, .slice y2.pa y2.pn y2.pc, .slice y2.ha y2.hn y2.hc, .slice y2.ba y2.bn y2.bc] ∧ Rows8 x12 B10 29 #[.slice y3.sa y3.sn y3.sc, .slice y3.pa y3.pn y3.pc, .slice y3.ha y3.hn y3.hc, .slice y3.ba y3.bn y3.bc] := ⟨hS9.1.below hC hS9.1.lt, hS9.2.1.below hC hS9.2.1.lt, hS9.2.2.1.below hC hS9.2.2.1.lt, hS9.2.2.2.below hC hS9.2.2.2.lt⟩
    have HM1 := Lib.hid (HM1.out.below hC (Nat.le_refl _))
    have HM3 := Lib.hid (HM3.out.below hC (Nat.le_refl _))
    have HT1 : Hid (PAt x12 (.slice ta 1 tc) [(0, 0)]) := Lib.hid (PAt.below HT1.out hC)
    have HT2 : Hid (PAt x12 (.slice tb 1 tc2) [(0, 1)]) := Lib.hid (PAt.below HT2.out hC)
    have HB := Lib.hid (HB.out.trans (hC.mono HB.out.size))
    clear hC
    refine hK.out _ _ (fun _ => hS10) ?_
    clear hK K
    try simp only [Act.put, List.setIfInBounds_toArray, List.set_cons_zero, List.set_cons_succ]
    refine wpAnyN_take (i := 52) (oi := { dst := some 131, op := Go.Op.pick (Go.Operand.tmp 126) (Go.Operand.tmp 130) (Go.Operand.const (Go.Value.bool false)), type := 4, pos := "law.go:27", after := #[{ on := 47, ground := Go.Ground.data }, { on := 51, ground := Go.Ground.data }], guard := none }) (v := .bool true) rfl (by decide) (by kernel_rfl) (by kernel_rfl) (by kernel_rfl) (fun _ _ _ h => h) (Or.inl ⟨by rfl, ?_⟩) hS10 ?_
    · intro W9 hS9
      obtain ⟨q0, q1, q2, q3⟩ := hS9
      clear q0 q1 q2 q3
      go_simp
    try simp only [Act.put, List.setIfInBounds_toArray, List.set_cons_zero, List.set_cons_succ]
    refine wpAnyN_take (i := 53) (oi := { dst := some 132, op := Go.Op.move (Go.Operand.tmp 131), type := 4, pos := "law.go:27", after := #[{ on := 52, ground := Go.Ground.data }, { on := 51, ground := Go.Ground.chain }], guard := none }) (v := .bool true) rfl (by decide) (by kernel_rfl) (by kernel_rfl) (by kernel_rfl) (fun _ _ _ h => h) (Or.inl ⟨by rfl, ?_⟩) hS10 ?_
    · intro W9 hS9
      obtain ⟨q0, q1, q2, q3⟩ := hS9
      clear q0 q1 q2 q3
      go_simp
    try simp only [Act.put, List.setIfInBounds_toArray, List.set_cons_zero, List.set_cons_succ]
    refine wpAnyN_take (i := 54) (oi := { dst := some 133, op := Go.Op.load 29 (Go.Operand.tmp 10), type := 29, pos := "law.go:27", after := #[{ on := 53, ground := Go.Ground.guard }], guard := some (53, true) }) (v := .agg #[.slice y3.sa y3.sn y3.sc, .slice y3.pa y3.pn y3.pc, .slice y3.ha y3.hn y3.hc, .slice y3.ba y3.bn y3.bc]) rfl (by decide) (by kernel_rfl) (by kernel_rfl) (by kernel_rfl) (fun _ _ _ h => h) (Or.inl ⟨by rfl, ?_⟩) hS10 ?_
    · intro W9 hS9
      obtain ⟨q0, q1, q2, q3⟩ := hS9
      have s0 : W9.cell? ⟨B10, 0, none⟩ = some (.slice y3.sa y3.sn y3.sc) := q3.cell 0
      have s1 : W9.cell? ⟨B10, 1, none⟩ = some (.slice y3.pa y3.pn y3.pc) := q3.cell 1
      have s2 : W9.cell? ⟨B10, 2, none⟩ = some (.slice y3.ha y3.hn y3.hc) := q3.cell 2
      have s3 : W9.cell? ⟨B10, 3, none⟩ = some (.slice y3.ba y3.bn y3.bc) := q3.cell 3
      clear q0 q1 q2 q3
      go_simp
    try simp only [Act.put, List.setIfInBounds_toArray, List.set_cons_zero, List.set_cons_succ]
    refine wpAnyN_take (i := 55) (oi := { dst := some 134, op := Go.Op.load 38 (Go.Operand.tmp 1), type := 38, pos := "law.go:27", after := #[{ on := 53, ground := Go.Ground.guard }], guard := some (53, true) }) (v := .agg #[.int .i64 0, .int .u64 0]) rfl (by decide) (by kernel_rfl) (by kernel_rfl) (by kernel_rfl) (fun _ _ _ h => h) (Or.inl ⟨by rfl, ?_⟩) hS10 ?_
    · intro W9 hS9
      obtain ⟨q0, q1, q2, q3⟩ := hS9
      have s0 : W9.cell? ⟨w.heap.size, 0, none⟩ = some (.int .i64 0) := q0.cell 0
      have s1 : W9.cell? ⟨w.heap.size, 1, none⟩ = some (.int .u64 0) := q0.cell 1
      clear q0 q1 q2 q3
      go_simp
    try simp only [Act.put, List.setIfInBounds_toArray, List.set_cons_zero, List.set_cons_succ]
    refine wpAnyX_one (i := 56) (o := { dst := some 135, op := Go.Op.call { callee := Go.Callee.value (Go.Operand.func 26), args := #[Go.Operand.const (Go.Value.int Go.IntKind.i64 5), Go.Operand.const (Go.Value.int Go.IntKind.i64 1), Go.Operand.tmp 134], argTypes := #[3, 3, 38] }, type := 40, pos := "law.go:27", after := #[{ on := 55, ground := Go.Ground.data }, { on := 53, ground := Go.Ground.chain }, { on := 53, ground := Go.Ground.guard }], guard := some (53, true) }) (by kernel_rfl) rfl (fun K hK => ?_)
    refine step_call_g (by rfl) 26 _ _ rfl (fun _ _ => by kernel_rfl) #[.int .i64 5, .int .i64 1, .agg #[.int .i64 0, .int .u64 0]] (by simp [go_sem]) _ (HWA 5 1 x12).out ?_
    rintro e x13 ⟨rfl, hC⟩
    refine ⟨_, rfl, ?_⟩
    have hS11 : Rows8 x13 w.heap.size 38 #[.int .i64 0, .int .u64 0] ∧ Rows8 x13 B3 29 #[.slice y1.sa y1.sn y1.sc, .slice y1.pa y1.pn y1.pc, .slice y1.ha y1.hn y1.hc, .slice y1.ba y1.bn y1.bc] ∧ Rows8 x13 B7 29 #[.slice y2.sa y2.sn y2.sc, .slice y2.pa y2.pn y2.pc, .slice y2.ha y2.hn y2.hc, .slice y2.ba y2.bn y2.bc] ∧ Rows8 x13 B10 29 #[.slice y3.sa y3.sn y3.sc, .slice y3.pa y3.pn y3.pc, .slice y3.ha y3.hn y3.hc, .slice y3.ba y3.bn y3.bc] := ⟨hS10.1.below hC hS10.1.lt, hS10.2.1.below hC hS10.2.1.lt, hS10.2.2.1.below hC hS10.2.2.1.lt, hS10.2.2.2.below hC hS10.2.2.2.lt⟩
    have HM1 := Lib.hid (HM1.out.below hC (Nat.le_refl _))
    have HM3 := Lib.hid (HM3.out.below hC (Nat.le_refl _))
    have HT1 : Hid (PAt x13 (.slice ta 1 tc) [(0, 0)]) := Lib.hid (PAt.below HT1.out hC)
    have HT2 : Hid (PAt x13 (.slice tb 1 tc2) [(0, 1)]) := Lib.hid (PAt.below HT2.out hC)
    have HB := Lib.hid (HB.out.trans (hC.mono HB.out.size))
    clear hC
    refine hK.out _ _ (fun _ => hS11) ?_
    clear hK K
    try simp only [Act.put, List.setIfInBounds_toArray, List.set_cons_zero, List.set_cons_succ]
    refine wpAnyX_one (i := 57) (o := { dst := some 136, op := Go.Op.call { callee := Go.Callee.value (Go.Operand.func 16), args := #[Go.Operand.tmp 133, Go.Operand.tmp 135], argTypes := #[29, 40] }, type := 4, pos := "law.go:27", after := #[{ on := 54, ground := Go.Ground.data }, { on := 56, ground := Go.Ground.data }, { on := 56, ground := Go.Ground.chain }, { on := 53, ground := Go.Ground.guard }], guard := some (53, true) }) (by kernel_rfl) rfl (fun K hK => ?_)
    refine step_call_g (by rfl) 16 _ _ rfl (fun _ _ => by kernel_rfl) #[.agg #[.slice y3.sa y3.sn y3.sc, .slice y3.pa y3.pn y3.pc, .slice y3.ha y3.hn y3.hc, .slice y3.ba y3.bn y3.bc], .agg #[.int .i64 5, .int .i64 1, .int .i64 0, .int .u64 0]] (by simp [go_sem]) _ (Try.good_2 x13 HM3.out).out ?_
    rintro e x14 ⟨rfl, hC⟩
    refine ⟨_, rfl, ?_⟩
    have hS12 : Rows8 x14 w.heap.size 38 #[.int .i64 0, .int .u64 0] ∧ Rows8 x14 B3 29 #[.slice y1.sa y1.sn y1.sc, .slice y1.pa y1.pn y1.pc, .slice y1.ha y1.hn y1.hc, .slice y1.ba y1.bn y1.bc] ∧ Rows8 x14 B7 29 #[.slice y2.sa y2.sn y2.sc, .slice y2.pa y2.pn y2.pc, .slice y2.ha y2.hn y2.hc, .slice y2.ba y2.bn y2.bc] ∧ Rows8 x14 B10 29 #[.slice y3.sa y3.sn y3.sc, .slice y3.pa y3.pn y3.pc, .slice y3.ha y3.hn y3.hc, .slice y3.ba y3.bn y3.bc] := ⟨hS11.1.below hC hS11.1.lt, hS11.2.1.below hC hS11.2.1.lt, hS11.2.2.1.below hC hS11.2.2.1.lt, hS11.2.2.2.below hC hS11.2.2.2.lt⟩
    have HM1 := Lib.hid (HM1.out.below hC (Nat.le_refl _))
    have HM3 := Lib.hid (HM3.out.below hC (Nat.le_refl _))
    have HT1 : Hid (PAt x14 (.slice ta 1 tc) [(0, 0)]) := Lib.hid (PAt.below HT1.out hC)
    have HT2 : Hid (PAt x14 (.slice tb 1 tc2) [(0, 1)]) := Lib.hid (PAt.below HT2.out hC)
    have HB := Lib.hid (HB.out.trans (hC.mono HB.out.size))
    clear hC
    refine hK.out _ _ (fun _ => hS12) ?_
    clear hK K
    try simp only [Act.put, List.setIfInBounds_toArray, List.set_cons_zero, List.set_cons_succ]
    refine wpAnyN_take (i := 58) (oi := { dst := some 137, op := Go.Op.unOp Go.UnOp.not 4 (Go.Operand.tmp 136), type := 4, pos := "law.go:27", after := #[{ on := 57, ground := Go.Ground.data }, { on := 53, ground := Go.Ground.guard }], guard := some (53, true) }) (v := .bool true) rfl (by decide) (by kernel_rfl) (by kernel_rfl) (by kernel_rfl) (fun _ _ _ h => h) (Or.inl ⟨by rfl, ?_⟩) hS12 ?_
    · intro W9 hS9
      obtain ⟨q0, q1, q2, q3⟩ := hS9
      clear q0 q1 q2 q3
      go_simp
    try simp only [Act.put, List.setIfInBounds_toArray, List.set_cons_zero, List.set_cons_succ]
    refine wpAnyN_take (i := 59) (oi := { dst := some 138, op := Go.Op.pick (Go.Operand.tmp 132) (Go.Operand.tmp 137) (Go.Operand.const (Go.Value.bool false)), type := 4, pos := "law.go:27", after := #[{ on := 53, ground := Go.Ground.data }, { on := 58, ground := Go.Ground.data }], guard := none }) (v := .bool true) rfl (by decide) (by kernel_rfl) (by kernel_rfl) (by kernel_rfl) (fun _ _ _ h => h) (Or.inl ⟨by rfl, ?_⟩) hS12 ?_
    · intro W9 hS9
      obtain ⟨q0, q1, q2, q3⟩ := hS9
      clear q0 q1 q2 q3
      go_simp
    try simp only [Act.put, List.setIfInBounds_toArray, List.set_cons_zero, List.set_cons_succ]
    refine wpAnyN_take (i := 60) (oi := { dst := some 139, op := Go.Op.move (Go.Operand.tmp 138), type := 4, pos := "law.go:27", after := #[{ on := 59, ground := Go.Ground.data }, { on := 57, ground := Go.Ground.chain }], guard := none }) (v := .bool true) rfl (by decide) (by kernel_rfl) (by kernel_rfl) (by kernel_rfl) (fun _ _ _ h => h) (Or.inl ⟨by rfl, ?_⟩) hS12 ?_
    · intro W9 hS9
      obtain ⟨q0, q1, q2, q3⟩ := hS9
      clear q0 q1 q2 q3
      go_simp
    try simp only [Act.put, List.setIfInBounds_toArray, List.set_cons_zero, List.set_cons_succ]
    refine wpAnyN_take (i := 61) (oi := { dst := some 140, op := Go.Op.load 29 (Go.Operand.tmp 10), type := 29, pos := "law.go:27", after := #[{ on := 60, ground := Go.Ground.guard }], guard := some (60, true) }) (v := .agg #[.slice y3.sa y3.sn y3.sc, .slice y3.pa y3.pn y3.pc, .slice y3.ha y3.hn y3.hc, .slice y3.ba y3.bn y3.bc]) rfl (by decide) (by kernel_rfl) (by kernel_rfl) (by kernel_rfl) (fun _ _ _ h => h) (Or.inl ⟨by rfl, ?_⟩) hS12 ?_
    · intro W9 hS9
      obtain ⟨q0, q1, q2, q3⟩ := hS9
      have s0 : W9.cell? ⟨B10, 0, none⟩ = some (.slice y3.sa y3.sn y3.sc) := q3.cell 0
      have s1 : W9.cell? ⟨B10, 1, none⟩ = some (.slice y3.pa y3.pn y3.pc) := q3.cell 1
      have s2 : W9.cell? ⟨B10, 2, none⟩ = some (.slice y3.ha y3.hn y3.hc) := q3.cell 2
      have s3 : W9.cell? ⟨B10, 3, none⟩ = some (.slice y3.ba y3.bn y3.bc) := q3.cell 3
      clear q0 q1 q2 q3
      go_simp
    try simp only [Act.put, List.setIfInBounds_toArray, List.set_cons_zero, List.set_cons_succ]
    refine wpAnyN_take (i := 62) (oi := { dst := some 141, op := Go.Op.load 38 (Go.Operand.tmp 1), type := 38, pos := "law.go:27", after := #[{ on := 60, ground := Go.Ground.guard }], guard := some (60, true) }) (v := .agg #[.int .i64 0, .int .u64 0]) rfl (by decide) (by kernel_rfl) (by kernel_rfl) (by kernel_rfl) (fun _ _ _ h => h) (Or.inl ⟨by rfl, ?_⟩) hS12 ?_
    · intro W9 hS9
      obtain ⟨q0, q1, q2, q3⟩ := hS9
      have s0 : W9.cell? ⟨w.heap.size, 0, none⟩ = some (.int .i64 0) := q0.cell 0
      have s1 : W9.cell? ⟨w.heap.size, 1, none⟩ = some (.int .u64 0) := q0.cell 1
      clear q0 q1 q2 q3
      go_simp
    try simp only [Act.put, List.setIfInBounds_toArray, List.set_cons_zero, List.set_cons_succ]
    refine wpAnyX_one (i := 63) (o := { dst := some 142, op := Go.Op.call { callee := Go.Callee.value (Go.Operand.func 26), args := #[Go.Operand.const (Go.Value.int Go.IntKind.i64 4), Go.Operand.const (Go.Value.int Go.IntKind.i64 1), Go.Operand.tmp 141], argTypes := #[3, 3, 38] }, type := 40, pos := "law.go:27", after := #[{ on := 62, ground := Go.Ground.data }, { on := 60, ground := Go.Ground.chain }, { on := 60, ground := Go.Ground.guard }], guard := some (60, true) }) (by kernel_rfl) rfl (fun K hK => ?_)
    refine step_call_g (by rfl) 26 _ _ rfl (fun _ _ => by kernel_rfl) #[.int .i64 4, .int .i64 1, .agg #[.int .i64 0, .int .u64 0]] (by simp [go_sem]) _ (HWA 4 1 x14).out ?_
    rintro e x15 ⟨rfl, hC⟩
    refine ⟨_, rfl, ?_⟩
    have hS13 : Rows8 x15 w.heap.size 38 #[.int .i64 0, .int .u64 0] ∧ Rows8 x15 B3 29 #[.slice y1.sa y1.sn y1.sc, .slice y1.pa y1.pn y1.pc, .slice y1.ha y1.hn y1.hc, .slice y1.ba y1.bn y1.bc] ∧ Rows8 x15 B7 29 #[.slice y2.sa y2.sn y2.sc, .slice y2.pa y2.pn y2.pc, .slice y2.ha y2.hn y2.hc, .slice y2.ba y2.bn y2.bc] ∧ Rows8 x15 B10 29 #[.slice y3.sa y3.sn y3.sc, .slice y3.pa y3.pn y3.pc, .slice y3.ha y3.hn y3.hc, .slice y3.ba y3.bn y3.bc] := ⟨hS12.1.below hC hS12.1.lt, hS12.2.1.below hC hS12.2.1.lt, hS12.2.2.1.below hC hS12.2.2.1.lt, hS12.2.2.2.below hC hS12.2.2.2.lt⟩
    have HM1 := Lib.hid (HM1.out.below hC (Nat.le_refl _))
    have HM3 := Lib.hid (HM3.out.below hC (Nat.le_refl _))
    have HT1 : Hid (PAt x15 (.slice ta 1 tc) [(0, 0)]) := Lib.hid (PAt.below HT1.out hC)
    have HT2 : Hid (PAt x15 (.slice tb 1 tc2) [(0, 1)]) := Lib.hid (PAt.below HT2.out hC)
    have HB := Lib.hid (HB.out.trans (hC.mono HB.out.size))
    clear hC
    refine hK.out _ _ (fun _ => hS13) ?_
    clear hK K
    try simp only [Act.put, List.setIfInBounds_toArray, List.set_cons_zero, List.set_cons_succ]
    refine wpAnyX_one (i := 64) (o := { dst := some 143, op := Go.Op.call { callee := Go.Callee.value (Go.Operand.func 16), args := #[Go.Operand.tmp 140, Go.Operand.tmp 142], argTypes := #[29, 40] }, type := 4, pos := "law.go:27", after := #[{ on := 61, ground := Go.Ground.data }, { on := 63, ground := Go.Ground.data }, { on := 63, ground := Go.Ground.chain }, { on := 60, ground := Go.Ground.guard }], guard := some (60, true) }) (by kernel_rfl) rfl (fun K hK => ?_)
    refine step_call_g (by rfl) 16 _ _ rfl (fun _ _ => by kernel_rfl) #[.agg #[.slice y3.sa y3.sn y3.sc, .slice y3.pa y3.pn y3.pc, .slice y3.ha y3.hn y3.hc, .slice y3.ba y3.bn y3.bc], .agg #[.int .i64 4, .int .i64 1, .int .i64 0, .int .u64 0]] (by simp [go_sem]) _ (Try.good_3 x15 HM3.out).out ?_
    rintro e x16 ⟨rfl, hC⟩
    refine ⟨_, rfl, ?_⟩
    have hS14 : Rows8 x16 w.heap.size 38 #[.int .i64 0, .int .u64 0] ∧ Rows8 x16 B3 29 #[.slice y1.sa y1.sn y1.sc, .slice y1.pa y1.pn y1.pc, .slice y1.ha y1.hn y1.hc, .slice y1.ba y1.bn y1.bc] ∧ Rows8 x16 B7 29 #[.slice y2.sa y2.sn y2.sc, .slice y2.pa y2.pn y2.pc, .slice y2.ha y2.hn y2.hc, .slice y2.ba y2.bn y2.bc] ∧ Rows8 x16 B10 29 #[.slice y3.sa y3.sn y3.sc, .slice y3.pa y3.pn y3.pc, .slice y3.ha y3.hn y3.hc, .slice y3.ba y3.bn y3.bc] := ⟨hS13.1.below hC hS13.1.lt, hS13.2.1.below hC hS13.2.1.lt, hS13.2.2.1.below hC hS13.2.2.1.lt, hS13.2.2.2.below hC hS13.2.2.2.lt⟩
    have HM1 := Lib.hid (HM1.out.below hC (Nat.le_refl _))
    have HM3 := Lib.hid (HM3.out.below hC (Nat.le_refl _))
    have HT1 : Hid (PAt x16 (.slice ta 1 tc) [(0, 0)]) := Lib.hid (PAt.below HT1.out hC)
    have HT2 : Hid (PAt x16 (.slice tb 1 tc2) [(0, 1)]) := Lib.hid (PAt.below HT2.out hC)
    have HB := Lib.hid (HB.out.trans (hC.mono HB.out.size))
    clear hC
    refine hK.out _ _ (fun _ => hS14) ?_
    clear hK K
    try simp only [Act.put, List.setIfInBounds_toArray, List.set_cons_zero, List.set_cons_succ]
    refine wpAnyN_take (i := 65) (oi := { dst := some 144, op := Go.Op.pick (Go.Operand.tmp 139) (Go.Operand.tmp 143) (Go.Operand.const (Go.Value.bool false)), type := 4, pos := "law.go:27", after := #[{ on := 60, ground := Go.Ground.data }, { on := 64, ground := Go.Ground.data }], guard := none }) (v := .bool true) rfl (by decide) (by kernel_rfl) (by kernel_rfl) (by kernel_rfl) (fun _ _ _ h => h) (Or.inl ⟨by rfl, ?_⟩) hS14 ?_
    · intro W9 hS9
      obtain ⟨q0, q1, q2, q3⟩ := hS9
      clear q0 q1 q2 q3
      go_simp
    try simp only [Act.put, List.setIfInBounds_toArray, List.set_cons_zero, List.set_cons_succ]
    refine wpAnyN_take (i := 66) (oi := { dst := some 145, op := Go.Op.move (Go.Operand.tmp 144), type := 4, pos := "law.go:27", after := #[{ on := 65, ground := Go.Ground.data }, { on := 64, ground := Go.Ground.chain }], guard := none }) (v := .bool true) rfl (by decide) (by kernel_rfl) (by kernel_rfl) (by kernel_rfl) (fun _ _ _ h => h) (Or.inl ⟨by rfl, ?_⟩) hS14 ?_
    · intro W9 hS9
      obtain ⟨q0, q1, q2, q3⟩ := hS9
      clear q0 q1 q2 q3
      go_simp
    try simp only [Act.put, List.setIfInBounds_toArray, List.set_cons_zero, List.set_cons_succ]
    refine wpAnyN_take (i := 67) (oi := { dst := some 146, op := Go.Op.fieldAddr 29 (Go.Operand.tmp 7) 3, type := 0, pos := "law.go:27", after := #[{ on := 66, ground := Go.Ground.guard }], guard := some (66, true) }) (v := .pointer (some ⟨B7, 3, none⟩)) rfl (by decide) (by kernel_rfl) (by kernel_rfl) (by kernel_rfl) (fun _ _ _ h => h) (Or.inl ⟨by rfl, ?_⟩) hS14 ?_
    · intro W9 hS9
      obtain ⟨q0, q1, q2, q3⟩ := hS9
      clear q0 q1 q2 q3
      go_simp
    try simp only [Act.put, List.setIfInBounds_toArray, List.set_cons_zero, List.set_cons_succ]
    refine wpAnyN_take (i := 68) (oi := { dst := some 147, op := Go.Op.load 27 (Go.Operand.tmp 146), type := 27, pos := "law.go:27", after := #[{ on := 67, ground := Go.Ground.data }, { on := 66, ground := Go.Ground.guard }], guard := some (66, true) }) (v := .slice y2.ba y2.bn y2.bc) rfl (by decide) (by kernel_rfl) (by kernel_rfl) (by kernel_rfl) (fun _ _ _ h => h) (Or.inl ⟨by rfl, ?_⟩) hS14 ?_
    · intro W9 hS9
      obtain ⟨q0, q1, q2, q3⟩ := hS9
      have s3 : W9.cell? ⟨B7, 3, none⟩ = some (.slice y2.ba y2.bn y2.bc) := q2.cell 3
      clear q0 q1 q2 q3
      go_simp
    try simp only [Act.put, List.setIfInBounds_toArray, List.set_cons_zero, List.set_cons_succ]
    refine wpAnyN_take (i := 69) (oi := { dst := some 148, op := Go.Op.call { callee := Go.Callee.builtin Go.Builtin.len, args := #[Go.Operand.tmp 147], argTypes := #[27] }, type := 3, pos := "law.go:27", after := #[{ on := 68, ground := Go.Ground.data }, { on := 66, ground := Go.Ground.guard }], guard := some (66, true) }) (v := .int .i64 (y2.bn : Nat)) rfl (by decide) (by kernel_rfl) (by kernel_rfl) (by kernel_rfl) (fun _ _ _ h => h) (Or.inl ⟨by rfl, ?_⟩) hS14 ?_
    · intro W9 hS9
      obtain ⟨q0, q1, q2, q3⟩ := hS9
      clear q0 q1 q2 q3
      go_simp
    try simp only [Act.put, List.setIfInBounds_toArray, List.set_cons_zero, List.set_cons_succ]
    refine wpAnyN_take (i := 70) (oi := { dst := some 149, op := Go.Op.binOp Go.BinOp.eql 3 (Go.Operand.tmp 148) (Go.Operand.const (Go.Value.int Go.IntKind.i64 1)) 3, type := 4, pos := "law.go:27", after := #[{ on := 69, ground := Go.Ground.data }, { on := 66, ground := Go.Ground.guard }], guard := some (66, true) }) (v := .bool true) rfl (by decide) (by kernel_rfl) (by kernel_rfl) (by kernel_rfl) (fun _ _ _ h => h) (Or.inl ⟨by rfl, ?_⟩) hS14 ?_
    · intro W9 hS9
      obtain ⟨q0, q1, q2, q3⟩ := hS9
      have d : (((y2.bn : Nat) : Int) == 1) = true := by rw [HBN.out]; rfl
      clear q0 q1 q2 q3
      go_simp
    try simp only [Act.put, List.setIfInBounds_toArray, List.set_cons_zero, List.set_cons_succ]
    refine wpAnyN_take (i := 71) (oi := { dst := some 150, op := Go.Op.pick (Go.Operand.tmp 145) (Go.Operand.tmp 149) (Go.Operand.const (Go.Value.bool false)), type := 4, pos := "law.go:27", after := #[{ on := 66, ground := Go.Ground.data }, { on := 70, ground := Go.Ground.data }], guard := none }) (v := .bool true) rfl (by decide) (by kernel_rfl) (by kernel_rfl) (by kernel_rfl) (fun _ _ _ h => h) (Or.inl ⟨by rfl, ?_⟩) hS14 ?_
    · intro W9 hS9
      obtain ⟨q0, q1, q2, q3⟩ := hS9
      clear q0 q1 q2 q3
      go_simp
    try simp only [Act.put, List.setIfInBounds_toArray, List.set_cons_zero, List.set_cons_succ]
    refine wpAnyN_take (i := 72) (oi := { dst := some 0, op := Go.Op.assign (Go.Operand.tmp 150), type := 4, pos := "law.go:27", after := ([{ on := 71, ground := Go.Ground.data }, { on := 66, ground := Go.Ground.chain }, { on := 0, ground := Go.Ground.phase }, { on := 1, ground := Go.Ground.phase }, { on := 2, ground := Go.Ground.phase }, { on := 3, ground := Go.Ground.phase }, { on := 4, ground := Go.Ground.phase }, { on := 5, ground := Go.Ground.phase }, { on := 6, ground := Go.Ground.phase }, { on := 7, ground := Go.Ground.phase }, { on := 8, ground := Go.Ground.phase }, { on := 9, ground := Go.Ground.phase }, { on := 10, ground := Go.Ground.phase }, { on := 11, ground := Go.Ground.phase }, { on := 12, ground := Go.Ground.phase }, { on := 13, ground := Go.Ground.phase }, { on := 14, ground := Go.Ground.phase }, { on := 15, ground := Go.Ground.phase }, { on := 16, ground := Go.Ground.phase }, { on := 17, ground := Go.Ground.phase }, { on := 18, ground := Go.Ground.phase }, { on := 19, ground := Go.Ground.phase }, { on := 20, ground := Go.Ground.phase }, { on := 21, ground := Go.Ground.phase }, { on := 22, ground := Go.Ground.phase }, { on := 23, ground := Go.Ground.phase }, { on := 24, ground := Go.Ground.phase }, { on := 25, ground := Go.Ground.phase }, { on := 26, ground := Go.Ground.phase }, { on := 27, ground := Go.Ground.phase }, { on := 28, ground := Go.Ground.phase }, { on := 29, ground := Go.Ground.phase }, { on := 30, ground := Go.Ground.phase }, { on := 31, ground := Go.Ground.phase }, { on := 32, ground := Go.Ground.phase }, { on := 33, ground := Go.Ground.phase }, { on := 34, ground := Go.Ground.phase }].append [{ on := 35, ground := Go.Ground.phase }, { on := 36, ground := Go.Ground.phase }, { on := 37, ground := Go.Ground.phase }, { on := 38, ground := Go.Ground.phase }, { on := 39, ground := Go.Ground.phase }, { on := 40, ground := Go.Ground.phase }, { on := 41, ground := Go.Ground.phase }, { on := 42, ground := Go.Ground.phase }, { on := 43, ground := Go.Ground.phase }, { on := 44, ground := Go.Ground.phase }, { on := 45, ground := Go.Ground.phase }, { on := 46, ground := Go.Ground.phase }, { on := 47, ground := Go.Ground.phase }, { on := 48, ground := Go.Ground.phase }, { on := 49, ground := Go.Ground.phase }, { on := 50, ground := Go.Ground.phase }, { on := 51, ground := Go.Ground.phase }, { on := 52, ground := Go.Ground.phase }, { on := 53, ground := Go.Ground.phase }, { on := 54, ground := Go.Ground.phase }, { on := 55, ground := Go.Ground.phase }, { on := 56, ground := Go.Ground.phase }, { on := 57, ground := Go.Ground.phase }, { on := 58, ground := Go.Ground.phase }, { on := 59, ground := Go.Ground.phase }, { on := 60, ground := Go.Ground.phase }, { on := 61, ground := Go.Ground.phase }, { on := 62, ground := Go.Ground.phase }, { on := 63, ground := Go.Ground.phase }, { on := 64, ground := Go.Ground.phase }, { on := 65, ground := Go.Ground.phase }, { on := 66, ground := Go.Ground.phase }, { on := 67, ground := Go.Ground.phase }, { on := 68, ground := Go.Ground.phase }, { on := 69, ground := Go.Ground.phase }, { on := 70, ground := Go.Ground.phase }, { on := 71, ground := Go.Ground.phase }]).toArray, guard := none }) (v := .bool true) rfl (by decide) (by kernel_rfl) (by kernel_rfl) (by kernel_rfl) (fun _ _ _ h => h) (Or.inl ⟨by rfl, ?_⟩) hS14 ?_
    · intro W9 hS9
      obtain ⟨q0, q1, q2, q3⟩ := hS9
      clear q0 q1 q2 q3
      go_simp
    try simp only [Act.put, List.setIfInBounds_toArray, List.set_cons_zero, List.set_cons_succ]
    refine wpAnyX_end (by kernel_rfl) ?_
    go_wp2_with fail
    go_ret
    exact ⟨rfl, HB.out⟩
  · obtain ⟨g38, hg38⟩ : ∃ b, b = x4.heap.size := ⟨_, rfl⟩
    have hC : Below x4.heap.size x4 (x4.alloc (.cells #[.int .i64 0, .int .i64 1] 3)) := Rows8.newB
    have L38 := Lib.hid (lit_i2 x4)
    rw [← hg38] at L38
    refine step_value_g (by rfl) (.slice (some ⟨g38, 0, none⟩) 2 2) (w' := (x4.alloc (.cells #[.int .i64 0, .int .i64 1] 3))) (by rw [hg38]; go_simp) ?_
    clear hg38
    generalize (x4.alloc (.cells #[.int .i64 0, .int .i64 1] 3)) = x17 at *
    have hS5 : Rows8 x17 w.heap.size 38 #[.int .i64 0, .int .u64 0] ∧ Rows8 x17 B3 29 #[.slice y1.sa y1.sn y1.sc, .slice y1.pa y1.pn y1.pc, .slice y1.ha y1.hn y1.hc, .slice y1.ba y1.bn y1.bc] ∧ Rows8 x17 B7 29 #[.slice y2.sa y2.sn y2.sc, .slice y2.pa y2.pn y2.pc, .slice y2.ha y2.hn y2.hc, .slice y2.ba y2.bn y2.bc] ∧ Rows8 x17 B10 29 #[.slice y3.sa y3.sn y3.sc, .slice y3.pa y3.pn y3.pc, .slice y3.ha y3.hn y3.hc, .slice y3.ba y3.bn y3.bc] := ⟨hS4.1.below hC hS4.1.lt, hS4.2.1.below hC hS4.2.1.lt, hS4.2.2.1.below hC hS4.2.2.1.lt, hS4.2.2.2.below hC hS4.2.2.2.lt⟩
    have HM1 := Lib.hid (HM1.out.below hC (Nat.le_refl _))
    have HM3 := Lib.hid (HM3.out.below hC (Nat.le_refl _))
    have HT1 : Hid (PAt x17 (.slice ta 1 tc) [(0, 0)]) := Lib.hid (PAt.below HT1.out hC)
    have HT2 : Hid (PAt x17 (.slice tb 1 tc2) [(0, 1)]) := Lib.hid (PAt.below HT2.out hC)
    have HB := Lib.hid (HB.out.trans (hC.mono HB.out.size))
    clear hC
    refine hK.out _ _ (fun _ => hS5) ?_
    clear hK K
    try simp only [Act.put, List.setIfInBounds_toArray, List.set_cons_zero, List.set_cons_succ]
    refine wpAnyX_one (i := 37) (o := { dst := some 116, op := Go.Op.call { callee := Go.Callee.value (Go.Operand.func 19), args := #[Go.Operand.tmp 114, Go.Operand.tmp 115], argTypes := #[29, 38] }, type := 41, pos := "law.go:27", after := #[{ on := 35, ground := Go.Ground.data }, { on := 36, ground := Go.Ground.data }, { on := 34, ground := Go.Ground.chain }, { on := 34, ground := Go.Ground.guard }], guard := some (34, true) }) (by kernel_rfl) rfl (fun K hK => ?_)
    refine step_call_g (by rfl) 19 _ _ rfl (fun _ _ => by kernel_rfl) #[.agg #[.slice y1.sa y1.sn y1.sc, .slice y1.pa y1.pn y1.pc, .slice y1.ha y1.hn y1.hc, .slice y1.ba y1.bn y1.bc], .agg #[.int .i64 0, .int .u64 0]] (by simp [go_sem]) _ (Try.hold_one x17 HM1.out).out ?_
    rintro e x18 ⟨v37, rfl, hO37, hC⟩
    refine ⟨_, rfl, ?_⟩
    obtain ⟨a37, d37, rfl, I37⟩ := ints2 hO37
    have I37 := Lib.hid I37
    clear hO37
    have hS6 : Rows8 x18 w.heap.size 38 #[.int .i64 0, .int .u64 0] ∧ Rows8 x18 B3 29 #[.slice y1.sa y1.sn y1.sc, .slice y1.pa y1.pn y1.pc, .slice y1.ha y1.hn y1.hc, .slice y1.ba y1.bn y1.bc] ∧ Rows8 x18 B7 29 #[.slice y2.sa y2.sn y2.sc, .slice y2.pa y2.pn y2.pc, .slice y2.ha y2.hn y2.hc, .slice y2.ba y2.bn y2.bc] ∧ Rows8 x18 B10 29 #[.slice y3.sa y3.sn y3.sc, .slice y3.pa y3.pn y3.pc, .slice y3.ha y3.hn y3.hc, .slice y3.ba y3.bn y3.bc] := ⟨hS5.1.below hC hS5.1.lt, hS5.2.1.below hC hS5.2.1.lt, hS5.2.2.1.below hC hS5.2.2.1.lt, hS5.2.2.2.below hC hS5.2.2.2.lt⟩
    have HM1 := Lib.hid (HM1.out.below hC (Nat.le_refl _))
    have HM3 := Lib.hid (HM3.out.below hC (Nat.le_refl _))
    have HT1 : Hid (PAt x18 (.slice ta 1 tc) [(0, 0)]) := Lib.hid (PAt.below HT1.out hC)
    have HT2 : Hid (PAt x18 (.slice tb 1 tc2) [(0, 1)]) := Lib.hid (PAt.below HT2.out hC)
    have HB := Lib.hid (HB.out.trans (hC.mono HB.out.size))
    have L38 := Lib.hid (show IntsAt _ _ _ from RowAt.below L38.out hC)
    clear hC
    refine hK.out _ _ (fun _ => hS6) ?_
    clear hK K
    try simp only [Act.put, List.setIfInBounds_toArray, List.set_cons_zero, List.set_cons_succ]
    have I38 := L38
    clear L38
    refine wpAnyX_one (i := 39) (o := { dst := some 118, op := Go.Op.call { callee := Go.Callee.value (Go.Operand.func 18), args := #[Go.Operand.tmp 116, Go.Operand.tmp 117], argTypes := #[41, 41] }, type := 4, pos := "law.go:27", after := #[{ on := 37, ground := Go.Ground.data }, { on := 38, ground := Go.Ground.data }, { on := 37, ground := Go.Ground.chain }, { on := 34, ground := Go.Ground.guard }], guard := some (34, true) }) (by kernel_rfl) rfl (fun K hK => ?_)
    refine step_call_g (by rfl) 18 _ _ rfl (fun _ _ => by kernel_rfl) #[.slice a37 2 d37, .slice (some ⟨g38, 0, none⟩) 2 2] (by simp [go_sem]) _ (Try.eqInt_yes I37.out I38.out).out ?_
    rintro e x19 ⟨rfl, hC⟩
    refine ⟨_, rfl, ?_⟩
    have hS7 : Rows8 x19 w.heap.size 38 #[.int .i64 0, .int .u64 0] ∧ Rows8 x19 B3 29 #[.slice y1.sa y1.sn y1.sc, .slice y1.pa y1.pn y1.pc, .slice y1.ha y1.hn y1.hc, .slice y1.ba y1.bn y1.bc] ∧ Rows8 x19 B7 29 #[.slice y2.sa y2.sn y2.sc, .slice y2.pa y2.pn y2.pc, .slice y2.ha y2.hn y2.hc, .slice y2.ba y2.bn y2.bc] ∧ Rows8 x19 B10 29 #[.slice y3.sa y3.sn y3.sc, .slice y3.pa y3.pn y3.pc, .slice y3.ha y3.hn y3.hc, .slice y3.ba y3.bn y3.bc] := ⟨hS6.1.below hC hS6.1.lt, hS6.2.1.below hC hS6.2.1.lt, hS6.2.2.1.below hC hS6.2.2.1.lt, hS6.2.2.2.below hC hS6.2.2.2.lt⟩
    have HM1 := Lib.hid (HM1.out.below hC (Nat.le_refl _))
    have HM3 := Lib.hid (HM3.out.below hC (Nat.le_refl _))
    have HT1 : Hid (PAt x19 (.slice ta 1 tc) [(0, 0)]) := Lib.hid (PAt.below HT1.out hC)
    have HT2 : Hid (PAt x19 (.slice tb 1 tc2) [(0, 1)]) := Lib.hid (PAt.below HT2.out hC)
    have HB := Lib.hid (HB.out.trans (hC.mono HB.out.size))
    clear hC
    refine hK.out _ _ (fun _ => hS7) ?_
    clear hK K
    try simp only [Act.put, List.setIfInBounds_toArray, List.set_cons_zero, List.set_cons_succ]
    clear I37 I38
    refine wpAnyN_take (i := 40) (oi := { dst := some 119, op := Go.Op.pick (Go.Operand.tmp 113) (Go.Operand.tmp 118) (Go.Operand.const (Go.Value.bool false)), type := 4, pos := "law.go:27", after := #[{ on := 34, ground := Go.Ground.data }, { on := 39, ground := Go.Ground.data }], guard := none }) (v := .bool true) rfl (by decide) (by kernel_rfl) (by kernel_rfl) (by kernel_rfl) (fun _ _ _ h => h) (Or.inl ⟨by rfl, ?_⟩) hS7 ?_
    · intro W9 hS9
      obtain ⟨q0, q1, q2, q3⟩ := hS9
      clear q0 q1 q2 q3
      go_simp
    try simp only [Act.put, List.setIfInBounds_toArray, List.set_cons_zero, List.set_cons_succ]
    refine wpAnyN_take (i := 41) (oi := { dst := some 120, op := Go.Op.move (Go.Operand.tmp 119), type := 4, pos := "law.go:27", after := #[{ on := 40, ground := Go.Ground.data }, { on := 39, ground := Go.Ground.chain }], guard := none }) (v := .bool true) rfl (by decide) (by kernel_rfl) (by kernel_rfl) (by kernel_rfl) (fun _ _ _ h => h) (Or.inl ⟨by rfl, ?_⟩) hS7 ?_
    · intro W9 hS9
      obtain ⟨q0, q1, q2, q3⟩ := hS9
      clear q0 q1 q2 q3
      go_simp
    try simp only [Act.put, List.setIfInBounds_toArray, List.set_cons_zero, List.set_cons_succ]
    refine wpAnyN_take (i := 42) (oi := { dst := some 121, op := Go.Op.load 29 (Go.Operand.tmp 3), type := 29, pos := "law.go:27", after := #[{ on := 41, ground := Go.Ground.guard }], guard := some (41, true) }) (v := .agg #[.slice y1.sa y1.sn y1.sc, .slice y1.pa y1.pn y1.pc, .slice y1.ha y1.hn y1.hc, .slice y1.ba y1.bn y1.bc]) rfl (by decide) (by kernel_rfl) (by kernel_rfl) (by kernel_rfl) (fun _ _ _ h => h) (Or.inl ⟨by rfl, ?_⟩) hS7 ?_
    · intro W9 hS9
      obtain ⟨q0, q1, q2, q3⟩ := hS9
      have s0 : W9.cell? ⟨B3, 0, none⟩ = some (.slice y1.sa y1.sn y1.sc) := q1.cell 0
      have s1 : W9.cell? ⟨B3, 1, none⟩ = some (.slice y1.pa y1.pn y1.pc) := q1.cell 1
      have s2 : W9.cell? ⟨B3, 2, none⟩ = some (.slice y1.ha y1.hn y1.hc) := q1.cell 2
      have s3 : W9.cell? ⟨B3, 3, none⟩ = some (.slice y1.ba y1.bn y1.bc) := q1.cell 3
      clear q0 q1 q2 q3
      go_simp
    try simp only [Act.put, List.setIfInBounds_toArray, List.set_cons_zero, List.set_cons_succ]
    refine wpAnyN_take (i := 43) (oi := { dst := some 122, op := Go.Op.load 38 (Go.Operand.tmp 1), type := 38, pos := "law.go:27", after := #[{ on := 41, ground := Go.Ground.guard }], guard := some (41, true) }) (v := .agg #[.int .i64 0, .int .u64 0]) rfl (by decide) (by kernel_rfl) (by kernel_rfl) (by kernel_rfl) (fun _ _ _ h => h) (Or.inl ⟨by rfl, ?_⟩) hS7 ?_
    · intro W9 hS9
      obtain ⟨q0, q1, q2, q3⟩ := hS9
      have s0 : W9.cell? ⟨w.heap.size, 0, none⟩ = some (.int .i64 0) := q0.cell 0
      have s1 : W9.cell? ⟨w.heap.size, 1, none⟩ = some (.int .u64 0) := q0.cell 1
      clear q0 q1 q2 q3
      go_simp
    try simp only [Act.put, List.setIfInBounds_toArray, List.set_cons_zero, List.set_cons_succ]
    refine wpAnyX_one (i := 44) (o := { dst := some 123, op := Go.Op.call { callee := Go.Callee.value (Go.Operand.func 17), args := #[Go.Operand.tmp 121, Go.Operand.tmp 122], argTypes := #[29, 38] }, type := 4, pos := "law.go:27", after := #[{ on := 42, ground := Go.Ground.data }, { on := 43, ground := Go.Ground.data }, { on := 41, ground := Go.Ground.chain }, { on := 41, ground := Go.Ground.guard }], guard := some (41, true) }) (by kernel_rfl) rfl (fun K hK => ?_)
    refine step_call_g (by rfl) 17 _ _ rfl (fun _ _ => by kernel_rfl) #[.agg #[.slice y1.sa y1.sn y1.sc, .slice y1.pa y1.pn y1.pc, .slice y1.ha y1.hn y1.hc, .slice y1.ba y1.bn y1.bc], .agg #[.int .i64 0, .int .u64 0]] (by simp [go_sem]) _ (Try.safe_one x19 HM1.out).out ?_
    rintro e x20 ⟨rfl, hC⟩
    refine ⟨_, rfl, ?_⟩
    have hS8 : Rows8 x20 w.heap.size 38 #[.int .i64 0, .int .u64 0] ∧ Rows8 x20 B3 29 #[.slice y1.sa y1.sn y1.sc, .slice y1.pa y1.pn y1.pc, .slice y1.ha y1.hn y1.hc, .slice y1.ba y1.bn y1.bc] ∧ Rows8 x20 B7 29 #[.slice y2.sa y2.sn y2.sc, .slice y2.pa y2.pn y2.pc, .slice y2.ha y2.hn y2.hc, .slice y2.ba y2.bn y2.bc] ∧ Rows8 x20 B10 29 #[.slice y3.sa y3.sn y3.sc, .slice y3.pa y3.pn y3.pc, .slice y3.ha y3.hn y3.hc, .slice y3.ba y3.bn y3.bc] := ⟨hS7.1.below hC hS7.1.lt, hS7.2.1.below hC hS7.2.1.lt, hS7.2.2.1.below hC hS7.2.2.1.lt, hS7.2.2.2.below hC hS7.2.2.2.lt⟩
    have HM1 := Lib.hid (HM1.out.below hC (Nat.le_refl _))
    have HM3 := Lib.hid (HM3.out.below hC (Nat.le_refl _))
    have HT1 : Hid (PAt x20 (.slice ta 1 tc) [(0, 0)]) := Lib.hid (PAt.below HT1.out hC)
    have HT2 : Hid (PAt x20 (.slice tb 1 tc2) [(0, 1)]) := Lib.hid (PAt.below HT2.out hC)
    have HB := Lib.hid (HB.out.trans (hC.mono HB.out.size))
    clear hC
    refine hK.out _ _ (fun _ => hS8) ?_
    clear hK K
    try simp only [Act.put, List.setIfInBounds_toArray, List.set_cons_zero, List.set_cons_succ]
    refine wpAnyN_take (i := 45) (oi := { dst := some 124, op := Go.Op.unOp Go.UnOp.not 4 (Go.Operand.tmp 123), type := 4, pos := "law.go:27", after := #[{ on := 44, ground := Go.Ground.data }, { on := 41, ground := Go.Ground.guard }], guard := some (41, true) }) (v := .bool true) rfl (by decide) (by kernel_rfl) (by kernel_rfl) (by kernel_rfl) (fun _ _ _ h => h) (Or.inl ⟨by rfl, ?_⟩) hS8 ?_
    · intro W9 hS9
      obtain ⟨q0, q1, q2, q3⟩ := hS9
      clear q0 q1 q2 q3
      go_simp
    try simp only [Act.put, List.setIfInBounds_toArray, List.set_cons_zero, List.set_cons_succ]
    refine wpAnyN_take (i := 46) (oi := { dst := some 125, op := Go.Op.pick (Go.Operand.tmp 120) (Go.Operand.tmp 124) (Go.Operand.const (Go.Value.bool false)), type := 4, pos := "law.go:27", after := #[{ on := 41, ground := Go.Ground.data }, { on := 45, ground := Go.Ground.data }], guard := none }) (v := .bool true) rfl (by decide) (by kernel_rfl) (by kernel_rfl) (by kernel_rfl) (fun _ _ _ h => h) (Or.inl ⟨by rfl, ?_⟩) hS8 ?_
    · intro W9 hS9
      obtain ⟨q0, q1, q2, q3⟩ := hS9
      clear q0 q1 q2 q3
      go_simp
    try simp only [Act.put, List.setIfInBounds_toArray, List.set_cons_zero, List.set_cons_succ]
    refine wpAnyN_take (i := 47) (oi := { dst := some 126, op := Go.Op.move (Go.Operand.tmp 125), type := 4, pos := "law.go:27", after := #[{ on := 46, ground := Go.Ground.data }, { on := 44, ground := Go.Ground.chain }], guard := none }) (v := .bool true) rfl (by decide) (by kernel_rfl) (by kernel_rfl) (by kernel_rfl) (fun _ _ _ h => h) (Or.inl ⟨by rfl, ?_⟩) hS8 ?_
    · intro W9 hS9
      obtain ⟨q0, q1, q2, q3⟩ := hS9
      clear q0 q1 q2 q3
      go_simp
    try simp only [Act.put, List.setIfInBounds_toArray, List.set_cons_zero, List.set_cons_succ]
    refine wpAnyN_take (i := 48) (oi := { dst := some 127, op := Go.Op.load 29 (Go.Operand.tmp 3), type := 29, pos := "law.go:27", after := #[{ on := 47, ground := Go.Ground.guard }], guard := some (47, true) }) (v := .agg #[.slice y1.sa y1.sn y1.sc, .slice y1.pa y1.pn y1.pc, .slice y1.ha y1.hn y1.hc, .slice y1.ba y1.bn y1.bc]) rfl (by decide) (by kernel_rfl) (by kernel_rfl) (by kernel_rfl) (fun _ _ _ h => h) (Or.inl ⟨by rfl, ?_⟩) hS8 ?_
    · intro W9 hS9
      obtain ⟨q0, q1, q2, q3⟩ := hS9
      have s0 : W9.cell? ⟨B3, 0, none⟩ = some (.slice y1.sa y1.sn y1.sc) := q1.cell 0
      have s1 : W9.cell? ⟨B3, 1, none⟩ = some (.slice y1.pa y1.pn y1.pc) := q1.cell 1
      have s2 : W9.cell? ⟨B3, 2, none⟩ = some (.slice y1.ha y1.hn y1.hc) := q1.cell 2
      have s3 : W9.cell? ⟨B3, 3, none⟩ = some (.slice y1.ba y1.bn y1.bc) := q1.cell 3
      clear q0 q1 q2 q3
      go_simp
    try simp only [Act.put, List.setIfInBounds_toArray, List.set_cons_zero, List.set_cons_succ]
    refine wpAnyN_take (i := 49) (oi := { dst := some 128, op := Go.Op.load 38 (Go.Operand.tmp 1), type := 38, pos := "law.go:27", after := #[{ on := 47, ground := Go.Ground.guard }], guard := some (47, true) }) (v := .agg #[.int .i64 0, .int .u64 0]) rfl (by decide) (by kernel_rfl) (by kernel_rfl) (by kernel_rfl) (fun _ _ _ h => h) (Or.inl ⟨by rfl, ?_⟩) hS8 ?_
    · intro W9 hS9
      obtain ⟨q0, q1, q2, q3⟩ := hS9
      have s0 : W9.cell? ⟨w.heap.size, 0, none⟩ = some (.int .i64 0) := q0.cell 0
      have s1 : W9.cell? ⟨w.heap.size, 1, none⟩ = some (.int .u64 0) := q0.cell 1
      clear q0 q1 q2 q3
      go_simp
    try simp only [Act.put, List.setIfInBounds_toArray, List.set_cons_zero, List.set_cons_succ]
    refine wpAnyX_one (i := 50) (o := { dst := some 129, op := Go.Op.call { callee := Go.Callee.value (Go.Operand.func 26), args := #[Go.Operand.const (Go.Value.int Go.IntKind.i64 4), Go.Operand.const (Go.Value.int Go.IntKind.i64 1), Go.Operand.tmp 128], argTypes := #[3, 3, 38] }, type := 40, pos := "law.go:27", after := #[{ on := 49, ground := Go.Ground.data }, { on := 47, ground := Go.Ground.chain }, { on := 47, ground := Go.Ground.guard }], guard := some (47, true) }) (by kernel_rfl) rfl (fun K hK => ?_)
    refine step_call_g (by rfl) 26 _ _ rfl (fun _ _ => by kernel_rfl) #[.int .i64 4, .int .i64 1, .agg #[.int .i64 0, .int .u64 0]] (by simp [go_sem]) _ (HWA 4 1 x20).out ?_
    rintro e x21 ⟨rfl, hC⟩
    refine ⟨_, rfl, ?_⟩
    have hS9 : Rows8 x21 w.heap.size 38 #[.int .i64 0, .int .u64 0] ∧ Rows8 x21 B3 29 #[.slice y1.sa y1.sn y1.sc, .slice y1.pa y1.pn y1.pc, .slice y1.ha y1.hn y1.hc, .slice y1.ba y1.bn y1.bc] ∧ Rows8 x21 B7 29 #[.slice y2.sa y2.sn y2.sc, .slice y2.pa y2.pn y2.pc, .slice y2.ha y2.hn y2.hc, .slice y2.ba y2.bn y2.bc] ∧ Rows8 x21 B10 29 #[.slice y3.sa y3.sn y3.sc, .slice y3.pa y3.pn y3.pc, .slice y3.ha y3.hn y3.hc, .slice y3.ba y3.bn y3.bc] := ⟨hS8.1.below hC hS8.1.lt, hS8.2.1.below hC hS8.2.1.lt, hS8.2.2.1.below hC hS8.2.2.1.lt, hS8.2.2.2.below hC hS8.2.2.2.lt⟩
    have HM1 := Lib.hid (HM1.out.below hC (Nat.le_refl _))
    have HM3 := Lib.hid (HM3.out.below hC (Nat.le_refl _))
    have HT1 : Hid (PAt x21 (.slice ta 1 tc) [(0, 0)]) := Lib.hid (PAt.below HT1.out hC)
    have HT2 : Hid (PAt x21 (.slice tb 1 tc2) [(0, 1)]) := Lib.hid (PAt.below HT2.out hC)
    have HB := Lib.hid (HB.out.trans (hC.mono HB.out.size))
    clear hC
    refine hK.out _ _ (fun _ => hS9) ?_
    clear hK K
    try simp only [Act.put, List.setIfInBounds_toArray, List.set_cons_zero, List.set_cons_succ]
    refine wpAnyX_one (i := 51) (o := { dst := some 130, op := Go.Op.call { callee := Go.Callee.value (Go.Operand.func 16), args := #[Go.Operand.tmp 127, Go.Operand.tmp 129], argTypes := #[29, 40] }, type := 4, pos := "law.go:27", after := #[{ on := 48, ground := Go.Ground.data }, { on := 50, ground := Go.Ground.data }, { on := 50, ground := Go.Ground.chain }, { on := 47, ground := Go.Ground.guard }], guard := some (47, true) }) (by kernel_rfl) rfl (fun K hK => ?_)
    refine step_call_g (by rfl) 16 _ _ rfl (fun _ _ => by kernel_rfl) #[.agg #[.slice y1.sa y1.sn y1.sc, .slice y1.pa y1.pn y1.pc, .slice y1.ha y1.hn y1.hc, .slice y1.ba y1.bn y1.bc], .agg #[.int .i64 4, .int .i64 1, .int .i64 0, .int .u64 0]] (by simp [go_sem]) _ (Try.good_1 x21 HM1.out).out ?_
    rintro e x22 ⟨rfl, hC⟩
    refine ⟨_, rfl, ?_⟩
    have hS10 : Rows8 x22 w.heap.size 38 #[.int .i64 0, .int .u64 0] ∧ Rows8 x22 B3 29 #[.slice y1.sa y1.sn y1.sc, .slice y1.pa y1.pn y1.pc, .slice y1.ha y1.hn y1.hc, .slice y1.ba y1.bn y1.bc] ∧ Rows8 x22 B7 29 #[.slice y2.sa y2.sn y2.sc, .slice y2.pa y2.pn y2.pc, .slice y2.ha y2.hn y2.hc, .slice y2.ba y2.bn y2.bc] ∧ Rows8 x22 B10 29 #[.slice y3.sa y3.sn y3.sc, .slice y3.pa y3.pn y3.pc, .slice y3.ha y3.hn y3.hc, .slice y3.ba y3.bn y3.bc] := ⟨hS9.1.below hC hS9.1.lt, hS9.2.1.below hC hS9.2.1.lt, hS9.2.2.1.below hC hS9.2.2.1.lt, hS9.2.2.2.below hC hS9.2.2.2.lt⟩
    have HM1 := Lib.hid (HM1.out.below hC (Nat.le_refl _))
    have HM3 := Lib.hid (HM3.out.below hC (Nat.le_refl _))
    have HT1 : Hid (PAt x22 (.slice ta 1 tc) [(0, 0)]) := Lib.hid (PAt.below HT1.out hC)
    have HT2 : Hid (PAt x22 (.slice tb 1 tc2) [(0, 1)]) := Lib.hid (PAt.below HT2.out hC)
    have HB := Lib.hid (HB.out.trans (hC.mono HB.out.size))
    clear hC
    refine hK.out _ _ (fun _ => hS10) ?_
    clear hK K
    try simp only [Act.put, List.setIfInBounds_toArray, List.set_cons_zero, List.set_cons_succ]
    refine wpAnyN_take (i := 52) (oi := { dst := some 131, op := Go.Op.pick (Go.Operand.tmp 126) (Go.Operand.tmp 130) (Go.Operand.const (Go.Value.bool false)), type := 4, pos := "law.go:27", after := #[{ on := 47, ground := Go.Ground.data }, { on := 51, ground := Go.Ground.data }], guard := none }) (v := .bool true) rfl (by decide) (by kernel_rfl) (by kernel_rfl) (by kernel_rfl) (fun _ _ _ h => h) (Or.inl ⟨by rfl, ?_⟩) hS10 ?_
    · intro W9 hS9
      obtain ⟨q0, q1, q2, q3⟩ := hS9
      clear q0 q1 q2 q3
      go_simp
    try simp only [Act.put, List.setIfInBounds_toArray, List.set_cons_zero, List.set_cons_succ]
    refine wpAnyN_take (i := 53) (oi := { dst := some 132, op := Go.Op.move (Go.Operand.tmp 131), type := 4, pos := "law.go:27", after := #[{ on := 52, ground := Go.Ground.data }, { on := 51, ground := Go.Ground.chain }], guard := none }) (v := .bool true) rfl (by decide) (by kernel_rfl) (by kernel_rfl) (by kernel_rfl) (fun _ _ _ h => h) (Or.inl ⟨by rfl, ?_⟩) hS10 ?_
    · intro W9 hS9
      obtain ⟨q0, q1, q2, q3⟩ := hS9
      clear q0 q1 q2 q3
      go_simp
    try simp only [Act.put, List.setIfInBounds_toArray, List.set_cons_zero, List.set_cons_succ]
    refine wpAnyN_take (i := 54) (oi := { dst := some 133, op := Go.Op.load 29 (Go.Operand.tmp 10), type := 29, pos := "law.go:27", after := #[{ on := 53, ground := Go.Ground.guard }], guard := some (53, true) }) (v := .agg #[.slice y3.sa y3.sn y3.sc, .slice y3.pa y3.pn y3.pc, .slice y3.ha y3.hn y3.hc, .slice y3.ba y3.bn y3.bc]) rfl (by decide) (by kernel_rfl) (by kernel_rfl) (by kernel_rfl) (fun _ _ _ h => h) (Or.inl ⟨by rfl, ?_⟩) hS10 ?_
    · intro W9 hS9
      obtain ⟨q0, q1, q2, q3⟩ := hS9
      have s0 : W9.cell? ⟨B10, 0, none⟩ = some (.slice y3.sa y3.sn y3.sc) := q3.cell 0
      have s1 : W9.cell? ⟨B10, 1, none⟩ = some (.slice y3.pa y3.pn y3.pc) := q3.cell 1
      have s2 : W9.cell? ⟨B10, 2, none⟩ = some (.slice y3.ha y3.hn y3.hc) := q3.cell 2
      have s3 : W9.cell? ⟨B10, 3, none⟩ = some (.slice y3.ba y3.bn y3.bc) := q3.cell 3
      clear q0 q1 q2 q3
      go_simp
    try simp only [Act.put, List.setIfInBounds_toArray, List.set_cons_zero, List.set_cons_succ]
    refine wpAnyN_take (i := 55) (oi := { dst := some 134, op := Go.Op.load 38 (Go.Operand.tmp 1), type := 38, pos := "law.go:27", after := #[{ on := 53, ground := Go.Ground.guard }], guard := some (53, true) }) (v := .agg #[.int .i64 0, .int .u64 0]) rfl (by decide) (by kernel_rfl) (by kernel_rfl) (by kernel_rfl) (fun _ _ _ h => h) (Or.inl ⟨by rfl, ?_⟩) hS10 ?_
    · intro W9 hS9
      obtain ⟨q0, q1, q2, q3⟩ := hS9
      have s0 : W9.cell? ⟨w.heap.size, 0, none⟩ = some (.int .i64 0) := q0.cell 0
      have s1 : W9.cell? ⟨w.heap.size, 1, none⟩ = some (.int .u64 0) := q0.cell 1
      clear q0 q1 q2 q3
      go_simp
    try simp only [Act.put, List.setIfInBounds_toArray, List.set_cons_zero, List.set_cons_succ]
    refine wpAnyX_one (i := 56) (o := { dst := some 135, op := Go.Op.call { callee := Go.Callee.value (Go.Operand.func 26), args := #[Go.Operand.const (Go.Value.int Go.IntKind.i64 5), Go.Operand.const (Go.Value.int Go.IntKind.i64 1), Go.Operand.tmp 134], argTypes := #[3, 3, 38] }, type := 40, pos := "law.go:27", after := #[{ on := 55, ground := Go.Ground.data }, { on := 53, ground := Go.Ground.chain }, { on := 53, ground := Go.Ground.guard }], guard := some (53, true) }) (by kernel_rfl) rfl (fun K hK => ?_)
    refine step_call_g (by rfl) 26 _ _ rfl (fun _ _ => by kernel_rfl) #[.int .i64 5, .int .i64 1, .agg #[.int .i64 0, .int .u64 0]] (by simp [go_sem]) _ (HWA 5 1 x22).out ?_
    rintro e x23 ⟨rfl, hC⟩
    refine ⟨_, rfl, ?_⟩
    have hS11 : Rows8 x23 w.heap.size 38 #[.int .i64 0, .int .u64 0] ∧ Rows8 x23 B3 29 #[.slice y1.sa y1.sn y1.sc, .slice y1.pa y1.pn y1.pc, .slice y1.ha y1.hn y1.hc, .slice y1.ba y1.bn y1.bc] ∧ Rows8 x23 B7 29 #[.slice y2.sa y2.sn y2.sc, .slice y2.pa y2.pn y2.pc, .slice y2.ha y2.hn y2.hc, .slice y2.ba y2.bn y2.bc] ∧ Rows8 x23 B10 29 #[.slice y3.sa y3.sn y3.sc, .slice y3.pa y3.pn y3.pc, .slice y3.ha y3.hn y3.hc, .slice y3.ba y3.bn y3.bc] := ⟨hS10.1.below hC hS10.1.lt, hS10.2.1.below hC hS10.2.1.lt, hS10.2.2.1.below hC hS10.2.2.1.lt, hS10.2.2.2.below hC hS10.2.2.2.lt⟩
    have HM1 := Lib.hid (HM1.out.below hC (Nat.le_refl _))
    have HM3 := Lib.hid (HM3.out.below hC (Nat.le_refl _))
    have HT1 : Hid (PAt x23 (.slice ta 1 tc) [(0, 0)]) := Lib.hid (PAt.below HT1.out hC)
    have HT2 : Hid (PAt x23 (.slice tb 1 tc2) [(0, 1)]) := Lib.hid (PAt.below HT2.out hC)
    have HB := Lib.hid (HB.out.trans (hC.mono HB.out.size))
    clear hC
    refine hK.out _ _ (fun _ => hS11) ?_
    clear hK K
    try simp only [Act.put, List.setIfInBounds_toArray, List.set_cons_zero, List.set_cons_succ]
    refine wpAnyX_one (i := 57) (o := { dst := some 136, op := Go.Op.call { callee := Go.Callee.value (Go.Operand.func 16), args := #[Go.Operand.tmp 133, Go.Operand.tmp 135], argTypes := #[29, 40] }, type := 4, pos := "law.go:27", after := #[{ on := 54, ground := Go.Ground.data }, { on := 56, ground := Go.Ground.data }, { on := 56, ground := Go.Ground.chain }, { on := 53, ground := Go.Ground.guard }], guard := some (53, true) }) (by kernel_rfl) rfl (fun K hK => ?_)
    refine step_call_g (by rfl) 16 _ _ rfl (fun _ _ => by kernel_rfl) #[.agg #[.slice y3.sa y3.sn y3.sc, .slice y3.pa y3.pn y3.pc, .slice y3.ha y3.hn y3.hc, .slice y3.ba y3.bn y3.bc], .agg #[.int .i64 5, .int .i64 1, .int .i64 0, .int .u64 0]] (by simp [go_sem]) _ (Try.good_2 x23 HM3.out).out ?_
    rintro e x24 ⟨rfl, hC⟩
    refine ⟨_, rfl, ?_⟩
    have hS12 : Rows8 x24 w.heap.size 38 #[.int .i64 0, .int .u64 0] ∧ Rows8 x24 B3 29 #[.slice y1.sa y1.sn y1.sc, .slice y1.pa y1.pn y1.pc, .slice y1.ha y1.hn y1.hc, .slice y1.ba y1.bn y1.bc] ∧ Rows8 x24 B7 29 #[.slice y2.sa y2.sn y2.sc, .slice y2.pa y2.pn y2.pc, .slice y2.ha y2.hn y2.hc, .slice y2.ba y2.bn y2.bc] ∧ Rows8 x24 B10 29 #[.slice y3.sa y3.sn y3.sc, .slice y3.pa y3.pn y3.pc, .slice y3.ha y3.hn y3.hc, .slice y3.ba y3.bn y3.bc] := ⟨hS11.1.below hC hS11.1.lt, hS11.2.1.below hC hS11.2.1.lt, hS11.2.2.1.below hC hS11.2.2.1.lt, hS11.2.2.2.below hC hS11.2.2.2.lt⟩
    have HM1 := Lib.hid (HM1.out.below hC (Nat.le_refl _))
    have HM3 := Lib.hid (HM3.out.below hC (Nat.le_refl _))
    have HT1 : Hid (PAt x24 (.slice ta 1 tc) [(0, 0)]) := Lib.hid (PAt.below HT1.out hC)
    have HT2 : Hid (PAt x24 (.slice tb 1 tc2) [(0, 1)]) := Lib.hid (PAt.below HT2.out hC)
    have HB := Lib.hid (HB.out.trans (hC.mono HB.out.size))
    clear hC
    refine hK.out _ _ (fun _ => hS12) ?_
    clear hK K
    try simp only [Act.put, List.setIfInBounds_toArray, List.set_cons_zero, List.set_cons_succ]
    refine wpAnyN_take (i := 58) (oi := { dst := some 137, op := Go.Op.unOp Go.UnOp.not 4 (Go.Operand.tmp 136), type := 4, pos := "law.go:27", after := #[{ on := 57, ground := Go.Ground.data }, { on := 53, ground := Go.Ground.guard }], guard := some (53, true) }) (v := .bool true) rfl (by decide) (by kernel_rfl) (by kernel_rfl) (by kernel_rfl) (fun _ _ _ h => h) (Or.inl ⟨by rfl, ?_⟩) hS12 ?_
    · intro W9 hS9
      obtain ⟨q0, q1, q2, q3⟩ := hS9
      clear q0 q1 q2 q3
      go_simp
    try simp only [Act.put, List.setIfInBounds_toArray, List.set_cons_zero, List.set_cons_succ]
    refine wpAnyN_take (i := 59) (oi := { dst := some 138, op := Go.Op.pick (Go.Operand.tmp 132) (Go.Operand.tmp 137) (Go.Operand.const (Go.Value.bool false)), type := 4, pos := "law.go:27", after := #[{ on := 53, ground := Go.Ground.data }, { on := 58, ground := Go.Ground.data }], guard := none }) (v := .bool true) rfl (by decide) (by kernel_rfl) (by kernel_rfl) (by kernel_rfl) (fun _ _ _ h => h) (Or.inl ⟨by rfl, ?_⟩) hS12 ?_
    · intro W9 hS9
      obtain ⟨q0, q1, q2, q3⟩ := hS9
      clear q0 q1 q2 q3
      go_simp
    try simp only [Act.put, List.setIfInBounds_toArray, List.set_cons_zero, List.set_cons_succ]
    refine wpAnyN_take (i := 60) (oi := { dst := some 139, op := Go.Op.move (Go.Operand.tmp 138), type := 4, pos := "law.go:27", after := #[{ on := 59, ground := Go.Ground.data }, { on := 57, ground := Go.Ground.chain }], guard := none }) (v := .bool true) rfl (by decide) (by kernel_rfl) (by kernel_rfl) (by kernel_rfl) (fun _ _ _ h => h) (Or.inl ⟨by rfl, ?_⟩) hS12 ?_
    · intro W9 hS9
      obtain ⟨q0, q1, q2, q3⟩ := hS9
      clear q0 q1 q2 q3
      go_simp
    try simp only [Act.put, List.setIfInBounds_toArray, List.set_cons_zero, List.set_cons_succ]
    refine wpAnyN_take (i := 61) (oi := { dst := some 140, op := Go.Op.load 29 (Go.Operand.tmp 10), type := 29, pos := "law.go:27", after := #[{ on := 60, ground := Go.Ground.guard }], guard := some (60, true) }) (v := .agg #[.slice y3.sa y3.sn y3.sc, .slice y3.pa y3.pn y3.pc, .slice y3.ha y3.hn y3.hc, .slice y3.ba y3.bn y3.bc]) rfl (by decide) (by kernel_rfl) (by kernel_rfl) (by kernel_rfl) (fun _ _ _ h => h) (Or.inl ⟨by rfl, ?_⟩) hS12 ?_
    · intro W9 hS9
      obtain ⟨q0, q1, q2, q3⟩ := hS9
      have s0 : W9.cell? ⟨B10, 0, none⟩ = some (.slice y3.sa y3.sn y3.sc) := q3.cell 0
      have s1 : W9.cell? ⟨B10, 1, none⟩ = some (.slice y3.pa y3.pn y3.pc) := q3.cell 1
      have s2 : W9.cell? ⟨B10, 2, none⟩ = some (.slice y3.ha y3.hn y3.hc) := q3.cell 2
      have s3 : W9.cell? ⟨B10, 3, none⟩ = some (.slice y3.ba y3.bn y3.bc) := q3.cell 3
      clear q0 q1 q2 q3
      go_simp
    try simp only [Act.put, List.setIfInBounds_toArray, List.set_cons_zero, List.set_cons_succ]
    refine wpAnyN_take (i := 62) (oi := { dst := some 141, op := Go.Op.load 38 (Go.Operand.tmp 1), type := 38, pos := "law.go:27", after := #[{ on := 60, ground := Go.Ground.guard }], guard := some (60, true) }) (v := .agg #[.int .i64 0, .int .u64 0]) rfl (by decide) (by kernel_rfl) (by kernel_rfl) (by kernel_rfl) (fun _ _ _ h => h) (Or.inl ⟨by rfl, ?_⟩) hS12 ?_
    · intro W9 hS9
      obtain ⟨q0, q1, q2, q3⟩ := hS9
      have s0 : W9.cell? ⟨w.heap.size, 0, none⟩ = some (.int .i64 0) := q0.cell 0
      have s1 : W9.cell? ⟨w.heap.size, 1, none⟩ = some (.int .u64 0) := q0.cell 1
      clear q0 q1 q2 q3
      go_simp
    try simp only [Act.put, List.setIfInBounds_toArray, List.set_cons_zero, List.set_cons_succ]
    refine wpAnyX_one (i := 63) (o := { dst := some 142, op := Go.Op.call { callee := Go.Callee.value (Go.Operand.func 26), args := #[Go.Operand.const (Go.Value.int Go.IntKind.i64 4), Go.Operand.const (Go.Value.int Go.IntKind.i64 1), Go.Operand.tmp 141], argTypes := #[3, 3, 38] }, type := 40, pos := "law.go:27", after := #[{ on := 62, ground := Go.Ground.data }, { on := 60, ground := Go.Ground.chain }, { on := 60, ground := Go.Ground.guard }], guard := some (60, true) }) (by kernel_rfl) rfl (fun K hK => ?_)
    refine step_call_g (by rfl) 26 _ _ rfl (fun _ _ => by kernel_rfl) #[.int .i64 4, .int .i64 1, .agg #[.int .i64 0, .int .u64 0]] (by simp [go_sem]) _ (HWA 4 1 x24).out ?_
    rintro e x25 ⟨rfl, hC⟩
    refine ⟨_, rfl, ?_⟩
    have hS13 : Rows8 x25 w.heap.size 38 #[.int .i64 0, .int .u64 0] ∧ Rows8 x25 B3 29 #[.slice y1.sa y1.sn y1.sc, .slice y1.pa y1.pn y1.pc, .slice y1.ha y1.hn y1.hc, .slice y1.ba y1.bn y1.bc] ∧ Rows8 x25 B7 29 #[.slice y2.sa y2.sn y2.sc, .slice y2.pa y2.pn y2.pc, .slice y2.ha y2.hn y2.hc, .slice y2.ba y2.bn y2.bc] ∧ Rows8 x25 B10 29 #[.slice y3.sa y3.sn y3.sc, .slice y3.pa y3.pn y3.pc, .slice y3.ha y3.hn y3.hc, .slice y3.ba y3.bn y3.bc] := ⟨hS12.1.below hC hS12.1.lt, hS12.2.1.below hC hS12.2.1.lt, hS12.2.2.1.below hC hS12.2.2.1.lt, hS12.2.2.2.below hC hS12.2.2.2.lt⟩
    have HM1 := Lib.hid (HM1.out.below hC (Nat.le_refl _))
    have HM3 := Lib.hid (HM3.out.below hC (Nat.le_refl _))
    have HT1 : Hid (PAt x25 (.slice ta 1 tc) [(0, 0)]) := Lib.hid (PAt.below HT1.out hC)
    have HT2 : Hid (PAt x25 (.slice tb 1 tc2) [(0, 1)]) := Lib.hid (PAt.below HT2.out hC)
    have HB := Lib.hid (HB.out.trans (hC.mono HB.out.size))
    clear hC
    refine hK.out _ _ (fun _ => hS13) ?_
    clear hK K
    try simp only [Act.put, List.setIfInBounds_toArray, List.set_cons_zero, List.set_cons_succ]
    refine wpAnyX_one (i := 64) (o := { dst := some 143, op := Go.Op.call { callee := Go.Callee.value (Go.Operand.func 16), args := #[Go.Operand.tmp 140, Go.Operand.tmp 142], argTypes := #[29, 40] }, type := 4, pos := "law.go:27", after := #[{ on := 61, ground := Go.Ground.data }, { on := 63, ground := Go.Ground.data }, { on := 63, ground := Go.Ground.chain }, { on := 60, ground := Go.Ground.guard }], guard := some (60, true) }) (by kernel_rfl) rfl (fun K hK => ?_)
    refine step_call_g (by rfl) 16 _ _ rfl (fun _ _ => by kernel_rfl) #[.agg #[.slice y3.sa y3.sn y3.sc, .slice y3.pa y3.pn y3.pc, .slice y3.ha y3.hn y3.hc, .slice y3.ba y3.bn y3.bc], .agg #[.int .i64 4, .int .i64 1, .int .i64 0, .int .u64 0]] (by simp [go_sem]) _ (Try.good_3 x25 HM3.out).out ?_
    rintro e x26 ⟨rfl, hC⟩
    refine ⟨_, rfl, ?_⟩
    have hS14 : Rows8 x26 w.heap.size 38 #[.int .i64 0, .int .u64 0] ∧ Rows8 x26 B3 29 #[.slice y1.sa y1.sn y1.sc, .slice y1.pa y1.pn y1.pc, .slice y1.ha y1.hn y1.hc, .slice y1.ba y1.bn y1.bc] ∧ Rows8 x26 B7 29 #[.slice y2.sa y2.sn y2.sc, .slice y2.pa y2.pn y2.pc, .slice y2.ha y2.hn y2.hc, .slice y2.ba y2.bn y2.bc] ∧ Rows8 x26 B10 29 #[.slice y3.sa y3.sn y3.sc, .slice y3.pa y3.pn y3.pc, .slice y3.ha y3.hn y3.hc, .slice y3.ba y3.bn y3.bc] := ⟨hS13.1.below hC hS13.1.lt, hS13.2.1.below hC hS13.2.1.lt, hS13.2.2.1.below hC hS13.2.2.1.lt, hS13.2.2.2.below hC hS13.2.2.2.lt⟩
    have HM1 := Lib.hid (HM1.out.below hC (Nat.le_refl _))
    have HM3 := Lib.hid (HM3.out.below hC (Nat.le_refl _))
    have HT1 : Hid (PAt x26 (.slice ta 1 tc) [(0, 0)]) := Lib.hid (PAt.below HT1.out hC)
    have HT2 : Hid (PAt x26 (.slice tb 1 tc2) [(0, 1)]) := Lib.hid (PAt.below HT2.out hC)
    have HB := Lib.hid (HB.out.trans (hC.mono HB.out.size))
    clear hC
    refine hK.out _ _ (fun _ => hS14) ?_
    clear hK K
    try simp only [Act.put, List.setIfInBounds_toArray, List.set_cons_zero, List.set_cons_succ]
    refine wpAnyN_take (i := 65) (oi := { dst := some 144, op := Go.Op.pick (Go.Operand.tmp 139) (Go.Operand.tmp 143) (Go.Operand.const (Go.Value.bool false)), type := 4, pos := "law.go:27", after := #[{ on := 60, ground := Go.Ground.data }, { on := 64, ground := Go.Ground.data }], guard := none }) (v := .bool true) rfl (by decide) (by kernel_rfl) (by kernel_rfl) (by kernel_rfl) (fun _ _ _ h => h) (Or.inl ⟨by rfl, ?_⟩) hS14 ?_
    · intro W9 hS9
      obtain ⟨q0, q1, q2, q3⟩ := hS9
      clear q0 q1 q2 q3
      go_simp
    try simp only [Act.put, List.setIfInBounds_toArray, List.set_cons_zero, List.set_cons_succ]
    refine wpAnyN_take (i := 66) (oi := { dst := some 145, op := Go.Op.move (Go.Operand.tmp 144), type := 4, pos := "law.go:27", after := #[{ on := 65, ground := Go.Ground.data }, { on := 64, ground := Go.Ground.chain }], guard := none }) (v := .bool true) rfl (by decide) (by kernel_rfl) (by kernel_rfl) (by kernel_rfl) (fun _ _ _ h => h) (Or.inl ⟨by rfl, ?_⟩) hS14 ?_
    · intro W9 hS9
      obtain ⟨q0, q1, q2, q3⟩ := hS9
      clear q0 q1 q2 q3
      go_simp
    try simp only [Act.put, List.setIfInBounds_toArray, List.set_cons_zero, List.set_cons_succ]
    refine wpAnyN_take (i := 67) (oi := { dst := some 146, op := Go.Op.fieldAddr 29 (Go.Operand.tmp 7) 3, type := 0, pos := "law.go:27", after := #[{ on := 66, ground := Go.Ground.guard }], guard := some (66, true) }) (v := .pointer (some ⟨B7, 3, none⟩)) rfl (by decide) (by kernel_rfl) (by kernel_rfl) (by kernel_rfl) (fun _ _ _ h => h) (Or.inl ⟨by rfl, ?_⟩) hS14 ?_
    · intro W9 hS9
      obtain ⟨q0, q1, q2, q3⟩ := hS9
      clear q0 q1 q2 q3
      go_simp
    try simp only [Act.put, List.setIfInBounds_toArray, List.set_cons_zero, List.set_cons_succ]
    refine wpAnyN_take (i := 68) (oi := { dst := some 147, op := Go.Op.load 27 (Go.Operand.tmp 146), type := 27, pos := "law.go:27", after := #[{ on := 67, ground := Go.Ground.data }, { on := 66, ground := Go.Ground.guard }], guard := some (66, true) }) (v := .slice y2.ba y2.bn y2.bc) rfl (by decide) (by kernel_rfl) (by kernel_rfl) (by kernel_rfl) (fun _ _ _ h => h) (Or.inl ⟨by rfl, ?_⟩) hS14 ?_
    · intro W9 hS9
      obtain ⟨q0, q1, q2, q3⟩ := hS9
      have s3 : W9.cell? ⟨B7, 3, none⟩ = some (.slice y2.ba y2.bn y2.bc) := q2.cell 3
      clear q0 q1 q2 q3
      go_simp
    try simp only [Act.put, List.setIfInBounds_toArray, List.set_cons_zero, List.set_cons_succ]
    refine wpAnyN_take (i := 69) (oi := { dst := some 148, op := Go.Op.call { callee := Go.Callee.builtin Go.Builtin.len, args := #[Go.Operand.tmp 147], argTypes := #[27] }, type := 3, pos := "law.go:27", after := #[{ on := 68, ground := Go.Ground.data }, { on := 66, ground := Go.Ground.guard }], guard := some (66, true) }) (v := .int .i64 (y2.bn : Nat)) rfl (by decide) (by kernel_rfl) (by kernel_rfl) (by kernel_rfl) (fun _ _ _ h => h) (Or.inl ⟨by rfl, ?_⟩) hS14 ?_
    · intro W9 hS9
      obtain ⟨q0, q1, q2, q3⟩ := hS9
      clear q0 q1 q2 q3
      go_simp
    try simp only [Act.put, List.setIfInBounds_toArray, List.set_cons_zero, List.set_cons_succ]
    refine wpAnyN_take (i := 70) (oi := { dst := some 149, op := Go.Op.binOp Go.BinOp.eql 3 (Go.Operand.tmp 148) (Go.Operand.const (Go.Value.int Go.IntKind.i64 1)) 3, type := 4, pos := "law.go:27", after := #[{ on := 69, ground := Go.Ground.data }, { on := 66, ground := Go.Ground.guard }], guard := some (66, true) }) (v := .bool true) rfl (by decide) (by kernel_rfl) (by kernel_rfl) (by kernel_rfl) (fun _ _ _ h => h) (Or.inl ⟨by rfl, ?_⟩) hS14 ?_
    · intro W9 hS9
      obtain ⟨q0, q1, q2, q3⟩ := hS9
      have d : (((y2.bn : Nat) : Int) == 1) = true := by rw [HBN.out]; rfl
      clear q0 q1 q2 q3
      go_simp
    try simp only [Act.put, List.setIfInBounds_toArray, List.set_cons_zero, List.set_cons_succ]
    refine wpAnyN_take (i := 71) (oi := { dst := some 150, op := Go.Op.pick (Go.Operand.tmp 145) (Go.Operand.tmp 149) (Go.Operand.const (Go.Value.bool false)), type := 4, pos := "law.go:27", after := #[{ on := 66, ground := Go.Ground.data }, { on := 70, ground := Go.Ground.data }], guard := none }) (v := .bool true) rfl (by decide) (by kernel_rfl) (by kernel_rfl) (by kernel_rfl) (fun _ _ _ h => h) (Or.inl ⟨by rfl, ?_⟩) hS14 ?_
    · intro W9 hS9
      obtain ⟨q0, q1, q2, q3⟩ := hS9
      clear q0 q1 q2 q3
      go_simp
    try simp only [Act.put, List.setIfInBounds_toArray, List.set_cons_zero, List.set_cons_succ]
    refine wpAnyN_take (i := 72) (oi := { dst := some 0, op := Go.Op.assign (Go.Operand.tmp 150), type := 4, pos := "law.go:27", after := ([{ on := 71, ground := Go.Ground.data }, { on := 66, ground := Go.Ground.chain }, { on := 0, ground := Go.Ground.phase }, { on := 1, ground := Go.Ground.phase }, { on := 2, ground := Go.Ground.phase }, { on := 3, ground := Go.Ground.phase }, { on := 4, ground := Go.Ground.phase }, { on := 5, ground := Go.Ground.phase }, { on := 6, ground := Go.Ground.phase }, { on := 7, ground := Go.Ground.phase }, { on := 8, ground := Go.Ground.phase }, { on := 9, ground := Go.Ground.phase }, { on := 10, ground := Go.Ground.phase }, { on := 11, ground := Go.Ground.phase }, { on := 12, ground := Go.Ground.phase }, { on := 13, ground := Go.Ground.phase }, { on := 14, ground := Go.Ground.phase }, { on := 15, ground := Go.Ground.phase }, { on := 16, ground := Go.Ground.phase }, { on := 17, ground := Go.Ground.phase }, { on := 18, ground := Go.Ground.phase }, { on := 19, ground := Go.Ground.phase }, { on := 20, ground := Go.Ground.phase }, { on := 21, ground := Go.Ground.phase }, { on := 22, ground := Go.Ground.phase }, { on := 23, ground := Go.Ground.phase }, { on := 24, ground := Go.Ground.phase }, { on := 25, ground := Go.Ground.phase }, { on := 26, ground := Go.Ground.phase }, { on := 27, ground := Go.Ground.phase }, { on := 28, ground := Go.Ground.phase }, { on := 29, ground := Go.Ground.phase }, { on := 30, ground := Go.Ground.phase }, { on := 31, ground := Go.Ground.phase }, { on := 32, ground := Go.Ground.phase }, { on := 33, ground := Go.Ground.phase }, { on := 34, ground := Go.Ground.phase }].append [{ on := 35, ground := Go.Ground.phase }, { on := 36, ground := Go.Ground.phase }, { on := 37, ground := Go.Ground.phase }, { on := 38, ground := Go.Ground.phase }, { on := 39, ground := Go.Ground.phase }, { on := 40, ground := Go.Ground.phase }, { on := 41, ground := Go.Ground.phase }, { on := 42, ground := Go.Ground.phase }, { on := 43, ground := Go.Ground.phase }, { on := 44, ground := Go.Ground.phase }, { on := 45, ground := Go.Ground.phase }, { on := 46, ground := Go.Ground.phase }, { on := 47, ground := Go.Ground.phase }, { on := 48, ground := Go.Ground.phase }, { on := 49, ground := Go.Ground.phase }, { on := 50, ground := Go.Ground.phase }, { on := 51, ground := Go.Ground.phase }, { on := 52, ground := Go.Ground.phase }, { on := 53, ground := Go.Ground.phase }, { on := 54, ground := Go.Ground.phase }, { on := 55, ground := Go.Ground.phase }, { on := 56, ground := Go.Ground.phase }, { on := 57, ground := Go.Ground.phase }, { on := 58, ground := Go.Ground.phase }, { on := 59, ground := Go.Ground.phase }, { on := 60, ground := Go.Ground.phase }, { on := 61, ground := Go.Ground.phase }, { on := 62, ground := Go.Ground.phase }, { on := 63, ground := Go.Ground.phase }, { on := 64, ground := Go.Ground.phase }, { on := 65, ground := Go.Ground.phase }, { on := 66, ground := Go.Ground.phase }, { on := 67, ground := Go.Ground.phase }, { on := 68, ground := Go.Ground.phase }, { on := 69, ground := Go.Ground.phase }, { on := 70, ground := Go.Ground.phase }, { on := 71, ground := Go.Ground.phase }]).toArray, guard := none }) (v := .bool true) rfl (by decide) (by kernel_rfl) (by kernel_rfl) (by kernel_rfl) (fun _ _ _ h => h) (Or.inl ⟨by rfl, ?_⟩) hS14 ?_
    · intro W9 hS9
      obtain ⟨q0, q1, q2, q3⟩ := hS9
      clear q0 q1 q2 q3
      go_simp
    try simp only [Act.put, List.setIfInBounds_toArray, List.set_cons_zero, List.set_cons_succ]
    refine wpAnyX_end (by kernel_rfl) ?_
    go_wp2_with fail
    go_ret
    exact ⟨rfl, HB.out⟩
end Go.Proofs

/- Monitor: region 11 of MonitorNews. -/
namespace Go.Proofs
set_option maxRecDepth 100000
open Go.RowKit Go.Shelf
attribute [local go_sem] Oper.semAt_some

structure NwC (G N BP : Nat) (W0 W : World) : Prop where
  rp : Rows8 W BP 48 #[.int .i64 (G : Nat), .int .i64 (N : Nat)]
  bl : Below W0.heap.size W0 W
theorem NwC.below {G N BP : Nat} {W0 A B : World} (h : NwC G N BP W0 A) (hB : Below A.heap.size A B) : NwC G N BP W0 B := ⟨h.rp.below hB h.rp.lt, h.bl.trans (hB.mono h.bl.size)⟩
theorem NwC.drew {G N BP : Nat} {W0 A : World} (h : NwC G N BP W0 A) : NwC G N BP W0 A.drew := ⟨h.rp.drewA, h.bl.drew⟩
def nwF (k0 N0 G N BP : Nat) (j : Nat) (x : Value) (W : World) : Prop :=
  match j with
  | 0 => x = .pointer (some ⟨BP, 1, none⟩)
  | 1 => x = .int .i64 (N : Nat)
  | 2 => ∃ a c, x = .agg #[.slice a N c] ∧ OwnsP 56 k0 (List.replicate N (0, 0)) (.slice a N c) W
  | 3 => x = .pointer (some ⟨BP, 0, none⟩)
  | 4 => x = .int .i64 (G : Nat)
  | 5 => ∃ b, x = .slice (some ⟨b, 0, none⟩) G G ∧ OwnsBools k0 (List.replicate G false) (.slice (some ⟨b, 0, none⟩) G G) W
  | 6 => x = .pointer (some ⟨BP, 0, none⟩)
  | 7 => x = .int .i64 (G : Nat)
  | 8 => ∃ (b : Nat) (vs : List Value), x = .slice (some ⟨b, 0, none⟩) G G ∧ OwnH k0 (List.replicate G []) (.slice (some ⟨b, 0, none⟩) G G) vs W
  | 9 => ∃ (y : Mv) (vs : List Value), x = .agg #[.slice y.sa y.sn y.sc, .slice y.pa y.pn y.pc, .slice y.ha y.hn y.hc, .slice y.ba y.bn y.bc] ∧ OwnMon k0 y ⟨List.replicate N (0, 0), List.replicate G false, List.replicate G [], []⟩ vs W
  | 10 => ∃ b, x = .pointer (some ⟨b, 0, none⟩) ∧ N0 ≤ b ∧ Rows8 W b 29 #[.slice none 0 0, .slice none 0 0, .slice none 0 0, .slice none 0 0]
  | _ => True
theorem nwF_st {k0 N0 G N BP : Nat} {j : Nat} {x : Value} {W W' : World} (h : nwF k0 N0 G N BP j x W) (hR : Below W.heap.size W W') : nwF k0 N0 G N BP j x W' :=
  match j, h with
  | 0, h => h
  | 1, h => h
  | 2, ⟨a, c, e, h⟩ => ⟨a, c, e, OwnsP.below h hR (Nat.le_refl _)⟩
  | 3, h => h
  | 4, h => h
  | 5, ⟨b, e, h⟩ => ⟨b, e, owns_keep h hR (Nat.le_refl _)⟩
  | 6, h => h
  | 7, h => h
  | 8, ⟨b, vs, e, h⟩ => ⟨b, vs, e, h.below hR (Nat.le_refl _)⟩
  | 9, ⟨y, vs, e, h⟩ => ⟨y, vs, e, h.below hR (Nat.le_refl _)⟩
  | 10, ⟨b, e, h3, h⟩ => ⟨b, e, h3, h.below hR h.lt⟩
  | _ + 11, _ => trivial
theorem nw_mon {k0 G N : Nat} {a : Option Addr} {c b5 b8 : Nat} {vs : List Value} {W : World} (h1 : OwnsP 56 k0 (List.replicate N (0, 0)) (.slice a N c) W) (h2 : OwnsBools k0 (List.replicate G false) (.slice (some ⟨b5, 0, none⟩) G G) W) (h3 : OwnH k0 (List.replicate G []) (.slice (some ⟨b8, 0, none⟩) G G) vs W) :
    OwnMon k0 ⟨a, N, c, some ⟨b5, 0, none⟩, G, G, some ⟨b8, 0, none⟩, G, G, none, 0, 0⟩ ⟨List.replicate N (0, 0), List.replicate G false, List.replicate G [], []⟩ vs W :=
  ⟨h1, h2, h3, World.ownsRow_nil _ _ _ _⟩
set_option maxHeartbeats 64000000 in
theorem Try.nw_r11 {s0 s1 s2 s3 s5 s6 s8 s9 s10 s11 s12 s13 s14 s15 s16 s17 s18 s19 s20 s21 s22 s23 s24 s25 s26 s27 s28 s29 s30 s31 s32 s33 s34 s35 s36 s37 s38 s39 s40 s41 s42 s43 s44 s45 s46 s47 s48 s49 s50 s51 s52 s53 s64 s65 s66 s67 s68 s69 s70 s71 s72 t54 t55 t56 t57 t58 t59 t60 t61 t62 t63 t7 : Value} (k0 G N BP : Nat) (W0 : World) (Q : Exit → Act → World → Prop)
    (hk0 : Hid (k0 ≤ W0.heap.size)) (hG : Hid (G ≤ 8)) (hN : Hid (N ≤ 10000)) (HBS : Hid (NwC G N BP W0 W0))
    (HK : Hid (∀ (BN : Nat) (y : Mv) (vs : List Value) (z : Nat → Value) (W : World), W0.heap.size ≤ BN → Below W0.heap.size W0 W → Rows8 W BN 29 #[.slice y.sa y.sn y.sc, .slice y.pa y.pn y.pc, .slice y.ha y.hn y.hc, .slice y.ba y.bn y.bc] → OwnMon k0 y ⟨List.replicate N (0, 0), List.replicate G false, List.replicate G [], []⟩ vs W → Q .normal ⟨(s0 :: s1 :: s2 :: s3 :: .pointer (some ⟨BP, 0, none⟩) :: s5 :: s6 :: .pointer (some ⟨BN, 0, none⟩) :: s8 :: s9 :: s10 :: s11 :: s12 :: s13 :: s14 :: s15 :: s16 :: s17 :: s18 :: s19 :: s20 :: s21 :: s22 :: s23 :: s24 :: s25 :: s26 :: s27 :: s28 :: s29 :: s30 :: s31 :: s32 :: s33 :: s34 :: s35 :: s36 :: s37 :: s38 :: s39 :: s40 :: s41 :: s42 :: s43 :: s44 :: s45 :: s46 :: s47 :: s48 :: s49 :: s50 :: s51 :: s52 :: s53 :: z 0 :: z 1 :: z 2 :: z 3 :: z 4 :: z 5 :: z 6 :: z 7 :: z 8 :: z 9 :: s64 :: s65 :: s66 :: s67 :: s68 :: s69 :: s70 :: s71 :: s72 :: []).toArray, []⟩ W)) :
    (Code.region 11 #[{ dst := some 54, op := Go.Op.indexAddr 48 (Go.Operand.tmp 4) (Go.Operand.const (Go.Value.int Go.IntKind.i64 1)), type := 0, pos := "law.go:155", after := #[], guard := none }, { dst := some 55, op := Go.Op.load 3 (Go.Operand.tmp 54), type := 3, pos := "law.go:155", after := #[{ on := 0, ground := Go.Ground.data }], guard := none }, { dst := some 56, op := Go.Op.call { callee := Go.Callee.value (Go.Operand.func 22), args := #[Go.Operand.tmp 55], argTypes := #[3] }, type := 24, pos := "law.go:155", after := #[{ on := 1, ground := Go.Ground.data }], guard := none }, { dst := some 57, op := Go.Op.indexAddr 48 (Go.Operand.tmp 4) (Go.Operand.const (Go.Value.int Go.IntKind.i64 0)), type := 0, pos := "law.go:155", after := #[], guard := none }, { dst := some 58, op := Go.Op.load 3 (Go.Operand.tmp 57), type := 3, pos := "law.go:155", after := #[{ on := 3, ground := Go.Ground.data }], guard := none }, { dst := some 59, op := Go.Op.makeSlice 25 (Go.Operand.tmp 58) (Go.Operand.tmp 58), type := 25, pos := "law.go:155", after := #[{ on := 4, ground := Go.Ground.data }, { on := 4, ground := Go.Ground.data }], guard := none }, { dst := some 60, op := Go.Op.indexAddr 48 (Go.Operand.tmp 4) (Go.Operand.const (Go.Value.int Go.IntKind.i64 0)), type := 0, pos := "law.go:155", after := #[], guard := none }, { dst := some 61, op := Go.Op.load 3 (Go.Operand.tmp 60), type := 3, pos := "law.go:155", after := #[{ on := 6, ground := Go.Ground.data }], guard := none }, { dst := some 62, op := Go.Op.makeSlice 26 (Go.Operand.tmp 61) (Go.Operand.tmp 61), type := 26, pos := "law.go:155", after := #[{ on := 7, ground := Go.Ground.data }, { on := 7, ground := Go.Ground.data }], guard := none }, { dst := some 63, op := Go.Op.build 29 #[(0, Go.Operand.tmp 56), (1, Go.Operand.tmp 59), (2, Go.Operand.tmp 62)], type := 29, pos := "law.go:155", after := #[{ on := 2, ground := Go.Ground.data }, { on := 5, ground := Go.Ground.data }, { on := 8, ground := Go.Ground.data }], guard := none }, { dst := some 7, op := Go.Op.alloc 29, type := 0, pos := "law.go:155", after := #[], guard := none }, { dst := none, op := Go.Op.store 29 (Go.Operand.tmp 7) (Go.Operand.tmp 63), type := 0, pos := "law.go:155", after := #[{ on := 10, ground := Go.Ground.data }, { on := 9, ground := Go.Ground.data }, { on := 2, ground := Go.Ground.chain }, { on := 0, ground := Go.Ground.phase }, { on := 1, ground := Go.Ground.phase }, { on := 2, ground := Go.Ground.phase }, { on := 3, ground := Go.Ground.phase }, { on := 4, ground := Go.Ground.phase }, { on := 5, ground := Go.Ground.phase }, { on := 6, ground := Go.Ground.phase }, { on := 7, ground := Go.Ground.phase }, { on := 8, ground := Go.Ground.phase }, { on := 9, ground := Go.Ground.phase }, { on := 10, ground := Go.Ground.phase }], guard := none }] true).wp Try.prog Q ⟨(s0 :: s1 :: s2 :: s3 :: .pointer (some ⟨BP, 0, none⟩) :: s5 :: s6 :: t7 :: s8 :: s9 :: s10 :: s11 :: s12 :: s13 :: s14 :: s15 :: s16 :: s17 :: s18 :: s19 :: s20 :: s21 :: s22 :: s23 :: s24 :: s25 :: s26 :: s27 :: s28 :: s29 :: s30 :: s31 :: s32 :: s33 :: s34 :: s35 :: s36 :: s37 :: s38 :: s39 :: s40 :: s41 :: s42 :: s43 :: s44 :: s45 :: s46 :: s47 :: s48 :: s49 :: s50 :: s51 :: s52 :: s53 :: t54 :: t55 :: t56 :: t57 :: t58 :: t59 :: t60 :: t61 :: t62 :: t63 :: s64 :: s65 :: s66 :: s67 :: s68 :: s69 :: s70 :: s71 :: s72 :: []).toArray, []⟩ W0 := by
  obtain ⟨ib, hib, hzb0, hzb1, hzb2⟩ := info_parts Try.infoBool
  obtain ⟨ih, hih, hzh0, hzh1, hzh2⟩ := info_parts Try.infoRow
  refine wp_region_facts (fun v => ⟨(s0 :: s1 :: s2 :: s3 :: .pointer (some ⟨BP, 0, none⟩) :: s5 :: s6 :: v 10 :: s8 :: s9 :: s10 :: s11 :: s12 :: s13 :: s14 :: s15 :: s16 :: s17 :: s18 :: s19 :: s20 :: s21 :: s22 :: s23 :: s24 :: s25 :: s26 :: s27 :: s28 :: s29 :: s30 :: s31 :: s32 :: s33 :: s34 :: s35 :: s36 :: s37 :: s38 :: s39 :: s40 :: s41 :: s42 :: s43 :: s44 :: s45 :: s46 :: s47 :: s48 :: s49 :: s50 :: s51 :: s52 :: s53 :: v 0 :: v 1 :: v 2 :: v 3 :: v 4 :: v 5 :: v 6 :: v 7 :: v 8 :: v 9 :: s64 :: s65 :: s66 :: s67 :: s68 :: s69 :: s70 :: s71 :: s72 :: []).toArray, []⟩) (nwF k0 W0.heap.size G N BP) (fun W W' => Below W.heap.size W W') (NwC G N BP W0) (fun j => decide (j ≤ 10)) (fun j => decide (j ≤ 10)) (fun j => ([t54, t55, t56, t57, t58, t59, t60, t61, t62, t63, t7] : List Value).getD j undef) (by kernel_rfl) HBS.out.drew (fun j x W W' h hR => nwF_st h hR) (fun W W' h hR => h.below hR) (by kernel_rfl) ?_ ?_
  · intro j o hA ho v W hB hF K hK a ha
    have hj : j ≤ 10 := of_decide_eq_true hA
    clear hA HBS
    obtain rfl : a = ⟨(s0 :: s1 :: s2 :: s3 :: .pointer (some ⟨BP, 0, none⟩) :: s5 :: s6 :: v 10 :: s8 :: s9 :: s10 :: s11 :: s12 :: s13 :: s14 :: s15 :: s16 :: s17 :: s18 :: s19 :: s20 :: s21 :: s22 :: s23 :: s24 :: s25 :: s26 :: s27 :: s28 :: s29 :: s30 :: s31 :: s32 :: s33 :: s34 :: s35 :: s36 :: s37 :: s38 :: s39 :: s40 :: s41 :: s42 :: s43 :: s44 :: s45 :: s46 :: s47 :: s48 :: s49 :: s50 :: s51 :: s52 :: s53 :: v 0 :: v 1 :: v 2 :: v 3 :: v 4 :: v 5 :: v 6 :: v 7 :: v 8 :: v 9 :: s64 :: s65 :: s66 :: s67 :: s68 :: s69 :: s70 :: s71 :: s72 :: []).toArray, []⟩ := ha
    obtain rfl | rfl | rfl | rfl | rfl | rfl | rfl | rfl | rfl | rfl | rfl : j = 0 ∨ j = 1 ∨ j = 2 ∨ j = 3 ∨ j = 4 ∨ j = 5 ∨ j = 6 ∨ j = 7 ∨ j = 8 ∨ j = 9 ∨ j = 10 := by omega
    · obtain rfl : { dst := some 54, op := Go.Op.indexAddr 48 (Go.Operand.tmp 4) (Go.Operand.const (Go.Value.int Go.IntKind.i64 1)), type := 0, pos := "law.go:155", after := #[], guard := none } = o := Option.some.inj ((rfl : some _ = _).trans ho)
      clear ho
      refine step_value_g (by rfl) (.pointer (some ⟨BP, 1, none⟩)) (w' := W) (by go_simp) ?_
      try simp only [Act.put, List.setIfInBounds_toArray, List.set_cons_zero, List.set_cons_succ]
      exact hK.out _ W (Below.refl _ W) rfl
    · obtain rfl : { dst := some 55, op := Go.Op.load 3 (Go.Operand.tmp 54), type := 3, pos := "law.go:155", after := #[{ on := 0, ground := Go.Ground.data }], guard := none } = o := Option.some.inj ((rfl : some _ = _).trans ho)
      clear ho
      have e0 : nwF k0 W0.heap.size G N BP 0 (v 0) W := hF { on := 0, ground := Go.Ground.data } (by simp) rfl
      have e0 : v 0 = .pointer (some ⟨BP, 1, none⟩) := e0
      have s0 : W.cell? ⟨BP, 1, none⟩ = some (.int .i64 (N : Nat)) := hB.rp.cell 1
      refine step_value_g (by rfl) (.int .i64 (N : Nat)) (w' := W) (by go_simp) ?_
      try simp only [Act.put, List.setIfInBounds_toArray, List.set_cons_zero, List.set_cons_succ]
      exact hK.out _ W (Below.refl _ W) rfl
    · obtain rfl : { dst := some 56, op := Go.Op.call { callee := Go.Callee.value (Go.Operand.func 22), args := #[Go.Operand.tmp 55], argTypes := #[3] }, type := 24, pos := "law.go:155", after := #[{ on := 1, ground := Go.Ground.data }], guard := none } = o := Option.some.inj ((rfl : some _ = _).trans ho)
      clear ho
      have e1 : nwF k0 W0.heap.size G N BP 1 (v 1) W := hF { on := 1, ground := Go.Ground.data } (by simp) rfl
      have e1 : v 1 = .int .i64 (N : Nat) := e1
      refine step_call_g (by rfl) 22 _ _ rfl (fun _ _ => by kernel_rfl) #[.int .i64 (N : Nat)] (by simp [go_sem, e1]) _ (Try.refNew_any N (by have := hN.out; omega) W) ?_
      rintro e W' ⟨u, rfl, hO, hC⟩
      refine ⟨_, rfl, ?_⟩
      obtain ⟨a, c, hu⟩ := hO.form
      rw [List.length_replicate] at hu
      subst hu
      try simp only [Act.put, List.setIfInBounds_toArray, List.set_cons_zero, List.set_cons_succ]
      exact hK.out _ W' hC ⟨a, c, rfl, OwnsP.mono hO (Nat.le_trans hk0.out hB.bl.size)⟩
    · obtain rfl : { dst := some 57, op := Go.Op.indexAddr 48 (Go.Operand.tmp 4) (Go.Operand.const (Go.Value.int Go.IntKind.i64 0)), type := 0, pos := "law.go:155", after := #[], guard := none } = o := Option.some.inj ((rfl : some _ = _).trans ho)
      clear ho
      refine step_value_g (by rfl) (.pointer (some ⟨BP, 0, none⟩)) (w' := W) (by go_simp) ?_
      try simp only [Act.put, List.setIfInBounds_toArray, List.set_cons_zero, List.set_cons_succ]
      exact hK.out _ W (Below.refl _ W) rfl
    · obtain rfl : { dst := some 58, op := Go.Op.load 3 (Go.Operand.tmp 57), type := 3, pos := "law.go:155", after := #[{ on := 3, ground := Go.Ground.data }], guard := none } = o := Option.some.inj ((rfl : some _ = _).trans ho)
      clear ho
      have e0 : nwF k0 W0.heap.size G N BP 3 (v 3) W := hF { on := 3, ground := Go.Ground.data } (by simp) rfl
      have e0 : v 3 = .pointer (some ⟨BP, 0, none⟩) := e0
      have s0 : W.cell? ⟨BP, 0, none⟩ = some (.int .i64 (G : Nat)) := hB.rp.cell 0
      refine step_value_g (by rfl) (.int .i64 (G : Nat)) (w' := W) (by go_simp) ?_
      try simp only [Act.put, List.setIfInBounds_toArray, List.set_cons_zero, List.set_cons_succ]
      exact hK.out _ W (Below.refl _ W) rfl
    · obtain rfl : { dst := some 59, op := Go.Op.makeSlice 25 (Go.Operand.tmp 58) (Go.Operand.tmp 58), type := 25, pos := "law.go:155", after := #[{ on := 4, ground := Go.Ground.data }, { on := 4, ground := Go.Ground.data }], guard := none } = o := Option.some.inj ((rfl : some _ = _).trans ho)
      clear ho
      have e0 : nwF k0 W0.heap.size G N BP 4 (v 4) W := hF { on := 4, ground := Go.Ground.data } (by simp) rfl
      have e0 : v 4 = .int .i64 (G : Nat) := e0
      refine step_make_full W rfl _ _ 25 rfl k0 4 ib (.bool false) 1 Try.underlying25 hib hzb0 hzb1 .i64 .i64 (G : Int) (G : Int) G (by simp [go_sem, e0]) (by simp [go_sem, e0]) rfl rfl (by rw [hzb2]; have := hG.out; omega) (by unfold maxLen; have := hG.out; omega) (by have := hk0.out; have := hB.bl.size; omega) ?_
      intro W' ho1 hgr
      try simp only [Act.put, List.setIfInBounds_toArray, List.set_cons_zero, List.set_cons_succ]
      exact hK.out _ W' ((Below.refl _ W).grown hgr (Nat.le_refl _) (fun j ej => by cases ej)) ⟨_, rfl, newBools ho1⟩
    · obtain rfl : { dst := some 60, op := Go.Op.indexAddr 48 (Go.Operand.tmp 4) (Go.Operand.const (Go.Value.int Go.IntKind.i64 0)), type := 0, pos := "law.go:155", after := #[], guard := none } = o := Option.some.inj ((rfl : some _ = _).trans ho)
      clear ho
      refine step_value_g (by rfl) (.pointer (some ⟨BP, 0, none⟩)) (w' := W) (by go_simp) ?_
      try simp only [Act.put, List.setIfInBounds_toArray, List.set_cons_zero, List.set_cons_succ]
      exact hK.out _ W (Below.refl _ W) rfl
    · obtain rfl : { dst := some 61, op := Go.Op.load 3 (Go.Operand.tmp 60), type := 3, pos := "law.go:155", after := #[{ on := 6, ground := Go.Ground.data }], guard := none } = o := Option.some.inj ((rfl : some _ = _).trans ho)
      clear ho
      have e0 : nwF k0 W0.heap.size G N BP 6 (v 6) W := hF { on := 6, ground := Go.Ground.data } (by simp) rfl
      have e0 : v 6 = .pointer (some ⟨BP, 0, none⟩) := e0
      have s0 : W.cell? ⟨BP, 0, none⟩ = some (.int .i64 (G : Nat)) := hB.rp.cell 0
      refine step_value_g (by rfl) (.int .i64 (G : Nat)) (w' := W) (by go_simp) ?_
      try simp only [Act.put, List.setIfInBounds_toArray, List.set_cons_zero, List.set_cons_succ]
      exact hK.out _ W (Below.refl _ W) rfl
    · obtain rfl : { dst := some 62, op := Go.Op.makeSlice 26 (Go.Operand.tmp 61) (Go.Operand.tmp 61), type := 26, pos := "law.go:155", after := #[{ on := 7, ground := Go.Ground.data }, { on := 7, ground := Go.Ground.data }], guard := none } = o := Option.some.inj ((rfl : some _ = _).trans ho)
      clear ho
      have e0 : nwF k0 W0.heap.size G N BP 7 (v 7) W := hF { on := 7, ground := Go.Ground.data } (by simp) rfl
      have e0 : v 7 = .int .i64 (G : Nat) := e0
      refine step_make_full W rfl _ _ 26 rfl k0 62 ih (.slice none 0 0) 1 Try.underlying26 hih hzh0 hzh1 .i64 .i64 (G : Int) (G : Int) G (by simp [go_sem, e0]) (by simp [go_sem, e0]) rfl rfl (by rw [hzh2]; have := hG.out; omega) (by unfold maxLen; have := hG.out; omega) (by have := hk0.out; have := hB.bl.size; omega) ?_
      intro W' ho1 hgr
      try simp only [Act.put, List.setIfInBounds_toArray, List.set_cons_zero, List.set_cons_succ]
      exact hK.out _ W' ((Below.refl _ W).grown hgr (Nat.le_refl _) (fun j ej => by cases ej)) ⟨_, _, rfl, newHas ho1⟩
    · obtain rfl : { dst := some 63, op := Go.Op.build 29 #[(0, Go.Operand.tmp 56), (1, Go.Operand.tmp 59), (2, Go.Operand.tmp 62)], type := 29, pos := "law.go:155", after := #[{ on := 2, ground := Go.Ground.data }, { on := 5, ground := Go.Ground.data }, { on := 8, ground := Go.Ground.data }], guard := none } = o := Option.some.inj ((rfl : some _ = _).trans ho)
      clear ho
      have e2 : nwF k0 W0.heap.size G N BP 2 (v 2) W := hF { on := 2, ground := Go.Ground.data } (by simp) rfl
      have e5 : nwF k0 W0.heap.size G N BP 5 (v 5) W := hF { on := 5, ground := Go.Ground.data } (by simp) rfl
      have e8 : nwF k0 W0.heap.size G N BP 8 (v 8) W := hF { on := 8, ground := Go.Ground.data } (by simp) rfl
      obtain ⟨a, c, e2, h2⟩ := e2
      obtain ⟨b5, e5, h5⟩ := e5
      obtain ⟨b8, vs, e8, h8⟩ := e8
      refine step_value_g (by rfl) (.agg #[.slice a N c, .slice (some ⟨b5, 0, none⟩) G G, .slice (some ⟨b8, 0, none⟩) G G, .slice none 0 0]) (w' := W) (by go_simp) ?_
      try simp only [Act.put, List.setIfInBounds_toArray, List.set_cons_zero, List.set_cons_succ]
      exact hK.out _ W (Below.refl _ W) ⟨⟨a, N, c, some ⟨b5, 0, none⟩, G, G, some ⟨b8, 0, none⟩, G, G, none, 0, 0⟩, vs, rfl, nw_mon h2 h5 h8⟩
    · obtain rfl : { dst := some 7, op := Go.Op.alloc 29, type := 0, pos := "law.go:155", after := #[], guard := none } = o := Option.some.inj ((rfl : some _ = _).trans ho)
      clear ho
      refine step_value_g (by rfl) (.pointer (some ⟨W.heap.size, 0, none⟩)) (w' := W.alloc (.cells #[.slice none 0 0, .slice none 0 0, .slice none 0 0, .slice none 0 0] 29)) (by go_simp) ?_
      try simp only [Act.put, List.setIfInBounds_toArray, List.set_cons_zero, List.set_cons_succ]
      exact hK.out _ _ Rows8.newB ⟨_, rfl, hB.bl.size, Rows8.new _ _ _⟩
  · intro b v W hB hC hA
    obtain ⟨y, vs, e9, hm⟩ : nwF k0 W0.heap.size G N BP 9 (v 9) W := hC 9 (by show (9 : Nat) < 12; decide) rfl
    obtain ⟨BN, e10, hbn, hr⟩ : nwF k0 W0.heap.size G N BP 10 (v 10) W := hC 10 (by show (10 : Nat) < 12; decide) rfl
    obtain ⟨hl, hs⟩ := lst_agree (n := 12) (C := (fun j => decide (j ≤ 10))) (A := (fun j => decide (j ≤ 10))) (b := b) (b' := fun _ => true) (fun j hj hc ha => by rw [hc] at ha; cases ha)
    refine (show wpAny _ _ _ _ (leftOf 12 (fun j => decide (j ≤ 10)) (fun j => decide (j ≤ 10)) b) (lstOf 12 (fun j => decide (j ≤ 10)) (fun j => decide (j ≤ 10)) b) ⟨(s0 :: s1 :: s2 :: s3 :: .pointer (some ⟨BP, 0, none⟩) :: s5 :: s6 :: v 10 :: s8 :: s9 :: s10 :: s11 :: s12 :: s13 :: s14 :: s15 :: s16 :: s17 :: s18 :: s19 :: s20 :: s21 :: s22 :: s23 :: s24 :: s25 :: s26 :: s27 :: s28 :: s29 :: s30 :: s31 :: s32 :: s33 :: s34 :: s35 :: s36 :: s37 :: s38 :: s39 :: s40 :: s41 :: s42 :: s43 :: s44 :: s45 :: s46 :: s47 :: s48 :: s49 :: s50 :: s51 :: s52 :: s53 :: v 0 :: v 1 :: v 2 :: v 3 :: v 4 :: v 5 :: v 6 :: v 7 :: v 8 :: v 9 :: s64 :: s65 :: s66 :: s67 :: s68 :: s69 :: s70 :: s71 :: s72 :: []).toArray, []⟩ W from ?_)
    rw [hl.trans (by kernel_rfl : _ = 1), hs.trans (by kernel_rfl : _ = #[true, true, true, true, true, true, true, true, true, true, true, false])]
    refine wpAny_of_L (S := fun _ => True) (X := 0) _ _ _ _ ?_
    clear hl hs hA hC
    refine wpAnyL_one (i := 11) (o := { dst := none, op := Go.Op.store 29 (Go.Operand.tmp 7) (Go.Operand.tmp 63), type := 0, pos := "law.go:155", after := #[{ on := 10, ground := Go.Ground.data }, { on := 9, ground := Go.Ground.data }, { on := 2, ground := Go.Ground.chain }, { on := 0, ground := Go.Ground.phase }, { on := 1, ground := Go.Ground.phase }, { on := 2, ground := Go.Ground.phase }, { on := 3, ground := Go.Ground.phase }, { on := 4, ground := Go.Ground.phase }, { on := 5, ground := Go.Ground.phase }, { on := 6, ground := Go.Ground.phase }, { on := 7, ground := Go.Ground.phase }, { on := 8, ground := Go.Ground.phase }, { on := 9, ground := Go.Ground.phase }, { on := 10, ground := Go.Ground.phase }], guard := none }) (by kernel_rfl) rfl (fun K hK => ?_)
    have ck0 : W.cell? ⟨BN, 0, none⟩ = some (.slice none 0 0) := hr.cell 0
    have fk0 := hr.frozen 0
    have ck1 : W.cell? ⟨BN, 1, none⟩ = some (.slice none 0 0) := hr.cell 1
    have fk1 := hr.frozen 1
    have ck2 : W.cell? ⟨BN, 2, none⟩ = some (.slice none 0 0) := hr.cell 2
    have fk2 := hr.frozen 2
    have ck3 : W.cell? ⟨BN, 3, none⟩ = some (.slice none 0 0) := hr.cell 3
    have fk3 := hr.frozen 3
    have hlt := hr.lt
    refine step_skip_g (by rfl) (w' := ((((W.setCell ⟨BN, 0, none⟩ (.slice y.sa y.sn y.sc)).setCell ⟨BN, 1, none⟩ (.slice y.pa y.pn y.pc)).setCell ⟨BN, 2, none⟩ (.slice y.ha y.hn y.hc)).setCell ⟨BN, 3, none⟩ (.slice y.ba y.bn y.bc))) (by go_simp) ?_
    clear ck0 fk0 ck1 fk1 ck2 fk2 ck3 fk3 hlt
    have r0 := hr
    have m0 := hm
    have h0 := hB.bl
    have m1 := m0.set r0 (by decide) (by decide) (by decide) (by decide) (by decide) 0 (.slice y.sa y.sn y.sc)
    have h1 := h0.setCell (p := ⟨BN, 0, none⟩) hbn (.slice y.sa y.sn y.sc)
    have r1 := r0.set 0 (.slice y.sa y.sn y.sc)
    simp only [List.setIfInBounds_toArray, List.set_cons_zero] at r1
    have m2 := m1.set r1 (by decide) (by decide) (by decide) (by decide) (by decide) 1 (.slice y.pa y.pn y.pc)
    have h2 := h1.setCell (p := ⟨BN, 1, none⟩) hbn (.slice y.pa y.pn y.pc)
    have r2 := r1.set 1 (.slice y.pa y.pn y.pc)
    simp only [List.setIfInBounds_toArray, List.set_cons_zero, List.set_cons_succ] at r2
    have m3 := m2.set r2 (by decide) (by decide) (by decide) (by decide) (by decide) 2 (.slice y.ha y.hn y.hc)
    have h3 := h2.setCell (p := ⟨BN, 2, none⟩) hbn (.slice y.ha y.hn y.hc)
    have r3 := r2.set 2 (.slice y.ha y.hn y.hc)
    simp only [List.setIfInBounds_toArray, List.set_cons_zero, List.set_cons_succ] at r3
    have m4 := m3.set r3 (by decide) (by decide) (by decide) (by decide) (by decide) 3 (.slice y.ba y.bn y.bc)
    have h4 := h3.setCell (p := ⟨BN, 3, none⟩) hbn (.slice y.ba y.bn y.bc)
    have r4 := r3.set 3 (.slice y.ba y.bn y.bc)
    simp only [List.setIfInBounds_toArray, List.set_cons_zero, List.set_cons_succ] at r4
    refine hK.out _ _ (fun _ => trivial) ?_
    clear hK K
    try simp only [Act.put, List.setIfInBounds_toArray, List.set_cons_zero, List.set_cons_succ]
    refine wpAnyL_end (by kernel_rfl) ?_
    rw [e10]
    exact HK.out BN y vs v _ hbn h4 r4 m4
end Go.Proofs

/- Monitor: rows of pairs of numbers, opened. -/
namespace Go.Proofs
set_option maxRecDepth 100000
open Go.ChangeShapes Go.WideShapes Go.RowKit Go.Shelf Go.Deep

def q2Cells (x : Int × Int) : List Value := [.int .i64 x.1, .int .i64 x.2]
def q2Vals (l : List (Int × Int)) : List Value := l.flatMap q2Cells
theorem q2Vals_length (l : List (Int × Int)) : (q2Vals l).length = l.length * 2 := flat_length q2Cells 2 (fun _ => rfl) l
def Q2At (W : World) (v : Value) (l : List (Int × Int)) : Prop := RowAt W v l.length 2 (q2Vals l)
theorem q2At_len {W : World} {x : Option Addr} {n cap : Nat} {l : List (Int × Int)} (h : Q2At W (.slice x n cap) l) : n = l.length ∧ n ≤ cap ∧ cap ≤ maxLen := by
  obtain ⟨h0, a, c, e, h1, h2, _⟩ := h
  cases e
  exact ⟨rfl, h1, h2⟩
theorem q2At_get {W : World} {x : Option Addr} {n cap : Nat} {l : List (Int × Int)} (h : Q2At W (.slice x n cap) l) (j : Nat) (hj : j < l.length) :
    ∃ b off, x = some ⟨b, off, none⟩ ∧ b < W.heap.size ∧ W.cell? ⟨b, off + j * 2, none⟩ = some (.int .i64 l[j].1) ∧ W.cell? ⟨b, off + j * 2 + 1, none⟩ = some (.int .i64 l[j].2) := by
  obtain ⟨h0, a, cap', e, _, _, _, hc⟩ := h
  cases e
  have hl := q2Vals_length l
  obtain ⟨b, off, e, hb, h0⟩ := hc (j * 2) (by omega)
  have hg := fun i hi => flat_get q2Cells 2 (fun _ => rfl) l j i hj hi
  have key : ∀ i, i < 2 → W.cell? ⟨b, off + j * 2 + i, none⟩ = (q2Cells l[j])[i]? := fun i hi => by
    obtain ⟨b', off', e', _, h1⟩ := hc (j * 2 + i) (by omega)
    rw [e] at e'
    cases e'
    rw [← hg i hi, show off + j * 2 + i = off + (j * 2 + i) by omega, h1]
    rfl
  exact ⟨b, off, e, hb, key 0 (by omega), key 1 (by omega)⟩
theorem cellsQ2 : Try.prog.cellsOf 48 = 2 := by kernel_rfl
theorem open_q2 {H : Type} {enc : TypeId × Value → H} {W : World} {base : Nat} {sp : Nat → Bool} {held : Bool} {fuel : Nat} {cs : List Value} {x : DataW H × List MemPlace} (hl : cs.length = 2)
    (h : DataW.trod enc Try.prog W base sp held fuel 48 cs = some x) : ∃ t : Int × Int, cs = q2Cells t := by
  obtain ⟨d, p⟩ := x
  obtain ⟨xs, m, rfl, hx, hlen, hxl, hel⟩ := DataW.trod_array Try.underlying48 h
  match xs, hxl, cs, hl with
  | [x0, x1], _, [v0, v1], _ =>
    have e0 := hel 0 (by decide)
    have e1 := hel 1 (by decide)
    rw [cellsI] at e0 e1
    obtain ⟨a, ha, _, _⟩ := DataW.trod_int Try.underlying3 e0
    obtain ⟨b, hb, _, _⟩ := DataW.trod_int Try.underlying3 e1
    simp at ha hb
    subst ha hb
    exact ⟨(a, b), rfl⟩
theorem open_pairs {H : Type} {enc : TypeId × Value → H} {W : World} {base : Nat} {sp : Nat → Bool} {held : Bool} {fuel : Nat} {a : Option Addr} {len cap : Nat} {x : DataW H × List MemPlace}
    (h : DataW.trod enc Try.prog W base sp held fuel 47 [.slice a len cap] = some x) : ∃ l : List (Int × Int), len = l.length ∧ Q2At W (.slice a len cap) l := by
  rcases open_slice Try.underlying47 h with ⟨hcs, _⟩ | ⟨ad, len', cap', m, n, D, Pl, hcs, hb, hl, hm, hmm, _, hx⟩
  · simp at hcs
    obtain ⟨rfl, rfl, rfl⟩ := hcs
    exact ⟨[], rfl, ⟨rfl, none, 0, rfl, Nat.le_refl _, Nat.zero_le _, fun _ => rfl, fun j hj => by simp [q2Vals] at hj⟩⟩
  · simp at hcs
    obtain ⟨rfl, rfl, rfl⟩ := hcs
    have hlm : len ≤ m := by rw [hmm]; split <;> omega
    have each : ∀ i, i < m → ∃ q : Int × Int, ∀ r, r < 2 → W.cell? (ad.add (i * 2 + r)) = (q2Cells q)[r]? := by
      intro i hi
      obtain ⟨cs', h1, h2⟩ := hx i hi
      rw [cellsQ2] at h1
      obtain ⟨_, hlen, hcell⟩ := World.cells?_some h1
      obtain ⟨q, rfl⟩ := open_q2 hlen h2
      refine ⟨q, fun r hr => ?_⟩
      have e := hcell r hr
      rw [add_add] at e
      exact e
    obtain ⟨q, hq⟩ := choose_lt each
    have hll : ((List.range len).map q).length = len := by simp
    refine ⟨(List.range len).map q, hll.symm, ?_⟩
    refine ⟨by rw [q2Vals_length], some ad, cap, by rw [hll], by rw [hll]; exact hl, hm, (fun e => by cases e), fun j hj => ?_⟩
    rw [q2Vals_length, hll] at hj
    have hi : j / 2 < len := by omega
    have hr : j % 2 < 2 := Nat.mod_lt _ (by decide)
    have hc := hq (j / 2) (by omega) (j % 2) hr
    have hg := flat_get q2Cells 2 (fun _ => rfl) ((List.range len).map q) (j / 2) (j % 2) (by rw [hll]; exact hi) hr
    have ej : j / 2 * 2 + j % 2 = j := by omega
    rw [ej] at hc hg
    rw [List.getElem_map, List.getElem_range] at hg
    have hv : (q2Cells (q (j / 2)))[j % 2]? = some ((q2Cells (q (j / 2)))[j % 2]'(by simpa [q2Cells] using hr)) := List.getElem?_eq_getElem _
    obtain ⟨b, off, spot⟩ := ad
    rw [hv] at hc
    have hspot : spot = none := by
      have h00 := hq 0 (by omega) 0 (by decide)
      have h01 : W.cell? ((⟨b, off, spot⟩ : Addr).add 0) = some (.int .i64 (q 0).1) := h00
      simpa [Addr.add] using World.cell?_spot h01
    subst hspot
    have hadd : (⟨b, off, none⟩ : Addr).add j = ⟨b, off + j, none⟩ := by unfold Addr.add; split <;> simp_all
    rw [hadd] at hc
    refine ⟨b, off, rfl, ?_, ?_⟩
    · rcases Nat.lt_or_ge b W.heap.size with hq | hq
      · exact hq
      · simp [World.cell?, Array.getElem?_eq_none hq] at hc
    · rw [hc]
      unfold q2Vals
      rw [hg, hv]
end Go.Proofs

/- The law MonitorNews: New monitors, for every row of pairs of numbers. -/
namespace Go.Proofs
set_option maxRecDepth 100000
open Go.RowKit Go.Shelf
attribute [local go_sem] Oper.semAt_some

theorem noM_lens {k0 : Nat} {y : Mv} {vs : List Value} {W : World} (h : OwnMon k0 y noM vs W) : y.sn = 0 ∧ y.pn = 0 := by
  obtain ⟨_, a, c, e, _⟩ := h.s.at
  obtain ⟨_, a2, c2, e2, _⟩ := rowAt_own h.p
  injection e with _ e1 _
  injection e2 with _ e3 _
  exact ⟨e1, e3⟩
theorem okN {G N : Nat} (hG : G ≤ 8) (hN : N ≤ 128) : okM ⟨List.replicate N (0, 0), List.replicate G false, List.replicate G [], []⟩ := by
  refine ⟨fun l hl e he => ?_, ?_, ?_, ?_, ?_, fun l hl => ?_⟩
  · rw [(List.mem_replicate.1 hl).2] at he
    cases he
  · show (List.replicate N ((0, 0) : Pr)).length ≤ 1000
    rw [List.length_replicate]; omega
  · show (List.replicate G false).length ≤ 1000
    rw [List.length_replicate]; omega
  · show (List.replicate G ([] : List Pr)).length ≤ 1000
    rw [List.length_replicate]; omega
  · exact Nat.zero_le _
  · rw [(List.mem_replicate.1 hl).2]
    exact Nat.zero_le _
set_option maxHeartbeats 16000000 in
theorem Try.news_any (al : Option Addr) (nl cl : Nat) (l : List (Int × Int)) (w : World) (hL : Q2At w (.slice al nl cl) l) :
    Calls Try.prog 4 #[.slice al nl cl] w fun e w' => e = .returned (.bool true) ∧ Below w.heap.size w w' := by
  have hlen := q2At_len hL
  have hreach : nl ≤ 9223372036854775807 := by have := hlen.2; unfold maxLen at this; omega
  have HNL := Lib.hid hlen.1
  have HL := Lib.hid hL
  have HW := fun W => Lib.hid (Try.wakesM_any W)
  have HN := fun (g n : Int) (W : World) => Lib.hid (Try.NewM_any g n W)
  have HM := fun (n : Int) (W : World) => Lib.hid (Try.refMany_any n W)
  have B := Lib.hid (Below.refl w.heap.size w)
  clear hlen hL
  go_enter Try.func4, Try.ntmps4
  go_wp2_with fail
  refine (HW _).out.mono ?_
  rintro e w1 ⟨rfl, hB⟩
  have B := Lib.hid hB
  clear hB HW
  go_wp2_with fail
  go_loopw [12] (fun j wr => ∃ k : Nat, k ≤ nl ∧ j = .int .i64 k ∧ Hid (Below w.heap.size w wr)) (fun j _ => nl - (intOf j).toNat)
  case atStart => exact ⟨0, Nat.zero_le _, rfl, B⟩
  case round =>
    obtain ⟨k, hk, rfl, hBB⟩ := hrel
    clear B
    have B := hBB
    clear hBB
    by_cases hlt : k < nl
    · have hki : (k : Int) < (nl : Int) := by omega
      have hki0 : (0 : Int) ≤ (k : Int) := by omega
      have hkl : k < l.length := by rw [← HNL.out]; exact hlt
      obtain ⟨b, off, rfl, hb3, z0, z1⟩ := q2At_get (RowAt.below HL.out B.out) k hkl
      generalize l[k] = t at *
      obtain ⟨g, n⟩ := t
      dsimp only at z0 z1
      have hal : Below wr.heap.size wr (wr.alloc (.cells #[.int .i64 g, .int .i64 n] 48)) := Rows8.newB
      have RP := Lib.hid (Rows8.new wr 48 #[.int .i64 g, .int .i64 n])
      have hw0 : w.heap.size ≤ wr.heap.size := B.out.size
      have B := Lib.hid (B.out.trans (hal.mono B.out.size))
      clear hal hkl
      by_cases h10 : k = 10
      · have d10 : ((k : Int) == 10) = true := by simp; omega
        clear h10
        as_aux_lemma =>
          go_wp2_with fail
          go_ret
          exact ⟨rfl, B.out⟩
      · have d10 : ((k : Int) == 10) = false := by simp; omega
        clear h10
        go_upto_region 7 with fail
        generalize (wr.alloc (.cells #[.int .i64 g, .int .i64 n] 48)) = W1 at *
        obtain ⟨b4, hb4⟩ : ∃ b, b = wr.heap.size := ⟨_, rfl⟩
        rw [← hb4] at RP ⊢
        have H4 : Hid (w.heap.size ≤ b4) := Lib.hid (by rw [hb4]; exact hw0)
        clear hb4 hw0 z0 z1 hb3
        have c0 : W1.cell? ⟨b4, 0, none⟩ = some (.int .i64 g) := RP.out.cell 0
        have c1 : W1.cell? ⟨b4, 1, none⟩ = some (.int .i64 n) := RP.out.cell 1
        have HCl := HN g n W1
        clear HN
        go_wp2_with fail
        refine HCl.out.mono ?_
        rintro e w2 ⟨x, vs, rfl, ho, hB⟩
        have hal : Below w2.heap.size w2 (w2.alloc (.cells #[.slice x.sa x.sn x.sc, .slice x.pa x.pn x.pc, .slice x.ha x.hn x.hc, .slice x.ba x.bn x.bc] 29)) := Rows8.newB
        have hBw := hB.trans (hal.mono hB.size)
        have RP := Lib.hid (RP.out.below hBw RP.out.lt)
        have RM := Lib.hid (Rows8.new w2 29 #[.slice x.sa x.sn x.sc, .slice x.pa x.pn x.pc, .slice x.ha x.hn x.hc, .slice x.ba x.bn x.bc])
        have OM := Lib.hid (show OwnMon w.heap.size x _ vs (w2.alloc (.cells #[.slice x.sa x.sn x.sc, .slice x.pa x.pn x.pc, .slice x.ha x.hn x.hc, .slice x.ba x.bn x.bc] 29)) from (ho.below hal (Nat.le_refl _)).mono B.out.size)
        have B := Lib.hid (B.out.trans (hBw.mono B.out.size))
        clear ho hB hal hBw HCl c0 c1
        go_upto_region 8 with fail
        generalize (w2.alloc (.cells #[.slice x.sa x.sn x.sc, .slice x.pa x.pn x.pc, .slice x.ha x.hn x.hc, .slice x.ba x.bn x.bc] 29)) = W2 at *
        obtain ⟨b5, hb5⟩ : ∃ b, b = w2.heap.size := ⟨_, rfl⟩
        rw [← hb5] at RM ⊢
        clear hb5
        have c0 : W2.cell? ⟨b4, 0, none⟩ = some (.int .i64 g) := RP.out.cell 0
        have c1 : W2.cell? ⟨b4, 1, none⟩ = some (.int .i64 n) := RP.out.cell 1
        by_cases hg1 : g < 1
        · have hN : newM g n = (2, noM) := by unfold newM goersM; rw [decide_eq_false (by omega)]; rfl
          rw [hN] at OM ⊢
          obtain ⟨hl1, hl2⟩ := noM_lens OM.out
          have m0 : W2.cell? ⟨b5, 0, none⟩ = some (.slice x.sa 0 x.sc) := by have h : W2.cell? ⟨b5, 0, none⟩ = some (.slice x.sa x.sn x.sc) := RM.out.cell 0; rw [hl1] at h; exact h
          have m1 : W2.cell? ⟨b5, 1, none⟩ = some (.slice x.pa 0 x.pc) := by have h : W2.cell? ⟨b5, 1, none⟩ = some (.slice x.pa x.pn x.pc) := RM.out.cell 1; rw [hl2] at h; exact h
          clear hN hl1 hl2 OM RM RP
          as_aux_lemma =>
            go_wp2_with fail
            exact ⟨⟨k + 1, by omega, by go_num, B⟩, by simp [intOf]; omega⟩
        · by_cases hg2 : 8 < g
          · have hN : newM g n = (2, noM) := by unfold newM goersM; rw [decide_eq_false (by omega)]; rfl
            rw [hN] at OM ⊢
            obtain ⟨hl1, hl2⟩ := noM_lens OM.out
            have m0 : W2.cell? ⟨b5, 0, none⟩ = some (.slice x.sa 0 x.sc) := by have h : W2.cell? ⟨b5, 0, none⟩ = some (.slice x.sa x.sn x.sc) := RM.out.cell 0; rw [hl1] at h; exact h
            have m1 : W2.cell? ⟨b5, 1, none⟩ = some (.slice x.pa 0 x.pc) := by have h : W2.cell? ⟨b5, 1, none⟩ = some (.slice x.pa x.pn x.pc) := RM.out.cell 1; rw [hl2] at h; exact h
            clear hN hl1 hl2 OM RM RP
            as_aux_lemma =>
              go_wp2_with fail
              exact ⟨⟨k + 1, by omega, by go_num, B⟩, by simp [intOf]; omega⟩
          · cases hma : manyA n with
            | false =>
              have hN : newM g n = (2, noM) := by unfold newM; rw [hma, Bool.and_false]; rfl
              have HCl := HM n W2
              rw [hma] at HCl
              clear HM hma
              rw [hN] at OM ⊢
              obtain ⟨hl1, hl2⟩ := noM_lens OM.out
              have m0 : W2.cell? ⟨b5, 0, none⟩ = some (.slice x.sa 0 x.sc) := by have h : W2.cell? ⟨b5, 0, none⟩ = some (.slice x.sa x.sn x.sc) := RM.out.cell 0; rw [hl1] at h; exact h
              have m1 : W2.cell? ⟨b5, 1, none⟩ = some (.slice x.pa 0 x.pc) := by have h : W2.cell? ⟨b5, 1, none⟩ = some (.slice x.pa x.pn x.pc) := RM.out.cell 1; rw [hl2] at h; exact h
              clear hN hl1 hl2 OM RM RP
              as_aux_lemma =>
                go_wp2_with fail
                refine HCl.out.mono ?_
                rintro e w3 ⟨rfl, rfl⟩
                clear HCl
                go_wp2_with fail
                exact ⟨⟨k + 1, by omega, by go_num, B⟩, by simp [intOf]; omega⟩
            | true =>
              have hma2 := hma
              unfold manyA at hma2
              rw [decide_eq_true_eq] at hma2
              obtain ⟨G, rfl⟩ : ∃ G : Nat, g = G := ⟨g.toNat, by omega⟩
              obtain ⟨N, rfl⟩ : ∃ N : Nat, n = N := ⟨n.toNat, by omega⟩
              have hN : newM (G : Int) (N : Int) = (0, ⟨List.replicate N (0, 0), List.replicate G false, List.replicate G [], []⟩) := by unfold newM goersM; rw [hma, decide_eq_true (by omega)]; rfl
              rw [hN] at OM ⊢
              have HCl := HM (N : Int) W2
              rw [hma] at HCl
              have HG : Hid (G ≤ 8) := Lib.hid (by omega)
              have HNN : Hid (N ≤ 10000) := Lib.hid (by omega)
              have HN8 : Hid (N ≤ 128) := Lib.hid (by omega)
              clear HM hma hma2 hN
              as_aux_lemma =>
                go_wp2_with fail
                refine HCl.out.mono ?_
                rintro e w3 ⟨rfl, rfl⟩
                clear HCl c0 c1
                go_wp2_with fail
                refine Try.nw_r11 w.heap.size G N b4 w3 _ (Lib.hid B.out.size) HG HNN (Lib.hid ⟨RP.out, Below.refl _ _⟩) (Lib.hid ?_)
                intro BN y ws z W4 hbn hC hrn hmn
                have RN := Lib.hid hrn
                have RM := Lib.hid (RM.out.below hC RM.out.lt)
                have OM := Lib.hid (OM.out.below hC (Nat.le_refl _))
                have B := Lib.hid (B.out.trans (hC.mono B.out.size))
                have HSM := Lib.hid (show Calls _ 12 #[.agg #[.slice x.sa x.sn x.sc, .slice x.pa x.pn x.pc, .slice x.ha x.hn x.hc, .slice x.ba x.bn x.bc], .agg #[.slice y.sa y.sn y.sc, .slice y.pa y.pn y.pc, .slice y.ha y.hn y.hc, .slice y.ba y.bn y.bc]] W4 (fun e w' => e = .returned (.bool true) ∧ Below W4.heap.size W4 w') from by
                  have h := Try.refSameM_any x y _ _ W4 (OM.out.at (okN HG.out HN8.out)) (hmn.at (okN HG.out HN8.out))
                  rw [decide_eq_true rfl] at h
                  exact h)
                have k0 : W4.cell? ⟨b5, 0, none⟩ = some (.slice x.sa x.sn x.sc) := RM.out.cell 0
                have k1 : W4.cell? ⟨b5, 1, none⟩ = some (.slice x.pa x.pn x.pc) := RM.out.cell 1
                have k2 : W4.cell? ⟨b5, 2, none⟩ = some (.slice x.ha x.hn x.hc) := RM.out.cell 2
                have k3 : W4.cell? ⟨b5, 3, none⟩ = some (.slice x.ba x.bn x.bc) := RM.out.cell 3
                have n0 : W4.cell? ⟨BN, 0, none⟩ = some (.slice y.sa y.sn y.sc) := RN.out.cell 0
                have n1 : W4.cell? ⟨BN, 1, none⟩ = some (.slice y.pa y.pn y.pc) := RN.out.cell 1
                have n2 : W4.cell? ⟨BN, 2, none⟩ = some (.slice y.ha y.hn y.hc) := RN.out.cell 2
                have n3 : W4.cell? ⟨BN, 3, none⟩ = some (.slice y.ba y.bn y.bc) := RN.out.cell 3
                clear hbn hC hrn hmn RN RM OM RP
                go_wp2_with fail
                refine HSM.out.mono ?_
                rintro e w5 ⟨rfl, hB⟩
                have B := Lib.hid (B.out.trans (hB.mono B.out.size))
                clear hB HSM k0 k1 k2 k3 n0 n1 n2 n3
                go_wp2_with fail
                exact ⟨⟨k + 1, by omega, by go_num, B⟩, by simp [intOf]; omega⟩
    · obtain rfl : k = nl := by omega
      have hki : ¬ (k : Int) < (k : Int) := by omega
      as_aux_lemma =>
        go_wp2_with fail
        go_ret
        exact ⟨rfl, B.out⟩
end Go.Proofs
namespace Go.Proofs.Ytkghlcoancfnfaa.monitorNews
open Go.ChangeShapes Go.WideShapes Go.ChangeAt Go.RowKit Go.Shelf

theorem own : ownKnob Try.prog.godebug = none := by kernel_rfl
theorem walk (al : Option Addr) (nl cl : Nat) (l : List (Int × Int)) (w : World) (_ : nl = l.length) (hL : Q2At w (.slice al nl cl) l) :
    Calls Try.prog 4 #[.slice al nl cl] w fun e w' => e = .returned (.bool true) ∧ Below w.heap.size w w' := Try.news_any al nl cl l w hL
theorem laidOut : laidOutB Try.prog = true := by kernel_rfl
set_option maxRecDepth 100000 in
theorem lifted (os : Os) (started : os.Started) (H : Type) (enc : TypeId × Value → H) :
    ReturnsInHanded {} Try.checked os 4 .any (Rows.monitorNewsSpec.pre6 enc Try.prog Try.f4 Rows.monitorNewsRow.domain false) (Rows.monitorNewsSpec.post enc Try.prog Try.f4 false true false false) := by
  refine returnsInHanded_of_change (C := Try.checked) own started (by kernel_rfl) Try.func4
    (ChangeSpec.witness6 (enc := enc) (C := Try.checked) false ⟨#[], #[.slice none 0 0], []⟩ 8 (by kernel_rfl) (by kernel_rfl) (by kernel_rfl) (by kernel_rfl)) ?_
  intro W base args ds gs before hval0 hW hcnd _
  have hval : ∀ (j : Nat) t v, Try.f4.params[j]? = some t → args[j]? = some v → Value.okWide Try.prog W .any base t v := hval0
  have hW' := hW
  obtain ⟨p, q, hA0, hV, rfl, hfz, hnd⟩ := hW
  have hA : DataW.TrodAll enc Try.prog W 0 (fun _ => true) true Try.f4.params.toList args.toList ds p := hA0
  rw [Try.params4] at hA hval
  obtain ⟨v0, vs0, d0, ds0, p0, q0, hargs, rfl, rfl, h0, r0⟩ := trodAll_cons hA
  obtain ⟨rfl, rfl, rfl⟩ := trodAll_nil r0
  obtain rfl : args = #[v0] := by cases args; simp_all
  obtain ⟨rfl, rfl⟩ := trodVars_none hV
  obtain ⟨a0, len0, cap0, rfl⟩ := okWide_slice Try.underlying47 (hval 0 47 v0 rfl rfl)
  have k0 := h0
  have lt0 : ∀ x ∈ p0, x.block < W.heap.size := by obtain ⟨m, hm⟩ := k0; exact DataW.trod_lt m _ _ _ hm
  obtain ⟨z0, n0, w0⟩ : ∃ zs, len0 = zs.length ∧ Q2At W (.slice a0 len0 cap0) zs := by
    obtain ⟨fuel, hf⟩ := h0
    exact open_pairs hf
  clear hA0 hval0
  refine (walk a0 len0 cap0 z0 W n0 w0).mono fun e W' ⟨he, bel⟩ => ?_
  subst he
  exact ⟨_, rfl, _, _, _, [], _, [], hW', trodAll_mk1 (shut_bool Try.underlying4 _), (trodAll_cons_mk (Below.trod laidOut (by kernel_rfl) (of_decide_eq_true (by kernel_rfl)) k0 bel lt0) trodAll_mk0), rfl, bel.frame _, fun h => by cases h⟩

theorem over : Rows.monitorNewsRow.holds Try.pinned (OpenSpec.ofChange Rows.monitorNewsSpec) :=
  OpenClaim.holds_of_wide 4 Try.f4 rfl rfl rfl rfl rfl rfl rfl ⟨rfl, rfl, rfl, rfl, rfl⟩ rfl rfl rfl rfl rfl (by kernel_rfl) Try.func4 (by kernel_rfl)
    (of_decide_eq_true (by kernel_rfl)) (by unfold Func.isWrapper; first | (rw [if_pos (by decide +kernel)]; kernel_rfl) | (rw [if_neg (by decide +kernel)]; exact ⟨rfl, rfl⟩))
    (fun os started H enc _ => lifted os started H enc)

theorem proved : Rows.MonitorNewsSaid := over
end Go.Proofs.Ytkghlcoancfnfaa.monitorNews
