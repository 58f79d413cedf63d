/- Limbo: the reference: Held, Same, When. -/
import Derived.Test.YtghnfiegihfdnaaDoorLx
namespace Go.Proofs
set_option maxRecDepth 100000
open Go.RowKit Go.Shelf
attribute [local go_sem] Oper.semAt_some

theorem Tryd.app_row (w : World) (n₀ : Nat) (ty : TypeId) (q : List Pr) (v : Value) (h : OwnsP tE n₀ q v w) (src : Value) (l : List Pr) (hl : PAt w src l) (hb : q.length + l.length ≤ 1000000) (hbase : n₀ ≤ w.heap.size) :
    ∃ v' w', (Builtin.append_ #[23, 23] ty #[v, src]).run Tryd.prog w = .ok v' w' ∧ OwnsP tE n₀ (q ++ l) v' w' ∧ w.grownBy w' v.ownBlock := by
  obtain ⟨i0, hi, hz0, hz1, hz2⟩ := info_parts Tryd.infoEntry
  obtain ⟨v', w', hrun, h2, h3, _⟩ := run_append_row (P := Tryd.prog) w n₀ 23 ty tE i0 (.agg #[.int .i64 0, .int .u64 0]) 2 16 Tryd.underlying23 hi hz0 hz1 hz2 rfl (by decide) v q.length (pVals q) h src l.length (pVals l) hl (pVals_one _) (by unfold maxLen; omega) (by omega) hbase
  refine ⟨v', w', hrun, ?_, h3⟩
  unfold OwnsP
  rw [List.length_append, show pVals (q ++ l) = pVals q ++ pVals l by simp [pVals]]
  exact h2
set_option maxHeartbeats 16000000 in
theorem Tryd.refHeld_any (E : Nat) (s : Ls) (r : Rw3) (w : World) (hI : LAt w s r) (hE : E < 18446744073709551616) (hl : ∀ k, k < 3 → (r k).length ≤ 1000) :
    Calls Tryd.prog 14 #[.agg #[.int .u64 (E : Nat), .slice (s.a 0) (s.n 0) (s.c 0), .slice (s.a 1) (s.n 1) (s.c 1), .slice (s.a 2) (s.n 2) (s.c 2)]] w fun e w' => ∃ v, e = .returned v ∧ OwnsP tE w.heap.size (heldL E r) v w' ∧ Below w.heap.size w w' := by
  obtain ⟨W0, hW0⟩ : ∃ W, W = w.alloc (.cells #[.int .u64 (E : Nat), .slice (s.a 0) (s.n 0) (s.c 0), .slice (s.a 1) (s.n 1) (s.c 1), .slice (s.a 2) (s.n 2) (s.c 2)] 26) := ⟨_, rfl⟩
  have hB0 : Below w.heap.size w W0 := by rw [hW0]; exact Rows8.newB
  have hk0 : Rows8 W0 w.heap.size 26 #[.int .u64 (E : Nat), .slice (s.a 0) (s.n 0) (s.c 0), .slice (s.a 1) (s.n 1) (s.c 1), .slice (s.a 2) (s.n 2) (s.c 2)] := by rw [hW0]; exact Rows8.new _ _ _
  have HB := Lib.hid hB0
  have HI0 := Lib.hid hI
  have hlen : ∀ g, (ofL E r g).length ≤ 1000 := fun g => by
    unfold ofL
    split
    · simp
    · exact hl _ (Nat.mod_lt _ (by decide))
  go_enter Tryd.func14, Tryd.ntmps14
  go_upto_region 1 with fail
  rw [← hW0]
  clear hW0
  refine wp_region_L (fun W' => Rows8 W' w.heap.size 26 #[.int .u64 (E : Nat), .slice (s.a 0) (s.n 0) (s.c 0), .slice (s.a 1) (s.n 1) (s.c 1), .slice (s.a 2) (s.n 2) (s.c 2)]) 10 (by kernel_rfl) ?_
  have hS0 : Rows8 W0.drew w.heap.size 26 #[.int .u64 (E : Nat), .slice (s.a 0) (s.n 0) (s.c 0), .slice (s.a 1) (s.n 1) (s.c 1), .slice (s.a 2) (s.n 2) (s.c 2)] := hk0.drewA
  have HI : Hid (LAt W0.drew s r) := Lib.hid (fun k hk => (hI.below hB0) k hk)
  have HB : Hid (Below w.heap.size w W0.drew) := Lib.hid HB.out.drew
  clear hk0 hB0 hI
  generalize W0.drew = Wd at *
  refine wpAnyL_takeT (i := 1) (oi := { dst := some 4, op := Go.Op.load 26 (Go.Operand.tmp 1), type := 26, pos := "ref.go:22", after := #[], guard := none }) (v := .agg #[.int .u64 (E : Nat), .slice (s.a 0) (s.n 0) (s.c 0), .slice (s.a 1) (s.n 1) (s.c 1), .slice (s.a 2) (s.n 2) (s.c 2)]) [2, 3, 5, 6, 8, 9, 10] rfl (by kernel_rfl) (by kernel_rfl) (by kernel_rfl) (by kernel_rfl) (fun _ _ _ h => h) (Or.inl ⟨by rfl, ?_⟩) hS0 ?_
  · intro W9 hS9
    have s0 : W9.cell? ⟨w.heap.size, 0, none⟩ = some (.int .u64 (E : Nat)) := hS9.cell 0
    have s1 : W9.cell? ⟨w.heap.size, 1, none⟩ = some (.slice (s.a 0) (s.n 0) (s.c 0)) := hS9.cell 1
    have s2 : W9.cell? ⟨w.heap.size, 2, none⟩ = some (.slice (s.a 1) (s.n 1) (s.c 1)) := hS9.cell 2
    have s3 : W9.cell? ⟨w.heap.size, 3, none⟩ = some (.slice (s.a 2) (s.n 2) (s.c 2)) := hS9.cell 3
    clear hS9
    go_simp
  try simp only [Act.put, List.setIfInBounds_toArray, List.set_cons_zero, List.set_cons_succ]
  refine wpAnyL_takeT (i := 4) (oi := { dst := some 7, op := Go.Op.load 26 (Go.Operand.tmp 1), type := 26, pos := "ref.go:22", after := #[], guard := none }) (v := .agg #[.int .u64 (E : Nat), .slice (s.a 0) (s.n 0) (s.c 0), .slice (s.a 1) (s.n 1) (s.c 1), .slice (s.a 2) (s.n 2) (s.c 2)]) [5, 6, 8, 9, 10] rfl (by kernel_rfl) (by kernel_rfl) (by kernel_rfl) (by kernel_rfl) (fun _ _ _ h => h) (Or.inl ⟨by rfl, ?_⟩) hS0 ?_
  · intro W9 hS9
    have s0 : W9.cell? ⟨w.heap.size, 0, none⟩ = some (.int .u64 (E : Nat)) := hS9.cell 0
    have s1 : W9.cell? ⟨w.heap.size, 1, none⟩ = some (.slice (s.a 0) (s.n 0) (s.c 0)) := hS9.cell 1
    have s2 : W9.cell? ⟨w.heap.size, 2, none⟩ = some (.slice (s.a 1) (s.n 1) (s.c 1)) := hS9.cell 2
    have s3 : W9.cell? ⟨w.heap.size, 3, none⟩ = some (.slice (s.a 2) (s.n 2) (s.c 2)) := hS9.cell 3
    clear hS9
    go_simp
  try simp only [Act.put, List.setIfInBounds_toArray, List.set_cons_zero, List.set_cons_succ]
  refine wpAnyL_takeT (i := 7) (oi := { dst := some 10, op := Go.Op.load 26 (Go.Operand.tmp 1), type := 26, pos := "ref.go:22", after := #[], guard := none }) (v := .agg #[.int .u64 (E : Nat), .slice (s.a 0) (s.n 0) (s.c 0), .slice (s.a 1) (s.n 1) (s.c 1), .slice (s.a 2) (s.n 2) (s.c 2)]) [8, 9, 10] rfl (by kernel_rfl) (by kernel_rfl) (by kernel_rfl) (by kernel_rfl) (fun _ _ _ h => h) (Or.inl ⟨by rfl, ?_⟩) hS0 ?_
  · intro W9 hS9
    have s0 : W9.cell? ⟨w.heap.size, 0, none⟩ = some (.int .u64 (E : Nat)) := hS9.cell 0
    have s1 : W9.cell? ⟨w.heap.size, 1, none⟩ = some (.slice (s.a 0) (s.n 0) (s.c 0)) := hS9.cell 1
    have s2 : W9.cell? ⟨w.heap.size, 2, none⟩ = some (.slice (s.a 1) (s.n 1) (s.c 1)) := hS9.cell 2
    have s3 : W9.cell? ⟨w.heap.size, 3, none⟩ = some (.slice (s.a 2) (s.n 2) (s.c 2)) := hS9.cell 3
    clear hS9
    go_simp
  try simp only [Act.put, List.setIfInBounds_toArray, List.set_cons_zero, List.set_cons_succ]
  refine wpAnyL_two (i := 0) (j := 2) (oi := { dst := some 3, op := Go.Op.buildSlice 23 0 #[], type := 23, pos := "ref.go:22", after := #[], guard := none }) (oj := { dst := some 5, op := Go.Op.call { callee := Go.Callee.value (Go.Operand.func 13), args := #[Go.Operand.tmp 4, Go.Operand.const (Go.Value.int Go.IntKind.u64 2)], argTypes := #[26, 22] }, type := 23, pos := "ref.go:22", after := #[{ on := 1, ground := Go.Ground.data }], guard := none }) (by kernel_rfl) rfl rfl (fun K hK => ?_) (fun K hK => ?_)
  · refine step_value_g (by rfl) (.slice (some ⟨Wd.heap.size, 0, none⟩) 0 0) (w' := Wd.alloc (.cells #[] 38)) (by go_simp) ?_
    have hS0 := hS0.alloc (.cells #[] 38)
    have hO : OwnsP tE w.heap.size [] (.slice (some ⟨Wd.heap.size, 0, none⟩) 0 0) (Wd.alloc (.cells #[] 38)) := World.ownsRow_lit Wd #[] 0 HB.out.size (by unfold maxLen; omega) rfl
    have HO := Lib.hid hO
    have HB := Lib.hid (HB.out.alloc HB.out.size (.cells #[] 38))
    have HI := Lib.hid (HI.out.below (Rows8.newB (W := Wd) (t := 38) (cs := #[])))
    clear hO
    generalize Wd.alloc (.cells #[] 38) = Wb at *
    refine hK.out _ _ (fun _ => hS0) ?_
    clear hK K
    try simp only [Act.put, List.setIfInBounds_toArray, List.set_cons_zero, List.set_cons_succ]
    refine wpAnyL_one (i := 2) (o := { dst := some 5, op := Go.Op.call { callee := Go.Callee.value (Go.Operand.func 13), args := #[Go.Operand.tmp 4, Go.Operand.const (Go.Value.int Go.IntKind.u64 2)], argTypes := #[26, 22] }, type := 23, pos := "ref.go:22", after := #[{ on := 1, ground := Go.Ground.data }], guard := none }) (by kernel_rfl) rfl (fun K hK => ?_)
    refine step_call_g (by rfl) 13 _ _ rfl (fun _ _ => by kernel_rfl) #[.agg #[.int .u64 (E : Nat), .slice (s.a 0) (s.n 0) (s.c 0), .slice (s.a 1) (s.n 1) (s.c 1), .slice (s.a 2) (s.n 2) (s.c 2)], .int .u64 2] (by simp [go_sem]) _ (show Calls Tryd.prog 13 #[.agg #[.int .u64 (E : Nat), .slice (s.a 0) (s.n 0) (s.c 0), .slice (s.a 1) (s.n 1) (s.c 1), .slice (s.a 2) (s.n 2) (s.c 2)], .int .u64 2] _ _ from Tryd.refOf_any E s 2 _ hE (by decide)) ?_
    rintro e Wc ⟨rfl, hC⟩
    have HB := Lib.hid (HB.out.trans (hC.mono HB.out.size))
    have HI := Lib.hid (HI.out.below hC)
    have HO := Lib.hid (HO.out.below hC (Nat.le_refl _))
    have hS0 := hS0.below hC hS0.lt
    clear hC
    refine ⟨_, rfl, ?_⟩
    refine hK.out _ _ (fun _ => hS0) ?_
    clear hK K
    try simp only [Act.put, List.setIfInBounds_toArray, List.set_cons_zero, List.set_cons_succ]
    refine wpAnyL_one (i := 3) (o := { dst := some 6, op := Go.Op.call { callee := Go.Callee.builtin Go.Builtin.append, args := #[Go.Operand.tmp 3, Go.Operand.tmp 5], argTypes := #[23, 23] }, type := 23, pos := "ref.go:22", after := #[{ on := 0, ground := Go.Ground.data }, { on := 2, ground := Go.Ground.data }, { on := 2, ground := Go.Ground.chain }], guard := none }) (by kernel_rfl) rfl (fun K hK => ?_)
    obtain ⟨v5, w5, hrun, ho5, hg5⟩ := Tryd.app_row _ w.heap.size 23 _ _ HO.out (ofV E s 2) (ofL E r 2) (ofV_at HI.out E 2) (by have := hlen 2; simp; omega) HB.out.size
    refine step_value_g (by rfl) v5 (w' := w5) (exec_append _ _ _ rfl _ _ _ rfl rfl hrun) ?_
    have hne := owns_not HO.out hS0 (by decide)
    have hS0 : Rows8 w5 w.heap.size 26 #[.int .u64 (E : Nat), .slice (s.a 0) (s.n 0) (s.c 0), .slice (s.a 1) (s.n 1) (s.c 1), .slice (s.a 2) (s.n 2) (s.c 2)] := (hg5.block _ hS0.lt (fun e => hne e.symm)).trans hS0
    have hgb := HO.out
    have HB5 := Lib.hid (HB.out.grown hg5 HB.out.size (fun j ej => (World.ownsRow.lt hgb j ej).1))
    have hIx : LAt w5 s r := HI0.out.below HB5.out
    have HB := HB5
    have HI := Lib.hid hIx
    have HO := Lib.hid ho5
    clear hrun hg5 hne hgb ho5 hIx HB5
    refine hK.out _ _ (fun _ => hS0) ?_
    clear hK K
    try simp only [Act.put, List.setIfInBounds_toArray, List.set_cons_zero, List.set_cons_succ]
    refine wpAnyL_one (i := 5) (o := { dst := some 8, op := Go.Op.call { callee := Go.Callee.value (Go.Operand.func 13), args := #[Go.Operand.tmp 7, Go.Operand.const (Go.Value.int Go.IntKind.u64 1)], argTypes := #[26, 22] }, type := 23, pos := "ref.go:22", after := #[{ on := 4, ground := Go.Ground.data }, { on := 3, ground := Go.Ground.chain }], guard := none }) (by kernel_rfl) rfl (fun K hK => ?_)
    refine step_call_g (by rfl) 13 _ _ rfl (fun _ _ => by kernel_rfl) #[.agg #[.int .u64 (E : Nat), .slice (s.a 0) (s.n 0) (s.c 0), .slice (s.a 1) (s.n 1) (s.c 1), .slice (s.a 2) (s.n 2) (s.c 2)], .int .u64 1] (by simp [go_sem]) _ (show Calls Tryd.prog 13 #[.agg #[.int .u64 (E : Nat), .slice (s.a 0) (s.n 0) (s.c 0), .slice (s.a 1) (s.n 1) (s.c 1), .slice (s.a 2) (s.n 2) (s.c 2)], .int .u64 1] _ _ from Tryd.refOf_any E s 1 _ hE (by decide)) ?_
    rintro e Wc ⟨rfl, hC⟩
    have HB := Lib.hid (HB.out.trans (hC.mono HB.out.size))
    have HI := Lib.hid (HI.out.below hC)
    have HO := Lib.hid (HO.out.below hC (Nat.le_refl _))
    have hS0 := hS0.below hC hS0.lt
    clear hC
    refine ⟨_, rfl, ?_⟩
    refine hK.out _ _ (fun _ => hS0) ?_
    clear hK K
    try simp only [Act.put, List.setIfInBounds_toArray, List.set_cons_zero, List.set_cons_succ]
    refine wpAnyL_one (i := 6) (o := { dst := some 9, op := Go.Op.call { callee := Go.Callee.builtin Go.Builtin.append, args := #[Go.Operand.tmp 6, Go.Operand.tmp 8], argTypes := #[23, 23] }, type := 23, pos := "ref.go:22", after := #[{ on := 3, ground := Go.Ground.data }, { on := 5, ground := Go.Ground.data }, { on := 5, ground := Go.Ground.chain }], guard := none }) (by kernel_rfl) rfl (fun K hK => ?_)
    obtain ⟨v5, w5, hrun, ho5, hg5⟩ := Tryd.app_row _ w.heap.size 23 _ _ HO.out (ofV E s 1) (ofL E r 1) (ofV_at HI.out E 1) (by have h2 := hlen 2; have h1 := hlen 1; simp; omega) HB.out.size
    refine step_value_g (by rfl) v5 (w' := w5) (exec_append _ _ _ rfl _ _ _ rfl rfl hrun) ?_
    have hne := owns_not HO.out hS0 (by decide)
    have hS0 : Rows8 w5 w.heap.size 26 #[.int .u64 (E : Nat), .slice (s.a 0) (s.n 0) (s.c 0), .slice (s.a 1) (s.n 1) (s.c 1), .slice (s.a 2) (s.n 2) (s.c 2)] := (hg5.block _ hS0.lt (fun e => hne e.symm)).trans hS0
    have hgb := HO.out
    have HB5 := Lib.hid (HB.out.grown hg5 HB.out.size (fun j ej => (World.ownsRow.lt hgb j ej).1))
    have hIx : LAt w5 s r := HI0.out.below HB5.out
    have HB := HB5
    have HI := Lib.hid hIx
    have HO := Lib.hid ho5
    clear hrun hg5 hne hgb ho5 hIx HB5
    refine hK.out _ _ (fun _ => hS0) ?_
    clear hK K
    try simp only [Act.put, List.setIfInBounds_toArray, List.set_cons_zero, List.set_cons_succ]
    refine wpAnyL_one (i := 8) (o := { dst := some 11, op := Go.Op.call { callee := Go.Callee.value (Go.Operand.func 13), args := #[Go.Operand.tmp 10, Go.Operand.const (Go.Value.int Go.IntKind.u64 0)], argTypes := #[26, 22] }, type := 23, pos := "ref.go:22", after := #[{ on := 7, ground := Go.Ground.data }, { on := 6, ground := Go.Ground.chain }], guard := none }) (by kernel_rfl) rfl (fun K hK => ?_)
    refine step_call_g (by rfl) 13 _ _ rfl (fun _ _ => by kernel_rfl) #[.agg #[.int .u64 (E : Nat), .slice (s.a 0) (s.n 0) (s.c 0), .slice (s.a 1) (s.n 1) (s.c 1), .slice (s.a 2) (s.n 2) (s.c 2)], .int .u64 0] (by simp [go_sem]) _ (show Calls Tryd.prog 13 #[.agg #[.int .u64 (E : Nat), .slice (s.a 0) (s.n 0) (s.c 0), .slice (s.a 1) (s.n 1) (s.c 1), .slice (s.a 2) (s.n 2) (s.c 2)], .int .u64 0] _ _ from Tryd.refOf_any E s 0 _ hE (by decide)) ?_
    rintro e Wc ⟨rfl, hC⟩
    have HB := Lib.hid (HB.out.trans (hC.mono HB.out.size))
    have HI := Lib.hid (HI.out.below hC)
    have HO := Lib.hid (HO.out.below hC (Nat.le_refl _))
    have hS0 := hS0.below hC hS0.lt
    clear hC
    refine ⟨_, rfl, ?_⟩
    refine hK.out _ _ (fun _ => hS0) ?_
    clear hK K
    try simp only [Act.put, List.setIfInBounds_toArray, List.set_cons_zero, List.set_cons_succ]
    refine wpAnyL_one (i := 9) (o := { dst := some 12, op := Go.Op.call { callee := Go.Callee.builtin Go.Builtin.append, args := #[Go.Operand.tmp 9, Go.Operand.tmp 11], argTypes := #[23, 23] }, type := 23, pos := "ref.go:22", after := #[{ on := 6, ground := Go.Ground.data }, { on := 8, ground := Go.Ground.data }, { on := 8, ground := Go.Ground.chain }], guard := none }) (by kernel_rfl) rfl (fun K hK => ?_)
    obtain ⟨v5, w5, hrun, ho5, hg5⟩ := Tryd.app_row _ w.heap.size 23 _ _ HO.out (ofV E s 0) (ofL E r 0) (ofV_at HI.out E 0) (by have h2 := hlen 2; have h1 := hlen 1; have h0 := hlen 0; simp; omega) HB.out.size
    refine step_value_g (by rfl) v5 (w' := w5) (exec_append _ _ _ rfl _ _ _ rfl rfl hrun) ?_
    have hne := owns_not HO.out hS0 (by decide)
    have hS0 : Rows8 w5 w.heap.size 26 #[.int .u64 (E : Nat), .slice (s.a 0) (s.n 0) (s.c 0), .slice (s.a 1) (s.n 1) (s.c 1), .slice (s.a 2) (s.n 2) (s.c 2)] := (hg5.block _ hS0.lt (fun e => hne e.symm)).trans hS0
    have hgb := HO.out
    have HB5 := Lib.hid (HB.out.grown hg5 HB.out.size (fun j ej => (World.ownsRow.lt hgb j ej).1))
    have hIx : LAt w5 s r := HI0.out.below HB5.out
    have HB := HB5
    have HI := Lib.hid hIx
    have HO := Lib.hid ho5
    clear hrun hg5 hne hgb ho5 hIx HB5
    refine hK.out _ _ (fun _ => hS0) ?_
    clear hK K
    try simp only [Act.put, List.setIfInBounds_toArray, List.set_cons_zero, List.set_cons_succ]
    have HX := Lib.hid (show OwnsP tE w.heap.size (heldL E r) v5 w5 by have h := HO.out; rw [List.nil_append, of_held] at h; exact h)
    clear HO
    refine wpAnyL_one (i := 10) (o := { dst := some 2, op := Go.Op.assign (Go.Operand.tmp 12), type := 23, pos := "ref.go:22", after := #[{ on := 9, ground := Go.Ground.data }, { on := 9, ground := Go.Ground.chain }, { on := 0, ground := Go.Ground.phase }, { on := 1, ground := Go.Ground.phase }, { on := 2, ground := Go.Ground.phase }, { on := 3, ground := Go.Ground.phase }, { on := 4, ground := Go.Ground.phase }, { on := 5, ground := Go.Ground.phase }, { on := 6, ground := Go.Ground.phase }, { on := 7, ground := Go.Ground.phase }, { on := 8, ground := Go.Ground.phase }, { on := 9, ground := Go.Ground.phase }], guard := none }) (by kernel_rfl) rfl (fun K hK => ?_)
    refine step_value_g (by rfl) v5 (w' := w5) (by go_simp) ?_
    refine hK.out _ _ (fun h => absurd h (by decide)) ?_
    clear hK K
    try simp only [Act.put, List.setIfInBounds_toArray, List.set_cons_zero, List.set_cons_succ]
    refine wpAnyL_end (by kernel_rfl) ?_
    go_wp2_with fail
    go_ret
    exact ⟨_, rfl, HX.out, HB.out⟩
  · refine step_call_g (by rfl) 13 _ _ rfl (fun _ _ => by kernel_rfl) #[.agg #[.int .u64 (E : Nat), .slice (s.a 0) (s.n 0) (s.c 0), .slice (s.a 1) (s.n 1) (s.c 1), .slice (s.a 2) (s.n 2) (s.c 2)], .int .u64 2] (by simp [go_sem]) _ (show Calls Tryd.prog 13 #[.agg #[.int .u64 (E : Nat), .slice (s.a 0) (s.n 0) (s.c 0), .slice (s.a 1) (s.n 1) (s.c 1), .slice (s.a 2) (s.n 2) (s.c 2)], .int .u64 2] _ _ from Tryd.refOf_any E s 2 _ hE (by decide)) ?_
    rintro e Wc ⟨rfl, hC⟩
    have HB := Lib.hid (HB.out.trans (hC.mono HB.out.size))
    have HI := Lib.hid (HI.out.below hC)
    have hS0 := hS0.below hC hS0.lt
    clear hC
    refine ⟨_, rfl, ?_⟩
    refine hK.out _ _ (fun _ => hS0) ?_
    clear hK K
    try simp only [Act.put, List.setIfInBounds_toArray, List.set_cons_zero, List.set_cons_succ]
    refine wpAnyL_one (i := 0) (o := { dst := some 3, op := Go.Op.buildSlice 23 0 #[], type := 23, pos := "ref.go:22", after := #[], guard := none }) (by kernel_rfl) rfl (fun K hK => ?_)
    refine step_value_g (by rfl) (.slice (some ⟨Wc.heap.size, 0, none⟩) 0 0) (w' := Wc.alloc (.cells #[] 38)) (by go_simp) ?_
    have hS0 := hS0.alloc (.cells #[] 38)
    have hO : OwnsP tE w.heap.size [] (.slice (some ⟨Wc.heap.size, 0, none⟩) 0 0) (Wc.alloc (.cells #[] 38)) := World.ownsRow_lit Wc #[] 0 HB.out.size (by unfold maxLen; omega) rfl
    have HO := Lib.hid hO
    have HB := Lib.hid (HB.out.alloc HB.out.size (.cells #[] 38))
    have HI := Lib.hid (HI.out.below (Rows8.newB (W := Wc) (t := 38) (cs := #[])))
    clear hO
    generalize Wc.alloc (.cells #[] 38) = Wb at *
    refine hK.out _ _ (fun _ => hS0) ?_
    clear hK K
    try simp only [Act.put, List.setIfInBounds_toArray, List.set_cons_zero, List.set_cons_succ]
    refine wpAnyL_one (i := 3) (o := { dst := some 6, op := Go.Op.call { callee := Go.Callee.builtin Go.Builtin.append, args := #[Go.Operand.tmp 3, Go.Operand.tmp 5], argTypes := #[23, 23] }, type := 23, pos := "ref.go:22", after := #[{ on := 0, ground := Go.Ground.data }, { on := 2, ground := Go.Ground.data }, { on := 2, ground := Go.Ground.chain }], guard := none }) (by kernel_rfl) rfl (fun K hK => ?_)
    obtain ⟨v5, w5, hrun, ho5, hg5⟩ := Tryd.app_row _ w.heap.size 23 _ _ HO.out (ofV E s 2) (ofL E r 2) (ofV_at HI.out E 2) (by have := hlen 2; simp; omega) HB.out.size
    refine step_value_g (by rfl) v5 (w' := w5) (exec_append _ _ _ rfl _ _ _ rfl rfl hrun) ?_
    have hne := owns_not HO.out hS0 (by decide)
    have hS0 : Rows8 w5 w.heap.size 26 #[.int .u64 (E : Nat), .slice (s.a 0) (s.n 0) (s.c 0), .slice (s.a 1) (s.n 1) (s.c 1), .slice (s.a 2) (s.n 2) (s.c 2)] := (hg5.block _ hS0.lt (fun e => hne e.symm)).trans hS0
    have hgb := HO.out
    have HB5 := Lib.hid (HB.out.grown hg5 HB.out.size (fun j ej => (World.ownsRow.lt hgb j ej).1))
    have hIx : LAt w5 s r := HI0.out.below HB5.out
    have HB := HB5
    have HI := Lib.hid hIx
    have HO := Lib.hid ho5
    clear hrun hg5 hne hgb ho5 hIx HB5
    refine hK.out _ _ (fun _ => hS0) ?_
    clear hK K
    try simp only [Act.put, List.setIfInBounds_toArray, List.set_cons_zero, List.set_cons_succ]
    refine wpAnyL_one (i := 5) (o := { dst := some 8, op := Go.Op.call { callee := Go.Callee.value (Go.Operand.func 13), args := #[Go.Operand.tmp 7, Go.Operand.const (Go.Value.int Go.IntKind.u64 1)], argTypes := #[26, 22] }, type := 23, pos := "ref.go:22", after := #[{ on := 4, ground := Go.Ground.data }, { on := 3, ground := Go.Ground.chain }], guard := none }) (by kernel_rfl) rfl (fun K hK => ?_)
    refine step_call_g (by rfl) 13 _ _ rfl (fun _ _ => by kernel_rfl) #[.agg #[.int .u64 (E : Nat), .slice (s.a 0) (s.n 0) (s.c 0), .slice (s.a 1) (s.n 1) (s.c 1), .slice (s.a 2) (s.n 2) (s.c 2)], .int .u64 1] (by simp [go_sem]) _ (show Calls Tryd.prog 13 #[.agg #[.int .u64 (E : Nat), .slice (s.a 0) (s.n 0) (s.c 0), .slice (s.a 1) (s.n 1) (s.c 1), .slice (s.a 2) (s.n 2) (s.c 2)], .int .u64 1] _ _ from Tryd.refOf_any E s 1 _ hE (by decide)) ?_
    rintro e Wc ⟨rfl, hC⟩
    have HB := Lib.hid (HB.out.trans (hC.mono HB.out.size))
    have HI := Lib.hid (HI.out.below hC)
    have HO := Lib.hid (HO.out.below hC (Nat.le_refl _))
    have hS0 := hS0.below hC hS0.lt
    clear hC
    refine ⟨_, rfl, ?_⟩
    refine hK.out _ _ (fun _ => hS0) ?_
    clear hK K
    try simp only [Act.put, List.setIfInBounds_toArray, List.set_cons_zero, List.set_cons_succ]
    refine wpAnyL_one (i := 6) (o := { dst := some 9, op := Go.Op.call { callee := Go.Callee.builtin Go.Builtin.append, args := #[Go.Operand.tmp 6, Go.Operand.tmp 8], argTypes := #[23, 23] }, type := 23, pos := "ref.go:22", after := #[{ on := 3, ground := Go.Ground.data }, { on := 5, ground := Go.Ground.data }, { on := 5, ground := Go.Ground.chain }], guard := none }) (by kernel_rfl) rfl (fun K hK => ?_)
    obtain ⟨v5, w5, hrun, ho5, hg5⟩ := Tryd.app_row _ w.heap.size 23 _ _ HO.out (ofV E s 1) (ofL E r 1) (ofV_at HI.out E 1) (by have h2 := hlen 2; have h1 := hlen 1; simp; omega) HB.out.size
    refine step_value_g (by rfl) v5 (w' := w5) (exec_append _ _ _ rfl _ _ _ rfl rfl hrun) ?_
    have hne := owns_not HO.out hS0 (by decide)
    have hS0 : Rows8 w5 w.heap.size 26 #[.int .u64 (E : Nat), .slice (s.a 0) (s.n 0) (s.c 0), .slice (s.a 1) (s.n 1) (s.c 1), .slice (s.a 2) (s.n 2) (s.c 2)] := (hg5.block _ hS0.lt (fun e => hne e.symm)).trans hS0
    have hgb := HO.out
    have HB5 := Lib.hid (HB.out.grown hg5 HB.out.size (fun j ej => (World.ownsRow.lt hgb j ej).1))
    have hIx : LAt w5 s r := HI0.out.below HB5.out
    have HB := HB5
    have HI := Lib.hid hIx
    have HO := Lib.hid ho5
    clear hrun hg5 hne hgb ho5 hIx HB5
    refine hK.out _ _ (fun _ => hS0) ?_
    clear hK K
    try simp only [Act.put, List.setIfInBounds_toArray, List.set_cons_zero, List.set_cons_succ]
    refine wpAnyL_one (i := 8) (o := { dst := some 11, op := Go.Op.call { callee := Go.Callee.value (Go.Operand.func 13), args := #[Go.Operand.tmp 10, Go.Operand.const (Go.Value.int Go.IntKind.u64 0)], argTypes := #[26, 22] }, type := 23, pos := "ref.go:22", after := #[{ on := 7, ground := Go.Ground.data }, { on := 6, ground := Go.Ground.chain }], guard := none }) (by kernel_rfl) rfl (fun K hK => ?_)
    refine step_call_g (by rfl) 13 _ _ rfl (fun _ _ => by kernel_rfl) #[.agg #[.int .u64 (E : Nat), .slice (s.a 0) (s.n 0) (s.c 0), .slice (s.a 1) (s.n 1) (s.c 1), .slice (s.a 2) (s.n 2) (s.c 2)], .int .u64 0] (by simp [go_sem]) _ (show Calls Tryd.prog 13 #[.agg #[.int .u64 (E : Nat), .slice (s.a 0) (s.n 0) (s.c 0), .slice (s.a 1) (s.n 1) (s.c 1), .slice (s.a 2) (s.n 2) (s.c 2)], .int .u64 0] _ _ from Tryd.refOf_any E s 0 _ hE (by decide)) ?_
    rintro e Wc ⟨rfl, hC⟩
    have HB := Lib.hid (HB.out.trans (hC.mono HB.out.size))
    have HI := Lib.hid (HI.out.below hC)
    have HO := Lib.hid (HO.out.below hC (Nat.le_refl _))
    have hS0 := hS0.below hC hS0.lt
    clear hC
    refine ⟨_, rfl, ?_⟩
    refine hK.out _ _ (fun _ => hS0) ?_
    clear hK K
    try simp only [Act.put, List.setIfInBounds_toArray, List.set_cons_zero, List.set_cons_succ]
    refine wpAnyL_one (i := 9) (o := { dst := some 12, op := Go.Op.call { callee := Go.Callee.builtin Go.Builtin.append, args := #[Go.Operand.tmp 9, Go.Operand.tmp 11], argTypes := #[23, 23] }, type := 23, pos := "ref.go:22", after := #[{ on := 6, ground := Go.Ground.data }, { on := 8, ground := Go.Ground.data }, { on := 8, ground := Go.Ground.chain }], guard := none }) (by kernel_rfl) rfl (fun K hK => ?_)
    obtain ⟨v5, w5, hrun, ho5, hg5⟩ := Tryd.app_row _ w.heap.size 23 _ _ HO.out (ofV E s 0) (ofL E r 0) (ofV_at HI.out E 0) (by have h2 := hlen 2; have h1 := hlen 1; have h0 := hlen 0; simp; omega) HB.out.size
    refine step_value_g (by rfl) v5 (w' := w5) (exec_append _ _ _ rfl _ _ _ rfl rfl hrun) ?_
    have hne := owns_not HO.out hS0 (by decide)
    have hS0 : Rows8 w5 w.heap.size 26 #[.int .u64 (E : Nat), .slice (s.a 0) (s.n 0) (s.c 0), .slice (s.a 1) (s.n 1) (s.c 1), .slice (s.a 2) (s.n 2) (s.c 2)] := (hg5.block _ hS0.lt (fun e => hne e.symm)).trans hS0
    have hgb := HO.out
    have HB5 := Lib.hid (HB.out.grown hg5 HB.out.size (fun j ej => (World.ownsRow.lt hgb j ej).1))
    have hIx : LAt w5 s r := HI0.out.below HB5.out
    have HB := HB5
    have HI := Lib.hid hIx
    have HO := Lib.hid ho5
    clear hrun hg5 hne hgb ho5 hIx HB5
    refine hK.out _ _ (fun _ => hS0) ?_
    clear hK K
    try simp only [Act.put, List.setIfInBounds_toArray, List.set_cons_zero, List.set_cons_succ]
    have HX := Lib.hid (show OwnsP tE w.heap.size (heldL E r) v5 w5 by have h := HO.out; rw [List.nil_append, of_held] at h; exact h)
    clear HO
    refine wpAnyL_one (i := 10) (o := { dst := some 2, op := Go.Op.assign (Go.Operand.tmp 12), type := 23, pos := "ref.go:22", after := #[{ on := 9, ground := Go.Ground.data }, { on := 9, ground := Go.Ground.chain }, { on := 0, ground := Go.Ground.phase }, { on := 1, ground := Go.Ground.phase }, { on := 2, ground := Go.Ground.phase }, { on := 3, ground := Go.Ground.phase }, { on := 4, ground := Go.Ground.phase }, { on := 5, ground := Go.Ground.phase }, { on := 6, ground := Go.Ground.phase }, { on := 7, ground := Go.Ground.phase }, { on := 8, ground := Go.Ground.phase }, { on := 9, ground := Go.Ground.phase }], guard := none }) (by kernel_rfl) rfl (fun K hK => ?_)
    refine step_value_g (by rfl) v5 (w' := w5) (by go_simp) ?_
    refine hK.out _ _ (fun h => absurd h (by decide)) ?_
    clear hK K
    try simp only [Act.put, List.setIfInBounds_toArray, List.set_cons_zero, List.set_cons_succ]
    refine wpAnyL_end (by kernel_rfl) ?_
    go_wp2_with fail
    go_ret
    exact ⟨_, rfl, HX.out, HB.out⟩
end Go.Proofs
