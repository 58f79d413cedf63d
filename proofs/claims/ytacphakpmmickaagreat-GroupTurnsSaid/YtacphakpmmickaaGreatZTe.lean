/- Group: a slot. -/
import Derived.Test.YtacphakpmmickaaGreatZTc
import Derived.Test.YtacphakpmmickaaGreatZRi
namespace Go.Proofs
set_option maxRecDepth 100000
open Go.RowKit Go.Shelf
attribute [local go_sem] Oper.semAt_some

theorem results_cell1 {P : Program} {fn : Func} {p : Tmp} {ty : TypeId} (h : fn.results = #[.cell p ty]) (tmps : Array Value) (w : World) (B : Nat) (u : Value)
    (hp : tmps.getD p undef = .pointer (some ⟨B, 0, none⟩)) (h1 : (loadVar ty ⟨B, 0, none⟩).run P w = .ok u w) :
    (results fn tmps).run P w = .ok u w := by
  have hp' : tmps[p]?.getD undef = .pointer (some ⟨B, 0, none⟩) := by simpa using hp
  simp [results, h, hp', asAddr, h1]
theorem cell_setRow {W : World} {B j o : Nat} {cs : Array Value} (h : j ≠ B) : (W.setRow B cs).cell? ⟨j, o, none⟩ = W.cell? ⟨j, o, none⟩ := World.cell?_of_block (w := W) (setRow_other _ _ _ _ h)
set_option maxHeartbeats 4000000 in
theorem Tryz.slot_any (g : Gr) (n : Nat) (hn : n < 8) (w : World) : Calls Tryz.prog 39 #[.agg (gc g), .int .i64 (n : Nat)] w fun e w' => e = .returned (.agg (sc (slotG g n))) ∧ Below w.heap.size w w' := by
  have HBy := fun W => Lib.hid (Tryz.Bytes_any g.c W)
  go_enter Tryz.func39, Tryz.ntmps39
  go_wp2_with fail
  have hR : Rows8 ((w.alloc (.cells (gc g) 57)).alloc (.cells #[.int .u64 0, .int .u64 0, .int .u8 0] 30)) (w.heap.size + 1) 30 #[.int .u64 0, .int .u64 0, .int .u8 0] := by
    have h := Rows8.new (w.alloc (.cells (gc g) 57)) 30 #[.int .u64 0, .int .u64 0, .int .u8 0]
    rw [World.size_alloc] at h
    exact h
  have hG : Rows8 ((w.alloc (.cells (gc g) 57)).alloc (.cells #[.int .u64 0, .int .u64 0, .int .u8 0] 30)) w.heap.size 57 (gc g) := (Rows8.new w _ _).alloc _
  have hB := Lib.hid (((Below.refl w.heap.size w).alloc (Nat.le_refl _) (.cells (gc g) 57)).alloc (by simp) (.cells #[.int .u64 0, .int .u64 0, .int .u8 0] 30))
  have hz : ((w.alloc (.cells (gc g) 57)).alloc (.cells #[.int .u64 0, .int .u64 0, .int .u8 0] 30)).heap.size = w.heap.size + 2 := by simp
  generalize ((w.alloc (.cells (gc g) 57)).alloc (.cells #[.int .u64 0, .int .u64 0, .int .u8 0] 30)) = W1 at *
  have HR := Lib.hid hR
  have HS : Hid (∀ W', Below W1.heap.size W1 W' → W'.cell? ⟨w.heap.size, 0, none⟩ = some (.int .u64 (g.c : Nat)) ∧ W'.cell? ⟨w.heap.size, 1 + n, none⟩ = some (.int .u64 (g.k n : Nat)) ∧ W'.cell? ⟨w.heap.size, 9 + n, none⟩ = some (.int .u64 (g.v n : Nat))) := Lib.hid fun W' b => by
    have h := hG.below b hG.lt
    exact ⟨(h.cell 0).trans (gc_0 g), (h.cell _).trans (gc_k g n hn), (h.cell _).trans (gc_v g n hn)⟩
  have HS2 : Hid (∀ X Y : World, (X.cell? ⟨w.heap.size, 0, none⟩ = some (.int .u64 (g.c : Nat)) ∧ X.cell? ⟨w.heap.size, 1 + n, none⟩ = some (.int .u64 (g.k n : Nat)) ∧ X.cell? ⟨w.heap.size, 9 + n, none⟩ = some (.int .u64 (g.v n : Nat))) → Below X.heap.size X Y → w.heap.size < X.heap.size →
      Y.cell? ⟨w.heap.size, 0, none⟩ = some (.int .u64 (g.c : Nat)) ∧ Y.cell? ⟨w.heap.size, 1 + n, none⟩ = some (.int .u64 (g.k n : Nat)) ∧ Y.cell? ⟨w.heap.size, 9 + n, none⟩ = some (.int .u64 (g.v n : Nat))) := Lib.hid fun X Y h b hl => ⟨(b.cell (p := ⟨w.heap.size, 0, none⟩) hl).trans h.1, (b.cell (p := ⟨w.heap.size, 1 + n, none⟩) hl).trans h.2.1, (b.cell (p := ⟨w.heap.size, 9 + n, none⟩) hl).trans h.2.2⟩
  have HS3 : Hid (∀ (X : World) (cs : Array Value), (X.cell? ⟨w.heap.size, 0, none⟩ = some (.int .u64 (g.c : Nat)) ∧ X.cell? ⟨w.heap.size, 1 + n, none⟩ = some (.int .u64 (g.k n : Nat)) ∧ X.cell? ⟨w.heap.size, 9 + n, none⟩ = some (.int .u64 (g.v n : Nat))) →
      (X.setRow (w.heap.size + 1) cs).cell? ⟨w.heap.size, 0, none⟩ = some (.int .u64 (g.c : Nat)) ∧ (X.setRow (w.heap.size + 1) cs).cell? ⟨w.heap.size, 1 + n, none⟩ = some (.int .u64 (g.k n : Nat)) ∧ (X.setRow (w.heap.size + 1) cs).cell? ⟨w.heap.size, 9 + n, none⟩ = some (.int .u64 (g.v n : Nat))) := Lib.hid fun X cs h => ⟨(cell_setRow (by omega)).trans h.1, (cell_setRow (by omega)).trans h.2.1, (cell_setRow (by omega)).trans h.2.2⟩
  have hni : ¬ (8 : Int) ≤ ((n : Nat) : Int) := by omega
  clear hR hG
  refine wp_region_X (fun W' => W'.cell? ⟨w.heap.size, 0, none⟩ = some (.int .u64 (g.c : Nat)) ∧ W'.cell? ⟨w.heap.size, 1 + n, none⟩ = some (.int .u64 (g.k n : Nat)) ∧ W'.cell? ⟨w.heap.size, 9 + n, none⟩ = some (.int .u64 (g.v n : Nat))) 18 (by kernel_rfl) ?_
  have hB1 : Below w.heap.size w W1.drew := hB.out.drew
  have hS0 := HS.out W1.drew (Below.refl _ _).drew
  have hR0 := HR.out.drew
  have hz0 : W1.drew.heap.size = w.heap.size + 2 := hz
  generalize W1.drew = Wd at *
  refine wpAnyN_take (i := 0) (oi := { dst := some 5, op := Go.Op.move (Go.Operand.tmp 1), type := 3, pos := "view.go:20", after := #[], guard := none }) (v := .int .i64 (n : Nat)) rfl (by decide) (by kernel_rfl) (by kernel_rfl) (by kernel_rfl) (fun _ _ _ h => h) (Or.inl ⟨by rfl, ?_⟩) hS0 ?_
  · intro W9 hS9
    obtain ⟨q0, q1, q2⟩ := hS9
    go_simp
  try simp only [Act.put, List.setIfInBounds_toArray, List.set_cons_zero, List.set_cons_succ]
  refine wpAnyN_take (i := 1) (oi := { dst := some 6, op := Go.Op.fieldAddr 57 (Go.Operand.tmp 2) 0, type := 0, pos := "view.go:20", after := #[], guard := none }) (v := .pointer (some ⟨w.heap.size, 0, none⟩)) rfl (by decide) (by kernel_rfl) (by kernel_rfl) (by kernel_rfl) (fun _ _ _ h => h) (Or.inl ⟨by rfl, ?_⟩) hS0 ?_
  · intro W9 hS9
    obtain ⟨q0, q1, q2⟩ := hS9
    go_simp
  try simp only [Act.put, List.setIfInBounds_toArray, List.set_cons_zero, List.set_cons_succ]
  refine wpAnyN_take (i := 2) (oi := { dst := some 7, op := Go.Op.fieldAddr 25 (Go.Operand.tmp 6) 1, type := 0, pos := "view.go:20", after := #[{ on := 1, ground := Go.Ground.data }], guard := none }) (v := .pointer (some ⟨w.heap.size, 1, none⟩)) rfl (by decide) (by kernel_rfl) (by kernel_rfl) (by kernel_rfl) (fun _ _ _ h => h) (Or.inl ⟨by rfl, ?_⟩) hS0 ?_
  · intro W9 hS9
    obtain ⟨q0, q1, q2⟩ := hS9
    go_simp
  try simp only [Act.put, List.setIfInBounds_toArray, List.set_cons_zero, List.set_cons_succ]
  refine wpAnyN_take (i := 3) (oi := { dst := some 8, op := Go.Op.indexAddr 23 (Go.Operand.tmp 7) (Go.Operand.tmp 5), type := 0, pos := "view.go:20", after := #[{ on := 2, ground := Go.Ground.data }, { on := 0, ground := Go.Ground.data }], guard := none }) (v := .pointer (some ⟨w.heap.size, 1 + n, none⟩)) rfl (by decide) (by kernel_rfl) (by kernel_rfl) (by kernel_rfl) (fun _ _ _ h => h) (Or.inl ⟨by rfl, ?_⟩) hS0 ?_
  · intro W9 hS9
    obtain ⟨q0, q1, q2⟩ := hS9
    go_simp
  try simp only [Act.put, List.setIfInBounds_toArray, List.set_cons_zero, List.set_cons_succ]
  refine wpAnyN_take (i := 4) (oi := { dst := some 9, op := Go.Op.load 22 (Go.Operand.tmp 8), type := 22, pos := "view.go:20", after := #[{ on := 3, ground := Go.Ground.data }], guard := none }) (v := .int .u64 (g.k n : Nat)) rfl (by decide) (by kernel_rfl) (by kernel_rfl) (by kernel_rfl) (fun _ _ _ h => h) (Or.inl ⟨by rfl, ?_⟩) hS0 ?_
  · intro W9 hS9
    obtain ⟨q0, q1, q2⟩ := hS9
    go_simp
  try simp only [Act.put, List.setIfInBounds_toArray, List.set_cons_zero, List.set_cons_succ]
  refine wpAnyN_take (i := 5) (oi := { dst := some 10, op := Go.Op.move (Go.Operand.tmp 1), type := 3, pos := "view.go:20", after := #[], guard := none }) (v := .int .i64 (n : Nat)) rfl (by decide) (by kernel_rfl) (by kernel_rfl) (by kernel_rfl) (fun _ _ _ h => h) (Or.inl ⟨by rfl, ?_⟩) hS0 ?_
  · intro W9 hS9
    obtain ⟨q0, q1, q2⟩ := hS9
    go_simp
  try simp only [Act.put, List.setIfInBounds_toArray, List.set_cons_zero, List.set_cons_succ]
  refine wpAnyN_take (i := 6) (oi := { dst := some 11, op := Go.Op.fieldAddr 57 (Go.Operand.tmp 2) 0, type := 0, pos := "view.go:20", after := #[], guard := none }) (v := .pointer (some ⟨w.heap.size, 0, none⟩)) rfl (by decide) (by kernel_rfl) (by kernel_rfl) (by kernel_rfl) (fun _ _ _ h => h) (Or.inl ⟨by rfl, ?_⟩) hS0 ?_
  · intro W9 hS9
    obtain ⟨q0, q1, q2⟩ := hS9
    go_simp
  try simp only [Act.put, List.setIfInBounds_toArray, List.set_cons_zero, List.set_cons_succ]
  refine wpAnyN_take (i := 7) (oi := { dst := some 12, op := Go.Op.fieldAddr 25 (Go.Operand.tmp 11) 2, type := 0, pos := "view.go:20", after := #[{ on := 6, ground := Go.Ground.data }], guard := none }) (v := .pointer (some ⟨w.heap.size, 9, none⟩)) rfl (by decide) (by kernel_rfl) (by kernel_rfl) (by kernel_rfl) (fun _ _ _ h => h) (Or.inl ⟨by rfl, ?_⟩) hS0 ?_
  · intro W9 hS9
    obtain ⟨q0, q1, q2⟩ := hS9
    go_simp
  try simp only [Act.put, List.setIfInBounds_toArray, List.set_cons_zero, List.set_cons_succ]
  refine wpAnyN_take (i := 8) (oi := { dst := some 13, op := Go.Op.indexAddr 23 (Go.Operand.tmp 12) (Go.Operand.tmp 10), type := 0, pos := "view.go:20", after := #[{ on := 7, ground := Go.Ground.data }, { on := 5, ground := Go.Ground.data }], guard := none }) (v := .pointer (some ⟨w.heap.size, 9 + n, none⟩)) rfl (by decide) (by kernel_rfl) (by kernel_rfl) (by kernel_rfl) (fun _ _ _ h => h) (Or.inl ⟨by rfl, ?_⟩) hS0 ?_
  · intro W9 hS9
    obtain ⟨q0, q1, q2⟩ := hS9
    go_simp
  try simp only [Act.put, List.setIfInBounds_toArray, List.set_cons_zero, List.set_cons_succ]
  refine wpAnyN_take (i := 9) (oi := { dst := some 14, op := Go.Op.load 22 (Go.Operand.tmp 13), type := 22, pos := "view.go:20", after := #[{ on := 8, ground := Go.Ground.data }], guard := none }) (v := .int .u64 (g.v n : Nat)) rfl (by decide) (by kernel_rfl) (by kernel_rfl) (by kernel_rfl) (fun _ _ _ h => h) (Or.inl ⟨by rfl, ?_⟩) hS0 ?_
  · intro W9 hS9
    obtain ⟨q0, q1, q2⟩ := hS9
    go_simp
  try simp only [Act.put, List.setIfInBounds_toArray, List.set_cons_zero, List.set_cons_succ]
  refine wpAnyN_take (i := 10) (oi := { dst := some 15, op := Go.Op.fieldAddr 57 (Go.Operand.tmp 2) 0, type := 0, pos := "view.go:20", after := #[], guard := none }) (v := .pointer (some ⟨w.heap.size, 0, none⟩)) rfl (by decide) (by kernel_rfl) (by kernel_rfl) (by kernel_rfl) (fun _ _ _ h => h) (Or.inl ⟨by rfl, ?_⟩) hS0 ?_
  · intro W9 hS9
    obtain ⟨q0, q1, q2⟩ := hS9
    go_simp
  try simp only [Act.put, List.setIfInBounds_toArray, List.set_cons_zero, List.set_cons_succ]
  refine wpAnyN_take (i := 11) (oi := { dst := some 16, op := Go.Op.fieldAddr 25 (Go.Operand.tmp 15) 0, type := 0, pos := "view.go:20", after := #[{ on := 10, ground := Go.Ground.data }], guard := none }) (v := .pointer (some ⟨w.heap.size, 0, none⟩)) rfl (by decide) (by kernel_rfl) (by kernel_rfl) (by kernel_rfl) (fun _ _ _ h => h) (Or.inl ⟨by rfl, ?_⟩) hS0 ?_
  · intro W9 hS9
    obtain ⟨q0, q1, q2⟩ := hS9
    go_simp
  try simp only [Act.put, List.setIfInBounds_toArray, List.set_cons_zero, List.set_cons_succ]
  refine wpAnyN_take (i := 12) (oi := { dst := some 17, op := Go.Op.load 22 (Go.Operand.tmp 16), type := 22, pos := "view.go:20", after := #[{ on := 11, ground := Go.Ground.data }], guard := none }) (v := .int .u64 (g.c : Nat)) rfl (by decide) (by kernel_rfl) (by kernel_rfl) (by kernel_rfl) (fun _ _ _ h => h) (Or.inl ⟨by rfl, ?_⟩) hS0 ?_
  · intro W9 hS9
    obtain ⟨q0, q1, q2⟩ := hS9
    go_simp
  try simp only [Act.put, List.setIfInBounds_toArray, List.set_cons_zero, List.set_cons_succ]
  refine wpAnyN_take (i := 14) (oi := { dst := some 19, op := Go.Op.move (Go.Operand.tmp 1), type := 3, pos := "view.go:20", after := #[], guard := none }) (v := .int .i64 (n : Nat)) rfl (by decide) (by kernel_rfl) (by kernel_rfl) (by kernel_rfl) (fun _ _ _ h => h) (Or.inl ⟨by rfl, ?_⟩) hS0 ?_
  · intro W9 hS9
    obtain ⟨q0, q1, q2⟩ := hS9
    go_simp
  try simp only [Act.put, List.setIfInBounds_toArray, List.set_cons_zero, List.set_cons_succ]
  refine wpAnyX_one (i := 13) (o := { dst := some 18, op := Go.Op.call { callee := Go.Callee.value (Go.Operand.func 65), args := #[Go.Operand.tmp 17], argTypes := #[22] }, type := 113, pos := "view.go:20", after := #[{ on := 12, ground := Go.Ground.data }], guard := none }) (by kernel_rfl) rfl (fun K hK => ?_)
  refine step_call_g (by rfl) 65 _ _ rfl (fun _ _ => by kernel_rfl) #[.int .u64 (g.c : Nat)] (by simp [go_sem]) _ (HBy Wd).out ?_
  rintro e W2 ⟨rfl, hB2⟩
  refine ⟨_, rfl, ?_⟩
  have hS1 := HS2.out Wd W2 hS0 hB2 (by omega)
  have hR1 := hR0.below hB2 hR0.lt
  have hB3 := hB1.trans (hB2.mono hB1.size)
  refine hK.out _ _ (fun _ => hS1) ?_
  clear hK K
  try simp only [Act.put, List.setIfInBounds_toArray, List.set_cons_zero, List.set_cons_succ]
  refine wpAnyN_take (i := 15) (oi := { dst := some 20, op := Go.Op.index 113 (Go.Operand.tmp 18) (Go.Operand.tmp 19), type := 5, pos := "view.go:20", after := #[{ on := 13, ground := Go.Ground.data }, { on := 14, ground := Go.Ground.data }], guard := none }) (v := .int .u8 (byt g.c n : Nat)) rfl (by decide) (by kernel_rfl) (by kernel_rfl) (by kernel_rfl) (fun _ _ _ h => h) (Or.inl ⟨by rfl, ?_⟩) hS1 ?_
  · intro W9 hS9
    obtain ⟨q0, q1, q2⟩ := hS9
    have hg := Tryz.index_arr8 (fun n => .int .u8 (byt g.c n : Nat)) n hn W9
    go_simp
  try simp only [Act.put, List.setIfInBounds_toArray, List.set_cons_zero, List.set_cons_succ]
  refine wpAnyN_take (i := 16) (oi := { dst := some 21, op := Go.Op.build 30 #[(0, Go.Operand.tmp 9), (1, Go.Operand.tmp 14), (2, Go.Operand.tmp 20)], type := 30, pos := "view.go:20", after := #[{ on := 4, ground := Go.Ground.data }, { on := 9, ground := Go.Ground.data }, { on := 15, ground := Go.Ground.data }], guard := none }) (v := .agg #[.int .u64 (g.k n : Nat), .int .u64 (g.v n : Nat), .int .u8 (byt g.c n : Nat)]) rfl (by decide) (by kernel_rfl) (by kernel_rfl) (by kernel_rfl) (fun _ _ _ h => h) (Or.inl ⟨by rfl, ?_⟩) hS1 ?_
  · intro W9 hS9
    obtain ⟨q0, q1, q2⟩ := hS9
    go_simp
  try simp only [Act.put, List.setIfInBounds_toArray, List.set_cons_zero, List.set_cons_succ]
  refine wpAnyX_one (i := 17) (o := { dst := none, op := Go.Op.store 30 (Go.Operand.tmp 4) (Go.Operand.tmp 21), type := 0, pos := "view.go:20", after := #[{ on := 16, ground := Go.Ground.data }, { on := 13, ground := Go.Ground.chain }, { on := 0, ground := Go.Ground.phase }, { on := 1, ground := Go.Ground.phase }, { on := 2, ground := Go.Ground.phase }, { on := 3, ground := Go.Ground.phase }, { on := 4, ground := Go.Ground.phase }, { on := 5, ground := Go.Ground.phase }, { on := 6, ground := Go.Ground.phase }, { on := 7, ground := Go.Ground.phase }, { on := 8, ground := Go.Ground.phase }, { on := 9, ground := Go.Ground.phase }, { on := 10, ground := Go.Ground.phase }, { on := 11, ground := Go.Ground.phase }, { on := 12, ground := Go.Ground.phase }, { on := 13, ground := Go.Ground.phase }, { on := 14, ground := Go.Ground.phase }, { on := 15, ground := Go.Ground.phase }, { on := 16, ground := Go.Ground.phase }], guard := none }) (by kernel_rfl) rfl (fun K hK => ?_)
  refine step_store_g (by rfl) 30 _ _ rfl ⟨w.heap.size + 1, 0, none⟩ (.agg #[.int .u64 (g.k n : Nat), .int .u64 (g.v n : Nat), .int .u8 (byt g.c n : Nat)]) (by simp [go_sem]) (by simp [go_sem]) (run_storeVar_row (P := Tryz.prog) W2 (w.heap.size + 1) 30 30 _ _ hR1 (by kernel_rfl) rfl (by simp [Value.oneCell'])) ?_
  have hS2 := HS3.out W2 #[.int .u64 (g.k n : Nat), .int .u64 (g.v n : Nat), .int .u8 (byt g.c n : Nat)] hS1
  refine hK.out _ _ (fun _ => hS2) ?_
  clear hK K
  try simp only [Act.put, List.setIfInBounds_toArray, List.set_cons_zero, List.set_cons_succ]
  refine wpAnyX_end (by kernel_rfl) ?_
  have hR2 : Rows8 (W2.setRow (w.heap.size + 1) #[.int .u64 (g.k n : Nat), .int .u64 (g.v n : Nat), .int .u8 (byt g.c n : Nat)]) (w.heap.size + 1) 30 _ := setRow_heap _ _ _ _ _ _ hR1
  go_wp2_with fail
  refine bodyPost_ret (results_cell1 rfl _ _ (w.heap.size + 1) _ rfl (run_loadVar_row (P := Tryz.prog) _ (w.heap.size + 1) 30 30 _ (0, 0) _ hR2 Tryz.underlying30 rfl (by kernel_rfl))) rfl ?_
  exact ⟨rfl, below_setRow hB3 (by omega) _⟩
end Go.Proofs

/- Group: slots and groups compared. -/
namespace Go.Proofs
set_option maxRecDepth 100000
set_option maxRecDepth 100000
open Go.RowKit Go.Shelf
attribute [local go_sem] Oper.semAt_some

theorem Tryz.undSlot : Tryz.prog.underlying 30 = some (.struct (Tryz.prog.fieldsOf 30)) := by kernel_rfl
theorem Tryz.fldSlot : ((Tryz.prog.fieldsOf 30).toList.map fun f => (f.name != "_", f.type, f.offset)) = [(true, 22, 0), (true, 22, 1), (true, 5, 2)] := by kernel_rfl
theorem Tryz.undGroup : Tryz.prog.underlying 25 = some (.struct (Tryz.prog.fieldsOf 25)) := by kernel_rfl
theorem Tryz.fldGroup : ((Tryz.prog.fieldsOf 25).toList.map fun f => (f.name != "_", f.type, f.offset)) = [(true, 22, 0), (true, 23, 1), (true, 23, 9)] := by kernel_rfl
theorem Tryz.undArr : (Tryz.prog.underlying 23).map (fun d => match d with | .array n e => (n, e) | _ => (0, 0)) = some (8, 22) := by kernel_rfl
theorem Tryz.infoArr : (Tryz.prog.info? 23).map (·.size) = some 8 := by kernel_rfl
theorem Tryz.info64 : (Tryz.prog.info? 22).map (·.size) = some 1 := by kernel_rfl
/-- The fields of a struct, by their types and places. -/
theorem eqFields_of {P : Program} {d : Nat} {xs ys : Array Value} {W : World} : ∀ (fs : List Field) (ps : List (Bool × TypeId × Nat)), (fs.map fun f => (f.name != "_", f.type, f.offset)) = ps → (∀ p ∈ ps, p.1 = true) →
    ∀ (R : Bool), (∀ p ∈ ps, ∃ a b r, (part p.2.1 xs p.2.2).run P W = .ok a W ∧ (part p.2.1 ys p.2.2).run P W = .ok b W ∧ (Op.equalIn d p.2.1 a b).run P W = .ok r W ∧ (R = true → r = true)) → (R = false → ∃ p ∈ ps, ∀ a b, (part p.2.1 xs p.2.2).run P W = .ok a W → (part p.2.1 ys p.2.2).run P W = .ok b W → (Op.equalIn d p.2.1 a b).run P W = .ok false W) →
    (Op.eqFields d xs ys fs).run P W = .ok R W
  | [], ps, h1, _, R, _, h4 => by
    subst h1
    cases R with
    | true => simp [Op.eqFields]
    | false => obtain ⟨p, hp, _⟩ := h4 rfl; simp at hp
  | f :: fs, [], h1, _, _, _, _ => by simp at h1
  | f :: fs, p :: ps, h1, h2, R, h3, h4 => by
    simp only [List.map_cons, List.cons.injEq] at h1
    obtain ⟨e, h1⟩ := h1
    subst e
    have hn : f.name ≠ "_" := by
      have := h2 (f.name != "_", f.type, f.offset) (by simp)
      simpa using this
    obtain ⟨a, b, r, q1, q2, q3, q4⟩ := h3 (f.name != "_", f.type, f.offset) (by simp)
    dsimp only at q1 q2 q3
    simp only [Op.eqFields, Sem.run_bind, Sem.run_ite, if_pos hn, q1, q2, q3, Result.andThen_ok]
    cases r with
    | false =>
      have : R = false := by cases R with | false => rfl | true => exact absurd (q4 rfl) (by decide)
      subst this
      simp
    | true =>
      simp only [Bool.not_true, Bool.false_eq_true, if_false]
      refine eqFields_of fs ps h1 (fun p hp => h2 p (by simp [hp])) R (fun p hp => h3 p (by simp [hp])) (fun hR => ?_)
      obtain ⟨p, hp, hf⟩ := h4 hR
      rcases List.mem_cons.1 hp with rfl | hp
      · have := hf a b q1 q2
        rw [q3] at this
        cases this
      · exact ⟨p, hp, hf⟩
theorem part_plain {P : Program} {W : World} {t : TypeId} {xs : Array Value} {o : Nat} {v : Value} (ha : (isAgg t).run P W = .ok false W) (h : xs[o]? = some v) : (part t xs o).run P W = .ok v W := by
  simp [part, Sem.run_bind, ha, h]
theorem part_agg {P : Program} {W : World} {t : TypeId} {xs : Array Value} {o n : Nat} (ha : (isAgg t).run P W = .ok true W) (hs : (P.info? t).map (·.size) = some n) : (part t xs o).run P W = .ok (.agg (xs.extract o (o + n))) W := by
  cases hq : P.info? t with
  | none => simp [hq] at hs
  | some i =>
    have hs' : i.size = n := by simpa [hq] using hs
    simp [part, Sem.run_bind, ha, sizeOf, typeInfo, hq, hs']
theorem Tryz.agg64 (W : World) : (isAgg 22).run Tryz.prog W = .ok false W := run_isAgg_plain Tryz.underlying22 rfl W
theorem Tryz.agg8 (W : World) : (isAgg 5).run Tryz.prog W = .ok false W := run_isAgg_plain Tryz.underlying5 rfl W
theorem Tryz.eqSlot (a b : Sl) (W : World) : (Op.equalIn 10000 30 (.agg (sc a)) (.agg (sc b))).run Tryz.prog W = .ok (decide (a = b)) W := by
  rw [run_equalIn_struct W 9999 30 (sc a) (sc b) Tryz.undSlot (by kernel_rfl)]
  have e1 : ∀ (x y : Nat), (Op.equalIn 9999 22 (.int .u64 (x : Int)) (.int .u64 (y : Int))).run Tryz.prog W = .ok (decide (x = y)) W := fun x y => by
    rw [run_equalIn_int W 9998 22 .u64 .u64 _ _ Tryz.underlying22, natEq_walk]; rfl
  have e2 : ∀ (x y : Nat), (Op.equalIn 9999 5 (.int .u8 (x : Int)) (.int .u8 (y : Int))).run Tryz.prog W = .ok (decide (x = y)) W := fun x y => by
    rw [run_equalIn_int W 9998 5 .u8 .u8 _ _ Tryz.underlying5, natEq_walk]; rfl
  have p1 : ∀ s : Sl, (part 22 (sc s) 0).run Tryz.prog W = .ok (.int .u64 (s.key : Nat)) W := fun s => part_plain (Tryz.agg64 W) rfl
  have p2 : ∀ s : Sl, (part 22 (sc s) 1).run Tryz.prog W = .ok (.int .u64 (s.val : Nat)) W := fun s => part_plain (Tryz.agg64 W) rfl
  have p3 : ∀ s : Sl, (part 5 (sc s) 2).run Tryz.prog W = .ok (.int .u8 (s.h2 : Nat)) W := fun s => part_plain (Tryz.agg8 W) rfl
  obtain ⟨a1, a2, a3⟩ := a
  obtain ⟨b1, b2, b3⟩ := b
  refine eqFields_of _ _ Tryz.fldSlot (by simp) _ ?_ ?_
  · intro p hp
    simp only [List.mem_cons, List.not_mem_nil, or_false] at hp
    rcases hp with rfl | rfl | rfl
    · exact ⟨_, _, _, p1 _, p1 _, e1 _ _, by simp only [decide_eq_true_eq, Sl.mk.injEq]; exact fun h => h.1⟩
    · exact ⟨_, _, _, p2 _, p2 _, e1 _ _, by simp only [decide_eq_true_eq, Sl.mk.injEq]; exact fun h => h.2.1⟩
    · exact ⟨_, _, _, p3 _, p3 _, e2 _ _, by simp only [decide_eq_true_eq, Sl.mk.injEq]; exact fun h => h.2.2⟩
  · intro hR
    have hne : ¬ (a1 = b1 ∧ a2 = b2 ∧ a3 = b3) := by simpa using hR
    by_cases h1 : a1 = b1
    · by_cases h2 : a2 = b2
      · have h3 : ¬ a3 = b3 := fun h => hne ⟨h1, h2, h⟩
        refine ⟨(true, 5, 2), by simp, fun x y hx hy => ?_⟩
        rw [p3] at hx hy
        cases hx; cases hy
        rw [e2]
        simp [h3]
      · refine ⟨(true, 22, 1), by simp, fun x y hx hy => ?_⟩
        rw [p2] at hx hy
        cases hx; cases hy
        rw [e1]
        simp [h2]
    · refine ⟨(true, 22, 0), by simp, fun x y hx hy => ?_⟩
      rw [p1] at hx hy
      cases hx; cases hy
      rw [e1]
      simp [h1]
theorem Tryz.eqArr (f : Nat → Nat) (W : World) : (Op.equalIn 9999 23 (.agg #[.int .u64 (f 0 : Nat), .int .u64 (f 1 : Nat), .int .u64 (f 2 : Nat), .int .u64 (f 3 : Nat), .int .u64 (f 4 : Nat), .int .u64 (f 5 : Nat), .int .u64 (f 6 : Nat), .int .u64 (f 7 : Nat)]) (.agg #[.int .u64 (f 0 : Nat), .int .u64 (f 1 : Nat), .int .u64 (f 2 : Nat), .int .u64 (f 3 : Nat), .int .u64 (f 4 : Nat), .int .u64 (f 5 : Nat), .int .u64 (f 6 : Nat), .int .u64 (f 7 : Nat)])).run Tryz.prog W = .ok true W := by
  have e1 : ∀ (x : Nat), (Op.equalIn 9998 22 (.int .u64 (x : Int)) (.int .u64 (x : Int))).run Tryz.prog W = .ok true W := fun x => by
    rw [run_equalIn_int W 9997 22 .u64 .u64 _ _ Tryz.underlying22]; simp
  have hs : (sizeOf 22).run Tryz.prog W = .ok 1 W := by
    have h := Tryz.info64
    cases hq : Tryz.prog.info? 22 with
    | none => simp [hq] at h
    | some i => have : i.size = 1 := by simpa [hq] using h
                simp [sizeOf, typeInfo, hq, this]
  have ha := Tryz.agg64 W
  rw [Op.equalIn]
  simp only [Sem.run_bind, run_underlying Tryz.underlying23 W, Result.andThen_ok, hs]
  simp [Std.Legacy.Range.forIn_eq_forIn_range', Std.Legacy.Range.size, List.range', part, Sem.run_bind, ha, e1]
theorem Tryz.eqGroup (g : Gr) (W : World) : (Op.equalIn 10000 25 (.agg (gc g)) (.agg (gc g))).run Tryz.prog W = .ok true W := by
  rw [run_equalIn_struct W 9999 25 (gc g) (gc g) Tryz.undGroup (by kernel_rfl)]
  have ha : (isAgg 23).run Tryz.prog W = .ok true W := by
    unfold isAgg
    rw [Sem.run_bind, run_underlying Tryz.underlying23 W]
    rfl
  refine eqFields_of _ _ Tryz.fldGroup (by simp) _ ?_ (by simp)
  intro p hp
  simp only [List.mem_cons, List.not_mem_nil, or_false] at hp
  rcases hp with rfl | rfl | rfl
  · exact ⟨_, _, true, part_plain (Tryz.agg64 W) (gc_0 g), part_plain (Tryz.agg64 W) (gc_0 g), by rw [run_equalIn_int W 9998 22 .u64 .u64 _ _ Tryz.underlying22]; simp, fun _ => rfl⟩
  · exact ⟨_, _, true, part_agg ha Tryz.infoArr, part_agg ha Tryz.infoArr, Tryz.eqArr g.k W, fun _ => rfl⟩
  · exact ⟨_, _, true, part_agg ha Tryz.infoArr, part_agg ha Tryz.infoArr, Tryz.eqArr g.v W, fun _ => rfl⟩
end Go.Proofs

/- Group: what the slots of lanes come to: whether two groups have the same. -/
namespace Go.Proofs
set_option maxRecDepth 100000
set_option maxRecDepth 100000
open Go.RowKit Go.Shelf
attribute [local go_sem] Oper.semAt_some

end Go.Proofs
