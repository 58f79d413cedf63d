/- Layout: the reader: count, place, fill, slots. -/
import Derived.Test.YtkddfihfilhhdaaWr
namespace Go.Proofs
set_option maxRecDepth 100000
open Go.RowKit Go.Shelf
attribute [local go_sem] Oper.semAt_some

/-- A reader: a row, and a table. -/
def rdL (B off n c : Nat) (t : Tb) : List Value := .slice (some ⟨B, off, none⟩) n c :: .int .i64 260 :: tcL t
def rd (B off n c : Nat) (t : Tb) : Array Value := (rdL B off n c t).toArray
theorem rd_set2 (B off n c : Nat) (t : Tb) (z : Int) : (rd B off n c t).setIfInBounds 2 (.int .u64 z) = rd B off n c { t with c := z } := by simp [rd, rdL, tcL]
theorem rd_set3 (B off n c : Nat) (t : Tb) (z : Int) : (rd B off n c t).setIfInBounds 3 (.int .i64 z) = rd B off n c { t with d := z } := by simp [rd, rdL, tcL]
theorem rd_set4 (B off n c : Nat) (t : Tb) (z : Nat) : (rd B off n c t).setIfInBounds 4 (.int .u64 (z : Nat)) = rd B off n c { t with p := z } := by simp [rd, rdL, tcL]
theorem rd_set5 (B off n c : Nat) (t : Tb) (z : Int) : (rd B off n c t).setIfInBounds 5 (.int .i64 z) = rd B off n c { t with can := z } := by simp [rd, rdL, tcL]
theorem rd_set6 (B off n c : Nat) (t : Tb) (z : Int) : (rd B off n c t).setIfInBounds 6 (.int .i64 z) = rd B off n c { t with live := z } := by simp [rd, rdL, tcL]
/-- The same table with other words. -/
def Tb.w (t : Tb) (l : List Int) : Tb := ⟨t.c, t.d, t.p, t.can, t.live, l⟩
theorem rd_splice (B off n c : Nat) (t : Tb) (k : Nat) (vs : List Int) : (rdL B off n c t).take (7 + k) ++ wordVals vs ++ (rdL B off n c t).drop (7 + k + (wordVals vs).length) = rdL B off n c (t.w (splice t.ws k vs)) := by
  have e1 : rdL B off n c t = [.slice (some ⟨B, off, none⟩) n c, .int .i64 260, .int .u64 t.c, .int .i64 t.d, .int .u64 (t.p : Nat), .int .i64 t.can, .int .i64 t.live] ++ wordVals t.ws := rfl
  have e2 : rdL B off n c (t.w (splice t.ws k vs)) = [.slice (some ⟨B, off, none⟩) n c, .int .i64 260, .int .u64 t.c, .int .i64 t.d, .int .u64 (t.p : Nat), .int .i64 t.can, .int .i64 t.live] ++ wordVals (splice t.ws k vs) := rfl
  rw [e2, e1, ← wordVals_splice]
  generalize hP : ([.slice (some ⟨B, off, none⟩) n c, .int .i64 260, .int .u64 t.c, .int .i64 t.d, .int .u64 (t.p : Nat), .int .i64 t.can, .int .i64 t.live] : List Value) = L
  have hL : L.length = 7 := by rw [← hP]; rfl
  rw [show 7 + k = L.length + k by rw [hL], List.take_append, List.take_of_length_le (by omega), Nat.add_sub_cancel_left, Nat.add_assoc, List.drop_append, List.drop_of_length_le (by omega), Nat.add_sub_cancel_left]
  simp
/-- What the reader has, and reads. -/
structure RdK (w₀ Wa W : World) (Br B off n c : Nat) (t : Tb) : Prop where
  row : Rows8 W Br 115 (rd B off n c t)
  far : w₀.heap.size ≤ Br
  below : Below w₀.heap.size w₀ W
  but : But Wa.heap.size Br Wa W
theorem and_255 (z : Nat) (hz : z < 18446744073709551616) : bits .and .u64 (z : Int) 255 = ((z % 256 : Nat) : Int) := by
  rw [show (255 : Int) = ((255 : Nat) : Int) from rfl, u64_and_nat _ _ hz (by decide)]
  exact congrArg _ (Nat.and_two_pow_sub_one_eq_mod z 8)
set_option maxHeartbeats 2000000 in
theorem Try.count_any (w₀ Wa W : World) (Br B off n c : Nat) (t : Tb) (ws : List Int) (hw : WordsAt w₀ (.slice (some ⟨B, off, none⟩) n c) ws) (hn : n = 40) (hr : RdK w₀ Wa W Br B off n c t) : Calls Try.prog 81 #[.pointer (some ⟨Br, 0, none⟩)] W fun e w' => e = .returned (.tuple #[]) ∧ RdK w₀ Wa w' Br B off n c { t with c := wd ws 0 } := by
  have hw1 := RowAt.below hw hr.below
  have e0 : W.cell? ⟨B, off, none⟩ = some (.int .u64 (wd ws 0)) := wd_cell hw1 0 (by omega)
  have c0 : W.cell? ⟨Br, 0, none⟩ = some (.slice (some ⟨B, off, none⟩) n c) := hr.row.cell 0
  have c2 : W.cell? ⟨Br, 2, none⟩ = some (.int .u64 t.c) := hr.row.cell 2
  have f2 := hr.row.frozen 2
  have l2 := hr.row.lt
  obtain ⟨z, hz⟩ : ∃ z, z = wd ws 0 := ⟨_, rfl⟩
  have h9 := hr.row.set 2 (.int .u64 z)
  rw [rd_set2] at h9
  rw [← hz] at e0 ⊢
  have H := Lib.hid (show RdK w₀ Wa (W.setCell ⟨Br, 2, none⟩ (.int .u64 z)) Br B off n c { t with c := z } from ⟨h9, hr.far, hr.below.setCell (p := ⟨Br, 2, none⟩) hr.far _, hr.but.setCell _ _⟩)
  have hn0 : 0 < n := by omega
  clear h9 hw hw1 hr hz hn
  go_enter Try.func81, Try.ntmps81
  go_wp2_with fail
  go_end0
  exact ⟨rfl, H.out⟩
/-- Does a word say a depth, and prefix? -/
def okPl (z : Nat) : Bool := decide (z % 256 ≤ 5) && decide (z / 256 < 2 ^ (z % 256))
theorem okd_no {m : Nat} (h : decide ((m : Int) ≤ 5) = false) : decide (m ≤ 5) = false := by
  rw [decide_eq_false_iff_not] at h ⊢
  omega
theorem okd_yes {m : Nat} (h : decide ((m : Int) ≤ 5) = true) : m ≤ 5 := by
  have := of_decide_eq_true h
  omega
set_option maxHeartbeats 4000000 in
theorem Try.place_any (w₀ Wa W : World) (Br B off n c : Nat) (t : Tb) (ws : List Int) (hw : WordsAt w₀ (.slice (some ⟨B, off, none⟩) n c) ws) (hn : n = 40) (hr : RdK w₀ Wa W Br B off n c t) (z : Nat) (hz : z < 18446744073709551616) (hz1 : wd ws 1 = (z : Nat)) : Calls Try.prog 82 #[.pointer (some ⟨Br, 0, none⟩)] W fun e w' =>
    (okPl z = true ∧ e = .returned (.tuple #[]) ∧ RdK w₀ Wa w' Br B off n c { t with d := ((z % 256 : Nat) : Int), p := z / 256 }) ∨ (okPl z = false ∧ e = .panicked (panicA 260) ∧ Below w₀.heap.size w₀ w') := by
  have hw1 := RowAt.below hw hr.below
  have e0 : W.cell? ⟨B, off + 1, none⟩ = some (.int .u64 (z : Nat)) := by rw [← hz1]; exact wd_cell hw1 1 (by omega)
  have c0 : W.cell? ⟨Br, 0, none⟩ = some (.slice (some ⟨B, off, none⟩) n c) := hr.row.cell 0
  have HK := Lib.hid hr
  have ha := and_255 z hz
  have hdv : ((z : Int) / 256) = ((z / 256 : Nat) : Int) := by omega
  obtain ⟨m, hm⟩ : ∃ m, m = z % 256 := ⟨_, rfl⟩
  obtain ⟨g, hg⟩ : ∃ g, g = z / 256 := ⟨_, rfl⟩
  have HZM : Hid (z % 256 = m ∧ z / 256 = g) := Lib.hid ⟨hm.symm, hg.symm⟩
  rw [← hm] at ha
  rw [← hg] at hdv
  have hn1 : 1 < n := by omega
  clear hw hw1 hr hn hm hg hz hz1
  go_enter Try.func82, Try.ntmps82
  go_upto_region 1 with fail
  clear e0 c0 hn1
  refine wp_region_X (fun W' => W'.cell? ⟨Br, 0, none⟩ = some (.slice (some ⟨B, off, none⟩) n c) ∧ W'.cell? ⟨Br, 1, none⟩ = some (.int .i64 260)) 14 (by kernel_rfl) ?_
  have HK := Lib.hid (show RdK w₀ Wa W.drew Br B off n c _ from ⟨HK.out.row, HK.out.far, HK.out.below.drew, HK.out.but.drew⟩)
  generalize W.drew = W1 at *
  refine wpAnyN_take (i := 0) (oi := { dst := some 10, op := Go.Op.move (Go.Operand.tmp 0), type := 97, pos := "reader.go:26", after := #[], guard := none }) (v := .pointer (some ⟨Br, 0, none⟩)) rfl (by decide) (by kernel_rfl) (by kernel_rfl) (by kernel_rfl) (fun _ _ _ h => h) (Or.inl ⟨by rfl, ?_⟩) ⟨HK.out.row.cell 0, HK.out.row.cell 1⟩ ?_
  · intro W9 hS9
    obtain ⟨q0, q1⟩ := hS9
    go_simp
  try simp only [Act.put, List.setIfInBounds_toArray, List.set_cons_zero, List.set_cons_succ]
  refine wpAnyN_take (i := 1) (oi := { dst := some 11, op := Go.Op.move (Go.Operand.tmp 2), type := 34, pos := "reader.go:26", after := #[], guard := none }) (v := .int .u64 (z : Nat)) rfl (by decide) (by kernel_rfl) (by kernel_rfl) (by kernel_rfl) (fun _ _ _ h => h) (Or.inl ⟨by rfl, ?_⟩) ⟨HK.out.row.cell 0, HK.out.row.cell 1⟩ ?_
  · intro W9 hS9
    obtain ⟨q0, q1⟩ := hS9
    go_simp
  try simp only [Act.put, List.setIfInBounds_toArray, List.set_cons_zero, List.set_cons_succ]
  refine wpAnyN_take (i := 2) (oi := { dst := some 12, op := Go.Op.binOp Go.BinOp.and 34 (Go.Operand.tmp 11) (Go.Operand.const (Go.Value.int Go.IntKind.u64 255)) 34, type := 34, pos := "reader.go:26", after := #[{ on := 1, ground := Go.Ground.data }], guard := none }) (v := .int .u64 (m : Nat)) rfl (by decide) (by kernel_rfl) (by kernel_rfl) (by kernel_rfl) (fun _ _ _ h => h) (Or.inl ⟨by rfl, ?_⟩) ⟨HK.out.row.cell 0, HK.out.row.cell 1⟩ ?_
  · intro W9 hS9
    obtain ⟨q0, q1⟩ := hS9
    go_simp
  try simp only [Act.put, List.setIfInBounds_toArray, List.set_cons_zero, List.set_cons_succ]
  refine wpAnyN_take (i := 4) (oi := { dst := some 14, op := Go.Op.move (Go.Operand.tmp 0), type := 97, pos := "reader.go:26", after := #[], guard := none }) (v := .pointer (some ⟨Br, 0, none⟩)) rfl (by decide) (by kernel_rfl) (by kernel_rfl) (by kernel_rfl) (fun _ _ _ h => h) (Or.inl ⟨by rfl, ?_⟩) ⟨HK.out.row.cell 0, HK.out.row.cell 1⟩ ?_
  · intro W9 hS9
    obtain ⟨q0, q1⟩ := hS9
    go_simp
  try simp only [Act.put, List.setIfInBounds_toArray, List.set_cons_zero, List.set_cons_succ]
  refine wpAnyN_take (i := 5) (oi := { dst := some 15, op := Go.Op.nilCheck (Go.Operand.tmp 14), type := 0, pos := "reader.go:26", after := #[{ on := 4, ground := Go.Ground.data }], guard := none }) (v := .pointer (some ⟨Br, 0, none⟩)) rfl (by decide) (by kernel_rfl) (by kernel_rfl) (by kernel_rfl) (fun _ _ _ h => h) (Or.inl ⟨by rfl, ?_⟩) ⟨HK.out.row.cell 0, HK.out.row.cell 1⟩ ?_
  · intro W9 hS9
    obtain ⟨q0, q1⟩ := hS9
    go_simp
  try simp only [Act.put, List.setIfInBounds_toArray, List.set_cons_zero, List.set_cons_succ]
  refine wpAnyN_take (i := 6) (oi := { dst := some 16, op := Go.Op.fieldAddr 115 (Go.Operand.tmp 15) 0, type := 0, pos := "reader.go:26", after := #[{ on := 5, ground := Go.Ground.data }], guard := none }) (v := .pointer (some ⟨Br, 0, none⟩)) rfl (by decide) (by kernel_rfl) (by kernel_rfl) (by kernel_rfl) (fun _ _ _ h => h) (Or.inl ⟨by rfl, ?_⟩) ⟨HK.out.row.cell 0, HK.out.row.cell 1⟩ ?_
  · intro W9 hS9
    obtain ⟨q0, q1⟩ := hS9
    go_simp
  try simp only [Act.put, List.setIfInBounds_toArray, List.set_cons_zero, List.set_cons_succ]
  refine wpAnyN_take (i := 7) (oi := { dst := some 17, op := Go.Op.fieldAddr 110 (Go.Operand.tmp 16) 1, type := 0, pos := "reader.go:26", after := #[{ on := 6, ground := Go.Ground.data }], guard := none }) (v := .pointer (some ⟨Br, 1, none⟩)) rfl (by decide) (by kernel_rfl) (by kernel_rfl) (by kernel_rfl) (fun _ _ _ h => h) (Or.inl ⟨by rfl, ?_⟩) ⟨HK.out.row.cell 0, HK.out.row.cell 1⟩ ?_
  · intro W9 hS9
    obtain ⟨q0, q1⟩ := hS9
    go_simp
  try simp only [Act.put, List.setIfInBounds_toArray, List.set_cons_zero, List.set_cons_succ]
  refine wpAnyN_take (i := 8) (oi := { dst := some 18, op := Go.Op.load 27 (Go.Operand.tmp 17), type := 27, pos := "reader.go:26", after := #[{ on := 7, ground := Go.Ground.data }], guard := none }) (v := .int .i64 260) rfl (by decide) (by kernel_rfl) (by kernel_rfl) (by kernel_rfl) (fun _ _ _ h => h) (Or.inl ⟨by rfl, ?_⟩) ⟨HK.out.row.cell 0, HK.out.row.cell 1⟩ ?_
  · intro W9 hS9
    obtain ⟨q0, q1⟩ := hS9
    go_simp
  try simp only [Act.put, List.setIfInBounds_toArray, List.set_cons_zero, List.set_cons_succ]
  refine wpAnyX_one (i := 3) (o := { dst := some 13, op := Go.Op.call { callee := Go.Callee.value (Go.Operand.func 41), args := #[Go.Operand.const (Go.Value.int Go.IntKind.u64 5)], argTypes := #[34] }, type := 83, pos := "reader.go:26", after := #[], guard := none }) (by kernel_rfl) rfl (fun K hK => ?_)
  have HN := Try.upTo_any 5 W1
  refine step_call_g (by rfl) 41 _ _ rfl (fun _ _ => by kernel_rfl) #[.int .u64 5] (by simp [go_sem]) _ HN ?_
  rintro e W2 ⟨v, rfl, hm, hC⟩
  have HM := Lib.hid hm
  have HK := Lib.hid (show RdK w₀ Wa _ Br B off n c _ from ⟨HK.out.row.below hC HK.out.row.lt, HK.out.far, HK.out.below.trans (hC.mono HK.out.below.size), HK.out.but.trans (But.of_below (hC.mono HK.out.but.size))⟩)
  clear hC HN hm
  refine ⟨_, rfl, ?_⟩
  refine hK.out _ _ (fun _ => ⟨HK.out.row.cell 0, HK.out.row.cell 1⟩) ?_
  clear hK K
  try simp only [Act.put, List.setIfInBounds_toArray, List.set_cons_zero, List.set_cons_succ]
  refine wpAnyX_one (i := 9) (o := { dst := some 19, op := Go.Op.call { callee := Go.Callee.value (Go.Operand.func 75), args := #[Go.Operand.tmp 12, Go.Operand.tmp 13, Go.Operand.tmp 18], argTypes := #[34, 83, 27] }, type := 3, pos := "reader.go:26", after := #[{ on := 2, ground := Go.Ground.data }, { on := 3, ground := Go.Ground.data }, { on := 8, ground := Go.Ground.data }, { on := 3, ground := Go.Ground.chain }], guard := none }) (by kernel_rfl) rfl (fun K hK => ?_)
  have HN := Try.numIU_any (m : Nat) 260 v _ W2 HM.out
  refine step_callP_g (by rfl) 75 _ _ rfl (fun _ _ => by kernel_rfl) #[.int .u64 (m : Nat), v, .int .i64 260] (by simp [go_sem]) _ HN ?_
  clear HN
  rintro e w9 ⟨hw9, hq9⟩
  subst w9
  rcases hq9 with ⟨h, rfl⟩ | ⟨h, rfl⟩
  rotate_left
  · refine .inr ⟨_, rfl, ?_⟩
    exact ⟨by trivial, .inr ⟨by unfold okPl; rw [HZM.out.1, okd_no h]; rfl, rfl, HK.out.below⟩⟩
  have HY := Lib.hid (okd_yes h)
  have hwm : wrap64 ((m : Nat) : Int) = (m : Int) := IntWalk.wrap64_in _ ⟨by have := HY.out; omega, by have := HY.out; omega⟩
  rw [hwm]
  clear h HM hwm
  refine .inl ⟨_, rfl, ?_⟩
  refine hK.out _ _ (fun _ => ⟨HK.out.row.cell 0, HK.out.row.cell 1⟩) ?_
  clear hK K
  try simp only [Act.put, List.setIfInBounds_toArray, List.set_cons_zero, List.set_cons_succ]
  refine wpAnyN_take (i := 10) (oi := { dst := some 20, op := Go.Op.nilCheck (Go.Operand.tmp 10), type := 0, pos := "reader.go:26", after := #[{ on := 0, ground := Go.Ground.data }, { on := 0, ground := Go.Ground.phase }, { on := 1, ground := Go.Ground.phase }, { on := 2, ground := Go.Ground.phase }, { on := 3, ground := Go.Ground.phase }, { on := 4, ground := Go.Ground.phase }, { on := 5, ground := Go.Ground.phase }, { on := 6, ground := Go.Ground.phase }, { on := 7, ground := Go.Ground.phase }, { on := 8, ground := Go.Ground.phase }, { on := 9, ground := Go.Ground.phase }], guard := none }) (v := .pointer (some ⟨Br, 0, none⟩)) rfl (by decide) (by kernel_rfl) (by kernel_rfl) (by kernel_rfl) (fun _ _ _ h => h) (Or.inl ⟨by rfl, ?_⟩) ⟨HK.out.row.cell 0, HK.out.row.cell 1⟩ ?_
  · intro W9 hS9
    obtain ⟨q0, q1⟩ := hS9
    go_simp
  try simp only [Act.put, List.setIfInBounds_toArray, List.set_cons_zero, List.set_cons_succ]
  refine wpAnyN_take (i := 11) (oi := { dst := some 21, op := Go.Op.fieldAddr 115 (Go.Operand.tmp 20) 1, type := 0, pos := "reader.go:26", after := #[{ on := 10, ground := Go.Ground.data }, { on := 0, ground := Go.Ground.phase }, { on := 1, ground := Go.Ground.phase }, { on := 2, ground := Go.Ground.phase }, { on := 3, ground := Go.Ground.phase }, { on := 4, ground := Go.Ground.phase }, { on := 5, ground := Go.Ground.phase }, { on := 6, ground := Go.Ground.phase }, { on := 7, ground := Go.Ground.phase }, { on := 8, ground := Go.Ground.phase }, { on := 9, ground := Go.Ground.phase }], guard := none }) (v := .pointer (some ⟨Br, 2, none⟩)) rfl (by decide) (by kernel_rfl) (by kernel_rfl) (by kernel_rfl) (fun _ _ _ h => h) (Or.inl ⟨by rfl, ?_⟩) ⟨HK.out.row.cell 0, HK.out.row.cell 1⟩ ?_
  · intro W9 hS9
    obtain ⟨q0, q1⟩ := hS9
    go_simp
  try simp only [Act.put, List.setIfInBounds_toArray, List.set_cons_zero, List.set_cons_succ]
  refine wpAnyN_take (i := 12) (oi := { dst := some 22, op := Go.Op.fieldAddr 49 (Go.Operand.tmp 21) 1, type := 0, pos := "reader.go:26", after := #[{ on := 11, ground := Go.Ground.data }, { on := 0, ground := Go.Ground.phase }, { on := 1, ground := Go.Ground.phase }, { on := 2, ground := Go.Ground.phase }, { on := 3, ground := Go.Ground.phase }, { on := 4, ground := Go.Ground.phase }, { on := 5, ground := Go.Ground.phase }, { on := 6, ground := Go.Ground.phase }, { on := 7, ground := Go.Ground.phase }, { on := 8, ground := Go.Ground.phase }, { on := 9, ground := Go.Ground.phase }], guard := none }) (v := .pointer (some ⟨Br, 3, none⟩)) rfl (by decide) (by kernel_rfl) (by kernel_rfl) (by kernel_rfl) (fun _ _ _ h => h) (Or.inl ⟨by rfl, ?_⟩) ⟨HK.out.row.cell 0, HK.out.row.cell 1⟩ ?_
  · intro W9 hS9
    obtain ⟨q0, q1⟩ := hS9
    go_simp
  try simp only [Act.put, List.setIfInBounds_toArray, List.set_cons_zero, List.set_cons_succ]
  have z0 : W2.cell? ⟨Br, 3, none⟩ = some (.int .i64 t.d) := HK.out.row.cell 3
  have f0 := HK.out.row.frozen 3
  have l0 := HK.out.row.lt
  have h9 := HK.out.row.set 3 (.int .i64 (m : Nat))
  rw [rd_set3] at h9
  have HK2 := Lib.hid (show RdK w₀ Wa (W2.setCell ⟨Br, 3, none⟩ (.int .i64 (m : Nat))) Br B off n c { t with d := ((m : Nat) : Int) } from ⟨h9, HK.out.far, HK.out.below.setCell (p := ⟨Br, 3, none⟩) HK.out.far _, HK.out.but.setCell _ _⟩)
  clear h9
  refine wpAnyX_one (i := 13) (o := { dst := none, op := Go.Op.store 3 (Go.Operand.tmp 22) (Go.Operand.tmp 19), type := 0, pos := "reader.go:26", after := #[{ on := 12, ground := Go.Ground.data }, { on := 9, ground := Go.Ground.data }, { on := 9, ground := Go.Ground.chain }, { on := 0, ground := Go.Ground.phase }, { on := 1, ground := Go.Ground.phase }, { on := 2, ground := Go.Ground.phase }, { on := 3, ground := Go.Ground.phase }, { on := 4, ground := Go.Ground.phase }, { on := 5, ground := Go.Ground.phase }, { on := 6, ground := Go.Ground.phase }, { on := 7, ground := Go.Ground.phase }, { on := 8, ground := Go.Ground.phase }, { on := 9, ground := Go.Ground.phase }], guard := none }) (by kernel_rfl) rfl (fun K hK => ?_)
  refine step_skip_g (by rfl) (w' := W2.setCell ⟨Br, 3, none⟩ (.int .i64 (m : Nat))) (by go_simp) ?_
  clear z0 f0 l0 HK
  refine hK.out _ _ (fun _ => ⟨HK2.out.row.cell 0, HK2.out.row.cell 1⟩) ?_
  clear hK K
  try simp only [Act.put]
  refine wpAnyX_end (by kernel_rfl) ?_
  have HK := HK2
  clear HK2
  generalize W2.setCell ⟨Br, 3, none⟩ (.int .i64 ((m : Nat) : Int)) = W3 at *
  go_upto_region 2 with fail
  refine wp_region_X (fun W' => W'.cell? ⟨Br, 0, none⟩ = some (.slice (some ⟨B, off, none⟩) n c) ∧ W'.cell? ⟨Br, 1, none⟩ = some (.int .i64 260) ∧ W'.cell? ⟨Br, 3, none⟩ = some (.int .i64 (m : Nat))) 19 (by kernel_rfl) ?_
  have HK := Lib.hid (show RdK w₀ Wa W3.drew Br B off n c _ from ⟨HK.out.row, HK.out.far, HK.out.below.drew, HK.out.but.drew⟩)
  generalize W3.drew = W4 at *
  refine wpAnyN_take (i := 0) (oi := { dst := some 23, op := Go.Op.move (Go.Operand.tmp 0), type := 97, pos := "reader.go:27", after := #[], guard := none }) (v := .pointer (some ⟨Br, 0, none⟩)) rfl (by decide) (by kernel_rfl) (by kernel_rfl) (by kernel_rfl) (fun _ _ _ h => h) (Or.inl ⟨by rfl, ?_⟩) ⟨HK.out.row.cell 0, HK.out.row.cell 1, HK.out.row.cell 3⟩ ?_
  · intro W9 hS9
    obtain ⟨q0, q1, q2⟩ := hS9
    go_simp
  try simp only [Act.put, List.setIfInBounds_toArray, List.set_cons_zero, List.set_cons_succ]
  refine wpAnyN_take (i := 1) (oi := { dst := some 24, op := Go.Op.move (Go.Operand.tmp 2), type := 34, pos := "reader.go:27", after := #[], guard := none }) (v := .int .u64 (z : Nat)) rfl (by decide) (by kernel_rfl) (by kernel_rfl) (by kernel_rfl) (fun _ _ _ h => h) (Or.inl ⟨by rfl, ?_⟩) ⟨HK.out.row.cell 0, HK.out.row.cell 1, HK.out.row.cell 3⟩ ?_
  · intro W9 hS9
    obtain ⟨q0, q1, q2⟩ := hS9
    go_simp
  try simp only [Act.put, List.setIfInBounds_toArray, List.set_cons_zero, List.set_cons_succ]
  refine wpAnyN_take (i := 2) (oi := { dst := some 25, op := Go.Op.binOp Go.BinOp.shr 34 (Go.Operand.tmp 24) (Go.Operand.const (Go.Value.int Go.IntKind.u64 8)) 78, type := 34, pos := "reader.go:27", after := #[{ on := 1, ground := Go.Ground.data }], guard := none }) (v := .int .u64 (g : Nat)) rfl (by decide) (by kernel_rfl) (by kernel_rfl) (by kernel_rfl) (fun _ _ _ h => h) (Or.inl ⟨by rfl, ?_⟩) ⟨HK.out.row.cell 0, HK.out.row.cell 1, HK.out.row.cell 3⟩ ?_
  · intro W9 hS9
    obtain ⟨q0, q1, q2⟩ := hS9
    go_simp
  try simp only [Act.put, List.setIfInBounds_toArray, List.set_cons_zero, List.set_cons_succ]
  refine wpAnyN_take (i := 3) (oi := { dst := some 26, op := Go.Op.move (Go.Operand.tmp 0), type := 97, pos := "reader.go:27", after := #[], guard := none }) (v := .pointer (some ⟨Br, 0, none⟩)) rfl (by decide) (by kernel_rfl) (by kernel_rfl) (by kernel_rfl) (fun _ _ _ h => h) (Or.inl ⟨by rfl, ?_⟩) ⟨HK.out.row.cell 0, HK.out.row.cell 1, HK.out.row.cell 3⟩ ?_
  · intro W9 hS9
    obtain ⟨q0, q1, q2⟩ := hS9
    go_simp
  try simp only [Act.put, List.setIfInBounds_toArray, List.set_cons_zero, List.set_cons_succ]
  refine wpAnyN_take (i := 4) (oi := { dst := some 27, op := Go.Op.nilCheck (Go.Operand.tmp 26), type := 0, pos := "reader.go:27", after := #[{ on := 3, ground := Go.Ground.data }], guard := none }) (v := .pointer (some ⟨Br, 0, none⟩)) rfl (by decide) (by kernel_rfl) (by kernel_rfl) (by kernel_rfl) (fun _ _ _ h => h) (Or.inl ⟨by rfl, ?_⟩) ⟨HK.out.row.cell 0, HK.out.row.cell 1, HK.out.row.cell 3⟩ ?_
  · intro W9 hS9
    obtain ⟨q0, q1, q2⟩ := hS9
    go_simp
  try simp only [Act.put, List.setIfInBounds_toArray, List.set_cons_zero, List.set_cons_succ]
  refine wpAnyN_take (i := 5) (oi := { dst := some 28, op := Go.Op.fieldAddr 115 (Go.Operand.tmp 27) 1, type := 0, pos := "reader.go:27", after := #[{ on := 4, ground := Go.Ground.data }], guard := none }) (v := .pointer (some ⟨Br, 2, none⟩)) rfl (by decide) (by kernel_rfl) (by kernel_rfl) (by kernel_rfl) (fun _ _ _ h => h) (Or.inl ⟨by rfl, ?_⟩) ⟨HK.out.row.cell 0, HK.out.row.cell 1, HK.out.row.cell 3⟩ ?_
  · intro W9 hS9
    obtain ⟨q0, q1, q2⟩ := hS9
    go_simp
  try simp only [Act.put, List.setIfInBounds_toArray, List.set_cons_zero, List.set_cons_succ]
  refine wpAnyN_take (i := 6) (oi := { dst := some 29, op := Go.Op.fieldAddr 49 (Go.Operand.tmp 28) 1, type := 0, pos := "reader.go:27", after := #[{ on := 5, ground := Go.Ground.data }], guard := none }) (v := .pointer (some ⟨Br, 3, none⟩)) rfl (by decide) (by kernel_rfl) (by kernel_rfl) (by kernel_rfl) (fun _ _ _ h => h) (Or.inl ⟨by rfl, ?_⟩) ⟨HK.out.row.cell 0, HK.out.row.cell 1, HK.out.row.cell 3⟩ ?_
  · intro W9 hS9
    obtain ⟨q0, q1, q2⟩ := hS9
    go_simp
  try simp only [Act.put, List.setIfInBounds_toArray, List.set_cons_zero, List.set_cons_succ]
  refine wpAnyN_take (i := 7) (oi := { dst := some 30, op := Go.Op.load 3 (Go.Operand.tmp 29), type := 3, pos := "reader.go:27", after := #[{ on := 6, ground := Go.Ground.data }], guard := none }) (v := .int .i64 (m : Nat)) rfl (by decide) (by kernel_rfl) (by kernel_rfl) (by kernel_rfl) (fun _ _ _ h => h) (Or.inl ⟨by rfl, ?_⟩) ⟨HK.out.row.cell 0, HK.out.row.cell 1, HK.out.row.cell 3⟩ ?_
  · intro W9 hS9
    obtain ⟨q0, q1, q2⟩ := hS9
    go_simp
  try simp only [Act.put, List.setIfInBounds_toArray, List.set_cons_zero, List.set_cons_succ]
  refine wpAnyN_take (i := 9) (oi := { dst := some 32, op := Go.Op.move (Go.Operand.tmp 0), type := 97, pos := "reader.go:27", after := #[], guard := none }) (v := .pointer (some ⟨Br, 0, none⟩)) rfl (by decide) (by kernel_rfl) (by kernel_rfl) (by kernel_rfl) (fun _ _ _ h => h) (Or.inl ⟨by rfl, ?_⟩) ⟨HK.out.row.cell 0, HK.out.row.cell 1, HK.out.row.cell 3⟩ ?_
  · intro W9 hS9
    obtain ⟨q0, q1, q2⟩ := hS9
    go_simp
  try simp only [Act.put, List.setIfInBounds_toArray, List.set_cons_zero, List.set_cons_succ]
  refine wpAnyN_take (i := 10) (oi := { dst := some 33, op := Go.Op.nilCheck (Go.Operand.tmp 32), type := 0, pos := "reader.go:27", after := #[{ on := 9, ground := Go.Ground.data }], guard := none }) (v := .pointer (some ⟨Br, 0, none⟩)) rfl (by decide) (by kernel_rfl) (by kernel_rfl) (by kernel_rfl) (fun _ _ _ h => h) (Or.inl ⟨by rfl, ?_⟩) ⟨HK.out.row.cell 0, HK.out.row.cell 1, HK.out.row.cell 3⟩ ?_
  · intro W9 hS9
    obtain ⟨q0, q1, q2⟩ := hS9
    go_simp
  try simp only [Act.put, List.setIfInBounds_toArray, List.set_cons_zero, List.set_cons_succ]
  refine wpAnyN_take (i := 11) (oi := { dst := some 34, op := Go.Op.fieldAddr 115 (Go.Operand.tmp 33) 0, type := 0, pos := "reader.go:27", after := #[{ on := 10, ground := Go.Ground.data }], guard := none }) (v := .pointer (some ⟨Br, 0, none⟩)) rfl (by decide) (by kernel_rfl) (by kernel_rfl) (by kernel_rfl) (fun _ _ _ h => h) (Or.inl ⟨by rfl, ?_⟩) ⟨HK.out.row.cell 0, HK.out.row.cell 1, HK.out.row.cell 3⟩ ?_
  · intro W9 hS9
    obtain ⟨q0, q1, q2⟩ := hS9
    go_simp
  try simp only [Act.put, List.setIfInBounds_toArray, List.set_cons_zero, List.set_cons_succ]
  refine wpAnyN_take (i := 12) (oi := { dst := some 35, op := Go.Op.fieldAddr 110 (Go.Operand.tmp 34) 1, type := 0, pos := "reader.go:27", after := #[{ on := 11, ground := Go.Ground.data }], guard := none }) (v := .pointer (some ⟨Br, 1, none⟩)) rfl (by decide) (by kernel_rfl) (by kernel_rfl) (by kernel_rfl) (fun _ _ _ h => h) (Or.inl ⟨by rfl, ?_⟩) ⟨HK.out.row.cell 0, HK.out.row.cell 1, HK.out.row.cell 3⟩ ?_
  · intro W9 hS9
    obtain ⟨q0, q1, q2⟩ := hS9
    go_simp
  try simp only [Act.put, List.setIfInBounds_toArray, List.set_cons_zero, List.set_cons_succ]
  refine wpAnyN_take (i := 13) (oi := { dst := some 36, op := Go.Op.load 27 (Go.Operand.tmp 35), type := 27, pos := "reader.go:27", after := #[{ on := 12, ground := Go.Ground.data }], guard := none }) (v := .int .i64 260) rfl (by decide) (by kernel_rfl) (by kernel_rfl) (by kernel_rfl) (fun _ _ _ h => h) (Or.inl ⟨by rfl, ?_⟩) ⟨HK.out.row.cell 0, HK.out.row.cell 1, HK.out.row.cell 3⟩ ?_
  · intro W9 hS9
    obtain ⟨q0, q1, q2⟩ := hS9
    go_simp
  try simp only [Act.put, List.setIfInBounds_toArray, List.set_cons_zero, List.set_cons_succ]
  refine wpAnyX_one (i := 8) (o := { dst := some 31, op := Go.Op.call { callee := Go.Callee.value (Go.Operand.func 78), args := #[Go.Operand.tmp 30], argTypes := #[3] }, type := 83, pos := "reader.go:27", after := #[{ on := 7, ground := Go.Ground.data }], guard := none }) (by kernel_rfl) rfl (fun K hK => ?_)
  have HN := Try.prefixOf_any m (by have := HY.out; omega) W4
  refine step_call_g (by rfl) 78 _ _ rfl (fun _ _ => by kernel_rfl) #[.int .i64 (m : Nat)] (by simp [go_sem]) _ HN ?_
  rintro e W5 ⟨v, rfl, hm, hC⟩
  have HM := Lib.hid hm
  have HK := Lib.hid (show RdK w₀ Wa _ Br B off n c _ from ⟨HK.out.row.below hC HK.out.row.lt, HK.out.far, HK.out.below.trans (hC.mono HK.out.below.size), HK.out.but.trans (But.of_below (hC.mono HK.out.but.size))⟩)
  clear hC HN hm
  refine ⟨_, rfl, ?_⟩
  refine hK.out _ _ (fun _ => ⟨HK.out.row.cell 0, HK.out.row.cell 1, HK.out.row.cell 3⟩) ?_
  clear hK K
  try simp only [Act.put, List.setIfInBounds_toArray, List.set_cons_zero, List.set_cons_succ]
  refine wpAnyX_one (i := 14) (o := { dst := some 37, op := Go.Op.call { callee := Go.Callee.value (Go.Operand.func 73), args := #[Go.Operand.tmp 25, Go.Operand.tmp 31, Go.Operand.tmp 36], argTypes := #[34, 83, 27] }, type := 34, pos := "reader.go:27", after := #[{ on := 2, ground := Go.Ground.data }, { on := 8, ground := Go.Ground.data }, { on := 13, ground := Go.Ground.data }, { on := 8, ground := Go.Ground.chain }], guard := none }) (by kernel_rfl) rfl (fun K hK => ?_)
  have HN := Try.numUU_any (g : Nat) 260 v _ W5 HM.out
  refine step_callP_g (by rfl) 73 _ _ rfl (fun _ _ => by kernel_rfl) #[.int .u64 (g : Nat), v, .int .i64 260] (by simp [go_sem]) _ HN ?_
  clear HN
  rintro e w9 ⟨hw9, hq9⟩
  subst w9
  rcases hq9 with ⟨h, rfl⟩ | ⟨h, rfl⟩
  rotate_left
  · refine .inr ⟨_, rfl, ?_⟩
    rw [up_pre] at h
    exact ⟨by trivial, .inr ⟨by unfold okPl; rw [HZM.out.1, HZM.out.2, h, Bool.and_false], rfl, HK.out.below⟩⟩
  rw [up_pre] at h
  have HY2 := Lib.hid h
  clear h HM
  refine .inl ⟨_, rfl, ?_⟩
  refine hK.out _ _ (fun _ => ⟨HK.out.row.cell 0, HK.out.row.cell 1, HK.out.row.cell 3⟩) ?_
  clear hK K
  try simp only [Act.put, List.setIfInBounds_toArray, List.set_cons_zero, List.set_cons_succ]
  refine wpAnyN_take (i := 15) (oi := { dst := some 38, op := Go.Op.nilCheck (Go.Operand.tmp 23), type := 0, pos := "reader.go:27", after := #[{ on := 0, ground := Go.Ground.data }, { on := 0, ground := Go.Ground.phase }, { on := 1, ground := Go.Ground.phase }, { on := 2, ground := Go.Ground.phase }, { on := 3, ground := Go.Ground.phase }, { on := 4, ground := Go.Ground.phase }, { on := 5, ground := Go.Ground.phase }, { on := 6, ground := Go.Ground.phase }, { on := 7, ground := Go.Ground.phase }, { on := 8, ground := Go.Ground.phase }, { on := 9, ground := Go.Ground.phase }, { on := 10, ground := Go.Ground.phase }, { on := 11, ground := Go.Ground.phase }, { on := 12, ground := Go.Ground.phase }, { on := 13, ground := Go.Ground.phase }, { on := 14, ground := Go.Ground.phase }], guard := none }) (v := .pointer (some ⟨Br, 0, none⟩)) rfl (by decide) (by kernel_rfl) (by kernel_rfl) (by kernel_rfl) (fun _ _ _ h => h) (Or.inl ⟨by rfl, ?_⟩) ⟨HK.out.row.cell 0, HK.out.row.cell 1, HK.out.row.cell 3⟩ ?_
  · intro W9 hS9
    obtain ⟨q0, q1, q2⟩ := hS9
    go_simp
  try simp only [Act.put, List.setIfInBounds_toArray, List.set_cons_zero, List.set_cons_succ]
  refine wpAnyN_take (i := 16) (oi := { dst := some 39, op := Go.Op.fieldAddr 115 (Go.Operand.tmp 38) 1, type := 0, pos := "reader.go:27", after := #[{ on := 15, ground := Go.Ground.data }, { on := 0, ground := Go.Ground.phase }, { on := 1, ground := Go.Ground.phase }, { on := 2, ground := Go.Ground.phase }, { on := 3, ground := Go.Ground.phase }, { on := 4, ground := Go.Ground.phase }, { on := 5, ground := Go.Ground.phase }, { on := 6, ground := Go.Ground.phase }, { on := 7, ground := Go.Ground.phase }, { on := 8, ground := Go.Ground.phase }, { on := 9, ground := Go.Ground.phase }, { on := 10, ground := Go.Ground.phase }, { on := 11, ground := Go.Ground.phase }, { on := 12, ground := Go.Ground.phase }, { on := 13, ground := Go.Ground.phase }, { on := 14, ground := Go.Ground.phase }], guard := none }) (v := .pointer (some ⟨Br, 2, none⟩)) rfl (by decide) (by kernel_rfl) (by kernel_rfl) (by kernel_rfl) (fun _ _ _ h => h) (Or.inl ⟨by rfl, ?_⟩) ⟨HK.out.row.cell 0, HK.out.row.cell 1, HK.out.row.cell 3⟩ ?_
  · intro W9 hS9
    obtain ⟨q0, q1, q2⟩ := hS9
    go_simp
  try simp only [Act.put, List.setIfInBounds_toArray, List.set_cons_zero, List.set_cons_succ]
  refine wpAnyN_take (i := 17) (oi := { dst := some 40, op := Go.Op.fieldAddr 49 (Go.Operand.tmp 39) 2, type := 0, pos := "reader.go:27", after := #[{ on := 16, ground := Go.Ground.data }, { on := 0, ground := Go.Ground.phase }, { on := 1, ground := Go.Ground.phase }, { on := 2, ground := Go.Ground.phase }, { on := 3, ground := Go.Ground.phase }, { on := 4, ground := Go.Ground.phase }, { on := 5, ground := Go.Ground.phase }, { on := 6, ground := Go.Ground.phase }, { on := 7, ground := Go.Ground.phase }, { on := 8, ground := Go.Ground.phase }, { on := 9, ground := Go.Ground.phase }, { on := 10, ground := Go.Ground.phase }, { on := 11, ground := Go.Ground.phase }, { on := 12, ground := Go.Ground.phase }, { on := 13, ground := Go.Ground.phase }, { on := 14, ground := Go.Ground.phase }], guard := none }) (v := .pointer (some ⟨Br, 4, none⟩)) rfl (by decide) (by kernel_rfl) (by kernel_rfl) (by kernel_rfl) (fun _ _ _ h => h) (Or.inl ⟨by rfl, ?_⟩) ⟨HK.out.row.cell 0, HK.out.row.cell 1, HK.out.row.cell 3⟩ ?_
  · intro W9 hS9
    obtain ⟨q0, q1, q2⟩ := hS9
    go_simp
  try simp only [Act.put, List.setIfInBounds_toArray, List.set_cons_zero, List.set_cons_succ]
  have z0 : W5.cell? ⟨Br, 4, none⟩ = some (.int .u64 (t.p : Nat)) := HK.out.row.cell 4
  have f0 := HK.out.row.frozen 4
  have l0 := HK.out.row.lt
  have h9 := HK.out.row.set 4 (.int .u64 (g : Nat))
  rw [rd_set4] at h9
  have HK2 := Lib.hid (show RdK w₀ Wa (W5.setCell ⟨Br, 4, none⟩ (.int .u64 (g : Nat))) Br B off n c { t with d := ((m : Nat) : Int), p := g } from ⟨h9, HK.out.far, HK.out.below.setCell (p := ⟨Br, 4, none⟩) HK.out.far _, HK.out.but.setCell _ _⟩)
  clear h9
  refine wpAnyX_one (i := 18) (o := { dst := none, op := Go.Op.store 34 (Go.Operand.tmp 40) (Go.Operand.tmp 37), type := 0, pos := "reader.go:27", after := #[{ on := 17, ground := Go.Ground.data }, { on := 14, ground := Go.Ground.data }, { on := 14, ground := Go.Ground.chain }, { on := 0, ground := Go.Ground.phase }, { on := 1, ground := Go.Ground.phase }, { on := 2, ground := Go.Ground.phase }, { on := 3, ground := Go.Ground.phase }, { on := 4, ground := Go.Ground.phase }, { on := 5, ground := Go.Ground.phase }, { on := 6, ground := Go.Ground.phase }, { on := 7, ground := Go.Ground.phase }, { on := 8, ground := Go.Ground.phase }, { on := 9, ground := Go.Ground.phase }, { on := 10, ground := Go.Ground.phase }, { on := 11, ground := Go.Ground.phase }, { on := 12, ground := Go.Ground.phase }, { on := 13, ground := Go.Ground.phase }, { on := 14, ground := Go.Ground.phase }], guard := none }) (by kernel_rfl) rfl (fun K hK => ?_)
  refine step_skip_g (by rfl) (w' := W5.setCell ⟨Br, 4, none⟩ (.int .u64 (g : Nat))) (by go_simp) ?_
  clear z0 f0 l0 HK
  refine hK.out _ _ (fun _ => ⟨HK2.out.row.cell 0, HK2.out.row.cell 1, HK2.out.row.cell 3⟩) ?_
  clear hK K
  try simp only [Act.put]
  refine wpAnyX_end (by kernel_rfl) ?_
  go_wp2_with fail
  go_end0
  refine .inl ⟨?_, rfl, ?_⟩
  · unfold okPl
    rw [HZM.out.1, HZM.out.2, HY2.out, decide_eq_true HY.out]
    rfl
  · rw [HZM.out.1, HZM.out.2]
    exact HK2.out
def okFi (x y : Nat) : Bool := decide (x ≤ 14) && decide (y ≤ 14)
theorem up14 {m : Nat} : decide ((m : Int) ≤ 14) = decide (m ≤ 14) := decide_eq_decide.2 (by omega)
set_option maxHeartbeats 4000000 in
theorem Try.fill_any (w₀ Wa W : World) (Br B off n c : Nat) (t : Tb) (ws : List Int) (hw : WordsAt w₀ (.slice (some ⟨B, off, none⟩) n c) ws) (hn : n = 40) (hr : RdK w₀ Wa W Br B off n c t) (x y : Nat) (hx1 : wd ws 2 = (x : Nat)) (hy1 : wd ws 3 = (y : Nat)) : Calls Try.prog 83 #[.pointer (some ⟨Br, 0, none⟩)] W fun e w' =>
    (okFi x y = true ∧ e = .returned (.tuple #[]) ∧ RdK w₀ Wa w' Br B off n c { t with can := ((x : Nat) : Int), live := ((y : Nat) : Int) }) ∨ (okFi x y = false ∧ e = .panicked (panicA 260) ∧ Below w₀.heap.size w₀ w') := by
  have HE2 := Lib.hid (fun (X : World) (h : Below w₀.heap.size w₀ X) => show X.cell? ⟨B, off + 2, none⟩ = some (.int .u64 (x : Nat)) by rw [← hx1]; exact wd_cell (RowAt.below hw h) 2 (by omega))
  have HE3 := Lib.hid (fun (X : World) (h : Below w₀.heap.size w₀ X) => show X.cell? ⟨B, off + 3, none⟩ = some (.int .u64 (y : Nat)) by rw [← hy1]; exact wd_cell (RowAt.below hw h) 3 (by omega))
  have HK := Lib.hid hr
  have hn2 : 2 < n := by omega
  have hn3 : 3 < n := by omega
  clear hw hr hn hx1 hy1
  go_enter Try.func83, Try.ntmps83
  go_upto_region 0 with fail
  refine wp_region_X (fun W' => W'.cell? ⟨Br, 0, none⟩ = some (.slice (some ⟨B, off, none⟩) n c) ∧ W'.cell? ⟨Br, 1, none⟩ = some (.int .i64 260) ∧ W'.cell? ⟨B, off + 2, none⟩ = some (.int .u64 (x : Nat))) 19 (by kernel_rfl) ?_
  have HK := Lib.hid (show RdK w₀ Wa W.drew Br B off n c _ from ⟨HK.out.row, HK.out.far, HK.out.below.drew, HK.out.but.drew⟩)
  generalize W.drew = W1 at *
  refine wpAnyN_take (i := 0) (oi := { dst := some 2, op := Go.Op.move (Go.Operand.tmp 0), type := 97, pos := "reader.go:31", after := #[], guard := none }) (v := .pointer (some ⟨Br, 0, none⟩)) rfl (by decide) (by kernel_rfl) (by kernel_rfl) (by kernel_rfl) (fun _ _ _ h => h) (Or.inl ⟨by rfl, ?_⟩) ⟨HK.out.row.cell 0, HK.out.row.cell 1, HE2.out _ HK.out.below⟩ ?_
  · intro W9 hS9
    obtain ⟨q0, q1, q2⟩ := hS9
    go_simp
  try simp only [Act.put, List.setIfInBounds_toArray, List.set_cons_zero, List.set_cons_succ]
  refine wpAnyN_take (i := 1) (oi := { dst := some 3, op := Go.Op.move (Go.Operand.tmp 0), type := 97, pos := "reader.go:31", after := #[], guard := none }) (v := .pointer (some ⟨Br, 0, none⟩)) rfl (by decide) (by kernel_rfl) (by kernel_rfl) (by kernel_rfl) (fun _ _ _ h => h) (Or.inl ⟨by rfl, ?_⟩) ⟨HK.out.row.cell 0, HK.out.row.cell 1, HE2.out _ HK.out.below⟩ ?_
  · intro W9 hS9
    obtain ⟨q0, q1, q2⟩ := hS9
    go_simp
  try simp only [Act.put, List.setIfInBounds_toArray, List.set_cons_zero, List.set_cons_succ]
  refine wpAnyN_take (i := 2) (oi := { dst := some 4, op := Go.Op.nilCheck (Go.Operand.tmp 3), type := 0, pos := "reader.go:31", after := #[{ on := 1, ground := Go.Ground.data }], guard := none }) (v := .pointer (some ⟨Br, 0, none⟩)) rfl (by decide) (by kernel_rfl) (by kernel_rfl) (by kernel_rfl) (fun _ _ _ h => h) (Or.inl ⟨by rfl, ?_⟩) ⟨HK.out.row.cell 0, HK.out.row.cell 1, HE2.out _ HK.out.below⟩ ?_
  · intro W9 hS9
    obtain ⟨q0, q1, q2⟩ := hS9
    go_simp
  try simp only [Act.put, List.setIfInBounds_toArray, List.set_cons_zero, List.set_cons_succ]
  refine wpAnyN_take (i := 3) (oi := { dst := some 5, op := Go.Op.fieldAddr 115 (Go.Operand.tmp 4) 0, type := 0, pos := "reader.go:31", after := #[{ on := 2, ground := Go.Ground.data }], guard := none }) (v := .pointer (some ⟨Br, 0, none⟩)) rfl (by decide) (by kernel_rfl) (by kernel_rfl) (by kernel_rfl) (fun _ _ _ h => h) (Or.inl ⟨by rfl, ?_⟩) ⟨HK.out.row.cell 0, HK.out.row.cell 1, HE2.out _ HK.out.below⟩ ?_
  · intro W9 hS9
    obtain ⟨q0, q1, q2⟩ := hS9
    go_simp
  try simp only [Act.put, List.setIfInBounds_toArray, List.set_cons_zero, List.set_cons_succ]
  refine wpAnyN_take (i := 4) (oi := { dst := some 6, op := Go.Op.fieldAddr 110 (Go.Operand.tmp 5) 0, type := 0, pos := "reader.go:31", after := #[{ on := 3, ground := Go.Ground.data }], guard := none }) (v := .pointer (some ⟨Br, 0, none⟩)) rfl (by decide) (by kernel_rfl) (by kernel_rfl) (by kernel_rfl) (fun _ _ _ h => h) (Or.inl ⟨by rfl, ?_⟩) ⟨HK.out.row.cell 0, HK.out.row.cell 1, HE2.out _ HK.out.below⟩ ?_
  · intro W9 hS9
    obtain ⟨q0, q1, q2⟩ := hS9
    go_simp
  try simp only [Act.put, List.setIfInBounds_toArray, List.set_cons_zero, List.set_cons_succ]
  refine wpAnyN_take (i := 5) (oi := { dst := some 7, op := Go.Op.load 24 (Go.Operand.tmp 6), type := 24, pos := "reader.go:31", after := #[{ on := 4, ground := Go.Ground.data }], guard := none }) (v := .slice (some ⟨B, off, none⟩) n c) rfl (by decide) (by kernel_rfl) (by kernel_rfl) (by kernel_rfl) (fun _ _ _ h => h) (Or.inl ⟨by rfl, ?_⟩) ⟨HK.out.row.cell 0, HK.out.row.cell 1, HE2.out _ HK.out.below⟩ ?_
  · intro W9 hS9
    obtain ⟨q0, q1, q2⟩ := hS9
    go_simp
  try simp only [Act.put, List.setIfInBounds_toArray, List.set_cons_zero, List.set_cons_succ]
  refine wpAnyN_take (i := 6) (oi := { dst := some 8, op := Go.Op.indexAddr 24 (Go.Operand.tmp 7) (Go.Operand.const (Go.Value.int Go.IntKind.i64 2)), type := 0, pos := "reader.go:31", after := #[{ on := 5, ground := Go.Ground.data }], guard := none }) (v := .pointer (some ⟨B, off + 2, none⟩)) rfl (by decide) (by kernel_rfl) (by kernel_rfl) (by kernel_rfl) (fun _ _ _ h => h) (Or.inl ⟨by rfl, ?_⟩) ⟨HK.out.row.cell 0, HK.out.row.cell 1, HE2.out _ HK.out.below⟩ ?_
  · intro W9 hS9
    obtain ⟨q0, q1, q2⟩ := hS9
    go_simp
    exact fun h9 => absurd h9 (by omega)
  try simp only [Act.put, List.setIfInBounds_toArray, List.set_cons_zero, List.set_cons_succ]
  refine wpAnyN_take (i := 7) (oi := { dst := some 9, op := Go.Op.load 34 (Go.Operand.tmp 8), type := 34, pos := "reader.go:31", after := #[{ on := 6, ground := Go.Ground.data }], guard := none }) (v := .int .u64 (x : Nat)) rfl (by decide) (by kernel_rfl) (by kernel_rfl) (by kernel_rfl) (fun _ _ _ h => h) (Or.inl ⟨by rfl, ?_⟩) ⟨HK.out.row.cell 0, HK.out.row.cell 1, HE2.out _ HK.out.below⟩ ?_
  · intro W9 hS9
    obtain ⟨q0, q1, q2⟩ := hS9
    go_simp
  try simp only [Act.put, List.setIfInBounds_toArray, List.set_cons_zero, List.set_cons_succ]
  refine wpAnyN_take (i := 9) (oi := { dst := some 11, op := Go.Op.move (Go.Operand.tmp 0), type := 97, pos := "reader.go:31", after := #[], guard := none }) (v := .pointer (some ⟨Br, 0, none⟩)) rfl (by decide) (by kernel_rfl) (by kernel_rfl) (by kernel_rfl) (fun _ _ _ h => h) (Or.inl ⟨by rfl, ?_⟩) ⟨HK.out.row.cell 0, HK.out.row.cell 1, HE2.out _ HK.out.below⟩ ?_
  · intro W9 hS9
    obtain ⟨q0, q1, q2⟩ := hS9
    go_simp
  try simp only [Act.put, List.setIfInBounds_toArray, List.set_cons_zero, List.set_cons_succ]
  refine wpAnyN_take (i := 10) (oi := { dst := some 12, op := Go.Op.nilCheck (Go.Operand.tmp 11), type := 0, pos := "reader.go:31", after := #[{ on := 9, ground := Go.Ground.data }], guard := none }) (v := .pointer (some ⟨Br, 0, none⟩)) rfl (by decide) (by kernel_rfl) (by kernel_rfl) (by kernel_rfl) (fun _ _ _ h => h) (Or.inl ⟨by rfl, ?_⟩) ⟨HK.out.row.cell 0, HK.out.row.cell 1, HE2.out _ HK.out.below⟩ ?_
  · intro W9 hS9
    obtain ⟨q0, q1, q2⟩ := hS9
    go_simp
  try simp only [Act.put, List.setIfInBounds_toArray, List.set_cons_zero, List.set_cons_succ]
  refine wpAnyN_take (i := 11) (oi := { dst := some 13, op := Go.Op.fieldAddr 115 (Go.Operand.tmp 12) 0, type := 0, pos := "reader.go:31", after := #[{ on := 10, ground := Go.Ground.data }], guard := none }) (v := .pointer (some ⟨Br, 0, none⟩)) rfl (by decide) (by kernel_rfl) (by kernel_rfl) (by kernel_rfl) (fun _ _ _ h => h) (Or.inl ⟨by rfl, ?_⟩) ⟨HK.out.row.cell 0, HK.out.row.cell 1, HE2.out _ HK.out.below⟩ ?_
  · intro W9 hS9
    obtain ⟨q0, q1, q2⟩ := hS9
    go_simp
  try simp only [Act.put, List.setIfInBounds_toArray, List.set_cons_zero, List.set_cons_succ]
  refine wpAnyN_take (i := 12) (oi := { dst := some 14, op := Go.Op.fieldAddr 110 (Go.Operand.tmp 13) 1, type := 0, pos := "reader.go:31", after := #[{ on := 11, ground := Go.Ground.data }], guard := none }) (v := .pointer (some ⟨Br, 1, none⟩)) rfl (by decide) (by kernel_rfl) (by kernel_rfl) (by kernel_rfl) (fun _ _ _ h => h) (Or.inl ⟨by rfl, ?_⟩) ⟨HK.out.row.cell 0, HK.out.row.cell 1, HE2.out _ HK.out.below⟩ ?_
  · intro W9 hS9
    obtain ⟨q0, q1, q2⟩ := hS9
    go_simp
  try simp only [Act.put, List.setIfInBounds_toArray, List.set_cons_zero, List.set_cons_succ]
  refine wpAnyN_take (i := 13) (oi := { dst := some 15, op := Go.Op.load 27 (Go.Operand.tmp 14), type := 27, pos := "reader.go:31", after := #[{ on := 12, ground := Go.Ground.data }], guard := none }) (v := .int .i64 260) rfl (by decide) (by kernel_rfl) (by kernel_rfl) (by kernel_rfl) (fun _ _ _ h => h) (Or.inl ⟨by rfl, ?_⟩) ⟨HK.out.row.cell 0, HK.out.row.cell 1, HE2.out _ HK.out.below⟩ ?_
  · intro W9 hS9
    obtain ⟨q0, q1, q2⟩ := hS9
    go_simp
  try simp only [Act.put, List.setIfInBounds_toArray, List.set_cons_zero, List.set_cons_succ]
  refine wpAnyX_one (i := 8) (o := { dst := some 10, op := Go.Op.call { callee := Go.Callee.value (Go.Operand.func 41), args := #[Go.Operand.const (Go.Value.int Go.IntKind.u64 14)], argTypes := #[34] }, type := 83, pos := "reader.go:31", after := #[], guard := none }) (by kernel_rfl) rfl (fun K hK => ?_)
  have HN := Try.upTo_any 14 W1
  refine step_call_g (by rfl) 41 _ _ rfl (fun _ _ => by kernel_rfl) #[.int .u64 14] (by simp [go_sem]) _ HN ?_
  rintro e W2 ⟨v, rfl, hm, hC⟩
  have HM := Lib.hid hm
  have HK := Lib.hid (show RdK w₀ Wa _ Br B off n c _ from ⟨HK.out.row.below hC HK.out.row.lt, HK.out.far, HK.out.below.trans (hC.mono HK.out.below.size), HK.out.but.trans (But.of_below (hC.mono HK.out.but.size))⟩)
  clear hC HN hm
  refine ⟨_, rfl, ?_⟩
  refine hK.out _ _ (fun _ => ⟨HK.out.row.cell 0, HK.out.row.cell 1, HE2.out _ HK.out.below⟩) ?_
  clear hK K
  try simp only [Act.put, List.setIfInBounds_toArray, List.set_cons_zero, List.set_cons_succ]
  refine wpAnyX_one (i := 14) (o := { dst := some 16, op := Go.Op.call { callee := Go.Callee.value (Go.Operand.func 75), args := #[Go.Operand.tmp 9, Go.Operand.tmp 10, Go.Operand.tmp 15], argTypes := #[34, 83, 27] }, type := 3, pos := "reader.go:31", after := #[{ on := 7, ground := Go.Ground.data }, { on := 8, ground := Go.Ground.data }, { on := 13, ground := Go.Ground.data }, { on := 8, ground := Go.Ground.chain }], guard := none }) (by kernel_rfl) rfl (fun K hK => ?_)
  have HN := Try.numIU_any (x : Nat) 260 v _ W2 HM.out
  refine step_callP_g (by rfl) 75 _ _ rfl (fun _ _ => by kernel_rfl) #[.int .u64 (x : Nat), v, .int .i64 260] (by simp [go_sem]) _ HN ?_
  clear HN
  rintro e w9 ⟨hw9, hq9⟩
  subst w9
  rcases hq9 with ⟨h, rfl⟩ | ⟨h, rfl⟩
  rotate_left
  · refine .inr ⟨_, rfl, ?_⟩
    rw [up14] at h
    exact ⟨by trivial, .inr ⟨by unfold okFi; rw [h]; rfl, rfl, HK.out.below⟩⟩
  rw [up14] at h
  have HY0 := Lib.hid (of_decide_eq_true h)
  have hwm : wrap64 ((x : Nat) : Int) = (x : Int) := IntWalk.wrap64_in _ ⟨by have := HY0.out; omega, by have := HY0.out; omega⟩
  rw [hwm]
  clear h HM hwm
  refine .inl ⟨_, rfl, ?_⟩
  refine hK.out _ _ (fun _ => ⟨HK.out.row.cell 0, HK.out.row.cell 1, HE2.out _ HK.out.below⟩) ?_
  clear hK K
  try simp only [Act.put, List.setIfInBounds_toArray, List.set_cons_zero, List.set_cons_succ]
  refine wpAnyN_take (i := 15) (oi := { dst := some 17, op := Go.Op.nilCheck (Go.Operand.tmp 2), type := 0, pos := "reader.go:31", after := #[{ on := 0, ground := Go.Ground.data }, { on := 0, ground := Go.Ground.phase }, { on := 1, ground := Go.Ground.phase }, { on := 2, ground := Go.Ground.phase }, { on := 3, ground := Go.Ground.phase }, { on := 4, ground := Go.Ground.phase }, { on := 5, ground := Go.Ground.phase }, { on := 6, ground := Go.Ground.phase }, { on := 7, ground := Go.Ground.phase }, { on := 8, ground := Go.Ground.phase }, { on := 9, ground := Go.Ground.phase }, { on := 10, ground := Go.Ground.phase }, { on := 11, ground := Go.Ground.phase }, { on := 12, ground := Go.Ground.phase }, { on := 13, ground := Go.Ground.phase }, { on := 14, ground := Go.Ground.phase }], guard := none }) (v := .pointer (some ⟨Br, 0, none⟩)) rfl (by decide) (by kernel_rfl) (by kernel_rfl) (by kernel_rfl) (fun _ _ _ h => h) (Or.inl ⟨by rfl, ?_⟩) ⟨HK.out.row.cell 0, HK.out.row.cell 1, HE2.out _ HK.out.below⟩ ?_
  · intro W9 hS9
    obtain ⟨q0, q1, q2⟩ := hS9
    go_simp
  try simp only [Act.put, List.setIfInBounds_toArray, List.set_cons_zero, List.set_cons_succ]
  refine wpAnyN_take (i := 16) (oi := { dst := some 18, op := Go.Op.fieldAddr 115 (Go.Operand.tmp 17) 1, type := 0, pos := "reader.go:31", after := #[{ on := 15, ground := Go.Ground.data }, { on := 0, ground := Go.Ground.phase }, { on := 1, ground := Go.Ground.phase }, { on := 2, ground := Go.Ground.phase }, { on := 3, ground := Go.Ground.phase }, { on := 4, ground := Go.Ground.phase }, { on := 5, ground := Go.Ground.phase }, { on := 6, ground := Go.Ground.phase }, { on := 7, ground := Go.Ground.phase }, { on := 8, ground := Go.Ground.phase }, { on := 9, ground := Go.Ground.phase }, { on := 10, ground := Go.Ground.phase }, { on := 11, ground := Go.Ground.phase }, { on := 12, ground := Go.Ground.phase }, { on := 13, ground := Go.Ground.phase }, { on := 14, ground := Go.Ground.phase }], guard := none }) (v := .pointer (some ⟨Br, 2, none⟩)) rfl (by decide) (by kernel_rfl) (by kernel_rfl) (by kernel_rfl) (fun _ _ _ h => h) (Or.inl ⟨by rfl, ?_⟩) ⟨HK.out.row.cell 0, HK.out.row.cell 1, HE2.out _ HK.out.below⟩ ?_
  · intro W9 hS9
    obtain ⟨q0, q1, q2⟩ := hS9
    go_simp
  try simp only [Act.put, List.setIfInBounds_toArray, List.set_cons_zero, List.set_cons_succ]
  refine wpAnyN_take (i := 17) (oi := { dst := some 19, op := Go.Op.fieldAddr 49 (Go.Operand.tmp 18) 3, type := 0, pos := "reader.go:31", after := #[{ on := 16, ground := Go.Ground.data }, { on := 0, ground := Go.Ground.phase }, { on := 1, ground := Go.Ground.phase }, { on := 2, ground := Go.Ground.phase }, { on := 3, ground := Go.Ground.phase }, { on := 4, ground := Go.Ground.phase }, { on := 5, ground := Go.Ground.phase }, { on := 6, ground := Go.Ground.phase }, { on := 7, ground := Go.Ground.phase }, { on := 8, ground := Go.Ground.phase }, { on := 9, ground := Go.Ground.phase }, { on := 10, ground := Go.Ground.phase }, { on := 11, ground := Go.Ground.phase }, { on := 12, ground := Go.Ground.phase }, { on := 13, ground := Go.Ground.phase }, { on := 14, ground := Go.Ground.phase }], guard := none }) (v := .pointer (some ⟨Br, 5, none⟩)) rfl (by decide) (by kernel_rfl) (by kernel_rfl) (by kernel_rfl) (fun _ _ _ h => h) (Or.inl ⟨by rfl, ?_⟩) ⟨HK.out.row.cell 0, HK.out.row.cell 1, HE2.out _ HK.out.below⟩ ?_
  · intro W9 hS9
    obtain ⟨q0, q1, q2⟩ := hS9
    go_simp
  try simp only [Act.put, List.setIfInBounds_toArray, List.set_cons_zero, List.set_cons_succ]
  have z0 : W2.cell? ⟨Br, 5, none⟩ = some (.int .i64 t.can) := HK.out.row.cell 5
  have f0 := HK.out.row.frozen 5
  have l0 := HK.out.row.lt
  have h9 := HK.out.row.set 5 (.int .i64 (x : Nat))
  rw [rd_set5] at h9
  have HK2 := Lib.hid (show RdK w₀ Wa (W2.setCell ⟨Br, 5, none⟩ (.int .i64 (x : Nat))) Br B off n c { t with can := ((x : Nat) : Int) } from ⟨h9, HK.out.far, HK.out.below.setCell (p := ⟨Br, 5, none⟩) HK.out.far _, HK.out.but.setCell _ _⟩)
  clear h9
  refine wpAnyX_one (i := 18) (o := { dst := none, op := Go.Op.store 3 (Go.Operand.tmp 19) (Go.Operand.tmp 16), type := 0, pos := "reader.go:31", after := #[{ on := 17, ground := Go.Ground.data }, { on := 14, ground := Go.Ground.data }, { on := 14, ground := Go.Ground.chain }, { on := 0, ground := Go.Ground.phase }, { on := 1, ground := Go.Ground.phase }, { on := 2, ground := Go.Ground.phase }, { on := 3, ground := Go.Ground.phase }, { on := 4, ground := Go.Ground.phase }, { on := 5, ground := Go.Ground.phase }, { on := 6, ground := Go.Ground.phase }, { on := 7, ground := Go.Ground.phase }, { on := 8, ground := Go.Ground.phase }, { on := 9, ground := Go.Ground.phase }, { on := 10, ground := Go.Ground.phase }, { on := 11, ground := Go.Ground.phase }, { on := 12, ground := Go.Ground.phase }, { on := 13, ground := Go.Ground.phase }, { on := 14, ground := Go.Ground.phase }], guard := none }) (by kernel_rfl) rfl (fun K hK => ?_)
  refine step_skip_g (by rfl) (w' := W2.setCell ⟨Br, 5, none⟩ (.int .i64 (x : Nat))) (by go_simp) ?_
  clear z0 f0 l0 HK
  refine hK.out _ _ (fun _ => ⟨HK2.out.row.cell 0, HK2.out.row.cell 1, HE2.out _ HK2.out.below⟩) ?_
  clear hK K
  try simp only [Act.put]
  refine wpAnyX_end (by kernel_rfl) ?_
  have HK := HK2
  clear HK2
  generalize W2.setCell ⟨Br, 5, none⟩ (.int .i64 ((x : Nat) : Int)) = W09 at *
  go_upto_region 1 with fail
  refine wp_region_X (fun W' => W'.cell? ⟨Br, 0, none⟩ = some (.slice (some ⟨B, off, none⟩) n c) ∧ W'.cell? ⟨Br, 1, none⟩ = some (.int .i64 260) ∧ W'.cell? ⟨B, off + 3, none⟩ = some (.int .u64 (y : Nat))) 19 (by kernel_rfl) ?_
  have HK := Lib.hid (show RdK w₀ Wa W09.drew Br B off n c _ from ⟨HK.out.row, HK.out.far, HK.out.below.drew, HK.out.but.drew⟩)
  generalize W09.drew = W3 at *
  refine wpAnyN_take (i := 0) (oi := { dst := some 20, op := Go.Op.move (Go.Operand.tmp 0), type := 97, pos := "reader.go:32", after := #[], guard := none }) (v := .pointer (some ⟨Br, 0, none⟩)) rfl (by decide) (by kernel_rfl) (by kernel_rfl) (by kernel_rfl) (fun _ _ _ h => h) (Or.inl ⟨by rfl, ?_⟩) ⟨HK.out.row.cell 0, HK.out.row.cell 1, HE3.out _ HK.out.below⟩ ?_
  · intro W9 hS9
    obtain ⟨q0, q1, q2⟩ := hS9
    go_simp
  try simp only [Act.put, List.setIfInBounds_toArray, List.set_cons_zero, List.set_cons_succ]
  refine wpAnyN_take (i := 1) (oi := { dst := some 21, op := Go.Op.move (Go.Operand.tmp 0), type := 97, pos := "reader.go:32", after := #[], guard := none }) (v := .pointer (some ⟨Br, 0, none⟩)) rfl (by decide) (by kernel_rfl) (by kernel_rfl) (by kernel_rfl) (fun _ _ _ h => h) (Or.inl ⟨by rfl, ?_⟩) ⟨HK.out.row.cell 0, HK.out.row.cell 1, HE3.out _ HK.out.below⟩ ?_
  · intro W9 hS9
    obtain ⟨q0, q1, q2⟩ := hS9
    go_simp
  try simp only [Act.put, List.setIfInBounds_toArray, List.set_cons_zero, List.set_cons_succ]
  refine wpAnyN_take (i := 2) (oi := { dst := some 22, op := Go.Op.nilCheck (Go.Operand.tmp 21), type := 0, pos := "reader.go:32", after := #[{ on := 1, ground := Go.Ground.data }], guard := none }) (v := .pointer (some ⟨Br, 0, none⟩)) rfl (by decide) (by kernel_rfl) (by kernel_rfl) (by kernel_rfl) (fun _ _ _ h => h) (Or.inl ⟨by rfl, ?_⟩) ⟨HK.out.row.cell 0, HK.out.row.cell 1, HE3.out _ HK.out.below⟩ ?_
  · intro W9 hS9
    obtain ⟨q0, q1, q2⟩ := hS9
    go_simp
  try simp only [Act.put, List.setIfInBounds_toArray, List.set_cons_zero, List.set_cons_succ]
  refine wpAnyN_take (i := 3) (oi := { dst := some 23, op := Go.Op.fieldAddr 115 (Go.Operand.tmp 22) 0, type := 0, pos := "reader.go:32", after := #[{ on := 2, ground := Go.Ground.data }], guard := none }) (v := .pointer (some ⟨Br, 0, none⟩)) rfl (by decide) (by kernel_rfl) (by kernel_rfl) (by kernel_rfl) (fun _ _ _ h => h) (Or.inl ⟨by rfl, ?_⟩) ⟨HK.out.row.cell 0, HK.out.row.cell 1, HE3.out _ HK.out.below⟩ ?_
  · intro W9 hS9
    obtain ⟨q0, q1, q2⟩ := hS9
    go_simp
  try simp only [Act.put, List.setIfInBounds_toArray, List.set_cons_zero, List.set_cons_succ]
  refine wpAnyN_take (i := 4) (oi := { dst := some 24, op := Go.Op.fieldAddr 110 (Go.Operand.tmp 23) 0, type := 0, pos := "reader.go:32", after := #[{ on := 3, ground := Go.Ground.data }], guard := none }) (v := .pointer (some ⟨Br, 0, none⟩)) rfl (by decide) (by kernel_rfl) (by kernel_rfl) (by kernel_rfl) (fun _ _ _ h => h) (Or.inl ⟨by rfl, ?_⟩) ⟨HK.out.row.cell 0, HK.out.row.cell 1, HE3.out _ HK.out.below⟩ ?_
  · intro W9 hS9
    obtain ⟨q0, q1, q2⟩ := hS9
    go_simp
  try simp only [Act.put, List.setIfInBounds_toArray, List.set_cons_zero, List.set_cons_succ]
  refine wpAnyN_take (i := 5) (oi := { dst := some 25, op := Go.Op.load 24 (Go.Operand.tmp 24), type := 24, pos := "reader.go:32", after := #[{ on := 4, ground := Go.Ground.data }], guard := none }) (v := .slice (some ⟨B, off, none⟩) n c) rfl (by decide) (by kernel_rfl) (by kernel_rfl) (by kernel_rfl) (fun _ _ _ h => h) (Or.inl ⟨by rfl, ?_⟩) ⟨HK.out.row.cell 0, HK.out.row.cell 1, HE3.out _ HK.out.below⟩ ?_
  · intro W9 hS9
    obtain ⟨q0, q1, q2⟩ := hS9
    go_simp
  try simp only [Act.put, List.setIfInBounds_toArray, List.set_cons_zero, List.set_cons_succ]
  refine wpAnyN_take (i := 6) (oi := { dst := some 26, op := Go.Op.indexAddr 24 (Go.Operand.tmp 25) (Go.Operand.const (Go.Value.int Go.IntKind.i64 3)), type := 0, pos := "reader.go:32", after := #[{ on := 5, ground := Go.Ground.data }], guard := none }) (v := .pointer (some ⟨B, off + 3, none⟩)) rfl (by decide) (by kernel_rfl) (by kernel_rfl) (by kernel_rfl) (fun _ _ _ h => h) (Or.inl ⟨by rfl, ?_⟩) ⟨HK.out.row.cell 0, HK.out.row.cell 1, HE3.out _ HK.out.below⟩ ?_
  · intro W9 hS9
    obtain ⟨q0, q1, q2⟩ := hS9
    go_simp
    exact fun h9 => absurd h9 (by omega)
  try simp only [Act.put, List.setIfInBounds_toArray, List.set_cons_zero, List.set_cons_succ]
  refine wpAnyN_take (i := 7) (oi := { dst := some 27, op := Go.Op.load 34 (Go.Operand.tmp 26), type := 34, pos := "reader.go:32", after := #[{ on := 6, ground := Go.Ground.data }], guard := none }) (v := .int .u64 (y : Nat)) rfl (by decide) (by kernel_rfl) (by kernel_rfl) (by kernel_rfl) (fun _ _ _ h => h) (Or.inl ⟨by rfl, ?_⟩) ⟨HK.out.row.cell 0, HK.out.row.cell 1, HE3.out _ HK.out.below⟩ ?_
  · intro W9 hS9
    obtain ⟨q0, q1, q2⟩ := hS9
    go_simp
  try simp only [Act.put, List.setIfInBounds_toArray, List.set_cons_zero, List.set_cons_succ]
  refine wpAnyN_take (i := 9) (oi := { dst := some 29, op := Go.Op.move (Go.Operand.tmp 0), type := 97, pos := "reader.go:32", after := #[], guard := none }) (v := .pointer (some ⟨Br, 0, none⟩)) rfl (by decide) (by kernel_rfl) (by kernel_rfl) (by kernel_rfl) (fun _ _ _ h => h) (Or.inl ⟨by rfl, ?_⟩) ⟨HK.out.row.cell 0, HK.out.row.cell 1, HE3.out _ HK.out.below⟩ ?_
  · intro W9 hS9
    obtain ⟨q0, q1, q2⟩ := hS9
    go_simp
  try simp only [Act.put, List.setIfInBounds_toArray, List.set_cons_zero, List.set_cons_succ]
  refine wpAnyN_take (i := 10) (oi := { dst := some 30, op := Go.Op.nilCheck (Go.Operand.tmp 29), type := 0, pos := "reader.go:32", after := #[{ on := 9, ground := Go.Ground.data }], guard := none }) (v := .pointer (some ⟨Br, 0, none⟩)) rfl (by decide) (by kernel_rfl) (by kernel_rfl) (by kernel_rfl) (fun _ _ _ h => h) (Or.inl ⟨by rfl, ?_⟩) ⟨HK.out.row.cell 0, HK.out.row.cell 1, HE3.out _ HK.out.below⟩ ?_
  · intro W9 hS9
    obtain ⟨q0, q1, q2⟩ := hS9
    go_simp
  try simp only [Act.put, List.setIfInBounds_toArray, List.set_cons_zero, List.set_cons_succ]
  refine wpAnyN_take (i := 11) (oi := { dst := some 31, op := Go.Op.fieldAddr 115 (Go.Operand.tmp 30) 0, type := 0, pos := "reader.go:32", after := #[{ on := 10, ground := Go.Ground.data }], guard := none }) (v := .pointer (some ⟨Br, 0, none⟩)) rfl (by decide) (by kernel_rfl) (by kernel_rfl) (by kernel_rfl) (fun _ _ _ h => h) (Or.inl ⟨by rfl, ?_⟩) ⟨HK.out.row.cell 0, HK.out.row.cell 1, HE3.out _ HK.out.below⟩ ?_
  · intro W9 hS9
    obtain ⟨q0, q1, q2⟩ := hS9
    go_simp
  try simp only [Act.put, List.setIfInBounds_toArray, List.set_cons_zero, List.set_cons_succ]
  refine wpAnyN_take (i := 12) (oi := { dst := some 32, op := Go.Op.fieldAddr 110 (Go.Operand.tmp 31) 1, type := 0, pos := "reader.go:32", after := #[{ on := 11, ground := Go.Ground.data }], guard := none }) (v := .pointer (some ⟨Br, 1, none⟩)) rfl (by decide) (by kernel_rfl) (by kernel_rfl) (by kernel_rfl) (fun _ _ _ h => h) (Or.inl ⟨by rfl, ?_⟩) ⟨HK.out.row.cell 0, HK.out.row.cell 1, HE3.out _ HK.out.below⟩ ?_
  · intro W9 hS9
    obtain ⟨q0, q1, q2⟩ := hS9
    go_simp
  try simp only [Act.put, List.setIfInBounds_toArray, List.set_cons_zero, List.set_cons_succ]
  refine wpAnyN_take (i := 13) (oi := { dst := some 33, op := Go.Op.load 27 (Go.Operand.tmp 32), type := 27, pos := "reader.go:32", after := #[{ on := 12, ground := Go.Ground.data }], guard := none }) (v := .int .i64 260) rfl (by decide) (by kernel_rfl) (by kernel_rfl) (by kernel_rfl) (fun _ _ _ h => h) (Or.inl ⟨by rfl, ?_⟩) ⟨HK.out.row.cell 0, HK.out.row.cell 1, HE3.out _ HK.out.below⟩ ?_
  · intro W9 hS9
    obtain ⟨q0, q1, q2⟩ := hS9
    go_simp
  try simp only [Act.put, List.setIfInBounds_toArray, List.set_cons_zero, List.set_cons_succ]
  refine wpAnyX_one (i := 8) (o := { dst := some 28, op := Go.Op.call { callee := Go.Callee.value (Go.Operand.func 41), args := #[Go.Operand.const (Go.Value.int Go.IntKind.u64 14)], argTypes := #[34] }, type := 83, pos := "reader.go:32", after := #[], guard := none }) (by kernel_rfl) rfl (fun K hK => ?_)
  have HN := Try.upTo_any 14 W3
  refine step_call_g (by rfl) 41 _ _ rfl (fun _ _ => by kernel_rfl) #[.int .u64 14] (by simp [go_sem]) _ HN ?_
  rintro e W4 ⟨v, rfl, hm, hC⟩
  have HM := Lib.hid hm
  have HK := Lib.hid (show RdK w₀ Wa _ Br B off n c _ from ⟨HK.out.row.below hC HK.out.row.lt, HK.out.far, HK.out.below.trans (hC.mono HK.out.below.size), HK.out.but.trans (But.of_below (hC.mono HK.out.but.size))⟩)
  clear hC HN hm
  refine ⟨_, rfl, ?_⟩
  refine hK.out _ _ (fun _ => ⟨HK.out.row.cell 0, HK.out.row.cell 1, HE3.out _ HK.out.below⟩) ?_
  clear hK K
  try simp only [Act.put, List.setIfInBounds_toArray, List.set_cons_zero, List.set_cons_succ]
  refine wpAnyX_one (i := 14) (o := { dst := some 34, op := Go.Op.call { callee := Go.Callee.value (Go.Operand.func 75), args := #[Go.Operand.tmp 27, Go.Operand.tmp 28, Go.Operand.tmp 33], argTypes := #[34, 83, 27] }, type := 3, pos := "reader.go:32", after := #[{ on := 7, ground := Go.Ground.data }, { on := 8, ground := Go.Ground.data }, { on := 13, ground := Go.Ground.data }, { on := 8, ground := Go.Ground.chain }], guard := none }) (by kernel_rfl) rfl (fun K hK => ?_)
  have HN := Try.numIU_any (y : Nat) 260 v _ W4 HM.out
  refine step_callP_g (by rfl) 75 _ _ rfl (fun _ _ => by kernel_rfl) #[.int .u64 (y : Nat), v, .int .i64 260] (by simp [go_sem]) _ HN ?_
  clear HN
  rintro e w9 ⟨hw9, hq9⟩
  subst w9
  rcases hq9 with ⟨h, rfl⟩ | ⟨h, rfl⟩
  rotate_left
  · refine .inr ⟨_, rfl, ?_⟩
    rw [up14] at h
    exact ⟨by trivial, .inr ⟨by unfold okFi; rw [h, Bool.and_false], rfl, HK.out.below⟩⟩
  rw [up14] at h
  have HY1 := Lib.hid (of_decide_eq_true h)
  have hwm : wrap64 ((y : Nat) : Int) = (y : Int) := IntWalk.wrap64_in _ ⟨by have := HY1.out; omega, by have := HY1.out; omega⟩
  rw [hwm]
  clear h HM hwm
  refine .inl ⟨_, rfl, ?_⟩
  refine hK.out _ _ (fun _ => ⟨HK.out.row.cell 0, HK.out.row.cell 1, HE3.out _ HK.out.below⟩) ?_
  clear hK K
  try simp only [Act.put, List.setIfInBounds_toArray, List.set_cons_zero, List.set_cons_succ]
  refine wpAnyN_take (i := 15) (oi := { dst := some 35, op := Go.Op.nilCheck (Go.Operand.tmp 20), type := 0, pos := "reader.go:32", after := #[{ on := 0, ground := Go.Ground.data }, { on := 0, ground := Go.Ground.phase }, { on := 1, ground := Go.Ground.phase }, { on := 2, ground := Go.Ground.phase }, { on := 3, ground := Go.Ground.phase }, { on := 4, ground := Go.Ground.phase }, { on := 5, ground := Go.Ground.phase }, { on := 6, ground := Go.Ground.phase }, { on := 7, ground := Go.Ground.phase }, { on := 8, ground := Go.Ground.phase }, { on := 9, ground := Go.Ground.phase }, { on := 10, ground := Go.Ground.phase }, { on := 11, ground := Go.Ground.phase }, { on := 12, ground := Go.Ground.phase }, { on := 13, ground := Go.Ground.phase }, { on := 14, ground := Go.Ground.phase }], guard := none }) (v := .pointer (some ⟨Br, 0, none⟩)) rfl (by decide) (by kernel_rfl) (by kernel_rfl) (by kernel_rfl) (fun _ _ _ h => h) (Or.inl ⟨by rfl, ?_⟩) ⟨HK.out.row.cell 0, HK.out.row.cell 1, HE3.out _ HK.out.below⟩ ?_
  · intro W9 hS9
    obtain ⟨q0, q1, q2⟩ := hS9
    go_simp
  try simp only [Act.put, List.setIfInBounds_toArray, List.set_cons_zero, List.set_cons_succ]
  refine wpAnyN_take (i := 16) (oi := { dst := some 36, op := Go.Op.fieldAddr 115 (Go.Operand.tmp 35) 1, type := 0, pos := "reader.go:32", after := #[{ on := 15, ground := Go.Ground.data }, { on := 0, ground := Go.Ground.phase }, { on := 1, ground := Go.Ground.phase }, { on := 2, ground := Go.Ground.phase }, { on := 3, ground := Go.Ground.phase }, { on := 4, ground := Go.Ground.phase }, { on := 5, ground := Go.Ground.phase }, { on := 6, ground := Go.Ground.phase }, { on := 7, ground := Go.Ground.phase }, { on := 8, ground := Go.Ground.phase }, { on := 9, ground := Go.Ground.phase }, { on := 10, ground := Go.Ground.phase }, { on := 11, ground := Go.Ground.phase }, { on := 12, ground := Go.Ground.phase }, { on := 13, ground := Go.Ground.phase }, { on := 14, ground := Go.Ground.phase }], guard := none }) (v := .pointer (some ⟨Br, 2, none⟩)) rfl (by decide) (by kernel_rfl) (by kernel_rfl) (by kernel_rfl) (fun _ _ _ h => h) (Or.inl ⟨by rfl, ?_⟩) ⟨HK.out.row.cell 0, HK.out.row.cell 1, HE3.out _ HK.out.below⟩ ?_
  · intro W9 hS9
    obtain ⟨q0, q1, q2⟩ := hS9
    go_simp
  try simp only [Act.put, List.setIfInBounds_toArray, List.set_cons_zero, List.set_cons_succ]
  refine wpAnyN_take (i := 17) (oi := { dst := some 37, op := Go.Op.fieldAddr 49 (Go.Operand.tmp 36) 4, type := 0, pos := "reader.go:32", after := #[{ on := 16, ground := Go.Ground.data }, { on := 0, ground := Go.Ground.phase }, { on := 1, ground := Go.Ground.phase }, { on := 2, ground := Go.Ground.phase }, { on := 3, ground := Go.Ground.phase }, { on := 4, ground := Go.Ground.phase }, { on := 5, ground := Go.Ground.phase }, { on := 6, ground := Go.Ground.phase }, { on := 7, ground := Go.Ground.phase }, { on := 8, ground := Go.Ground.phase }, { on := 9, ground := Go.Ground.phase }, { on := 10, ground := Go.Ground.phase }, { on := 11, ground := Go.Ground.phase }, { on := 12, ground := Go.Ground.phase }, { on := 13, ground := Go.Ground.phase }, { on := 14, ground := Go.Ground.phase }], guard := none }) (v := .pointer (some ⟨Br, 6, none⟩)) rfl (by decide) (by kernel_rfl) (by kernel_rfl) (by kernel_rfl) (fun _ _ _ h => h) (Or.inl ⟨by rfl, ?_⟩) ⟨HK.out.row.cell 0, HK.out.row.cell 1, HE3.out _ HK.out.below⟩ ?_
  · intro W9 hS9
    obtain ⟨q0, q1, q2⟩ := hS9
    go_simp
  try simp only [Act.put, List.setIfInBounds_toArray, List.set_cons_zero, List.set_cons_succ]
  have z0 : W4.cell? ⟨Br, 6, none⟩ = some (.int .i64 t.live) := HK.out.row.cell 6
  have f0 := HK.out.row.frozen 6
  have l0 := HK.out.row.lt
  have h9 := HK.out.row.set 6 (.int .i64 (y : Nat))
  rw [rd_set6] at h9
  have HK2 := Lib.hid (show RdK w₀ Wa (W4.setCell ⟨Br, 6, none⟩ (.int .i64 (y : Nat))) Br B off n c { t with can := ((x : Nat) : Int), live := ((y : Nat) : Int) } from ⟨h9, HK.out.far, HK.out.below.setCell (p := ⟨Br, 6, none⟩) HK.out.far _, HK.out.but.setCell _ _⟩)
  clear h9
  refine wpAnyX_one (i := 18) (o := { dst := none, op := Go.Op.store 3 (Go.Operand.tmp 37) (Go.Operand.tmp 34), type := 0, pos := "reader.go:32", after := #[{ on := 17, ground := Go.Ground.data }, { on := 14, ground := Go.Ground.data }, { on := 14, ground := Go.Ground.chain }, { on := 0, ground := Go.Ground.phase }, { on := 1, ground := Go.Ground.phase }, { on := 2, ground := Go.Ground.phase }, { on := 3, ground := Go.Ground.phase }, { on := 4, ground := Go.Ground.phase }, { on := 5, ground := Go.Ground.phase }, { on := 6, ground := Go.Ground.phase }, { on := 7, ground := Go.Ground.phase }, { on := 8, ground := Go.Ground.phase }, { on := 9, ground := Go.Ground.phase }, { on := 10, ground := Go.Ground.phase }, { on := 11, ground := Go.Ground.phase }, { on := 12, ground := Go.Ground.phase }, { on := 13, ground := Go.Ground.phase }, { on := 14, ground := Go.Ground.phase }], guard := none }) (by kernel_rfl) rfl (fun K hK => ?_)
  refine step_skip_g (by rfl) (w' := W4.setCell ⟨Br, 6, none⟩ (.int .i64 (y : Nat))) (by go_simp) ?_
  clear z0 f0 l0 HK
  refine hK.out _ _ (fun _ => ⟨HK2.out.row.cell 0, HK2.out.row.cell 1, HE3.out _ HK2.out.below⟩) ?_
  clear hK K
  try simp only [Act.put]
  refine wpAnyX_end (by kernel_rfl) ?_
  have HK := HK2
  clear HK2
  generalize W4.setCell ⟨Br, 6, none⟩ (.int .i64 ((y : Nat) : Int)) = W19 at *
  go_wp2_with fail
  go_end0
  exact .inl ⟨by unfold okFi; rw [decide_eq_true HY0.out, decide_eq_true HY1.out]; rfl, rfl, HK.out⟩
set_option maxHeartbeats 4000000 in
theorem Try.slots_any (w₀ Wa W : World) (Br B off n c : Nat) (t : Tb) (ws : List Int) (hw : WordsAt w₀ (.slice (some ⟨B, off, none⟩) n c) ws) (hn : n = 40) (hr : RdK w₀ Wa W Br B off n c t) (hc : n ≤ c ∧ c ≤ maxLen) (htl : t.ws.length = 34) : Calls Try.prog 84 #[.pointer (some ⟨Br, 0, none⟩)] W fun e w' =>
    e = .returned (.tuple #[]) ∧ RdK w₀ Wa w' Br B off n c (t.w (splice (splice (splice t.ws 0 ((ws.drop 4).take 2)) 2 ((ws.drop 6).take 16)) 18 ((ws.drop 22).take 16))) := by
  have HK := Lib.hid hr
  have HW := Lib.hid hw
  have HTL0 := Lib.hid htl
  have HNC : Hid (n = 40 ∧ n ≤ c ∧ c ≤ maxLen) := Lib.hid ⟨hn, hc⟩
  have HWL : Hid (ws.length = 40) := Lib.hid (by rw [← (words_len hw).1]; exact hn)
  clear hr hw htl hn hc
  go_enter Try.func84, Try.ntmps84
  go_upto_region 0 with fail
  refine wp_region_X (fun W' => W'.cell? ⟨Br, 0, none⟩ = some (.slice (some ⟨B, off, none⟩) n c) ∧ W'.cell? ⟨Br, 1, none⟩ = some (.int .i64 260)) 11 (by kernel_rfl) ?_
  have HK := Lib.hid (show RdK w₀ Wa W.drew Br B off n c _ from ⟨HK.out.row, HK.out.far, HK.out.below.drew, HK.out.but.drew⟩)
  generalize W.drew = W1 at *
  refine wpAnyN_take (i := 0) (oi := { dst := some 2, op := Go.Op.move (Go.Operand.tmp 0), type := 97, pos := "reader.go:36", after := #[], guard := none }) (v := .pointer (some ⟨Br, 0, none⟩)) rfl (by decide) (by kernel_rfl) (by kernel_rfl) (by kernel_rfl) (fun _ _ _ h => h) (Or.inl ⟨by rfl, ?_⟩) ⟨HK.out.row.cell 0, HK.out.row.cell 1⟩ ?_
  · intro W9 hS9
    obtain ⟨q0, q1⟩ := hS9
    go_simp
  try simp only [Act.put, List.setIfInBounds_toArray, List.set_cons_zero, List.set_cons_succ]
  refine wpAnyN_take (i := 1) (oi := { dst := some 3, op := Go.Op.nilCheck (Go.Operand.tmp 2), type := 0, pos := "reader.go:36", after := #[{ on := 0, ground := Go.Ground.data }], guard := none }) (v := .pointer (some ⟨Br, 0, none⟩)) rfl (by decide) (by kernel_rfl) (by kernel_rfl) (by kernel_rfl) (fun _ _ _ h => h) (Or.inl ⟨by rfl, ?_⟩) ⟨HK.out.row.cell 0, HK.out.row.cell 1⟩ ?_
  · intro W9 hS9
    obtain ⟨q0, q1⟩ := hS9
    go_simp
  try simp only [Act.put, List.setIfInBounds_toArray, List.set_cons_zero, List.set_cons_succ]
  refine wpAnyN_take (i := 2) (oi := { dst := some 4, op := Go.Op.fieldAddr 115 (Go.Operand.tmp 3) 1, type := 0, pos := "reader.go:36", after := #[{ on := 1, ground := Go.Ground.data }], guard := none }) (v := .pointer (some ⟨Br, 2, none⟩)) rfl (by decide) (by kernel_rfl) (by kernel_rfl) (by kernel_rfl) (fun _ _ _ h => h) (Or.inl ⟨by rfl, ?_⟩) ⟨HK.out.row.cell 0, HK.out.row.cell 1⟩ ?_
  · intro W9 hS9
    obtain ⟨q0, q1⟩ := hS9
    go_simp
  try simp only [Act.put, List.setIfInBounds_toArray, List.set_cons_zero, List.set_cons_succ]
  refine wpAnyN_take (i := 3) (oi := { dst := some 5, op := Go.Op.fieldAddr 49 (Go.Operand.tmp 4) 5, type := 0, pos := "reader.go:36", after := #[{ on := 2, ground := Go.Ground.data }], guard := none }) (v := .pointer (some ⟨Br, 7, none⟩)) rfl (by decide) (by kernel_rfl) (by kernel_rfl) (by kernel_rfl) (fun _ _ _ h => h) (Or.inl ⟨by rfl, ?_⟩) ⟨HK.out.row.cell 0, HK.out.row.cell 1⟩ ?_
  · intro W9 hS9
    obtain ⟨q0, q1⟩ := hS9
    go_simp
  try simp only [Act.put, List.setIfInBounds_toArray, List.set_cons_zero, List.set_cons_succ]
  refine wpAnyN_take (i := 4) (oi := { dst := some 6, op := Go.Op.slice 46 (Go.Operand.tmp 5) none none none, type := 24, pos := "reader.go:36", after := #[{ on := 3, ground := Go.Ground.data }], guard := none }) (v := .slice (some ⟨Br, 7, none⟩) 2 2) rfl (by decide) (by kernel_rfl) (by kernel_rfl) (by kernel_rfl) (fun _ _ _ h => h) (Or.inl ⟨by rfl, ?_⟩) ⟨HK.out.row.cell 0, HK.out.row.cell 1⟩ ?_
  · intro W9 hS9
    obtain ⟨q0, q1⟩ := hS9
    clear q0 q1
    go_simp
  try simp only [Act.put, List.setIfInBounds_toArray, List.set_cons_zero, List.set_cons_succ]
  refine wpAnyN_take (i := 5) (oi := { dst := some 7, op := Go.Op.move (Go.Operand.tmp 0), type := 97, pos := "reader.go:36", after := #[], guard := none }) (v := .pointer (some ⟨Br, 0, none⟩)) rfl (by decide) (by kernel_rfl) (by kernel_rfl) (by kernel_rfl) (fun _ _ _ h => h) (Or.inl ⟨by rfl, ?_⟩) ⟨HK.out.row.cell 0, HK.out.row.cell 1⟩ ?_
  · intro W9 hS9
    obtain ⟨q0, q1⟩ := hS9
    go_simp
  try simp only [Act.put, List.setIfInBounds_toArray, List.set_cons_zero, List.set_cons_succ]
  refine wpAnyN_take (i := 6) (oi := { dst := some 8, op := Go.Op.nilCheck (Go.Operand.tmp 7), type := 0, pos := "reader.go:36", after := #[{ on := 5, ground := Go.Ground.data }], guard := none }) (v := .pointer (some ⟨Br, 0, none⟩)) rfl (by decide) (by kernel_rfl) (by kernel_rfl) (by kernel_rfl) (fun _ _ _ h => h) (Or.inl ⟨by rfl, ?_⟩) ⟨HK.out.row.cell 0, HK.out.row.cell 1⟩ ?_
  · intro W9 hS9
    obtain ⟨q0, q1⟩ := hS9
    go_simp
  try simp only [Act.put, List.setIfInBounds_toArray, List.set_cons_zero, List.set_cons_succ]
  refine wpAnyN_take (i := 7) (oi := { dst := some 9, op := Go.Op.fieldAddr 115 (Go.Operand.tmp 8) 0, type := 0, pos := "reader.go:36", after := #[{ on := 6, ground := Go.Ground.data }], guard := none }) (v := .pointer (some ⟨Br, 0, none⟩)) rfl (by decide) (by kernel_rfl) (by kernel_rfl) (by kernel_rfl) (fun _ _ _ h => h) (Or.inl ⟨by rfl, ?_⟩) ⟨HK.out.row.cell 0, HK.out.row.cell 1⟩ ?_
  · intro W9 hS9
    obtain ⟨q0, q1⟩ := hS9
    go_simp
  try simp only [Act.put, List.setIfInBounds_toArray, List.set_cons_zero, List.set_cons_succ]
  refine wpAnyN_take (i := 8) (oi := { dst := some 10, op := Go.Op.load 110 (Go.Operand.tmp 9), type := 110, pos := "reader.go:36", after := #[{ on := 7, ground := Go.Ground.data }], guard := none }) (v := .agg #[.slice (some ⟨B, off, none⟩) n c, .int .i64 260]) rfl (by decide) (by kernel_rfl) (by kernel_rfl) (by kernel_rfl) (fun _ _ _ h => h) (Or.inl ⟨by rfl, ?_⟩) ⟨HK.out.row.cell 0, HK.out.row.cell 1⟩ ?_
  · intro W9 hS9
    obtain ⟨q0, q1⟩ := hS9
    have s0 : W9.cell? ⟨Br, 0, none⟩ = some (.slice (some ⟨B, off, none⟩) n c) := q0
    have s1 : W9.cell? ⟨Br, 1, none⟩ = some (.int .i64 260) := q1
    clear q0 q1
    go_simp
  try simp only [Act.put, List.setIfInBounds_toArray, List.set_cons_zero, List.set_cons_succ]
  refine wpAnyX_one (i := 9) (o := { dst := some 11, op := Go.Op.call { callee := Go.Callee.value (Go.Operand.func 88), args := #[Go.Operand.tmp 10, Go.Operand.const (Go.Value.int Go.IntKind.i64 4), Go.Operand.const (Go.Value.int Go.IntKind.i64 2)], argTypes := #[110, 3, 3] }, type := 24, pos := "reader.go:36", after := #[{ on := 8, ground := Go.Ground.data }], guard := none }) (by kernel_rfl) rfl (fun K hK => ?_)
  have HN := Try.cut_any B off n c 4 2 260 (by have := HNC.out.1; omega) HNC.out.2.1 HNC.out.2.2 (by decide) W1
  refine step_call_g (by rfl) 88 _ _ rfl (fun _ _ => by kernel_rfl) #[.agg #[.slice (some ⟨B, off, none⟩) n c, .int .i64 260], .int .i64 4, .int .i64 2] (by simp [go_sem]) _ HN ?_
  rintro e W2 ⟨rfl, hC⟩
  have HK := Lib.hid (show RdK w₀ Wa _ Br B off n c _ from ⟨HK.out.row.below hC HK.out.row.lt, HK.out.far, HK.out.below.trans (hC.mono HK.out.below.size), HK.out.but.trans (But.of_below (hC.mono HK.out.but.size))⟩)
  clear hC HN
  refine ⟨_, rfl, ?_⟩
  refine hK.out _ _ (fun _ => ⟨HK.out.row.cell 0, HK.out.row.cell 1⟩) ?_
  clear hK K
  try simp only [Act.put, List.setIfInBounds_toArray, List.set_cons_zero, List.set_cons_succ]
  have hvs : ((ws.drop 4).take 2).length = 2 := by
    have := HWL.out
    simp
    omega
  have hsr := words_part (RowAt.below HW.out HK.out.below) 4 2 (by have := HNC.out.1; omega)
  have hs2 : RowAt W2 (.slice (some ⟨B, off + 4, none⟩) 2 2) 2 1 (wordVals ((ws.drop 4).take 2)) := by
    unfold WordsAt at hsr
    rw [hvs] at hsr
    exact hsr
  have hi : (Try.prog.info? 34).map (·.size) = some 1 := by kernel_rfl
  have hsz : (rd B off n c t).size = 41 := by simp [rd, rdL, tcL, wordVals, HTL0.out]
  have hrun := fun ty => run_copy_rowK (P := Try.prog) W2 24 24 ty 34 Br 7 2 2 ⟨B, off + 4, none⟩ 2 2 (rd B off n c t) 115 (wordVals ((ws.drop 4).take 2)) 1 Try.underlying24 hi HK.out.row (by rw [wordVals_length, hvs]; rfl) (row_src hs2) (by rw [wordVals_length, hvs, hsz]; decide) (wordVals_one _)
  have hsp := rd_splice B off n c t 0 ((ws.drop 4).take 2)
  have e9 : (rd B off n c (t)).toList = rdL B off n c (t) := rfl
  rw [e9] at hrun
  rw [show 7 + 0 = 7 from rfl] at hsp
  rw [hsp] at hrun
  have hrw := setRow_heap W2 Br (rd B off n c t) ((rdL B off n c ((t).w (splice (t).ws 0 ((ws.drop 4).take 2)))).toArray) 115 (0, 0) HK.out.row
  obtain ⟨W3, hWe⟩ : ∃ W, W = W2.setRow Br ((rdL B off n c ((t).w (splice (t).ws 0 ((ws.drop 4).take 2)))).toArray) := ⟨_, rfl⟩
  rw [← hWe] at hrun hrw
  have HK2 := Lib.hid (show RdK w₀ Wa W3 Br B off n c (t.w (splice t.ws 0 ((ws.drop 4).take 2))) from ⟨hrw, HK.out.far, by rw [hWe]; exact below_setRow HK.out.below HK.out.far _, by rw [hWe]; exact HK.out.but.setRow _⟩)
  have HTL1 : Hid (((t.w (splice t.ws 0 ((ws.drop 4).take 2)))).ws.length = 34) := Lib.hid ((length_splice (t).ws 0 ((ws.drop 4).take 2) (by rw [hvs, HTL0.out]; decide)).trans HTL0.out)
  clear hvs hsr hs2 hi hsz hsp e9 hrw hWe
  refine wpAnyX_one (i := 10) (o := { dst := some 12, op := Go.Op.call { callee := Go.Callee.builtin Go.Builtin.copy, args := #[Go.Operand.tmp 6, Go.Operand.tmp 11], argTypes := #[24, 24] }, type := 3, pos := "reader.go:36", after := #[{ on := 4, ground := Go.Ground.data }, { on := 9, ground := Go.Ground.data }, { on := 9, ground := Go.Ground.chain }], guard := none }) (by kernel_rfl) rfl (fun K hK => ?_)
  refine step_value_g (by rfl) (goInt (Nat.min 2 2)) (w' := W3) (by
    unfold execOp
    simp [go_sem, resolve, invoke, builtin, hrun]) ?_
  clear hrun HK
  refine hK.out _ _ (fun _ => ⟨HK2.out.row.cell 0, HK2.out.row.cell 1⟩) ?_
  clear hK K
  try simp only [Act.put, List.setIfInBounds_toArray, List.set_cons_zero, List.set_cons_succ]
  refine wpAnyX_end (by kernel_rfl) ?_
  have HK := HK2
  clear HK2
  go_upto_region 1 with fail
  refine wp_region_X (fun W' => W'.cell? ⟨Br, 0, none⟩ = some (.slice (some ⟨B, off, none⟩) n c) ∧ W'.cell? ⟨Br, 1, none⟩ = some (.int .i64 260)) 11 (by kernel_rfl) ?_
  have HK := Lib.hid (show RdK w₀ Wa W3.drew Br B off n c _ from ⟨HK.out.row, HK.out.far, HK.out.below.drew, HK.out.but.drew⟩)
  generalize W3.drew = W4 at *
  refine wpAnyN_take (i := 0) (oi := { dst := some 13, op := Go.Op.move (Go.Operand.tmp 0), type := 97, pos := "reader.go:37", after := #[], guard := none }) (v := .pointer (some ⟨Br, 0, none⟩)) rfl (by decide) (by kernel_rfl) (by kernel_rfl) (by kernel_rfl) (fun _ _ _ h => h) (Or.inl ⟨by rfl, ?_⟩) ⟨HK.out.row.cell 0, HK.out.row.cell 1⟩ ?_
  · intro W9 hS9
    obtain ⟨q0, q1⟩ := hS9
    go_simp
  try simp only [Act.put, List.setIfInBounds_toArray, List.set_cons_zero, List.set_cons_succ]
  refine wpAnyN_take (i := 1) (oi := { dst := some 14, op := Go.Op.nilCheck (Go.Operand.tmp 13), type := 0, pos := "reader.go:37", after := #[{ on := 0, ground := Go.Ground.data }], guard := none }) (v := .pointer (some ⟨Br, 0, none⟩)) rfl (by decide) (by kernel_rfl) (by kernel_rfl) (by kernel_rfl) (fun _ _ _ h => h) (Or.inl ⟨by rfl, ?_⟩) ⟨HK.out.row.cell 0, HK.out.row.cell 1⟩ ?_
  · intro W9 hS9
    obtain ⟨q0, q1⟩ := hS9
    go_simp
  try simp only [Act.put, List.setIfInBounds_toArray, List.set_cons_zero, List.set_cons_succ]
  refine wpAnyN_take (i := 2) (oi := { dst := some 15, op := Go.Op.fieldAddr 115 (Go.Operand.tmp 14) 1, type := 0, pos := "reader.go:37", after := #[{ on := 1, ground := Go.Ground.data }], guard := none }) (v := .pointer (some ⟨Br, 2, none⟩)) rfl (by decide) (by kernel_rfl) (by kernel_rfl) (by kernel_rfl) (fun _ _ _ h => h) (Or.inl ⟨by rfl, ?_⟩) ⟨HK.out.row.cell 0, HK.out.row.cell 1⟩ ?_
  · intro W9 hS9
    obtain ⟨q0, q1⟩ := hS9
    go_simp
  try simp only [Act.put, List.setIfInBounds_toArray, List.set_cons_zero, List.set_cons_succ]
  refine wpAnyN_take (i := 3) (oi := { dst := some 16, op := Go.Op.fieldAddr 49 (Go.Operand.tmp 15) 6, type := 0, pos := "reader.go:37", after := #[{ on := 2, ground := Go.Ground.data }], guard := none }) (v := .pointer (some ⟨Br, 9, none⟩)) rfl (by decide) (by kernel_rfl) (by kernel_rfl) (by kernel_rfl) (fun _ _ _ h => h) (Or.inl ⟨by rfl, ?_⟩) ⟨HK.out.row.cell 0, HK.out.row.cell 1⟩ ?_
  · intro W9 hS9
    obtain ⟨q0, q1⟩ := hS9
    go_simp
  try simp only [Act.put, List.setIfInBounds_toArray, List.set_cons_zero, List.set_cons_succ]
  refine wpAnyN_take (i := 4) (oi := { dst := some 17, op := Go.Op.slice 47 (Go.Operand.tmp 16) none none none, type := 24, pos := "reader.go:37", after := #[{ on := 3, ground := Go.Ground.data }], guard := none }) (v := .slice (some ⟨Br, 9, none⟩) 16 16) rfl (by decide) (by kernel_rfl) (by kernel_rfl) (by kernel_rfl) (fun _ _ _ h => h) (Or.inl ⟨by rfl, ?_⟩) ⟨HK.out.row.cell 0, HK.out.row.cell 1⟩ ?_
  · intro W9 hS9
    obtain ⟨q0, q1⟩ := hS9
    clear q0 q1
    go_simp
  try simp only [Act.put, List.setIfInBounds_toArray, List.set_cons_zero, List.set_cons_succ]
  refine wpAnyN_take (i := 5) (oi := { dst := some 18, op := Go.Op.move (Go.Operand.tmp 0), type := 97, pos := "reader.go:37", after := #[], guard := none }) (v := .pointer (some ⟨Br, 0, none⟩)) rfl (by decide) (by kernel_rfl) (by kernel_rfl) (by kernel_rfl) (fun _ _ _ h => h) (Or.inl ⟨by rfl, ?_⟩) ⟨HK.out.row.cell 0, HK.out.row.cell 1⟩ ?_
  · intro W9 hS9
    obtain ⟨q0, q1⟩ := hS9
    go_simp
  try simp only [Act.put, List.setIfInBounds_toArray, List.set_cons_zero, List.set_cons_succ]
  refine wpAnyN_take (i := 6) (oi := { dst := some 19, op := Go.Op.nilCheck (Go.Operand.tmp 18), type := 0, pos := "reader.go:37", after := #[{ on := 5, ground := Go.Ground.data }], guard := none }) (v := .pointer (some ⟨Br, 0, none⟩)) rfl (by decide) (by kernel_rfl) (by kernel_rfl) (by kernel_rfl) (fun _ _ _ h => h) (Or.inl ⟨by rfl, ?_⟩) ⟨HK.out.row.cell 0, HK.out.row.cell 1⟩ ?_
  · intro W9 hS9
    obtain ⟨q0, q1⟩ := hS9
    go_simp
  try simp only [Act.put, List.setIfInBounds_toArray, List.set_cons_zero, List.set_cons_succ]
  refine wpAnyN_take (i := 7) (oi := { dst := some 20, op := Go.Op.fieldAddr 115 (Go.Operand.tmp 19) 0, type := 0, pos := "reader.go:37", after := #[{ on := 6, ground := Go.Ground.data }], guard := none }) (v := .pointer (some ⟨Br, 0, none⟩)) rfl (by decide) (by kernel_rfl) (by kernel_rfl) (by kernel_rfl) (fun _ _ _ h => h) (Or.inl ⟨by rfl, ?_⟩) ⟨HK.out.row.cell 0, HK.out.row.cell 1⟩ ?_
  · intro W9 hS9
    obtain ⟨q0, q1⟩ := hS9
    go_simp
  try simp only [Act.put, List.setIfInBounds_toArray, List.set_cons_zero, List.set_cons_succ]
  refine wpAnyN_take (i := 8) (oi := { dst := some 21, op := Go.Op.load 110 (Go.Operand.tmp 20), type := 110, pos := "reader.go:37", after := #[{ on := 7, ground := Go.Ground.data }], guard := none }) (v := .agg #[.slice (some ⟨B, off, none⟩) n c, .int .i64 260]) rfl (by decide) (by kernel_rfl) (by kernel_rfl) (by kernel_rfl) (fun _ _ _ h => h) (Or.inl ⟨by rfl, ?_⟩) ⟨HK.out.row.cell 0, HK.out.row.cell 1⟩ ?_
  · intro W9 hS9
    obtain ⟨q0, q1⟩ := hS9
    have s0 : W9.cell? ⟨Br, 0, none⟩ = some (.slice (some ⟨B, off, none⟩) n c) := q0
    have s1 : W9.cell? ⟨Br, 1, none⟩ = some (.int .i64 260) := q1
    clear q0 q1
    go_simp
  try simp only [Act.put, List.setIfInBounds_toArray, List.set_cons_zero, List.set_cons_succ]
  refine wpAnyX_one (i := 9) (o := { dst := some 22, op := Go.Op.call { callee := Go.Callee.value (Go.Operand.func 88), args := #[Go.Operand.tmp 21, Go.Operand.const (Go.Value.int Go.IntKind.i64 6), Go.Operand.const (Go.Value.int Go.IntKind.i64 16)], argTypes := #[110, 3, 3] }, type := 24, pos := "reader.go:37", after := #[{ on := 8, ground := Go.Ground.data }], guard := none }) (by kernel_rfl) rfl (fun K hK => ?_)
  have HN := Try.cut_any B off n c 6 16 260 (by have := HNC.out.1; omega) HNC.out.2.1 HNC.out.2.2 (by decide) W4
  refine step_call_g (by rfl) 88 _ _ rfl (fun _ _ => by kernel_rfl) #[.agg #[.slice (some ⟨B, off, none⟩) n c, .int .i64 260], .int .i64 6, .int .i64 16] (by simp [go_sem]) _ HN ?_
  rintro e W5 ⟨rfl, hC⟩
  have HK := Lib.hid (show RdK w₀ Wa _ Br B off n c _ from ⟨HK.out.row.below hC HK.out.row.lt, HK.out.far, HK.out.below.trans (hC.mono HK.out.below.size), HK.out.but.trans (But.of_below (hC.mono HK.out.but.size))⟩)
  clear hC HN
  refine ⟨_, rfl, ?_⟩
  refine hK.out _ _ (fun _ => ⟨HK.out.row.cell 0, HK.out.row.cell 1⟩) ?_
  clear hK K
  try simp only [Act.put, List.setIfInBounds_toArray, List.set_cons_zero, List.set_cons_succ]
  have hvs : ((ws.drop 6).take 16).length = 16 := by
    have := HWL.out
    simp
    omega
  have hsr := words_part (RowAt.below HW.out HK.out.below) 6 16 (by have := HNC.out.1; omega)
  have hs2 : RowAt W5 (.slice (some ⟨B, off + 6, none⟩) 16 16) 16 1 (wordVals ((ws.drop 6).take 16)) := by
    unfold WordsAt at hsr
    rw [hvs] at hsr
    exact hsr
  have hi : (Try.prog.info? 34).map (·.size) = some 1 := by kernel_rfl
  have hsz : (rd B off n c (t.w (splice t.ws 0 ((ws.drop 4).take 2)))).size = 41 := by simp [rd, rdL, tcL, wordVals, HTL1.out]
  have hrun := fun ty => run_copy_rowK (P := Try.prog) W5 24 24 ty 34 Br 9 16 16 ⟨B, off + 6, none⟩ 16 16 (rd B off n c (t.w (splice t.ws 0 ((ws.drop 4).take 2)))) 115 (wordVals ((ws.drop 6).take 16)) 1 Try.underlying24 hi HK.out.row (by rw [wordVals_length, hvs]; rfl) (row_src hs2) (by rw [wordVals_length, hvs, hsz]; decide) (wordVals_one _)
  have hsp := rd_splice B off n c (t.w (splice t.ws 0 ((ws.drop 4).take 2))) 2 ((ws.drop 6).take 16)
  have e9 : (rd B off n c ((t.w (splice t.ws 0 ((ws.drop 4).take 2))))).toList = rdL B off n c ((t.w (splice t.ws 0 ((ws.drop 4).take 2)))) := rfl
  rw [e9] at hrun
  rw [show 7 + 2 = 9 from rfl] at hsp
  rw [hsp] at hrun
  have hrw := setRow_heap W5 Br (rd B off n c (t.w (splice t.ws 0 ((ws.drop 4).take 2)))) ((rdL B off n c (((t.w (splice t.ws 0 ((ws.drop 4).take 2)))).w (splice ((t.w (splice t.ws 0 ((ws.drop 4).take 2)))).ws 2 ((ws.drop 6).take 16)))).toArray) 115 (0, 0) HK.out.row
  obtain ⟨W6, hWe⟩ : ∃ W, W = W5.setRow Br ((rdL B off n c (((t.w (splice t.ws 0 ((ws.drop 4).take 2)))).w (splice ((t.w (splice t.ws 0 ((ws.drop 4).take 2)))).ws 2 ((ws.drop 6).take 16)))).toArray) := ⟨_, rfl⟩
  rw [← hWe] at hrun hrw
  have HK2 := Lib.hid (show RdK w₀ Wa W6 Br B off n c (t.w (splice (splice t.ws 0 ((ws.drop 4).take 2)) 2 ((ws.drop 6).take 16))) from ⟨hrw, HK.out.far, by rw [hWe]; exact below_setRow HK.out.below HK.out.far _, by rw [hWe]; exact HK.out.but.setRow _⟩)
  have HTL2 : Hid (((t.w (splice (splice t.ws 0 ((ws.drop 4).take 2)) 2 ((ws.drop 6).take 16)))).ws.length = 34) := Lib.hid ((length_splice ((t.w (splice t.ws 0 ((ws.drop 4).take 2)))).ws 2 ((ws.drop 6).take 16) (by rw [hvs, HTL1.out]; decide)).trans HTL1.out)
  clear hvs hsr hs2 hi hsz hsp e9 hrw hWe
  refine wpAnyX_one (i := 10) (o := { dst := some 23, op := Go.Op.call { callee := Go.Callee.builtin Go.Builtin.copy, args := #[Go.Operand.tmp 17, Go.Operand.tmp 22], argTypes := #[24, 24] }, type := 3, pos := "reader.go:37", after := #[{ on := 4, ground := Go.Ground.data }, { on := 9, ground := Go.Ground.data }, { on := 9, ground := Go.Ground.chain }], guard := none }) (by kernel_rfl) rfl (fun K hK => ?_)
  refine step_value_g (by rfl) (goInt (Nat.min 16 16)) (w' := W6) (by
    unfold execOp
    simp [go_sem, resolve, invoke, builtin, hrun]) ?_
  clear hrun HK
  refine hK.out _ _ (fun _ => ⟨HK2.out.row.cell 0, HK2.out.row.cell 1⟩) ?_
  clear hK K
  try simp only [Act.put, List.setIfInBounds_toArray, List.set_cons_zero, List.set_cons_succ]
  refine wpAnyX_end (by kernel_rfl) ?_
  have HK := HK2
  clear HK2
  go_upto_region 2 with fail
  refine wp_region_X (fun W' => W'.cell? ⟨Br, 0, none⟩ = some (.slice (some ⟨B, off, none⟩) n c) ∧ W'.cell? ⟨Br, 1, none⟩ = some (.int .i64 260)) 11 (by kernel_rfl) ?_
  have HK := Lib.hid (show RdK w₀ Wa W6.drew Br B off n c _ from ⟨HK.out.row, HK.out.far, HK.out.below.drew, HK.out.but.drew⟩)
  generalize W6.drew = W7 at *
  refine wpAnyN_take (i := 0) (oi := { dst := some 24, op := Go.Op.move (Go.Operand.tmp 0), type := 97, pos := "reader.go:38", after := #[], guard := none }) (v := .pointer (some ⟨Br, 0, none⟩)) rfl (by decide) (by kernel_rfl) (by kernel_rfl) (by kernel_rfl) (fun _ _ _ h => h) (Or.inl ⟨by rfl, ?_⟩) ⟨HK.out.row.cell 0, HK.out.row.cell 1⟩ ?_
  · intro W9 hS9
    obtain ⟨q0, q1⟩ := hS9
    go_simp
  try simp only [Act.put, List.setIfInBounds_toArray, List.set_cons_zero, List.set_cons_succ]
  refine wpAnyN_take (i := 1) (oi := { dst := some 25, op := Go.Op.nilCheck (Go.Operand.tmp 24), type := 0, pos := "reader.go:38", after := #[{ on := 0, ground := Go.Ground.data }], guard := none }) (v := .pointer (some ⟨Br, 0, none⟩)) rfl (by decide) (by kernel_rfl) (by kernel_rfl) (by kernel_rfl) (fun _ _ _ h => h) (Or.inl ⟨by rfl, ?_⟩) ⟨HK.out.row.cell 0, HK.out.row.cell 1⟩ ?_
  · intro W9 hS9
    obtain ⟨q0, q1⟩ := hS9
    go_simp
  try simp only [Act.put, List.setIfInBounds_toArray, List.set_cons_zero, List.set_cons_succ]
  refine wpAnyN_take (i := 2) (oi := { dst := some 26, op := Go.Op.fieldAddr 115 (Go.Operand.tmp 25) 1, type := 0, pos := "reader.go:38", after := #[{ on := 1, ground := Go.Ground.data }], guard := none }) (v := .pointer (some ⟨Br, 2, none⟩)) rfl (by decide) (by kernel_rfl) (by kernel_rfl) (by kernel_rfl) (fun _ _ _ h => h) (Or.inl ⟨by rfl, ?_⟩) ⟨HK.out.row.cell 0, HK.out.row.cell 1⟩ ?_
  · intro W9 hS9
    obtain ⟨q0, q1⟩ := hS9
    go_simp
  try simp only [Act.put, List.setIfInBounds_toArray, List.set_cons_zero, List.set_cons_succ]
  refine wpAnyN_take (i := 3) (oi := { dst := some 27, op := Go.Op.fieldAddr 49 (Go.Operand.tmp 26) 7, type := 0, pos := "reader.go:38", after := #[{ on := 2, ground := Go.Ground.data }], guard := none }) (v := .pointer (some ⟨Br, 25, none⟩)) rfl (by decide) (by kernel_rfl) (by kernel_rfl) (by kernel_rfl) (fun _ _ _ h => h) (Or.inl ⟨by rfl, ?_⟩) ⟨HK.out.row.cell 0, HK.out.row.cell 1⟩ ?_
  · intro W9 hS9
    obtain ⟨q0, q1⟩ := hS9
    go_simp
  try simp only [Act.put, List.setIfInBounds_toArray, List.set_cons_zero, List.set_cons_succ]
  refine wpAnyN_take (i := 4) (oi := { dst := some 28, op := Go.Op.slice 47 (Go.Operand.tmp 27) none none none, type := 24, pos := "reader.go:38", after := #[{ on := 3, ground := Go.Ground.data }], guard := none }) (v := .slice (some ⟨Br, 25, none⟩) 16 16) rfl (by decide) (by kernel_rfl) (by kernel_rfl) (by kernel_rfl) (fun _ _ _ h => h) (Or.inl ⟨by rfl, ?_⟩) ⟨HK.out.row.cell 0, HK.out.row.cell 1⟩ ?_
  · intro W9 hS9
    obtain ⟨q0, q1⟩ := hS9
    clear q0 q1
    go_simp
  try simp only [Act.put, List.setIfInBounds_toArray, List.set_cons_zero, List.set_cons_succ]
  refine wpAnyN_take (i := 5) (oi := { dst := some 29, op := Go.Op.move (Go.Operand.tmp 0), type := 97, pos := "reader.go:38", after := #[], guard := none }) (v := .pointer (some ⟨Br, 0, none⟩)) rfl (by decide) (by kernel_rfl) (by kernel_rfl) (by kernel_rfl) (fun _ _ _ h => h) (Or.inl ⟨by rfl, ?_⟩) ⟨HK.out.row.cell 0, HK.out.row.cell 1⟩ ?_
  · intro W9 hS9
    obtain ⟨q0, q1⟩ := hS9
    go_simp
  try simp only [Act.put, List.setIfInBounds_toArray, List.set_cons_zero, List.set_cons_succ]
  refine wpAnyN_take (i := 6) (oi := { dst := some 30, op := Go.Op.nilCheck (Go.Operand.tmp 29), type := 0, pos := "reader.go:38", after := #[{ on := 5, ground := Go.Ground.data }], guard := none }) (v := .pointer (some ⟨Br, 0, none⟩)) rfl (by decide) (by kernel_rfl) (by kernel_rfl) (by kernel_rfl) (fun _ _ _ h => h) (Or.inl ⟨by rfl, ?_⟩) ⟨HK.out.row.cell 0, HK.out.row.cell 1⟩ ?_
  · intro W9 hS9
    obtain ⟨q0, q1⟩ := hS9
    go_simp
  try simp only [Act.put, List.setIfInBounds_toArray, List.set_cons_zero, List.set_cons_succ]
  refine wpAnyN_take (i := 7) (oi := { dst := some 31, op := Go.Op.fieldAddr 115 (Go.Operand.tmp 30) 0, type := 0, pos := "reader.go:38", after := #[{ on := 6, ground := Go.Ground.data }], guard := none }) (v := .pointer (some ⟨Br, 0, none⟩)) rfl (by decide) (by kernel_rfl) (by kernel_rfl) (by kernel_rfl) (fun _ _ _ h => h) (Or.inl ⟨by rfl, ?_⟩) ⟨HK.out.row.cell 0, HK.out.row.cell 1⟩ ?_
  · intro W9 hS9
    obtain ⟨q0, q1⟩ := hS9
    go_simp
  try simp only [Act.put, List.setIfInBounds_toArray, List.set_cons_zero, List.set_cons_succ]
  refine wpAnyN_take (i := 8) (oi := { dst := some 32, op := Go.Op.load 110 (Go.Operand.tmp 31), type := 110, pos := "reader.go:38", after := #[{ on := 7, ground := Go.Ground.data }], guard := none }) (v := .agg #[.slice (some ⟨B, off, none⟩) n c, .int .i64 260]) rfl (by decide) (by kernel_rfl) (by kernel_rfl) (by kernel_rfl) (fun _ _ _ h => h) (Or.inl ⟨by rfl, ?_⟩) ⟨HK.out.row.cell 0, HK.out.row.cell 1⟩ ?_
  · intro W9 hS9
    obtain ⟨q0, q1⟩ := hS9
    have s0 : W9.cell? ⟨Br, 0, none⟩ = some (.slice (some ⟨B, off, none⟩) n c) := q0
    have s1 : W9.cell? ⟨Br, 1, none⟩ = some (.int .i64 260) := q1
    clear q0 q1
    go_simp
  try simp only [Act.put, List.setIfInBounds_toArray, List.set_cons_zero, List.set_cons_succ]
  refine wpAnyX_one (i := 9) (o := { dst := some 33, op := Go.Op.call { callee := Go.Callee.value (Go.Operand.func 88), args := #[Go.Operand.tmp 32, Go.Operand.const (Go.Value.int Go.IntKind.i64 22), Go.Operand.const (Go.Value.int Go.IntKind.i64 16)], argTypes := #[110, 3, 3] }, type := 24, pos := "reader.go:38", after := #[{ on := 8, ground := Go.Ground.data }], guard := none }) (by kernel_rfl) rfl (fun K hK => ?_)
  have HN := Try.cut_any B off n c 22 16 260 (by have := HNC.out.1; omega) HNC.out.2.1 HNC.out.2.2 (by decide) W7
  refine step_call_g (by rfl) 88 _ _ rfl (fun _ _ => by kernel_rfl) #[.agg #[.slice (some ⟨B, off, none⟩) n c, .int .i64 260], .int .i64 22, .int .i64 16] (by simp [go_sem]) _ HN ?_
  rintro e W8 ⟨rfl, hC⟩
  have HK := Lib.hid (show RdK w₀ Wa _ Br B off n c _ from ⟨HK.out.row.below hC HK.out.row.lt, HK.out.far, HK.out.below.trans (hC.mono HK.out.below.size), HK.out.but.trans (But.of_below (hC.mono HK.out.but.size))⟩)
  clear hC HN
  refine ⟨_, rfl, ?_⟩
  refine hK.out _ _ (fun _ => ⟨HK.out.row.cell 0, HK.out.row.cell 1⟩) ?_
  clear hK K
  try simp only [Act.put, List.setIfInBounds_toArray, List.set_cons_zero, List.set_cons_succ]
  have hvs : ((ws.drop 22).take 16).length = 16 := by
    have := HWL.out
    simp
    omega
  have hsr := words_part (RowAt.below HW.out HK.out.below) 22 16 (by have := HNC.out.1; omega)
  have hs2 : RowAt W8 (.slice (some ⟨B, off + 22, none⟩) 16 16) 16 1 (wordVals ((ws.drop 22).take 16)) := by
    unfold WordsAt at hsr
    rw [hvs] at hsr
    exact hsr
  have hi : (Try.prog.info? 34).map (·.size) = some 1 := by kernel_rfl
  have hsz : (rd B off n c (t.w (splice (splice t.ws 0 ((ws.drop 4).take 2)) 2 ((ws.drop 6).take 16)))).size = 41 := by simp [rd, rdL, tcL, wordVals, HTL2.out]
  have hrun := fun ty => run_copy_rowK (P := Try.prog) W8 24 24 ty 34 Br 25 16 16 ⟨B, off + 22, none⟩ 16 16 (rd B off n c (t.w (splice (splice t.ws 0 ((ws.drop 4).take 2)) 2 ((ws.drop 6).take 16)))) 115 (wordVals ((ws.drop 22).take 16)) 1 Try.underlying24 hi HK.out.row (by rw [wordVals_length, hvs]; rfl) (row_src hs2) (by rw [wordVals_length, hvs, hsz]; decide) (wordVals_one _)
  have hsp := rd_splice B off n c (t.w (splice (splice t.ws 0 ((ws.drop 4).take 2)) 2 ((ws.drop 6).take 16))) 18 ((ws.drop 22).take 16)
  have e9 : (rd B off n c ((t.w (splice (splice t.ws 0 ((ws.drop 4).take 2)) 2 ((ws.drop 6).take 16))))).toList = rdL B off n c ((t.w (splice (splice t.ws 0 ((ws.drop 4).take 2)) 2 ((ws.drop 6).take 16)))) := rfl
  rw [e9] at hrun
  rw [show 7 + 18 = 25 from rfl] at hsp
  rw [hsp] at hrun
  have hrw := setRow_heap W8 Br (rd B off n c (t.w (splice (splice t.ws 0 ((ws.drop 4).take 2)) 2 ((ws.drop 6).take 16)))) ((rdL B off n c (((t.w (splice (splice t.ws 0 ((ws.drop 4).take 2)) 2 ((ws.drop 6).take 16)))).w (splice ((t.w (splice (splice t.ws 0 ((ws.drop 4).take 2)) 2 ((ws.drop 6).take 16)))).ws 18 ((ws.drop 22).take 16)))).toArray) 115 (0, 0) HK.out.row
  obtain ⟨W9_, hWe⟩ : ∃ W, W = W8.setRow Br ((rdL B off n c (((t.w (splice (splice t.ws 0 ((ws.drop 4).take 2)) 2 ((ws.drop 6).take 16)))).w (splice ((t.w (splice (splice t.ws 0 ((ws.drop 4).take 2)) 2 ((ws.drop 6).take 16)))).ws 18 ((ws.drop 22).take 16)))).toArray) := ⟨_, rfl⟩
  rw [← hWe] at hrun hrw
  have HK2 := Lib.hid (show RdK w₀ Wa W9_ Br B off n c (t.w (splice (splice (splice t.ws 0 ((ws.drop 4).take 2)) 2 ((ws.drop 6).take 16)) 18 ((ws.drop 22).take 16))) from ⟨hrw, HK.out.far, by rw [hWe]; exact below_setRow HK.out.below HK.out.far _, by rw [hWe]; exact HK.out.but.setRow _⟩)
  have HTL3 : Hid (((t.w (splice (splice (splice t.ws 0 ((ws.drop 4).take 2)) 2 ((ws.drop 6).take 16)) 18 ((ws.drop 22).take 16)))).ws.length = 34) := Lib.hid ((length_splice ((t.w (splice (splice t.ws 0 ((ws.drop 4).take 2)) 2 ((ws.drop 6).take 16)))).ws 18 ((ws.drop 22).take 16) (by rw [hvs, HTL2.out]; decide)).trans HTL2.out)
  clear hvs hsr hs2 hi hsz hsp e9 hrw hWe
  refine wpAnyX_one (i := 10) (o := { dst := some 34, op := Go.Op.call { callee := Go.Callee.builtin Go.Builtin.copy, args := #[Go.Operand.tmp 28, Go.Operand.tmp 33], argTypes := #[24, 24] }, type := 3, pos := "reader.go:38", after := #[{ on := 4, ground := Go.Ground.data }, { on := 9, ground := Go.Ground.data }, { on := 9, ground := Go.Ground.chain }], guard := none }) (by kernel_rfl) rfl (fun K hK => ?_)
  refine step_value_g (by rfl) (goInt (Nat.min 16 16)) (w' := W9_) (by
    unfold execOp
    simp [go_sem, resolve, invoke, builtin, hrun]) ?_
  clear hrun HK
  refine hK.out _ _ (fun _ => ⟨HK2.out.row.cell 0, HK2.out.row.cell 1⟩) ?_
  clear hK K
  try simp only [Act.put, List.setIfInBounds_toArray, List.set_cons_zero, List.set_cons_succ]
  refine wpAnyX_end (by kernel_rfl) ?_
  have HK := HK2
  clear HK2
  go_wp2_with fail
  go_end0
  exact ⟨rfl, HK.out⟩
end Go.Proofs
