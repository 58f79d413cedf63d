/- Layout: Cell, Of. -/
import Derived.Test.YtkddfihfilhhdaaWd
namespace Go.Proofs
set_option maxRecDepth 100000
open Go.RowKit Go.Shelf
attribute [local go_sem] Oper.semAt_some

theorem step_callP_g {P : Program} {ops : Array Oper} {Q : Exit → Act → World → Prop} {o : Oper} {a : Act} {w : World} {K : Act → World → Prop} {E : Prop} (hw : Region.wanted o (yielded ops a.tmps) = true) (f : FuncId) (xs : Array Operand) (ts : Array TypeId)
    (ho : o.op = .call { callee := .value (.func f), args := xs, argTypes := ts }) (eg : ∀ args w, (callFunc f args).run P w = .ok (.enter f args) w) (vs : Array Value) (hv : xs.map a.eval = vs) (R : Ending → World → Prop) (hc : Calls P f vs w R)
    (hR : ∀ e w', R e w' → (∃ v, e = .returned v ∧ K (a.put o.dst v) w') ∨ (∃ c, e = .panicked c ∧ Q (.panic c) a w')) : if Region.wanted o (yielded ops a.tmps) = true then Oper.wp P o a w K Q else E := by
  rw [if_pos hw]
  unfold Oper.wp execOp
  simp only [ho]
  simp [go_sem, resolve, invoke, hv, eg]
  refine hc.mono (fun e w' he => ?_)
  rcases hR e w' he with ⟨v, rfl, hk⟩ | ⟨c, rfl, hk⟩
  · exact hk
  · exact hk
theorem Rows8.drewA {W : World} {B : Nat} {t : TypeId} {cs : Array Value} (h : Rows8 W B t cs) : Rows8 W.drew B t cs := h
def slabB (n : Int) : Bool := decide (0 ≤ n) && decide (n < 128)
def wordB (n : Int) : Bool := decide (0 ≤ n) && decide (n < 40)
def I64 (n : Int) : Prop := -9223372036854775808 ≤ n ∧ n < 9223372036854775808
theorem up_lt {n : Int} (h : I64 n) (m : Int) (hm : 0 ≤ m) (hm2 : m < 9223372036854775808) : decide (IntKind.u64.wrap n ≤ m) = (decide (0 ≤ n) && decide (n ≤ m)) := by
  unfold I64 at h
  rw [IntKind.wrap_u64]
  by_cases h0 : 0 ≤ n
  · have : n % 18446744073709551616 = n := by omega
    rw [this]; simp [h0]
  · have : n % 18446744073709551616 = n + 18446744073709551616 := by omega
    rw [this, decide_eq_false (by omega), decide_eq_false h0]; rfl
theorem up_slab {n : Int} (h : I64 n) : decide (IntKind.u64.wrap n ≤ 127) = slabB n := by
  rw [up_lt h 127 (by decide) (by decide)]
  unfold slabB
  rw [show decide (n ≤ 127) = decide (n < 128) from decide_eq_decide.2 (by omega)]
theorem up_word {n : Int} (h : I64 n) : decide (IntKind.u64.wrap n ≤ 39) = wordB n := by
  rw [up_lt h 39 (by decide) (by decide)]
  unfold wordB
  rw [show decide (n ≤ 39) = decide (n < 40) from decide_eq_decide.2 (by omega)]
theorem slabB_yes {n : Int} (h : slabB n = true) : 0 ≤ n ∧ n < 128 := by simpa [slabB] using h
theorem wordB_yes {n : Int} (h : wordB n = true) : 0 ≤ n ∧ n < 40 := by simpa [wordB] using h
theorem Try.firstOf_any (n : Int) (hn : 0 ≤ n ∧ n ≤ 128) (w : World) : Calls Try.prog 39 #[.int .i64 n] w fun e w' => e = .returned (.int .i64 (16 + n * 40)) ∧ w' = w := by
  have h1 : wrap64 (n * 40) = n * 40 := IntWalk.wrap64_in _ ⟨by omega, by omega⟩
  have h2 : wrap64 (16 + n * 40) = 16 + n * 40 := IntWalk.wrap64_in _ ⟨by omega, by omega⟩
  have h3 : IntKind.i64.wrap (n * 40) = n * 40 := IntWalk.i64_in _ ⟨by omega, by omega⟩
  have h4 : IntKind.i64.wrap (16 + n * 40) = 16 + n * 40 := IntWalk.i64_in _ ⟨by omega, by omega⟩
  go_enter Try.func39, Try.ntmps39
  go_wp2_with fail
  go_ret
  exact ⟨rfl, rfl⟩
set_option maxHeartbeats 2000000 in
theorem Try.Cell1_any (n k : Int) (Bs Bw : Nat) (w : World) (hs : Rows8 w Bs 3 #[.int .i64 n]) (hw : Rows8 w Bw 3 #[.int .i64 k]) (hn : I64 n) (hk : I64 k) :
    Calls Try.prog 38 #[.pointer (some ⟨Bs, 0, none⟩), .pointer (some ⟨Bw, 0, none⟩)] w fun e w' => Below w.heap.size w w' ∧ ((∃ x, e = .returned x ∧ x = .int .i64 (16 + n * 40 + k) ∧ (slabB n && wordB k) = true) ∨ ∃ q, e = .panicked (panicA q) ∧ q = 2 ∧ (slabB n && wordB k) = false) := by
  have HR := Lib.hid hs
  have HW := Lib.hid hw
  have HI := Lib.hid hn
  have HB := Lib.hid (Below.refl w.heap.size w)
  clear hs hw hn
  go_enter Try.func38, Try.ntmps38
  go_upto_region 1 with fail
  refine wp_region_X (fun W' => Rows8 W' Bs 3 #[.int .i64 n]) 5 (by kernel_rfl) ?_
  have hC0 : Below w.heap.size w w.drew := (Below.refl _ _).drew
  have HR := Lib.hid (HR.out.below hC0 HR.out.lt)
  have HW := Lib.hid (HW.out.below hC0 HW.out.lt)
  have HB := Lib.hid (HB.out.trans (hC0.mono HB.out.size))
  clear hC0
  generalize w.drew = W at *
  refine wpAnyN_take (i := 0) (oi := { dst := some 4, op := Go.Op.load 3 (Go.Operand.tmp 0), type := 3, pos := "layout.go:13", after := #[], guard := none }) (v := .int .i64 n) rfl (by decide) (by kernel_rfl) (by kernel_rfl) (by kernel_rfl) (fun _ _ _ h => h) (Or.inl ⟨by rfl, ?_⟩) HR.out ?_
  · intro W9 hS9
    have s0 : W9.cell? ⟨Bs, 0, none⟩ = some (.int .i64 n) := hS9.cell 0
    go_simp
  try simp only [Act.put, List.setIfInBounds_toArray, List.set_cons_zero, List.set_cons_succ]
  refine wpAnyX_one (i := 1) (o := { dst := some 5, op := Go.Op.call { callee := Go.Callee.value (Go.Operand.func 41), args := #[Go.Operand.const (Go.Value.int Go.IntKind.u64 127)], argTypes := #[34] }, type := 83, pos := "layout.go:13", after := #[], guard := none }) (by kernel_rfl) rfl (fun K hK => ?_)
  have HN := Try.upTo_any 127 W
  refine step_call_g (by rfl) 41 _ _ rfl (fun _ _ => by kernel_rfl) #[.int .u64 127] (by simp [go_sem]) _ HN ?_
  rintro e W1 ⟨v, rfl, hm, hC⟩
  have HM := Lib.hid hm
  have HR := Lib.hid (HR.out.below hC HR.out.lt)
  have HW := Lib.hid (HW.out.below hC HW.out.lt)
  have HB := Lib.hid (HB.out.trans (hC.mono HB.out.size))
  clear hC HN hm
  refine ⟨_, rfl, ?_⟩
  refine hK.out _ _ (fun _ => HR.out) ?_
  clear hK K
  try simp only [Act.put, List.setIfInBounds_toArray, List.set_cons_zero, List.set_cons_succ]
  refine wpAnyX_one (i := 2) (o := { dst := some 6, op := Go.Op.call { callee := Go.Callee.value (Go.Operand.func 40), args := #[Go.Operand.tmp 4, Go.Operand.tmp 5, Go.Operand.const (Go.Value.int Go.IntKind.i64 2)], argTypes := #[3, 83, 27] }, type := 3, pos := "layout.go:13", after := #[{ on := 0, ground := Go.Ground.data }, { on := 1, ground := Go.Ground.data }, { on := 1, ground := Go.Ground.chain }], guard := none }) (by kernel_rfl) rfl (fun K hK => ?_)
  have HN := Try.numII_any n 2 v _ W1 HM.out
  refine step_callP_g (by rfl) 40 _ _ rfl (fun _ _ => by kernel_rfl) #[.int .i64 n, v, .int .i64 2] (by simp [go_sem]) _ HN ?_
  clear HN
  rintro e w9 ⟨hw9, hq9⟩
  subst w9
  rcases hq9 with ⟨h, rfl⟩ | ⟨h, rfl⟩
  rotate_left
  · refine .inr ⟨_, rfl, ?_⟩
    rw [up_slab HI.out] at h
    exact ⟨by trivial, HB.out, .inr ⟨2, rfl, rfl, by rw [h]; rfl⟩⟩
  rw [up_slab HI.out] at h
  have HS := Lib.hid h
  clear h HM
  refine .inl ⟨_, rfl, ?_⟩
  refine hK.out _ _ (fun _ => HR.out) ?_
  clear hK K
  try simp only [Act.put, List.setIfInBounds_toArray, List.set_cons_zero, List.set_cons_succ]
  refine wpAnyX_one (i := 3) (o := { dst := some 7, op := Go.Op.call { callee := Go.Callee.value (Go.Operand.func 39), args := #[Go.Operand.tmp 6], argTypes := #[3] }, type := 3, pos := "layout.go:13", after := #[{ on := 2, ground := Go.Ground.data }, { on := 2, ground := Go.Ground.chain }], guard := none }) (by kernel_rfl) rfl (fun K hK => ?_)
  have HN := Try.firstOf_any n (by have := slabB_yes HS.out; omega) W1
  refine step_call_g (by rfl) 39 _ _ rfl (fun _ _ => by kernel_rfl) #[.int .i64 n] (by simp [go_sem]) _ HN ?_
  clear HN
  rintro e w9 ⟨rfl, hw9⟩
  subst w9
  refine ⟨_, rfl, ?_⟩
  refine hK.out _ _ (fun _ => HR.out) ?_
  clear hK K
  try simp only [Act.put, List.setIfInBounds_toArray, List.set_cons_zero, List.set_cons_succ]
  refine wpAnyN_take (i := 4) (oi := { dst := some 3, op := Go.Op.assign (Go.Operand.tmp 7), type := 3, pos := "layout.go:13", after := #[{ on := 3, ground := Go.Ground.data }, { on := 3, ground := Go.Ground.chain }, { on := 0, ground := Go.Ground.phase }, { on := 1, ground := Go.Ground.phase }, { on := 2, ground := Go.Ground.phase }, { on := 3, ground := Go.Ground.phase }], guard := none }) (v := .int .i64 (16 + n * 40)) rfl (by decide) (by kernel_rfl) (by kernel_rfl) (by kernel_rfl) (fun _ _ _ h => h) (Or.inl ⟨by rfl, ?_⟩) HR.out ?_
  · intro W9 hS9
    go_simp
  try simp only [Act.put, List.setIfInBounds_toArray, List.set_cons_zero, List.set_cons_succ]
  refine wpAnyX_end (by kernel_rfl) ?_
  clear HR
  have HI2 := Lib.hid hk
  go_upto_region 2 with fail
  refine wp_region_X (fun W' => Rows8 W' Bw 3 #[.int .i64 k]) 6 (by kernel_rfl) ?_
  have hC0 : Below W1.heap.size W1 W1.drew := (Below.refl _ _).drew
  have HW := Lib.hid (HW.out.below hC0 HW.out.lt)
  have HB := Lib.hid (HB.out.trans (hC0.mono HB.out.size))
  clear hC0
  generalize W1.drew = W2 at *
  refine wpAnyN_take (i := 0) (oi := { dst := some 8, op := Go.Op.move (Go.Operand.tmp 3), type := 3, pos := "layout.go:14", after := #[], guard := none }) (v := .int .i64 (16 + n * 40)) rfl (by decide) (by kernel_rfl) (by kernel_rfl) (by kernel_rfl) (fun _ _ _ h => h) (Or.inl ⟨by rfl, ?_⟩) HW.out ?_
  · intro W9 hS9
    go_simp
  try simp only [Act.put, List.setIfInBounds_toArray, List.set_cons_zero, List.set_cons_succ]
  refine wpAnyN_take (i := 1) (oi := { dst := some 9, op := Go.Op.load 3 (Go.Operand.tmp 1), type := 3, pos := "layout.go:14", after := #[], guard := none }) (v := .int .i64 k) rfl (by decide) (by kernel_rfl) (by kernel_rfl) (by kernel_rfl) (fun _ _ _ h => h) (Or.inl ⟨by rfl, ?_⟩) HW.out ?_
  · intro W9 hS9
    have s0 : W9.cell? ⟨Bw, 0, none⟩ = some (.int .i64 k) := hS9.cell 0
    go_simp
  try simp only [Act.put, List.setIfInBounds_toArray, List.set_cons_zero, List.set_cons_succ]
  refine wpAnyX_one (i := 2) (o := { dst := some 10, op := Go.Op.call { callee := Go.Callee.value (Go.Operand.func 41), args := #[Go.Operand.const (Go.Value.int Go.IntKind.u64 39)], argTypes := #[34] }, type := 83, pos := "layout.go:14", after := #[], guard := none }) (by kernel_rfl) rfl (fun K hK => ?_)
  have HN := Try.upTo_any 39 W2
  refine step_call_g (by rfl) 41 _ _ rfl (fun _ _ => by kernel_rfl) #[.int .u64 39] (by simp [go_sem]) _ HN ?_
  rintro e W3 ⟨v, rfl, hm, hC⟩
  have HM := Lib.hid hm
  have HW := Lib.hid (HW.out.below hC HW.out.lt)
  have HB := Lib.hid (HB.out.trans (hC.mono HB.out.size))
  clear hC HN hm
  refine ⟨_, rfl, ?_⟩
  refine hK.out _ _ (fun _ => HW.out) ?_
  clear hK K
  try simp only [Act.put, List.setIfInBounds_toArray, List.set_cons_zero, List.set_cons_succ]
  refine wpAnyX_one (i := 3) (o := { dst := some 11, op := Go.Op.call { callee := Go.Callee.value (Go.Operand.func 40), args := #[Go.Operand.tmp 9, Go.Operand.tmp 10, Go.Operand.const (Go.Value.int Go.IntKind.i64 2)], argTypes := #[3, 83, 27] }, type := 3, pos := "layout.go:14", after := #[{ on := 1, ground := Go.Ground.data }, { on := 2, ground := Go.Ground.data }, { on := 2, ground := Go.Ground.chain }], guard := none }) (by kernel_rfl) rfl (fun K hK => ?_)
  have HN := Try.numII_any k 2 v _ W3 HM.out
  refine step_callP_g (by rfl) 40 _ _ rfl (fun _ _ => by kernel_rfl) #[.int .i64 k, v, .int .i64 2] (by simp [go_sem]) _ HN ?_
  clear HN
  rintro e w9 ⟨hw9, hq9⟩
  subst w9
  rcases hq9 with ⟨h, rfl⟩ | ⟨h, rfl⟩
  rotate_left
  · refine .inr ⟨_, rfl, ?_⟩
    rw [up_word HI2.out] at h
    exact ⟨by trivial, HB.out, .inr ⟨2, rfl, rfl, by rw [HS.out, h]; rfl⟩⟩
  rw [up_word HI2.out] at h
  have HS2 := Lib.hid h
  clear h HM
  refine .inl ⟨_, rfl, ?_⟩
  refine hK.out _ _ (fun _ => HW.out) ?_
  clear hK K
  try simp only [Act.put, List.setIfInBounds_toArray, List.set_cons_zero, List.set_cons_succ]
  have hwr : IntKind.i64.wrap (16 + n * 40 + k) = 16 + n * 40 + k := IntWalk.i64_in _ (by have := slabB_yes HS.out; have := wordB_yes HS2.out; omega)
  refine wpAnyN_take (i := 4) (oi := { dst := some 12, op := Go.Op.binOp Go.BinOp.add 3 (Go.Operand.tmp 8) (Go.Operand.tmp 11) 3, type := 3, pos := "layout.go:14", after := #[{ on := 0, ground := Go.Ground.data }, { on := 3, ground := Go.Ground.data }], guard := none }) (v := .int .i64 (16 + n * 40 + k)) rfl (by decide) (by kernel_rfl) (by kernel_rfl) (by kernel_rfl) (fun _ _ _ h => h) (Or.inl ⟨by rfl, ?_⟩) HW.out ?_
  · intro W9 hS9
    go_simp
  try simp only [Act.put, List.setIfInBounds_toArray, List.set_cons_zero, List.set_cons_succ]
  refine wpAnyN_take (i := 5) (oi := { dst := some 2, op := Go.Op.assign (Go.Operand.tmp 12), type := 3, pos := "layout.go:14", after := #[{ on := 4, ground := Go.Ground.data }, { on := 3, ground := Go.Ground.chain }, { on := 0, ground := Go.Ground.phase }, { on := 1, ground := Go.Ground.phase }, { on := 2, ground := Go.Ground.phase }, { on := 3, ground := Go.Ground.phase }, { on := 4, ground := Go.Ground.phase }], guard := none }) (v := .int .i64 (16 + n * 40 + k)) rfl (by decide) (by kernel_rfl) (by kernel_rfl) (by kernel_rfl) (fun _ _ _ h => h) (Or.inl ⟨by rfl, ?_⟩) HW.out ?_
  · intro W9 hS9
    go_simp
  try simp only [Act.put, List.setIfInBounds_toArray, List.set_cons_zero, List.set_cons_succ]
  refine wpAnyX_end (by kernel_rfl) ?_
  clear HW
  go_wp2_with fail
  go_ret
  exact ⟨HB.out, .inl ⟨_, rfl, rfl, by rw [HS.out, HS2.out]; rfl⟩⟩
end Go.Proofs
