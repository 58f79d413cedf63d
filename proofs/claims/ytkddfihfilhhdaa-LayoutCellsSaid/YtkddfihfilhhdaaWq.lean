/- Layout: the reference's power, Slab, Cell, Entry, Pack, Unpack. -/
import Derived.Test.YtkddfihfilhhdaaWp
namespace Go.Proofs
set_option maxRecDepth 100000
open Go.RowKit Go.Shelf
attribute [local go_sem] Oper.semAt_some

theorem two_lt {n : Nat} (h : n ≤ 63) : 2 ^ n ≤ 9223372036854775808 := Nat.pow_le_pow_right (by decide) h
set_option maxHeartbeats 1000000 in
theorem Try.refPower_any (n : Nat) (hn : n ≤ 63) (w : World) : Calls Try.prog 47 #[.int .i64 (n : Nat)] w fun e w' => e = .returned (.int .u64 ((2 ^ n : Nat) : Int)) ∧ w' = w := by
  obtain ⟨q, hq⟩ : ∃ q, q = 2 ^ n := ⟨_, rfl⟩
  rw [← hq]
  have HQ := Lib.hid hq
  have HN := Lib.hid hn
  clear hq hn
  go_enter Try.func47, Try.ntmps47
  go_wp2
  go_loopw [3, 5] (fun o j wr => ∃ k p : Nat, k ≤ n ∧ j = .int .i64 k ∧ o = .int .u64 p ∧ Hid (p = 2 ^ k) ∧ wr = w) (fun _ j _ => n - (intOf j).toNat)
  case atStart => exact ⟨0, 1, Nat.zero_le _, rfl, rfl, Lib.hid rfl, rfl⟩
  case round =>
    obtain ⟨k, p, hk, rfl, rfl, hp, rfl⟩ := hrel
    by_cases hlt : k < n
    · have hki : (k : Int) < (n : Int) := by omega
      have h63 := two_lt (n := k) (by have := HN.out; omega)
      have hp2 : Hid (2 * p = 2 ^ (k + 1)) := Lib.hid (by rw [hp.out, Nat.pow_succ, Nat.mul_comm])
      have hp3 : p ≤ 9223372036854775808 := by rw [hp.out]; exact h63
      have h64 : k + 1 ≤ 63 := by have := HN.out; omega
      have hp4 := two_lt h64
      have hwr : IntKind.u64.wrap (2 * (p : Int)) = ((2 * p : Nat) : Int) := by
        rw [IntKind.wrap_u64]
        have := hp2.out
        omega
      have hwk : wrap64 ((k : Int) + 1) = ((k + 1 : Nat) : Int) := by
        rw [IntWalk.wrap64_in _ ⟨by omega, by omega⟩]
        omega
      clear h63 hp3 hp4 hp
      go_wp2_with fail
      exact ⟨⟨k + 1, 2 * p, by omega, by first | rw [hwk] | (congr 1), by first | rw [hwr] | (congr 1), hp2, by first | rfl | trivial⟩, by (try rw [hwk]); simp [intOf]; omega⟩
    · obtain rfl : k = n := by omega
      have h9 : Hid (q = p) := Lib.hid (by rw [HQ.out, hp.out])
      clear hp
      go_wp2_with fail
      go_ret
      exact ⟨by rw [h9.out]; rfl, rfl⟩
theorem Try.refSlab_any (n : Int) (w : World) : Calls Try.prog 11 #[.int .i64 n] w fun e w' => e = .returned (.bool (slabB n)) ∧ w' = w := by
  obtain ⟨z, hz⟩ : ∃ z, z = slabB n := ⟨_, rfl⟩
  rw [← hz]
  unfold slabB at hz
  have HZ := Lib.hid hz
  clear hz
  cases h : decide (0 ≤ n) with
  | true =>
    have H := Lib.hid h
    go_enter Try.func11, Try.ntmps11
    go_wp2_with fail
    go_ret
    exact ⟨by rw [HZ.out, H.out]; rfl, rfl⟩
  | false =>
    have H := Lib.hid h
    go_enter Try.func11, Try.ntmps11
    go_wp2_with fail
    go_ret
    exact ⟨by rw [HZ.out, H.out]; rfl, rfl⟩
theorem Try.refCell_any (n k : Int) (h : (slabB n && wordB k) = true) (w : World) : Calls Try.prog 12 #[.int .i64 n, .int .i64 k] w fun e w' => e = .returned (.int .i64 (16 + n * 40 + k)) ∧ w' = w := by
  have h1 : 0 ≤ n ∧ n < 128 := slabB_yes (by simpa using h : slabB n = true ∧ wordB k = true).1
  have h2 : 0 ≤ k ∧ k < 40 := wordB_yes (by simpa using h : slabB n = true ∧ wordB k = true).2
  have a1 : IntKind.i64.wrap (40 * n) = n * 40 := by rw [IntWalk.i64_in _ (by omega)]; omega
  have a2 : IntKind.i64.wrap (16 + n * 40) = 16 + n * 40 := IntWalk.i64_in _ (by omega)
  have a3 : IntKind.i64.wrap (16 + n * 40 + k) = 16 + n * 40 + k := IntWalk.i64_in _ (by omega)
  clear h h1 h2
  go_enter Try.func12, Try.ntmps12
  go_wp2_with fail
  go_ret
  exact ⟨rfl, rfl⟩
theorem gen_lt (y : Nat) : decide ((y : Int) < ((2 ^ 40 : Nat) : Int)) = decide (y < 1099511627776) := decide_eq_decide.2 (by omega)
set_option maxHeartbeats 2000000 in
theorem Try.refEntry_any (x : Int) (y : Nat) (w : World) : Calls Try.prog 15 #[.agg #[.int .i64 x, .int .u64 (y : Nat)]] w fun e w' => e = .returned (.bool (entB x y)) ∧ Below w.heap.size w w' := by
  obtain ⟨W0, hW0⟩ : ∃ W, W = w.alloc (.cells #[.int .i64 x, .int .u64 (y : Nat)] 36) := ⟨_, rfl⟩
  have HR : Hid (Rows8 W0 w.heap.size 36 #[.int .i64 x, .int .u64 (y : Nat)]) := Lib.hid (by rw [hW0]; exact Rows8.new _ _ _)
  have HB : Hid (Below w.heap.size w W0) := Lib.hid (by rw [hW0]; exact Rows8.newB)
  go_enter Try.func15, Try.ntmps15
  go_upto_region 1 with fail
  rw [← hW0]
  clear hW0
  cases hz : slabB x with
  | true =>
    have HZ := Lib.hid hz
    clear hz
    refine wp_region_X (fun W' => Rows8 W' w.heap.size 36 #[.int .i64 x, .int .u64 (y : Nat)]) 10 (by kernel_rfl) ?_
    have hC0 : Below W0.heap.size W0 W0.drew := (Below.refl _ _).drew
    have HR := Lib.hid (HR.out.below hC0 HR.out.lt)
    have HB := Lib.hid (HB.out.trans (hC0.mono HB.out.size))
    clear hC0
    generalize W0.drew = W at *
    refine wpAnyN_take (i := 0) (oi := { dst := some 3, op := Go.Op.fieldAddr 36 (Go.Operand.tmp 1) 0, type := 0, pos := "ref.go:22", after := #[], guard := none }) (v := .pointer (some ⟨w.heap.size, 0, none⟩)) rfl (by decide) (by kernel_rfl) (by kernel_rfl) (by kernel_rfl) (fun _ _ _ h => h) (Or.inl ⟨by rfl, ?_⟩) HR.out ?_
    · intro W9 hS9
      go_simp
    try simp only [Act.put, List.setIfInBounds_toArray, List.set_cons_zero, List.set_cons_succ]
    refine wpAnyN_take (i := 1) (oi := { dst := some 4, op := Go.Op.load 3 (Go.Operand.tmp 3), type := 3, pos := "ref.go:22", after := #[{ on := 0, ground := Go.Ground.data }], guard := none }) (v := .int .i64 x) rfl (by decide) (by kernel_rfl) (by kernel_rfl) (by kernel_rfl) (fun _ _ _ h => h) (Or.inl ⟨by rfl, ?_⟩) HR.out ?_
    · intro W9 hS9
      have s0 : W9.cell? ⟨w.heap.size, 0, none⟩ = some (.int .i64 x) := hS9.cell 0
      clear hS9
      go_simp
    try simp only [Act.put, List.setIfInBounds_toArray, List.set_cons_zero, List.set_cons_succ]
    refine wpAnyX_one (i := 2) (o := { dst := some 5, op := Go.Op.call { callee := Go.Callee.value (Go.Operand.func 11), args := #[Go.Operand.tmp 4], argTypes := #[3] }, type := 4, pos := "ref.go:22", after := #[{ on := 1, ground := Go.Ground.data }], guard := none }) (by kernel_rfl) rfl (fun K hK => ?_)
    have HN := Try.refSlab_any x W
    rw [HZ.out] at HN
    refine step_call_g (by rfl) 11 _ _ rfl (fun _ _ => by kernel_rfl) #[.int .i64 x] (by simp [go_sem]) _ HN ?_
    clear HN
    rintro e w9 ⟨rfl, hw9⟩
    subst w9
    refine ⟨_, rfl, ?_⟩
    refine hK.out _ _ (fun _ => HR.out) ?_
    clear hK K
    try simp only [Act.put, List.setIfInBounds_toArray, List.set_cons_zero, List.set_cons_succ]
    refine wpAnyN_take (i := 3) (oi := { dst := some 6, op := Go.Op.move (Go.Operand.tmp 5), type := 4, pos := "ref.go:22", after := #[{ on := 2, ground := Go.Ground.data }, { on := 2, ground := Go.Ground.chain }], guard := none }) (v := .bool true) rfl (by decide) (by kernel_rfl) (by kernel_rfl) (by kernel_rfl) (fun _ _ _ h => h) (Or.inl ⟨by rfl, ?_⟩) HR.out ?_
    · intro W9 hS9
      go_simp
    try simp only [Act.put, List.setIfInBounds_toArray, List.set_cons_zero, List.set_cons_succ]
    refine wpAnyN_take (i := 4) (oi := { dst := some 7, op := Go.Op.fieldAddr 36 (Go.Operand.tmp 1) 1, type := 0, pos := "ref.go:22", after := #[{ on := 3, ground := Go.Ground.guard }], guard := some (3, true) }) (v := .pointer (some ⟨w.heap.size, 1, none⟩)) rfl (by decide) (by kernel_rfl) (by kernel_rfl) (by kernel_rfl) (fun _ _ _ h => h) (Or.inl ⟨by rfl, ?_⟩) HR.out ?_
    · intro W9 hS9
      go_simp
    try simp only [Act.put, List.setIfInBounds_toArray, List.set_cons_zero, List.set_cons_succ]
    refine wpAnyN_take (i := 5) (oi := { dst := some 8, op := Go.Op.load 34 (Go.Operand.tmp 7), type := 34, pos := "ref.go:22", after := #[{ on := 4, ground := Go.Ground.data }, { on := 3, ground := Go.Ground.guard }], guard := some (3, true) }) (v := .int .u64 (y : Nat)) rfl (by decide) (by kernel_rfl) (by kernel_rfl) (by kernel_rfl) (fun _ _ _ h => h) (Or.inl ⟨by rfl, ?_⟩) HR.out ?_
    · intro W9 hS9
      have s0 : W9.cell? ⟨w.heap.size, 1, none⟩ = some (.int .u64 (y : Nat)) := hS9.cell 1
      clear hS9
      go_simp
    try simp only [Act.put, List.setIfInBounds_toArray, List.set_cons_zero, List.set_cons_succ]
    refine wpAnyX_one (i := 6) (o := { dst := some 9, op := Go.Op.call { callee := Go.Callee.value (Go.Operand.func 47), args := #[Go.Operand.const (Go.Value.int Go.IntKind.i64 40)], argTypes := #[3] }, type := 34, pos := "ref.go:22", after := #[{ on := 3, ground := Go.Ground.chain }, { on := 3, ground := Go.Ground.guard }], guard := some (3, true) }) (by kernel_rfl) rfl (fun K hK => ?_)
    have HN := Try.refPower_any 40 (by decide) W
    refine step_call_g (by rfl) 47 _ _ rfl (fun _ _ => by kernel_rfl) #[.int .i64 40] (by simp [go_sem]) _ HN ?_
    clear HN
    rintro e w9 ⟨rfl, hw9⟩
    subst w9
    refine ⟨_, rfl, ?_⟩
    refine hK.out _ _ (fun _ => HR.out) ?_
    clear hK K
    try simp only [Act.put, List.setIfInBounds_toArray, List.set_cons_zero, List.set_cons_succ]
    have hb := gen_lt y
    obtain ⟨pq, hpq⟩ : ∃ p, p = ((2 ^ 40 : Nat) : Int) := ⟨_, rfl⟩
    rw [← hpq] at hb ⊢
    clear hpq
    obtain ⟨z, hz⟩ : ∃ z, z = decide (y < 1099511627776) := ⟨_, rfl⟩
    rw [← hz] at hb
    have HZ2 := Lib.hid hz
    clear hz
    refine wpAnyN_take (i := 7) (oi := { dst := some 10, op := Go.Op.binOp Go.BinOp.lss 34 (Go.Operand.tmp 8) (Go.Operand.tmp 9) 34, type := 4, pos := "ref.go:22", after := #[{ on := 5, ground := Go.Ground.data }, { on := 6, ground := Go.Ground.data }, { on := 3, ground := Go.Ground.guard }], guard := some (3, true) }) (v := .bool z) rfl (by decide) (by kernel_rfl) (by kernel_rfl) (by kernel_rfl) (fun _ _ _ h => h) (Or.inl ⟨by rfl, ?_⟩) HR.out ?_
    · intro W9 hS9
      go_simp
    try simp only [Act.put, List.setIfInBounds_toArray, List.set_cons_zero, List.set_cons_succ]
    clear hb
    refine wpAnyN_take (i := 8) (oi := { dst := some 11, op := Go.Op.pick (Go.Operand.tmp 6) (Go.Operand.tmp 10) (Go.Operand.const (Go.Value.bool false)), type := 4, pos := "ref.go:22", after := #[{ on := 3, ground := Go.Ground.data }, { on := 7, ground := Go.Ground.data }], guard := none }) (v := .bool z) rfl (by decide) (by kernel_rfl) (by kernel_rfl) (by kernel_rfl) (fun _ _ _ h => h) (Or.inl ⟨by rfl, ?_⟩) HR.out ?_
    · intro W9 hS9
      go_simp
    try simp only [Act.put, List.setIfInBounds_toArray, List.set_cons_zero, List.set_cons_succ]
    refine wpAnyN_take (i := 9) (oi := { dst := some 2, op := Go.Op.assign (Go.Operand.tmp 11), type := 4, pos := "ref.go:22", after := #[{ on := 8, ground := Go.Ground.data }, { on := 6, ground := Go.Ground.chain }, { on := 0, ground := Go.Ground.phase }, { on := 1, ground := Go.Ground.phase }, { on := 2, ground := Go.Ground.phase }, { on := 3, ground := Go.Ground.phase }, { on := 4, ground := Go.Ground.phase }, { on := 5, ground := Go.Ground.phase }, { on := 6, ground := Go.Ground.phase }, { on := 7, ground := Go.Ground.phase }, { on := 8, ground := Go.Ground.phase }], guard := none }) (v := .bool z) rfl (by decide) (by kernel_rfl) (by kernel_rfl) (by kernel_rfl) (fun _ _ _ h => h) (Or.inl ⟨by rfl, ?_⟩) HR.out ?_
    · intro W9 hS9
      go_simp
    try simp only [Act.put, List.setIfInBounds_toArray, List.set_cons_zero, List.set_cons_succ]
    refine wpAnyX_end (by kernel_rfl) ?_
    go_wp2_with fail
    go_ret
    exact ⟨by unfold entB; rw [HZ.out, ← HZ2.out]; rfl, HB.out⟩
  | false =>
    have HZ := Lib.hid hz
    clear hz
    refine wp_region_X (fun W' => Rows8 W' w.heap.size 36 #[.int .i64 x, .int .u64 (y : Nat)]) 10 (by kernel_rfl) ?_
    have hC0 : Below W0.heap.size W0 W0.drew := (Below.refl _ _).drew
    have HR := Lib.hid (HR.out.below hC0 HR.out.lt)
    have HB := Lib.hid (HB.out.trans (hC0.mono HB.out.size))
    clear hC0
    generalize W0.drew = W at *
    refine wpAnyN_take (i := 0) (oi := { dst := some 3, op := Go.Op.fieldAddr 36 (Go.Operand.tmp 1) 0, type := 0, pos := "ref.go:22", after := #[], guard := none }) (v := .pointer (some ⟨w.heap.size, 0, none⟩)) rfl (by decide) (by kernel_rfl) (by kernel_rfl) (by kernel_rfl) (fun _ _ _ h => h) (Or.inl ⟨by rfl, ?_⟩) HR.out ?_
    · intro W9 hS9
      go_simp
    try simp only [Act.put, List.setIfInBounds_toArray, List.set_cons_zero, List.set_cons_succ]
    refine wpAnyN_take (i := 1) (oi := { dst := some 4, op := Go.Op.load 3 (Go.Operand.tmp 3), type := 3, pos := "ref.go:22", after := #[{ on := 0, ground := Go.Ground.data }], guard := none }) (v := .int .i64 x) rfl (by decide) (by kernel_rfl) (by kernel_rfl) (by kernel_rfl) (fun _ _ _ h => h) (Or.inl ⟨by rfl, ?_⟩) HR.out ?_
    · intro W9 hS9
      have s0 : W9.cell? ⟨w.heap.size, 0, none⟩ = some (.int .i64 x) := hS9.cell 0
      clear hS9
      go_simp
    try simp only [Act.put, List.setIfInBounds_toArray, List.set_cons_zero, List.set_cons_succ]
    refine wpAnyX_one (i := 2) (o := { dst := some 5, op := Go.Op.call { callee := Go.Callee.value (Go.Operand.func 11), args := #[Go.Operand.tmp 4], argTypes := #[3] }, type := 4, pos := "ref.go:22", after := #[{ on := 1, ground := Go.Ground.data }], guard := none }) (by kernel_rfl) rfl (fun K hK => ?_)
    have HN := Try.refSlab_any x W
    rw [HZ.out] at HN
    refine step_call_g (by rfl) 11 _ _ rfl (fun _ _ => by kernel_rfl) #[.int .i64 x] (by simp [go_sem]) _ HN ?_
    clear HN
    rintro e w9 ⟨rfl, hw9⟩
    subst w9
    refine ⟨_, rfl, ?_⟩
    refine hK.out _ _ (fun _ => HR.out) ?_
    clear hK K
    try simp only [Act.put, List.setIfInBounds_toArray, List.set_cons_zero, List.set_cons_succ]
    refine wpAnyN_take (i := 3) (oi := { dst := some 6, op := Go.Op.move (Go.Operand.tmp 5), type := 4, pos := "ref.go:22", after := #[{ on := 2, ground := Go.Ground.data }, { on := 2, ground := Go.Ground.chain }], guard := none }) (v := .bool false) rfl (by decide) (by kernel_rfl) (by kernel_rfl) (by kernel_rfl) (fun _ _ _ h => h) (Or.inl ⟨by rfl, ?_⟩) HR.out ?_
    · intro W9 hS9
      go_simp
    try simp only [Act.put, List.setIfInBounds_toArray, List.set_cons_zero, List.set_cons_succ]
    refine wpAnyN_take (i := 4) (oi := { dst := some 7, op := Go.Op.fieldAddr 36 (Go.Operand.tmp 1) 1, type := 0, pos := "ref.go:22", after := #[{ on := 3, ground := Go.Ground.guard }], guard := some (3, true) }) (v := undef) rfl (by decide) (by kernel_rfl) (by kernel_rfl) (by kernel_rfl) (fun _ _ _ h => h) (Or.inr ⟨by rfl, rfl⟩) HR.out ?_
    try simp only [Act.put, List.setIfInBounds_toArray, List.set_cons_zero, List.set_cons_succ]
    refine wpAnyN_take (i := 5) (oi := { dst := some 8, op := Go.Op.load 34 (Go.Operand.tmp 7), type := 34, pos := "ref.go:22", after := #[{ on := 4, ground := Go.Ground.data }, { on := 3, ground := Go.Ground.guard }], guard := some (3, true) }) (v := undef) rfl (by decide) (by kernel_rfl) (by kernel_rfl) (by kernel_rfl) (fun _ _ _ h => h) (Or.inr ⟨by rfl, rfl⟩) HR.out ?_
    try simp only [Act.put, List.setIfInBounds_toArray, List.set_cons_zero, List.set_cons_succ]
    refine wpAnyN_take (i := 6) (oi := { dst := some 9, op := Go.Op.call { callee := Go.Callee.value (Go.Operand.func 47), args := #[Go.Operand.const (Go.Value.int Go.IntKind.i64 40)], argTypes := #[3] }, type := 34, pos := "ref.go:22", after := #[{ on := 3, ground := Go.Ground.chain }, { on := 3, ground := Go.Ground.guard }], guard := some (3, true) }) (v := undef) rfl (by decide) (by kernel_rfl) (by kernel_rfl) (by kernel_rfl) (fun _ _ _ h => h) (Or.inr ⟨by rfl, rfl⟩) HR.out ?_
    try simp only [Act.put, List.setIfInBounds_toArray, List.set_cons_zero, List.set_cons_succ]
    refine wpAnyN_take (i := 7) (oi := { dst := some 10, op := Go.Op.binOp Go.BinOp.lss 34 (Go.Operand.tmp 8) (Go.Operand.tmp 9) 34, type := 4, pos := "ref.go:22", after := #[{ on := 5, ground := Go.Ground.data }, { on := 6, ground := Go.Ground.data }, { on := 3, ground := Go.Ground.guard }], guard := some (3, true) }) (v := undef) rfl (by decide) (by kernel_rfl) (by kernel_rfl) (by kernel_rfl) (fun _ _ _ h => h) (Or.inr ⟨by rfl, rfl⟩) HR.out ?_
    try simp only [Act.put, List.setIfInBounds_toArray, List.set_cons_zero, List.set_cons_succ]
    refine wpAnyN_take (i := 8) (oi := { dst := some 11, op := Go.Op.pick (Go.Operand.tmp 6) (Go.Operand.tmp 10) (Go.Operand.const (Go.Value.bool false)), type := 4, pos := "ref.go:22", after := #[{ on := 3, ground := Go.Ground.data }, { on := 7, ground := Go.Ground.data }], guard := none }) (v := .bool false) rfl (by decide) (by kernel_rfl) (by kernel_rfl) (by kernel_rfl) (fun _ _ _ h => h) (Or.inl ⟨by rfl, ?_⟩) HR.out ?_
    · intro W9 hS9
      go_simp
    try simp only [Act.put, List.setIfInBounds_toArray, List.set_cons_zero, List.set_cons_succ]
    refine wpAnyN_take (i := 9) (oi := { dst := some 2, op := Go.Op.assign (Go.Operand.tmp 11), type := 4, pos := "ref.go:22", after := #[{ on := 8, ground := Go.Ground.data }, { on := 6, ground := Go.Ground.chain }, { on := 0, ground := Go.Ground.phase }, { on := 1, ground := Go.Ground.phase }, { on := 2, ground := Go.Ground.phase }, { on := 3, ground := Go.Ground.phase }, { on := 4, ground := Go.Ground.phase }, { on := 5, ground := Go.Ground.phase }, { on := 6, ground := Go.Ground.phase }, { on := 7, ground := Go.Ground.phase }, { on := 8, ground := Go.Ground.phase }], guard := none }) (v := .bool false) rfl (by decide) (by kernel_rfl) (by kernel_rfl) (by kernel_rfl) (fun _ _ _ h => h) (Or.inl ⟨by rfl, ?_⟩) HR.out ?_
    · intro W9 hS9
      go_simp
    try simp only [Act.put, List.setIfInBounds_toArray, List.set_cons_zero, List.set_cons_succ]
    refine wpAnyX_end (by kernel_rfl) ?_
    go_wp2_with fail
    go_ret
    exact ⟨by unfold entB; rw [HZ.out]; rfl, HB.out⟩
set_option maxHeartbeats 1000000 in
theorem Try.refPack_any (x : Int) (y : Nat) (h : entB x y = true) (w : World) : Calls Try.prog 16 #[.agg #[.int .i64 x, .int .u64 (y : Nat)]] w fun e w' => e = .returned (.int .u64 (packV x y : Nat)) ∧ Below w.heap.size w w' := by
  obtain ⟨W0, hW0⟩ : ∃ W, W = w.alloc (.cells #[.int .i64 x, .int .u64 (y : Nat)] 36) := ⟨_, rfl⟩
  have hr : Rows8 W0 w.heap.size 36 #[.int .i64 x, .int .u64 (y : Nat)] := by rw [hW0]; exact Rows8.new _ _ _
  have HB : Hid (Below w.heap.size w W0) := Lib.hid (by rw [hW0]; exact Rows8.newB)
  have h1 := slabB_yes (by simpa [entB] using h : slabB x = true ∧ _).1
  have h2 : y < 1099511627776 := (by simpa [entB] using h : slabB x = true ∧ _).2
  have a0 : IntKind.u64.wrap x = x := by rw [IntKind.wrap_u64]; omega
  have a1 : IntKind.u64.wrap (x + 1) = x + 1 := by rw [IntKind.wrap_u64]; omega
  have a2 : IntKind.u64.wrap (65536 * (y : Int)) = 65536 * (y : Int) := by rw [IntKind.wrap_u64]; omega
  have a3 : IntKind.u64.wrap (x + 1 + 65536 * (y : Int)) = ((packV x y : Nat) : Int) := by rw [IntKind.wrap_u64]; unfold packV; omega
  have c0 : W0.cell? ⟨w.heap.size, 0, none⟩ = some (.int .i64 x) := hr.cell 0
  have c1 : W0.cell? ⟨w.heap.size, 1, none⟩ = some (.int .u64 (y : Nat)) := hr.cell 1
  clear hr h h1 h2
  go_enter Try.func16, Try.ntmps16
  go_upto_region 1 with fail
  rw [← hW0]
  clear hW0
  go_wp2_with fail
  go_ret
  exact ⟨rfl, HB.out⟩
theorem okU_ent (z : Nat) : entB (((z % 65536 : Nat) : Int) - 1) (z / 65536) = okU z := by
  unfold entB okU slabB
  congr 1
  · rw [show decide (0 ≤ ((z % 65536 : Nat) : Int) - 1) = decide (1 ≤ z % 65536) from decide_eq_decide.2 (by omega), show decide (((z % 65536 : Nat) : Int) - 1 < 128) = decide (z % 65536 ≤ 128) from decide_eq_decide.2 (by omega)]
set_option maxHeartbeats 2000000 in
theorem Try.refUnpack_any (z : Nat) (hz : z < 18446744073709551616) (w : World) : Calls Try.prog 18 #[.int .u64 (z : Nat)] w fun e w' => e = .returned (.tuple #[.agg #[.int .i64 ((z % 65536 : Nat) - 1), .int .u64 (z / 65536 : Nat)], .bool (okU z)]) ∧ Below w.heap.size w w' := by
  have hE := fun W => Try.refEntry_any (((z % 65536 : Nat) : Int) - 1) (z / 65536) W
  rw [okU_ent z] at hE
  have hm := Nat.mod_lt z (show 0 < 65536 by decide)
  have hzi : ((z : Int) % 65536) = ((z % 65536 : Nat) : Int) := by omega
  have hzd : ((z : Int) / 65536) = ((z / 65536 : Nat) : Int) := by omega
  have hzt : (z : Int).tmod 65536 = ((z % 65536 : Nat) : Int) := by rw [Int.tmod_eq_emod_of_nonneg (by omega)]; omega
  have hzq : (z : Int).tdiv 65536 = ((z / 65536 : Nat) : Int) := by rw [Int.tdiv_eq_ediv_of_nonneg (by omega)]; omega
  obtain ⟨m, hmz⟩ : ∃ m, m = z % 65536 := ⟨_, rfl⟩
  obtain ⟨g, hgz⟩ : ∃ g, g = z / 65536 := ⟨_, rfl⟩
  obtain ⟨ok, hok⟩ : ∃ b, b = okU z := ⟨_, rfl⟩
  rw [← hmz] at hE hm hzi hzt ⊢
  rw [← hgz] at hE hzd hzq ⊢
  rw [← hok] at hE ⊢
  have hw0 : wrap64 (m : Int) = (m : Int) := IntWalk.wrap64_in _ ⟨by omega, by omega⟩
  have hw0' : IntKind.i64.wrap (m : Int) = (m : Int) := IntWalk.i64_in _ (by omega)
  have hw1 : IntKind.i64.wrap ((m : Int) - 1) = (m : Int) - 1 := IntWalk.i64_in _ (by omega)
  have hw2 : IntKind.u64.wrap (m : Int) = (m : Int) := by rw [IntKind.wrap_u64]; omega
  have hw3 : IntKind.u64.wrap (g : Int) = (g : Int) := by rw [IntKind.wrap_u64]; omega
  have HE := Lib.hid hE
  clear hE hmz hgz hok hz hm
  obtain ⟨W0, hW0⟩ : ∃ W, W = w.alloc (.cells #[.int .i64 0, .int .u64 0] 36) := ⟨_, rfl⟩
  have HT : Hid (Rows8 W0 w.heap.size 36 #[.int .i64 0, .int .u64 0]) := Lib.hid (by rw [hW0]; exact Rows8.new _ _ _)
  have HB : Hid (Below w.heap.size w W0) := Lib.hid (by rw [hW0]; exact Rows8.newB)
  have hs0 : W0.heap.size = w.heap.size + 1 := by rw [hW0]; simp
  obtain ⟨W1, hW1⟩ : ∃ W, W = W0.alloc (.cells #[.int .i64 ((m : Int) - 1), .int .u64 (g : Nat)] 36) := ⟨_, rfl⟩
  have HR : Hid (Rows8 W1 W0.heap.size 36 #[.int .i64 ((m : Int) - 1), .int .u64 (g : Nat)]) := Lib.hid (by rw [hW1]; exact Rows8.new _ _ _)
  have HT := Lib.hid (show Rows8 W1 w.heap.size 36 #[.int .i64 0, .int .u64 0] from by rw [hW1]; exact HT.out.alloc _)
  have HB : Hid (Below w.heap.size w W1) := Lib.hid (by rw [hW1]; exact HB.out.alloc HB.out.size _)
  have HS0 := Lib.hid hs0
  clear hs0
  go_enter Try.func18, Try.ntmps18
  go_upto_region 1 with fail
  rw [← hW0]
  clear hW0
  go_upto_region 2 with fail
  rw [← hW1]
  clear hW1 hzi hzd hzt hzq hw0 hw0' hw1 hw2 hw3
  refine wp_region_X (fun W' => Rows8 W' W0.heap.size 36 #[.int .i64 ((m : Int) - 1), .int .u64 (g : Nat)]) 5 (by kernel_rfl) ?_
  have hC0 : Below W1.heap.size W1 W1.drew := (Below.refl _ _).drew
  have HR := Lib.hid (HR.out.below hC0 HR.out.lt)
  have HT := Lib.hid (HT.out.below hC0 HT.out.lt)
  have HB := Lib.hid (HB.out.trans (hC0.mono HB.out.size))
  clear hC0
  generalize W1.drew = W at *
  refine wpAnyN_take (i := 0) (oi := { dst := some 12, op := Go.Op.load 36 (Go.Operand.tmp 4), type := 36, pos := "ref.go:30", after := #[], guard := none }) (v := .agg #[.int .i64 ((m : Int) - 1), .int .u64 (g : Nat)]) rfl (by decide) (by kernel_rfl) (by kernel_rfl) (by kernel_rfl) (fun _ _ _ h => h) (Or.inl ⟨by rfl, ?_⟩) HR.out ?_
  · intro W9 hS9
    have s0 : W9.cell? ⟨W0.heap.size, 0, none⟩ = some (.int .i64 ((m : Int) - 1)) := hS9.cell 0
    have s1 : W9.cell? ⟨W0.heap.size, 1, none⟩ = some (.int .u64 (g : Nat)) := hS9.cell 1
    clear hS9
    go_simp
  try simp only [Act.put, List.setIfInBounds_toArray, List.set_cons_zero, List.set_cons_succ]
  refine wpAnyN_take (i := 1) (oi := { dst := some 13, op := Go.Op.load 36 (Go.Operand.tmp 4), type := 36, pos := "ref.go:30", after := #[], guard := none }) (v := .agg #[.int .i64 ((m : Int) - 1), .int .u64 (g : Nat)]) rfl (by decide) (by kernel_rfl) (by kernel_rfl) (by kernel_rfl) (fun _ _ _ h => h) (Or.inl ⟨by rfl, ?_⟩) HR.out ?_
  · intro W9 hS9
    have s0 : W9.cell? ⟨W0.heap.size, 0, none⟩ = some (.int .i64 ((m : Int) - 1)) := hS9.cell 0
    have s1 : W9.cell? ⟨W0.heap.size, 1, none⟩ = some (.int .u64 (g : Nat)) := hS9.cell 1
    clear hS9
    go_simp
  try simp only [Act.put, List.setIfInBounds_toArray, List.set_cons_zero, List.set_cons_succ]
  refine wpAnyX_one (i := 2) (o := { dst := some 14, op := Go.Op.call { callee := Go.Callee.value (Go.Operand.func 15), args := #[Go.Operand.tmp 13], argTypes := #[36] }, type := 4, pos := "ref.go:30", after := #[{ on := 1, ground := Go.Ground.data }], guard := none }) (by kernel_rfl) rfl (fun K hK => ?_)
  have HN := HE.out W
  refine step_call_g (by rfl) 15 _ _ rfl (fun _ _ => by kernel_rfl) #[.agg #[.int .i64 ((m : Int) - 1), .int .u64 (g : Nat)]] (by simp [go_sem]) _ HN ?_
  clear HN
  rintro e W2 ⟨rfl, hC⟩
  have HR := Lib.hid (HR.out.below hC HR.out.lt)
  have HT := Lib.hid (HT.out.below hC HT.out.lt)
  have HB := Lib.hid (HB.out.trans (hC.mono HB.out.size))
  clear hC
  refine ⟨_, rfl, ?_⟩
  refine hK.out _ _ (fun _ => HR.out) ?_
  clear hK K
  try simp only [Act.put, List.setIfInBounds_toArray, List.set_cons_zero, List.set_cons_succ]
  have z0 : W2.cell? ⟨w.heap.size, 0, none⟩ = some (.int .i64 0) := HT.out.cell 0
  have z1 : W2.cell? ⟨w.heap.size, 1, none⟩ = some (.int .u64 0) := HT.out.cell 1
  have f0 := HT.out.frozen 0
  have f1 := HT.out.frozen 1
  have l0 := HT.out.lt
  have HT3 := Lib.hid (HT.out.set2 (.int .i64 ((m : Int) - 1)) (.int .u64 (g : Nat)))
  have HR3 := Lib.hid ((HR.out.setOther (a := ⟨w.heap.size, 0, none⟩) (by have := HS0.out; show w.heap.size ≠ _; omega) (.int .i64 ((m : Int) - 1))).setOther (a := ⟨w.heap.size, 1, none⟩) (by have := HS0.out; show w.heap.size ≠ _; omega) (.int .u64 (g : Nat)))
  refine wpAnyX_one (i := 3) (o := { dst := none, op := Go.Op.store 36 (Go.Operand.tmp 2) (Go.Operand.tmp 12), type := 0, pos := "ref.go:30", after := #[{ on := 0, ground := Go.Ground.data }, { on := 2, ground := Go.Ground.chain }, { on := 0, ground := Go.Ground.phase }, { on := 1, ground := Go.Ground.textOnly Go.Departure.lateStores }, { on := 2, ground := Go.Ground.textOnly Go.Departure.lateStoresUnsure }], guard := none }) (by kernel_rfl) rfl (fun K hK => ?_)
  refine step_skip_g (by rfl) (w' := (W2.setCell ⟨w.heap.size, 0, none⟩ (.int .i64 ((m : Int) - 1))).setCell ⟨w.heap.size, 1, none⟩ (.int .u64 (g : Nat))) (by go_simp) ?_
  clear z0 z1 f0 f1 l0
  refine hK.out _ _ (fun _ => HR3.out) ?_
  clear hK K
  try simp only [Act.put]
  refine wpAnyN_take (i := 4) (oi := { dst := some 3, op := Go.Op.assign (Go.Operand.tmp 14), type := 4, pos := "ref.go:30", after := #[{ on := 2, ground := Go.Ground.data }, { on := 3, ground := Go.Ground.chain }, { on := 0, ground := Go.Ground.phase }, { on := 1, ground := Go.Ground.phase }, { on := 2, ground := Go.Ground.phase }, { on := 3, ground := Go.Ground.phase }], guard := none }) (v := .bool ok) rfl (by decide) (by kernel_rfl) (by kernel_rfl) (by kernel_rfl) (fun _ _ _ h => h) (Or.inl ⟨by rfl, ?_⟩) HR3.out ?_
  · intro W9 hS9
    go_simp
  try simp only [Act.put, List.setIfInBounds_toArray, List.set_cons_zero, List.set_cons_succ]
  refine wpAnyX_end (by kernel_rfl) ?_
  go_wp2_with fail
  refine bodyPost_ret (results_ct1 rfl _ _ (w.heap.size) _ _ rfl rfl (load_row HT3.out Try.underlying36 rfl (by kernel_rfl))) rfl ?_
  exact ⟨rfl, (HB.out.setCell (p := ⟨w.heap.size, 0, none⟩) (Nat.le_refl _) _).setCell (p := ⟨w.heap.size, 1, none⟩) (Nat.le_refl _) _⟩
end Go.Proofs
