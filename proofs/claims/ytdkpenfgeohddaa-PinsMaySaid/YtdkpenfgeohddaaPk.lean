/- Pins: own; wakes. -/
import Derived.Test.YtdkpenfgeohddaaPj
namespace Go.Proofs
set_option maxRecDepth 100000
open Go.RowKit Go.Shelf
attribute [local go_sem] Oper.semAt_some

theorem OwnsWords.form {n₀ : Nat} {l : List Int} {v : Value} {W : World} (o : OwnsWords n₀ l v W) : ∃ a c, v = .slice a l.length c := by
  obtain ⟨_, a, cap, h, _⟩ := rowAt_own o
  exact ⟨a, cap, h⟩
theorem OwnsWords.at {n₀ : Nat} {l : List Int} {v : Value} {W : World} (o : OwnsWords n₀ l v W) : WordsAt W v l := rowAt_own o
theorem words_cut {W : World} {a : Option Addr} {n cap : Nat} {ws : List Int} (h : WordsAt W (.slice a n cap) ws) (m : Nat) (hm : m ≤ n) : WordsAt W (.slice a m cap) (ws.take m) := by
  have hn := (wordsAt_len h).1
  subst hn
  have h1 := RowAt.cut h m hm
  unfold WordsAt
  have e : (ws.take m).length = m := by rw [List.length_take]; omega
  rw [e]
  have e2 : wordVals (ws.take m) = (wordVals ws).take (m * 1) := by rw [Nat.mul_one]; simp [wordVals]
  rw [e2]
  exact h1
set_option maxHeartbeats 4000000 in
theorem Try.own_any (E : Int) (a : Option Addr) (n c : Nat) (S : List Int) (w : World) (hI : WordsAt w (.slice a n c) S) :
    Calls Try.prog 9 #[.agg #[.int .u64 E, .slice a n c]] w fun e w' => (∃ b m d, e = .returned (.agg #[.int .u64 E, .slice b m d]) ∧ m ≤ 10 ∧ OwnsWords w.heap.size (S.take 10) (.slice b m d) w') ∧ Below w.heap.size w w' := by
  obtain ⟨hlen, hcm⟩ := wordsAt_len hI
  have hnc : n ≤ c ∧ c ≤ maxLen := by
    obtain ⟨_, a', c', e, h1, h2, _⟩ := hI
    cases e
    exact ⟨h1, h2⟩
  have hreach : c ≤ 9223372036854775807 := by have := hnc.2; unfold maxLen at this; omega
  obtain ⟨W, hW⟩ : ∃ W, W = (w.alloc (.cells #[.int .u64 E, .slice a n c] 25)).alloc (.cells #[.int .u64 0, .slice none 0 0] 25) := ⟨_, rfl⟩
  have hB0 : Below w.heap.size w W := by rw [hW]; exact (Rows8.newB).alloc (by simp) _
  have hA0 : Rows8 W w.heap.size 25 #[.int .u64 E, .slice a n c] := by rw [hW]; exact (Rows8.new _ _ _).alloc _
  have hR0 : Rows8 W (w.heap.size + 1) 25 #[.int .u64 0, .slice none 0 0] := by rw [hW]; exact rows_new2 _ _ _ _
  obtain ⟨m, hm⟩ : ∃ m, m = min n 10 := ⟨_, rfl⟩
  have hmn : m ≤ n := by omega
  have hm10 : m ≤ 10 := by omega
  have htk : S.take m = S.take 10 := by
    rcases Nat.le_total n 10 with h | h
    · rw [List.take_of_length_le (by omega), List.take_of_length_le (by omega)]
    · rw [show m = 10 by omega]
  have hml : m = (S.take 10).length := by rw [List.length_take]; omega
  have HC := fun (X : World) (h : Below w.heap.size w X) => Lib.hid (Try.cloneWords_any a m c (S.take 10) hml (by omega) X (by rw [← htk]; exact words_cut (RowAt.below hI h) m hmn))
  have HB0 := Lib.hid hB0
  have HA0 := Lib.hid hA0
  have HR0 := Lib.hid hR0
  have hmi : min (n : Int) 10 = (m : Int) := by omega
  have hmi2 : (if (n : Int) ≤ 10 then (n : Int) else 10) = (m : Int) := by split <;> omega
  have hmi3 : (if (n : Int) < 10 then (n : Int) else 10) = (m : Int) := by split <;> omega
  have hmi4 : (if (10 : Int) < (n : Int) then (10 : Int) else (n : Int)) = (m : Int) := by split <;> omega
  have hmc : m ≤ c := by omega
  have HML := Lib.hid hml
  clear hB0 hA0 hR0 htk hml hI hlen hm hcm hnc
  go_enter Try.func9, Try.ntmps9
  go_wp2_with fail
  rw [← hW]
  clear hW
  refine wp_region_X (fun W' => Rows8 W' w.heap.size 25 #[.int .u64 E, .slice a n c]) 12 (by kernel_rfl) ?_
  have hS0 : Rows8 W.drew w.heap.size 25 #[.int .u64 E, .slice a n c] := HA0.out.drewA
  have HR1 := Lib.hid HR0.out.drewA
  have HB1 := Lib.hid HB0.out.drew
  clear HA0 HR0 HB0
  generalize W.drew = Wd at *
  refine wpAnyN_take (i := 0) (oi := { dst := some 3, op := Go.Op.fieldAddr 25 (Go.Operand.tmp 1) 0, type := 0, pos := "law.go:24", after := #[], guard := none }) (v := .pointer (some ⟨w.heap.size, 0, none⟩)) rfl (by decide) (by kernel_rfl) (by kernel_rfl) (by kernel_rfl) (fun _ _ _ h => h) (Or.inl ⟨by rfl, ?_⟩) hS0 ?_
  · intro W9 hS9
    clear hS9
    go_simp
  try simp only [Act.put, List.setIfInBounds_toArray, List.set_cons_zero, List.set_cons_succ]
  refine wpAnyN_take (i := 1) (oi := { dst := some 4, op := Go.Op.load 22 (Go.Operand.tmp 3), type := 22, pos := "law.go:24", after := #[{ on := 0, ground := Go.Ground.data }], guard := none }) (v := .int .u64 E) rfl (by decide) (by kernel_rfl) (by kernel_rfl) (by kernel_rfl) (fun _ _ _ h => h) (Or.inl ⟨by rfl, ?_⟩) hS0 ?_
  · intro W9 hS9
    have s0 : W9.cell? ⟨w.heap.size, 0, none⟩ = some (.int .u64 E) := hS9.cell 0
    clear hS9
    go_simp
  try simp only [Act.put, List.setIfInBounds_toArray, List.set_cons_zero, List.set_cons_succ]
  refine wpAnyN_take (i := 2) (oi := { dst := some 5, op := Go.Op.fieldAddr 25 (Go.Operand.tmp 1) 1, type := 0, pos := "law.go:24", after := #[], guard := none }) (v := .pointer (some ⟨w.heap.size, 1, none⟩)) rfl (by decide) (by kernel_rfl) (by kernel_rfl) (by kernel_rfl) (fun _ _ _ h => h) (Or.inl ⟨by rfl, ?_⟩) hS0 ?_
  · intro W9 hS9
    clear hS9
    go_simp
  try simp only [Act.put, List.setIfInBounds_toArray, List.set_cons_zero, List.set_cons_succ]
  refine wpAnyN_take (i := 3) (oi := { dst := some 6, op := Go.Op.load 23 (Go.Operand.tmp 5), type := 23, pos := "law.go:24", after := #[{ on := 2, ground := Go.Ground.data }], guard := none }) (v := .slice a n c) rfl (by decide) (by kernel_rfl) (by kernel_rfl) (by kernel_rfl) (fun _ _ _ h => h) (Or.inl ⟨by rfl, ?_⟩) hS0 ?_
  · intro W9 hS9
    have s1 : W9.cell? ⟨w.heap.size, 1, none⟩ = some (.slice a n c) := hS9.cell 1
    clear hS9
    go_simp
  try simp only [Act.put, List.setIfInBounds_toArray, List.set_cons_zero, List.set_cons_succ]
  refine wpAnyN_take (i := 4) (oi := { dst := some 7, op := Go.Op.fieldAddr 25 (Go.Operand.tmp 1) 1, type := 0, pos := "law.go:24", after := #[], guard := none }) (v := .pointer (some ⟨w.heap.size, 1, none⟩)) rfl (by decide) (by kernel_rfl) (by kernel_rfl) (by kernel_rfl) (fun _ _ _ h => h) (Or.inl ⟨by rfl, ?_⟩) hS0 ?_
  · intro W9 hS9
    clear hS9
    go_simp
  try simp only [Act.put, List.setIfInBounds_toArray, List.set_cons_zero, List.set_cons_succ]
  refine wpAnyN_take (i := 5) (oi := { dst := some 8, op := Go.Op.load 23 (Go.Operand.tmp 7), type := 23, pos := "law.go:24", after := #[{ on := 4, ground := Go.Ground.data }], guard := none }) (v := .slice a n c) rfl (by decide) (by kernel_rfl) (by kernel_rfl) (by kernel_rfl) (fun _ _ _ h => h) (Or.inl ⟨by rfl, ?_⟩) hS0 ?_
  · intro W9 hS9
    have s1 : W9.cell? ⟨w.heap.size, 1, none⟩ = some (.slice a n c) := hS9.cell 1
    clear hS9
    go_simp
  try simp only [Act.put, List.setIfInBounds_toArray, List.set_cons_zero, List.set_cons_succ]
  refine wpAnyN_take (i := 6) (oi := { dst := some 9, op := Go.Op.call { callee := Go.Callee.builtin Go.Builtin.len, args := #[Go.Operand.tmp 8], argTypes := #[23] }, type := 3, pos := "law.go:24", after := #[{ on := 5, ground := Go.Ground.data }], guard := none }) (v := .int .i64 n) rfl (by decide) (by kernel_rfl) (by kernel_rfl) (by kernel_rfl) (fun _ _ _ h => h) (Or.inl ⟨by rfl, ?_⟩) hS0 ?_
  · intro W9 hS9
    clear hS9
    go_simp
  try simp only [Act.put, List.setIfInBounds_toArray, List.set_cons_zero, List.set_cons_succ]
  refine wpAnyN_take (i := 7) (oi := { dst := some 10, op := Go.Op.call { callee := Go.Callee.builtin Go.Builtin.min, args := #[Go.Operand.tmp 9, Go.Operand.const (Go.Value.int Go.IntKind.i64 10)], argTypes := #[3, 3] }, type := 3, pos := "law.go:24", after := #[{ on := 6, ground := Go.Ground.data }], guard := none }) (v := .int .i64 m) rfl (by decide) (by kernel_rfl) (by kernel_rfl) (by kernel_rfl) (fun _ _ _ h => h) (Or.inl ⟨by rfl, ?_⟩) hS0 ?_
  · intro W9 hS9
    clear hS9
    go_simp
  try simp only [Act.put, List.setIfInBounds_toArray, List.set_cons_zero, List.set_cons_succ]
  refine wpAnyN_take (i := 8) (oi := { dst := some 11, op := Go.Op.slice 23 (Go.Operand.tmp 6) none (some (Go.Operand.tmp 10)) none, type := 23, pos := "law.go:24", after := #[{ on := 3, ground := Go.Ground.data }, { on := 7, ground := Go.Ground.data }], guard := none }) (v := .slice a m c) rfl (by decide) (by kernel_rfl) (by kernel_rfl) (by kernel_rfl) (fun _ _ _ h => h) (Or.inl ⟨by rfl, ?_⟩) hS0 ?_
  · intro W9 hS9
    clear hS9
    go_simp
  try simp only [Act.put, List.setIfInBounds_toArray, List.set_cons_zero, List.set_cons_succ]
  refine wpAnyX_one (i := 9) (o := { dst := some 12, op := Go.Op.call { callee := Go.Callee.value (Go.Operand.func 28), args := #[Go.Operand.tmp 11], argTypes := #[23] }, type := 23, pos := "law.go:24", after := #[{ on := 8, ground := Go.Ground.data }], guard := none }) (by kernel_rfl) rfl (fun K hK => ?_)
  refine step_call_g (by rfl) 28 _ _ rfl (fun _ _ => by kernel_rfl) #[.slice a m c] (by simp [go_sem]) _ (HC Wd HB1.out).out ?_
  rintro e w1 ⟨v, rfl, hO, hC⟩
  refine ⟨_, rfl, ?_⟩
  obtain ⟨b, d, hv⟩ := hO.form
  rw [← HML.out] at hv
  subst hv
  have hS1 : Rows8 w1 w.heap.size 25 #[.int .u64 E, .slice a n c] := hS0.below hC hS0.lt
  have HR2 := Lib.hid (HR1.out.below hC HR1.out.lt)
  have HB2 := Lib.hid (HB1.out.trans (hC.mono HB1.out.size))
  have HO2 := Lib.hid (owns_mono hO HB1.out.size)
  clear hC hO HR1 HB1
  refine hK.out _ _ (fun _ => hS1) ?_
  clear hK K
  try simp only [Act.put, List.setIfInBounds_toArray, List.set_cons_zero, List.set_cons_succ]
  refine wpAnyN_take (i := 10) (oi := { dst := some 13, op := Go.Op.build 25 #[(0, Go.Operand.tmp 4), (1, Go.Operand.tmp 12)], type := 25, pos := "law.go:24", after := #[{ on := 1, ground := Go.Ground.data }, { on := 9, ground := Go.Ground.data }], guard := none }) (v := .agg #[.int .u64 E, .slice b m d]) rfl (by decide) (by kernel_rfl) (by kernel_rfl) (by kernel_rfl) (fun _ _ _ h => h) (Or.inl ⟨by rfl, ?_⟩) hS1 ?_
  · intro W9 hS9
    clear hS9
    go_simp
  try simp only [Act.put, List.setIfInBounds_toArray, List.set_cons_zero, List.set_cons_succ]
  refine wpAnyX_one (i := 11) (o := { dst := none, op := Go.Op.store 25 (Go.Operand.tmp 2) (Go.Operand.tmp 13), type := 0, pos := "law.go:24", after := #[{ on := 10, ground := Go.Ground.data }, { on := 9, ground := Go.Ground.chain }, { on := 0, ground := Go.Ground.phase }, { on := 1, ground := Go.Ground.phase }, { on := 2, ground := Go.Ground.phase }, { on := 3, ground := Go.Ground.phase }, { on := 4, ground := Go.Ground.phase }, { on := 5, ground := Go.Ground.phase }, { on := 6, ground := Go.Ground.phase }, { on := 7, ground := Go.Ground.phase }, { on := 8, ground := Go.Ground.phase }, { on := 9, ground := Go.Ground.phase }, { on := 10, ground := Go.Ground.phase }], guard := none }) (by kernel_rfl) rfl (fun K hK => ?_)
  have k0 : w1.cell? ⟨w.heap.size + 1, 0, none⟩ = some (.int .u64 0) := HR2.out.cell 0
  have k1 : w1.cell? ⟨w.heap.size + 1, 1, none⟩ = some (.slice none 0 0) := HR2.out.cell 1
  have f0 := HR2.out.frozen 0
  have f1 := HR2.out.frozen 1
  refine step_skip_g (by rfl) (w' := (w1.setCell ⟨w.heap.size + 1, 0, none⟩ (.int .u64 E)).setCell ⟨w.heap.size + 1, 1, none⟩ (.slice b m d)) (by go_simp) ?_
  have hS2 : Rows8 ((w1.setCell ⟨w.heap.size + 1, 0, none⟩ (.int .u64 E)).setCell ⟨w.heap.size + 1, 1, none⟩ (.slice b m d)) w.heap.size 25 #[.int .u64 E, .slice a n c] := (hS1.setOther (a := ⟨w.heap.size + 1, 0, none⟩) (by simp) _).setOther (a := ⟨w.heap.size + 1, 1, none⟩) (by simp) _
  have HR3 := Lib.hid (HR2.out.set2 (.int .u64 E) (.slice b m d))
  have HO3 := Lib.hid (owns_setT (owns_setT HO2.out (a := ⟨w.heap.size + 1, 0, none⟩) HR2.out (by decide) (.int .u64 E)) (a := ⟨w.heap.size + 1, 1, none⟩) (HR2.out.set 0 (.int .u64 E)) (by decide) (.slice b m d))
  have HB3 := Lib.hid ((HB2.out.setCell (p := ⟨w.heap.size + 1, 0, none⟩) (by simp) (.int .u64 E)).setCell (p := ⟨w.heap.size + 1, 1, none⟩) (by simp) (.slice b m d))
  clear k0 k1 f0 f1
  refine hK.out _ _ (fun _ => hS2) ?_
  clear hK K
  try simp only [Act.put, List.setIfInBounds_toArray, List.set_cons_zero, List.set_cons_succ]
  refine wpAnyX_end (by kernel_rfl) ?_
  go_wp2_with fail
  refine bodyPost_ret (results_c rfl _ _ (w.heap.size + 1) 25 _ (0, 0) _ rfl HR3.out Try.underlying25 rfl (by kernel_rfl)) rfl ?_
  exact ⟨⟨b, m, d, rfl, hm10, HO3.out⟩, HB3.out⟩
/-- A literal row of ops. -/
theorem lit_at (W : World) (l : List Po) (hl : l.length ≤ 100) : PoAt (W.alloc (.cells (poVals l).toArray 44)) (.slice (some ⟨W.heap.size, 0, none⟩) l.length l.length) l := by
  refine ⟨poVals_length l, _, l.length, rfl, Nat.le_refl _, by unfold maxLen; omega, (fun e => by cases e), fun j hj => ⟨W.heap.size, 0, rfl, by simp, ?_⟩⟩
  rw [Nat.zero_add, Rows8.cell (Rows8.new W _ _) j]
  simp
theorem lit_ints (W : World) (l : List Int) (hl : l.length ≤ 100) : IntsAt (W.alloc (.cells (intVals l).toArray 3)) (.slice (some ⟨W.heap.size, 0, none⟩) l.length l.length) l := by
  refine ⟨by rw [intVals_length, Nat.mul_one], _, l.length, rfl, Nat.le_refl _, by unfold maxLen; omega, (fun e => by cases e), fun j hj => ⟨W.heap.size, 0, rfl, by simp, ?_⟩⟩
  rw [Nat.zero_add, Rows8.cell (Rows8.new W _ _) j]
  simp
def ops1 : List Po := [⟨1, 0, 0⟩, ⟨3, 0, 0⟩, ⟨3, 0, 0⟩]
def ops2 : List Po := [⟨2, 0, 0⟩, ⟨3, 0, 0⟩, ⟨1, 1, 2⟩, ⟨3, 0, 0⟩]
theorem wk_run1 : runP 0 [0, 0] ops1 = (0, 1, [1, 0], 1) := by decide +kernel
theorem wk_run2 : runP 1 [1, 0] ops2 = (0, 2, [0, 1], 1) := by decide +kernel
theorem wk_old : oldP 1 [1, 0] = (0, true) := by decide +kernel
theorem wk_do : doP 2 [0, 1] ⟨4, 0, 0⟩ = (2, 0, []) := by decide +kernel
theorem wk_back1 : backP 1 [1, 0] = [0] := by decide +kernel
theorem wk_back2 : backP 2 [0, 1] = [1] := by decide +kernel
theorem wk_right1 : rightN 1 [1, 0] = true := by decide +kernel
theorem wk_right2 : rightN 2 [0, 1] = true := by decide +kernel
theorem okW_of {S : List Int} (h : S.all (fun z => decide (0 ≤ z ∧ z < 18446744073709551616)) = true) : okW S := by
  intro z hz
  have := List.all_eq_true.1 h z hz
  exact of_decide_eq_true this
theorem wk_new : newN 2 = (0, 0, [0, 0]) := by decide +kernel
theorem lit1 (W : World) : PoAt (W.alloc (.cells #[.int .i64 1, .int .i64 0, .int .u64 0, .int .i64 3, .int .i64 0, .int .u64 0, .int .i64 3, .int .i64 0, .int .u64 0] 44)) (.slice (some ⟨W.heap.size, 0, none⟩) 3 3) ops1 := lit_at W ops1 (by decide)
theorem lit2 (W : World) : PoAt (W.alloc (.cells #[.int .i64 2, .int .i64 0, .int .u64 0, .int .i64 3, .int .i64 0, .int .u64 0, .int .i64 1, .int .i64 1, .int .u64 2, .int .i64 3, .int .i64 0, .int .u64 0] 44)) (.slice (some ⟨W.heap.size, 0, none⟩) 4 4) ops2 := lit_at W ops2 (by decide)
theorem liti (W : World) (z : Int) : IntsAt (W.alloc (.cells #[.int .i64 z] 3)) (.slice (some ⟨W.heap.size, 0, none⟩) 1 1) [z] := lit_ints W [z] (by simp)
theorem OwnsInts.form {n₀ : Nat} {l : List Int} {v : Value} {W : World} (o : OwnsInts n₀ l v W) : ∃ a c, v = .slice a l.length c := by
  obtain ⟨_, a, cap, h, _⟩ := rowAt_own o
  exact ⟨a, cap, h⟩
set_option maxHeartbeats 16000000 in
theorem Try.wakes_any (w : World) : Calls Try.prog 8 #[] w fun e w' => e = .returned (.bool true) ∧ Below w.heap.size w w' := by
  have k00 : Okp 0 [0, 0] := ⟨by decide, okW_of (by decide +kernel)⟩
  have k10 : Okp 1 [1, 0] := ⟨by decide, okW_of (by decide +kernel)⟩
  have k01 : Okp 2 [0, 1] := ⟨by decide, okW_of (by decide +kernel)⟩
  have HN := Lib.hid (show Calls _ _ _ w (fun e w' => (∃ v, e = .returned (.tuple #[.agg #[.int .u64 0, v], .int .i64 0]) ∧ OwnsWords w.heap.size [0, 0] v w') ∧ Below w.heap.size w w') from by have h1 := Try.NewP_any 2 w; rw [wk_new] at h1; exact h1)
  have HR1 := fun (W : World) (a : Option Addr) (c : Nat) (q : Option Addr) (h : WordsAt W (.slice a 2 c) [0, 0]) (h2 : PoAt W (.slice q 3 3) ops1) => Lib.hid (show Calls _ _ _ W (fun e w' => (∃ v, e = .returned (.tuple #[.agg #[.int .u64 1, v], .int .i64 1, .int .i64 0]) ∧ OwnsWords W.heap.size [1, 0] v w') ∧ Below W.heap.size W w') from by have h1 := Try.RunP_any 0 a 2 c [0, 0] q 3 3 ops1 W h k00 h2 (by decide) (by decide); rw [wk_run1] at h1; exact h1)
  have HO := fun (W : World) (a : Option Addr) (c : Nat) (h : WordsAt W (.slice a 2 c) [1, 0]) => Lib.hid (show Calls _ _ _ W (fun e w' => e = .returned (.tuple #[.int .u64 0, .bool true]) ∧ Below W.heap.size W w') from by have h1 := Try.OldestP_any 1 (by decide) a 2 c [1, 0] k10.s W h; rw [wk_old] at h1; exact h1)
  have HR2 := fun (W : World) (a : Option Addr) (c : Nat) (q : Option Addr) (h : WordsAt W (.slice a 2 c) [1, 0]) (h2 : PoAt W (.slice q 4 4) ops2) => Lib.hid (show Calls _ _ _ W (fun e w' => (∃ v, e = .returned (.tuple #[.agg #[.int .u64 2, v], .int .i64 1, .int .i64 0]) ∧ OwnsWords W.heap.size [0, 1] v w') ∧ Below W.heap.size W w') from by have h1 := Try.RunP_any 1 a 2 c [1, 0] q 4 4 ops2 W h k10 h2 (by decide) (by decide); rw [wk_run2] at h1; exact h1)
  have HD := fun (W : World) (a : Option Addr) (c : Nat) (h : WordsAt W (.slice a 2 c) [0, 1]) => Lib.hid (show Calls _ 23 #[.agg #[.int .u64 2, .slice a 2 c], .agg #[.int .i64 4, .int .i64 0, .int .u64 0]] W (fun e w' => (∃ v, e = .returned (.tuple #[.agg #[.int .u64 0, v], .int .i64 2]) ∧ OwnsWords W.heap.size [] v w') ∧ Below W.heap.size W w') from by have h1 := Try.DoP_any 2 a 2 c [0, 1] ⟨4, 0, 0⟩ W h k01 (by decide); rw [wk_do] at h1; exact h1)
  have HB1 := fun (W : World) (a : Option Addr) (c : Nat) (h : WordsAt W (.slice a 2 c) [1, 0]) => Lib.hid (show Calls _ _ _ W (IntsQ [0] W) from by have h1 := Try.BackP_any 1 (by decide) a 2 c [1, 0] k10.s W h; rw [wk_back1] at h1; exact h1)
  have HB2 := fun (W : World) (a : Option Addr) (c : Nat) (h : WordsAt W (.slice a 2 c) [0, 1]) => Lib.hid (show Calls _ _ _ W (IntsQ [1] W) from by have h1 := Try.BackP_any 2 (by decide) a 2 c [0, 1] k01.s W h; rw [wk_back2] at h1; exact h1)
  have HS1 := fun (W : World) (a : Option Addr) (c : Nat) (h : WordsAt W (.slice a 2 c) [1, 0]) => Lib.hid (show Calls _ _ _ W (fun e w' => e = .returned (.bool false) ∧ Below W.heap.size W w') from Try.SafeP_any 1 0 (by decide) (by decide) a 2 c [1, 0] W h)
  have HS2 := fun (W : World) (a : Option Addr) (c : Nat) (h : WordsAt W (.slice a 2 c) [0, 1]) => Lib.hid (show Calls _ _ _ W (fun e w' => e = .returned (.bool true) ∧ Below W.heap.size W w') from Try.SafeP_any 2 0 (by decide) (by decide) a 2 c [0, 1] W h)
  have HEQ := fun (W : World) (a b : Option Addr) (c d : Nat) (z : Int) (h : IntsAt W (.slice a 1 c) [z]) (h2 : IntsAt W (.slice b 1 d) [z]) => Lib.hid (show Calls _ _ _ W (fun e w' => e = .returned (.bool true) ∧ Below W.heap.size W w') from by have h1 := Try.equalInts_any a b 1 1 c d [z] [z] rfl rfl (by decide) (by decide) W h h2; rw [decide_eq_true rfl] at h1; exact h1)
  clear k00 k10 k01
  go_enter Try.func8, Try.ntmps8
  go_wp2_with fail
  refine HN.out.mono ?_
  rintro e w1 ⟨⟨v, rfl, hO⟩, hB⟩
  obtain ⟨a0, d0, hv⟩ := hO.form
  replace hv : v = .slice a0 2 d0 := hv
  subst hv
  have hal : Below w1.heap.size w1 (w1.alloc (.cells #[.int .u64 0, .slice a0 2 d0] 25)) := Rows8.newB
  have P1 := Lib.hid (Rows8.new w1 25 #[.int .u64 0, .slice a0 2 d0])
  have B1 := Lib.hid (hB.trans (hal.mono hB.size))
  have O1 : Hid (OwnsWords w.heap.size [0, 0] (.slice a0 2 d0) (w1.alloc (.cells #[.int .u64 0, .slice a0 2 d0] 25))) := Lib.hid (owns_keep hO hal (Nat.le_refl _))
  have hwb := hB.size
  clear hO hB hal HN
  go_upto_region 2 with fail
  generalize (w1.alloc (.cells #[.int .u64 0, .slice a0 2 d0] 25)) = u1 at *
  have l1 : w1.heap.size < u1.heap.size := P1.out.lt
  obtain ⟨bp, hbp⟩ : ∃ b, b = w1.heap.size := ⟨_, rfl⟩
  rw [← hbp] at P1 l1 ⊢
  rw [← hbp] at hwb
  clear hbp
  have e0 : u1.cell? ⟨bp, 0, none⟩ = some (.int .u64 0) := P1.out.cell 0
  have e1 : u1.cell? ⟨bp, 1, none⟩ = some (.slice a0 2 d0) := P1.out.cell 1
  have hal : Below u1.heap.size u1 (u1.alloc (.cells #[.int .i64 1, .int .i64 0, .int .u64 0, .int .i64 3, .int .i64 0, .int .u64 0, .int .i64 3, .int .i64 0, .int .u64 0] 44)) := Rows8.newB
  have HRl := HR1 _ a0 d0 _ (RowAt.below O1.out.at hal) (lit1 u1)
  have P2 := Lib.hid (P1.out.below hal l1)
  have B2 := Lib.hid (B1.out.trans (hal.mono B1.out.size))
  clear hal P1 B1 O1 HR1
  go_wp2_with fail
  refine HRl.out.mono ?_
  rintro e w2 ⟨⟨v, rfl, hO⟩, hB⟩
  obtain ⟨a1, d1, hv⟩ := hO.form
  replace hv : v = .slice a1 2 d1 := hv
  subst hv
  have p3 := P2.out.below hB P2.out.lt
  have e2 : w2.cell? ⟨bp, 0, none⟩ = some (.int .u64 0) := p3.cell 0
  have e3 : w2.cell? ⟨bp, 1, none⟩ = some (.slice a0 2 d0) := p3.cell 1
  have f0 := p3.frozen 0
  have f1 := p3.frozen 1
  have P4 := Lib.hid (p3.set2 (.int .u64 1) (.slice a1 2 d1))
  have O4 : Hid (OwnsWords w.heap.size [1, 0] (.slice a1 2 d1) _) := Lib.hid (owns_setT (owns_setT (owns_mono hO B2.out.size) (a := ⟨bp, 0, none⟩) p3 (by decide) (.int .u64 1)) (a := ⟨bp, 1, none⟩) (p3.set 0 (.int .u64 1)) (by decide) (.slice a1 2 d1))
  have B4 := Lib.hid (((B2.out.trans (hB.mono B2.out.size)).setCell (p := ⟨bp, 0, none⟩) hwb (.int .u64 1)).setCell (p := ⟨bp, 1, none⟩) hwb (.slice a1 2 d1))
  have l2 : bp < w2.heap.size := p3.lt
  clear hO hB p3 HRl P2 B2 e0 e1 l1
  go_upto_region 3 with fail
  generalize ((w2.setCell ⟨bp, 0, none⟩ (.int .u64 1)).setCell ⟨bp, 1, none⟩ (.slice a1 2 d1)) = u2 at *
  clear e2 e3 f0 f1 l2
  have l2 : bp < u2.heap.size := P4.out.lt
  have e0 : u2.cell? ⟨bp, 0, none⟩ = some (.int .u64 1) := P4.out.cell 0
  have e1 : u2.cell? ⟨bp, 1, none⟩ = some (.slice a1 2 d1) := P4.out.cell 1
  have HOl := HO u2 a1 d1 O4.out.at
  clear HO
  go_wp2_with fail
  refine HOl.out.mono ?_
  rintro e w3 ⟨rfl, hB⟩
  have P5 := Lib.hid (P4.out.below hB l2)
  have O5 : Hid (OwnsWords w.heap.size [1, 0] (.slice a1 2 d1) w3) := Lib.hid (owns_keep O4.out hB (Nat.le_refl _))
  have B5 := Lib.hid (B4.out.trans (hB.mono B4.out.size))
  clear hB HOl P4 O4 B4 e0 e1 l2
  go_upto_region 4 with fail
  have l3 : bp < w3.heap.size := P5.out.lt
  have e0 : w3.cell? ⟨bp, 0, none⟩ = some (.int .u64 1) := P5.out.cell 0
  have e1 : w3.cell? ⟨bp, 1, none⟩ = some (.slice a1 2 d1) := P5.out.cell 1
  have hal : Below w3.heap.size w3 (w3.alloc (.cells #[.int .i64 2, .int .i64 0, .int .u64 0, .int .i64 3, .int .i64 0, .int .u64 0, .int .i64 1, .int .i64 1, .int .u64 2, .int .i64 3, .int .i64 0, .int .u64 0] 44)) := Rows8.newB
  have HRl := HR2 _ a1 d1 _ (RowAt.below O5.out.at hal) (lit2 w3)
  have P6 := Lib.hid (P5.out.below hal l3)
  have O6 : Hid (OwnsWords w.heap.size [1, 0] (.slice a1 2 d1) _) := Lib.hid (owns_keep O5.out hal (Nat.le_refl _))
  have B6 := Lib.hid (B5.out.trans (hal.mono B5.out.size))
  clear hal P5 O5 B5 HR2
  go_wp2_with fail
  refine HRl.out.mono ?_
  rintro e w4 ⟨⟨v, rfl, hO⟩, hB⟩
  obtain ⟨a2, d2, hv⟩ := hO.form
  replace hv : v = .slice a2 2 d2 := hv
  subst hv
  have hal : Below w4.heap.size w4 (w4.alloc (.cells #[.int .u64 2, .slice a2 2 d2] 25)) := Rows8.newB
  have p7 := P6.out.below hB P6.out.lt
  have P7 := Lib.hid (p7.below hal p7.lt)
  have Q7 := Lib.hid (Rows8.new w4 25 #[.int .u64 2, .slice a2 2 d2])
  have b7 := B6.out.trans (hB.mono B6.out.size)
  have O7 : Hid (OwnsWords w.heap.size [1, 0] (.slice a1 2 d1) (w4.alloc (.cells #[.int .u64 2, .slice a2 2 d2] 25))) := Lib.hid (owns_keep (owns_keep O6.out hB (Nat.le_refl _)) hal (Nat.le_refl _))
  have U7 : Hid (OwnsWords w.heap.size [0, 1] (.slice a2 2 d2) (w4.alloc (.cells #[.int .u64 2, .slice a2 2 d2] 25))) := Lib.hid (owns_keep (owns_mono hO B6.out.size) hal (Nat.le_refl _))
  have B7 := Lib.hid (b7.trans (hal.mono b7.size))
  clear hO hB p7 b7 hal HRl P6 O6 B6 e0 e1 l3
  go_upto_region 5 with fail
  generalize (w4.alloc (.cells #[.int .u64 2, .slice a2 2 d2] 25)) = u4 at *
  have l4 : w4.heap.size < u4.heap.size := Q7.out.lt
  obtain ⟨bq, hbq⟩ : ∃ b, b = w4.heap.size := ⟨_, rfl⟩
  rw [← hbq] at Q7 l4 ⊢
  clear hbq
  have e0 : u4.cell? ⟨bq, 0, none⟩ = some (.int .u64 2) := Q7.out.cell 0
  have e1 : u4.cell? ⟨bq, 1, none⟩ = some (.slice a2 2 d2) := Q7.out.cell 1
  have HDl := HD u4 a2 d2 U7.out.at
  clear HD
  go_wp2_with fail
  refine HDl.out.mono ?_
  rintro e w5 ⟨⟨v, rfl, hO⟩, hB⟩
  obtain ⟨a3, d3, hv⟩ := hO.form
  replace hv : v = .slice a3 0 d3 := hv
  subst hv
  have hal : Below w5.heap.size w5 (w5.alloc (.cells #[.int .u64 0, .slice a3 0 d3] 25)) := Rows8.newB
  have hB8 := hB.trans (hal.mono hB.size)
  have P8 := Lib.hid (P7.out.below hB8 P7.out.lt)
  have Q8 := Lib.hid (Q7.out.below hB8 Q7.out.lt)
  have O8 : Hid (OwnsWords w.heap.size [1, 0] (.slice a1 2 d1) (w5.alloc (.cells #[.int .u64 0, .slice a3 0 d3] 25))) := Lib.hid (owns_keep O7.out hB8 (Nat.le_refl _))
  have U8 : Hid (OwnsWords w.heap.size [0, 1] (.slice a2 2 d2) (w5.alloc (.cells #[.int .u64 0, .slice a3 0 d3] 25))) := Lib.hid (owns_keep U7.out hB8 (Nat.le_refl _))
  have B8 := Lib.hid (B7.out.trans (hB8.mono B7.out.size))
  clear hO hB hB8 hal HDl P7 Q7 O7 U7 B7 e0 e1 l4
  go_upto_region 6 with fail
  generalize (w5.alloc (.cells #[.int .u64 0, .slice a3 0 d3] 25)) = x0 at *
  have e0 : x0.cell? ⟨bp, 0, none⟩ = some (.int .u64 1) := P8.out.cell 0
  have e1 : x0.cell? ⟨bp, 1, none⟩ = some (.slice a1 2 d1) := P8.out.cell 1
  have g0 : x0.cell? ⟨bq, 0, none⟩ = some (.int .u64 2) := Q8.out.cell 0
  have g1 : x0.cell? ⟨bq, 1, none⟩ = some (.slice a2 2 d2) := Q8.out.cell 1
  have l5 := P8.out.lt
  have l6 := Q8.out.lt
  have HL := HB1 x0 a1 d1 O8.out.at
  clear HB1
  go_wp2_with fail
  refine HL.out.mono ?_
  rintro e x1 ⟨v, rfl, hO, hB⟩
  obtain ⟨ai, di, hv⟩ := hO.form
  replace hv : v = .slice ai 1 di := hv
  subst hv
  have hal : Below x1.heap.size x1 (x1.alloc (.cells #[.int .i64 0] 3)) := Rows8.newB
  have HE := HEQ _ _ _ di 1 0 (RowAt.below (show IntsAt x1 (.slice ai 1 di) [0] from rowAt_own hO) hal) (liti x1 0)
  replace hB := hB.trans (hal.mono hB.size)
  clear hO hal HL
  clear e0 e1 g0 g1 l5 l6
  have P9 := Lib.hid (P8.out.below hB P8.out.lt)
  have Q9 := Lib.hid (Q8.out.below hB Q8.out.lt)
  have O9 : Hid (OwnsWords w.heap.size [1, 0] (.slice a1 2 d1) (x1.alloc (.cells #[.int .i64 0] 3))) := Lib.hid (owns_keep O8.out hB (Nat.le_refl _))
  have U9 : Hid (OwnsWords w.heap.size [0, 1] (.slice a2 2 d2) (x1.alloc (.cells #[.int .i64 0] 3))) := Lib.hid (owns_keep U8.out hB (Nat.le_refl _))
  have B9 := Lib.hid (B8.out.trans (hB.mono B8.out.size))
  clear hB P8 Q8 O8 U8 B8
  go_wp2_with fail
  refine HE.out.mono ?_
  rintro e x3 ⟨rfl, hB⟩
  clear HE
  have P10 := Lib.hid (P9.out.below hB P9.out.lt)
  have Q10 := Lib.hid (Q9.out.below hB Q9.out.lt)
  have O10 : Hid (OwnsWords w.heap.size [1, 0] (.slice a1 2 d1) x3) := Lib.hid (owns_keep O9.out hB (Nat.le_refl _))
  have U10 : Hid (OwnsWords w.heap.size [0, 1] (.slice a2 2 d2) x3) := Lib.hid (owns_keep U9.out hB (Nat.le_refl _))
  have B10 := Lib.hid (B9.out.trans (hB.mono B9.out.size))
  clear hB P9 Q9 O9 U9 B9
  have e0 : x3.cell? ⟨bp, 0, none⟩ = some (.int .u64 1) := P10.out.cell 0
  have e1 : x3.cell? ⟨bp, 1, none⟩ = some (.slice a1 2 d1) := P10.out.cell 1
  have g0 : x3.cell? ⟨bq, 0, none⟩ = some (.int .u64 2) := Q10.out.cell 0
  have g1 : x3.cell? ⟨bq, 1, none⟩ = some (.slice a2 2 d2) := Q10.out.cell 1
  have l5 := P10.out.lt
  have l6 := Q10.out.lt
  have HL := HS1 x3 a1 d1 O10.out.at
  clear HS1
  go_wp2_with fail
  refine HL.out.mono ?_
  rintro e x4 ⟨rfl, hB⟩
  clear HL
  clear e0 e1 g0 g1 l5 l6
  have P11 := Lib.hid (P10.out.below hB P10.out.lt)
  have Q11 := Lib.hid (Q10.out.below hB Q10.out.lt)
  have O11 : Hid (OwnsWords w.heap.size [1, 0] (.slice a1 2 d1) x4) := Lib.hid (owns_keep O10.out hB (Nat.le_refl _))
  have U11 : Hid (OwnsWords w.heap.size [0, 1] (.slice a2 2 d2) x4) := Lib.hid (owns_keep U10.out hB (Nat.le_refl _))
  have B11 := Lib.hid (B10.out.trans (hB.mono B10.out.size))
  clear hB P10 Q10 O10 U10 B10
  have e0 : x4.cell? ⟨bp, 0, none⟩ = some (.int .u64 1) := P11.out.cell 0
  have e1 : x4.cell? ⟨bp, 1, none⟩ = some (.slice a1 2 d1) := P11.out.cell 1
  have g0 : x4.cell? ⟨bq, 0, none⟩ = some (.int .u64 2) := Q11.out.cell 0
  have g1 : x4.cell? ⟨bq, 1, none⟩ = some (.slice a2 2 d2) := Q11.out.cell 1
  have l5 := P11.out.lt
  have l6 := Q11.out.lt
  have HL := HS2 x4 a2 d2 U11.out.at
  clear HS2
  go_wp2_with fail
  refine HL.out.mono ?_
  rintro e x5 ⟨rfl, hB⟩
  clear HL
  clear e0 e1 g0 g1 l5 l6
  have P12 := Lib.hid (P11.out.below hB P11.out.lt)
  have Q12 := Lib.hid (Q11.out.below hB Q11.out.lt)
  have O12 : Hid (OwnsWords w.heap.size [1, 0] (.slice a1 2 d1) x5) := Lib.hid (owns_keep O11.out hB (Nat.le_refl _))
  have U12 : Hid (OwnsWords w.heap.size [0, 1] (.slice a2 2 d2) x5) := Lib.hid (owns_keep U11.out hB (Nat.le_refl _))
  have B12 := Lib.hid (B11.out.trans (hB.mono B11.out.size))
  clear hB P11 Q11 O11 U11 B11
  have e0 : x5.cell? ⟨bp, 0, none⟩ = some (.int .u64 1) := P12.out.cell 0
  have e1 : x5.cell? ⟨bp, 1, none⟩ = some (.slice a1 2 d1) := P12.out.cell 1
  have g0 : x5.cell? ⟨bq, 0, none⟩ = some (.int .u64 2) := Q12.out.cell 0
  have g1 : x5.cell? ⟨bq, 1, none⟩ = some (.slice a2 2 d2) := Q12.out.cell 1
  have l5 := P12.out.lt
  have l6 := Q12.out.lt
  have HL := HB2 x5 a2 d2 U12.out.at
  clear HB2
  go_wp2_with fail
  refine HL.out.mono ?_
  rintro e x6 ⟨v, rfl, hO, hB⟩
  obtain ⟨ai, di, hv⟩ := hO.form
  replace hv : v = .slice ai 1 di := hv
  subst hv
  have hal : Below x6.heap.size x6 (x6.alloc (.cells #[.int .i64 1] 3)) := Rows8.newB
  have HE := HEQ _ _ _ di 1 1 (RowAt.below (show IntsAt x6 (.slice ai 1 di) [1] from rowAt_own hO) hal) (liti x6 1)
  replace hB := hB.trans (hal.mono hB.size)
  clear hO hal HL
  clear e0 e1 g0 g1 l5 l6
  have P13 := Lib.hid (P12.out.below hB P12.out.lt)
  have Q13 := Lib.hid (Q12.out.below hB Q12.out.lt)
  have O13 : Hid (OwnsWords w.heap.size [1, 0] (.slice a1 2 d1) (x6.alloc (.cells #[.int .i64 1] 3))) := Lib.hid (owns_keep O12.out hB (Nat.le_refl _))
  have U13 : Hid (OwnsWords w.heap.size [0, 1] (.slice a2 2 d2) (x6.alloc (.cells #[.int .i64 1] 3))) := Lib.hid (owns_keep U12.out hB (Nat.le_refl _))
  have B13 := Lib.hid (B12.out.trans (hB.mono B12.out.size))
  clear hB P12 Q12 O12 U12 B12
  go_wp2_with fail
  refine HE.out.mono ?_
  rintro e x8 ⟨rfl, hB⟩
  clear HE
  have P14 := Lib.hid (P13.out.below hB P13.out.lt)
  have Q14 := Lib.hid (Q13.out.below hB Q13.out.lt)
  have O14 : Hid (OwnsWords w.heap.size [1, 0] (.slice a1 2 d1) x8) := Lib.hid (owns_keep O13.out hB (Nat.le_refl _))
  have U14 : Hid (OwnsWords w.heap.size [0, 1] (.slice a2 2 d2) x8) := Lib.hid (owns_keep U13.out hB (Nat.le_refl _))
  have B14 := Lib.hid (B13.out.trans (hB.mono B13.out.size))
  clear hB P13 Q13 O13 U13 B13
  go_wp2_with fail
  go_ret
  exact ⟨rfl, B14.out⟩
end Go.Proofs
